import Derived.Test.YtnapnhmmopajfaaGreatJ30
import Derived.Test.YtnapnhmmopajfaaGreatJ09
/-
  THE DOCUMENT's DEQUE: a move.
-/
namespace Go.Proofs.YtnapnhmmopajfaaGreat.Rd
open Go.RowKit Mr Me Ma Gm Dm
set_option linter.unusedVariables false
set_option linter.unusedSimpArgs false
def mvv (th op arg data : Int) : Value := .agg #[.int .i64 th, .int .i64 op, .int .i64 arg, .int .i64 data]
section
variable {W0 W : World} {U0 : Nat → Prop} {q : Rc} {s : Rs} {P : Pg Dt Lw}
theorem OutR.below (h : OutR W0 U0 q s W) {W' : World} (hB : Below W.heap.size W W') : OutR W0 U0 q s W' := by
  obtain ⟨a1, a2, a3, a4, a5, a6, a7⟩ := h
  refine ⟨a1, a2, a3, a4.below hB, a5, a6, ⟨hB.os.trans a7.os, hB.tape.trans a7.tape, hB.output.trans a7.output, Nat.le_trans a7.size hB.size, fun k hk1 hk2 => (hB.block k (by have := a7.size; omega)).trans (a7.block k hk1 hk2)⟩⟩
/-- What is given of a machine. -/
structure Gm2 (W0 : World) (U0 : Nat → Prop) (q : Rc) (s : Rs) (W : World) (P : Pg Dt Lw) : Prop where
  o : OutR W0 U0 q s W
  sm : Sm P s
  n : s.n = P.n
  iv : Iv q.r P
  bd : Bd P
theorem Gm2.nt (G : Gm2 W0 U0 q s W P) : P.pts.length = q.nt := by
  obtain ⟨_, _, _, hR, _⟩ := G.o
  rw [← G.sm.ln, hR.tn]
theorem Gm2.below (G : Gm2 W0 U0 q s W P) {W' : World} (hB : Below W.heap.size W W') : Gm2 W0 U0 q s W' P := ⟨G.o.below hB, G.sm, G.n, G.iv, G.bd⟩
/-- What a move leaves. -/
def Dm2 (W0 : World) (U0 : Nat → Prop) (q : Rc) (n : Nat) (Q : Pg Dt Lw) (b : Bool) (e : Ending) (w' : World) : Prop :=
  e = .returned (.bool b) ∧ ∃ s', OutR W0 U0 q s' w' ∧ s'.n = n ∧ Sm Q s'
theorem mv_cells (W : World) (th op arg data : Int) : (W.alloc (mvO th op arg data)).cell? ⟨W.heap.size, 0, none⟩ = some (.int .i64 th) ∧ (W.alloc (mvO th op arg data)).cell? ⟨W.heap.size, 1, none⟩ = some (.int .i64 op) ∧ (W.alloc (mvO th op arg data)).cell? ⟨W.heap.size, 2, none⟩ = some (.int .i64 arg) ∧ (W.alloc (mvO th op arg data)).cell? ⟨W.heap.size, 3, none⟩ = some (.int .i64 data) := by
  have h := heap_alloc_new W (mvO th op arg data)
  unfold mvO at h ⊢
  exact ⟨cell_at h 0, cell_at h 1, cell_at h 2, cell_at h 3⟩
set_option maxRecDepth 100000 in
set_option maxHeartbeats 1000000 in
theorem move_out (G : Gm2 W0 U0 q s W P) (th op arg data : Int) (hx : th < 0 ∨ (q.nt : Int) ≤ th) :
    Calls Tryz.prog 25 #[.pointer (some ⟨q.b, 0, none⟩), .agg #[.int .i64 th, .int .i64 op, .int .i64 arg, .int .i64 data]] W (Dm2 W0 U0 q P.n P.count false) := by
  have G1 := G.below ((Below.refl _ W).alloc (Nat.le_refl _) (mvO th op arg data))
  obtain ⟨x0, x1, x2, x3⟩ := mv_cells W th op arg data
  obtain ⟨c0, c1, c2, c3, c6, c7, c8, fb, ft, fw⟩ := G1.o.b0
  have hl : q.b < W.heap.size := by obtain ⟨_, _, _, hR, _⟩ := G.o; exact hR.lt
  unfold mvO at x0 x1 x2 x3 c0 c1 c2 c3 c6 c7 c8 fb ft fw
  replace G := Mr.hid G
  replace G1 := Mr.hid G1
  by_cases hn : th < 0
  · have d1 : decide (th < 0) = true := by simp; exact hn
    go_enter Tryz.func25, Tryz.ntmps25
    go_wp2
    go_ret
    exact ⟨rfl, s, G1.out.o, G.out.n, G.out.sm.count⟩
  · have d1 : decide (th < 0) = false := by simp; omega
    have d2 : decide ((q.nt : Int) ≤ th) = true := by simp; omega
    go_enter Tryz.func25, Tryz.ntmps25
    go_wp2
    go_ret
    exact ⟨rfl, s, G1.out.o, G.out.n, G.out.sm.count⟩
theorem OutR.boxed (G : Gm2 W0 U0 q s W P) (th op arg data : Int) {W1 : World} (e : W1 = W.alloc (mvO th op arg data)) : Gm2 W0 U0 q s W1 P ∧ W1.cell? ⟨W.heap.size, 0, none⟩ = some (.int .i64 th) ∧ W1.cell? ⟨W.heap.size, 1, none⟩ = some (.int .i64 op) ∧ W1.cell? ⟨W.heap.size, 2, none⟩ = some (.int .i64 arg) ∧ W1.cell? ⟨W.heap.size, 3, none⟩ = some (.int .i64 data) ∧ q.b < W.heap.size ∧ q.gt < W.heap.size := by
  subst e
  obtain ⟨_, _, _, hR, _⟩ := G.o
  exact ⟨G.below ((Below.refl _ W).alloc (Nat.le_refl _) _), (mv_cells W th op arg data).1, (mv_cells W th op arg data).2.1, (mv_cells W th op arg data).2.2.1, (mv_cells W th op arg data).2.2.2, hR.lt, hR.gtl.2⟩
set_option maxRecDepth 100000 in
set_option maxHeartbeats 1000000 in
theorem move_idle0 (G : Gm2 W0 U0 q s W P) (i : Nat) (arg data : Int) (t : Pt Dt) (ht : P.pts[i]? = some t) (hk : t.tk = none) :
    Calls Tryz.prog 25 #[.pointer (some ⟨q.b, 0, none⟩), .agg #[.int .i64 (i : Int), .int .i64 0, .int .i64 arg, .int .i64 data]] W (Dm2 W0 U0 q P.n P.count false) := by
  obtain ⟨u, hu, hT⟩ := G.sm.th i t ht
  unfold TR at hT; rw [hk] at hT
  have hin : i < q.nt := by rw [← G.nt]; exact (List.getElem?_eq_some_iff.1 ht).1
  obtain ⟨G1, x0, x1, x2, x3, l1, l2⟩ := OutR.boxed G i 0 arg data rfl
  obtain ⟨c0, c1, c2, c3, c6, c7, c8, fb, ft, fw⟩ := G1.o.b0
  obtain ⟨t0, _⟩ := G1.o.ts hu
  rw [hT] at t0
  have d1 : decide ((i : Int) < 0) = false := by simp
  have d2 : decide ((q.nt : Int) ≤ (i : Int)) = false := by simp; omega
  unfold mvO at x0 x1 x2 x3 c0 c1 c2 c3 c6 c7 c8 fb ft fw t0
  replace G := Mr.hid G
  replace G1 := Mr.hid G1
  clear ht hk hu hT
  go_enter Tryz.func25, Tryz.ntmps25
  go_wp2
  go_ret
  exact ⟨rfl, s, G1.out.o, G.out.n, G.out.sm.count⟩
set_option maxRecDepth 100000 in
set_option maxHeartbeats 1000000 in
theorem move_busyN (G : Gm2 W0 U0 q s W P) (i : Nat) (op arg data : Int) (hop : op ≠ 0) (t : Pt Dt) (ht : P.pts[i]? = some t) (hk : t.tk.isSome = true) :
    Calls Tryz.prog 25 #[.pointer (some ⟨q.b, 0, none⟩), .agg #[.int .i64 (i : Int), .int .i64 op, .int .i64 arg, .int .i64 data]] W (Dm2 W0 U0 q P.n P.count false) := by
  obtain ⟨u, hu, hT⟩ := G.sm.th i t ht
  obtain ⟨k, hk⟩ := Option.isSome_iff_exists.1 hk
  unfold TR at hT; rw [hk] at hT
  obtain ⟨c, cl, e1, e2, e3, e4⟩ := hT
  have hin : i < q.nt := by rw [← G.nt]; exact (List.getElem?_eq_some_iff.1 ht).1
  obtain ⟨G1, x0, x1, x2, x3, l1, l2⟩ := OutR.boxed G i op arg data rfl
  obtain ⟨c0, c1, c2, c3, c6, c7, c8, fb, ft, fw⟩ := G1.o.b0
  obtain ⟨t0, _⟩ := G1.o.ts hu
  rw [e2] at t0
  have d1 : decide ((i : Int) < 0) = false := by simp
  have d2 : decide ((q.nt : Int) ≤ (i : Int)) = false := by simp; omega
  have d3 : decide ((0 : Int) ≤ (c : Int)) = true := by simp
  have d4 : (op == 0) = false := by simp; exact hop
  unfold mvO at x0 x1 x2 x3 c0 c1 c2 c3 c6 c7 c8 fb ft fw t0
  replace G := Mr.hid G
  replace G1 := Mr.hid G1
  clear ht hk hu e1 e2 e3 e4
  go_enter Tryz.func25, Tryz.ntmps25
  go_wp2
  go_ret
  exact ⟨rfl, s, G1.out.o, G.out.n, G.out.sm.count⟩
set_option maxRecDepth 100000 in
set_option maxHeartbeats 1000000 in
theorem move_step (G : Gm2 W0 U0 q s W P) (hlt : P.n < 65536) (i : Nat) (arg data : Int) (t : Pt Dt) (ht : P.pts[i]? = some t) (k : Dt) (hk : t.tk = some k) :
    Calls Tryz.prog 25 #[.pointer (some ⟨q.b, 0, none⟩), .agg #[.int .i64 (i : Int), .int .i64 0, .int .i64 arg, .int .i64 data]] W (Dm2 W0 U0 q P.n (P.count.stepE i t P.n (stp q.r t.fr i P.n P.ws P.g k)) true) := by
  obtain ⟨u, hu, hT⟩ := G.sm.th i t ht
  unfold TR at hT; rw [hk] at hT
  obtain ⟨c, cl, e1, e2, e3, e4⟩ := hT
  have hin : i < q.nt := by rw [← G.nt]; exact (List.getElem?_eq_some_iff.1 ht).1
  obtain ⟨G1, x0, x1, x2, x3, l1, l2⟩ := OutR.boxed G i 0 arg data rfl
  obtain ⟨c0, c1, c2, c3, c6, c7, c8, fb, ft, fw⟩ := G1.o.b0
  obtain ⟨t0, _⟩ := G1.o.ts hu
  rw [e2] at t0
  have d1 : decide ((i : Int) < 0) = false := by simp
  have d2 : decide ((q.nt : Int) ≤ (i : Int)) = false := by simp; omega
  have d3 : decide ((0 : Int) ≤ (c : Int)) = true := by simp
  have C := step_r (t := t) (c := c) (cl := cl) (u := u) ⟨G1.o, G1.sm, G1.n, G1.iv, G1.bd, hlt, ht, e1, e3, hu, e2⟩ hk e4
  unfold mvO at x0 x1 x2 x3 c0 c1 c2 c3 c6 c7 c8 fb ft fw t0 C
  generalize P.count.stepE i t P.n (stp q.r t.fr i P.n P.ws P.g k) = Q at *
  replace G := Mr.hid G
  replace G1 := Mr.hid G1
  replace C := Mr.hid C
  clear ht hk hu e1 e2 e3 e4
  go_enter Tryz.func25, Tryz.ntmps25
  go_wp2_with (go_at_call 40; refine C.out.mono ?_; clear C; rintro e w1 ⟨rfl, hq⟩; replace hq := Mr.hid hq)
  go_ret
  exact ⟨rfl, hq.out⟩
end
end Go.Proofs.YtnapnhmmopajfaaGreat.Rd
/-
  THE DOCUMENT's DEQUE: a call begins, or is refused (made by mk_rdbeg.py).
-/
namespace Go.Proofs.YtnapnhmmopajfaaGreat.Rd
open Go.RowKit Mr Me Ma Gm Dm
set_option linter.unusedVariables false
set_option linter.unusedSimpArgs false
section
variable {W0 W : World} {U0 U : Nat → Prop} {q : Rc} {vc vl : Value} {s : Rs} {P : Pg Dt Lw}
set_option maxRecDepth 100000 in
set_option maxHeartbeats 1000000 in
theorem refuse_90 (G : Gm2 W0 U0 q s W P) (i : Nat) (arg data : Int) (hi : i ≠ 0) (t : Pt Dt) (ht : P.pts[i]? = some t) (hk : t.tk = none) :
    Calls Tryz.prog 25 #[.pointer (some ⟨q.b, 0, none⟩), .agg #[.int .i64 (i : Int), .int .i64 90, .int .i64 arg, .int .i64 data]] W (Dm2 W0 U0 q P.n P.count false) := by
  obtain ⟨u, hu, hT⟩ := G.sm.th i t ht
  unfold TR at hT; rw [hk] at hT
  have hin : i < q.nt := by rw [← G.nt]; exact (List.getElem?_eq_some_iff.1 ht).1
  obtain ⟨G1, x0, x1, x2, x3, l1, l2⟩ := OutR.boxed G i 90 arg data rfl
  obtain ⟨c0, c1, c2, c3, c6, c7, c8, fb, ft, fw⟩ := G1.o.b0
  obtain ⟨t0, t1, t2, t3, t4⟩ := G1.o.ts hu
  rw [hT] at t0
  have d1 : decide ((i : Int) < 0) = false := by simp
  have d2 : decide ((q.nt : Int) ≤ (i : Int)) = false := by simp; omega
  have d5 : ((i : Int) == 0) = false := by simp; omega
  have d6 : (i == 0) = false := by simp; omega
  unfold mvO at x0 x1 x2 x3 c0 c1 c2 c3 c6 c7 c8 fb ft fw t0
  replace G := Mr.hid G
  replace G1 := Mr.hid G1
  clear ht hk hu hT
  go_enter Tryz.func25, Tryz.ntmps25
  go_wp2
  go_ret
  exact ⟨rfl, s, G1.out.o, G.out.n, G.out.sm.count⟩
set_option maxRecDepth 100000 in
set_option maxHeartbeats 1000000 in
theorem refuse_91 (G : Gm2 W0 U0 q s W P) (i : Nat) (arg data : Int) (hi : i ≠ 0) (t : Pt Dt) (ht : P.pts[i]? = some t) (hk : t.tk = none) :
    Calls Tryz.prog 25 #[.pointer (some ⟨q.b, 0, none⟩), .agg #[.int .i64 (i : Int), .int .i64 91, .int .i64 arg, .int .i64 data]] W (Dm2 W0 U0 q P.n P.count false) := by
  obtain ⟨u, hu, hT⟩ := G.sm.th i t ht
  unfold TR at hT; rw [hk] at hT
  have hin : i < q.nt := by rw [← G.nt]; exact (List.getElem?_eq_some_iff.1 ht).1
  obtain ⟨G1, x0, x1, x2, x3, l1, l2⟩ := OutR.boxed G i 91 arg data rfl
  obtain ⟨c0, c1, c2, c3, c6, c7, c8, fb, ft, fw⟩ := G1.o.b0
  obtain ⟨t0, t1, t2, t3, t4⟩ := G1.o.ts hu
  rw [hT] at t0
  have d1 : decide ((i : Int) < 0) = false := by simp
  have d2 : decide ((q.nt : Int) ≤ (i : Int)) = false := by simp; omega
  have d5 : ((i : Int) == 0) = false := by simp; omega
  have d6 : (i == 0) = false := by simp; omega
  unfold mvO at x0 x1 x2 x3 c0 c1 c2 c3 c6 c7 c8 fb ft fw t0
  replace G := Mr.hid G
  replace G1 := Mr.hid G1
  clear ht hk hu hT
  go_enter Tryz.func25, Tryz.ntmps25
  go_wp2
  go_ret
  exact ⟨rfl, s, G1.out.o, G.out.n, G.out.sm.count⟩
set_option maxRecDepth 100000 in
set_option maxHeartbeats 1000000 in
theorem refuse_no (G : Gm2 W0 U0 q s W P) (i : Nat) (arg data : Int) (op : Int) (h0 : op ≠ 0) (h1 : op ≠ 90) (h2 : op ≠ 91) (h3 : op ≠ 92) (t : Pt Dt) (ht : P.pts[i]? = some t) (hk : t.tk = none) :
    Calls Tryz.prog 25 #[.pointer (some ⟨q.b, 0, none⟩), .agg #[.int .i64 (i : Int), .int .i64 op, .int .i64 arg, .int .i64 data]] W (Dm2 W0 U0 q P.n P.count false) := by
  obtain ⟨u, hu, hT⟩ := G.sm.th i t ht
  unfold TR at hT; rw [hk] at hT
  have hin : i < q.nt := by rw [← G.nt]; exact (List.getElem?_eq_some_iff.1 ht).1
  obtain ⟨G1, x0, x1, x2, x3, l1, l2⟩ := OutR.boxed G i op arg data rfl
  obtain ⟨c0, c1, c2, c3, c6, c7, c8, fb, ft, fw⟩ := G1.o.b0
  obtain ⟨t0, t1, t2, t3, t4⟩ := G1.o.ts hu
  rw [hT] at t0
  have d1 : decide ((i : Int) < 0) = false := by simp
  have d2 : decide ((q.nt : Int) ≤ (i : Int)) = false := by simp; omega
  have d5 : (op == 0) = false := by simp; exact h0
  have d6 : (op == 90) = false := by simp; exact h1
  have d7 : (op == 91) = false := by simp; exact h2
  have d8 : (op == 92) = false := by simp; exact h3
  unfold mvO at x0 x1 x2 x3 c0 c1 c2 c3 c6 c7 c8 fb ft fw t0
  replace G := Mr.hid G
  replace G1 := Mr.hid G1
  clear ht hk hu hT
  go_enter Tryz.func25, Tryz.ntmps25
  go_wp2
  go_ret
  exact ⟨rfl, s, G1.out.o, G.out.n, G.out.sm.count⟩
theorem Rm.called (h : Rm W U q vc vl s) {w0 w1 : World} (hB : Below W.heap.size W w0) {v' : Value} {x : Cl} {n : Nat} (hn : n = s.cls.length + 1)
    (hown : Has w1 (fun k => U k ∨ (W.heap.size ≤ k ∧ k < w1.heap.size)) 61 9 v' n (clc s.cls ++ x.cells)) (hgrow : w0.grownBy w1 vc.ownBlock) :
    Rm (w1.setCell ⟨q.b, 4, none⟩ v') (fun k => U k ∨ (W.heap.size ≤ k ∧ k < w1.heap.size)) q v' vl { s with cls := s.cls ++ [x] } ∧ Fr W (w1.setCell ⟨q.b, 4, none⟩ v') U := by
  subst hn
  have hbl : vc.ownBlock ≠ some q.b := not_row h.bx h.cl (by decide)
  have hb := h.grow1 hB hgrow hbl
  have hb' : v'.ownBlock ≠ some q.b := not_row hb hown (by decide)
  have hs : w0.heap.size ≤ w1.heap.size := hgrow.size
  have hs0 := hB.size
  have f : ∀ {e sz n : Nat} {v : Value} {xs : List Value}, Has W U e sz v n xs → e ≠ 61 → v.ownBlock ≠ some q.b → Has (w1.setCell ⟨q.b, 4, none⟩ v') (fun k => U k ∨ (W.heap.size ≤ k ∧ k < w1.heap.size)) e sz v n xs := fun hv hne hb2 => (((hv.below hB).grown hgrow (fun k hk e => has_ne hv h.cl hne k hk e)).setCell _ _ hb2).mono (fun _ => .inl)
  refine ⟨⟨?_, f h.wd (by decide) (not_row h.bx h.wd (by decide)), h.wn, f h.th (by decide) (not_row h.bx h.th (by decide)), h.tn, ?_, f h.lg (by decide) (not_row h.bx h.lg (by decide)), .inl h.ub, fun k hk => ?_⟩, ?_⟩
  · unfold Rc.box at hb ⊢
    rw [setBlk hb]
    rfl
  · have e : (s.cls ++ [x]).length = s.cls.length + 1 := by simp
    have e2 : clc (s.cls ++ [x]) = clc s.cls ++ x.cells := by simp [clc]
    show Has _ _ _ 9 v' (s.cls ++ [x]).length _
    rw [e, e2]
    exact hown.setCell _ _ hb'
  · have hz : (w1.setCell ⟨q.b, 4, none⟩ v').heap.size = w1.heap.size := by simp [World.setCell]
    rw [hz]
    rcases hk with hk | hk
    · have := h.ul k hk; omega
    · exact hk.2
  · exact ((Fr.of_below hB).grown hgrow (fun k hk => .inl (h.cl.lt k hk).1)).setCell _ _ (.inl h.ub)
theorem OutR.appC (h : OutR W0 U0 q s W) : ∃ (a : Option Addr) (cap : Nat) (U : Nat → Prop), W.cell? ⟨q.b, 4, none⟩ = some (.slice a s.cls.length cap) ∧ s.cls.length ≤ cap ∧
    Hid (∀ (w0 : World), Below W.heap.size W w0 → Has w0 (fun k => U k ∨ W.heap.size ≤ k) 61 9 (.slice a s.cls.length cap) s.cls.length (clc s.cls)) ∧
    Hid (∀ (p : Obj) (w1 : World) (hgrow : (W.alloc p).drew.grownBy w1 (Value.slice a s.cls.length cap).ownBlock) (k : Nat) (cs : Array Value) (ty : TypeId), W.heap[k]? = some (.cells cs ty (0, 0)) → ty ≠ 61 → w1.heap[k]? = some (.cells cs ty (0, 0))) ∧
    Hid (∀ (p : Obj) (w1 : World) (g cap' : Nat) (y : Cl) (hown : Has w1 (fun k => U k ∨ W.heap.size ≤ k) 61 9 (.slice (some ⟨g, 0, none⟩) (s.cls.length + 1) cap') (s.cls.length + 1) (clc s.cls ++ y.cells)) (hgrow : (W.alloc p).drew.grownBy w1 (Value.slice a s.cls.length cap).ownBlock),
      (w1.cell? ⟨q.b, 4, none⟩ = some (.slice a s.cls.length cap) ∧ w1.frozen? ⟨q.b, 4, none⟩ = false) ∧ Hid (OutR W0 U0 q { s with cls := s.cls ++ [y] } (w1.setCell ⟨q.b, 4, none⟩ (.slice (some ⟨g, 0, none⟩) (s.cls.length + 1) cap')))) := by
  obtain ⟨vc, vl, U, hR, g1, g2, g3⟩ := h
  obtain ⟨_, c4, _, _⟩ := hR.cells
  obtain ⟨a, cap, hv, hle⟩ := hR.cl.form
  subst hv
  have hB1 : ∀ p, Below W.heap.size W (W.alloc p).drew := fun p => Below.drew ((Below.refl _ _).alloc (Nat.le_refl _) p)
  have hbl : (Value.slice a s.cls.length cap).ownBlock ≠ some q.b := not_row hR.bx hR.cl (by decide)
  refine ⟨a, cap, U, c4, hle, Mr.hid (fun w0 B => (hR.cl.below B).mono (fun _ => .inl)), Mr.hid (fun p w1 hgrow k cs ty hk hty => ?_), Mr.hid (fun p w1 g cap' y hown hgrow => ?_)⟩
  · have hkl : k < W.heap.size := (Array.getElem?_eq_some_iff.1 hk).1
    have e1 := (hB1 p).block _ hkl
    exact (hgrow.block _ (by have := (hB1 p).size; omega) (fun e => not_row hk hR.cl hty e.symm)).trans (e1.trans hk)
  have kb := hR.grow1 (hB1 p) hgrow hbl
  unfold Rc.box at kb
  obtain ⟨r1, r2⟩ := hR.called (hB1 p) rfl (hown.kept (fun _ _ => rfl) (fun k hk => by
    have := hown.lt k hk
    rcases this.1 with e | e
    · exact .inl e
    · exact .inr ⟨e, this.2⟩)) hgrow
  exact ⟨⟨by simp [World.cell?, kb], by simp [World.frozen?, kb]⟩, Mr.hid (OutR.next r1 g1 g2 g3 (fun _ hk => .inl hk) (fun k hk => by rcases hk with hk | hk; exact .inl hk; exact .inr (by omega)) r2)⟩
set_option maxRecDepth 100000 in
set_option maxHeartbeats 4000000 in
theorem begin_90 (G : Gm2 W0 U0 q s W P) (hlt : P.n < 65536) (i : Nat) (arg data : Int) (hi : i = 0) (hw : Wd arg) (t : Pt Dt) (ht : P.pts[i]? = some t) (hk : t.tk = none) :
    Calls Tryz.prog 25 #[.pointer (some ⟨q.b, 0, none⟩), .agg #[.int .i64 (i : Int), .int .i64 90, .int .i64 arg, .int .i64 data]] W (Dm2 W0 U0 q P.n { P.count with cls := P.cls ++ [⟨i, 90, arg, data, P.n, -1, -1, 0, 0⟩], pts := P.pts.set i ⟨some (.push 1 arg 0), true, (P.cls.length : Int), 0, 0⟩ } true) := by
  obtain ⟨i0, hi0, hz0, hz1, hz2⟩ := info_parts info_call
  obtain ⟨u, hu, hT⟩ := G.sm.th i t ht
  unfold TR at hT; rw [hk] at hT
  have hin : i < q.nt := by rw [← G.nt]; exact (List.getElem?_eq_some_iff.1 ht).1
  obtain ⟨G1, x0, x1, x2, x3, l1, l2⟩ := OutR.boxed G i 90 arg data rfl
  obtain ⟨c0, c1, c2, c3, c6, c7, c8, fb, ft, fw⟩ := G1.o.b0
  obtain ⟨t0, t1, t2, t3, t4⟩ := G1.o.ts hu
  rw [hT] at t0
  have d1 : decide ((i : Int) < 0) = false := by simp
  have d2 : decide ((q.nt : Int) ≤ (i : Int)) = false := by simp; omega
  have d5 : ((i : Int) == 0) = true := by simp; omega
  have d6 : (i == 0) = true := by simp; omega
  replace hi := Mr.hid hi
  have fin : ∀ s', s'.ws = s.ws → s'.lg = s.lg → s'.dn = s.dn ∧ s'.la = s.la → s'.ths = s.ths.set i ⟨s.cls.length, 1, 0, 0, 0⟩ → s'.cls = s.cls ++ [⟨i, 90, arg, data, P.n, -1, -1, 0, 0⟩] → Sm { P.count with cls := P.cls ++ [⟨i, 90, arg, data, P.n, -1, -1, 0, 0⟩], pts := P.pts.set i ⟨some (.push 1 arg 0), true, (P.cls.length : Int), 0, 0⟩ } s' := fun s' h1 h2 h3 h4 h5 => G.sm.begins ht 90 arg data P.n (.push 1 arg 0) _ h1 h2 h3 h4 h5 rfl ⟨rfl, rfl, hw, rfl, fun h => absurd h (by decide)⟩
  have hcl : s.cls.length ≤ 65536 := by rw [G.sm.cls]; have := G.bd.cls; omega
  have hW1 : ∃ W1, W1 = W.alloc (mvO i 90 arg data) := ⟨_, rfl⟩
  obtain ⟨W1, hW1⟩ := hW1
  obtain ⟨G2, z0, z1, z2, z3, _, _⟩ := OutR.boxed G i 90 arg data hW1
  obtain ⟨b0, b1, b2, b3, b6, b7, b8, gb, gt, gw⟩ := G2.o.b0
  obtain ⟨a4, cap4, _, b4, _, _, _, _⟩ := G2.o.appC
  have y0 := G2.o
  obtain ⟨v0, v1, v2, v3, v4⟩ := G2.o.ts hu
  rw [hT] at v0
  obtain ⟨n1, n2, n3, n4, n5, n6⟩ := y0.neq
  have y1 := y0.setT (t' := ⟨s.cls.length, u.line, u.b, u.t, u.v⟩) hu 0 (by decide) (u := .int .i64 (s.cls.length : Int)) rfl
  have y2 := y1.setT (t' := ⟨s.cls.length, 1, u.b, u.t, u.v⟩) (set_at _ hu) 1 (by decide) (u := .int .i64 1) rfl
  have y3 := y2.setT (t' := ⟨s.cls.length, 1, 0, u.t, u.v⟩) (set_at _ (set_at _ hu)) 2 (by decide) (u := .int .i64 0) rfl
  have y4 := y3.setT (t' := ⟨s.cls.length, 1, 0, 0, u.v⟩) (set_at _ (set_at _ (set_at _ hu))) 3 (by decide) (u := .int .i64 0) rfl
  have y5 := y4.setT (t' := ⟨s.cls.length, 1, 0, 0, 0⟩) (set_at _ (set_at _ (set_at _ (set_at _ hu)))) 4 (by decide) (u := .int .i64 0) rfl
  simp only [List.set_set] at y5
  clear y0 y1 y2 y3 y4
  obtain ⟨W2, hW2⟩ : ∃ W2, (((((W1.setCell ⟨q.gt, i * 5, none⟩ (.int .i64 (s.cls.length : Int))).setCell ⟨q.gt, i * 5 + 1, none⟩ (.int .i64 1)).setCell ⟨q.gt, i * 5 + 2, none⟩ (.int .i64 0)).setCell ⟨q.gt, i * 5 + 3, none⟩ (.int .i64 0)).setCell ⟨q.gt, i * 5 + 4, none⟩ (.int .i64 0)).drew = W2 := ⟨_, rfl⟩
  have y6 : OutR W0 U0 q { s with ths := s.ths.set i ⟨s.cls.length, 1, 0, 0, 0⟩ } W2 := by rw [← hW2]; exact OutR.eqv y5 rfl rfl rfl rfl
  have ng : W.heap.size ≠ q.gt := by omega
  have zh : W2.heap[W.heap.size]? = some (.cells #[.int .i64 (i : Int), .int .i64 90, .int .i64 arg, .int .i64 data] 27 (0, 0)) := by
    rw [← hW2]
    show (World.setCell _ _ _).heap[_]? = _
    rw [Below.heap_setCell _ _ _ _ ng, Below.heap_setCell _ _ _ _ ng, Below.heap_setCell _ _ _ _ ng, Below.heap_setCell _ _ _ _ ng, Below.heap_setCell _ _ _ _ ng, hW1]
    exact heap_alloc_new W _
  have zz : ∀ j, W2.cell? ⟨W.heap.size, j, none⟩ = #[Value.int .i64 (i : Int), .int .i64 90, .int .i64 arg, .int .i64 data][j]? := fun j => cell_at zh j
  have r0 := zz 0
  have r1 := zz 1
  have r2 := zz 2
  have r3 := zz 3
  obtain ⟨a, cap, U, f4, hle, law, KP, FN⟩ := y6.appC
  obtain ⟨f0, f1, f2, f3, f6, f7, f8, fgb, fgt, fgw⟩ := y6.b0
  have lb2 : q.b < W2.heap.size := by obtain ⟨_, _, _, hR, _⟩ := y6; exact hR.lt
  have lw2 : W.heap.size < W2.heap.size := by rw [← hW2]; simp only [World.drew, World.setCell]; rw [hW1]; simp
  obtain ⟨vcx, vlx, hbx⟩ : ∃ vcx vlx, W2.heap[q.b]? = some (q.box vcx vlx s.n s.dn s.la) := by obtain ⟨_, _, _, hR, _⟩ := y6; exact ⟨_, _, hR.bx⟩
  have KS : Hid (∀ (p : Obj) (w1 : World) (hgrow : (W2.alloc p).drew.grownBy w1 (Value.slice a s.cls.length cap).ownBlock), w1.cell? ⟨q.b, 6, none⟩ = some (.int .i64 s.n) ∧ w1.cell? ⟨W.heap.size, 1, none⟩ = some (.int .i64 90) ∧ w1.cell? ⟨W.heap.size, 2, none⟩ = some (.int .i64 arg) ∧ w1.cell? ⟨W.heap.size, 3, none⟩ = some (.int .i64 data)) := Mr.hid (fun p w1 hgrow => by
    have k1 := KP.out p w1 hgrow _ _ _ hbx (by decide)
    have k2 := KP.out p w1 hgrow _ _ _ zh (by decide)
    exact ⟨cell_at k1 6, cell_at k2 1, cell_at k2 2, cell_at k2 3⟩)
  have nbm : q.b ≠ W.heap.size := by omega
  clear y6 y5 zz zh hbx KP
  replace hW2 := Mr.hid hW2
  replace G := Mr.hid G
  have b4o : (W.alloc (mvO i 90 arg data)).cell? ⟨q.b, 4, none⟩ = some (.slice a4 s.cls.length cap4) := hW1 ▸ b4
  replace G1 := Mr.hid G1
  replace G2 := Mr.hid G2
  replace fin := Mr.hid fin
  unfold mvO at hW1 x0 x1 x2 x3 c0 c1 c2 c3 c6 c7 c8 fb ft fw t0 b4o
  clear t1 t2 t3 t4
  replace hW1 := Mr.hid hW1
  clear ht hk hu hT
  go_enter Tryz.func25, Tryz.ntmps25
  go_wp2
  rw [← hW1.out]
  clear x0 x1 x2 x3 c0 c1 c2 c3 c6 c7 c8 fb ft fw t0 b4o
  go_region_held3 (fun w' => w'.cell? ⟨q.b, 2, none⟩ = some (.slice (some ⟨q.gw, 0, none⟩) (2 + q.r) q.cw) ∧ w'.cell? ⟨q.b, 3, none⟩ = some (.slice (some ⟨q.gt, 0, none⟩) q.nt q.ct) ∧ w'.cell? ⟨q.b, 4, none⟩ = some (.slice a4 s.cls.length cap4)) (go_keep) (fail)
  go_wp2
  rw [hW2.out]
  clear b0 b1 b2 b3 b6 b7 b8 gb gt gw b4 z0 z1 z2 z3 v0 v1 v2 v3 v4
  have hS2 : (W2.drew.alloc (.cells #[.int .i64 i, .int .i64 90, .int .i64 arg, .int .i64 data, .int .i64 s.n, .int .i64 (-1), .int .i64 (-1), .int .i64 0, .int .i64 0] 61)).cell? ⟨q.b, 6, none⟩ = some (.int .i64 s.n) ∧ (W2.drew.alloc (.cells #[.int .i64 i, .int .i64 90, .int .i64 arg, .int .i64 data, .int .i64 s.n, .int .i64 (-1), .int .i64 (-1), .int .i64 0, .int .i64 0] 61)).cell? ⟨W.heap.size, 1, none⟩ = some (.int .i64 90) ∧ (W2.drew.alloc (.cells #[.int .i64 i, .int .i64 90, .int .i64 arg, .int .i64 data, .int .i64 s.n, .int .i64 (-1), .int .i64 (-1), .int .i64 0, .int .i64 0] 61)).cell? ⟨W.heap.size, 2, none⟩ = some (.int .i64 arg) ∧ (W2.drew.alloc (.cells #[.int .i64 i, .int .i64 90, .int .i64 arg, .int .i64 data, .int .i64 s.n, .int .i64 (-1), .int .i64 (-1), .int .i64 0, .int .i64 0] 61)).cell? ⟨W.heap.size, 3, none⟩ = some (.int .i64 data) := ⟨(World.cell?_alloc_past _ _ _ lb2).trans f6, (World.cell?_alloc_past _ _ _ lw2).trans r1, (World.cell?_alloc_past _ _ _ lw2).trans r2, (World.cell?_alloc_past _ _ _ lw2).trans r3⟩
  have f4d : W2.drew.cell? ⟨q.b, 4, none⟩ = some (.slice a s.cls.length cap) := f4
  have f4e : (W2.drew.alloc (.cells #[.int .i64 i, .int .i64 90, .int .i64 arg, .int .i64 data, .int .i64 s.n, .int .i64 (-1), .int .i64 (-1), .int .i64 0, .int .i64 0] 61)).cell? ⟨q.b, 4, none⟩ = some (.slice a s.cls.length cap) := (World.cell?_alloc_past _ _ _ lb2).trans f4
  refine wp_region_held_drew (S := (fun w' => w'.cell? ⟨q.b, 6, none⟩ = some (.int .i64 s.n) ∧ w'.cell? ⟨W.heap.size, 1, none⟩ = some (.int .i64 90) ∧ w'.cell? ⟨W.heap.size, 2, none⟩ = some (.int .i64 arg) ∧ w'.cell? ⟨W.heap.size, 3, none⟩ = some (.int .i64 data))) (by kernel_rfl) ⟨f6, r1, r2, r3⟩ (fun hHeld => ?_)
  try simp only [Act.put, List.setIfInBounds_toArray, List.set_cons_zero, List.set_cons_succ]
  refine wpAnyH_take (i := 0) (oi := (⟨_, _, _, _, _, _⟩ : Oper)) (v := ?_) rfl (by kernel_rfl) (by kernel_rfl) (by kernel_rfl) (fun _ _ _ h => h) (Or.inl ⟨by rfl, ?_⟩) (by assumption) ?_
  rotate_left
  · intro w9 hSw
    (try dsimp only at hSw)
    go_simp
    all_goals (with_reducible rfl)
  try simp only [Act.put, List.setIfInBounds_toArray, List.set_cons_zero, List.set_cons_succ]
  refine wpAnyH_take (i := 1) (oi := (⟨_, _, _, _, _, _⟩ : Oper)) (v := ?_) rfl (by kernel_rfl) (by kernel_rfl) (by kernel_rfl) (fun _ _ _ h => h) (Or.inl ⟨by rfl, ?_⟩) (by assumption) ?_
  rotate_left
  · intro w9 hSw
    (try dsimp only at hSw)
    go_simp
    all_goals (with_reducible rfl)
  try simp only [Act.put, List.setIfInBounds_toArray, List.set_cons_zero, List.set_cons_succ]
  refine wpAnyH_take (i := 2) (oi := (⟨_, _, _, _, _, _⟩ : Oper)) (v := ?_) rfl (by kernel_rfl) (by kernel_rfl) (by kernel_rfl) (fun _ _ _ h => h) (Or.inl ⟨by rfl, ?_⟩) (by assumption) ?_
  rotate_left
  · intro w9 hSw
    (try dsimp only at hSw)
    go_simp
    all_goals (with_reducible rfl)
  try simp only [Act.put, List.setIfInBounds_toArray, List.set_cons_zero, List.set_cons_succ]
  refine wpAnyH_take (i := 3) (oi := (⟨_, _, _, _, _, _⟩ : Oper)) (v := ?_) rfl (by kernel_rfl) (by kernel_rfl) (by kernel_rfl) (fun _ _ _ h => h) (Or.inl ⟨by rfl, ?_⟩) (by assumption) ?_
  rotate_left
  · intro w9 hSw
    (try dsimp only at hSw)
    go_simp
    all_goals (with_reducible rfl)
  try simp only [Act.put, List.setIfInBounds_toArray, List.set_cons_zero, List.set_cons_succ]
  refine wpAnyH_take (i := 5) (oi := (⟨_, _, _, _, _, _⟩ : Oper)) (v := ?_) rfl (by kernel_rfl) (by kernel_rfl) (by kernel_rfl) (fun _ _ _ h => h) (Or.inl ⟨by rfl, ?_⟩) (by assumption) ?_
  rotate_left
  · intro w9 hSw
    (try dsimp only at hSw)
    go_simp
    all_goals (with_reducible rfl)
  try simp only [Act.put, List.setIfInBounds_toArray, List.set_cons_zero, List.set_cons_succ]
  refine wpAnyH_take (i := 6) (oi := (⟨_, _, _, _, _, _⟩ : Oper)) (v := ?_) rfl (by kernel_rfl) (by kernel_rfl) (by kernel_rfl) (fun _ _ _ h => h) (Or.inl ⟨by rfl, ?_⟩) (by assumption) ?_
  rotate_left
  · intro w9 hSw
    (try dsimp only at hSw)
    go_simp
    all_goals (with_reducible rfl)
  try simp only [Act.put, List.setIfInBounds_toArray, List.set_cons_zero, List.set_cons_succ]
  refine wpAnyH_take (i := 7) (oi := (⟨_, _, _, _, _, _⟩ : Oper)) (v := ?_) rfl (by kernel_rfl) (by kernel_rfl) (by kernel_rfl) (fun _ _ _ h => h) (Or.inl ⟨by rfl, ?_⟩) (by assumption) ?_
  rotate_left
  · intro w9 hSw
    (try dsimp only at hSw)
    go_simp
    all_goals (with_reducible rfl)
  try simp only [Act.put, List.setIfInBounds_toArray, List.set_cons_zero, List.set_cons_succ]
  refine wpAnyH_take (i := 8) (oi := (⟨_, _, _, _, _, _⟩ : Oper)) (v := ?_) rfl (by kernel_rfl) (by kernel_rfl) (by kernel_rfl) (fun _ _ _ h => h) (Or.inl ⟨by rfl, ?_⟩) (by assumption) ?_
  rotate_left
  · intro w9 hSw
    (try dsimp only at hSw)
    go_simp
    all_goals (with_reducible rfl)
  try simp only [Act.put, List.setIfInBounds_toArray, List.set_cons_zero, List.set_cons_succ]
  refine wpAnyH_take (i := 9) (oi := (⟨_, _, _, _, _, _⟩ : Oper)) (v := ?_) rfl (by kernel_rfl) (by kernel_rfl) (by kernel_rfl) (fun _ _ _ h => h) (Or.inl ⟨by rfl, ?_⟩) (by assumption) ?_
  rotate_left
  · intro w9 hSw
    (try dsimp only at hSw)
    go_simp
    all_goals (with_reducible rfl)
  try simp only [Act.put, List.setIfInBounds_toArray, List.set_cons_zero, List.set_cons_succ]
  refine wpAnyH_take (i := 10) (oi := (⟨_, _, _, _, _, _⟩ : Oper)) (v := ?_) rfl (by kernel_rfl) (by kernel_rfl) (by kernel_rfl) (fun _ _ _ h => h) (Or.inl ⟨by rfl, ?_⟩) (by assumption) ?_
  rotate_left
  · intro w9 hSw
    (try dsimp only at hSw)
    go_simp
    all_goals (with_reducible rfl)
  try simp only [Act.put, List.setIfInBounds_toArray, List.set_cons_zero, List.set_cons_succ]
  refine wpAnyH_take (i := 11) (oi := (⟨_, _, _, _, _, _⟩ : Oper)) (v := ?_) rfl (by kernel_rfl) (by kernel_rfl) (by kernel_rfl) (fun _ _ _ h => h) (Or.inl ⟨by rfl, ?_⟩) (by assumption) ?_
  rotate_left
  · intro w9 hSw
    (try dsimp only at hSw)
    go_simp
    all_goals (with_reducible rfl)
  try simp only [Act.put, List.setIfInBounds_toArray, List.set_cons_zero, List.set_cons_succ]
  refine wpAnyH_take (i := 12) (oi := (⟨_, _, _, _, _, _⟩ : Oper)) (v := ?_) rfl (by kernel_rfl) (by kernel_rfl) (by kernel_rfl) (fun _ _ _ h => h) (Or.inl ⟨by rfl, ?_⟩) (by assumption) ?_
  rotate_left
  · intro w9 hSw
    (try dsimp only at hSw)
    go_simp
    all_goals (with_reducible rfl)
  try simp only [Act.put, List.setIfInBounds_toArray, List.set_cons_zero, List.set_cons_succ]
  refine wpAnyH_take (i := 13) (oi := (⟨_, _, _, _, _, _⟩ : Oper)) (v := ?_) rfl (by kernel_rfl) (by kernel_rfl) (by kernel_rfl) (fun _ _ _ h => h) (Or.inl ⟨by rfl, ?_⟩) (by assumption) ?_
  rotate_left
  · intro w9 hSw
    (try dsimp only at hSw)
    go_simp
    all_goals (with_reducible rfl)
  try simp only [Act.put, List.setIfInBounds_toArray, List.set_cons_zero, List.set_cons_succ]
  refine wpAnyH_take (i := 14) (oi := (⟨_, _, _, _, _, _⟩ : Oper)) (v := ?_) rfl (by kernel_rfl) (by kernel_rfl) (by kernel_rfl) (fun _ _ _ h => h) (Or.inl ⟨by rfl, ?_⟩) (by assumption) ?_
  rotate_left
  · intro w9 hSw
    (try dsimp only at hSw)
    go_simp
    all_goals (with_reducible rfl)
  try simp only [Act.put, List.setIfInBounds_toArray, List.set_cons_zero, List.set_cons_succ]
  refine wpAnyH_take (i := 15) (oi := (⟨_, _, _, _, _, _⟩ : Oper)) (v := ?_) rfl (by kernel_rfl) (by kernel_rfl) (by kernel_rfl) (fun _ _ _ h => h) (Or.inl ⟨by rfl, ?_⟩) (by assumption) ?_
  rotate_left
  · intro w9 hSw
    (try dsimp only at hSw)
    go_simp
    all_goals (with_reducible rfl)
  try simp only [Act.put, List.setIfInBounds_toArray, List.set_cons_zero, List.set_cons_succ]
  refine wpAnyH_take (i := 16) (oi := (⟨_, _, _, _, _, _⟩ : Oper)) (v := ?_) rfl (by kernel_rfl) (by kernel_rfl) (by kernel_rfl) (fun _ _ _ h => h) (Or.inl ⟨by rfl, ?_⟩) (by assumption) ?_
  rotate_left
  · intro w9 hSw
    (try dsimp only at hSw)
    go_simp
    all_goals (with_reducible rfl)
  try simp only [Act.put, List.setIfInBounds_toArray, List.set_cons_zero, List.set_cons_succ]
  refine wpAnyH_ready (rs := [4, 17]) (by kernel_rfl) (by simp) (AllReadyH.cons rfl (fun K hK => ?a4) (AllReadyH.cons rfl (fun K hK => ?a17) AllReadyH.nil))
  case a4 =>
    go_simp
    refine hK.out _ _ hHeld (fun hHeld9 => ?_)
    clear hK K hHeld
    have hHeld := hHeld9
    clear hHeld9
    refine wpAnyH_ready (rs := [17]) (by kernel_rfl) (by simp) (AllReadyH.cons rfl (fun K hK => ?_) AllReadyH.nil)
    go_simp
    refine hK.out _ _ hS2 (fun hHeld9 => ?_)
    clear hK K hHeld
    have hHeld := hHeld9
    clear hHeld9
    refine wpAnyH_ready (rs := [18]) (by kernel_rfl) (by simp) (AllReadyH.cons rfl (fun K hK => ?_) AllReadyH.nil)
    refine step_append_has _ rfl (.tmp 72) (.tmp 85) 28 rfl (fun k => U k ∨ W2.heap.size ≤ k) 61 i0 _ 9 72 Tryz.underlying28 hi0 hz0 hz1 hz2 rfl (.slice a s.cls.length cap) s.cls.length (clc s.cls) (by simp [Act.eval]) (law.out _ (Below.alloc (Below.drew (Below.refl _ _)) (Nat.le_refl _) _)) ⟨W2.heap.size, 0, none⟩ 1 1 [.int .i64 i, .int .i64 90, .int .i64 arg, .int .i64 data, .int .i64 s.n, .int .i64 (-1), .int .i64 (-1), .int .i64 0, .int .i64 0] (by simp [Act.eval]) rfl (newsAt W2.drew _ #[.int .i64 i, .int .i64 90, .int .i64 arg, .int .i64 data, .int .i64 s.n, .int .i64 (-1), .int .i64 (-1), .int .i64 0, .int .i64 0] 61 _ rfl rfl) (by simp [Value.oneCell']) (by omega) (by unfold maxLen; omega) (by omega) (.inr (by simp)) ?_
    intro g cap' w1 hown hgrow hat
    obtain ⟨⟨kc, kf⟩, F9⟩ := FN.out _ w1 g cap' ⟨i, 90, arg, data, s.n, -1, -1, 0, 0⟩ hown hgrow
    have hS1 := KS.out _ w1 hgrow
    clear hown hgrow hat
    refine hK.out _ _ hS1 (fun hHeld9 => ?_)
    clear hK K hHeld
    have hHeld := hHeld9
    clear hHeld9
    refine wpAnyH_take (i := 19) (oi := (⟨_, _, _, _, _, _⟩ : Oper)) (v := ?_) rfl (by kernel_rfl) (by kernel_rfl) (by kernel_rfl) (fun _ _ _ h => h) (Or.inl ⟨by rfl, ?_⟩) (by assumption) ?_
    rotate_left
    · intro w9 hSw
      (try dsimp only at hSw)
      go_simp
      all_goals (with_reducible rfl)
    try simp only [Act.put, List.setIfInBounds_toArray, List.set_cons_zero, List.set_cons_succ]
    refine wpAnyH_take (i := 20) (oi := (⟨_, _, _, _, _, _⟩ : Oper)) (v := ?_) rfl (by kernel_rfl) (by kernel_rfl) (by kernel_rfl) (fun _ _ _ h => h) (Or.inl ⟨by rfl, ?_⟩) (by assumption) ?_
    rotate_left
    · intro w9 hSw
      (try dsimp only at hSw)
      go_simp
      all_goals (with_reducible rfl)
    try simp only [Act.put, List.setIfInBounds_toArray, List.set_cons_zero, List.set_cons_succ]
    refine wpAnyH_ready (rs := [21]) (by kernel_rfl) (by simp) (AllReadyH.cons rfl (fun K hK => ?_) AllReadyH.nil)
    go_simp
    refine hK.out _ _ ⟨(World.cell?_setCell_other w1 ⟨q.b, 4, none⟩ ⟨q.b, 6, none⟩ _ (by simp)).trans hS1.1, (World.cell?_setCell_far w1 ⟨q.b, 4, none⟩ ⟨W.heap.size, 1, none⟩ _ nbm).trans hS1.2.1, (World.cell?_setCell_far w1 ⟨q.b, 4, none⟩ ⟨W.heap.size, 2, none⟩ _ nbm).trans hS1.2.2.1, (World.cell?_setCell_far w1 ⟨q.b, 4, none⟩ ⟨W.heap.size, 3, none⟩ _ nbm).trans hS1.2.2.2⟩ (fun _ => wpAnyH_done (by kernel_rfl) ?_ _)
    clear hK K hHeld hS1
    go_wp2
    go_ret
    exact ⟨rfl, _, F9.out, G.out.n, fin.out _ rfl rfl ⟨rfl, rfl⟩ rfl (by rw [← G.out.n])⟩
  case a17 =>
    go_simp
    refine hK.out _ _ hS2 (fun hHeld9 => ?_)
    clear hK K hHeld
    have hHeld := hHeld9
    clear hHeld9
    refine wpAnyH_ready (rs := [4]) (by kernel_rfl) (by simp) (AllReadyH.cons rfl (fun K hK => ?_) AllReadyH.nil)
    go_simp
    refine hK.out _ _ hS2 (fun hHeld9 => ?_)
    clear hK K hHeld
    have hHeld := hHeld9
    clear hHeld9
    refine wpAnyH_ready (rs := [18]) (by kernel_rfl) (by simp) (AllReadyH.cons rfl (fun K hK => ?_) AllReadyH.nil)
    refine step_append_has _ rfl (.tmp 72) (.tmp 85) 28 rfl (fun k => U k ∨ W2.heap.size ≤ k) 61 i0 _ 9 72 Tryz.underlying28 hi0 hz0 hz1 hz2 rfl (.slice a s.cls.length cap) s.cls.length (clc s.cls) (by simp [Act.eval]) (law.out _ (Below.alloc (Below.drew (Below.refl _ _)) (Nat.le_refl _) _)) ⟨W2.heap.size, 0, none⟩ 1 1 [.int .i64 i, .int .i64 90, .int .i64 arg, .int .i64 data, .int .i64 s.n, .int .i64 (-1), .int .i64 (-1), .int .i64 0, .int .i64 0] (by simp [Act.eval]) rfl (newsAt W2.drew _ #[.int .i64 i, .int .i64 90, .int .i64 arg, .int .i64 data, .int .i64 s.n, .int .i64 (-1), .int .i64 (-1), .int .i64 0, .int .i64 0] 61 _ rfl rfl) (by simp [Value.oneCell']) (by omega) (by unfold maxLen; omega) (by omega) (.inr (by simp)) ?_
    intro g cap' w1 hown hgrow hat
    obtain ⟨⟨kc, kf⟩, F9⟩ := FN.out _ w1 g cap' ⟨i, 90, arg, data, s.n, -1, -1, 0, 0⟩ hown hgrow
    have hS1 := KS.out _ w1 hgrow
    clear hown hgrow hat
    refine hK.out _ _ hS1 (fun hHeld9 => ?_)
    clear hK K hHeld
    have hHeld := hHeld9
    clear hHeld9
    refine wpAnyH_take (i := 19) (oi := (⟨_, _, _, _, _, _⟩ : Oper)) (v := ?_) rfl (by kernel_rfl) (by kernel_rfl) (by kernel_rfl) (fun _ _ _ h => h) (Or.inl ⟨by rfl, ?_⟩) (by assumption) ?_
    rotate_left
    · intro w9 hSw
      (try dsimp only at hSw)
      go_simp
      all_goals (with_reducible rfl)
    try simp only [Act.put, List.setIfInBounds_toArray, List.set_cons_zero, List.set_cons_succ]
    refine wpAnyH_take (i := 20) (oi := (⟨_, _, _, _, _, _⟩ : Oper)) (v := ?_) rfl (by kernel_rfl) (by kernel_rfl) (by kernel_rfl) (fun _ _ _ h => h) (Or.inl ⟨by rfl, ?_⟩) (by assumption) ?_
    rotate_left
    · intro w9 hSw
      (try dsimp only at hSw)
      go_simp
      all_goals (with_reducible rfl)
    try simp only [Act.put, List.setIfInBounds_toArray, List.set_cons_zero, List.set_cons_succ]
    refine wpAnyH_ready (rs := [21]) (by kernel_rfl) (by simp) (AllReadyH.cons rfl (fun K hK => ?_) AllReadyH.nil)
    go_simp
    refine hK.out _ _ ⟨(World.cell?_setCell_other w1 ⟨q.b, 4, none⟩ ⟨q.b, 6, none⟩ _ (by simp)).trans hS1.1, (World.cell?_setCell_far w1 ⟨q.b, 4, none⟩ ⟨W.heap.size, 1, none⟩ _ nbm).trans hS1.2.1, (World.cell?_setCell_far w1 ⟨q.b, 4, none⟩ ⟨W.heap.size, 2, none⟩ _ nbm).trans hS1.2.2.1, (World.cell?_setCell_far w1 ⟨q.b, 4, none⟩ ⟨W.heap.size, 3, none⟩ _ nbm).trans hS1.2.2.2⟩ (fun _ => wpAnyH_done (by kernel_rfl) ?_ _)
    clear hK K hHeld hS1
    go_wp2
    go_ret
    exact ⟨rfl, _, F9.out, G.out.n, fin.out _ rfl rfl ⟨rfl, rfl⟩ rfl (by rw [← G.out.n])⟩
set_option maxRecDepth 100000 in
set_option maxHeartbeats 4000000 in
theorem begin_91 (G : Gm2 W0 U0 q s W P) (hlt : P.n < 65536) (i : Nat) (arg data : Int) (hi : i = 0) (t : Pt Dt) (ht : P.pts[i]? = some t) (hk : t.tk = none) :
    Calls Tryz.prog 25 #[.pointer (some ⟨q.b, 0, none⟩), .agg #[.int .i64 (i : Int), .int .i64 91, .int .i64 arg, .int .i64 data]] W (Dm2 W0 U0 q P.n { P.count with cls := P.cls ++ [⟨i, 91, arg, data, P.n, -1, -1, 0, 0⟩], pts := P.pts.set i ⟨some (.take 1 0 0 0), true, (P.cls.length : Int), 0, 0⟩ } true) := by
  obtain ⟨i0, hi0, hz0, hz1, hz2⟩ := info_parts info_call
  obtain ⟨u, hu, hT⟩ := G.sm.th i t ht
  unfold TR at hT; rw [hk] at hT
  have hin : i < q.nt := by rw [← G.nt]; exact (List.getElem?_eq_some_iff.1 ht).1
  obtain ⟨G1, x0, x1, x2, x3, l1, l2⟩ := OutR.boxed G i 91 arg data rfl
  obtain ⟨c0, c1, c2, c3, c6, c7, c8, fb, ft, fw⟩ := G1.o.b0
  obtain ⟨t0, t1, t2, t3, t4⟩ := G1.o.ts hu
  rw [hT] at t0
  have d1 : decide ((i : Int) < 0) = false := by simp
  have d2 : decide ((q.nt : Int) ≤ (i : Int)) = false := by simp; omega
  have d5 : ((i : Int) == 0) = true := by simp; omega
  have d6 : (i == 0) = true := by simp; omega
  replace hi := Mr.hid hi
  have fin : ∀ s', s'.ws = s.ws → s'.lg = s.lg → s'.dn = s.dn ∧ s'.la = s.la → s'.ths = s.ths.set i ⟨s.cls.length, 1, 0, 0, 0⟩ → s'.cls = s.cls ++ [⟨i, 91, arg, data, P.n, -1, -1, 0, 0⟩] → Sm { P.count with cls := P.cls ++ [⟨i, 91, arg, data, P.n, -1, -1, 0, 0⟩], pts := P.pts.set i ⟨some (.take 1 0 0 0), true, (P.cls.length : Int), 0, 0⟩ } s' := fun s' h1 h2 h3 h4 h5 => G.sm.begins ht 91 arg data P.n (.take 1 0 0 0) _ h1 h2 h3 h4 h5 rfl ⟨rfl, fun _ => rfl, fun _ => rfl, fun h => absurd h (by decide), fun h => absurd h (by decide), fun h => absurd h (by decide), fun h => absurd h (by decide), fun h => absurd h (by decide)⟩
  have hcl : s.cls.length ≤ 65536 := by rw [G.sm.cls]; have := G.bd.cls; omega
  have hW1 : ∃ W1, W1 = W.alloc (mvO i 91 arg data) := ⟨_, rfl⟩
  obtain ⟨W1, hW1⟩ := hW1
  obtain ⟨G2, z0, z1, z2, z3, _, _⟩ := OutR.boxed G i 91 arg data hW1
  obtain ⟨b0, b1, b2, b3, b6, b7, b8, gb, gt, gw⟩ := G2.o.b0
  obtain ⟨a4, cap4, _, b4, _, _, _, _⟩ := G2.o.appC
  have y0 := G2.o
  obtain ⟨v0, v1, v2, v3, v4⟩ := G2.o.ts hu
  rw [hT] at v0
  obtain ⟨n1, n2, n3, n4, n5, n6⟩ := y0.neq
  have y1 := y0.setT (t' := ⟨s.cls.length, u.line, u.b, u.t, u.v⟩) hu 0 (by decide) (u := .int .i64 (s.cls.length : Int)) rfl
  have y2 := y1.setT (t' := ⟨s.cls.length, 1, u.b, u.t, u.v⟩) (set_at _ hu) 1 (by decide) (u := .int .i64 1) rfl
  have y3 := y2.setT (t' := ⟨s.cls.length, 1, 0, u.t, u.v⟩) (set_at _ (set_at _ hu)) 2 (by decide) (u := .int .i64 0) rfl
  have y4 := y3.setT (t' := ⟨s.cls.length, 1, 0, 0, u.v⟩) (set_at _ (set_at _ (set_at _ hu))) 3 (by decide) (u := .int .i64 0) rfl
  have y5 := y4.setT (t' := ⟨s.cls.length, 1, 0, 0, 0⟩) (set_at _ (set_at _ (set_at _ (set_at _ hu)))) 4 (by decide) (u := .int .i64 0) rfl
  simp only [List.set_set] at y5
  clear y0 y1 y2 y3 y4
  obtain ⟨W2, hW2⟩ : ∃ W2, (((((W1.setCell ⟨q.gt, i * 5, none⟩ (.int .i64 (s.cls.length : Int))).setCell ⟨q.gt, i * 5 + 1, none⟩ (.int .i64 1)).setCell ⟨q.gt, i * 5 + 2, none⟩ (.int .i64 0)).setCell ⟨q.gt, i * 5 + 3, none⟩ (.int .i64 0)).setCell ⟨q.gt, i * 5 + 4, none⟩ (.int .i64 0)).drew = W2 := ⟨_, rfl⟩
  have y6 : OutR W0 U0 q { s with ths := s.ths.set i ⟨s.cls.length, 1, 0, 0, 0⟩ } W2 := by rw [← hW2]; exact OutR.eqv y5 rfl rfl rfl rfl
  have ng : W.heap.size ≠ q.gt := by omega
  have zh : W2.heap[W.heap.size]? = some (.cells #[.int .i64 (i : Int), .int .i64 91, .int .i64 arg, .int .i64 data] 27 (0, 0)) := by
    rw [← hW2]
    show (World.setCell _ _ _).heap[_]? = _
    rw [Below.heap_setCell _ _ _ _ ng, Below.heap_setCell _ _ _ _ ng, Below.heap_setCell _ _ _ _ ng, Below.heap_setCell _ _ _ _ ng, Below.heap_setCell _ _ _ _ ng, hW1]
    exact heap_alloc_new W _
  have zz : ∀ j, W2.cell? ⟨W.heap.size, j, none⟩ = #[Value.int .i64 (i : Int), .int .i64 91, .int .i64 arg, .int .i64 data][j]? := fun j => cell_at zh j
  have r0 := zz 0
  have r1 := zz 1
  have r2 := zz 2
  have r3 := zz 3
  obtain ⟨a, cap, U, f4, hle, law, KP, FN⟩ := y6.appC
  obtain ⟨f0, f1, f2, f3, f6, f7, f8, fgb, fgt, fgw⟩ := y6.b0
  have lb2 : q.b < W2.heap.size := by obtain ⟨_, _, _, hR, _⟩ := y6; exact hR.lt
  have lw2 : W.heap.size < W2.heap.size := by rw [← hW2]; simp only [World.drew, World.setCell]; rw [hW1]; simp
  obtain ⟨vcx, vlx, hbx⟩ : ∃ vcx vlx, W2.heap[q.b]? = some (q.box vcx vlx s.n s.dn s.la) := by obtain ⟨_, _, _, hR, _⟩ := y6; exact ⟨_, _, hR.bx⟩
  have KS : Hid (∀ (p : Obj) (w1 : World) (hgrow : (W2.alloc p).drew.grownBy w1 (Value.slice a s.cls.length cap).ownBlock), w1.cell? ⟨q.b, 6, none⟩ = some (.int .i64 s.n) ∧ w1.cell? ⟨W.heap.size, 1, none⟩ = some (.int .i64 91) ∧ w1.cell? ⟨W.heap.size, 2, none⟩ = some (.int .i64 arg) ∧ w1.cell? ⟨W.heap.size, 3, none⟩ = some (.int .i64 data)) := Mr.hid (fun p w1 hgrow => by
    have k1 := KP.out p w1 hgrow _ _ _ hbx (by decide)
    have k2 := KP.out p w1 hgrow _ _ _ zh (by decide)
    exact ⟨cell_at k1 6, cell_at k2 1, cell_at k2 2, cell_at k2 3⟩)
  have nbm : q.b ≠ W.heap.size := by omega
  clear y6 y5 zz zh hbx KP
  replace hW2 := Mr.hid hW2
  replace G := Mr.hid G
  have b4o : (W.alloc (mvO i 91 arg data)).cell? ⟨q.b, 4, none⟩ = some (.slice a4 s.cls.length cap4) := hW1 ▸ b4
  replace G1 := Mr.hid G1
  replace G2 := Mr.hid G2
  replace fin := Mr.hid fin
  unfold mvO at hW1 x0 x1 x2 x3 c0 c1 c2 c3 c6 c7 c8 fb ft fw t0 b4o
  clear t1 t2 t3 t4
  replace hW1 := Mr.hid hW1
  clear ht hk hu hT
  go_enter Tryz.func25, Tryz.ntmps25
  go_wp2
  rw [← hW1.out]
  clear x0 x1 x2 x3 c0 c1 c2 c3 c6 c7 c8 fb ft fw t0 b4o
  go_region_held3 (fun w' => w'.cell? ⟨q.b, 2, none⟩ = some (.slice (some ⟨q.gw, 0, none⟩) (2 + q.r) q.cw) ∧ w'.cell? ⟨q.b, 3, none⟩ = some (.slice (some ⟨q.gt, 0, none⟩) q.nt q.ct) ∧ w'.cell? ⟨q.b, 4, none⟩ = some (.slice a4 s.cls.length cap4)) (go_keep) (fail)
  go_wp2
  rw [hW2.out]
  clear b0 b1 b2 b3 b6 b7 b8 gb gt gw b4 z0 z1 z2 z3 v0 v1 v2 v3 v4
  have hS2 : (W2.drew.alloc (.cells #[.int .i64 i, .int .i64 91, .int .i64 arg, .int .i64 data, .int .i64 s.n, .int .i64 (-1), .int .i64 (-1), .int .i64 0, .int .i64 0] 61)).cell? ⟨q.b, 6, none⟩ = some (.int .i64 s.n) ∧ (W2.drew.alloc (.cells #[.int .i64 i, .int .i64 91, .int .i64 arg, .int .i64 data, .int .i64 s.n, .int .i64 (-1), .int .i64 (-1), .int .i64 0, .int .i64 0] 61)).cell? ⟨W.heap.size, 1, none⟩ = some (.int .i64 91) ∧ (W2.drew.alloc (.cells #[.int .i64 i, .int .i64 91, .int .i64 arg, .int .i64 data, .int .i64 s.n, .int .i64 (-1), .int .i64 (-1), .int .i64 0, .int .i64 0] 61)).cell? ⟨W.heap.size, 2, none⟩ = some (.int .i64 arg) ∧ (W2.drew.alloc (.cells #[.int .i64 i, .int .i64 91, .int .i64 arg, .int .i64 data, .int .i64 s.n, .int .i64 (-1), .int .i64 (-1), .int .i64 0, .int .i64 0] 61)).cell? ⟨W.heap.size, 3, none⟩ = some (.int .i64 data) := ⟨(World.cell?_alloc_past _ _ _ lb2).trans f6, (World.cell?_alloc_past _ _ _ lw2).trans r1, (World.cell?_alloc_past _ _ _ lw2).trans r2, (World.cell?_alloc_past _ _ _ lw2).trans r3⟩
  have f4d : W2.drew.cell? ⟨q.b, 4, none⟩ = some (.slice a s.cls.length cap) := f4
  have f4e : (W2.drew.alloc (.cells #[.int .i64 i, .int .i64 91, .int .i64 arg, .int .i64 data, .int .i64 s.n, .int .i64 (-1), .int .i64 (-1), .int .i64 0, .int .i64 0] 61)).cell? ⟨q.b, 4, none⟩ = some (.slice a s.cls.length cap) := (World.cell?_alloc_past _ _ _ lb2).trans f4
  refine wp_region_held_drew (S := (fun w' => w'.cell? ⟨q.b, 6, none⟩ = some (.int .i64 s.n) ∧ w'.cell? ⟨W.heap.size, 1, none⟩ = some (.int .i64 91) ∧ w'.cell? ⟨W.heap.size, 2, none⟩ = some (.int .i64 arg) ∧ w'.cell? ⟨W.heap.size, 3, none⟩ = some (.int .i64 data))) (by kernel_rfl) ⟨f6, r1, r2, r3⟩ (fun hHeld => ?_)
  try simp only [Act.put, List.setIfInBounds_toArray, List.set_cons_zero, List.set_cons_succ]
  refine wpAnyH_take (i := 0) (oi := (⟨_, _, _, _, _, _⟩ : Oper)) (v := ?_) rfl (by kernel_rfl) (by kernel_rfl) (by kernel_rfl) (fun _ _ _ h => h) (Or.inl ⟨by rfl, ?_⟩) (by assumption) ?_
  rotate_left
  · intro w9 hSw
    (try dsimp only at hSw)
    go_simp
    all_goals (with_reducible rfl)
  try simp only [Act.put, List.setIfInBounds_toArray, List.set_cons_zero, List.set_cons_succ]
  refine wpAnyH_take (i := 1) (oi := (⟨_, _, _, _, _, _⟩ : Oper)) (v := ?_) rfl (by kernel_rfl) (by kernel_rfl) (by kernel_rfl) (fun _ _ _ h => h) (Or.inl ⟨by rfl, ?_⟩) (by assumption) ?_
  rotate_left
  · intro w9 hSw
    (try dsimp only at hSw)
    go_simp
    all_goals (with_reducible rfl)
  try simp only [Act.put, List.setIfInBounds_toArray, List.set_cons_zero, List.set_cons_succ]
  refine wpAnyH_take (i := 2) (oi := (⟨_, _, _, _, _, _⟩ : Oper)) (v := ?_) rfl (by kernel_rfl) (by kernel_rfl) (by kernel_rfl) (fun _ _ _ h => h) (Or.inl ⟨by rfl, ?_⟩) (by assumption) ?_
  rotate_left
  · intro w9 hSw
    (try dsimp only at hSw)
    go_simp
    all_goals (with_reducible rfl)
  try simp only [Act.put, List.setIfInBounds_toArray, List.set_cons_zero, List.set_cons_succ]
  refine wpAnyH_take (i := 3) (oi := (⟨_, _, _, _, _, _⟩ : Oper)) (v := ?_) rfl (by kernel_rfl) (by kernel_rfl) (by kernel_rfl) (fun _ _ _ h => h) (Or.inl ⟨by rfl, ?_⟩) (by assumption) ?_
  rotate_left
  · intro w9 hSw
    (try dsimp only at hSw)
    go_simp
    all_goals (with_reducible rfl)
  try simp only [Act.put, List.setIfInBounds_toArray, List.set_cons_zero, List.set_cons_succ]
  refine wpAnyH_take (i := 5) (oi := (⟨_, _, _, _, _, _⟩ : Oper)) (v := ?_) rfl (by kernel_rfl) (by kernel_rfl) (by kernel_rfl) (fun _ _ _ h => h) (Or.inl ⟨by rfl, ?_⟩) (by assumption) ?_
  rotate_left
  · intro w9 hSw
    (try dsimp only at hSw)
    go_simp
    all_goals (with_reducible rfl)
  try simp only [Act.put, List.setIfInBounds_toArray, List.set_cons_zero, List.set_cons_succ]
  refine wpAnyH_take (i := 6) (oi := (⟨_, _, _, _, _, _⟩ : Oper)) (v := ?_) rfl (by kernel_rfl) (by kernel_rfl) (by kernel_rfl) (fun _ _ _ h => h) (Or.inl ⟨by rfl, ?_⟩) (by assumption) ?_
  rotate_left
  · intro w9 hSw
    (try dsimp only at hSw)
    go_simp
    all_goals (with_reducible rfl)
  try simp only [Act.put, List.setIfInBounds_toArray, List.set_cons_zero, List.set_cons_succ]
  refine wpAnyH_take (i := 7) (oi := (⟨_, _, _, _, _, _⟩ : Oper)) (v := ?_) rfl (by kernel_rfl) (by kernel_rfl) (by kernel_rfl) (fun _ _ _ h => h) (Or.inl ⟨by rfl, ?_⟩) (by assumption) ?_
  rotate_left
  · intro w9 hSw
    (try dsimp only at hSw)
    go_simp
    all_goals (with_reducible rfl)
  try simp only [Act.put, List.setIfInBounds_toArray, List.set_cons_zero, List.set_cons_succ]
  refine wpAnyH_take (i := 8) (oi := (⟨_, _, _, _, _, _⟩ : Oper)) (v := ?_) rfl (by kernel_rfl) (by kernel_rfl) (by kernel_rfl) (fun _ _ _ h => h) (Or.inl ⟨by rfl, ?_⟩) (by assumption) ?_
  rotate_left
  · intro w9 hSw
    (try dsimp only at hSw)
    go_simp
    all_goals (with_reducible rfl)
  try simp only [Act.put, List.setIfInBounds_toArray, List.set_cons_zero, List.set_cons_succ]
  refine wpAnyH_take (i := 9) (oi := (⟨_, _, _, _, _, _⟩ : Oper)) (v := ?_) rfl (by kernel_rfl) (by kernel_rfl) (by kernel_rfl) (fun _ _ _ h => h) (Or.inl ⟨by rfl, ?_⟩) (by assumption) ?_
  rotate_left
  · intro w9 hSw
    (try dsimp only at hSw)
    go_simp
    all_goals (with_reducible rfl)
  try simp only [Act.put, List.setIfInBounds_toArray, List.set_cons_zero, List.set_cons_succ]
  refine wpAnyH_take (i := 10) (oi := (⟨_, _, _, _, _, _⟩ : Oper)) (v := ?_) rfl (by kernel_rfl) (by kernel_rfl) (by kernel_rfl) (fun _ _ _ h => h) (Or.inl ⟨by rfl, ?_⟩) (by assumption) ?_
  rotate_left
  · intro w9 hSw
    (try dsimp only at hSw)
    go_simp
    all_goals (with_reducible rfl)
  try simp only [Act.put, List.setIfInBounds_toArray, List.set_cons_zero, List.set_cons_succ]
  refine wpAnyH_take (i := 11) (oi := (⟨_, _, _, _, _, _⟩ : Oper)) (v := ?_) rfl (by kernel_rfl) (by kernel_rfl) (by kernel_rfl) (fun _ _ _ h => h) (Or.inl ⟨by rfl, ?_⟩) (by assumption) ?_
  rotate_left
  · intro w9 hSw
    (try dsimp only at hSw)
    go_simp
    all_goals (with_reducible rfl)
  try simp only [Act.put, List.setIfInBounds_toArray, List.set_cons_zero, List.set_cons_succ]
  refine wpAnyH_take (i := 12) (oi := (⟨_, _, _, _, _, _⟩ : Oper)) (v := ?_) rfl (by kernel_rfl) (by kernel_rfl) (by kernel_rfl) (fun _ _ _ h => h) (Or.inl ⟨by rfl, ?_⟩) (by assumption) ?_
  rotate_left
  · intro w9 hSw
    (try dsimp only at hSw)
    go_simp
    all_goals (with_reducible rfl)
  try simp only [Act.put, List.setIfInBounds_toArray, List.set_cons_zero, List.set_cons_succ]
  refine wpAnyH_take (i := 13) (oi := (⟨_, _, _, _, _, _⟩ : Oper)) (v := ?_) rfl (by kernel_rfl) (by kernel_rfl) (by kernel_rfl) (fun _ _ _ h => h) (Or.inl ⟨by rfl, ?_⟩) (by assumption) ?_
  rotate_left
  · intro w9 hSw
    (try dsimp only at hSw)
    go_simp
    all_goals (with_reducible rfl)
  try simp only [Act.put, List.setIfInBounds_toArray, List.set_cons_zero, List.set_cons_succ]
  refine wpAnyH_take (i := 14) (oi := (⟨_, _, _, _, _, _⟩ : Oper)) (v := ?_) rfl (by kernel_rfl) (by kernel_rfl) (by kernel_rfl) (fun _ _ _ h => h) (Or.inl ⟨by rfl, ?_⟩) (by assumption) ?_
  rotate_left
  · intro w9 hSw
    (try dsimp only at hSw)
    go_simp
    all_goals (with_reducible rfl)
  try simp only [Act.put, List.setIfInBounds_toArray, List.set_cons_zero, List.set_cons_succ]
  refine wpAnyH_take (i := 15) (oi := (⟨_, _, _, _, _, _⟩ : Oper)) (v := ?_) rfl (by kernel_rfl) (by kernel_rfl) (by kernel_rfl) (fun _ _ _ h => h) (Or.inl ⟨by rfl, ?_⟩) (by assumption) ?_
  rotate_left
  · intro w9 hSw
    (try dsimp only at hSw)
    go_simp
    all_goals (with_reducible rfl)
  try simp only [Act.put, List.setIfInBounds_toArray, List.set_cons_zero, List.set_cons_succ]
  refine wpAnyH_take (i := 16) (oi := (⟨_, _, _, _, _, _⟩ : Oper)) (v := ?_) rfl (by kernel_rfl) (by kernel_rfl) (by kernel_rfl) (fun _ _ _ h => h) (Or.inl ⟨by rfl, ?_⟩) (by assumption) ?_
  rotate_left
  · intro w9 hSw
    (try dsimp only at hSw)
    go_simp
    all_goals (with_reducible rfl)
  try simp only [Act.put, List.setIfInBounds_toArray, List.set_cons_zero, List.set_cons_succ]
  refine wpAnyH_ready (rs := [4, 17]) (by kernel_rfl) (by simp) (AllReadyH.cons rfl (fun K hK => ?a4) (AllReadyH.cons rfl (fun K hK => ?a17) AllReadyH.nil))
  case a4 =>
    go_simp
    refine hK.out _ _ hHeld (fun hHeld9 => ?_)
    clear hK K hHeld
    have hHeld := hHeld9
    clear hHeld9
    refine wpAnyH_ready (rs := [17]) (by kernel_rfl) (by simp) (AllReadyH.cons rfl (fun K hK => ?_) AllReadyH.nil)
    go_simp
    refine hK.out _ _ hS2 (fun hHeld9 => ?_)
    clear hK K hHeld
    have hHeld := hHeld9
    clear hHeld9
    refine wpAnyH_ready (rs := [18]) (by kernel_rfl) (by simp) (AllReadyH.cons rfl (fun K hK => ?_) AllReadyH.nil)
    refine step_append_has _ rfl (.tmp 72) (.tmp 85) 28 rfl (fun k => U k ∨ W2.heap.size ≤ k) 61 i0 _ 9 72 Tryz.underlying28 hi0 hz0 hz1 hz2 rfl (.slice a s.cls.length cap) s.cls.length (clc s.cls) (by simp [Act.eval]) (law.out _ (Below.alloc (Below.drew (Below.refl _ _)) (Nat.le_refl _) _)) ⟨W2.heap.size, 0, none⟩ 1 1 [.int .i64 i, .int .i64 91, .int .i64 arg, .int .i64 data, .int .i64 s.n, .int .i64 (-1), .int .i64 (-1), .int .i64 0, .int .i64 0] (by simp [Act.eval]) rfl (newsAt W2.drew _ #[.int .i64 i, .int .i64 91, .int .i64 arg, .int .i64 data, .int .i64 s.n, .int .i64 (-1), .int .i64 (-1), .int .i64 0, .int .i64 0] 61 _ rfl rfl) (by simp [Value.oneCell']) (by omega) (by unfold maxLen; omega) (by omega) (.inr (by simp)) ?_
    intro g cap' w1 hown hgrow hat
    obtain ⟨⟨kc, kf⟩, F9⟩ := FN.out _ w1 g cap' ⟨i, 91, arg, data, s.n, -1, -1, 0, 0⟩ hown hgrow
    have hS1 := KS.out _ w1 hgrow
    clear hown hgrow hat
    refine hK.out _ _ hS1 (fun hHeld9 => ?_)
    clear hK K hHeld
    have hHeld := hHeld9
    clear hHeld9
    refine wpAnyH_take (i := 19) (oi := (⟨_, _, _, _, _, _⟩ : Oper)) (v := ?_) rfl (by kernel_rfl) (by kernel_rfl) (by kernel_rfl) (fun _ _ _ h => h) (Or.inl ⟨by rfl, ?_⟩) (by assumption) ?_
    rotate_left
    · intro w9 hSw
      (try dsimp only at hSw)
      go_simp
      all_goals (with_reducible rfl)
    try simp only [Act.put, List.setIfInBounds_toArray, List.set_cons_zero, List.set_cons_succ]
    refine wpAnyH_take (i := 20) (oi := (⟨_, _, _, _, _, _⟩ : Oper)) (v := ?_) rfl (by kernel_rfl) (by kernel_rfl) (by kernel_rfl) (fun _ _ _ h => h) (Or.inl ⟨by rfl, ?_⟩) (by assumption) ?_
    rotate_left
    · intro w9 hSw
      (try dsimp only at hSw)
      go_simp
      all_goals (with_reducible rfl)
    try simp only [Act.put, List.setIfInBounds_toArray, List.set_cons_zero, List.set_cons_succ]
    refine wpAnyH_ready (rs := [21]) (by kernel_rfl) (by simp) (AllReadyH.cons rfl (fun K hK => ?_) AllReadyH.nil)
    go_simp
    refine hK.out _ _ ⟨(World.cell?_setCell_other w1 ⟨q.b, 4, none⟩ ⟨q.b, 6, none⟩ _ (by simp)).trans hS1.1, (World.cell?_setCell_far w1 ⟨q.b, 4, none⟩ ⟨W.heap.size, 1, none⟩ _ nbm).trans hS1.2.1, (World.cell?_setCell_far w1 ⟨q.b, 4, none⟩ ⟨W.heap.size, 2, none⟩ _ nbm).trans hS1.2.2.1, (World.cell?_setCell_far w1 ⟨q.b, 4, none⟩ ⟨W.heap.size, 3, none⟩ _ nbm).trans hS1.2.2.2⟩ (fun _ => wpAnyH_done (by kernel_rfl) ?_ _)
    clear hK K hHeld hS1
    go_wp2
    go_ret
    exact ⟨rfl, _, F9.out, G.out.n, fin.out _ rfl rfl ⟨rfl, rfl⟩ rfl (by rw [← G.out.n])⟩
  case a17 =>
    go_simp
    refine hK.out _ _ hS2 (fun hHeld9 => ?_)
    clear hK K hHeld
    have hHeld := hHeld9
    clear hHeld9
    refine wpAnyH_ready (rs := [4]) (by kernel_rfl) (by simp) (AllReadyH.cons rfl (fun K hK => ?_) AllReadyH.nil)
    go_simp
    refine hK.out _ _ hS2 (fun hHeld9 => ?_)
    clear hK K hHeld
    have hHeld := hHeld9
    clear hHeld9
    refine wpAnyH_ready (rs := [18]) (by kernel_rfl) (by simp) (AllReadyH.cons rfl (fun K hK => ?_) AllReadyH.nil)
    refine step_append_has _ rfl (.tmp 72) (.tmp 85) 28 rfl (fun k => U k ∨ W2.heap.size ≤ k) 61 i0 _ 9 72 Tryz.underlying28 hi0 hz0 hz1 hz2 rfl (.slice a s.cls.length cap) s.cls.length (clc s.cls) (by simp [Act.eval]) (law.out _ (Below.alloc (Below.drew (Below.refl _ _)) (Nat.le_refl _) _)) ⟨W2.heap.size, 0, none⟩ 1 1 [.int .i64 i, .int .i64 91, .int .i64 arg, .int .i64 data, .int .i64 s.n, .int .i64 (-1), .int .i64 (-1), .int .i64 0, .int .i64 0] (by simp [Act.eval]) rfl (newsAt W2.drew _ #[.int .i64 i, .int .i64 91, .int .i64 arg, .int .i64 data, .int .i64 s.n, .int .i64 (-1), .int .i64 (-1), .int .i64 0, .int .i64 0] 61 _ rfl rfl) (by simp [Value.oneCell']) (by omega) (by unfold maxLen; omega) (by omega) (.inr (by simp)) ?_
    intro g cap' w1 hown hgrow hat
    obtain ⟨⟨kc, kf⟩, F9⟩ := FN.out _ w1 g cap' ⟨i, 91, arg, data, s.n, -1, -1, 0, 0⟩ hown hgrow
    have hS1 := KS.out _ w1 hgrow
    clear hown hgrow hat
    refine hK.out _ _ hS1 (fun hHeld9 => ?_)
    clear hK K hHeld
    have hHeld := hHeld9
    clear hHeld9
    refine wpAnyH_take (i := 19) (oi := (⟨_, _, _, _, _, _⟩ : Oper)) (v := ?_) rfl (by kernel_rfl) (by kernel_rfl) (by kernel_rfl) (fun _ _ _ h => h) (Or.inl ⟨by rfl, ?_⟩) (by assumption) ?_
    rotate_left
    · intro w9 hSw
      (try dsimp only at hSw)
      go_simp
      all_goals (with_reducible rfl)
    try simp only [Act.put, List.setIfInBounds_toArray, List.set_cons_zero, List.set_cons_succ]
    refine wpAnyH_take (i := 20) (oi := (⟨_, _, _, _, _, _⟩ : Oper)) (v := ?_) rfl (by kernel_rfl) (by kernel_rfl) (by kernel_rfl) (fun _ _ _ h => h) (Or.inl ⟨by rfl, ?_⟩) (by assumption) ?_
    rotate_left
    · intro w9 hSw
      (try dsimp only at hSw)
      go_simp
      all_goals (with_reducible rfl)
    try simp only [Act.put, List.setIfInBounds_toArray, List.set_cons_zero, List.set_cons_succ]
    refine wpAnyH_ready (rs := [21]) (by kernel_rfl) (by simp) (AllReadyH.cons rfl (fun K hK => ?_) AllReadyH.nil)
    go_simp
    refine hK.out _ _ ⟨(World.cell?_setCell_other w1 ⟨q.b, 4, none⟩ ⟨q.b, 6, none⟩ _ (by simp)).trans hS1.1, (World.cell?_setCell_far w1 ⟨q.b, 4, none⟩ ⟨W.heap.size, 1, none⟩ _ nbm).trans hS1.2.1, (World.cell?_setCell_far w1 ⟨q.b, 4, none⟩ ⟨W.heap.size, 2, none⟩ _ nbm).trans hS1.2.2.1, (World.cell?_setCell_far w1 ⟨q.b, 4, none⟩ ⟨W.heap.size, 3, none⟩ _ nbm).trans hS1.2.2.2⟩ (fun _ => wpAnyH_done (by kernel_rfl) ?_ _)
    clear hK K hHeld hS1
    go_wp2
    go_ret
    exact ⟨rfl, _, F9.out, G.out.n, fin.out _ rfl rfl ⟨rfl, rfl⟩ rfl (by rw [← G.out.n])⟩
set_option maxRecDepth 100000 in
set_option maxHeartbeats 4000000 in
theorem begin_92 (G : Gm2 W0 U0 q s W P) (hlt : P.n < 65536) (i : Nat) (arg data : Int)  (t : Pt Dt) (ht : P.pts[i]? = some t) (hk : t.tk = none) :
    Calls Tryz.prog 25 #[.pointer (some ⟨q.b, 0, none⟩), .agg #[.int .i64 (i : Int), .int .i64 92, .int .i64 arg, .int .i64 data]] W (Dm2 W0 U0 q P.n { P.count with cls := P.cls ++ [⟨i, 92, arg, data, P.n, -1, -1, 0, 0⟩], pts := P.pts.set i ⟨some (.steal 1 0 0), true, (P.cls.length : Int), 0, 0⟩ } true) := by
  obtain ⟨i0, hi0, hz0, hz1, hz2⟩ := info_parts info_call
  obtain ⟨u, hu, hT⟩ := G.sm.th i t ht
  unfold TR at hT; rw [hk] at hT
  have hin : i < q.nt := by rw [← G.nt]; exact (List.getElem?_eq_some_iff.1 ht).1
  obtain ⟨G1, x0, x1, x2, x3, l1, l2⟩ := OutR.boxed G i 92 arg data rfl
  obtain ⟨c0, c1, c2, c3, c6, c7, c8, fb, ft, fw⟩ := G1.o.b0
  obtain ⟨t0, t1, t2, t3, t4⟩ := G1.o.ts hu
  rw [hT] at t0
  have d1 : decide ((i : Int) < 0) = false := by simp
  have d2 : decide ((q.nt : Int) ≤ (i : Int)) = false := by simp; omega
  have fin : ∀ s', s'.ws = s.ws → s'.lg = s.lg → s'.dn = s.dn ∧ s'.la = s.la → s'.ths = s.ths.set i ⟨s.cls.length, 1, 0, 0, 0⟩ → s'.cls = s.cls ++ [⟨i, 92, arg, data, P.n, -1, -1, 0, 0⟩] → Sm { P.count with cls := P.cls ++ [⟨i, 92, arg, data, P.n, -1, -1, 0, 0⟩], pts := P.pts.set i ⟨some (.steal 1 0 0), true, (P.cls.length : Int), 0, 0⟩ } s' := fun s' h1 h2 h3 h4 h5 => G.sm.begins ht 92 arg data P.n (.steal 1 0 0) _ h1 h2 h3 h4 h5 rfl ⟨rfl, rfl, fun h => absurd h (by decide), fun h => absurd h (by decide)⟩
  have hcl : s.cls.length ≤ 65536 := by rw [G.sm.cls]; have := G.bd.cls; omega
  have hW1 : ∃ W1, W1 = W.alloc (mvO i 92 arg data) := ⟨_, rfl⟩
  obtain ⟨W1, hW1⟩ := hW1
  obtain ⟨G2, z0, z1, z2, z3, _, _⟩ := OutR.boxed G i 92 arg data hW1
  obtain ⟨b0, b1, b2, b3, b6, b7, b8, gb, gt, gw⟩ := G2.o.b0
  obtain ⟨a4, cap4, _, b4, _, _, _, _⟩ := G2.o.appC
  have y0 := G2.o
  obtain ⟨v0, v1, v2, v3, v4⟩ := G2.o.ts hu
  rw [hT] at v0
  obtain ⟨n1, n2, n3, n4, n5, n6⟩ := y0.neq
  have y1 := y0.setT (t' := ⟨s.cls.length, u.line, u.b, u.t, u.v⟩) hu 0 (by decide) (u := .int .i64 (s.cls.length : Int)) rfl
  have y2 := y1.setT (t' := ⟨s.cls.length, 1, u.b, u.t, u.v⟩) (set_at _ hu) 1 (by decide) (u := .int .i64 1) rfl
  have y3 := y2.setT (t' := ⟨s.cls.length, 1, 0, u.t, u.v⟩) (set_at _ (set_at _ hu)) 2 (by decide) (u := .int .i64 0) rfl
  have y4 := y3.setT (t' := ⟨s.cls.length, 1, 0, 0, u.v⟩) (set_at _ (set_at _ (set_at _ hu))) 3 (by decide) (u := .int .i64 0) rfl
  have y5 := y4.setT (t' := ⟨s.cls.length, 1, 0, 0, 0⟩) (set_at _ (set_at _ (set_at _ (set_at _ hu)))) 4 (by decide) (u := .int .i64 0) rfl
  simp only [List.set_set] at y5
  clear y0 y1 y2 y3 y4
  obtain ⟨W2, hW2⟩ : ∃ W2, (((((W1.setCell ⟨q.gt, i * 5, none⟩ (.int .i64 (s.cls.length : Int))).setCell ⟨q.gt, i * 5 + 1, none⟩ (.int .i64 1)).setCell ⟨q.gt, i * 5 + 2, none⟩ (.int .i64 0)).setCell ⟨q.gt, i * 5 + 3, none⟩ (.int .i64 0)).setCell ⟨q.gt, i * 5 + 4, none⟩ (.int .i64 0)).drew = W2 := ⟨_, rfl⟩
  have y6 : OutR W0 U0 q { s with ths := s.ths.set i ⟨s.cls.length, 1, 0, 0, 0⟩ } W2 := by rw [← hW2]; exact OutR.eqv y5 rfl rfl rfl rfl
  have ng : W.heap.size ≠ q.gt := by omega
  have zh : W2.heap[W.heap.size]? = some (.cells #[.int .i64 (i : Int), .int .i64 92, .int .i64 arg, .int .i64 data] 27 (0, 0)) := by
    rw [← hW2]
    show (World.setCell _ _ _).heap[_]? = _
    rw [Below.heap_setCell _ _ _ _ ng, Below.heap_setCell _ _ _ _ ng, Below.heap_setCell _ _ _ _ ng, Below.heap_setCell _ _ _ _ ng, Below.heap_setCell _ _ _ _ ng, hW1]
    exact heap_alloc_new W _
  have zz : ∀ j, W2.cell? ⟨W.heap.size, j, none⟩ = #[Value.int .i64 (i : Int), .int .i64 92, .int .i64 arg, .int .i64 data][j]? := fun j => cell_at zh j
  have r0 := zz 0
  have r1 := zz 1
  have r2 := zz 2
  have r3 := zz 3
  obtain ⟨a, cap, U, f4, hle, law, KP, FN⟩ := y6.appC
  obtain ⟨f0, f1, f2, f3, f6, f7, f8, fgb, fgt, fgw⟩ := y6.b0
  have lb2 : q.b < W2.heap.size := by obtain ⟨_, _, _, hR, _⟩ := y6; exact hR.lt
  have lw2 : W.heap.size < W2.heap.size := by rw [← hW2]; simp only [World.drew, World.setCell]; rw [hW1]; simp
  obtain ⟨vcx, vlx, hbx⟩ : ∃ vcx vlx, W2.heap[q.b]? = some (q.box vcx vlx s.n s.dn s.la) := by obtain ⟨_, _, _, hR, _⟩ := y6; exact ⟨_, _, hR.bx⟩
  have KS : Hid (∀ (p : Obj) (w1 : World) (hgrow : (W2.alloc p).drew.grownBy w1 (Value.slice a s.cls.length cap).ownBlock), w1.cell? ⟨q.b, 6, none⟩ = some (.int .i64 s.n) ∧ w1.cell? ⟨W.heap.size, 1, none⟩ = some (.int .i64 92) ∧ w1.cell? ⟨W.heap.size, 2, none⟩ = some (.int .i64 arg) ∧ w1.cell? ⟨W.heap.size, 3, none⟩ = some (.int .i64 data)) := Mr.hid (fun p w1 hgrow => by
    have k1 := KP.out p w1 hgrow _ _ _ hbx (by decide)
    have k2 := KP.out p w1 hgrow _ _ _ zh (by decide)
    exact ⟨cell_at k1 6, cell_at k2 1, cell_at k2 2, cell_at k2 3⟩)
  have nbm : q.b ≠ W.heap.size := by omega
  clear y6 y5 zz zh hbx KP
  replace hW2 := Mr.hid hW2
  replace G := Mr.hid G
  have b4o : (W.alloc (mvO i 92 arg data)).cell? ⟨q.b, 4, none⟩ = some (.slice a4 s.cls.length cap4) := hW1 ▸ b4
  replace G1 := Mr.hid G1
  replace G2 := Mr.hid G2
  replace fin := Mr.hid fin
  unfold mvO at hW1 x0 x1 x2 x3 c0 c1 c2 c3 c6 c7 c8 fb ft fw t0 b4o
  clear t1 t2 t3 t4
  replace hW1 := Mr.hid hW1
  clear ht hk hu hT
  go_enter Tryz.func25, Tryz.ntmps25
  go_wp2
  rw [← hW1.out]
  clear x0 x1 x2 x3 c0 c1 c2 c3 c6 c7 c8 fb ft fw t0 b4o
  go_region_held3 (fun w' => w'.cell? ⟨q.b, 2, none⟩ = some (.slice (some ⟨q.gw, 0, none⟩) (2 + q.r) q.cw) ∧ w'.cell? ⟨q.b, 3, none⟩ = some (.slice (some ⟨q.gt, 0, none⟩) q.nt q.ct) ∧ w'.cell? ⟨q.b, 4, none⟩ = some (.slice a4 s.cls.length cap4)) (go_keep) (fail)
  go_wp2
  rw [hW2.out]
  clear b0 b1 b2 b3 b6 b7 b8 gb gt gw b4 z0 z1 z2 z3 v0 v1 v2 v3 v4
  have hS2 : (W2.drew.alloc (.cells #[.int .i64 i, .int .i64 92, .int .i64 arg, .int .i64 data, .int .i64 s.n, .int .i64 (-1), .int .i64 (-1), .int .i64 0, .int .i64 0] 61)).cell? ⟨q.b, 6, none⟩ = some (.int .i64 s.n) ∧ (W2.drew.alloc (.cells #[.int .i64 i, .int .i64 92, .int .i64 arg, .int .i64 data, .int .i64 s.n, .int .i64 (-1), .int .i64 (-1), .int .i64 0, .int .i64 0] 61)).cell? ⟨W.heap.size, 1, none⟩ = some (.int .i64 92) ∧ (W2.drew.alloc (.cells #[.int .i64 i, .int .i64 92, .int .i64 arg, .int .i64 data, .int .i64 s.n, .int .i64 (-1), .int .i64 (-1), .int .i64 0, .int .i64 0] 61)).cell? ⟨W.heap.size, 2, none⟩ = some (.int .i64 arg) ∧ (W2.drew.alloc (.cells #[.int .i64 i, .int .i64 92, .int .i64 arg, .int .i64 data, .int .i64 s.n, .int .i64 (-1), .int .i64 (-1), .int .i64 0, .int .i64 0] 61)).cell? ⟨W.heap.size, 3, none⟩ = some (.int .i64 data) := ⟨(World.cell?_alloc_past _ _ _ lb2).trans f6, (World.cell?_alloc_past _ _ _ lw2).trans r1, (World.cell?_alloc_past _ _ _ lw2).trans r2, (World.cell?_alloc_past _ _ _ lw2).trans r3⟩
  have f4d : W2.drew.cell? ⟨q.b, 4, none⟩ = some (.slice a s.cls.length cap) := f4
  have f4e : (W2.drew.alloc (.cells #[.int .i64 i, .int .i64 92, .int .i64 arg, .int .i64 data, .int .i64 s.n, .int .i64 (-1), .int .i64 (-1), .int .i64 0, .int .i64 0] 61)).cell? ⟨q.b, 4, none⟩ = some (.slice a s.cls.length cap) := (World.cell?_alloc_past _ _ _ lb2).trans f4
  refine wp_region_held_drew (S := (fun w' => w'.cell? ⟨q.b, 6, none⟩ = some (.int .i64 s.n) ∧ w'.cell? ⟨W.heap.size, 1, none⟩ = some (.int .i64 92) ∧ w'.cell? ⟨W.heap.size, 2, none⟩ = some (.int .i64 arg) ∧ w'.cell? ⟨W.heap.size, 3, none⟩ = some (.int .i64 data))) (by kernel_rfl) ⟨f6, r1, r2, r3⟩ (fun hHeld => ?_)
  try simp only [Act.put, List.setIfInBounds_toArray, List.set_cons_zero, List.set_cons_succ]
  refine wpAnyH_take (i := 0) (oi := (⟨_, _, _, _, _, _⟩ : Oper)) (v := ?_) rfl (by kernel_rfl) (by kernel_rfl) (by kernel_rfl) (fun _ _ _ h => h) (Or.inl ⟨by rfl, ?_⟩) (by assumption) ?_
  rotate_left
  · intro w9 hSw
    (try dsimp only at hSw)
    go_simp
    all_goals (with_reducible rfl)
  try simp only [Act.put, List.setIfInBounds_toArray, List.set_cons_zero, List.set_cons_succ]
  refine wpAnyH_take (i := 1) (oi := (⟨_, _, _, _, _, _⟩ : Oper)) (v := ?_) rfl (by kernel_rfl) (by kernel_rfl) (by kernel_rfl) (fun _ _ _ h => h) (Or.inl ⟨by rfl, ?_⟩) (by assumption) ?_
  rotate_left
  · intro w9 hSw
    (try dsimp only at hSw)
    go_simp
    all_goals (with_reducible rfl)
  try simp only [Act.put, List.setIfInBounds_toArray, List.set_cons_zero, List.set_cons_succ]
  refine wpAnyH_take (i := 2) (oi := (⟨_, _, _, _, _, _⟩ : Oper)) (v := ?_) rfl (by kernel_rfl) (by kernel_rfl) (by kernel_rfl) (fun _ _ _ h => h) (Or.inl ⟨by rfl, ?_⟩) (by assumption) ?_
  rotate_left
  · intro w9 hSw
    (try dsimp only at hSw)
    go_simp
    all_goals (with_reducible rfl)
  try simp only [Act.put, List.setIfInBounds_toArray, List.set_cons_zero, List.set_cons_succ]
  refine wpAnyH_take (i := 3) (oi := (⟨_, _, _, _, _, _⟩ : Oper)) (v := ?_) rfl (by kernel_rfl) (by kernel_rfl) (by kernel_rfl) (fun _ _ _ h => h) (Or.inl ⟨by rfl, ?_⟩) (by assumption) ?_
  rotate_left
  · intro w9 hSw
    (try dsimp only at hSw)
    go_simp
    all_goals (with_reducible rfl)
  try simp only [Act.put, List.setIfInBounds_toArray, List.set_cons_zero, List.set_cons_succ]
  refine wpAnyH_take (i := 5) (oi := (⟨_, _, _, _, _, _⟩ : Oper)) (v := ?_) rfl (by kernel_rfl) (by kernel_rfl) (by kernel_rfl) (fun _ _ _ h => h) (Or.inl ⟨by rfl, ?_⟩) (by assumption) ?_
  rotate_left
  · intro w9 hSw
    (try dsimp only at hSw)
    go_simp
    all_goals (with_reducible rfl)
  try simp only [Act.put, List.setIfInBounds_toArray, List.set_cons_zero, List.set_cons_succ]
  refine wpAnyH_take (i := 6) (oi := (⟨_, _, _, _, _, _⟩ : Oper)) (v := ?_) rfl (by kernel_rfl) (by kernel_rfl) (by kernel_rfl) (fun _ _ _ h => h) (Or.inl ⟨by rfl, ?_⟩) (by assumption) ?_
  rotate_left
  · intro w9 hSw
    (try dsimp only at hSw)
    go_simp
    all_goals (with_reducible rfl)
  try simp only [Act.put, List.setIfInBounds_toArray, List.set_cons_zero, List.set_cons_succ]
  refine wpAnyH_take (i := 7) (oi := (⟨_, _, _, _, _, _⟩ : Oper)) (v := ?_) rfl (by kernel_rfl) (by kernel_rfl) (by kernel_rfl) (fun _ _ _ h => h) (Or.inl ⟨by rfl, ?_⟩) (by assumption) ?_
  rotate_left
  · intro w9 hSw
    (try dsimp only at hSw)
    go_simp
    all_goals (with_reducible rfl)
  try simp only [Act.put, List.setIfInBounds_toArray, List.set_cons_zero, List.set_cons_succ]
  refine wpAnyH_take (i := 8) (oi := (⟨_, _, _, _, _, _⟩ : Oper)) (v := ?_) rfl (by kernel_rfl) (by kernel_rfl) (by kernel_rfl) (fun _ _ _ h => h) (Or.inl ⟨by rfl, ?_⟩) (by assumption) ?_
  rotate_left
  · intro w9 hSw
    (try dsimp only at hSw)
    go_simp
    all_goals (with_reducible rfl)
  try simp only [Act.put, List.setIfInBounds_toArray, List.set_cons_zero, List.set_cons_succ]
  refine wpAnyH_take (i := 9) (oi := (⟨_, _, _, _, _, _⟩ : Oper)) (v := ?_) rfl (by kernel_rfl) (by kernel_rfl) (by kernel_rfl) (fun _ _ _ h => h) (Or.inl ⟨by rfl, ?_⟩) (by assumption) ?_
  rotate_left
  · intro w9 hSw
    (try dsimp only at hSw)
    go_simp
    all_goals (with_reducible rfl)
  try simp only [Act.put, List.setIfInBounds_toArray, List.set_cons_zero, List.set_cons_succ]
  refine wpAnyH_take (i := 10) (oi := (⟨_, _, _, _, _, _⟩ : Oper)) (v := ?_) rfl (by kernel_rfl) (by kernel_rfl) (by kernel_rfl) (fun _ _ _ h => h) (Or.inl ⟨by rfl, ?_⟩) (by assumption) ?_
  rotate_left
  · intro w9 hSw
    (try dsimp only at hSw)
    go_simp
    all_goals (with_reducible rfl)
  try simp only [Act.put, List.setIfInBounds_toArray, List.set_cons_zero, List.set_cons_succ]
  refine wpAnyH_take (i := 11) (oi := (⟨_, _, _, _, _, _⟩ : Oper)) (v := ?_) rfl (by kernel_rfl) (by kernel_rfl) (by kernel_rfl) (fun _ _ _ h => h) (Or.inl ⟨by rfl, ?_⟩) (by assumption) ?_
  rotate_left
  · intro w9 hSw
    (try dsimp only at hSw)
    go_simp
    all_goals (with_reducible rfl)
  try simp only [Act.put, List.setIfInBounds_toArray, List.set_cons_zero, List.set_cons_succ]
  refine wpAnyH_take (i := 12) (oi := (⟨_, _, _, _, _, _⟩ : Oper)) (v := ?_) rfl (by kernel_rfl) (by kernel_rfl) (by kernel_rfl) (fun _ _ _ h => h) (Or.inl ⟨by rfl, ?_⟩) (by assumption) ?_
  rotate_left
  · intro w9 hSw
    (try dsimp only at hSw)
    go_simp
    all_goals (with_reducible rfl)
  try simp only [Act.put, List.setIfInBounds_toArray, List.set_cons_zero, List.set_cons_succ]
  refine wpAnyH_take (i := 13) (oi := (⟨_, _, _, _, _, _⟩ : Oper)) (v := ?_) rfl (by kernel_rfl) (by kernel_rfl) (by kernel_rfl) (fun _ _ _ h => h) (Or.inl ⟨by rfl, ?_⟩) (by assumption) ?_
  rotate_left
  · intro w9 hSw
    (try dsimp only at hSw)
    go_simp
    all_goals (with_reducible rfl)
  try simp only [Act.put, List.setIfInBounds_toArray, List.set_cons_zero, List.set_cons_succ]
  refine wpAnyH_take (i := 14) (oi := (⟨_, _, _, _, _, _⟩ : Oper)) (v := ?_) rfl (by kernel_rfl) (by kernel_rfl) (by kernel_rfl) (fun _ _ _ h => h) (Or.inl ⟨by rfl, ?_⟩) (by assumption) ?_
  rotate_left
  · intro w9 hSw
    (try dsimp only at hSw)
    go_simp
    all_goals (with_reducible rfl)
  try simp only [Act.put, List.setIfInBounds_toArray, List.set_cons_zero, List.set_cons_succ]
  refine wpAnyH_take (i := 15) (oi := (⟨_, _, _, _, _, _⟩ : Oper)) (v := ?_) rfl (by kernel_rfl) (by kernel_rfl) (by kernel_rfl) (fun _ _ _ h => h) (Or.inl ⟨by rfl, ?_⟩) (by assumption) ?_
  rotate_left
  · intro w9 hSw
    (try dsimp only at hSw)
    go_simp
    all_goals (with_reducible rfl)
  try simp only [Act.put, List.setIfInBounds_toArray, List.set_cons_zero, List.set_cons_succ]
  refine wpAnyH_take (i := 16) (oi := (⟨_, _, _, _, _, _⟩ : Oper)) (v := ?_) rfl (by kernel_rfl) (by kernel_rfl) (by kernel_rfl) (fun _ _ _ h => h) (Or.inl ⟨by rfl, ?_⟩) (by assumption) ?_
  rotate_left
  · intro w9 hSw
    (try dsimp only at hSw)
    go_simp
    all_goals (with_reducible rfl)
  try simp only [Act.put, List.setIfInBounds_toArray, List.set_cons_zero, List.set_cons_succ]
  refine wpAnyH_ready (rs := [4, 17]) (by kernel_rfl) (by simp) (AllReadyH.cons rfl (fun K hK => ?a4) (AllReadyH.cons rfl (fun K hK => ?a17) AllReadyH.nil))
  case a4 =>
    go_simp
    refine hK.out _ _ hHeld (fun hHeld9 => ?_)
    clear hK K hHeld
    have hHeld := hHeld9
    clear hHeld9
    refine wpAnyH_ready (rs := [17]) (by kernel_rfl) (by simp) (AllReadyH.cons rfl (fun K hK => ?_) AllReadyH.nil)
    go_simp
    refine hK.out _ _ hS2 (fun hHeld9 => ?_)
    clear hK K hHeld
    have hHeld := hHeld9
    clear hHeld9
    refine wpAnyH_ready (rs := [18]) (by kernel_rfl) (by simp) (AllReadyH.cons rfl (fun K hK => ?_) AllReadyH.nil)
    refine step_append_has _ rfl (.tmp 72) (.tmp 85) 28 rfl (fun k => U k ∨ W2.heap.size ≤ k) 61 i0 _ 9 72 Tryz.underlying28 hi0 hz0 hz1 hz2 rfl (.slice a s.cls.length cap) s.cls.length (clc s.cls) (by simp [Act.eval]) (law.out _ (Below.alloc (Below.drew (Below.refl _ _)) (Nat.le_refl _) _)) ⟨W2.heap.size, 0, none⟩ 1 1 [.int .i64 i, .int .i64 92, .int .i64 arg, .int .i64 data, .int .i64 s.n, .int .i64 (-1), .int .i64 (-1), .int .i64 0, .int .i64 0] (by simp [Act.eval]) rfl (newsAt W2.drew _ #[.int .i64 i, .int .i64 92, .int .i64 arg, .int .i64 data, .int .i64 s.n, .int .i64 (-1), .int .i64 (-1), .int .i64 0, .int .i64 0] 61 _ rfl rfl) (by simp [Value.oneCell']) (by omega) (by unfold maxLen; omega) (by omega) (.inr (by simp)) ?_
    intro g cap' w1 hown hgrow hat
    obtain ⟨⟨kc, kf⟩, F9⟩ := FN.out _ w1 g cap' ⟨i, 92, arg, data, s.n, -1, -1, 0, 0⟩ hown hgrow
    have hS1 := KS.out _ w1 hgrow
    clear hown hgrow hat
    refine hK.out _ _ hS1 (fun hHeld9 => ?_)
    clear hK K hHeld
    have hHeld := hHeld9
    clear hHeld9
    refine wpAnyH_take (i := 19) (oi := (⟨_, _, _, _, _, _⟩ : Oper)) (v := ?_) rfl (by kernel_rfl) (by kernel_rfl) (by kernel_rfl) (fun _ _ _ h => h) (Or.inl ⟨by rfl, ?_⟩) (by assumption) ?_
    rotate_left
    · intro w9 hSw
      (try dsimp only at hSw)
      go_simp
      all_goals (with_reducible rfl)
    try simp only [Act.put, List.setIfInBounds_toArray, List.set_cons_zero, List.set_cons_succ]
    refine wpAnyH_take (i := 20) (oi := (⟨_, _, _, _, _, _⟩ : Oper)) (v := ?_) rfl (by kernel_rfl) (by kernel_rfl) (by kernel_rfl) (fun _ _ _ h => h) (Or.inl ⟨by rfl, ?_⟩) (by assumption) ?_
    rotate_left
    · intro w9 hSw
      (try dsimp only at hSw)
      go_simp
      all_goals (with_reducible rfl)
    try simp only [Act.put, List.setIfInBounds_toArray, List.set_cons_zero, List.set_cons_succ]
    refine wpAnyH_ready (rs := [21]) (by kernel_rfl) (by simp) (AllReadyH.cons rfl (fun K hK => ?_) AllReadyH.nil)
    go_simp
    refine hK.out _ _ ⟨(World.cell?_setCell_other w1 ⟨q.b, 4, none⟩ ⟨q.b, 6, none⟩ _ (by simp)).trans hS1.1, (World.cell?_setCell_far w1 ⟨q.b, 4, none⟩ ⟨W.heap.size, 1, none⟩ _ nbm).trans hS1.2.1, (World.cell?_setCell_far w1 ⟨q.b, 4, none⟩ ⟨W.heap.size, 2, none⟩ _ nbm).trans hS1.2.2.1, (World.cell?_setCell_far w1 ⟨q.b, 4, none⟩ ⟨W.heap.size, 3, none⟩ _ nbm).trans hS1.2.2.2⟩ (fun _ => wpAnyH_done (by kernel_rfl) ?_ _)
    clear hK K hHeld hS1
    go_wp2
    go_ret
    exact ⟨rfl, _, F9.out, G.out.n, fin.out _ rfl rfl ⟨rfl, rfl⟩ rfl (by rw [← G.out.n])⟩
  case a17 =>
    go_simp
    refine hK.out _ _ hS2 (fun hHeld9 => ?_)
    clear hK K hHeld
    have hHeld := hHeld9
    clear hHeld9
    refine wpAnyH_ready (rs := [4]) (by kernel_rfl) (by simp) (AllReadyH.cons rfl (fun K hK => ?_) AllReadyH.nil)
    go_simp
    refine hK.out _ _ hS2 (fun hHeld9 => ?_)
    clear hK K hHeld
    have hHeld := hHeld9
    clear hHeld9
    refine wpAnyH_ready (rs := [18]) (by kernel_rfl) (by simp) (AllReadyH.cons rfl (fun K hK => ?_) AllReadyH.nil)
    refine step_append_has _ rfl (.tmp 72) (.tmp 85) 28 rfl (fun k => U k ∨ W2.heap.size ≤ k) 61 i0 _ 9 72 Tryz.underlying28 hi0 hz0 hz1 hz2 rfl (.slice a s.cls.length cap) s.cls.length (clc s.cls) (by simp [Act.eval]) (law.out _ (Below.alloc (Below.drew (Below.refl _ _)) (Nat.le_refl _) _)) ⟨W2.heap.size, 0, none⟩ 1 1 [.int .i64 i, .int .i64 92, .int .i64 arg, .int .i64 data, .int .i64 s.n, .int .i64 (-1), .int .i64 (-1), .int .i64 0, .int .i64 0] (by simp [Act.eval]) rfl (newsAt W2.drew _ #[.int .i64 i, .int .i64 92, .int .i64 arg, .int .i64 data, .int .i64 s.n, .int .i64 (-1), .int .i64 (-1), .int .i64 0, .int .i64 0] 61 _ rfl rfl) (by simp [Value.oneCell']) (by omega) (by unfold maxLen; omega) (by omega) (.inr (by simp)) ?_
    intro g cap' w1 hown hgrow hat
    obtain ⟨⟨kc, kf⟩, F9⟩ := FN.out _ w1 g cap' ⟨i, 92, arg, data, s.n, -1, -1, 0, 0⟩ hown hgrow
    have hS1 := KS.out _ w1 hgrow
    clear hown hgrow hat
    refine hK.out _ _ hS1 (fun hHeld9 => ?_)
    clear hK K hHeld
    have hHeld := hHeld9
    clear hHeld9
    refine wpAnyH_take (i := 19) (oi := (⟨_, _, _, _, _, _⟩ : Oper)) (v := ?_) rfl (by kernel_rfl) (by kernel_rfl) (by kernel_rfl) (fun _ _ _ h => h) (Or.inl ⟨by rfl, ?_⟩) (by assumption) ?_
    rotate_left
    · intro w9 hSw
      (try dsimp only at hSw)
      go_simp
      all_goals (with_reducible rfl)
    try simp only [Act.put, List.setIfInBounds_toArray, List.set_cons_zero, List.set_cons_succ]
    refine wpAnyH_take (i := 20) (oi := (⟨_, _, _, _, _, _⟩ : Oper)) (v := ?_) rfl (by kernel_rfl) (by kernel_rfl) (by kernel_rfl) (fun _ _ _ h => h) (Or.inl ⟨by rfl, ?_⟩) (by assumption) ?_
    rotate_left
    · intro w9 hSw
      (try dsimp only at hSw)
      go_simp
      all_goals (with_reducible rfl)
    try simp only [Act.put, List.setIfInBounds_toArray, List.set_cons_zero, List.set_cons_succ]
    refine wpAnyH_ready (rs := [21]) (by kernel_rfl) (by simp) (AllReadyH.cons rfl (fun K hK => ?_) AllReadyH.nil)
    go_simp
    refine hK.out _ _ ⟨(World.cell?_setCell_other w1 ⟨q.b, 4, none⟩ ⟨q.b, 6, none⟩ _ (by simp)).trans hS1.1, (World.cell?_setCell_far w1 ⟨q.b, 4, none⟩ ⟨W.heap.size, 1, none⟩ _ nbm).trans hS1.2.1, (World.cell?_setCell_far w1 ⟨q.b, 4, none⟩ ⟨W.heap.size, 2, none⟩ _ nbm).trans hS1.2.2.1, (World.cell?_setCell_far w1 ⟨q.b, 4, none⟩ ⟨W.heap.size, 3, none⟩ _ nbm).trans hS1.2.2.2⟩ (fun _ => wpAnyH_done (by kernel_rfl) ?_ _)
    clear hK K hHeld hS1
    go_wp2
    go_ret
    exact ⟨rfl, _, F9.out, G.out.n, fin.out _ rfl rfl ⟨rfl, rfl⟩ rfl (by rw [← G.out.n])⟩
end
end Go.Proofs.YtnapnhmmopajfaaGreat.Rd
