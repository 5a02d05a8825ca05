import Derived.Test.YtglppcoohojmpaaJ19
import Derived.Deep.LoopGhost
import Derived.Deep.RegionHeld3
import Derived.Deep.Cut
import Derived.Deep.DeepCutAuto
/-
  THE DOCUMENT's MACHINE: a step: local work, one access, local work.
-/
namespace Go.Proofs.Ytglppcoohojmpaa.Rf
open Go.RowKit Mr Me Ma
def LocC (q : Rc) (vs : Value) (i : Nat) (I : Ins) (s s1 : Rs) : Prop := ∀ (W : World) (U : Nat → Prop) (vc vl : Value), Rm W U q vc vl vs s → Calls Try.prog 64 #[.pointer (some ⟨q.b, 0, none⟩), .int .i64 (i : Int), I.val] W fun e w' => e = .returned (.tuple #[]) ∧ OutR W U q vs s1 w'
def AccC (q : Rc) (vs : Value) (i : Nat) (I : Ins) (s s1 : Rs) : Prop := ∀ (W : World) (U : Nat → Prop) (vc vl : Value), Rm W U q vc vl vs s → Calls Try.prog 63 #[.pointer (some ⟨q.b, 0, none⟩), .int .i64 (i : Int), I.val] W fun e w' => e = .returned (.tuple #[]) ∧ OutR W U q vs s1 w'
/-- The instruction at which thread i stands. -/
def At (q : Rc) (s : Rs) (i : Nat) (I : Ins) : Prop := ∃ (t : Rt) (p : Nat), s.ths[i]? = some t ∧ t.busy = true ∧ t.pc = p ∧ q.code[p]? = some I
inductive Exe (q : Rc) (vs : Value) (i : Nat) : Nat → Bool → Rs → Rs → Prop where
  | stop {k : Nat} {m : Bool} {s : Rs} (h : ∃ t, s.ths[i]? = some t ∧ t.busy = false) : Exe q vs i k m s s
  | wait {k : Nat} {s : Rs} {I : Ins} (h : At q s i I) (hk : I.kd ≤ 3) : Exe q vs i (k + 1) true s s
  | acc {k : Nat} {s s1 s' : Rs} {I : Ins} (h : At q s i I) (hk : I.kd ≤ 3) (hc : AccC q vs i I s s1) (r : Exe q vs i k true s1 s') : Exe q vs i (k + 1) false s s'
  | loc {k : Nat} {m : Bool} {s s1 s' : Rs} {I : Ins} (h : At q s i I) (hk : ¬ I.kd ≤ 3) (hc : LocC q vs i I s s1) (r : Exe q vs i k m s1 s') : Exe q vs i (k + 1) m s s'
section
variable {W : World} {U : Nat → Prop} {q : Rc} {vc vl vs : Value} {s : Rs} {i : Nat} {t : Rt}
theorem Rm.instr (h : Rm W U q vc vl vs s) {p : Nat} {I : Ins} (hI : q.code[p]? = some I) : ∃ gd cd, q.vcd = .slice (some ⟨gd, 0, none⟩) q.code.length cd ∧ gd < W.heap.size ∧ cd ≤ 9223372036854775807 ∧ gd ≠ q.gt ∧ (W.cell? ⟨gd, p * 6, none⟩ = some (.int .i64 I.kd) ∧ W.cell? ⟨gd, p * 6 + 1, none⟩ = some (.int .i64 I.a) ∧ W.cell? ⟨gd, p * 6 + 2, none⟩ = some (.int .i64 I.b) ∧ W.cell? ⟨gd, p * 6 + 3, none⟩ = some (.int .i64 I.c) ∧ W.cell? ⟨gd, p * 6 + 4, none⟩ = some (.int .i64 I.d) ∧ W.cell? ⟨gd, p * 6 + 5, none⟩ = some (.int .i64 I.to)) := by
  have hl := (List.getElem?_eq_some_iff.1 hI).1
  obtain ⟨gd, cd, hv, _, hgl, _, hx⟩ := h.cd.there (by omega)
  have hc : ∀ (j : Nat) (u : Value), j < 6 → I.cells[j]? = some u → W.cell? ⟨gd, p * 6 + j, none⟩ = some u := fun j u hj hu => h.cd.cells (g := gd) (by rw [hv]; rfl) _ _ (by rw [flat_get ins_len _ _ _ I hI hj]; exact hu)
  have h0 := hc 0 _ (by decide) rfl
  rw [Nat.add_zero] at h0
  exact ⟨gd, cd, hv, hgl, by unfold maxLen at hx; omega, fun e => has_ne h.cd h.th (by decide) gd (by rw [hv]; rfl) (by rw [e]; rfl), h0, hc 1 _ (by decide) rfl, hc 2 _ (by decide) rfl, hc 3 _ (by decide) rfl, hc 4 _ (by decide) rfl, hc 5 _ (by decide) rfl⟩
set_option maxRecDepth 100000 in
set_option maxHeartbeats 4000000 in
theorem step_any (h : Rm W U q vc vl vs s) {k : Nat} {s' : Rs} (E : Exe q vs i k false s s') (hi : i < q.nt) :
    Calls Try.prog 53 #[.pointer (some ⟨q.b, 0, none⟩), .int .i64 (i : Int)] W fun e w' => e = .returned (.tuple #[]) ∧ OutR W U q vs s' w' := by
  obtain ⟨⟨x7, x8, x9, x10, x11⟩, _⟩ := h.cells
  have hii : (i : Int) < (q.nt : Int) := by omega
  have hn : q.nt ≤ 9223372036854775807 := by
    obtain ⟨_, _, e, _, _, _, hq⟩ := h.th.there (by omega)
    cases e
    unfold maxLen at hq
    omega
  have O0 := Mr.hid (OutR.of h (Fr.refl W U))
  replace h := Mr.hid h
  replace E := Mr.hid E
  go_enter Try.func53, Try.ntmps53
  go_wp2
  clear x7 x8 x9 x10 x11
  go_loopg [5] k (fun k z wy => ∃ (m : Bool) (sx : Rs), z = .bool m ∧ Exe q vs i k m sx s' ∧ OutR W U q vs sx wy)
  case atStart => exact ⟨false, s, rfl, E.out, O0.out⟩
  case round =>
    obtain ⟨m, sx, rfl, Ex, U1, vc1, vl1, h1, o1, o2, o3⟩ := hrel
    clear O0 E
    obtain ⟨⟨x7, x8, x9, x10, x11⟩, _⟩ := h1.cells
    have l1 := h1.lt
    have l2 := h1.gtl.2
    have ngb := h1.gtb
    have ngb' := ngb.symm
    have main : ∀ (t : Rt), sx.ths[i]? = some t → wr.cell? ⟨q.gt, i * 658, none⟩ = some (.bool t.busy) ∧ wr.cell? ⟨q.gt, i * 658 + 2, none⟩ = some (.int .i64 t.pc) := fun t ht => by
      have h0 := h1.tcell ht 0 (by decide) (rt_busy t)
      rw [Nat.add_zero] at h0
      exact ⟨h0, h1.tcell ht 2 (by decide) (rt_pc t)⟩
    cases Ex with
    | stop hs =>
      obtain ⟨t, ht, hb⟩ := hs
      obtain ⟨t0, t2⟩ := main t ht
      rw [hb] at t0
      have F9 : OutR W U q vs _ wr := ⟨U1, vc1, vl1, h1, o1, o2, o3⟩
      replace F9 := Mr.hid F9
      replace h1 := Mr.hid h1
      clear main o1 o2 o3 ht hb
      go_wp2
      go_end0
      exact ⟨rfl, F9.out⟩
    | @wait k1 _ I hA hk =>
      obtain ⟨t, p, ht, hb, hp, hI⟩ := hA
      obtain ⟨t0, t2⟩ := main t ht
      rw [hb] at t0
      rw [hp] at t2
      obtain ⟨gd, cd, hvd, lgd, hcd, ngd, c0, c1, c2, c3, c4, c5⟩ := h1.instr hI
      rw [hvd] at x8
      have hpl : (p : Int) < (q.code.length : Int) := by have := (List.getElem?_eq_some_iff.1 hI).1; omega
      have ngd' := ngd.symm
      have FN := fun (w4 : World) (hB : Below wr.heap.size wr w4) => OutR.trans o1 o2 o3 (OutR.of (W := wr) (h1.below hB) (Fr.of_below hB))
      have dk : decide (I.kd ≤ 3) = true := decide_eq_true hk
      replace FN := Mr.hid FN
      replace h1 := Mr.hid h1
      clear main o1 o2 o3 ht hb hI hk hp
      go_upto_region 3 with fail
      go_cut [6] (fun z wx => ∃ B, z = .pointer (some ⟨B, 0, none⟩) ∧ Below wr.heap.size wr wx ∧ wx.heap[B]? = some (.cells #[.int .i64 I.kd, .int .i64 I.a, .int .i64 I.b, .int .i64 I.c, .int .i64 I.d, .int .i64 I.to] 112 (0, 0)))
      case first =>
        go_region_held3 (fun w' => w'.cell? ⟨q.b, 8, none⟩ = some (.slice (some ⟨gd, 0, none⟩) q.code.length cd) ∧ w'.cell? ⟨q.gt, i * 658 + 2, none⟩ = some (.int .i64 (p : Int)) ∧ w'.cell? ⟨gd, p * 6, none⟩ = some (.int .i64 I.kd) ∧ w'.cell? ⟨gd, p * 6 + 1, none⟩ = some (.int .i64 I.a) ∧ w'.cell? ⟨gd, p * 6 + 2, none⟩ = some (.int .i64 I.b) ∧ w'.cell? ⟨gd, p * 6 + 3, none⟩ = some (.int .i64 I.c) ∧ w'.cell? ⟨gd, p * 6 + 4, none⟩ = some (.int .i64 I.d) ∧ w'.cell? ⟨gd, p * 6 + 5, none⟩ = some (.int .i64 I.to)) (go_keep) (fail)
        all_goals go_wp2
        all_goals go_meet
        case rel => exact ⟨_, rfl, ((Below.refl _ _).alloc (Nat.le_refl _) _).drew, heap_alloc_new _ _⟩
      case rest =>
        obtain ⟨B, rfl, hBx, hbx⟩ := hcut
        have y : wc.cell? ⟨B, 0, none⟩ = some (.int .i64 I.kd) ∧ wc.cell? ⟨B, 1, none⟩ = some (.int .i64 I.a) ∧ wc.cell? ⟨B, 2, none⟩ = some (.int .i64 I.b) ∧ wc.cell? ⟨B, 3, none⟩ = some (.int .i64 I.c) ∧ wc.cell? ⟨B, 4, none⟩ = some (.int .i64 I.d) ∧ wc.cell? ⟨B, 5, none⟩ = some (.int .i64 I.to) := by simp [World.cell?, hbx]
        obtain ⟨y0, y1, y2, y3, y4, y5⟩ := y
        clear hbx x7 x8 x9 x10 x11 t0 t2 c0 c1 c2 c3 c4 c5
        have F9 := Mr.hid (FN.out wc hBx)
        clear FN hBx
        go_wp2
        try simp only [Exit.inBlock, Exit.then]
        refine bodyPost_ret (results_none rfl _ _ _) rfl ?_
        exact ⟨rfl, F9.out⟩
    | @acc k1 _ s1 _ I hA hk hc r =>
      obtain ⟨t, p, ht, hb, hp, hI⟩ := hA
      obtain ⟨t0, t2⟩ := main t ht
      rw [hb] at t0
      rw [hp] at t2
      obtain ⟨gd, cd, hvd, lgd, hcd, ngd, c0, c1, c2, c3, c4, c5⟩ := h1.instr hI
      rw [hvd] at x8
      have hpl : (p : Int) < (q.code.length : Int) := by have := (List.getElem?_eq_some_iff.1 hI).1; omega
      have ngd' := ngd.symm
      have LC := fun (w4 : World) (hB : Below wr.heap.size wr w4) => hc w4 U1 vc1 vl1 (h1.below hB)
      unfold Ins.val at LC
      have FN := fun (w4 w5 : World) (hB : Below wr.heap.size wr w4) (hO : OutR w4 U1 q vs s1 w5) => OutR.trans o1 o2 (o3.trans ((Fr.of_below hB).mono (fun k hk => o2 k hk))) hO
      have dk : decide (I.kd ≤ 3) = true := decide_eq_true hk
      replace LC := Mr.hid LC
      replace FN := Mr.hid FN
      replace r := Mr.hid r
      replace h1 := Mr.hid h1
      clear main o1 o2 o3 ht hb hI hc hk hp
      go_upto_region 3 with fail
      go_cut [6] (fun z wx => ∃ B, z = .pointer (some ⟨B, 0, none⟩) ∧ Below wr.heap.size wr wx ∧ wx.heap[B]? = some (.cells #[.int .i64 I.kd, .int .i64 I.a, .int .i64 I.b, .int .i64 I.c, .int .i64 I.d, .int .i64 I.to] 112 (0, 0)))
      case first =>
        go_region_held3 (fun w' => w'.cell? ⟨q.b, 8, none⟩ = some (.slice (some ⟨gd, 0, none⟩) q.code.length cd) ∧ w'.cell? ⟨q.gt, i * 658 + 2, none⟩ = some (.int .i64 (p : Int)) ∧ w'.cell? ⟨gd, p * 6, none⟩ = some (.int .i64 I.kd) ∧ w'.cell? ⟨gd, p * 6 + 1, none⟩ = some (.int .i64 I.a) ∧ w'.cell? ⟨gd, p * 6 + 2, none⟩ = some (.int .i64 I.b) ∧ w'.cell? ⟨gd, p * 6 + 3, none⟩ = some (.int .i64 I.c) ∧ w'.cell? ⟨gd, p * 6 + 4, none⟩ = some (.int .i64 I.d) ∧ w'.cell? ⟨gd, p * 6 + 5, none⟩ = some (.int .i64 I.to)) (go_keep) (fail)
        all_goals go_wp2
        all_goals go_meet
        case rel => exact ⟨_, rfl, ((Below.refl _ _).alloc (Nat.le_refl _) _).drew, heap_alloc_new _ _⟩
      case rest =>
        obtain ⟨B, rfl, hBx, hbx⟩ := hcut
        have y : wc.cell? ⟨B, 0, none⟩ = some (.int .i64 I.kd) ∧ wc.cell? ⟨B, 1, none⟩ = some (.int .i64 I.a) ∧ wc.cell? ⟨B, 2, none⟩ = some (.int .i64 I.b) ∧ wc.cell? ⟨B, 3, none⟩ = some (.int .i64 I.c) ∧ wc.cell? ⟨B, 4, none⟩ = some (.int .i64 I.d) ∧ wc.cell? ⟨B, 5, none⟩ = some (.int .i64 I.to) := by simp [World.cell?, hbx]
        obtain ⟨y0, y1, y2, y3, y4, y5⟩ := y
        clear hbx x7 x8 x9 x10 x11 t0 t2 c0 c1 c2 c3 c4 c5
        have LC5 := LC.out wc hBx
        have FN5 := fun w5 => FN.out wc w5 hBx
        replace LC5 := Mr.hid LC5
        replace FN5 := Mr.hid FN5
        clear LC FN hBx
        go_wp2_with (go_at_call 63; refine LC5.out.mono ?_; clear LC5; rintro e w5 ⟨rfl, hO⟩; have F9 := FN5.out w5 hO; clear FN5 hO; replace F9 := Mr.hid F9)
        go_roundg k1
        case measure => omega
        case rel => exact ⟨true, s1, rfl, r.out, F9.out⟩
    | @loc k1 _ _ s1 _ I hA hk hc r =>
      obtain ⟨t, p, ht, hb, hp, hI⟩ := hA
      obtain ⟨t0, t2⟩ := main t ht
      rw [hb] at t0
      rw [hp] at t2
      obtain ⟨gd, cd, hvd, lgd, hcd, ngd, c0, c1, c2, c3, c4, c5⟩ := h1.instr hI
      rw [hvd] at x8
      have hpl : (p : Int) < (q.code.length : Int) := by have := (List.getElem?_eq_some_iff.1 hI).1; omega
      have ngd' := ngd.symm
      have LC := fun (w4 : World) (hB : Below wr.heap.size wr w4) => hc w4 U1 vc1 vl1 (h1.below hB)
      unfold Ins.val at LC
      have FN := fun (w4 w5 : World) (hB : Below wr.heap.size wr w4) (hO : OutR w4 U1 q vs s1 w5) => OutR.trans o1 o2 (o3.trans ((Fr.of_below hB).mono (fun k hk => o2 k hk))) hO
      have dk : decide (I.kd ≤ 3) = false := decide_eq_false hk
      replace LC := Mr.hid LC
      replace FN := Mr.hid FN
      replace r := Mr.hid r
      replace h1 := Mr.hid h1
      clear main o1 o2 o3 ht hb hI hc hk hp
      go_upto_region 3 with fail
      go_cut [6] (fun z wx => ∃ B, z = .pointer (some ⟨B, 0, none⟩) ∧ Below wr.heap.size wr wx ∧ wx.heap[B]? = some (.cells #[.int .i64 I.kd, .int .i64 I.a, .int .i64 I.b, .int .i64 I.c, .int .i64 I.d, .int .i64 I.to] 112 (0, 0)))
      case first =>
        go_region_held3 (fun w' => w'.cell? ⟨q.b, 8, none⟩ = some (.slice (some ⟨gd, 0, none⟩) q.code.length cd) ∧ w'.cell? ⟨q.gt, i * 658 + 2, none⟩ = some (.int .i64 (p : Int)) ∧ w'.cell? ⟨gd, p * 6, none⟩ = some (.int .i64 I.kd) ∧ w'.cell? ⟨gd, p * 6 + 1, none⟩ = some (.int .i64 I.a) ∧ w'.cell? ⟨gd, p * 6 + 2, none⟩ = some (.int .i64 I.b) ∧ w'.cell? ⟨gd, p * 6 + 3, none⟩ = some (.int .i64 I.c) ∧ w'.cell? ⟨gd, p * 6 + 4, none⟩ = some (.int .i64 I.d) ∧ w'.cell? ⟨gd, p * 6 + 5, none⟩ = some (.int .i64 I.to)) (go_keep) (fail)
        all_goals go_wp2
        all_goals go_meet
        case rel => exact ⟨_, rfl, ((Below.refl _ _).alloc (Nat.le_refl _) _).drew, heap_alloc_new _ _⟩
      case rest =>
        obtain ⟨B, rfl, hBx, hbx⟩ := hcut
        have y : wc.cell? ⟨B, 0, none⟩ = some (.int .i64 I.kd) ∧ wc.cell? ⟨B, 1, none⟩ = some (.int .i64 I.a) ∧ wc.cell? ⟨B, 2, none⟩ = some (.int .i64 I.b) ∧ wc.cell? ⟨B, 3, none⟩ = some (.int .i64 I.c) ∧ wc.cell? ⟨B, 4, none⟩ = some (.int .i64 I.d) ∧ wc.cell? ⟨B, 5, none⟩ = some (.int .i64 I.to) := by simp [World.cell?, hbx]
        obtain ⟨y0, y1, y2, y3, y4, y5⟩ := y
        clear hbx x7 x8 x9 x10 x11 t0 t2 c0 c1 c2 c3 c4 c5
        have LC5 := LC.out wc hBx
        have FN5 := fun w5 => FN.out wc w5 hBx
        replace LC5 := Mr.hid LC5
        replace FN5 := Mr.hid FN5
        clear LC FN hBx
        go_wp2_with (go_at_call 64; refine LC5.out.mono ?_; clear LC5; rintro e w5 ⟨rfl, hO⟩; have F9 := FN5.out w5 hO; clear FN5 hO; replace F9 := Mr.hid F9)
        go_roundg k1
        case measure => omega
        case rel => exact ⟨m, s1, rfl, r.out, F9.out⟩
end
end Go.Proofs.Ytglppcoohojmpaa.Rf
/-
  THE DOCUMENT's MACHINE: whether a call may begin.
-/
namespace Go.Proofs.Ytglppcoohojmpaa.Rf
open Go.RowKit Mr Me Ma
theorem drawn {n : Nat} {w0 w : World} (h : Below n w0 w) (k : Nat) : Below n w0 (w.drewN k) := h.trans ⟨rfl, rfl, rfl, Nat.le_refl _, fun _ _ => rfl⟩
section
variable {W : World} {U : Nat → Prop} {q : Rc} {vc vl vs : Value} {s : Rs} {i : Nat} {t : Rt}
set_option maxRecDepth 100000 in
set_option maxHeartbeats 4000000 in
theorem may_addr (h : Rm W U q vc vl vs s) (ht : s.ths[i]? = some t) (op arg data : Int) :
    Calls Try.prog 54 #[.pointer (some ⟨q.b, 0, none⟩), .agg #[.int .i64 (i : Int), .int .i64 op, .int .i64 arg, .int .i64 data], .int .i64 5] W fun e w' => e = .returned (.bool (decide (0 ≤ arg) && decide (arg < s.ws.length))) ∧ Below W.heap.size W w' := by
  obtain ⟨⟨x7, x8, x9, x10, x11⟩, _⟩ := h.cells
  have l1 := h.lt
  have l2 := h.gtl.2
  have hi : (i : Int) < (q.nt : Int) := by have := h.il ht; omega
  have hn := h.ntl ht
  have t53 := h.tcell ht 53 (by decide) (rt_rc t)
  obtain ⟨aw, cw, hvw, hcw⟩ := h.wd.form
  rw [hvw] at x7
  have hB : ∀ nq, Below W.heap.size W ((W.alloc (.cells #[.int .i64 (i : Int), .int .i64 op, .int .i64 arg, .int .i64 data] 46)).drew.drewN nq) := fun nq => by
    have := (Below.refl W.heap.size W).alloc (Nat.le_refl _) (.cells #[.int .i64 (i : Int), .int .i64 op, .int .i64 arg, .int .i64 data] 46)
    exact drawn this.drew nq
  replace hB := Mr.hid hB
  replace ht := Mr.hid ht
  replace h := Mr.hid h
  by_cases h0 : 0 ≤ arg
  · have d0 : decide (0 ≤ arg) = true := decide_eq_true h0
    rw [d0]
    go_enter Try.func54, Try.ntmps54
    go_wp2
    go_region
    go_wp2
    go_quiet (fail)
    go_wp2
    go_ret
    exact ⟨by simp, hB.out _⟩
  · have d0 : decide (0 ≤ arg) = false := decide_eq_false h0
    rw [d0]
    go_enter Try.func54, Try.ntmps54
    go_wp2
    go_region
    go_wp2
    go_quiet (fail)
    go_wp2
    go_ret
    exact ⟨by simp, hB.out _⟩
end
end Go.Proofs.Ytglppcoohojmpaa.Rf
