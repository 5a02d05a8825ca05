import Derived.Test.YtkimmfdicohoiaaGreatJ22
/-
  PUTTING's run, place by place (made by gengive.py).
-/
namespace Go.Proofs.YtkimmfdicohoiaaGreat.Ar
open Go.RowKit Mr Me Ma Wc Wm
section
variable {q : Pl} {N : Nat} {T : Nat → Prop} {vs : List Value} {sp : Bool} {s : Ss} {A : Ao} {k : Pk} {dn : Int} {xs : Array Value} {l : Int} {W w : World}
set_option maxRecDepth 100000 in
set_option maxHeartbeats 1000000 in
theorem give_hit (h : Rn q false s A (gvA q k 0) W) (hk : k.nx = 8) (hr : s.shs.length ≤ 100000) (hb : Me.Roomy s.lg s.ah) (hs : A.has k.sl) (hsl : k.sl ≤ 2147483646) (h0 : 0 < s.ws.length) (hd0 : 0 ≤ k.hd) (hd1 : k.hd ≤ 18446744073709551615) (hd2 : k.hd % 4294967296 ≤ 2147483647) (ho : s.ws[0]?.getD 0 = k.hd) :
    Calls Tryz.prog 74 #[.pointer (some ⟨q.bt, 0, none⟩), .agg #[.pointer (some ⟨q.p.bd, 0, none⟩), .int .i64 1]] W fun e w' => e = .returned (.bool true) ∧ Rn q true ((s.hits q.i q.now 0 k.hd (headBehind k.hd k.sl)).shifts q.i q.now k.sl (A.st k.sl).1 0) (A.put k.sl 0 q.i) (gvA q { k with nx := 0 } 0) w' := by
  obtain ⟨T, vs, i0⟩ := h.start 1
  obtain ⟨⟨c0, c1, c2, c3, c4, c5⟩, cz, x0, x1, xz⟩ := i0.gv
  rw [hk] at c3
  have ne := i0.ne
  have ne' : W.heap.size ≠ q.bt := fun e => ne e.symm
  have cellW := fun (sp' : Bool) (s' : Ss) (k' : Pk) (A' : Ao) (vs' : List Value) (l' : Int) (w1 : World) (T' : Nat → Prop) (h1 : In q W.heap.size T' vs' sp' s' A' (gvA q k' 0) l' w1) => h1.gv
  have hn : -1 ≤ k.sl ∧ k.sl ≤ 2147483646 := by have := hs.1; omega
  have HB := fun w => headBehind_any k.hd k.sl w hd0 hd1 hd2 hn.1 hn.2
  have AC := i0.acc1
  have FR := fun (w1 : World) (h1 : In q W.heap.size T vs false s A (gvA q k 0) 0 w1) => h1.drew.free
  have SW := fun (w1 : World) (h1 : In q W.heap.size T vs false s A (gvA q k 0) 0 w1) => h1.hit hb 0 h0 k.hd (headBehind k.hd k.sl) ho
  have SH := fun (w1 : World) (h1 : In q W.heap.size T vs true (s.hits q.i q.now 0 k.hd (headBehind k.hd k.sl)) A (gvA q k 0) 0 w1) => h1.drew.shift hr k.sl 0 hs (by decide)
  clear h hb h0 ho hd0 hd1 hd2 hn hs hsl hr
  generalize ((s.hits q.i q.now 0 k.hd (headBehind k.hd k.sl)).shifts q.i q.now k.sl (A.st k.sl).1 0) = s2 at *
  generalize (s.hits q.i q.now 0 k.hd (headBehind k.hd k.sl)) = s1 at *
  generalize (headBehind k.hd k.sl) = y at *
  generalize A.put k.sl 0 q.i = A1 at *
  replace FR := Mr.hid FR
  replace SW := Mr.hid SW
  replace AC := Mr.hid AC
  replace cellW := Mr.hid cellW
  replace i0 := Mr.hid i0
  replace HB := Mr.hid HB
  replace SH := Mr.hid SH
  go_enter Tryz.func74, Tryz.ntmps74
  go_wp2
  go_step3
  go_wp2
  go_step3
  go_wp2
  generalize W.alloc (.cells #[.pointer (some ⟨q.p.bd, 0, none⟩), .int .i64 1] 158) = V at *
  generalize W.heap.size = N at *
  refine wp_loop_rounds 2 ?_
  rw [rounds_succ]
  go_wp2_with (first | (go_at_call 100; refine AC.out.mono ?_; clear AC; rintro e v1 ⟨rfl, i1⟩; clear c0 c1 c2 c3 c4 c5 cz x0 x1 xz; obtain ⟨⟨c0, c1, c2, c3, c4, c5⟩, cz, x0, x1, xz⟩ := cellW.out _ _ _ _ _ _ v1 _ i1; have FR1 := FR.out v1 i1; clear FR; replace FR1 := Mr.hid FR1; replace i1 := Mr.hid i1))
  go_region_held3 (fun w' => w'.cell? ⟨N, 0, none⟩ = some (.pointer (some ⟨q.p.bd, 0, none⟩)) ∧ w'.cell? ⟨q.bt, 2, none⟩ = some (.int .i64 k.sl) ∧ w'.cell? ⟨q.bt, 4, none⟩ = some (.int .u64 k.hd)) (go_keep)
    (first | (go_at_call 102; refine FR1.out.mono ?_; clear FR1; rintro e w1 ⟨rfl, j1⟩; clear c0 c1 c2 c3 c4 c5 cz x0 x1 xz; obtain ⟨⟨c0, c1, c2, c3, c4, c5⟩, cz, x0, x1, xz⟩ := cellW.out _ _ _ _ _ _ w1 _ j1; have SW1 := SW.out w1 j1; replace SW1 := Mr.hid SW1; replace j1 := Mr.hid j1) | (go_at_call 106; refine (HB.out _).mono ?_; rintro e w' ⟨rfl, hw⟩; obtain rfl := hw.symm) | (go_at_call 105; refine SW1.out.mono ?_; clear SW1; rintro e w2 ⟨rfl, j2⟩; clear c0 c1 c2 c3 c4 c5 cz x0 x1 xz; obtain ⟨⟨c0, c1, c2, c3, c4, c5⟩, cz, x0, x1, xz⟩ := cellW.out _ _ _ _ _ _ w2 _ j2; have SH2 := SH.out w2 j2; replace SH2 := Mr.hid SH2; replace j2 := Mr.hid j2))
  all_goals (rw [hk] at c3)
  all_goals go_wp2
  all_goals go_region_held3 (fun w' => w'.cell? ⟨N, 0, none⟩ = some (.pointer (some ⟨q.p.bd, 0, none⟩)) ∧ w'.cell? ⟨q.bt, 2, none⟩ = some (.int .i64 k.sl)) (simp [*])
    (first | (go_at_call 22; refine SH2.out.mono ?_; clear SH2; rintro e w3 ⟨rfl, j3⟩; clear c0 c1 c2 c3 c4 c5 cz x0 x1 xz; obtain ⟨⟨c0, c1, c2, c3, c4, c5⟩, cz, x0, x1, xz⟩ := cellW.out _ _ _ _ _ _ w3 _ j3; replace j3 := Mr.hid j3))
  all_goals (rw [hk] at c3)
  all_goals (have j9 := j3.out.setT 3 (.int .i64 0))
  all_goals (have c9 := In.at j9 3 _ rfl)
  all_goals (replace j9 := Mr.hid j9)
  all_goals go_wp2
  all_goals rw [rounds_succ]
  all_goals go_wp2
  all_goals dsimp only [Exit.noGoto]
  all_goals go_ret
  all_goals exact ⟨rfl, j9.out.done⟩
end
end Go.Proofs.YtkimmfdicohoiaaGreat.Ar
/-
  PUTTING's run, place by place (made by gengive.py).
-/
namespace Go.Proofs.YtkimmfdicohoiaaGreat.Ar
open Go.RowKit Mr Me Ma Wc Wm
section
variable {q : Pl} {N : Nat} {T : Nat → Prop} {vs : List Value} {sp : Bool} {s : Ss} {A : Ao} {k : Pk} {dn : Int} {xs : Array Value} {l : Int} {W w : World}
set_option maxRecDepth 100000 in
set_option maxHeartbeats 1000000 in
theorem give_room (h : Rn q sp s A (gvA q k dn) W) (hq : q.WS.heap.size ≤ W.heap.size) (hk : k.nx = 2) (hr : s.shs.length ≤ 100000) (hi : q.i < A.ca.length) (hc : (A.cache q.i).length ≤ 100000) (K : Nat) (hK : q.c.a4 = K) (hroom : (A.cache q.i).length < K) (hs : A.has k.sl) :
    Calls Tryz.prog 74 #[.pointer (some ⟨q.bt, 0, none⟩), .agg #[.pointer (some ⟨q.p.bd, 0, none⟩), .int .i64 0]] W fun e w' => e = .returned (.bool true) ∧ Rn q sp (s.shifts q.i q.now k.sl (A.st k.sl).1 1) ((A.keep q.i (A.cache q.i ++ [k.sl])).put k.sl 1 q.i) (gvA q { k with nx := 0 } dn) w' := by
  obtain ⟨T, vs, i0⟩ := h.start 0
  obtain ⟨⟨c0, c1, c2, c3, c4, c5⟩, cz, x0, x1, xz⟩ := i0.gv
  rw [hk] at c3
  have ne := i0.ne
  have ne' : W.heap.size ≠ q.bt := fun e => ne e.symm
  have cellW := fun (sp' : Bool) (s' : Ss) (k' : Pk) (A' : Ao) (vs' : List Value) (l' : Int) (w1 : World) (T' : Nat → Prop) (h1 : In q W.heap.size T' vs' sp' s' A' (gvA q k' dn) l' w1) => h1.gv
  have hWS : ∀ (w1 : World), In q W.heap.size T vs sp s A (gvA q { k with nx := 5 } dn) 0 w1 → q.WS.heap.size ≤ w1.heap.size := fun w1 h1 => Nat.le_trans hq (Nat.le_of_lt (h1.e.tl _ (.inr rfl)))
  have j1 : In q W.heap.size T vs sp s A (gvA q { k with nx := 5 } dn) 0 _ := i0.setT 3 (.int .i64 5)
  have RM := j1.room hi K hK
  rw [decide_eq_true hroom] at RM
  have PT := fun (w1 : World) (h1 : In q W.heap.size T vs sp s A (gvA q { k with nx := 5 } dn) 0 w1) => h1.drew.put hi hc (hWS _ h1.drew) k.sl
  have SH := fun (T' : Nat → Prop) (vs' : List Value) (w1 : World) (h1 : In q W.heap.size T' vs' sp s (A.keep q.i (A.cache q.i ++ [k.sl])) (gvA q { k with nx := 5 } dn) 0 w1) => (show Calls Tryz.prog 22 #[.pointer (some ⟨q.ba, 0, none⟩), .pointer (some ⟨q.p.bd, 0, none⟩), .int .i64 k.sl, .int .i64 1] w1.drew fun e w' => e = .returned (.tuple #[]) ∧ In q W.heap.size T' vs' sp (s.shifts q.i q.now k.sl (A.st k.sl).1 1) ((A.keep q.i (A.cache q.i ++ [k.sl])).put k.sl 1 q.i) (gvA q { k with nx := 5 } dn) 0 w' from h1.drew.shift hr k.sl 1 hs (by decide))
  clear h hq hr hi hc hK hroom hs j1 hWS
  generalize s.shifts q.i q.now k.sl (A.st k.sl).1 1 = s1 at *
  generalize (A.keep q.i (A.cache q.i ++ [k.sl])).put k.sl 1 q.i = A2 at *
  generalize A.keep q.i (A.cache q.i ++ [k.sl]) = A1 at *
  replace RM := Mr.hid RM
  replace PT := Mr.hid PT
  replace SH := Mr.hid SH
  replace cellW := Mr.hid cellW
  replace i0 := Mr.hid i0
  go_enter Tryz.func74, Tryz.ntmps74
  go_wp2
  go_step3
  go_wp2
  go_step3
  go_wp2
  generalize W.alloc (.cells #[.pointer (some ⟨q.p.bd, 0, none⟩), .int .i64 0] 158) = V at *
  generalize W.heap.size = N at *
  refine wp_loop_rounds 2 ?_
  rw [rounds_succ]
  go_wp2_with (first | (go_at_call 108; refine RM.out.mono ?_; clear RM; rintro e w1 ⟨rfl, j1⟩; clear c0 c1 c2 c3 c4 c5 cz x0 x1 xz; obtain ⟨⟨c0, c1, c2, c3, c4, c5⟩, cz, x0, x1, xz⟩ := cellW.out _ _ _ _ _ _ w1 _ j1; have PT1 := PT.out w1 j1; clear PT; replace PT1 := Mr.hid PT1; replace j1 := Mr.hid j1))
  go_region_held3 (fun w' => w'.cell? ⟨q.bt, 1, none⟩ = some (.int .i64 (q.i : Int)) ∧ w'.cell? ⟨q.bt, 2, none⟩ = some (.int .i64 k.sl)) (simp [*])
    (first | (go_at_call 109; refine PT1.out.mono ?_; clear PT1; rintro e w2 ⟨rfl, T', vs', j2⟩; clear c0 c1 c2 c3 c4 c5 cz x0 x1 xz; obtain ⟨⟨c0, c1, c2, c3, c4, c5⟩, cz, x0, x1, xz⟩ := cellW.out _ _ _ _ _ _ w2 _ j2; have SH2 := SH.out T' vs' w2 j2; clear SH; replace SH2 := Mr.hid SH2; replace j2 := Mr.hid j2))
  go_wp2
  go_region_held3 (fun w' => w'.cell? ⟨N, 0, none⟩ = some (.pointer (some ⟨q.p.bd, 0, none⟩)) ∧ w'.cell? ⟨q.bt, 2, none⟩ = some (.int .i64 k.sl)) (simp [*])
    (first | (go_at_call 22; refine SH2.out.mono ?_; clear SH2; rintro e w3 ⟨rfl, j3⟩; clear c0 c1 c2 c3 c4 c5 cz x0 x1 xz; obtain ⟨⟨c0, c1, c2, c3, c4, c5⟩, cz, x0, x1, xz⟩ := cellW.out _ _ _ _ _ _ w3 _ j3; replace j3 := Mr.hid j3))
  have j9 := j3.out.setT 3 (.int .i64 0)
  have c9 := In.at j9 3 _ rfl
  replace j9 := Mr.hid j9
  go_wp2
  rw [rounds_succ]
  go_wp2
  dsimp only [Exit.noGoto]
  go_ret
  exact ⟨rfl, j9.out.done⟩
end
end Go.Proofs.YtkimmfdicohoiaaGreat.Ar
/-
  PUTTING's run, place by place (made by gengive.py).
-/
namespace Go.Proofs.YtkimmfdicohoiaaGreat.Ar
open Go.RowKit Mr Me Ma Wc Wm
section
variable {q : Pl} {N : Nat} {T : Nat → Prop} {vs : List Value} {sp : Bool} {s : Ss} {A : Ao} {k : Pk} {dn : Int} {xs : Array Value} {l : Int} {W w : World}
set_option maxRecDepth 100000 in
set_option maxHeartbeats 1000000 in
theorem give_none (h : Rn q sp s A (gvA q k dn) W) (hk : k.nx = 2) (hi : q.i < A.ca.length) (K : Nat) (hK : q.c.a4 = K) (hroom : ¬ (A.cache q.i).length < K) :
    Calls Tryz.prog 74 #[.pointer (some ⟨q.bt, 0, none⟩), .agg #[.pointer (some ⟨q.p.bd, 0, none⟩), .int .i64 0]] W fun e w' => e = .returned (.bool false) ∧ Rn q sp s A (gvA q { k with nx := 5 } dn) w' := by
  obtain ⟨T, vs, i0⟩ := h.start 0
  obtain ⟨⟨c0, c1, c2, c3, c4, c5⟩, cz, x0, x1, xz⟩ := i0.gv
  rw [hk] at c3
  have ne := i0.ne
  have ne' : W.heap.size ≠ q.bt := fun e => ne e.symm
  have cellW := fun (sp' : Bool) (s' : Ss) (k' : Pk) (A' : Ao) (vs' : List Value) (l' : Int) (w1 : World) (T' : Nat → Prop) (h1 : In q W.heap.size T' vs' sp' s' A' (gvA q k' dn) l' w1) => h1.gv
  have j1 : In q W.heap.size T vs sp s A (gvA q { k with nx := 5 } dn) 0 _ := i0.setT 3 (.int .i64 5)
  have RM := j1.room hi K hK
  rw [decide_eq_false hroom] at RM
  have AC := fun (w1 : World) (h1 : In q W.heap.size T vs sp s A (gvA q { k with nx := 5 } dn) 0 w1) => h1.acc0
  clear h hi hK hroom j1
  replace RM := Mr.hid RM
  replace AC := Mr.hid AC
  replace cellW := Mr.hid cellW
  replace i0 := Mr.hid i0
  go_enter Tryz.func74, Tryz.ntmps74
  go_wp2
  go_step3
  go_wp2
  go_step3
  go_wp2
  generalize W.alloc (.cells #[.pointer (some ⟨q.p.bd, 0, none⟩), .int .i64 0] 158) = V at *
  generalize W.heap.size = N at *
  refine wp_loop_rounds 2 ?_
  rw [rounds_succ]
  go_wp2_with (first | (go_at_call 108; refine RM.out.mono ?_; clear RM; rintro e w1 ⟨rfl, j1⟩; clear c0 c1 c2 c3 c4 c5 cz x0 x1 xz; obtain ⟨⟨c0, c1, c2, c3, c4, c5⟩, cz, x0, x1, xz⟩ := cellW.out _ _ _ _ _ _ w1 _ j1; have AC3 := AC.out w1 j1; clear AC; replace AC3 := Mr.hid AC3; replace j1 := Mr.hid j1))
  rw [rounds_succ]
  go_wp2_with (first | (go_at_call 100; refine AC3.out.mono ?_; clear AC3; rintro e w9 ⟨rfl, j9⟩; have c9 : w9.cell? ⟨q.bt, 3, none⟩ = some (.int .i64 5) := j9.at 3 _ rfl; replace j9 := Mr.hid j9))
  dsimp only [Exit.noGoto]
  go_ret
  exact ⟨rfl, j9.out.done⟩
end
end Go.Proofs.YtkimmfdicohoiaaGreat.Ar
