import Derived.Test.YtkimmfdicohoiaaGreatJ22
/-
  PUTTING's run, place by place (made by gengive.py).
-/
namespace Go.Proofs.YtkimmfdicohoiaaGreat.Ar
open Go.RowKit Mr Me Ma Wc Wm
section
variable {q : Pl} {N : Nat} {T : Nat → Prop} {vs : List Value} {sp : Bool} {s : Ss} {A : Ao} {k : Pk} {dn : Int} {xs : Array Value} {l : Int} {W w : World}
set_option maxRecDepth 100000 in
set_option maxHeartbeats 1000000 in
theorem flush_more (h : Rn q false s A (gvA q k 4) W) (hk : k.nx = 8) (hr : s.shs.length ≤ 100000) (hi : q.i < A.ca.length) (m : List Int) (hc : A.cache q.i = m ++ [k.sl]) (hm : k.sl ∉ m) (hb : Me.Roomy s.lg s.ah) (hs : A.has k.sl) (hsl : k.sl ≤ 2147483646) (h0 : 0 < s.ws.length) (hd0 : 0 ≤ k.hd) (hd1 : k.hd ≤ 18446744073709551615) (hd2 : k.hd % 4294967296 ≤ 2147483647) (ho : s.ws[0]?.getD 0 = k.hd) (x : Int) (hx : x ≠ -1) (hl : ((A.put k.sl 0 q.i).keep q.i m).last q.i = x) :
    Calls Tryz.prog 74 #[.pointer (some ⟨q.bt, 0, none⟩), .agg #[.pointer (some ⟨q.p.bd, 0, none⟩), .int .i64 1]] W fun e w' => e = .returned (.bool false) ∧ Rn q true ((s.hits q.i q.now 0 k.hd (headBehind k.hd k.sl)).shifts q.i q.now k.sl (A.st k.sl).1 0) ((A.put k.sl 0 q.i).keep q.i m) (gvA q { k with nx := 5, sl := x } 4) w' := by
  obtain ⟨T, vs, i0⟩ := h.start 1
  obtain ⟨⟨c0, c1, c2, c3, c4, c5⟩, cz, x0, x1, xz⟩ := i0.gv
  rw [hk] at c3
  have ne := i0.ne
  have ne' : W.heap.size ≠ q.bt := fun e => ne e.symm
  have cellW := fun (sp' : Bool) (s' : Ss) (k' : Pk) (A' : Ao) (vs' : List Value) (l' : Int) (w1 : World) (T' : Nat → Prop) (h1 : In q W.heap.size T' vs' sp' s' A' (gvA q k' 4) l' w1) => h1.gv
  have hn : -1 ≤ k.sl ∧ k.sl ≤ 2147483646 := by have := hs.1; omega
  have HB := fun w => headBehind_any k.hd k.sl w hd0 hd1 hd2 hn.1 hn.2
  have AC := i0.acc1
  have FR := fun (w1 : World) (h1 : In q W.heap.size T vs false s A (gvA q k 4) 0 w1) => h1.drew.free
  have SW := fun (w1 : World) (h1 : In q W.heap.size T vs false s A (gvA q k 4) 0 w1) => h1.hit hb 0 h0 k.hd (headBehind k.hd k.sl) ho
  have SH := fun (w1 : World) (h1 : In q W.heap.size T vs true (s.hits q.i q.now 0 k.hd (headBehind k.hd k.sl)) A (gvA q k 4) 0 w1) => h1.drew.shift hr k.sl 0 hs (by decide)
  have J := fun (w1 : World) (h1 : In q W.heap.size T vs true ((s.hits q.i q.now 0 k.hd (headBehind k.hd k.sl)).shifts q.i q.now k.sl (A.st k.sl).1 0) (A.put k.sl 0 q.i) (gvA q k 4) 0 w1) => (show In q W.heap.size T vs true ((s.hits q.i q.now 0 k.hd (headBehind k.hd k.sl)).shifts q.i q.now k.sl (A.st k.sl).1 0) (A.put k.sl 0 q.i) (gvA q { k with nx := 4 } 4) 0 (w1.setCell ⟨q.bt, 3, none⟩ (.int .i64 4)) from h1.setT 3 (.int .i64 4))
  have DR := fun (w1 : World) (h1 : In q W.heap.size T vs true ((s.hits q.i q.now 0 k.hd (headBehind k.hd k.sl)).shifts q.i q.now k.sl (A.st k.sl).1 0) (A.put k.sl 0 q.i) (gvA q { k with nx := 4 } 4) 0 w1) => h1.drew.drop hi m k.sl hc hm
  have hi2 : q.i < ((A.put k.sl 0 q.i).keep q.i m).ca.length := by simpa [Ao.keep, Ao.put] using hi
  have J2 := fun (vs' : List Value) (w1 : World) (h1 : In q W.heap.size T vs' true ((s.hits q.i q.now 0 k.hd (headBehind k.hd k.sl)).shifts q.i q.now k.sl (A.st k.sl).1 0) ((A.put k.sl 0 q.i).keep q.i m) (gvA q { k with nx := 4 } 4) 0 w1) => (show In q W.heap.size T vs' true ((s.hits q.i q.now 0 k.hd (headBehind k.hd k.sl)).shifts q.i q.now k.sl (A.st k.sl).1 0) ((A.put k.sl 0 q.i).keep q.i m) (gvA q { k with nx := 5 } 4) 0 ((w1.setCell ⟨q.bt, 3, none⟩ (.int .i64 3)).setCell ⟨q.bt, 3, none⟩ (.int .i64 5)) from (h1.setT 3 (.int .i64 3)).setT 3 (.int .i64 5))
  have LS := fun (vs' : List Value) (w1 : World) (h1 : In q W.heap.size T vs' true ((s.hits q.i q.now 0 k.hd (headBehind k.hd k.sl)).shifts q.i q.now k.sl (A.st k.sl).1 0) ((A.put k.sl 0 q.i).keep q.i m) (gvA q { k with nx := 5 } 4) 0 w1) => h1.last hi2
  simp only [hl] at LS
  have J3 := fun (vs' : List Value) (w1 : World) (h1 : In q W.heap.size T vs' true ((s.hits q.i q.now 0 k.hd (headBehind k.hd k.sl)).shifts q.i q.now k.sl (A.st k.sl).1 0) ((A.put k.sl 0 q.i).keep q.i m) (gvA q { k with nx := 5 } 4) 0 w1) => (show In q W.heap.size T vs' true ((s.hits q.i q.now 0 k.hd (headBehind k.hd k.sl)).shifts q.i q.now k.sl (A.st k.sl).1 0) ((A.put k.sl 0 q.i).keep q.i m) (gvA q { k with nx := 5, sl := x } 4) 0 (w1.setCell ⟨q.bt, 2, none⟩ (.int .i64 x)) from h1.setT 2 (.int .i64 x))
  clear h hb h0 ho hd0 hd1 hd2 hn hs hsl hr hi hc hm hl hi2
  generalize ((s.hits q.i q.now 0 k.hd (headBehind k.hd k.sl)).shifts q.i q.now k.sl (A.st k.sl).1 0) = s2 at *
  generalize (s.hits q.i q.now 0 k.hd (headBehind k.hd k.sl)) = s1 at *
  generalize (headBehind k.hd k.sl) = y at *
  generalize ((A.put k.sl 0 q.i).keep q.i m) = A2 at *
  generalize A.put k.sl 0 q.i = A1 at *
  have nx1 : (x == -1) = false := by simp; omega
  replace FR := Mr.hid FR
  replace SW := Mr.hid SW
  replace AC := Mr.hid AC
  replace cellW := Mr.hid cellW
  replace i0 := Mr.hid i0
  replace HB := Mr.hid HB
  replace SH := Mr.hid SH
  replace J := Mr.hid J
  replace DR := Mr.hid DR
  replace J2 := Mr.hid J2
  replace LS := Mr.hid LS
  replace J3 := Mr.hid J3
  go_enter Tryz.func74, Tryz.ntmps74
  go_wp2
  go_step3
  go_wp2
  go_step3
  go_wp2
  generalize W.alloc (.cells #[.pointer (some ⟨q.p.bd, 0, none⟩), .int .i64 1] 158) = V at *
  generalize W.heap.size = N at *
  refine wp_loop_rounds 4 ?_
  rw [rounds_succ]
  go_wp2_with (first | (go_at_call 100; refine AC.out.mono ?_; clear AC; rintro e v1 ⟨rfl, i1⟩; clear c0 c1 c2 c3 c4 c5 cz x0 x1 xz; obtain ⟨⟨c0, c1, c2, c3, c4, c5⟩, cz, x0, x1, xz⟩ := cellW.out _ _ _ _ _ _ v1 _ i1; have FR1 := FR.out v1 i1; clear FR; replace FR1 := Mr.hid FR1; replace i1 := Mr.hid i1))
  go_region_held3 (fun w' => w'.cell? ⟨N, 0, none⟩ = some (.pointer (some ⟨q.p.bd, 0, none⟩)) ∧ w'.cell? ⟨q.bt, 2, none⟩ = some (.int .i64 k.sl) ∧ w'.cell? ⟨q.bt, 4, none⟩ = some (.int .u64 k.hd)) (go_keep)
    (first | (go_at_call 102; refine FR1.out.mono ?_; clear FR1; rintro e w1 ⟨rfl, j1⟩; clear c0 c1 c2 c3 c4 c5 cz x0 x1 xz; obtain ⟨⟨c0, c1, c2, c3, c4, c5⟩, cz, x0, x1, xz⟩ := cellW.out _ _ _ _ _ _ w1 _ j1; have SW1 := SW.out w1 j1; replace SW1 := Mr.hid SW1; replace j1 := Mr.hid j1) | (go_at_call 106; refine (HB.out _).mono ?_; rintro e w' ⟨rfl, hw⟩; obtain rfl := hw.symm) | (go_at_call 105; refine SW1.out.mono ?_; clear SW1; rintro e w2 ⟨rfl, j2⟩; clear c0 c1 c2 c3 c4 c5 cz x0 x1 xz; obtain ⟨⟨c0, c1, c2, c3, c4, c5⟩, cz, x0, x1, xz⟩ := cellW.out _ _ _ _ _ _ w2 _ j2; have SH2 := SH.out w2 j2; replace SH2 := Mr.hid SH2; replace j2 := Mr.hid j2))
  all_goals (rw [hk] at c3)
  all_goals go_wp2
  all_goals go_region_held3 (fun w' => w'.cell? ⟨N, 0, none⟩ = some (.pointer (some ⟨q.p.bd, 0, none⟩)) ∧ w'.cell? ⟨q.bt, 2, none⟩ = some (.int .i64 k.sl)) (simp [*])
    (first | (go_at_call 22; refine SH2.out.mono ?_; clear SH2; rintro e w3 ⟨rfl, j3⟩; clear c0 c1 c2 c3 c4 c5 cz x0 x1 xz; obtain ⟨⟨c0, c1, c2, c3, c4, c5⟩, cz, x0, x1, xz⟩ := cellW.out _ _ _ _ _ _ w3 _ j3; replace j3 := Mr.hid j3))
  all_goals (rw [hk] at c3)
  all_goals (have j4 := J.out w3 j3.out)
  all_goals (have DR4 := DR.out _ j4)
  all_goals (obtain ⟨⟨_, d1, d2, d3, _⟩, _⟩ := j4.gv)
  all_goals (replace DR4 := Mr.hid DR4; replace j4 := Mr.hid j4)
  all_goals go_wp2
  all_goals rw [rounds_succ]
  all_goals go_wp2
  all_goals go_region_held3 (fun w' => w'.cell? ⟨q.bt, 1, none⟩ = some (.int .i64 (q.i : Int)) ∧ w'.cell? ⟨q.bt, 2, none⟩ = some (.int .i64 k.sl)) (simp [*])
    (first | (go_at_call 98; refine DR4.out.mono ?_; clear DR4; rintro e w4 ⟨rfl, vs', j5⟩; clear c0 c1 c2 c3 c4 c5 cz x0 x1 xz d1 d2 d3; obtain ⟨⟨c0, c1, c2, c3, c4, c5⟩, cz, x0, x1, xz⟩ := cellW.out _ _ _ _ _ _ w4 _ j5; have j6 := J2.out vs' w4 j5; have LS6 := LS.out vs' _ j6; have j7 := J3.out vs' _ j6; replace j5 := Mr.hid j5; replace j6 := Mr.hid j6; replace LS6 := Mr.hid LS6; replace j7 := Mr.hid j7))
  all_goals go_wp2
  all_goals rw [rounds_succ]
  all_goals (have AC9 := In.acc0 j7.out)
  all_goals (replace AC9 := Mr.hid AC9)
  all_goals go_wp2_with (first | (go_at_call 97; refine LS6.out.mono ?_; clear LS6; rintro e w' ⟨rfl, hw⟩; obtain rfl := hw.symm))
  all_goals rw [rounds_succ]
  all_goals go_wp2_with (first | (go_at_call 100; refine AC9.out.mono ?_; clear AC9; rintro e w9 ⟨rfl, j9⟩; have c9 : w9.cell? ⟨q.bt, 3, none⟩ = some (.int .i64 5) := j9.at 3 _ rfl; replace j9 := Mr.hid j9))
  all_goals dsimp only [Exit.noGoto]
  all_goals go_ret
  all_goals exact ⟨rfl, j9.out.done⟩
end
end Go.Proofs.YtkimmfdicohoiaaGreat.Ar
/-
  PUTTING's run, place by place (made by gengive.py).
-/
namespace Go.Proofs.YtkimmfdicohoiaaGreat.Ar
open Go.RowKit Mr Me Ma Wc Wm
section
variable {q : Pl} {N : Nat} {T : Nat → Prop} {vs : List Value} {sp : Bool} {s : Ss} {A : Ao} {k : Pk} {dn : Int} {xs : Array Value} {l : Int} {W w : World}
set_option maxRecDepth 100000 in
set_option maxHeartbeats 1000000 in
theorem flush_end (h : Rn q false s A (gvA q k 4) W) (hk : k.nx = 8) (hr : s.shs.length ≤ 100000) (hi : q.i < A.ca.length) (m : List Int) (hc : A.cache q.i = m ++ [k.sl]) (hm : k.sl ∉ m) (hb : Me.Roomy s.lg s.ah) (hs : A.has k.sl) (hsl : k.sl ≤ 2147483646) (h0 : 0 < s.ws.length) (hd0 : 0 ≤ k.hd) (hd1 : k.hd ≤ 18446744073709551615) (hd2 : k.hd % 4294967296 ≤ 2147483647) (ho : s.ws[0]?.getD 0 = k.hd) (hl : ((A.put k.sl 0 q.i).keep q.i m).last q.i = -1) :
    Calls Tryz.prog 74 #[.pointer (some ⟨q.bt, 0, none⟩), .agg #[.pointer (some ⟨q.p.bd, 0, none⟩), .int .i64 1]] W fun e w' => e = .returned (.bool true) ∧ Rn q true ((s.hits q.i q.now 0 k.hd (headBehind k.hd k.sl)).shifts q.i q.now k.sl (A.st k.sl).1 0) ((A.put k.sl 0 q.i).keep q.i m) (gvA q { k with nx := 0, sl := -1 } 4) w' := by
  obtain ⟨T, vs, i0⟩ := h.start 1
  obtain ⟨⟨c0, c1, c2, c3, c4, c5⟩, cz, x0, x1, xz⟩ := i0.gv
  rw [hk] at c3
  have ne := i0.ne
  have ne' : W.heap.size ≠ q.bt := fun e => ne e.symm
  have cellW := fun (sp' : Bool) (s' : Ss) (k' : Pk) (A' : Ao) (vs' : List Value) (l' : Int) (w1 : World) (T' : Nat → Prop) (h1 : In q W.heap.size T' vs' sp' s' A' (gvA q k' 4) l' w1) => h1.gv
  have hn : -1 ≤ k.sl ∧ k.sl ≤ 2147483646 := by have := hs.1; omega
  have HB := fun w => headBehind_any k.hd k.sl w hd0 hd1 hd2 hn.1 hn.2
  have AC := i0.acc1
  have FR := fun (w1 : World) (h1 : In q W.heap.size T vs false s A (gvA q k 4) 0 w1) => h1.drew.free
  have SW := fun (w1 : World) (h1 : In q W.heap.size T vs false s A (gvA q k 4) 0 w1) => h1.hit hb 0 h0 k.hd (headBehind k.hd k.sl) ho
  have SH := fun (w1 : World) (h1 : In q W.heap.size T vs true (s.hits q.i q.now 0 k.hd (headBehind k.hd k.sl)) A (gvA q k 4) 0 w1) => h1.drew.shift hr k.sl 0 hs (by decide)
  have J := fun (w1 : World) (h1 : In q W.heap.size T vs true ((s.hits q.i q.now 0 k.hd (headBehind k.hd k.sl)).shifts q.i q.now k.sl (A.st k.sl).1 0) (A.put k.sl 0 q.i) (gvA q k 4) 0 w1) => (show In q W.heap.size T vs true ((s.hits q.i q.now 0 k.hd (headBehind k.hd k.sl)).shifts q.i q.now k.sl (A.st k.sl).1 0) (A.put k.sl 0 q.i) (gvA q { k with nx := 4 } 4) 0 (w1.setCell ⟨q.bt, 3, none⟩ (.int .i64 4)) from h1.setT 3 (.int .i64 4))
  have DR := fun (w1 : World) (h1 : In q W.heap.size T vs true ((s.hits q.i q.now 0 k.hd (headBehind k.hd k.sl)).shifts q.i q.now k.sl (A.st k.sl).1 0) (A.put k.sl 0 q.i) (gvA q { k with nx := 4 } 4) 0 w1) => h1.drew.drop hi m k.sl hc hm
  have hi2 : q.i < ((A.put k.sl 0 q.i).keep q.i m).ca.length := by simpa [Ao.keep, Ao.put] using hi
  have J2 := fun (vs' : List Value) (w1 : World) (h1 : In q W.heap.size T vs' true ((s.hits q.i q.now 0 k.hd (headBehind k.hd k.sl)).shifts q.i q.now k.sl (A.st k.sl).1 0) ((A.put k.sl 0 q.i).keep q.i m) (gvA q { k with nx := 4 } 4) 0 w1) => (show In q W.heap.size T vs' true ((s.hits q.i q.now 0 k.hd (headBehind k.hd k.sl)).shifts q.i q.now k.sl (A.st k.sl).1 0) ((A.put k.sl 0 q.i).keep q.i m) (gvA q { k with nx := 5 } 4) 0 ((w1.setCell ⟨q.bt, 3, none⟩ (.int .i64 3)).setCell ⟨q.bt, 3, none⟩ (.int .i64 5)) from (h1.setT 3 (.int .i64 3)).setT 3 (.int .i64 5))
  have LS := fun (vs' : List Value) (w1 : World) (h1 : In q W.heap.size T vs' true ((s.hits q.i q.now 0 k.hd (headBehind k.hd k.sl)).shifts q.i q.now k.sl (A.st k.sl).1 0) ((A.put k.sl 0 q.i).keep q.i m) (gvA q { k with nx := 5 } 4) 0 w1) => h1.last hi2
  simp only [hl] at LS
  have J3 := fun (vs' : List Value) (w1 : World) (h1 : In q W.heap.size T vs' true ((s.hits q.i q.now 0 k.hd (headBehind k.hd k.sl)).shifts q.i q.now k.sl (A.st k.sl).1 0) ((A.put k.sl 0 q.i).keep q.i m) (gvA q { k with nx := 5 } 4) 0 w1) => (show In q W.heap.size T vs' true ((s.hits q.i q.now 0 k.hd (headBehind k.hd k.sl)).shifts q.i q.now k.sl (A.st k.sl).1 0) ((A.put k.sl 0 q.i).keep q.i m) (gvA q { k with nx := 5, sl := (-1) } 4) 0 (w1.setCell ⟨q.bt, 2, none⟩ (.int .i64 (-1))) from h1.setT 2 (.int .i64 (-1)))
  clear h hb h0 ho hd0 hd1 hd2 hn hs hsl hr hi hc hm hl hi2
  generalize ((s.hits q.i q.now 0 k.hd (headBehind k.hd k.sl)).shifts q.i q.now k.sl (A.st k.sl).1 0) = s2 at *
  generalize (s.hits q.i q.now 0 k.hd (headBehind k.hd k.sl)) = s1 at *
  generalize (headBehind k.hd k.sl) = y at *
  generalize ((A.put k.sl 0 q.i).keep q.i m) = A2 at *
  generalize A.put k.sl 0 q.i = A1 at *
  replace FR := Mr.hid FR
  replace SW := Mr.hid SW
  replace AC := Mr.hid AC
  replace cellW := Mr.hid cellW
  replace i0 := Mr.hid i0
  replace HB := Mr.hid HB
  replace SH := Mr.hid SH
  replace J := Mr.hid J
  replace DR := Mr.hid DR
  replace J2 := Mr.hid J2
  replace LS := Mr.hid LS
  replace J3 := Mr.hid J3
  go_enter Tryz.func74, Tryz.ntmps74
  go_wp2
  go_step3
  go_wp2
  go_step3
  go_wp2
  generalize W.alloc (.cells #[.pointer (some ⟨q.p.bd, 0, none⟩), .int .i64 1] 158) = V at *
  generalize W.heap.size = N at *
  refine wp_loop_rounds 4 ?_
  rw [rounds_succ]
  go_wp2_with (first | (go_at_call 100; refine AC.out.mono ?_; clear AC; rintro e v1 ⟨rfl, i1⟩; clear c0 c1 c2 c3 c4 c5 cz x0 x1 xz; obtain ⟨⟨c0, c1, c2, c3, c4, c5⟩, cz, x0, x1, xz⟩ := cellW.out _ _ _ _ _ _ v1 _ i1; have FR1 := FR.out v1 i1; clear FR; replace FR1 := Mr.hid FR1; replace i1 := Mr.hid i1))
  go_region_held3 (fun w' => w'.cell? ⟨N, 0, none⟩ = some (.pointer (some ⟨q.p.bd, 0, none⟩)) ∧ w'.cell? ⟨q.bt, 2, none⟩ = some (.int .i64 k.sl) ∧ w'.cell? ⟨q.bt, 4, none⟩ = some (.int .u64 k.hd)) (go_keep)
    (first | (go_at_call 102; refine FR1.out.mono ?_; clear FR1; rintro e w1 ⟨rfl, j1⟩; clear c0 c1 c2 c3 c4 c5 cz x0 x1 xz; obtain ⟨⟨c0, c1, c2, c3, c4, c5⟩, cz, x0, x1, xz⟩ := cellW.out _ _ _ _ _ _ w1 _ j1; have SW1 := SW.out w1 j1; replace SW1 := Mr.hid SW1; replace j1 := Mr.hid j1) | (go_at_call 106; refine (HB.out _).mono ?_; rintro e w' ⟨rfl, hw⟩; obtain rfl := hw.symm) | (go_at_call 105; refine SW1.out.mono ?_; clear SW1; rintro e w2 ⟨rfl, j2⟩; clear c0 c1 c2 c3 c4 c5 cz x0 x1 xz; obtain ⟨⟨c0, c1, c2, c3, c4, c5⟩, cz, x0, x1, xz⟩ := cellW.out _ _ _ _ _ _ w2 _ j2; have SH2 := SH.out w2 j2; replace SH2 := Mr.hid SH2; replace j2 := Mr.hid j2))
  all_goals (rw [hk] at c3)
  all_goals go_wp2
  all_goals go_region_held3 (fun w' => w'.cell? ⟨N, 0, none⟩ = some (.pointer (some ⟨q.p.bd, 0, none⟩)) ∧ w'.cell? ⟨q.bt, 2, none⟩ = some (.int .i64 k.sl)) (simp [*])
    (first | (go_at_call 22; refine SH2.out.mono ?_; clear SH2; rintro e w3 ⟨rfl, j3⟩; clear c0 c1 c2 c3 c4 c5 cz x0 x1 xz; obtain ⟨⟨c0, c1, c2, c3, c4, c5⟩, cz, x0, x1, xz⟩ := cellW.out _ _ _ _ _ _ w3 _ j3; replace j3 := Mr.hid j3))
  all_goals (rw [hk] at c3)
  all_goals (have j4 := J.out w3 j3.out)
  all_goals (have DR4 := DR.out _ j4)
  all_goals (obtain ⟨⟨_, d1, d2, d3, _⟩, _⟩ := j4.gv)
  all_goals (replace DR4 := Mr.hid DR4; replace j4 := Mr.hid j4)
  all_goals go_wp2
  all_goals rw [rounds_succ]
  all_goals go_wp2
  all_goals go_region_held3 (fun w' => w'.cell? ⟨q.bt, 1, none⟩ = some (.int .i64 (q.i : Int)) ∧ w'.cell? ⟨q.bt, 2, none⟩ = some (.int .i64 k.sl)) (simp [*])
    (first | (go_at_call 98; refine DR4.out.mono ?_; clear DR4; rintro e w4 ⟨rfl, vs', j5⟩; clear c0 c1 c2 c3 c4 c5 cz x0 x1 xz d1 d2 d3; obtain ⟨⟨c0, c1, c2, c3, c4, c5⟩, cz, x0, x1, xz⟩ := cellW.out _ _ _ _ _ _ w4 _ j5; have j6 := J2.out vs' w4 j5; have LS6 := LS.out vs' _ j6; have j7 := J3.out vs' _ j6; replace j5 := Mr.hid j5; replace j6 := Mr.hid j6; replace LS6 := Mr.hid LS6; replace j7 := Mr.hid j7))
  all_goals go_wp2
  all_goals rw [rounds_succ]
  all_goals (have j9 := j7.out.setT 3 (.int .i64 0))
  all_goals (have c9 := In.at j9 3 _ rfl)
  all_goals (replace j9 := Mr.hid j9)
  all_goals go_wp2_with (first | (go_at_call 97; refine LS6.out.mono ?_; clear LS6; rintro e w' ⟨rfl, hw⟩; obtain rfl := hw.symm))
  all_goals rw [rounds_succ]
  all_goals go_wp2
  all_goals dsimp only [Exit.noGoto]
  all_goals go_ret
  all_goals exact ⟨rfl, j9.out.done⟩
end
end Go.Proofs.YtkimmfdicohoiaaGreat.Ar
