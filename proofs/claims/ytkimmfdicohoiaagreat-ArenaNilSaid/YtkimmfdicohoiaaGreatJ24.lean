import Derived.Test.YtkimmfdicohoiaaGreatJ22
/-
  TAKING's run, place by place (made by gentake.py).
-/
namespace Go.Proofs.YtkimmfdicohoiaaGreat.Ar
open Go.RowKit Mr Me Ma Wc Wm
section
variable {q : Pl} {N : Nat} {T : Nat → Prop} {vs : List Value} {sp : Bool} {s : Ss} {A : Ao} {k : Pk} {xs : Array Value} {l : Int} {W w : World}
set_option maxRecDepth 100000 in
set_option maxHeartbeats 1000000 in
theorem In.own (h : In q N T vs sp s A (tkA q k) l W) (hr : s.shs.length ≤ 100000) (hs : A.has k.sl) :
    Calls Tryz.prog 99 #[.pointer (some ⟨q.bt, 0, none⟩), .pointer (some ⟨q.p.bd, 0, none⟩)] W fun e w' => e = .returned (.tuple #[]) ∧ In q N T vs sp (s.shifts q.i q.now k.sl (A.st k.sl).1 2) (A.put k.sl 2 q.i) (tkA q { k with nx := 0, tk := true }) l w' := by
  have SH := h.drew.shift hr k.sl 2 hs (by decide)
  obtain ⟨⟨c0, c1, c2, c3, c4, c5, c6⟩, cz, x0, x1, xz⟩ := h.tk
  have J := fun (w1 : World) (h1 : In q N T vs sp (s.shifts q.i q.now k.sl (A.st k.sl).1 2) (A.put k.sl 2 q.i) (tkA q k) l w1) => (show In q N T vs sp (s.shifts q.i q.now k.sl (A.st k.sl).1 2) (A.put k.sl 2 q.i) (tkA q { k with nx := 0, tk := true }) l ((w1.setCell ⟨q.bt, 6, none⟩ (.bool true)).setCell ⟨q.bt, 3, none⟩ (.int .i64 0)) from (h1.setT 6 (.bool true)).setT 3 (.int .i64 0))
  have cellW := fun (s' : Ss) (A' : Ao) (w1 : World) (h1 : In q N T vs sp s' A' (tkA q k) l w1) => h1.tk
  clear h hs hr
  generalize s.shifts q.i q.now k.sl (A.st k.sl).1 2 = s1 at *
  generalize A.put k.sl 2 q.i = A1 at *
  replace SH := Mr.hid SH
  replace J := Mr.hid J
  replace cellW := Mr.hid cellW
  go_enter Tryz.func99, Tryz.ntmps99
  go_wp2
  go_region_held3 (fun w' => w'.cell? ⟨q.bt, 0, none⟩ = some (.pointer (some ⟨q.ba, 0, none⟩)) ∧ w'.cell? ⟨q.bt, 2, none⟩ = some (.int .i64 k.sl)) (go_keep)
    (first | (go_at_call 22; refine SH.out.mono ?_; clear SH; rintro e w1 ⟨rfl, j1⟩; clear c0 c1 c2 c3 c4 c5 c6 cz x0 x1 xz; obtain ⟨⟨c0, c1, c2, c3, c4, c5, c6⟩, cz, x0, x1, xz⟩ := cellW.out _ _ w1 j1; have J1 := J.out w1 j1; clear J cellW; replace j1 := Mr.hid j1; replace J1 := Mr.hid J1))
  go_wp2
  go_end0
  exact ⟨rfl, J1.out⟩
end
end Go.Proofs.YtkimmfdicohoiaaGreat.Ar
/-
  TAKING's run, place by place (made by gentake.py).
-/
namespace Go.Proofs.YtkimmfdicohoiaaGreat.Ar
open Go.RowKit Mr Me Ma Wc Wm
section
variable {q : Pl} {N : Nat} {T : Nat → Prop} {vs : List Value} {sp : Bool} {s : Ss} {A : Ao} {k : Pk} {xs : Array Value} {l : Int} {W w : World}
set_option maxRecDepth 100000 in
set_option maxHeartbeats 1000000 in
theorem take_hit (h : Rn q false s A (tkA q k) W) (hk : k.nx = 8) (hb : Me.Roomy s.lg s.ah) (hr : s.shs.length ≤ 100000) (hs : A.has k.sl) (h0 : 0 < s.ws.length) (hd0 : 0 ≤ k.hd) (hd1 : k.hd ≤ 18446744073709551615) (hd2 : k.hd % 4294967296 ≤ 2147483647) (hb0 : 0 ≤ k.bh) (hb1 : k.bh ≤ 18446744073709551615) (ho : s.ws[0]?.getD 0 = k.hd) :
    Calls Tryz.prog 71 #[.pointer (some ⟨q.bt, 0, none⟩), .agg #[.pointer (some ⟨q.p.bd, 0, none⟩), .int .i64 1]] W fun e w' => e = .returned (.bool true) ∧ Rn q true ((s.hits q.i q.now 0 k.hd (headBehind k.hd (nextOf k.bh))).shifts q.i q.now k.sl (A.st k.sl).1 2) (A.put k.sl 2 q.i) (tkA q { k with nx := 0, tk := true }) w' := by
  obtain ⟨T, vs, i0⟩ := h.start 1
  obtain ⟨⟨c0, c1, c2, c3, c4, c5, c6⟩, cz, x0, x1, xz⟩ := i0.tk
  rw [hk] at c3
  have ne := i0.ne
  have ne' : W.heap.size ≠ q.bt := fun e => ne e.symm
  have cellW := fun (sp' : Bool) (s' : Ss) (k' : Pk) (A' : Ao) (vs' : List Value) (l' : Int) (w1 : World) (h1 : In q W.heap.size T vs' sp' s' A' (tkA q k') l' w1) => h1.tk
  have hn : -1 ≤ nextOf k.bh ∧ nextOf k.bh ≤ 2147483646 := by unfold nextOf; split <;> omega
  have NX := fun w => nextOf_any k.bh w hb0 hb1
  have HB := fun w => headBehind_any k.hd (nextOf k.bh) w hd0 hd1 hd2 hn.1 hn.2
  have AC := i0.acc1
  have FR := fun (w1 : World) (h1 : In q W.heap.size T vs false s A (tkA q k) 0 w1) => h1.drew.free
  have SW := fun (w1 : World) (h1 : In q W.heap.size T vs false s A (tkA q k) 0 w1) => h1.hit hb 0 h0 k.hd (headBehind k.hd (nextOf k.bh)) ho
  have OW := fun (w1 : World) (h1 : In q W.heap.size T vs true (s.hits q.i q.now 0 k.hd (headBehind k.hd (nextOf k.bh))) A (tkA q k) 0 w1) => h1.own hr hs
  clear h hb h0 ho hd0 hd1 hd2 hb0 hb1 hn hr hs
  generalize (s.hits q.i q.now 0 k.hd (headBehind k.hd (nextOf k.bh))).shifts q.i q.now k.sl (A.st k.sl).1 2 = s2 at *
  generalize (s.hits q.i q.now 0 k.hd (headBehind k.hd (nextOf k.bh))) = s1 at *
  generalize A.put k.sl 2 q.i = A1 at *
  generalize (headBehind k.hd (nextOf k.bh)) = y at *
  generalize nextOf k.bh = z at *
  replace FR := Mr.hid FR
  replace SW := Mr.hid SW
  replace AC := Mr.hid AC
  replace cellW := Mr.hid cellW
  replace i0 := Mr.hid i0
  replace NX := Mr.hid NX
  replace HB := Mr.hid HB
  replace OW := Mr.hid OW
  go_enter Tryz.func71, Tryz.ntmps71
  go_wp2
  go_step3
  go_wp2
  go_step3
  go_wp2
  generalize W.alloc (.cells #[.pointer (some ⟨q.p.bd, 0, none⟩), .int .i64 1] 158) = V at *
  generalize W.heap.size = N at *
  refine wp_loop_rounds 2 ?_
  rw [rounds_succ]
  go_wp2_with (first | (go_at_call 100; refine AC.out.mono ?_; clear AC; rintro e v1 ⟨rfl, i1⟩; clear c0 c1 c2 c3 c4 c5 c6 cz x0 x1 xz; obtain ⟨⟨c0, c1, c2, c3, c4, c5, c6⟩, cz, x0, x1, xz⟩ := cellW.out _ _ _ _ _ _ v1 i1; have FR1 := FR.out v1 i1; clear FR; replace FR1 := Mr.hid FR1; replace i1 := Mr.hid i1))
  go_region_held3 (fun w' => w'.cell? ⟨N, 0, none⟩ = some (.pointer (some ⟨q.p.bd, 0, none⟩)) ∧ w'.cell? ⟨q.bt, 4, none⟩ = some (.int .u64 k.hd) ∧ w'.cell? ⟨q.bt, 5, none⟩ = some (.int .u64 k.bh)) (go_keep)
    (first | (go_at_call 102; refine FR1.out.mono ?_; clear FR1; rintro e w1 ⟨rfl, j1⟩; clear c0 c1 c2 c3 c4 c5 c6 cz x0 x1 xz; obtain ⟨⟨c0, c1, c2, c3, c4, c5, c6⟩, cz, x0, x1, xz⟩ := cellW.out _ _ _ _ _ _ w1 j1; have SW1 := SW.out w1 j1; replace SW1 := Mr.hid SW1; replace j1 := Mr.hid j1) | (go_at_call 107; refine (NX.out _).mono ?_; rintro e w' ⟨rfl, hw⟩; obtain rfl := hw.symm) | (go_at_call 106; refine (HB.out _).mono ?_; rintro e w' ⟨rfl, hw⟩; obtain rfl := hw.symm) | (go_at_call 105; refine SW1.out.mono ?_; clear SW1; rintro e w2 ⟨rfl, j2⟩; clear c0 c1 c2 c3 c4 c5 c6 cz x0 x1 xz; obtain ⟨⟨c0, c1, c2, c3, c4, c5, c6⟩, cz, x0, x1, xz⟩ := cellW.out _ _ _ _ _ _ w2 j2; replace j2 := Mr.hid j2))
  all_goals (rw [hk] at c3)
  all_goals (have OW2 := OW.out w2 j2.out; clear OW)
  all_goals (replace OW2 := Mr.hid OW2)
  all_goals go_wp2_with (first | (go_at_call 99; refine OW2.out.mono ?_; clear OW2; rintro e w9 ⟨rfl, j9⟩; have c9 : w9.cell? ⟨q.bt, 3, none⟩ = some (.int .i64 0) := j9.at 3 _ rfl; replace j9 := Mr.hid j9))
  all_goals rw [rounds_succ]
  all_goals go_wp2
  all_goals dsimp only [Exit.noGoto]
  all_goals go_ret
  all_goals exact ⟨rfl, j9.out.done⟩
end
end Go.Proofs.YtkimmfdicohoiaaGreat.Ar
/-
  TAKING's run, place by place (made by gentake.py).
-/
namespace Go.Proofs.YtkimmfdicohoiaaGreat.Ar
open Go.RowKit Mr Me Ma Wc Wm
section
variable {q : Pl} {N : Nat} {T : Nat → Prop} {vs : List Value} {sp : Bool} {s : Ss} {A : Ao} {k : Pk} {xs : Array Value} {l : Int} {W w : World}
set_option maxRecDepth 100000 in
set_option maxHeartbeats 1000000 in
theorem take_miss (h : Rn q false s A (tkA q k) W) (hk : k.nx = 8) (hb : Me.Roomy s.lg s.ah) (h0 : 0 < s.ws.length) (hd0 : 0 ≤ k.hd) (hd1 : k.hd ≤ 18446744073709551615) (hd2 : k.hd % 4294967296 ≤ 2147483647) (hb0 : 0 ≤ k.bh) (hb1 : k.bh ≤ 18446744073709551615) (ho : s.ws[0]?.getD 0 ≠ k.hd) :
    Calls Tryz.prog 71 #[.pointer (some ⟨q.bt, 0, none⟩), .agg #[.pointer (some ⟨q.p.bd, 0, none⟩), .int .i64 1]] W fun e w' => e = .returned (.bool false) ∧ Rn q true (s.misses q.i q.now 0 k.hd (headBehind k.hd (nextOf k.bh))) A (tkA q { k with nx := 5 }) w' := by
  obtain ⟨T, vs, i0⟩ := h.start 1
  obtain ⟨⟨c0, c1, c2, c3, c4, c5, c6⟩, cz, x0, x1, xz⟩ := i0.tk
  rw [hk] at c3
  have ne := i0.ne
  have ne' : W.heap.size ≠ q.bt := fun e => ne e.symm
  have cellW := fun (sp' : Bool) (s' : Ss) (k' : Pk) (A' : Ao) (vs' : List Value) (l' : Int) (w1 : World) (h1 : In q W.heap.size T vs' sp' s' A' (tkA q k') l' w1) => h1.tk
  have hn : -1 ≤ nextOf k.bh ∧ nextOf k.bh ≤ 2147483646 := by unfold nextOf; split <;> omega
  have NX := fun w => nextOf_any k.bh w hb0 hb1
  have HB := fun w => headBehind_any k.hd (nextOf k.bh) w hd0 hd1 hd2 hn.1 hn.2
  have AC := i0.acc1
  have FR := fun (w1 : World) (h1 : In q W.heap.size T vs false s A (tkA q k) 0 w1) => h1.drew.free
  have SW := fun (w1 : World) (h1 : In q W.heap.size T vs false s A (tkA q k) 0 w1) => h1.miss hb 0 h0 k.hd (headBehind k.hd (nextOf k.bh)) ho
  clear h hb h0 ho hd0 hd1 hd2 hb0 hb1 hn
  generalize (s.misses q.i q.now 0 k.hd (headBehind k.hd (nextOf k.bh))) = s1 at *
  generalize (headBehind k.hd (nextOf k.bh)) = y at *
  generalize nextOf k.bh = z at *
  replace FR := Mr.hid FR
  replace SW := Mr.hid SW
  replace AC := Mr.hid AC
  replace cellW := Mr.hid cellW
  replace i0 := Mr.hid i0
  replace NX := Mr.hid NX
  replace HB := Mr.hid HB
  go_enter Tryz.func71, Tryz.ntmps71
  go_wp2
  go_step3
  go_wp2
  go_step3
  go_wp2
  generalize W.alloc (.cells #[.pointer (some ⟨q.p.bd, 0, none⟩), .int .i64 1] 158) = V at *
  generalize W.heap.size = N at *
  refine wp_loop_rounds 2 ?_
  rw [rounds_succ]
  go_wp2_with (first | (go_at_call 100; refine AC.out.mono ?_; clear AC; rintro e v1 ⟨rfl, i1⟩; clear c0 c1 c2 c3 c4 c5 c6 cz x0 x1 xz; obtain ⟨⟨c0, c1, c2, c3, c4, c5, c6⟩, cz, x0, x1, xz⟩ := cellW.out _ _ _ _ _ _ v1 i1; have FR1 := FR.out v1 i1; clear FR; replace FR1 := Mr.hid FR1; replace i1 := Mr.hid i1))
  go_region_held3 (fun w' => w'.cell? ⟨N, 0, none⟩ = some (.pointer (some ⟨q.p.bd, 0, none⟩)) ∧ w'.cell? ⟨q.bt, 4, none⟩ = some (.int .u64 k.hd) ∧ w'.cell? ⟨q.bt, 5, none⟩ = some (.int .u64 k.bh)) (go_keep)
    (first | (go_at_call 102; refine FR1.out.mono ?_; clear FR1; rintro e w1 ⟨rfl, j1⟩; clear c0 c1 c2 c3 c4 c5 c6 cz x0 x1 xz; obtain ⟨⟨c0, c1, c2, c3, c4, c5, c6⟩, cz, x0, x1, xz⟩ := cellW.out _ _ _ _ _ _ w1 j1; have SW1 := SW.out w1 j1; replace SW1 := Mr.hid SW1; replace j1 := Mr.hid j1) | (go_at_call 107; refine (NX.out _).mono ?_; rintro e w' ⟨rfl, hw⟩; obtain rfl := hw.symm) | (go_at_call 106; refine (HB.out _).mono ?_; rintro e w' ⟨rfl, hw⟩; obtain rfl := hw.symm) | (go_at_call 105; refine SW1.out.mono ?_; clear SW1; rintro e w2 ⟨rfl, j2⟩; clear c0 c1 c2 c3 c4 c5 c6 cz x0 x1 xz; obtain ⟨⟨c0, c1, c2, c3, c4, c5, c6⟩, cz, x0, x1, xz⟩ := cellW.out _ _ _ _ _ _ w2 j2; replace j2 := Mr.hid j2))
  all_goals (rw [hk] at c3)
  all_goals (have j3 := j2.out.setT 3 (.int .i64 5))
  all_goals (have AC3 := In.acc0 j3)
  all_goals (replace AC3 := Mr.hid AC3; replace j3 := Mr.hid j3)
  all_goals go_wp2
  all_goals rw [rounds_succ]
  all_goals go_wp2_with (first | (go_at_call 100; refine AC3.out.mono ?_; clear AC3; rintro e w9 ⟨rfl, j9⟩; have c9 : w9.cell? ⟨q.bt, 3, none⟩ = some (.int .i64 5) := j9.at 3 _ rfl; replace j9 := Mr.hid j9))
  all_goals dsimp only [Exit.noGoto]
  all_goals go_ret
  all_goals exact ⟨rfl, j9.out.done⟩
end
end Go.Proofs.YtkimmfdicohoiaaGreat.Ar
