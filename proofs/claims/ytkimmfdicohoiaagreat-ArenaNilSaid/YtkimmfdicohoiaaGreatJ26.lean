import Derived.Test.YtkimmfdicohoiaaGreatJ22
/-
  PUTTING's run, place by place (made by gengive.py).
-/
namespace Go.Proofs.YtkimmfdicohoiaaGreat.Ar
open Go.RowKit Mr Me Ma Wc Wm
section
variable {q : Pl} {N : Nat} {T : Nat → Prop} {vs : List Value} {sp : Bool} {s : Ss} {A : Ao} {k : Pk} {dn : Int} {xs : Array Value} {l : Int} {W w : World}
set_option maxRecDepth 100000 in
set_option maxHeartbeats 1000000 in
theorem give_load (h : Rn q false s A (gvA q k dn) W) (hk : k.nx = 5) (hb : Me.Roomy s.lg s.ah) (h0 : 0 < s.ws.length) :
    Calls Tryz.prog 74 #[.pointer (some ⟨q.bt, 0, none⟩), .agg #[.pointer (some ⟨q.p.bd, 0, none⟩), .int .i64 1]] W fun e w' => e = .returned (.bool false) ∧ Rn q true (s.loads q.i q.now 0) A (gvA q { k with nx := 7, hd := s.ws[0]?.getD 0 } dn) w' := by
  obtain ⟨T, vs, i0⟩ := h.start 1
  obtain ⟨⟨c0, c1, c2, c3, c4, c5⟩, cz, x0, x1, xz⟩ := i0.gv
  rw [hk] at c3
  have ne := i0.ne
  have ne' : W.heap.size ≠ q.bt := fun e => ne e.symm
  have cellW := fun (sp' : Bool) (s' : Ss) (k' : Pk) (A' : Ao) (vs' : List Value) (l' : Int) (w1 : World) (T' : Nat → Prop) (h1 : In q W.heap.size T' vs' sp' s' A' (gvA q k' dn) l' w1) => h1.gv
  have AC := i0.acc1
  have FR := fun (w1 : World) (h1 : In q W.heap.size T vs false s A (gvA q k dn) 0 w1) => h1.drew.free
  have LD := fun (w1 : World) (h1 : In q W.heap.size T vs false s A (gvA q k dn) 0 w1) => h1.load hb 0 h0
  have J := fun (w2 : World) (h2 : In q W.heap.size T vs true (s.loads q.i q.now 0) A (gvA q k dn) 0 w2) => (show In q W.heap.size T vs true (s.loads q.i q.now 0) A (gvA q { k with nx := 7, hd := s.ws[0]?.getD 0 } dn) 0 ((w2.setCell ⟨q.bt, 4, none⟩ (.int .u64 (s.ws[0]?.getD 0))).setCell ⟨q.bt, 3, none⟩ (.int .i64 7)) from (h2.setT 4 (.int .u64 (s.ws[0]?.getD 0))).setT 3 (.int .i64 7))
  clear h hb h0
  generalize s.ws[0]?.getD 0 = x at *
  generalize s.loads q.i q.now 0 = s1 at *
  replace FR := Mr.hid FR
  replace LD := Mr.hid LD
  replace J := Mr.hid J
  replace AC := Mr.hid AC
  replace cellW := Mr.hid cellW
  replace i0 := Mr.hid i0
  go_enter Tryz.func74, Tryz.ntmps74
  go_wp2
  go_step3
  go_wp2
  go_step3
  go_wp2
  generalize W.alloc (.cells #[.pointer (some ⟨q.p.bd, 0, none⟩), .int .i64 1] 158) = V at *
  generalize W.heap.size = N at *
  refine wp_loop_rounds 2 ?_
  rw [rounds_succ]
  go_wp2_with (first | (go_at_call 100; refine AC.out.mono ?_; clear AC; rintro e v1 ⟨rfl, i1⟩; clear c0 c1 c2 c3 c4 c5 cz x0 x1 xz; obtain ⟨⟨c0, c1, c2, c3, c4, c5⟩, cz, x0, x1, xz⟩ := cellW.out _ _ _ _ _ _ v1 _ i1; have FR1 := FR.out v1 i1; clear FR; replace FR1 := Mr.hid FR1; replace i1 := Mr.hid i1))
  go_region_held3 (fun w' => w'.cell? ⟨N, 0, none⟩ = some (.pointer (some ⟨q.p.bd, 0, none⟩))) (go_keep)
    (first | (go_at_call 102; refine FR1.out.mono ?_; clear FR1; rintro e w1 ⟨rfl, j1⟩; clear c0 c1 c2 c3 c4 c5 cz x0 x1 xz; obtain ⟨⟨c0, c1, c2, c3, c4, c5⟩, cz, x0, x1, xz⟩ := cellW.out _ _ _ _ _ _ w1 _ j1; have LD1 := LD.out w1 j1; clear LD; replace LD1 := Mr.hid LD1; replace j1 := Mr.hid j1) | (go_at_call 101; refine LD1.out.mono ?_; clear LD1; rintro e w2 ⟨rfl, j2⟩; clear c0 c1 c2 c3 c4 c5 cz x0 x1 xz; obtain ⟨⟨c0, c1, c2, c3, c4, c5⟩, cz, x0, x1, xz⟩ := cellW.out _ _ _ _ _ _ w2 _ j2; have J2 := J.out w2 j2; clear J; replace j2 := Mr.hid j2; replace J2 := Mr.hid J2))
  rw [hk] at c3
  have AC3 := J2.out.acc0
  replace AC3 := Mr.hid AC3
  go_wp2
  rw [rounds_succ]
  go_wp2_with (first | (go_at_call 100; refine AC3.out.mono ?_; clear AC3; rintro e w9 ⟨rfl, j9⟩; have c9 : w9.cell? ⟨q.bt, 3, none⟩ = some (.int .i64 7) := j9.at 3 _ rfl; replace j9 := Mr.hid j9))
  dsimp only [Exit.noGoto]
  go_ret
  exact ⟨rfl, j9.out.done⟩
end
end Go.Proofs.YtkimmfdicohoiaaGreat.Ar
/-
  PUTTING's run, place by place (made by gengive.py).
-/
namespace Go.Proofs.YtkimmfdicohoiaaGreat.Ar
open Go.RowKit Mr Me Ma Wc Wm
section
variable {q : Pl} {N : Nat} {T : Nat → Prop} {vs : List Value} {sp : Bool} {s : Ss} {A : Ao} {k : Pk} {dn : Int} {xs : Array Value} {l : Int} {W w : World}
set_option maxRecDepth 100000 in
set_option maxHeartbeats 1000000 in
theorem give_store (h : Rn q false s A (gvA q k dn) W) (hk : k.nx = 7) (hb : Me.Roomy s.lg s.ah) (hs : A.has k.sl) (ad : Nat) (had : q.c.m + k.sl = ad) (h0 : ad < s.ws.length) (hd0 : 0 ≤ k.hd) (hd1 : k.hd ≤ 18446744073709551615) :
    Calls Tryz.prog 74 #[.pointer (some ⟨q.bt, 0, none⟩), .agg #[.pointer (some ⟨q.p.bd, 0, none⟩), .int .i64 1]] W fun e w' => e = .returned (.bool false) ∧ Rn q true (s.stores q.i q.now ad (firstOf k.hd + 1)) A (gvA q { k with nx := 8 } dn) w' := by
  obtain ⟨T, vs, i0⟩ := h.start 1
  obtain ⟨⟨c0, c1, c2, c3, c4, c5⟩, cz, x0, x1, xz⟩ := i0.gv
  rw [hk] at c3
  have ne := i0.ne
  have ne' : W.heap.size ≠ q.bt := fun e => ne e.symm
  have cellW := fun (sp' : Bool) (s' : Ss) (k' : Pk) (A' : Ao) (vs' : List Value) (l' : Int) (w1 : World) (T' : Nat → Prop) (h1 : In q W.heap.size T' vs' sp' s' A' (gvA q k' dn) l' w1) => h1.gv
  have hn : -1 ≤ firstOf k.hd ∧ firstOf k.hd ≤ 2147483646 := by unfold firstOf; split <;> omega
  have FO := fun w => firstOf_any k.hd w hd0 hd1
  have PL := fun w => plainLink_any (firstOf k.hd) w hn.1 hn.2
  have AC := i0.acc1
  have FR := fun (w1 : World) (h1 : In q W.heap.size T vs false s A (gvA q k dn) 0 w1) => h1.drew.spare k.sl hs
  rw [had] at FR
  have ST := fun (w1 : World) (h1 : In q W.heap.size T vs false s A (gvA q k dn) 0 w1) => h1.store hb ad h0 (firstOf k.hd + 1)
  have J := fun (w2 : World) (h2 : In q W.heap.size T vs true (s.stores q.i q.now ad (firstOf k.hd + 1)) A (gvA q k dn) 0 w2) => (show In q W.heap.size T vs true (s.stores q.i q.now ad (firstOf k.hd + 1)) A (gvA q { k with nx := 8 } dn) 0 (w2.setCell ⟨q.bt, 3, none⟩ (.int .i64 8)) from h2.setT 3 (.int .i64 8))
  clear h hs hb h0 had hd0 hd1 hn
  generalize s.stores q.i q.now ad (firstOf k.hd + 1) = s1 at *
  generalize firstOf k.hd = f at *
  replace FR := Mr.hid FR
  replace ST := Mr.hid ST
  replace J := Mr.hid J
  replace AC := Mr.hid AC
  replace cellW := Mr.hid cellW
  replace i0 := Mr.hid i0
  replace FO := Mr.hid FO
  replace PL := Mr.hid PL
  go_enter Tryz.func74, Tryz.ntmps74
  go_wp2
  go_step3
  go_wp2
  go_step3
  go_wp2
  generalize W.alloc (.cells #[.pointer (some ⟨q.p.bd, 0, none⟩), .int .i64 1] 158) = V at *
  generalize W.heap.size = N at *
  refine wp_loop_rounds 2 ?_
  rw [rounds_succ]
  go_wp2_with (first | (go_at_call 100; refine AC.out.mono ?_; clear AC; rintro e v1 ⟨rfl, i1⟩; clear c0 c1 c2 c3 c4 c5 cz x0 x1 xz; obtain ⟨⟨c0, c1, c2, c3, c4, c5⟩, cz, x0, x1, xz⟩ := cellW.out _ _ _ _ _ _ v1 _ i1; have FR1 := FR.out v1 i1; clear FR; replace FR1 := Mr.hid FR1; replace i1 := Mr.hid i1))
  go_region_held3 (fun w' => w'.cell? ⟨N, 0, none⟩ = some (.pointer (some ⟨q.p.bd, 0, none⟩)) ∧ w'.cell? ⟨q.bt, 2, none⟩ = some (.int .i64 k.sl) ∧ w'.cell? ⟨q.bt, 4, none⟩ = some (.int .u64 k.hd)) (go_keep)
    (first | (go_at_call 104; refine FR1.out.mono ?_; clear FR1; rintro e w1 ⟨rfl, j1⟩; clear c0 c1 c2 c3 c4 c5 cz x0 x1 xz; obtain ⟨⟨c0, c1, c2, c3, c4, c5⟩, cz, x0, x1, xz⟩ := cellW.out _ _ _ _ _ _ w1 _ j1; have ST1 := ST.out w1 j1; replace ST1 := Mr.hid ST1; replace j1 := Mr.hid j1) | (go_at_call 103; refine (FO.out _).mono ?_; rintro e w' ⟨rfl, hw⟩; obtain rfl := hw.symm) | (go_at_call 111; refine (PL.out _).mono ?_; rintro e w' ⟨rfl, hw⟩; obtain rfl := hw.symm) | (go_at_call 110; refine ST1.out.mono ?_; clear ST1; rintro e w2 ⟨rfl, j2⟩; clear c0 c1 c2 c3 c4 c5 cz x0 x1 xz; obtain ⟨⟨c0, c1, c2, c3, c4, c5⟩, cz, x0, x1, xz⟩ := cellW.out _ _ _ _ _ _ w2 _ j2; have J2 := J.out w2 j2; replace j2 := Mr.hid j2; replace J2 := Mr.hid J2))
  all_goals (rw [hk] at c3)
  all_goals (have AC3 := J2.out.acc0)
  all_goals (replace AC3 := Mr.hid AC3)
  all_goals go_wp2
  all_goals rw [rounds_succ]
  all_goals go_wp2_with (first | (go_at_call 100; refine AC3.out.mono ?_; clear AC3; rintro e w9 ⟨rfl, j9⟩; have c9 : w9.cell? ⟨q.bt, 3, none⟩ = some (.int .i64 8) := j9.at 3 _ rfl; replace j9 := Mr.hid j9))
  all_goals dsimp only [Exit.noGoto]
  all_goals go_ret
  all_goals exact ⟨rfl, j9.out.done⟩
end
end Go.Proofs.YtkimmfdicohoiaaGreat.Ar
/-
  PUTTING's run, place by place (made by gengive.py).
-/
namespace Go.Proofs.YtkimmfdicohoiaaGreat.Ar
open Go.RowKit Mr Me Ma Wc Wm
section
variable {q : Pl} {N : Nat} {T : Nat → Prop} {vs : List Value} {sp : Bool} {s : Ss} {A : Ao} {k : Pk} {dn : Int} {xs : Array Value} {l : Int} {W w : World}
set_option maxRecDepth 100000 in
set_option maxHeartbeats 1000000 in
theorem give_miss (h : Rn q false s A (gvA q k dn) W) (hk : k.nx = 8) (hb : Me.Roomy s.lg s.ah) (hs : A.has k.sl) (hsl : k.sl ≤ 2147483646) (h0 : 0 < s.ws.length) (hd0 : 0 ≤ k.hd) (hd1 : k.hd ≤ 18446744073709551615) (hd2 : k.hd % 4294967296 ≤ 2147483647) (ho : s.ws[0]?.getD 0 ≠ k.hd) :
    Calls Tryz.prog 74 #[.pointer (some ⟨q.bt, 0, none⟩), .agg #[.pointer (some ⟨q.p.bd, 0, none⟩), .int .i64 1]] W fun e w' => e = .returned (.bool false) ∧ Rn q true (s.misses q.i q.now 0 k.hd (headBehind k.hd k.sl)) A (gvA q { k with nx := 5 } dn) w' := by
  obtain ⟨T, vs, i0⟩ := h.start 1
  obtain ⟨⟨c0, c1, c2, c3, c4, c5⟩, cz, x0, x1, xz⟩ := i0.gv
  rw [hk] at c3
  have ne := i0.ne
  have ne' : W.heap.size ≠ q.bt := fun e => ne e.symm
  have cellW := fun (sp' : Bool) (s' : Ss) (k' : Pk) (A' : Ao) (vs' : List Value) (l' : Int) (w1 : World) (T' : Nat → Prop) (h1 : In q W.heap.size T' vs' sp' s' A' (gvA q k' dn) l' w1) => h1.gv
  have hn : -1 ≤ k.sl ∧ k.sl ≤ 2147483646 := by have := hs.1; omega
  have HB := fun w => headBehind_any k.hd k.sl w hd0 hd1 hd2 hn.1 hn.2
  have AC := i0.acc1
  have FR := fun (w1 : World) (h1 : In q W.heap.size T vs false s A (gvA q k dn) 0 w1) => h1.drew.free
  have SW := fun (w1 : World) (h1 : In q W.heap.size T vs false s A (gvA q k dn) 0 w1) => h1.miss hb 0 h0 k.hd (headBehind k.hd k.sl) ho
  clear h hb h0 ho hd0 hd1 hd2 hn hs hsl
  generalize (s.misses q.i q.now 0 k.hd (headBehind k.hd k.sl)) = s1 at *
  generalize (headBehind k.hd k.sl) = y at *
  replace FR := Mr.hid FR
  replace SW := Mr.hid SW
  replace AC := Mr.hid AC
  replace cellW := Mr.hid cellW
  replace i0 := Mr.hid i0
  replace HB := Mr.hid HB
  go_enter Tryz.func74, Tryz.ntmps74
  go_wp2
  go_step3
  go_wp2
  go_step3
  go_wp2
  generalize W.alloc (.cells #[.pointer (some ⟨q.p.bd, 0, none⟩), .int .i64 1] 158) = V at *
  generalize W.heap.size = N at *
  refine wp_loop_rounds 2 ?_
  rw [rounds_succ]
  go_wp2_with (first | (go_at_call 100; refine AC.out.mono ?_; clear AC; rintro e v1 ⟨rfl, i1⟩; clear c0 c1 c2 c3 c4 c5 cz x0 x1 xz; obtain ⟨⟨c0, c1, c2, c3, c4, c5⟩, cz, x0, x1, xz⟩ := cellW.out _ _ _ _ _ _ v1 _ i1; have FR1 := FR.out v1 i1; clear FR; replace FR1 := Mr.hid FR1; replace i1 := Mr.hid i1))
  go_region_held3 (fun w' => w'.cell? ⟨N, 0, none⟩ = some (.pointer (some ⟨q.p.bd, 0, none⟩)) ∧ w'.cell? ⟨q.bt, 2, none⟩ = some (.int .i64 k.sl) ∧ w'.cell? ⟨q.bt, 4, none⟩ = some (.int .u64 k.hd)) (go_keep)
    (first | (go_at_call 102; refine FR1.out.mono ?_; clear FR1; rintro e w1 ⟨rfl, j1⟩; clear c0 c1 c2 c3 c4 c5 cz x0 x1 xz; obtain ⟨⟨c0, c1, c2, c3, c4, c5⟩, cz, x0, x1, xz⟩ := cellW.out _ _ _ _ _ _ w1 _ j1; have SW1 := SW.out w1 j1; replace SW1 := Mr.hid SW1; replace j1 := Mr.hid j1) | (go_at_call 106; refine (HB.out _).mono ?_; rintro e w' ⟨rfl, hw⟩; obtain rfl := hw.symm) | (go_at_call 105; refine SW1.out.mono ?_; clear SW1; rintro e w2 ⟨rfl, j2⟩; clear c0 c1 c2 c3 c4 c5 cz x0 x1 xz; obtain ⟨⟨c0, c1, c2, c3, c4, c5⟩, cz, x0, x1, xz⟩ := cellW.out _ _ _ _ _ _ w2 _ j2; replace j2 := Mr.hid j2))
  all_goals (rw [hk] at c3)
  all_goals (have j3 := j2.out.setT 3 (.int .i64 5))
  all_goals (have AC3 := In.acc0 j3)
  all_goals (replace AC3 := Mr.hid AC3; replace j3 := Mr.hid j3)
  all_goals go_wp2
  all_goals rw [rounds_succ]
  all_goals go_wp2_with (first | (go_at_call 100; refine AC3.out.mono ?_; clear AC3; rintro e w9 ⟨rfl, j9⟩; have c9 : w9.cell? ⟨q.bt, 3, none⟩ = some (.int .i64 5) := j9.at 3 _ rfl; replace j9 := Mr.hid j9))
  all_goals dsimp only [Exit.noGoto]
  all_goals go_ret
  all_goals exact ⟨rfl, j9.out.done⟩
end
end Go.Proofs.YtkimmfdicohoiaaGreat.Ar
