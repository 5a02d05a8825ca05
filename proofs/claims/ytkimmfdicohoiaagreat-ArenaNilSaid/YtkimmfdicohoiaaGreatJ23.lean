import Derived.Test.YtkimmfdicohoiaaGreatJ22
/-
  TAKING's run, place by place (made by gentake.py).
-/
namespace Go.Proofs.YtkimmfdicohoiaaGreat.Ar
open Go.RowKit Mr Me Ma Wc Wm
section
variable {q : Pl} {N : Nat} {T : Nat → Prop} {vs : List Value} {sp : Bool} {s : Ss} {A : Ao} {k : Pk} {xs : Array Value} {l : Int} {W w : World}
set_option maxRecDepth 100000 in
set_option maxHeartbeats 1000000 in
theorem take_load (h : Rn q false s A (tkA q k) W) (hk : k.nx = 5) (hb : Me.Roomy s.lg s.ah) (h0 : 0 < s.ws.length) (hx0 : (0 : Int) ≤ s.ws[0]?.getD 0) (hx1 : s.ws[0]?.getD 0 ≤ 18446744073709551615) (hh : A.has (firstOf (s.ws[0]?.getD 0))) :
    Calls Tryz.prog 71 #[.pointer (some ⟨q.bt, 0, none⟩), .agg #[.pointer (some ⟨q.p.bd, 0, none⟩), .int .i64 1]] W fun e w' => e = .returned (.bool false) ∧ Rn q true (s.loads q.i q.now 0) A (tkA q { k with nx := 6, hd := s.ws[0]?.getD 0, sl := firstOf (s.ws[0]?.getD 0) }) w' := by
  obtain ⟨T, vs, i0⟩ := h.start 1
  obtain ⟨⟨c0, c1, c2, c3, c4, c5, c6⟩, cz, x0, x1, xz⟩ := i0.tk
  rw [hk] at c3
  have ne := i0.ne
  have ne' : W.heap.size ≠ q.bt := fun e => ne e.symm
  have cellW := fun (sp' : Bool) (s' : Ss) (k' : Pk) (A' : Ao) (vs' : List Value) (l' : Int) (w1 : World) (h1 : In q W.heap.size T vs' sp' s' A' (tkA q k') l' w1) => h1.tk
  have dh : decide (A.has (firstOf (s.ws[0]?.getD 0))) = true := decide_eq_true hh
  have FO := fun w => firstOf_any (s.ws[0]?.getD 0) w hx0 hx1
  have AC := i0.acc1
  have FR := fun (w1 : World) (h1 : In q W.heap.size T vs false s A (tkA q k) 0 w1) => h1.drew.free
  have LD := fun (w1 : World) (h1 : In q W.heap.size T vs false s A (tkA q k) 0 w1) => h1.load hb 0 h0
  have J := fun (w2 : World) (f : Int) (h2 : In q W.heap.size T vs true (s.loads q.i q.now 0) A (tkA q k) 0 w2) => (show In q W.heap.size T vs true (s.loads q.i q.now 0) A (tkA q { k with nx := 6, hd := s.ws[0]?.getD 0, sl := f }) 0 (((w2.setCell ⟨q.bt, 4, none⟩ (.int .u64 (s.ws[0]?.getD 0))).setCell ⟨q.bt, 3, none⟩ (.int .i64 6)).setCell ⟨q.bt, 2, none⟩ (.int .i64 f)) from ((h2.setT 4 (.int .u64 (s.ws[0]?.getD 0))).setT 3 (.int .i64 6)).setT 2 (.int .i64 f))
  clear h hx0 hx1 hh hb h0
  generalize s.ws[0]?.getD 0 = x at *
  generalize s.loads q.i q.now 0 = s1 at *
  generalize firstOf x = f at *
  replace FR := Mr.hid FR
  replace LD := Mr.hid LD
  replace J := Mr.hid J
  replace AC := Mr.hid AC
  replace cellW := Mr.hid cellW
  replace i0 := Mr.hid i0
  go_enter Tryz.func71, Tryz.ntmps71
  go_wp2
  go_step3
  go_wp2
  go_step3
  go_wp2
  generalize W.alloc (.cells #[.pointer (some ⟨q.p.bd, 0, none⟩), .int .i64 1] 158) = V at *
  generalize W.heap.size = N at *
  refine wp_loop_rounds 2 ?_
  rw [rounds_succ]
  go_wp2_with (first | (go_at_call 100; refine AC.out.mono ?_; clear AC; rintro e v1 ⟨rfl, i1⟩; clear c0 c1 c2 c3 c4 c5 c6 cz x0 x1 xz; obtain ⟨⟨c0, c1, c2, c3, c4, c5, c6⟩, cz, x0, x1, xz⟩ := cellW.out _ _ _ _ _ _ v1 i1; have FR1 := FR.out v1 i1; clear FR; replace FR1 := Mr.hid FR1; replace i1 := Mr.hid i1))
  go_region_held3 (fun w' => w'.cell? ⟨N, 0, none⟩ = some (.pointer (some ⟨q.p.bd, 0, none⟩))) (go_keep)
    (first | (go_at_call 102; refine FR1.out.mono ?_; clear FR1; rintro e w1 ⟨rfl, j1⟩; clear c0 c1 c2 c3 c4 c5 c6 cz x0 x1 xz; obtain ⟨⟨c0, c1, c2, c3, c4, c5, c6⟩, cz, x0, x1, xz⟩ := cellW.out _ _ _ _ _ _ w1 j1; have LD1 := LD.out w1 j1; clear LD; replace LD1 := Mr.hid LD1; replace j1 := Mr.hid j1) | (go_at_call 101; refine LD1.out.mono ?_; clear LD1; rintro e w2 ⟨rfl, j2⟩; clear c0 c1 c2 c3 c4 c5 c6 cz x0 x1 xz; obtain ⟨⟨c0, c1, c2, c3, c4, c5, c6⟩, cz, x0, x1, xz⟩ := cellW.out _ _ _ _ _ _ w2 j2; have J2 := J.out w2 f j2; clear J; replace j2 := Mr.hid j2; replace J2 := Mr.hid J2))
  rw [hk] at c3
  have HS := J2.out.hasSlot f
  have AC3 := J2.out.acc0
  replace AC3 := Mr.hid AC3
  replace HS := Mr.hid HS
  go_wp2_with (first | (go_at_call 103; refine (FO _).mono ?_; clear FO; rintro e w' ⟨rfl, hw⟩; obtain rfl := hw.symm) | (go_at_call 66; refine HS.out.mono ?_; clear HS; rintro e w' ⟨rfl, hw⟩; obtain rfl := hw.symm))
  rw [rounds_succ]
  go_wp2_with (first | (go_at_call 100; refine AC3.out.mono ?_; clear AC3; rintro e w9 ⟨rfl, j9⟩; have c9 : w9.cell? ⟨q.bt, 3, none⟩ = some (.int .i64 6) := j9.at 3 _ rfl; replace j9 := Mr.hid j9))
  dsimp only [Exit.noGoto]
  go_ret
  exact ⟨rfl, j9.out.done⟩
end
end Go.Proofs.YtkimmfdicohoiaaGreat.Ar
/-
  TAKING's run, place by place (made by gentake.py).
-/
namespace Go.Proofs.YtkimmfdicohoiaaGreat.Ar
open Go.RowKit Mr Me Ma Wc Wm
section
variable {q : Pl} {N : Nat} {T : Nat → Prop} {vs : List Value} {sp : Bool} {s : Ss} {A : Ao} {k : Pk} {xs : Array Value} {l : Int} {W w : World}
set_option maxRecDepth 100000 in
set_option maxHeartbeats 1000000 in
theorem take_full (h : Rn q false s A (tkA q k) W) (hk : k.nx = 5) (hb : Me.Roomy s.lg s.ah) (h0 : 0 < s.ws.length) (hx0 : (0 : Int) ≤ s.ws[0]?.getD 0) (hx1 : s.ws[0]?.getD 0 ≤ 18446744073709551615) (hh : ¬ A.has (firstOf (s.ws[0]?.getD 0))) :
    Calls Tryz.prog 71 #[.pointer (some ⟨q.bt, 0, none⟩), .agg #[.pointer (some ⟨q.p.bd, 0, none⟩), .int .i64 1]] W fun e w' => e = .returned (.bool true) ∧ Rn q true (s.loads q.i q.now 0) A (tkA q { k with nx := 0, hd := s.ws[0]?.getD 0, sl := firstOf (s.ws[0]?.getD 0) }) w' := by
  obtain ⟨T, vs, i0⟩ := h.start 1
  obtain ⟨⟨c0, c1, c2, c3, c4, c5, c6⟩, cz, x0, x1, xz⟩ := i0.tk
  rw [hk] at c3
  have ne := i0.ne
  have ne' : W.heap.size ≠ q.bt := fun e => ne e.symm
  have cellW := fun (sp' : Bool) (s' : Ss) (k' : Pk) (A' : Ao) (vs' : List Value) (l' : Int) (w1 : World) (h1 : In q W.heap.size T vs' sp' s' A' (tkA q k') l' w1) => h1.tk
  have dh : decide (A.has (firstOf (s.ws[0]?.getD 0))) = false := decide_eq_false hh
  have FO := fun w => firstOf_any (s.ws[0]?.getD 0) w hx0 hx1
  have AC := i0.acc1
  have FR := fun (w1 : World) (h1 : In q W.heap.size T vs false s A (tkA q k) 0 w1) => h1.drew.free
  have LD := fun (w1 : World) (h1 : In q W.heap.size T vs false s A (tkA q k) 0 w1) => h1.load hb 0 h0
  have J := fun (w2 : World) (f : Int) (h2 : In q W.heap.size T vs true (s.loads q.i q.now 0) A (tkA q k) 0 w2) => (show In q W.heap.size T vs true (s.loads q.i q.now 0) A (tkA q { k with nx := 6, hd := s.ws[0]?.getD 0, sl := f }) 0 (((w2.setCell ⟨q.bt, 4, none⟩ (.int .u64 (s.ws[0]?.getD 0))).setCell ⟨q.bt, 3, none⟩ (.int .i64 6)).setCell ⟨q.bt, 2, none⟩ (.int .i64 f)) from ((h2.setT 4 (.int .u64 (s.ws[0]?.getD 0))).setT 3 (.int .i64 6)).setT 2 (.int .i64 f))
  clear h hx0 hx1 hh hb h0
  generalize s.ws[0]?.getD 0 = x at *
  generalize s.loads q.i q.now 0 = s1 at *
  generalize firstOf x = f at *
  replace FR := Mr.hid FR
  replace LD := Mr.hid LD
  replace J := Mr.hid J
  replace AC := Mr.hid AC
  replace cellW := Mr.hid cellW
  replace i0 := Mr.hid i0
  go_enter Tryz.func71, Tryz.ntmps71
  go_wp2
  go_step3
  go_wp2
  go_step3
  go_wp2
  generalize W.alloc (.cells #[.pointer (some ⟨q.p.bd, 0, none⟩), .int .i64 1] 158) = V at *
  generalize W.heap.size = N at *
  refine wp_loop_rounds 2 ?_
  rw [rounds_succ]
  go_wp2_with (first | (go_at_call 100; refine AC.out.mono ?_; clear AC; rintro e v1 ⟨rfl, i1⟩; clear c0 c1 c2 c3 c4 c5 c6 cz x0 x1 xz; obtain ⟨⟨c0, c1, c2, c3, c4, c5, c6⟩, cz, x0, x1, xz⟩ := cellW.out _ _ _ _ _ _ v1 i1; have FR1 := FR.out v1 i1; clear FR; replace FR1 := Mr.hid FR1; replace i1 := Mr.hid i1))
  go_region_held3 (fun w' => w'.cell? ⟨N, 0, none⟩ = some (.pointer (some ⟨q.p.bd, 0, none⟩))) (go_keep)
    (first | (go_at_call 102; refine FR1.out.mono ?_; clear FR1; rintro e w1 ⟨rfl, j1⟩; clear c0 c1 c2 c3 c4 c5 c6 cz x0 x1 xz; obtain ⟨⟨c0, c1, c2, c3, c4, c5, c6⟩, cz, x0, x1, xz⟩ := cellW.out _ _ _ _ _ _ w1 j1; have LD1 := LD.out w1 j1; clear LD; replace LD1 := Mr.hid LD1; replace j1 := Mr.hid j1) | (go_at_call 101; refine LD1.out.mono ?_; clear LD1; rintro e w2 ⟨rfl, j2⟩; clear c0 c1 c2 c3 c4 c5 c6 cz x0 x1 xz; obtain ⟨⟨c0, c1, c2, c3, c4, c5, c6⟩, cz, x0, x1, xz⟩ := cellW.out _ _ _ _ _ _ w2 j2; have J2 := J.out w2 f j2; clear J; replace j2 := Mr.hid j2; replace J2 := Mr.hid J2))
  rw [hk] at c3
  have HS := J2.out.hasSlot f
  replace HS := Mr.hid HS
  go_wp2_with (first | (go_at_call 103; refine (FO _).mono ?_; clear FO; rintro e w' ⟨rfl, hw⟩; obtain rfl := hw.symm) | (go_at_call 66; refine HS.out.mono ?_; clear HS; rintro e w' ⟨rfl, hw⟩; obtain rfl := hw.symm))
  rw [rounds_succ]
  have j9 := J2.out.setT 3 (.int .i64 0)
  have c9 := j9.at 3 _ rfl
  replace j9 := Mr.hid j9
  go_wp2
  dsimp only [Exit.noGoto]
  go_ret
  exact ⟨rfl, j9.out.done⟩
end
end Go.Proofs.YtkimmfdicohoiaaGreat.Ar
/-
  TAKING's run, place by place (made by gentake.py).
-/
namespace Go.Proofs.YtkimmfdicohoiaaGreat.Ar
open Go.RowKit Mr Me Ma Wc Wm
section
variable {q : Pl} {N : Nat} {T : Nat → Prop} {vs : List Value} {sp : Bool} {s : Ss} {A : Ao} {k : Pk} {xs : Array Value} {l : Int} {W w : World}
set_option maxRecDepth 100000 in
set_option maxHeartbeats 1000000 in
theorem take_spare (h : Rn q false s A (tkA q k) W) (hk : k.nx = 6) (hb : Me.Roomy s.lg s.ah) (hs : A.has k.sl) (ad : Nat) (had : q.c.m + k.sl = ad) (h0 : ad < s.ws.length) :
    Calls Tryz.prog 71 #[.pointer (some ⟨q.bt, 0, none⟩), .agg #[.pointer (some ⟨q.p.bd, 0, none⟩), .int .i64 1]] W fun e w' => e = .returned (.bool false) ∧ Rn q true (s.loads q.i q.now ad) A (tkA q { k with nx := 8, bh := s.ws[ad]?.getD 0 }) w' := by
  obtain ⟨T, vs, i0⟩ := h.start 1
  obtain ⟨⟨c0, c1, c2, c3, c4, c5, c6⟩, cz, x0, x1, xz⟩ := i0.tk
  rw [hk] at c3
  have ne := i0.ne
  have ne' : W.heap.size ≠ q.bt := fun e => ne e.symm
  have cellW := fun (sp' : Bool) (s' : Ss) (k' : Pk) (A' : Ao) (vs' : List Value) (l' : Int) (w1 : World) (h1 : In q W.heap.size T vs' sp' s' A' (tkA q k') l' w1) => h1.tk
  have AC := i0.acc1
  have FR := fun (w1 : World) (h1 : In q W.heap.size T vs false s A (tkA q k) 0 w1) => h1.drew.spare k.sl hs
  rw [had] at FR
  have LD := fun (w1 : World) (h1 : In q W.heap.size T vs false s A (tkA q k) 0 w1) => h1.load hb ad h0
  have J := fun (w2 : World) (h2 : In q W.heap.size T vs true (s.loads q.i q.now ad) A (tkA q k) 0 w2) => (show In q W.heap.size T vs true (s.loads q.i q.now ad) A (tkA q { k with nx := 8, bh := s.ws[ad]?.getD 0 }) 0 ((w2.setCell ⟨q.bt, 5, none⟩ (.int .u64 (s.ws[ad]?.getD 0))).setCell ⟨q.bt, 3, none⟩ (.int .i64 8)) from (h2.setT 5 (.int .u64 (s.ws[ad]?.getD 0))).setT 3 (.int .i64 8))
  clear h hs hb h0 had
  generalize s.ws[ad]?.getD 0 = x at *
  generalize s.loads q.i q.now ad = s1 at *
  replace FR := Mr.hid FR
  replace LD := Mr.hid LD
  replace J := Mr.hid J
  replace AC := Mr.hid AC
  replace cellW := Mr.hid cellW
  replace i0 := Mr.hid i0
  go_enter Tryz.func71, Tryz.ntmps71
  go_wp2
  go_step3
  go_wp2
  go_step3
  go_wp2
  generalize W.alloc (.cells #[.pointer (some ⟨q.p.bd, 0, none⟩), .int .i64 1] 158) = V at *
  generalize W.heap.size = N at *
  refine wp_loop_rounds 2 ?_
  rw [rounds_succ]
  go_wp2_with (first | (go_at_call 100; refine AC.out.mono ?_; clear AC; rintro e v1 ⟨rfl, i1⟩; clear c0 c1 c2 c3 c4 c5 c6 cz x0 x1 xz; obtain ⟨⟨c0, c1, c2, c3, c4, c5, c6⟩, cz, x0, x1, xz⟩ := cellW.out _ _ _ _ _ _ v1 i1; have FR1 := FR.out v1 i1; clear FR; replace FR1 := Mr.hid FR1; replace i1 := Mr.hid i1))
  go_region_held3 (fun w' => w'.cell? ⟨N, 0, none⟩ = some (.pointer (some ⟨q.p.bd, 0, none⟩)) ∧ w'.cell? ⟨q.bt, 2, none⟩ = some (.int .i64 k.sl)) (simp [*, World.cell?_setCell_far, World.cell?_setCell_other])
    (first | (go_at_call 104; refine FR1.out.mono ?_; clear FR1; rintro e w1 ⟨rfl, j1⟩; clear c0 c1 c2 c3 c4 c5 c6 cz x0 x1 xz; obtain ⟨⟨c0, c1, c2, c3, c4, c5, c6⟩, cz, x0, x1, xz⟩ := cellW.out _ _ _ _ _ _ w1 j1; have LD1 := LD.out w1 j1; clear LD; replace LD1 := Mr.hid LD1; replace j1 := Mr.hid j1) | (go_at_call 101; refine LD1.out.mono ?_; clear LD1; rintro e w2 ⟨rfl, j2⟩; clear c0 c1 c2 c3 c4 c5 c6 cz x0 x1 xz; obtain ⟨⟨c0, c1, c2, c3, c4, c5, c6⟩, cz, x0, x1, xz⟩ := cellW.out _ _ _ _ _ _ w2 j2; have J2 := J.out w2 j2; clear J; replace j2 := Mr.hid j2; replace J2 := Mr.hid J2))
  rw [hk] at c3
  have AC3 := J2.out.acc0
  replace AC3 := Mr.hid AC3
  go_wp2
  rw [rounds_succ]
  go_wp2_with (first | (go_at_call 100; refine AC3.out.mono ?_; clear AC3; rintro e w9 ⟨rfl, j9⟩; have c9 : w9.cell? ⟨q.bt, 3, none⟩ = some (.int .i64 8) := j9.at 3 _ rfl; replace j9 := Mr.hid j9))
  dsimp only [Exit.noGoto]
  go_ret
  exact ⟨rfl, j9.out.done⟩
end
end Go.Proofs.YtkimmfdicohoiaaGreat.Ar
