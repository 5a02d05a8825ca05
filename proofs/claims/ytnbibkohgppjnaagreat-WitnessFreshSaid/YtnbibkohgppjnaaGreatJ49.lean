import Derived.Test.YtnbibkohgppjnaaGreatJ45
import Derived.Test.YtnbibkohgppjnaaGreatJ48
import Derived.Test.YtnbibkohgppjnaaGreatJ42
set_option linter.unusedVariables false
set_option linter.unusedSimpArgs false
set_option maxRecDepth 100000
namespace Go.Proofs.YtnbibkohgppjnaaGreat.Ws
open Go.RowKit Mr Md
theorem sl_new (w : World) (xs : List Value) (e : TypeId) (size n : Nat) (hl : xs.length = n * size) : Sl (w.alloc (.cells xs.toArray e (0, 0))) (fun _ => True) size (.slice (some ⟨w.heap.size, 0, none⟩) n n) n xs := by
 refine ⟨hl, _, n, rfl, Nat.le_refl _, .inr ⟨w.heap.size, 0, rfl, trivial, by simp, fun j u hj => ?_⟩⟩
 unfold World.cell?
 rw [heap_alloc_new]
 simpa using hj
theorem sl_ks (w : World) : Sl (w.alloc (.cells (cqs ks).toArray 45 (0, 0))) (fun _ => True) 9 (.slice (some ⟨w.heap.size, 0, none⟩) 3 3) ks.length (cqs ks) := sl_new w (cqs ks) 45 9 3 (by decide)
theorem sl_three (w : World) (a b c : Int) : Sl (w.alloc (.cells #[.int .i64 a, .int .i64 b, .int .i64 c] 3 (0, 0))) (fun _ => True) 1 (.slice (some ⟨w.heap.size, 0, none⟩) 3 3) [a, b, c].length (ints [a, b, c]) := sl_new w (ints [a, b, c]) 3 1 3 rfl
theorem ks_wf : ∀ c ∈ ks, WfC c := by
 intro c hc
 simp [ks] at hc
 rcases hc with rfl | rfl | rfl
 ·exact ⟨wi_nat (n := 1) (by omega), wi_nat (n := 0) (by omega)⟩
 ·exact ⟨wi_nat (n := 0) (by omega), wi_nat (n := 0) (by omega)⟩
 ·exact ⟨wi_nat (n := 0) (by omega), wi_nat (n := 0) (by omega)⟩
set_option maxHeartbeats 8000000 in
theorem awake_any (W : World) : Calls Tryz.prog 13 #[] W fun e w' => e = .returned (.bool true) ∧ Below W.heap.size W w' := by
 have FN := Mr.hid (fun (w : World) (v : Value) (h : Sl w (fun _ => True) 9 v ks.length (cqs ks)) => Find_any h (by decide) ks_wf)
 have CN := Mr.hid (fun (w : World) (v : Value) (h : Sl w (fun _ => True) 9 v ks.length (cqs ks)) => Count_any h (by decide) ks_wf)
 have CK := Mr.hid (fun (w : World) (v u : Value) (h : Sl w (fun _ => True) 9 v ks.length (cqs ks)) (h2 : Sl w (fun _ => True) 1 u [0, 1, 2].length (ints [0, 1, 2])) => Wt.check_any ks_not.choose_spec h h2 (by decide) (by decide))
 have CO := Mr.hid (fun (w : World) (v u : Value) (h : Sl w (fun _ => True) 9 v ks.length (cqs ks)) (h2 : Sl w (fun _ => True) 1 u [1, 0, 2].length (ints [1, 0, 2])) => Wt.check_any ks_ok.choose_spec h h2 (by decide) (by decide))
 have SI := Mr.hid (fun (w : World) (u v : Value) (h : Sl w (fun _ => True) 1 u [1, 0, 2].length (ints [1, 0, 2])) (h2 : Sl w (fun _ => True) 1 v [1, 0, 2].length (ints [1, 0, 2])) => Wt.sameInts_eq h h2 (by decide))
 have NN := Mr.hid Wt.num_any
 have hL0 := Mr.hid (sl_ks W)
 have eE := ks_err
 have cR : cntR ks = 1 := by rw [cntR, ks_err, ks_cnt]; rfl
 have hB0 : Below W.heap.size W (W.alloc (.cells (cqs ks).toArray 45 (0, 0))) := (Below.refl _ _).alloc (Nat.le_refl _) _
 have hc27 : (cqs ks).toArray = #[.int .i64 0, .int .i64 30, .int .i64 1, .int .i64 0, .int .i64 0, .int .i64 9, .int .i64 8, .int .i64 1, .int .i64 0, .int .i64 1, .int .i64 31, .int .i64 0, .int .i64 0, .int .i64 1, .int .i64 3, .int .i64 2, .int .i64 3, .int .i64 0, .int .i64 1, .int .i64 31, .int .i64 0, .int .i64 0, .int .i64 10, .int .i64 14, .int .i64 12, .int .i64 2, .int .i64 1] := rfl
 rw [hc27] at hL0 hB0
 go_enter Tryz.func13, Tryz.ntmps13
 go_upto_region 2 with (fail)
 generalize hW1 : W.alloc _ = W1 at *
 clear hW1 hc27
 go_upto_region 3 with (go_at_call 6; refine (FN.out _ _ hL0.out).mono ?_; rintro e w2 ⟨hB2, ⟨h, _⟩ | ⟨_, h, _⟩ | ⟨_, l, vr, hl, rfl, hh⟩⟩; (· exact absurd ks_err h); (· rw [ks_fnd] at h; cases h))
 rw [ks_fnd] at hl
 cases hl
 obtain ⟨ar, cr, hvr, hcr⟩ := hh.form
 subst hvr
 have hL2 := Mr.hid (hL0.out.below hB2)
 have hO2 := Mr.hid (Sl.mono (Sl.of_has hh) (fun _ _ => trivial))
 have hBB := hB0.trans (hB2.mono hB0.size)
 clear hL0 hh FN hB0 hB2
 go_upto_region 4 with (go_at_call 11; refine (CN.out _ _ hL2.out).mono ?_; rintro e w3 ⟨rfl, hB3⟩)
 have hL3 := Mr.hid (hL2.out.below hB3)
 have hO3 := Mr.hid (hO2.out.below hB3)
 have hBC := hBB.trans (hB3.mono hBB.size)
 clear hL2 hO2 hBB hB3 CN cR eE
 have BA : ∀ (w : World) (o : Obj), Below w.heap.size w (w.alloc o) := fun w o => (Below.refl _ _).alloc (Nat.le_refl _) o
 replace BA := Mr.hid BA
 go_wp2_with (first
  | (go_at_call 9; refine (NN.out _ _).mono ?_; rintro e w' ⟨rfl, rfl⟩)
  | (go_at_call 8; refine (SI.out _ _ _ (hO3.out.below (BA.out _ _)) (sl_three _ 1 0 2)).mono ?_; clear SI; rintro e w4 ⟨rfl, hB4⟩; have hq4 := (BA.out w3 (.cells #[.int .i64 1, .int .i64 0, .int .i64 2] 3 (0, 0))).trans (hB4.mono (by simp)); have hL4 := Mr.hid (hL3.out.below hq4); have hO4 := Mr.hid (hO3.out.below hq4); have hBD := hBC.trans (hq4.mono hBC.size); clear hB4 hq4 hL3 hO3 hBC)
  | (go_at_call 21; refine (CK.out _ _ _ (hL4.out.below (BA.out _ _)) (sl_three _ 0 1 2)).mono ?_; clear CK; rintro e w5 ⟨rfl, hB5⟩; have hq5 := (BA.out w4 (.cells #[.int .i64 0, .int .i64 1, .int .i64 2] 3 (0, 0))).trans (hB5.mono (by simp)); have hL5 := Mr.hid (hL4.out.below hq5); have hO5 := Mr.hid (hO4.out.below hq5); have hBE := hBD.trans (hq5.mono hBD.size); clear hB5 hq5 hL4 hO4 hBD)
  | (go_at_call 21; refine (CO.out _ _ _ hL5.out hO5.out).mono ?_; clear CO; rintro e w6 ⟨rfl, hB6⟩; have hBF := hBE.trans (hB6.mono hBE.size); clear hB6 hBE))
 go_ret
 exact ⟨rfl, hBF⟩
end Go.Proofs.YtnbibkohgppjnaaGreat.Ws
