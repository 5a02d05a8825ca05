import Derived.Test.YtpknggcgojkjgaaGreatJ34
import Derived.Test.YtpknggcgojkjgaaGreatJ35
import Derived.Test.YtpknggcgojkjgaaGreatJ25
import Derived.Test.YtpknggcgojkjgaaGreatJ33
namespace Go.Proofs.YtpknggcgojkjgaaGreat.Wc
open Go.RowKit
theorem refConfig (a0 a1 a2 a3 a4 a5 a6 : Int) (w : World) :
    Calls Tryz.prog 10 #[.agg #[.int .i64 a0, .int .i64 a1, .int .i64 a2, .int .i64 a3, .int .i64 a4, .int .i64 a5, .int .i64 a6]] w fun e w' =>
      e = .returned (.bool (cfgB a0 a1 a2 a3 a4 a5 a6)) ∧ Below w.heap.size w w' := by
  by_cases c0 : decide (1 ≤ a0) = true
  rotate_left
  · have f : decide (1 ≤ a0) = false := by simpa using c0
    have e : cfgB a0 a1 a2 a3 a4 a5 a6 = false := by simp [cfgB, inB, f]
    rw [e]
    exact refConfig0 a0 a1 a2 a3 a4 a5 a6 w f
  by_cases c1 : decide (a0 ≤ 16) = true
  rotate_left
  · have f : decide (a0 ≤ 16) = false := by simpa using c1
    have e : cfgB a0 a1 a2 a3 a4 a5 a6 = false := by simp [cfgB, inB, f]
    rw [e]
    exact refConfig1 a0 a1 a2 a3 a4 a5 a6 w c0 f
  by_cases c2 : decide (1 ≤ a1) = true
  rotate_left
  · have f : decide (1 ≤ a1) = false := by simpa using c2
    have e : cfgB a0 a1 a2 a3 a4 a5 a6 = false := by simp [cfgB, inB, f]
    rw [e]
    exact refConfig2 a0 a1 a2 a3 a4 a5 a6 w c0 c1 f
  by_cases c3 : decide (a1 ≤ 16) = true
  rotate_left
  · have f : decide (a1 ≤ 16) = false := by simpa using c3
    have e : cfgB a0 a1 a2 a3 a4 a5 a6 = false := by simp [cfgB, inB, f]
    rw [e]
    exact refConfig3 a0 a1 a2 a3 a4 a5 a6 w c0 c1 c2 f
  by_cases c4 : decide (3 ≤ a2) = true
  rotate_left
  · have f : decide (3 ≤ a2) = false := by simpa using c4
    have e : cfgB a0 a1 a2 a3 a4 a5 a6 = false := by simp [cfgB, inB, f]
    rw [e]
    exact refConfig4 a0 a1 a2 a3 a4 a5 a6 w c0 c1 c2 c3 f
  by_cases c5 : decide (a2 ≤ 8) = true
  rotate_left
  · have f : decide (a2 ≤ 8) = false := by simpa using c5
    have e : cfgB a0 a1 a2 a3 a4 a5 a6 = false := by simp [cfgB, inB, f]
    rw [e]
    exact refConfig5 a0 a1 a2 a3 a4 a5 a6 w c0 c1 c2 c3 c4 f
  by_cases c6 : decide (1 ≤ a3) = true
  rotate_left
  · have f : decide (1 ≤ a3) = false := by simpa using c6
    have e : cfgB a0 a1 a2 a3 a4 a5 a6 = false := by simp [cfgB, inB, f]
    rw [e]
    exact refConfig6 a0 a1 a2 a3 a4 a5 a6 w c0 c1 c2 c3 c4 c5 f
  by_cases c7 : decide (a3 ≤ 1024) = true
  rotate_left
  · have f : decide (a3 ≤ 1024) = false := by simpa using c7
    have e : cfgB a0 a1 a2 a3 a4 a5 a6 = false := by simp [cfgB, inB, f]
    rw [e]
    exact refConfig7 a0 a1 a2 a3 a4 a5 a6 w c0 c1 c2 c3 c4 c5 c6 f
  by_cases c8 : decide (0 ≤ a4) = true
  rotate_left
  · have f : decide (0 ≤ a4) = false := by simpa using c8
    have e : cfgB a0 a1 a2 a3 a4 a5 a6 = false := by simp [cfgB, inB, f]
    rw [e]
    exact refConfig8 a0 a1 a2 a3 a4 a5 a6 w c0 c1 c2 c3 c4 c5 c6 c7 f
  by_cases c9 : decide (a4 ≤ 64) = true
  rotate_left
  · have f : decide (a4 ≤ 64) = false := by simpa using c9
    have e : cfgB a0 a1 a2 a3 a4 a5 a6 = false := by simp [cfgB, inB, f]
    rw [e]
    exact refConfig9 a0 a1 a2 a3 a4 a5 a6 w c0 c1 c2 c3 c4 c5 c6 c7 c8 f
  by_cases c10 : decide (1 ≤ a5) = true
  rotate_left
  · have f : decide (1 ≤ a5) = false := by simpa using c10
    have e : cfgB a0 a1 a2 a3 a4 a5 a6 = false := by simp [cfgB, inB, f]
    rw [e]
    exact refConfig10 a0 a1 a2 a3 a4 a5 a6 w c0 c1 c2 c3 c4 c5 c6 c7 c8 c9 f
  by_cases c11 : decide (a5 ≤ 1024) = true
  rotate_left
  · have f : decide (a5 ≤ 1024) = false := by simpa using c11
    have e : cfgB a0 a1 a2 a3 a4 a5 a6 = false := by simp [cfgB, inB, f]
    rw [e]
    exact refConfig11 a0 a1 a2 a3 a4 a5 a6 w c0 c1 c2 c3 c4 c5 c6 c7 c8 c9 c10 f
  by_cases c12 : decide (1 ≤ a6) = true
  rotate_left
  · have f : decide (1 ≤ a6) = false := by simpa using c12
    have e : cfgB a0 a1 a2 a3 a4 a5 a6 = false := by simp [cfgB, inB, f]
    rw [e]
    exact refConfig12 a0 a1 a2 a3 a4 a5 a6 w c0 c1 c2 c3 c4 c5 c6 c7 c8 c9 c10 c11 f
  by_cases c13 : decide (a6 ≤ 64) = true
  rotate_left
  · have f : decide (a6 ≤ 64) = false := by simpa using c13
    have e : cfgB a0 a1 a2 a3 a4 a5 a6 = false := by simp [cfgB, inB, f]
    rw [e]
    exact refConfig13 a0 a1 a2 a3 a4 a5 a6 w c0 c1 c2 c3 c4 c5 c6 c7 c8 c9 c10 c11 c12 f
  have e : cfgB a0 a1 a2 a3 a4 a5 a6 = true := by simp only [cfgB, inB, c0, c1, c2, c3, c4, c5, c6, c7, c8, c9, c10, c11, c12, c13]; rfl
  rw [e]
  exact refConfig14 a0 a1 a2 a3 a4 a5 a6 w c0 c1 c2 c3 c4 c5 c6 c7 c8 c9 c10 c11 c12 c13
end Go.Proofs.YtpknggcgojkjgaaGreat.Wc
/-
  CENSUS: CensusBounds.
-/
namespace Go.Proofs.YtpknggcgojkjgaaGreat.Cn
open Go.RowKit Mr Md
set_option linter.unusedVariables false
set_option linter.unusedSimpArgs false
set_option maxRecDepth 100000
set_option maxHeartbeats 4000000 in
theorem RListed_any {c : Nat → Int} (h : Cfr c) (w : World) : Calls Tryz.prog 15 #[cfgV c] w fun r w' => r = .returned (.int .i64 (bL c)) ∧ Below w.heap.size w w' := by
  have BO := Mr.hid (fun w => rlisted_any h w)
  have hB : Hid (Below w.heap.size w (w.alloc (cfO c))) := (Below.refl _ w).alloc (Nat.le_refl _) _
  have hb : Hid ((w.alloc (cfO c)).heap[w.heap.size]? = some (cfO c)) := heap_alloc_new _ _
  unfold cfgV at BO ⊢
  unfold cfO at hB hb
  go_enter Tryz.func15, Tryz.ntmps15
  go_upto_region 1 with (fail)
  generalize (w.alloc _) = wa at *
  obtain ⟨k0, k1, k2, k3, k4, k5, k6, kl⟩ := cfO_cells (c := c) hb.out
  go_wp2_with (go_at_call 38; refine (BO.out _).mono ?_; clear BO; rintro e wb ⟨rfl, hBb⟩; have B2 := Mr.hid (hB.out.trans (hBb.mono hB.out.size)); clear hBb k0 k1 k2 k3 k4 k5 k6)
  go_ret
  exact ⟨rfl, B2.out⟩
set_option maxHeartbeats 4000000 in
theorem RRetired_any {c : Nat → Int} (h : Cfr c) (w : World) : Calls Tryz.prog 16 #[cfgV c] w fun r w' => r = .returned (.int .i64 (bR c)) ∧ Below w.heap.size w w' := by
  have BO := Mr.hid (fun w => rretired_any h w)
  have hB : Hid (Below w.heap.size w (w.alloc (cfO c))) := (Below.refl _ w).alloc (Nat.le_refl _) _
  have hb : Hid ((w.alloc (cfO c)).heap[w.heap.size]? = some (cfO c)) := heap_alloc_new _ _
  unfold cfgV at BO ⊢
  unfold cfO at hB hb
  go_enter Tryz.func16, Tryz.ntmps16
  go_upto_region 1 with (fail)
  generalize (w.alloc _) = wa at *
  obtain ⟨k0, k1, k2, k3, k4, k5, k6, kl⟩ := cfO_cells (c := c) hb.out
  go_wp2_with (go_at_call 39; refine (BO.out _).mono ?_; clear BO; rintro e wb ⟨rfl, hBb⟩; have B2 := Mr.hid (hB.out.trans (hBb.mono hB.out.size)); clear hBb k0 k1 k2 k3 k4 k5 k6)
  go_ret
  exact ⟨rfl, B2.out⟩
set_option maxHeartbeats 4000000 in
theorem RSolo_any {c : Nat → Int} (h : Cfr c) (w : World) : Calls Tryz.prog 17 #[cfgV c] w fun r w' => r = .returned (.int .i64 (bSo c)) ∧ Below w.heap.size w w' := by
  have BO := Mr.hid (fun w => rsolo_any h w)
  have hB : Hid (Below w.heap.size w (w.alloc (cfO c))) := (Below.refl _ w).alloc (Nat.le_refl _) _
  have hb : Hid ((w.alloc (cfO c)).heap[w.heap.size]? = some (cfO c)) := heap_alloc_new _ _
  unfold cfgV at BO ⊢
  unfold cfO at hB hb
  go_enter Tryz.func17, Tryz.ntmps17
  go_upto_region 1 with (fail)
  generalize (w.alloc _) = wa at *
  obtain ⟨k0, k1, k2, k3, k4, k5, k6, kl⟩ := cfO_cells (c := c) hb.out
  go_wp2_with (go_at_call 40; refine (BO.out _).mono ?_; clear BO; rintro e wb ⟨rfl, hBb⟩; have B2 := Mr.hid (hB.out.trans (hBb.mono hB.out.size)); clear hBb k0 k1 k2 k3 k4 k5 k6)
  go_ret
  exact ⟨rfl, B2.out⟩
set_option maxHeartbeats 4000000 in
theorem RWindow_any {c : Nat → Int} (h : Cfr c) (w : World) : Calls Tryz.prog 18 #[cfgV c] w fun r w' => r = .returned (.int .i64 (bW c)) ∧ Below w.heap.size w w' := by
  have BO := Mr.hid (fun w => rwindow_any h w)
  have hB : Hid (Below w.heap.size w (w.alloc (cfO c))) := (Below.refl _ w).alloc (Nat.le_refl _) _
  have hb : Hid ((w.alloc (cfO c)).heap[w.heap.size]? = some (cfO c)) := heap_alloc_new _ _
  unfold cfgV at BO ⊢
  unfold cfO at hB hb
  go_enter Tryz.func18, Tryz.ntmps18
  go_upto_region 1 with (fail)
  generalize (w.alloc _) = wa at *
  obtain ⟨k0, k1, k2, k3, k4, k5, k6, kl⟩ := cfO_cells (c := c) hb.out
  go_wp2_with (go_at_call 41; refine (BO.out _).mono ?_; clear BO; rintro e wb ⟨rfl, hBb⟩; have B2 := Mr.hid (hB.out.trans (hBb.mono hB.out.size)); clear hBb k0 k1 k2 k3 k4 k5 k6)
  go_ret
  exact ⟨rfl, B2.out⟩
set_option maxHeartbeats 32000000 in
theorem walk_bounds (c : Nat → Int) (w : World) : Calls Tryz.prog 4 #[cfgV c] w fun r w' => r = .returned (.bool true) ∧ Below w.heap.size w w' := by
  have hB : Hid (Below w.heap.size w (w.alloc (cfO c))) := (Below.refl _ w).alloc (Nat.le_refl _) _
  have hb : Hid ((w.alloc (cfO c)).heap[w.heap.size]? = some (cfO c)) := heap_alloc_new _ _
  cases hc : cB c with
  | true =>
    have LA := Mr.hid (fun w => Listed_any c w)
    have RA := Mr.hid (fun w => Retired_any c w)
    have SA := Mr.hid (fun w => Solo_any c w)
    have WA := Mr.hid (fun w => Window_any c w)
    have AW := Mr.hid awake_any
    have CK := Mr.hid (fun w => Wc.refConfig (c 0) (c 1) (c 2) (c 3) (c 4) (c 5) (c 6) w)
    have LAr := Mr.hid (fun w => RListed_any (cB_cfr hc) w)
    have RAr := Mr.hid (fun w => RRetired_any (cB_cfr hc) w)
    have SAr := Mr.hid (fun w => RSolo_any (cB_cfr hc) w)
    have WAr := Mr.hid (fun w => RWindow_any (cB_cfr hc) w)
    have hk : Wc.chkN true = 0 := rfl
    rw [hc, hk] at LA RA SA WA
    clear hk
    simp only [if_true] at LA RA SA WA
    unfold cB at hc
    rw [hc] at CK
    replace hc := Mr.hid hc
    unfold cfgV at LA RA SA WA LAr RAr SAr WAr ⊢
    unfold cfO at hB hb
    generalize bL c = v1 at *
    generalize bR c = v2 at *
    generalize bSo c = v3 at *
    generalize bW c = v4 at *
    go_enter Tryz.func4, Tryz.ntmps4
    go_upto_region 1 with (fail)
    generalize (w.alloc _) = wa at *
    have BX : Hid (∀ w', Below wa.heap.size wa w' → _) := fun w' h => cfO_cells (c := c) ((h.block _ (Array.getElem?_eq_some_iff.1 hb.out).1).trans hb.out)
    have BB : Hid (Below wa.heap.size wa wa) := Below.refl _ _
    obtain ⟨k0, k1, k2, k3, k4, k5, k6, kl⟩ := BX.out _ BB.out
    go_wp2_with (first | (go_at_call 11; refine (LA.out _).mono ?_; clear LA; rintro e w1 ⟨rfl, hB1⟩; replace BB := Mr.hid (BB.out.trans (hB1.mono BB.out.size)); clear k0 k1 k2 k3 k4 k5 k6 hB1 kl; obtain ⟨k0, k1, k2, k3, k4, k5, k6, kl⟩ := BX.out _ BB.out) | (go_at_call 12; refine (RA.out _).mono ?_; clear RA; rintro e w1 ⟨rfl, hB1⟩; replace BB := Mr.hid (BB.out.trans (hB1.mono BB.out.size)); clear k0 k1 k2 k3 k4 k5 k6 hB1 kl; obtain ⟨k0, k1, k2, k3, k4, k5, k6, kl⟩ := BX.out _ BB.out) | (go_at_call 13; refine (SA.out _).mono ?_; clear SA; rintro e w1 ⟨rfl, hB1⟩; replace BB := Mr.hid (BB.out.trans (hB1.mono BB.out.size)); clear k0 k1 k2 k3 k4 k5 k6 hB1 kl; obtain ⟨k0, k1, k2, k3, k4, k5, k6, kl⟩ := BX.out _ BB.out) | (go_at_call 14; refine (WA.out _).mono ?_; clear WA; rintro e w1 ⟨rfl, hB1⟩; replace BB := Mr.hid (BB.out.trans (hB1.mono BB.out.size)); clear k0 k1 k2 k3 k4 k5 k6 hB1 kl; obtain ⟨k0, k1, k2, k3, k4, k5, k6, kl⟩ := BX.out _ BB.out) | (go_at_call 9; refine (AW.out _).mono ?_; clear AW; rintro e w1 ⟨rfl, hB1⟩; replace BB := Mr.hid (BB.out.trans (hB1.mono BB.out.size)); clear k0 k1 k2 k3 k4 k5 k6 hB1 kl; obtain ⟨k0, k1, k2, k3, k4, k5, k6, kl⟩ := BX.out _ BB.out) | (go_at_call 10; refine (CK.out _).mono ?_; clear CK; rintro e w1 ⟨rfl, hB1⟩; replace BB := Mr.hid (BB.out.trans (hB1.mono BB.out.size)); clear k0 k1 k2 k3 k4 k5 k6 hB1 kl; obtain ⟨k0, k1, k2, k3, k4, k5, k6, kl⟩ := BX.out _ BB.out) | (go_at_call 15; refine (LAr.out _).mono ?_; clear LAr; rintro e w1 ⟨rfl, hB1⟩; replace BB := Mr.hid (BB.out.trans (hB1.mono BB.out.size)); clear k0 k1 k2 k3 k4 k5 k6 hB1 kl; obtain ⟨k0, k1, k2, k3, k4, k5, k6, kl⟩ := BX.out _ BB.out) | (go_at_call 16; refine (RAr.out _).mono ?_; clear RAr; rintro e w1 ⟨rfl, hB1⟩; replace BB := Mr.hid (BB.out.trans (hB1.mono BB.out.size)); clear k0 k1 k2 k3 k4 k5 k6 hB1 kl; obtain ⟨k0, k1, k2, k3, k4, k5, k6, kl⟩ := BX.out _ BB.out) | (go_at_call 17; refine (SAr.out _).mono ?_; clear SAr; rintro e w1 ⟨rfl, hB1⟩; replace BB := Mr.hid (BB.out.trans (hB1.mono BB.out.size)); clear k0 k1 k2 k3 k4 k5 k6 hB1 kl; obtain ⟨k0, k1, k2, k3, k4, k5, k6, kl⟩ := BX.out _ BB.out) | (go_at_call 18; refine (WAr.out _).mono ?_; clear WAr; rintro e w1 ⟨rfl, hB1⟩; replace BB := Mr.hid (BB.out.trans (hB1.mono BB.out.size)); clear k0 k1 k2 k3 k4 k5 k6 hB1 kl; obtain ⟨k0, k1, k2, k3, k4, k5, k6, kl⟩ := BX.out _ BB.out))
    go_ret
    exact ⟨rfl, hB.out.trans (BB.out.mono hB.out.size)⟩
  | false =>
    have LA := Mr.hid (fun w => Listed_any c w)
    have RA := Mr.hid (fun w => Retired_any c w)
    have SA := Mr.hid (fun w => Solo_any c w)
    have WA := Mr.hid (fun w => Window_any c w)
    have AW := Mr.hid awake_any
    have CK := Mr.hid (fun w => Wc.refConfig (c 0) (c 1) (c 2) (c 3) (c 4) (c 5) (c 6) w)
    have hk : Wc.chkN false = 1 := rfl
    rw [hc, hk] at LA RA SA WA
    clear hk
    simp only [Bool.false_eq_true, if_false] at LA RA SA WA
    unfold cB at hc
    rw [hc] at CK
    replace hc := Mr.hid hc
    unfold cfgV at LA RA SA WA ⊢
    unfold cfO at hB hb
    go_enter Tryz.func4, Tryz.ntmps4
    go_upto_region 1 with (fail)
    generalize (w.alloc _) = wa at *
    have BX : Hid (∀ w', Below wa.heap.size wa w' → _) := fun w' h => cfO_cells (c := c) ((h.block _ (Array.getElem?_eq_some_iff.1 hb.out).1).trans hb.out)
    have BB : Hid (Below wa.heap.size wa wa) := Below.refl _ _
    obtain ⟨k0, k1, k2, k3, k4, k5, k6, kl⟩ := BX.out _ BB.out
    go_wp2_with (first | (go_at_call 11; refine (LA.out _).mono ?_; clear LA; rintro e w1 ⟨rfl, hB1⟩; replace BB := Mr.hid (BB.out.trans (hB1.mono BB.out.size)); clear k0 k1 k2 k3 k4 k5 k6 hB1 kl; obtain ⟨k0, k1, k2, k3, k4, k5, k6, kl⟩ := BX.out _ BB.out) | (go_at_call 12; refine (RA.out _).mono ?_; clear RA; rintro e w1 ⟨rfl, hB1⟩; replace BB := Mr.hid (BB.out.trans (hB1.mono BB.out.size)); clear k0 k1 k2 k3 k4 k5 k6 hB1 kl; obtain ⟨k0, k1, k2, k3, k4, k5, k6, kl⟩ := BX.out _ BB.out) | (go_at_call 13; refine (SA.out _).mono ?_; clear SA; rintro e w1 ⟨rfl, hB1⟩; replace BB := Mr.hid (BB.out.trans (hB1.mono BB.out.size)); clear k0 k1 k2 k3 k4 k5 k6 hB1 kl; obtain ⟨k0, k1, k2, k3, k4, k5, k6, kl⟩ := BX.out _ BB.out) | (go_at_call 14; refine (WA.out _).mono ?_; clear WA; rintro e w1 ⟨rfl, hB1⟩; replace BB := Mr.hid (BB.out.trans (hB1.mono BB.out.size)); clear k0 k1 k2 k3 k4 k5 k6 hB1 kl; obtain ⟨k0, k1, k2, k3, k4, k5, k6, kl⟩ := BX.out _ BB.out) | (go_at_call 9; refine (AW.out _).mono ?_; clear AW; rintro e w1 ⟨rfl, hB1⟩; replace BB := Mr.hid (BB.out.trans (hB1.mono BB.out.size)); clear k0 k1 k2 k3 k4 k5 k6 hB1 kl; obtain ⟨k0, k1, k2, k3, k4, k5, k6, kl⟩ := BX.out _ BB.out) | (go_at_call 10; refine (CK.out _).mono ?_; clear CK; rintro e w1 ⟨rfl, hB1⟩; replace BB := Mr.hid (BB.out.trans (hB1.mono BB.out.size)); clear k0 k1 k2 k3 k4 k5 k6 hB1 kl; obtain ⟨k0, k1, k2, k3, k4, k5, k6, kl⟩ := BX.out _ BB.out))
    go_ret
    exact ⟨rfl, hB.out.trans (BB.out.mono hB.out.size)⟩
def cfA (a0 a1 a2 a3 a4 a5 a6 : Int) : Nat → Int
  | 0 => a0 | 1 => a1 | 2 => a2 | 3 => a3 | 4 => a4 | 5 => a5 | _ => a6
theorem bounds_law (a0 a1 a2 a3 a4 a5 a6 : Int) (w : World) {P : Prop} (_h : P) : Calls Tryz.prog 4 #[.agg #[.int .i64 a0, .int .i64 a1, .int .i64 a2, .int .i64 a3, .int .i64 a4, .int .i64 a5, .int .i64 a6]] w fun r w' => r = .returned (.bool true) ∧ Below w.heap.size w w' := walk_bounds (cfA a0 a1 a2 a3 a4 a5 a6) w
end Go.Proofs.YtpknggcgojkjgaaGreat.Cn
