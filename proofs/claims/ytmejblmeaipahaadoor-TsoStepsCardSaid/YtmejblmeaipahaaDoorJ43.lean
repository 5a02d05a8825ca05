import Derived.Test.YtmejblmeaipahaaDoorJ22
import Derived.Deep.RegionHeld3
/-
  TSO: the document's rule for an instruction.
-/
namespace Go.Proofs.YtmejblmeaipahaaDoor.Ts
open Go.RowKit Mr
set_option linter.unusedVariables false
set_option linter.unusedSimpArgs false
set_option maxRecDepth 100000
theorem inB_low {x lo hi : Int} (h : x < lo) : inB x lo hi = false := by unfold inB; rw [decide_eq_false (by omega)]; rfl
theorem inB_high {x lo hi : Int} (h : hi < x) : inB x lo hi = false := by unfold inB; rw [decide_eq_false (show ¬ x ≤ hi by omega), Bool.and_false]
theorem inB_in {x lo hi : Int} (h1 : lo ≤ x) (h2 : x ≤ hi) : inB x lo hi = true := by unfold inB; rw [decide_eq_true h1, decide_eq_true h2]; rfl
set_option maxHeartbeats 8000000 in
theorem rfit_low (i : In) (n : Int) (w : World) (h : i.kd < 1 ∨ 7 < i.kd) : Calls Tryd.prog 28 #[i.val, .int .i64 n] w fun e w' => e = .returned (.bool false) ∧ Below w.heap.size w w' := by
  obtain ⟨kd, rg, ad, vl, fr, ol, ct⟩ := i
  unfold In.val
  dsimp only at h ⊢
  have B0 : Hid (Below w.heap.size w (w.alloc (.cells #[.int .i64 kd, .int .i64 rg, .int .i64 ad, .int .i64 vl, .int .i64 fr, .int .i64 ol, .int .i64 ct] 73))) := (Below.refl _ _).alloc (Nat.le_refl _) _
  by_cases h1 : kd < 1
  · have d1 : decide (kd < 1) = true := decide_eq_true h1
    go_enter Tryd.func28, Tryd.ntmps28
    go_wp2
    go_ret
    exact ⟨rfl, B0.out⟩
  · have d1 : decide (kd < 1) = false := decide_eq_false h1
    have d2 : decide (7 < kd) = true := decide_eq_true (by omega)
    have d3 : 7 < kd := by omega
    go_enter Tryd.func28, Tryd.ntmps28
    go_wp2
    go_ret
    exact ⟨rfl, B0.out⟩
set_option maxHeartbeats 8000000 in
theorem rfit_1 (n rg ad vl fr ol ct : Int) (w : World) : Calls Tryd.prog 28 #[.agg #[.int .i64 1, .int .i64 rg, .int .i64 ad, .int .i64 vl, .int .i64 fr, .int .i64 ol, .int .i64 ct], .int .i64 n] w fun e w' => e = .returned (.bool (fitB n ⟨1, rg, ad, vl, fr, ol, ct⟩)) ∧ Below w.heap.size w w' := by
  rw [fit_1]
  have B0 : Hid (Below w.heap.size w (w.alloc (.cells #[.int .i64 1, .int .i64 rg, .int .i64 ad, .int .i64 vl, .int .i64 fr, .int .i64 ol, .int .i64 ct] 73))) := (Below.refl _ _).alloc (Nat.le_refl _) _
  by_cases hrg1 : rg < 0
  · have rg1 : rg < 0 := by omega
    have rg1d : decide (rg < 0) = true := decide_eq_true rg1
    have eR : inB rg 0 3 = false := inB_low (by omega)
    clear hrg1
    go_enter Tryd.func28, Tryd.ntmps28
    go_wp2
    go_ret
    exact ⟨by simp [*], B0.out⟩
  · by_cases hrg2 : 4 ≤ rg
    · have rg1 : ¬ (rg < 0) := by omega
      have rg1d : decide (rg < 0) = false := decide_eq_false rg1
      have rg2 : 4 ≤ rg := by omega
      have rg2d : decide (4 ≤ rg) = true := decide_eq_true rg2
      have eR : inB rg 0 3 = false := inB_high (by omega)
      clear hrg1 hrg2
      go_enter Tryd.func28, Tryd.ntmps28
      go_wp2
      go_ret
      exact ⟨by simp [*], B0.out⟩
    · have rg1 : ¬ (rg < 0) := by omega
      have rg1d : decide (rg < 0) = false := decide_eq_false rg1
      have rg2 : ¬ (4 ≤ rg) := by omega
      have rg2d : decide (4 ≤ rg) = false := decide_eq_false rg2
      have eR : inB rg 0 3 = true := inB_in (by omega) (by omega)
      clear hrg1 hrg2
      by_cases had1 : ad < 0
      · have ad1 : ad < 0 := by omega
        have ad1d : decide (ad < 0) = true := decide_eq_true ad1
        have eA : inB ad 0 (n - 1) = false := inB_low (by omega)
        clear had1
        go_enter Tryd.func28, Tryd.ntmps28
        go_wp2
        go_ret
        exact ⟨by simp [*], B0.out⟩
      · by_cases had2 : n ≤ ad
        · have ad1 : ¬ (ad < 0) := by omega
          have ad1d : decide (ad < 0) = false := decide_eq_false ad1
          have ad2 : n ≤ ad := by omega
          have ad2d : decide (n ≤ ad) = true := decide_eq_true ad2
          have eA : inB ad 0 (n - 1) = false := inB_high (by omega)
          clear had1 had2
          go_enter Tryd.func28, Tryd.ntmps28
          go_wp2
          go_ret
          exact ⟨by simp [*], B0.out⟩
        · have ad1 : ¬ (ad < 0) := by omega
          have ad1d : decide (ad < 0) = false := decide_eq_false ad1
          have ad2 : ¬ (n ≤ ad) := by omega
          have ad2d : decide (n ≤ ad) = false := decide_eq_false ad2
          have eA : inB ad 0 (n - 1) = true := inB_in (by omega) (by omega)
          clear had1 had2
          go_enter Tryd.func28, Tryd.ntmps28
          go_wp2
          go_ret
          exact ⟨by simp [*], B0.out⟩
set_option maxHeartbeats 8000000 in
theorem rfit_2 (n rg ad vl fr ol ct : Int) (w : World) : Calls Tryd.prog 28 #[.agg #[.int .i64 2, .int .i64 rg, .int .i64 ad, .int .i64 vl, .int .i64 fr, .int .i64 ol, .int .i64 ct], .int .i64 n] w fun e w' => e = .returned (.bool (fitB n ⟨2, rg, ad, vl, fr, ol, ct⟩)) ∧ Below w.heap.size w w' := by
  rw [fit_2]
  have B0 : Hid (Below w.heap.size w (w.alloc (.cells #[.int .i64 2, .int .i64 rg, .int .i64 ad, .int .i64 vl, .int .i64 fr, .int .i64 ol, .int .i64 ct] 73))) := (Below.refl _ _).alloc (Nat.le_refl _) _
  by_cases had1 : ad < 0
  · have ad1 : ad < 0 := by omega
    have ad1d : decide (ad < 0) = true := decide_eq_true ad1
    have eA : inB ad 0 (n - 1) = false := inB_low (by omega)
    clear had1
    go_enter Tryd.func28, Tryd.ntmps28
    go_wp2
    go_ret
    exact ⟨by simp [*], B0.out⟩
  · by_cases had2 : n ≤ ad
    · have ad1 : ¬ (ad < 0) := by omega
      have ad1d : decide (ad < 0) = false := decide_eq_false ad1
      have ad2 : n ≤ ad := by omega
      have ad2d : decide (n ≤ ad) = true := decide_eq_true ad2
      have eA : inB ad 0 (n - 1) = false := inB_high (by omega)
      clear had1 had2
      go_enter Tryd.func28, Tryd.ntmps28
      go_wp2
      go_ret
      exact ⟨by simp [*], B0.out⟩
    · have ad1 : ¬ (ad < 0) := by omega
      have ad1d : decide (ad < 0) = false := decide_eq_false ad1
      have ad2 : ¬ (n ≤ ad) := by omega
      have ad2d : decide (n ≤ ad) = false := decide_eq_false ad2
      have eA : inB ad 0 (n - 1) = true := inB_in (by omega) (by omega)
      clear had1 had2
      by_cases hfr1 : fr < -1
      · have fr1 : fr < -1 := by omega
        have fr1d : decide (fr < -1) = true := decide_eq_true fr1
        have eF : inB fr (-1) 3 = false := inB_low (by omega)
        clear hfr1
        go_enter Tryd.func28, Tryd.ntmps28
        go_wp2
        go_ret
        exact ⟨by simp [*], B0.out⟩
      · by_cases hfr2 : 4 ≤ fr
        · have fr1 : ¬ (fr < -1) := by omega
          have fr1d : decide (fr < -1) = false := decide_eq_false fr1
          have fr2 : 4 ≤ fr := by omega
          have fr2d : decide (4 ≤ fr) = true := decide_eq_true fr2
          have eF : inB fr (-1) 3 = false := inB_high (by omega)
          clear hfr1 hfr2
          go_enter Tryd.func28, Tryd.ntmps28
          go_wp2
          go_ret
          exact ⟨by simp [*], B0.out⟩
        · have fr1 : ¬ (fr < -1) := by omega
          have fr1d : decide (fr < -1) = false := decide_eq_false fr1
          have fr2 : ¬ (4 ≤ fr) := by omega
          have fr2d : decide (4 ≤ fr) = false := decide_eq_false fr2
          have eF : inB fr (-1) 3 = true := inB_in (by omega) (by omega)
          clear hfr1 hfr2
          go_enter Tryd.func28, Tryd.ntmps28
          go_wp2
          go_ret
          exact ⟨by simp [*], B0.out⟩
set_option maxHeartbeats 8000000 in
theorem rfit_3 (n rg ad vl fr ol ct : Int) (w : World) : Calls Tryd.prog 28 #[.agg #[.int .i64 3, .int .i64 rg, .int .i64 ad, .int .i64 vl, .int .i64 fr, .int .i64 ol, .int .i64 ct], .int .i64 n] w fun e w' => e = .returned (.bool (fitB n ⟨3, rg, ad, vl, fr, ol, ct⟩)) ∧ Below w.heap.size w w' := by
  rw [fit_3]
  have B0 : Hid (Below w.heap.size w (w.alloc (.cells #[.int .i64 3, .int .i64 rg, .int .i64 ad, .int .i64 vl, .int .i64 fr, .int .i64 ol, .int .i64 ct] 73))) := (Below.refl _ _).alloc (Nat.le_refl _) _
  by_cases hrg1 : rg < 0
  · have rg1 : rg < 0 := by omega
    have rg1d : decide (rg < 0) = true := decide_eq_true rg1
    have eR : inB rg 0 3 = false := inB_low (by omega)
    clear hrg1
    go_enter Tryd.func28, Tryd.ntmps28
    go_wp2
    go_ret
    exact ⟨by simp [*], B0.out⟩
  · by_cases hrg2 : 4 ≤ rg
    · have rg1 : ¬ (rg < 0) := by omega
      have rg1d : decide (rg < 0) = false := decide_eq_false rg1
      have rg2 : 4 ≤ rg := by omega
      have rg2d : decide (4 ≤ rg) = true := decide_eq_true rg2
      have eR : inB rg 0 3 = false := inB_high (by omega)
      clear hrg1 hrg2
      go_enter Tryd.func28, Tryd.ntmps28
      go_wp2
      go_ret
      exact ⟨by simp [*], B0.out⟩
    · have rg1 : ¬ (rg < 0) := by omega
      have rg1d : decide (rg < 0) = false := decide_eq_false rg1
      have rg2 : ¬ (4 ≤ rg) := by omega
      have rg2d : decide (4 ≤ rg) = false := decide_eq_false rg2
      have eR : inB rg 0 3 = true := inB_in (by omega) (by omega)
      clear hrg1 hrg2
      by_cases had1 : ad < 0
      · have ad1 : ad < 0 := by omega
        have ad1d : decide (ad < 0) = true := decide_eq_true ad1
        have eA : inB ad 0 (n - 1) = false := inB_low (by omega)
        clear had1
        go_enter Tryd.func28, Tryd.ntmps28
        go_wp2
        go_ret
        exact ⟨by simp [*], B0.out⟩
      · by_cases had2 : n ≤ ad
        · have ad1 : ¬ (ad < 0) := by omega
          have ad1d : decide (ad < 0) = false := decide_eq_false ad1
          have ad2 : n ≤ ad := by omega
          have ad2d : decide (n ≤ ad) = true := decide_eq_true ad2
          have eA : inB ad 0 (n - 1) = false := inB_high (by omega)
          clear had1 had2
          go_enter Tryd.func28, Tryd.ntmps28
          go_wp2
          go_ret
          exact ⟨by simp [*], B0.out⟩
        · have ad1 : ¬ (ad < 0) := by omega
          have ad1d : decide (ad < 0) = false := decide_eq_false ad1
          have ad2 : ¬ (n ≤ ad) := by omega
          have ad2d : decide (n ≤ ad) = false := decide_eq_false ad2
          have eA : inB ad 0 (n - 1) = true := inB_in (by omega) (by omega)
          clear had1 had2
          go_enter Tryd.func28, Tryd.ntmps28
          go_wp2
          go_ret
          exact ⟨by simp [*], B0.out⟩
set_option maxHeartbeats 8000000 in
theorem rfit_4 (n rg ad vl fr ol ct : Int) (w : World) : Calls Tryd.prog 28 #[.agg #[.int .i64 4, .int .i64 rg, .int .i64 ad, .int .i64 vl, .int .i64 fr, .int .i64 ol, .int .i64 ct], .int .i64 n] w fun e w' => e = .returned (.bool (fitB n ⟨4, rg, ad, vl, fr, ol, ct⟩)) ∧ Below w.heap.size w w' := by
  rw [fit_4]
  have B0 : Hid (Below w.heap.size w (w.alloc (.cells #[.int .i64 4, .int .i64 rg, .int .i64 ad, .int .i64 vl, .int .i64 fr, .int .i64 ol, .int .i64 ct] 73))) := (Below.refl _ _).alloc (Nat.le_refl _) _
  go_enter Tryd.func28, Tryd.ntmps28
  go_wp2
  go_ret
  exact ⟨by simp [*], B0.out⟩
set_option maxHeartbeats 8000000 in
theorem rfit_5 (n rg ad vl fr ol ct : Int) (w : World) : Calls Tryd.prog 28 #[.agg #[.int .i64 5, .int .i64 rg, .int .i64 ad, .int .i64 vl, .int .i64 fr, .int .i64 ol, .int .i64 ct], .int .i64 n] w fun e w' => e = .returned (.bool (fitB n ⟨5, rg, ad, vl, fr, ol, ct⟩)) ∧ Below w.heap.size w w' := by
  rw [fit_5]
  have B0 : Hid (Below w.heap.size w (w.alloc (.cells #[.int .i64 5, .int .i64 rg, .int .i64 ad, .int .i64 vl, .int .i64 fr, .int .i64 ol, .int .i64 ct] 73))) := (Below.refl _ _).alloc (Nat.le_refl _) _
  by_cases hrg1 : rg < 0
  · have rg1 : rg < 0 := by omega
    have rg1d : decide (rg < 0) = true := decide_eq_true rg1
    have eR : inB rg 0 3 = false := inB_low (by omega)
    clear hrg1
    go_enter Tryd.func28, Tryd.ntmps28
    go_wp2
    go_ret
    exact ⟨by simp [*], B0.out⟩
  · by_cases hrg2 : 4 ≤ rg
    · have rg1 : ¬ (rg < 0) := by omega
      have rg1d : decide (rg < 0) = false := decide_eq_false rg1
      have rg2 : 4 ≤ rg := by omega
      have rg2d : decide (4 ≤ rg) = true := decide_eq_true rg2
      have eR : inB rg 0 3 = false := inB_high (by omega)
      clear hrg1 hrg2
      go_enter Tryd.func28, Tryd.ntmps28
      go_wp2
      go_ret
      exact ⟨by simp [*], B0.out⟩
    · have rg1 : ¬ (rg < 0) := by omega
      have rg1d : decide (rg < 0) = false := decide_eq_false rg1
      have rg2 : ¬ (4 ≤ rg) := by omega
      have rg2d : decide (4 ≤ rg) = false := decide_eq_false rg2
      have eR : inB rg 0 3 = true := inB_in (by omega) (by omega)
      clear hrg1 hrg2
      go_enter Tryd.func28, Tryd.ntmps28
      go_wp2
      go_ret
      exact ⟨by simp [*], B0.out⟩
set_option maxHeartbeats 8000000 in
theorem rfit_6 (n rg ad vl fr ol ct : Int) (w : World) : Calls Tryd.prog 28 #[.agg #[.int .i64 6, .int .i64 rg, .int .i64 ad, .int .i64 vl, .int .i64 fr, .int .i64 ol, .int .i64 ct], .int .i64 n] w fun e w' => e = .returned (.bool (fitB n ⟨6, rg, ad, vl, fr, ol, ct⟩)) ∧ Below w.heap.size w w' := by
  rw [fit_6]
  have B0 : Hid (Below w.heap.size w (w.alloc (.cells #[.int .i64 6, .int .i64 rg, .int .i64 ad, .int .i64 vl, .int .i64 fr, .int .i64 ol, .int .i64 ct] 73))) := (Below.refl _ _).alloc (Nat.le_refl _) _
  by_cases hrg1 : rg < 0
  · have rg1 : rg < 0 := by omega
    have rg1d : decide (rg < 0) = true := decide_eq_true rg1
    have eR : inB rg 0 3 = false := inB_low (by omega)
    clear hrg1
    go_enter Tryd.func28, Tryd.ntmps28
    go_wp2
    go_ret
    exact ⟨by simp [*], B0.out⟩
  · by_cases hrg2 : 4 ≤ rg
    · have rg1 : ¬ (rg < 0) := by omega
      have rg1d : decide (rg < 0) = false := decide_eq_false rg1
      have rg2 : 4 ≤ rg := by omega
      have rg2d : decide (4 ≤ rg) = true := decide_eq_true rg2
      have eR : inB rg 0 3 = false := inB_high (by omega)
      clear hrg1 hrg2
      go_enter Tryd.func28, Tryd.ntmps28
      go_wp2
      go_ret
      exact ⟨by simp [*], B0.out⟩
    · have rg1 : ¬ (rg < 0) := by omega
      have rg1d : decide (rg < 0) = false := decide_eq_false rg1
      have rg2 : ¬ (4 ≤ rg) := by omega
      have rg2d : decide (4 ≤ rg) = false := decide_eq_false rg2
      have eR : inB rg 0 3 = true := inB_in (by omega) (by omega)
      clear hrg1 hrg2
      go_enter Tryd.func28, Tryd.ntmps28
      go_wp2
      go_ret
      exact ⟨by simp [*], B0.out⟩
set_option maxHeartbeats 8000000 in
theorem rfit_7 (n rg ad vl fr ol ct : Int) (w : World) : Calls Tryd.prog 28 #[.agg #[.int .i64 7, .int .i64 rg, .int .i64 ad, .int .i64 vl, .int .i64 fr, .int .i64 ol, .int .i64 ct], .int .i64 n] w fun e w' => e = .returned (.bool (fitB n ⟨7, rg, ad, vl, fr, ol, ct⟩)) ∧ Below w.heap.size w w' := by
  rw [fit_7]
  have B0 : Hid (Below w.heap.size w (w.alloc (.cells #[.int .i64 7, .int .i64 rg, .int .i64 ad, .int .i64 vl, .int .i64 fr, .int .i64 ol, .int .i64 ct] 73))) := (Below.refl _ _).alloc (Nat.le_refl _) _
  by_cases hrg1 : rg < 0
  · have rg1 : rg < 0 := by omega
    have rg1d : decide (rg < 0) = true := decide_eq_true rg1
    have eR : inB rg 0 3 = false := inB_low (by omega)
    clear hrg1
    go_enter Tryd.func28, Tryd.ntmps28
    go_wp2
    go_ret
    exact ⟨by simp [*], B0.out⟩
  · by_cases hrg2 : 4 ≤ rg
    · have rg1 : ¬ (rg < 0) := by omega
      have rg1d : decide (rg < 0) = false := decide_eq_false rg1
      have rg2 : 4 ≤ rg := by omega
      have rg2d : decide (4 ≤ rg) = true := decide_eq_true rg2
      have eR : inB rg 0 3 = false := inB_high (by omega)
      clear hrg1 hrg2
      go_enter Tryd.func28, Tryd.ntmps28
      go_wp2
      go_ret
      exact ⟨by simp [*], B0.out⟩
    · have rg1 : ¬ (rg < 0) := by omega
      have rg1d : decide (rg < 0) = false := decide_eq_false rg1
      have rg2 : ¬ (4 ≤ rg) := by omega
      have rg2d : decide (4 ≤ rg) = false := decide_eq_false rg2
      have eR : inB rg 0 3 = true := inB_in (by omega) (by omega)
      clear hrg1 hrg2
      by_cases hct1 : ct < 0
      · have c1 : ¬ (0 ≤ ct) := by omega
        have c1d : decide (0 ≤ ct) = false := decide_eq_false c1
        have eC : inB ct 0 10 = false := inB_low (by omega)
        clear hct1
        go_enter Tryd.func28, Tryd.ntmps28
        go_wp2
        go_ret
        exact ⟨by simp [*], B0.out⟩
      · by_cases hct2 : 10 < ct
        · have c1 : 0 ≤ ct := by omega
          have c1d : decide (0 ≤ ct) = true := decide_eq_true c1
          have c2 : ¬ (ct ≤ 10) := by omega
          have c2d : decide (ct ≤ 10) = false := decide_eq_false c2
          have eC : inB ct 0 10 = false := inB_high (by omega)
          clear hct1 hct2
          go_enter Tryd.func28, Tryd.ntmps28
          go_wp2
          go_ret
          exact ⟨by simp [*], B0.out⟩
        · have c1 : 0 ≤ ct := by omega
          have c1d : decide (0 ≤ ct) = true := decide_eq_true c1
          have c2 : ct ≤ 10 := by omega
          have c2d : decide (ct ≤ 10) = true := decide_eq_true c2
          have eC : inB ct 0 10 = true := inB_in (by omega) (by omega)
          clear hct1 hct2
          go_enter Tryd.func28, Tryd.ntmps28
          go_wp2
          go_ret
          exact ⟨by simp [*], B0.out⟩
theorem rfit_any (i : In) (n : Int) (w : World) : Calls Tryd.prog 28 #[i.val, .int .i64 n] w fun e w' => e = .returned (.bool (fitB n i)) ∧ Below w.heap.size w w' := by
  by_cases h : i.kd < 1 ∨ 7 < i.kd
  · rw [fit_low n i h]
    exact rfit_low i n w h
  · obtain ⟨kd, rg, ad, vl, fr, ol, ct⟩ := i
    rcases kinds kd h with rfl | rfl | rfl | rfl | rfl | rfl | rfl
    · exact rfit_1 n rg ad vl fr ol ct w
    · exact rfit_2 n rg ad vl fr ol ct w
    · exact rfit_3 n rg ad vl fr ol ct w
    · exact rfit_4 n rg ad vl fr ol ct w
    · exact rfit_5 n rg ad vl fr ol ct w
    · exact rfit_6 n rg ad vl fr ol ct w
    · exact rfit_7 n rg ad vl fr ol ct w
end Go.Proofs.YtmejblmeaipahaaDoor.Ts
/-
  TSO: the document's Check.
-/
namespace Go.Proofs.YtmejblmeaipahaaDoor.Ts
open Go.RowKit Mr
set_option linter.unusedVariables false
set_option linter.unusedSimpArgs false
set_option maxRecDepth 100000
set_option maxHeartbeats 16000000 in
theorem rCheck_any (l : Lt) (aw : Option Addr) (nw cw : Nat) (ah : Option Addr) (nt ct : Nat) (w : World) (hI : nw = l.ws.length) (hT : ThAt w ah nt l.th) :
    Calls Tryd.prog 13 #[.agg #[.slice aw nw cw, .slice ah nt ct]] w fun e w' => e = .returned (.bool (chkB l)) ∧ Below w.heap.size w w' := by
  have hl := hT.1
  obtain ⟨R, hR⟩ : ∃ R, chkB l = R := ⟨_, rfl⟩
  rw [hR]
  replace hR := Mr.hid hR
  have B0 : Below w.heap.size w (w.alloc (.cells #[.slice aw nw cw, .slice ah nt ct] 25)) := (Below.refl _ _).alloc (Nat.le_refl _) _
  have hb0 : (w.alloc (.cells #[.slice aw nw cw, .slice ah nt ct] 25)).heap[w.heap.size]? = some (.cells #[.slice aw nw cw, .slice ah nt ct] 25 (0, 0)) := new_at _ _ _ rfl
  have hoff : Hid (inB (nt : Int) 1 4 = false ∨ inB (nw : Int) 1 6 = false → R = false) := fun h => by
    rw [← hR.out]
    refine chk_off l ?_
    rw [← hl, ← hI]
    exact h
  by_cases ht1 : (nt : Int) < 1
  · have d1 : decide ((nt : Int) < 1) = true := decide_eq_true ht1
    have r0 := hoff.out (.inl (inB_low ht1))
    subst r0
    replace B0 := Mr.hid B0
    clear hT hb0 hoff hR hI hl
    go_enter Tryd.func13, Tryd.ntmps13
    go_wp2
    go_ret
    exact ⟨rfl, B0.out⟩
  have d1 : decide ((nt : Int) < 1) = false := decide_eq_false ht1
  by_cases ht2 : 4 < (nt : Int)
  · have d2 : decide (4 < (nt : Int)) = true := decide_eq_true ht2
    have r0 := hoff.out (.inl (inB_high ht2))
    subst r0
    replace B0 := Mr.hid B0
    clear hT hb0 hoff hR hI hl
    go_enter Tryd.func13, Tryd.ntmps13
    go_wp2
    go_ret
    exact ⟨rfl, B0.out⟩
  have d2 : decide (4 < (nt : Int)) = false := decide_eq_false ht2
  by_cases hw1 : (nw : Int) < 1
  · have d3 : decide ((nw : Int) < 1) = true := decide_eq_true hw1
    have r0 := hoff.out (.inr (inB_low hw1))
    subst r0
    replace B0 := Mr.hid B0
    clear hT hb0 hoff hR hI hl
    go_enter Tryd.func13, Tryd.ntmps13
    go_wp2
    go_ret
    exact ⟨rfl, B0.out⟩
  have d3 : decide ((nw : Int) < 1) = false := decide_eq_false hw1
  by_cases hw2 : 6 < (nw : Int)
  · have d4 : decide (6 < (nw : Int)) = true := decide_eq_true hw2
    have r0 := hoff.out (.inr (inB_high hw2))
    subst r0
    replace B0 := Mr.hid B0
    clear hT hb0 hoff hR hI hl
    go_enter Tryd.func13, Tryd.ntmps13
    go_wp2
    go_ret
    exact ⟨rfl, B0.out⟩
  have d4 : decide (6 < (nw : Int)) = false := decide_eq_false hw2
  have hck : Hid (R = l.th.all (codeB (nw : Int))) := by
    show _ = _
    rw [← hR.out]
    unfold chkB
    rw [← hl, ← hI, inB_in (by omega) (by omega), inB_in (by omega) (by omega)]
    rfl
  have FT : Hid (∀ i W, Calls Tryd.prog 28 #[i.val, .int .i64 (nw : Int)] W fun e w' => e = .returned (.bool (fitB (nw : Int) i)) ∧ Below W.heap.size W w') := fun i W => rfit_any i nw W
  have hl' := Mr.hid hl
  replace hT := Mr.hid hT
  replace hb0 := Mr.hid hb0
  have B0' := Mr.hid B0
  clear hoff hR hl hI B0
  go_enter Tryd.func13, Tryd.ntmps13
  go_upto_region 4 with fail
  clear d1 d2 d3 d4 ht1 hw1 hw2
  generalize w.alloc (.cells #[.slice aw nw cw, .slice ah nt ct] 25) = w1 at *
  go_loopg [3] nt (fun gk s3 wr => ∃ i : Nat, s3 = .int .i64 (i : Int) ∧ i + gk = nt ∧ (l.th.take i).all (codeB (nw : Int)) = true ∧ Below w1.heap.size w1 wr)
  case atStart => exact ⟨0, rfl, by omega, rfl, Below.refl _ _⟩
  case round =>
    obtain ⟨i, rfl, hi, hall, hB⟩ := hrel
    have hBw : Below w.heap.size w wr := B0'.out.trans (hB.mono B0'.out.size)
    have hbr : wr.heap[w.heap.size]? = some (.cells #[.slice aw nw cw, .slice ah nt ct] 25 (0, 0)) := (hB.block _ (Array.getElem?_eq_some_iff.1 hb0.out).1).trans hb0.out
    have q0 := cell_blk hbr 0
    have q1 := cell_blk hbr 1
    have lb := (Array.getElem?_eq_some_iff.1 hbr).1
    by_cases hlt : i < nt
    · have hli : i < l.th.length := by have := hl'.out; omega
      obtain ⟨x, hx⟩ : ∃ x, l.th[i]? = some x := ⟨l.th[i], List.getElem?_eq_getElem hli⟩
      have hTr := hT.out.below hBw
      obtain ⟨g, o, hae, hg, hc⟩ := hTr.2.resolve_left (by intro e; rw [e] at hli; simp at hli)
      subst hae
      obtain ⟨a', n', c', c0, -, hC⟩ := hc i x hx
      have hts := take_succ_of hx
      have hmem := List.mem_of_getElem? hx
      have hlI : (i : Int) < (nt : Int) := by omega
      have dl : decide ((i : Int) < (nt : Int)) = true := by simpa using hlI
      have hw : IntKind.i64.wrap ((i : Int) + 1) = (i : Int) + 1 := i64x _ (by omega) (by omega)
      have hi' := Mr.hid hi
      have hnext : Hid (codeB (nw : Int) x = true → (l.th.take (i + 1)).all (codeB (nw : Int)) = true) := fun h => by rw [hts, List.all_append, hall]; simp [h]
      have hbad : Hid (codeB (nw : Int) x = false → R = false) := fun h => by
        rw [hck.out]
        cases ha : l.th.all (codeB (nw : Int)) with
        | false => rfl
        | true => have := List.all_eq_true.1 ha x hmem; rw [h] at this; cases this
      have hxl := Mr.hid hC.1
      have hB' := Mr.hid hB
      replace hBw := Mr.hid hBw
      replace hC := Mr.hid hC
      clear hc hx hts hli hi hall hmem hTr hB
      by_cases h10 : n' ≤ 10
      · have e1 : decide ((10 : Int) < (n' : Int)) = false := decide_eq_false (by omega)
        have e2 : ¬ (10 : Int) < (n' : Int) := by omega
        have hcb : Hid (codeB (nw : Int) x = x.all (fitB (nw : Int))) := by show _ = _; unfold codeB; rw [decide_eq_true (by rw [← hxl.out]; exact h10)]; rfl
        replace hbr := Mr.hid hbr
        go_upto_region 9 with fail
        clear e1 e2 dl
        generalize wr = wo at *
        go_loopg [4] n' (fun gk s4 wq => ∃ k : Nat, s4 = .int .i64 (k : Int) ∧ k + gk = n' ∧ (x.take k).all (fitB (nw : Int)) = true ∧ Below wo.heap.size wo wq)
        case atStart => exact ⟨0, rfl, by omega, rfl, Below.refl _ _⟩
        case round =>
          obtain ⟨k, rfl, hk, hallk, hBk⟩ := hrel
          have hBq : Below w1.heap.size w1 wr := hB'.out.trans (hBk.mono hB'.out.size)
          have hbq : wr.heap[w.heap.size]? = some (.cells #[.slice aw nw cw, .slice (some ⟨g, o, none⟩) nt ct] 25 (0, 0)) := (hBk.block _ lb).trans hbr.out
          have p0 := cell_blk hbq 0
          have p1 := cell_blk hbq 1
          have lbq := (Array.getElem?_eq_some_iff.1 hbq).1
          have ct0 : wr.cell? ⟨g, o + i, none⟩ = some (.slice a' n' c') := (hBk.cell (p := ⟨g, _, none⟩) hg).trans c0
          have hgq : g < wr.heap.size := Nat.lt_of_lt_of_le hg hBk.size
          by_cases hkl : k < n'
          · have hkx : k < x.length := by have := hxl.out; omega
            obtain ⟨y, hy⟩ : ∃ y, x[k]? = some y := ⟨x[k], List.getElem?_eq_getElem hkx⟩
            have hCq := hC.out.below hBk
            obtain ⟨g', o', hae', hg', hc'⟩ := hCq.2.resolve_left (by intro e; rw [e] at hkx; simp at hkx)
            subst hae'
            have i0 := hc' k y hy 0 _ rfl
            have i1 := hc' k y hy 1 _ rfl
            have i2 := hc' k y hy 2 _ rfl
            have i3 := hc' k y hy 3 _ rfl
            have i4 := hc' k y hy 4 _ rfl
            have i5 := hc' k y hy 5 _ rfl
            have i6 := hc' k y hy 6 _ rfl
            rw [Nat.add_zero] at i0
            have hty := take_succ_of hy
            have hmy := List.mem_of_getElem? hy
            have hkI : (k : Int) < (n' : Int) := by omega
            have dk : decide ((k : Int) < (n' : Int)) = true := by simpa using hkI
            have hwk : IntKind.i64.wrap ((k : Int) + 1) = (k : Int) + 1 := i64x _ (by omega) (by omega)
            have hk' := Mr.hid hk
            have hnk : Hid (fitB (nw : Int) y = true → (x.take (k + 1)).all (fitB (nw : Int)) = true) := fun h => by rw [hty, List.all_append, hallk]; simp [h]
            have hbk : Hid (fitB (nw : Int) y = false → R = false) := fun h => by
              refine hbad.out ?_
              rw [hcb.out]
              cases ha : x.all (fitB (nw : Int)) with
              | false => rfl
              | true => have := List.all_eq_true.1 ha y hmy; rw [h] at this; cases this
            have F1 := Mr.hid (fun W => FT.out y W)
            generalize fitB (nw : Int) y = fy at *
            obtain ⟨kd, rg, ad, vl, fr, ol, cn⟩ := y
            unfold In.val at F1
            dsimp only at F1 i0 i1 i2 i3 i4 i5 i6
            have hBk' := Mr.hid hBk
            clear hc' hy hty hkx hk hallk hmy hCq hBk hBq hbq
            go_upto_region 11 with fail
            go_region_held3 (fun W => W.cell? ⟨w.heap.size, 0, none⟩ = some (.slice aw nw cw) ∧ W.cell? ⟨w.heap.size, 1, none⟩ = some (.slice (some ⟨g, o, none⟩) nt ct) ∧ W.cell? ⟨g, o + i, none⟩ = some (.slice (some ⟨g', o', none⟩) n' c') ∧ W.cell? ⟨g', o' + k * 7, none⟩ = some (.int .i64 kd) ∧ W.cell? ⟨g', o' + k * 7 + 1, none⟩ = some (.int .i64 rg) ∧ W.cell? ⟨g', o' + k * 7 + 2, none⟩ = some (.int .i64 ad) ∧ W.cell? ⟨g', o' + k * 7 + 3, none⟩ = some (.int .i64 vl) ∧ W.cell? ⟨g', o' + k * 7 + 4, none⟩ = some (.int .i64 fr) ∧ W.cell? ⟨g', o' + k * 7 + 5, none⟩ = some (.int .i64 ol) ∧ W.cell? ⟨g', o' + k * 7 + 6, none⟩ = some (.int .i64 cn)) (simp [*, go_sem]) (first | (go_at_call 28; refine (F1.out _).mono ?_; clear F1; rintro e w9 ⟨rfl, B9⟩; have z0 := (B9.cell (p := ⟨w.heap.size, 0, none⟩) lbq).trans p0; have z1 := (B9.cell (p := ⟨w.heap.size, 1, none⟩) lbq).trans p1; have z2 := (B9.cell (p := ⟨g, o + i, none⟩) hgq).trans ct0; have z3 := (B9.cell (p := ⟨g', o' + k * 7, none⟩) hg').trans i0; have z4 := (B9.cell (p := ⟨g', o' + k * 7 + 1, none⟩) hg').trans i1; have z5 := (B9.cell (p := ⟨g', o' + k * 7 + 2, none⟩) hg').trans i2; have z6 := (B9.cell (p := ⟨g', o' + k * 7 + 3, none⟩) hg').trans i3; have z7 := (B9.cell (p := ⟨g', o' + k * 7 + 4, none⟩) hg').trans i4; have z8 := (B9.cell (p := ⟨g', o' + k * 7 + 5, none⟩) hg').trans i5; have z9 := (B9.cell (p := ⟨g', o' + k * 7 + 6, none⟩) hg').trans i6; have hB9 : Hid (Below wo.heap.size wo w9) := hBk'.out.drew.trans (B9.mono hBk'.out.size); clear B9))
            clear p0 p1 ct0 i0 i1 i2 i3 i4 i5 i6 z0 z1 z2 z3 z4 z5 z6 z7 z8 z9
            cases fy with
            | true =>
              go_wp2
              go_roundg (gk - 1)
              case measure => have := hk'.out; omega
              case rel => exact ⟨k + 1, by simp, by have := hk'.out; omega, hnk.out (by trivial), hB9.out⟩
            | false =>
              have r0 : Hid (R = false) := hbk.out (by trivial)
              go_wp2
              go_ret
              exact ⟨by rw [r0.out]; rfl, hBw.out.trans (hB9.out.mono hBw.out.size)⟩
          · have hfk : x.take k = x := List.take_of_length_le (by have := hxl.out; omega)
            rw [hfk] at hallk
            have hgo : Hid ((l.th.take (i + 1)).all (codeB (nw : Int)) = true) := hnext.out (by rw [hcb.out]; exact hallk)
            have dk : decide ((k : Int) < (n' : Int)) = false := decide_eq_false (by omega)
            have dk2 : ¬ (k : Int) < (n' : Int) := by omega
            replace hBq := Mr.hid hBq
            clear hk hfk hallk hbq hBk hkl
            go_wp2
            go_roundg (nt - (i + 1))
            case measure => have := hi'.out; omega
            case rel => exact ⟨i + 1, by simp, by have := hi'.out; omega, hgo.out, hBq.out⟩
      · have e1 : decide ((10 : Int) < (n' : Int)) = true := decide_eq_true (by omega)
        have e2 : (10 : Int) < (n' : Int) := by omega
        have r0 : Hid (R = false) := hbad.out (by unfold codeB; rw [decide_eq_false (by rw [← hxl.out]; exact h10)]; rfl)
        clear hbr
        go_wp2
        go_ret
        exact ⟨by rw [r0.out]; rfl, hBw.out⟩
    · have hfin : l.th.take i = l.th := List.take_of_length_le (by have := hl'.out; omega)
      rw [hfin] at hall
      have r1 : Hid (R = true) := by show _ = _; rw [hck.out, hall]
      have dl : decide ((i : Int) < (nt : Int)) = false := decide_eq_false (by omega)
      have dl2 : ¬ (i : Int) < (nt : Int) := by omega
      replace hBw := Mr.hid hBw
      clear hlt hi hfin hB hbr hall
      go_wp2
      go_ret
      exact ⟨by rw [r1.out]; rfl, hBw.out⟩
end Go.Proofs.YtmejblmeaipahaaDoor.Ts
