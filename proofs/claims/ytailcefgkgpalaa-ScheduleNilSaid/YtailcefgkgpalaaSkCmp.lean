/-
  SCHEDULE: compare of the floats that are put in; 0 / 0.
-/
import Derived.Test.YtailcefgkgpalaaSkFlo
namespace Go.Proofs.Ytailcefgkgpalaa.Sh
open Go.RowKit Mr Md
open Go.Op (bytesLess)
set_option linter.unusedVariables false
set_option linter.unusedSimpArgs false
set_option maxRecDepth 100000
theorem fmt_f64 : FloatKind.f64.format = Ieee.double := rfl
/-- Which ranks go with which bits. -/
def Df (n : Int) (k : Int) (c : Nat) : Prop := (k = 0 ∧ IsN c) ∨ (k = 1 ∧ c = fM) ∨ (k = 2 ∧ c = floatOfInt .f64 n)
theorem run_quo00 (t : TypeId) (w : World) : ∃ c, IsN c ∧ (binOp .quo t (.float .f64 0) (.float .f64 0)).run Try.prog w = .ok (.float .f64 c) w.drew := by
  have h : FloatKind.f64.format.div 0 0 = none := zero_div
  refine ⟨_, ?_, by simp [binOp, Op.floatArith, h, choose]; rfl⟩
  exact nan_bits _
theorem nanF (c : Nat) (w : World) (b : Bool) (hb : (FloatKind.f64.format.order c c != some .eq) = b) : Calls Try.prog 30 #[.float .f64 c] w fun e w' => e = .returned (.bool b) ∧ w' = w := by
  go_enter Try.func30, Try.ntmps30
  go_wp2
  go_ret
  exact ⟨rfl, rfl⟩
theorem df_nan {n k : Int} {c : Nat} (h : Df n k c) (hn : -9223372036854775808 ≤ n ∧ n ≤ 9223372036854775807) : (FloatKind.f64.format.order c c != some .eq) = decide (k = 0) ∧ 0 ≤ k ∧ k ≤ 2 := by
  rw [fmt_f64]
  rcases h with ⟨rfl, h⟩ | ⟨rfl, rfl⟩ | ⟨rfl, rfl⟩
  · rw [(ord_n h).1]; simp
  · rw [ord_self read_m]; simp
  · obtain ⟨m, i, e, _, _⟩ := read_int n hn.1 hn.2
    rw [ord_self e]; simp
theorem df_ord {n k k' : Int} {c c' : Nat} (h : Df n k c) (h' : Df n k' c') (hn : -9223372036854775808 ≤ n ∧ n ≤ 9223372036854775807) (h0 : k ≠ 0) (h0' : k' ≠ 0) : FloatKind.f64.format.order c c' = if k < k' then some .lt else if k' < k then some .gt else some .eq := by
  rw [fmt_f64]
  obtain ⟨m, i, e, hm, hi⟩ := read_int n hn.1 hn.2
  have h1 := ord_m e hm hi
  rcases h with ⟨rfl, h⟩ | ⟨rfl, rfl⟩ | ⟨rfl, rfl⟩
  · exact absurd rfl h0
  · rcases h' with ⟨rfl, h'⟩ | ⟨rfl, rfl⟩ | ⟨rfl, rfl⟩
    · exact absurd rfl h0'
    · rw [ord_self read_m]; simp
    · rw [h1.1]; simp
  · rcases h' with ⟨rfl, h'⟩ | ⟨rfl, rfl⟩ | ⟨rfl, rfl⟩
    · exact absurd rfl h0'
    · rw [h1.2]; simp
    · rw [ord_self e]; simp
set_option maxHeartbeats 4000000 in
theorem compareF {n : Int} (hn : -9223372036854775808 ≤ n ∧ n ≤ 9223372036854775807) (k : Int) (c : Nat) (k' : Int) (c' : Nat) (h : Df n k c) (h' : Df n k' c') (w : World) : Calls Try.prog 27 #[.float .f64 c, .float .f64 c'] w fun e w' => e = .returned (.int .i64 (cmpI k k')) ∧ w' = w := by
  obtain ⟨q1, q2, q3⟩ := df_nan h hn
  obtain ⟨r1, r2, r3⟩ := df_nan h' hn
  have K1 := fun w => nanF c w _ q1
  have K2 := fun w => nanF c' w _ r1
  have O := df_ord h h' hn
  clear q1 r1 h h'
  by_cases hk : k = 0
  · subst hk
    by_cases hk' : k' = 0
    · subst hk'
      simp only [decide_true] at K1 K2
      rw [cmpI_eq]
      replace K1 := Mr.hid K1
      replace K2 := Mr.hid K2
      clear O
      go_enter Try.func27, Try.ntmps27
      go_wp2_with (first | (go_at_call 30; refine (K1.out _).mono ?_; clear K1; rintro e w1 ⟨rfl, rfl⟩) | (go_at_call 30; refine (K2.out _).mono ?_; clear K2; rintro e w1 ⟨rfl, rfl⟩))
      go_ret
      exact ⟨rfl, rfl⟩
    · simp only [decide_true] at K1
      rw [decide_eq_false hk'] at K2
      rw [cmpI_lt (by omega)]
      replace K1 := Mr.hid K1
      replace K2 := Mr.hid K2
      clear O
      go_enter Try.func27, Try.ntmps27
      go_wp2_with (first | (go_at_call 30; refine (K1.out _).mono ?_; clear K1; rintro e w1 ⟨rfl, rfl⟩) | (go_at_call 30; refine (K2.out _).mono ?_; clear K2; rintro e w1 ⟨rfl, rfl⟩))
      go_ret
      exact ⟨rfl, rfl⟩
  · rw [decide_eq_false hk] at K1
    by_cases hk' : k' = 0
    · subst hk'
      simp only [decide_true] at K2
      rw [cmpI_gt (by omega)]
      replace K1 := Mr.hid K1
      replace K2 := Mr.hid K2
      clear O
      go_enter Try.func27, Try.ntmps27
      go_wp2_with (first | (go_at_call 30; refine (K1.out _).mono ?_; clear K1; rintro e w1 ⟨rfl, rfl⟩) | (go_at_call 30; refine (K2.out _).mono ?_; clear K2; rintro e w1 ⟨rfl, rfl⟩))
      go_ret
      exact ⟨rfl, rfl⟩
    · rw [decide_eq_false hk'] at K2
      have O2 := O hk hk'
      unfold cmpI
      clear O
      replace K1 := Mr.hid K1
      replace K2 := Mr.hid K2
      rcases Int.lt_trichotomy k k' with hl | hl | hl
      · rw [if_pos hl] at O2 ⊢
        clear hk hk' q2 q3 r2 r3 hl
        have o1 : (FloatKind.f64.format.order c c' == some .lt) = true := by rw [O2]; rfl
        replace O2 := Mr.hid O2
        go_enter Try.func27, Try.ntmps27
        go_wp2_with (first | (go_at_call 30; refine (K1.out _).mono ?_; clear K1; rintro e w1 ⟨rfl, rfl⟩) | (go_at_call 30; refine (K2.out _).mono ?_; clear K2; rintro e w1 ⟨rfl, rfl⟩))
        go_ret
        exact ⟨rfl, rfl⟩
      · rw [if_neg (by omega), if_neg (by omega)] at O2 ⊢
        clear hk hk' q2 q3 r2 r3 hl
        have o1 : (FloatKind.f64.format.order c c' == some .lt) = false := by rw [O2]; rfl
        have o2 : (FloatKind.f64.format.order c c' == some .gt) = false := by rw [O2]; rfl
        replace O2 := Mr.hid O2
        go_enter Try.func27, Try.ntmps27
        go_wp2_with (first | (go_at_call 30; refine (K1.out _).mono ?_; clear K1; rintro e w1 ⟨rfl, rfl⟩) | (go_at_call 30; refine (K2.out _).mono ?_; clear K2; rintro e w1 ⟨rfl, rfl⟩))
        go_ret
        exact ⟨rfl, rfl⟩
      · rw [if_neg (by omega), if_pos hl] at O2 ⊢
        clear hk hk' q2 q3 r2 r3 hl
        have o1 : (FloatKind.f64.format.order c c' == some .lt) = false := by rw [O2]; rfl
        have o2 : (FloatKind.f64.format.order c c' == some .gt) = true := by rw [O2]; rfl
        replace O2 := Mr.hid O2
        go_enter Try.func27, Try.ntmps27
        go_wp2_with (first | (go_at_call 30; refine (K1.out _).mono ?_; clear K1; rintro e w1 ⟨rfl, rfl⟩) | (go_at_call 30; refine (K2.out _).mono ?_; clear K2; rintro e w1 ⟨rfl, rfl⟩))
        go_ret
        exact ⟨rfl, rfl⟩
/-- Which ranks go with which texts. -/
def Ds (a b : ByteArray) (k : Int) (c : ByteArray) : Prop := (c = a ∨ c = b) ∧ k = if bytesLess a.toList b.toList then (if c.toList == b.toList then 1 else 0) else if bytesLess b.toList a.toList then (if c.toList == a.toList then 1 else 0) else 0
theorem compareD {a b : ByteArray} (k : Int) (c : ByteArray) (k' : Int) (c' : ByteArray) (h : Ds a b k c) (h' : Ds a b k' c') (w : World) : Calls Try.prog 26 #[.string c, .string c'] w fun e w' => e = .returned (.int .i64 (cmpI k k')) ∧ w' = w := by
  have e : cmpS c c' = cmpI k k' := by
    obtain ⟨h1, h2⟩ := h
    obtain ⟨h3, h4⟩ := h'
    unfold cmpS cmpI
    cases hab : bytesLess a.toList b.toList with
    | true =>
      have hba := less_asym _ _ hab
      have hne : (a.toList == b.toList) = false := by
        cases hq : (a.toList == b.toList) with
        | false => rfl
        | true => have := eq_of_beq hq; rw [this, less_irr] at hab; cases hab
      have hne' : (b.toList == a.toList) = false := by rw [Bool.beq_comm]; exact hne
      rcases h1 with rfl | rfl <;> rcases h3 with rfl | rfl <;> simp [hab, hba, hne, hne', less_irr] at h2 h4 ⊢ <;> simp [h2, h4]
    | false =>
      cases hba : bytesLess b.toList a.toList with
      | true =>
        have hne : (a.toList == b.toList) = false := by
          cases hq : (a.toList == b.toList) with
          | false => rfl
          | true => have := eq_of_beq hq; rw [this, less_irr] at hba; cases hba
        have hne' : (b.toList == a.toList) = false := by rw [Bool.beq_comm]; exact hne
        rcases h1 with rfl | rfl <;> rcases h3 with rfl | rfl <;> simp [hab, hba, hne, hne', less_irr] at h2 h4 ⊢ <;> simp [h2, h4]
      | false =>
        have hq := less_tri _ _ hab hba
        rcases h1 with rfl | rfl <;> rcases h3 with rfl | rfl <;> simp [hab, hba, hq, less_irr] at h2 h4 ⊢ <;> simp [h2, h4]
  rw [← e]
  exact compareS c c' w
end Go.Proofs.Ytailcefgkgpalaa.Sh
