/-
  SCHEDULE: the order of the floats that are put in: NaN, -1e300, a number that was an int.
-/
import Derived.Test.YtailcefgkgpalaaSkOrd
namespace Go.Proofs.Ytailcefgkgpalaa.Sh
open Go.RowKit Mr Md
set_option linter.unusedVariables false
set_option linter.unusedSimpArgs false
open Ieee
theorem d_sw : double.signWeight = 9223372036854775808 := rfl
theorem d_bi : double.binade = 4503599627370496 := rfl
theorem d_inf : double.infRung = 9218868437227405312 := rfl
theorem d_lp : double.leastPlace = -1074 := rfl
theorem d_fb : double.fractionBits = 52 := rfl
/-- A rung that is not too high is read as a number. -/
theorem read_word (neg : Bool) (r : Nat) (h : r < 1100 * 4503599627370496) : ∃ m i, double.read (double.word neg r) = .number neg m i ∧ m < 9007199254740992 ∧ i ≤ 30 := by
  have e1 : (double.word neg r / double.signWeight % 2 == 1) = neg := by
    unfold Format.word
    rw [d_sw]
    cases neg
    · simp; omega
    · simp; omega
  have e2 : double.word neg r % double.signWeight = r := by
    unfold Format.word
    rw [d_sw]
    cases neg
    · simp; omega
    · simp; omega
  unfold Format.read
  simp only [e1, e2]
  by_cases h1 : r < double.binade
  · rw [if_pos h1]
    rw [d_bi] at h1
    exact ⟨_, _, rfl, by omega, by rw [d_lp]; omega⟩
  · rw [if_neg h1, if_pos (by rw [d_inf]; omega)]
    rw [d_bi] at h1
    refine ⟨_, _, rfl, ?_, ?_⟩
    · rw [d_bi]; have := Nat.mod_lt r (by omega : 0 < 4503599627370496); omega
    · rw [d_lp, d_bi]; omega
theorem cut_zero (neg : Bool) (n : Nat) : Toward.even.cut neg n 0 = n := by
  simp [Toward.cut]
  omega
theorem cut_le (neg : Bool) (n d : Nat) : Toward.even.cut neg n d ≤ n / 2 ^ (min d (n.log2 + 2)) + 1 := by
  unfold Toward.cut
  simp only [Nat.shiftLeft_eq, Nat.one_mul]
  have : ∀ b : Bool, b.toNat ≤ 1 := fun b => by cases b <;> simp
  exact Nat.add_le_add_left (this _) _
theorem near_rung (neg : Bool) (mag : Nat) (hm : mag ≤ 9223372036854775808) : ∃ r, double.nearest neg mag 0 = double.word neg r ∧ r < 1100 * 4503599627370496 := by
  unfold Format.nearest
  by_cases h0 : mag = 0
  · rw [if_pos h0]; exact ⟨0, rfl, by omega⟩
  · rw [if_neg h0]
    have hlo : mag.log2 ≤ 63 := by
      have := (Nat.log2_lt h0 (k := 64)).2 (by omega)
      omega
    have hup : mag < 2 ^ (mag.log2 + 1) := Nat.lt_log2_self
    refine ⟨_, rfl, ?_⟩
    rw [d_fb, d_lp, d_bi]
    have hl : max (0 + (mag.log2 : Int) - ((52 : Nat) : Int)) (-1074) = (mag.log2 : Int) - 52 := by omega
    rw [hl]
    have key : Toward.even.cut neg (mag <<< (0 - ((mag.log2 : Int) - 52)).toNat) (((mag.log2 : Int) - 52) - 0).toNat ≤ 9007199254740993 := by
      by_cases hd : mag.log2 ≤ 52
      · have e1 : (((mag.log2 : Int) - 52) - 0).toNat = 0 := by omega
        have e2 : (0 - ((mag.log2 : Int) - 52)).toNat = 52 - mag.log2 := by omega
        rw [e1, e2, cut_zero, Nat.shiftLeft_eq]
        have h1 : mag * 2 ^ (52 - mag.log2) < 2 ^ (mag.log2 + 1) * 2 ^ (52 - mag.log2) := Nat.mul_lt_mul_of_pos_right hup (Nat.two_pow_pos _)
        rw [← Nat.pow_add, show mag.log2 + 1 + (52 - mag.log2) = 53 from by omega] at h1
        have : (2 : Nat) ^ 53 = 9007199254740992 := rfl
        omega
      · have e1 : (((mag.log2 : Int) - 52) - 0).toNat = mag.log2 - 52 := by omega
        have e2 : (0 - ((mag.log2 : Int) - 52)).toNat = 0 := by omega
        rw [e1, e2, Nat.shiftLeft_zero]
        refine Nat.le_trans (cut_le _ _ _) ?_
        rw [Nat.min_eq_left (by omega)]
        have h1 : mag / 2 ^ (mag.log2 - 52) < 2 ^ 53 := by
          rw [Nat.div_lt_iff_lt_mul (Nat.two_pow_pos _), ← Nat.pow_add, show 53 + (mag.log2 - 52) = mag.log2 + 1 from by omega]
          exact hup
        have : (2 : Nat) ^ 53 = 9007199254740992 := rfl
        omega
    have hk : (((mag.log2 : Int) - 52) - -1074).toNat ≤ 1085 := by omega
    have := Nat.mul_le_mul_right 4503599627370496 hk
    refine Nat.lt_of_le_of_lt (Nat.min_le_left _ _) ?_
    omega
/-- float64(n), read. -/
theorem read_int (n : Int) (h1 : -9223372036854775808 ≤ n) (h2 : n ≤ 9223372036854775807) : ∃ m i, double.read (floatOfInt .f64 n) = .number (decide (n < 0)) m i ∧ m < 9007199254740992 ∧ i ≤ 30 := by
  obtain ⟨r, hr, hl⟩ := near_rung (decide (n < 0)) n.natAbs (by omega)
  have e : floatOfInt .f64 n = double.nearest (decide (n < 0)) n.natAbs 0 := rfl
  rw [e, hr]
  exact read_word _ r hl
def fM : Nat := 18318360957983683996
theorem read_m : double.read fM = .number true 6724873095247260 944 := by decide +kernel
theorem ord_self {c : Nat} {s : Bool} {m : Nat} {i : Int} (h : double.read c = .number s m i) : double.order c c = some .eq := by
  unfold Format.order
  rw [h]
  simp [Datum.order]
theorem comp_lt {a b : Int} (h : a < b) : compare a b = .lt := by simp [compare, compareOfLessAndEq, h]
theorem comp_gt {a b : Int} (h : b < a) : compare a b = .gt := by
  have h1 : ¬ a < b := by omega
  have h2 : ¬ a = b := by omega
  simp [compare, compareOfLessAndEq, h1, h2]
/-- -1e300 is below whatever was an int. -/
theorem low_sign {s : Bool} {m : Nat} {i : Int} (hm : m < 9007199254740992) (hi : i ≤ 30) : signed true 6724873095247260 (944 - min 944 i).toNat < signed s m (i - min 944 i).toNat := by
  have e : min (944 : Int) i = i := by omega
  rw [e, Int.sub_self]
  unfold signed
  simp only [if_true, Int.toNat_zero, Nat.shiftLeft_zero, Nat.shiftLeft_eq]
  have h1 : 2 ^ 20 ≤ 2 ^ (944 - i).toNat := Nat.pow_le_pow_right (by omega) (by omega)
  have h2 := Nat.mul_le_mul_left 6724873095247260 h1
  have h3 : (2 : Nat) ^ 20 = 1048576 := rfl
  rw [h3] at h2
  generalize 6724873095247260 * 2 ^ (944 - i).toNat = q at *
  clear h1 e
  cases s
  · simp only [Bool.false_eq_true, if_false]; omega
  · simp only [if_true]; omega
theorem ord_m {c : Nat} {s : Bool} {m : Nat} {i : Int} (h : double.read c = .number s m i) (hm : m < 9007199254740992) (hi : i ≤ 30) : double.order fM c = some .lt ∧ double.order c fM = some .gt := by
  have hl := low_sign (s := s) hm hi
  unfold Format.order
  rw [h, read_m]
  refine ⟨?_, ?_⟩
  · simp only [Datum.order]
    rw [comp_lt hl]
  · simp only [Datum.order]
    rw [show min i 944 = min 944 i from by omega, comp_gt hl]
/-- What a NaN is. -/
def IsN (c : Nat) : Prop := ∃ s f, double.read c = .nan s f
theorem ord_n {c d : Nat} (h : IsN c) : double.order c d = none ∧ double.order d c = none := by
  obtain ⟨s, f, e⟩ := h
  unfold Format.order
  rw [e]
  cases hd : double.read d <;> simp [Datum.order]
theorem nan_bits (t : Nat) : IsN ((t % 2) * 2 ^ 63 + 0x7ff0000000000000 + 1 + (t / 2) % (2 ^ 52 - 1)) := by
  have e63 : (2 : Nat) ^ 63 = 9223372036854775808 := rfl
  have e52 : (2 : Nat) ^ 52 - 1 = 4503599627370495 := rfl
  rw [e63, e52]
  have hm := Nat.mod_lt (t / 2) (by omega : 0 < 4503599627370495)
  have ht := Nat.mod_lt t (by omega : 0 < 2)
  generalize t / 2 % 4503599627370495 = y at *
  generalize t % 2 = z at *
  unfold IsN Format.read
  rw [d_sw, d_bi, d_inf]
  simp only
  rw [if_neg (by omega), if_neg (by omega), if_neg (by omega)]
  exact ⟨_, _, rfl⟩
theorem zero_div : double.div 0 0 = none := by decide +kernel
end Go.Proofs.Ytailcefgkgpalaa.Sh
