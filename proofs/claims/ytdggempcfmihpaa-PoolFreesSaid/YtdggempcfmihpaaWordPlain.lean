import Derived.Laws.BitsAllLaws
import Derived.Laws.Wrap64
import Derived.OpenShut
/-
  PLAIN ARITHMETIC of packed words: no Go in sight.
-/
namespace Go.Proofs.Ytdggempcfmihpaa.Wp
open Go Go.RowKit

def isLinkB (w : Int) : Bool := decide (w < 8589934592) && decide (w % 4294967296 ≤ 2147483647)

theorem and_low (x : Int) (h1 : 0 ≤ x) (h2 : x ≤ 18446744073709551615) : bits .and .u64 x 4294967295 = x % 4294967296 := by
  obtain ⟨n, rfl⟩ := Int.eq_ofNat_of_zero_le h1
  have := u64_and_nat n 4294967295 (by omega) (by decide)
  have e : n &&& 4294967295 = n % 4294967296 := Nat.and_two_pow_sub_one_eq_mod n 32
  rw [e] at this
  rw [show (4294967295 : Int) = ((4294967295 : Nat) : Int) from rfl, this]; omega

theorem and_mark (x : Int) (h1 : 0 ≤ x) (h2 : x ≤ 18446744073709551615) : bits .and .u64 x 4294967296 = x / 4294967296 % 2 * 4294967296 := by
  obtain ⟨n, rfl⟩ := Int.eq_ofNat_of_zero_le h1
  have := u64_and_nat n 4294967296 (by omega) (by decide)
  have e : n &&& 4294967296 = n / 4294967296 % 2 * 4294967296 := nat_bit 32 n
  rw [e] at this
  rw [show (4294967296 : Int) = ((4294967296 : Nat) : Int) from rfl, this]; omega

theorem andNot_link (x : Int) (h1 : 0 ≤ x) (h2 : x ≤ 18446744073709551615) : bits .andNot .u64 x 8589934591 = x / 8589934592 * 8589934592 := by
  obtain ⟨n, rfl⟩ := Int.eq_ofNat_of_zero_le h1
  have := u64_andNot_nat n 8589934591 (by omega) (by decide)
  have e : n &&& (18446744073709551615 - 8589934591) = n / 8589934592 * 8589934592 := by
    apply Nat.eq_of_testBit_eq
    intro i
    rw [show (8589934592 : Nat) = 2 ^ 33 from rfl, Nat.testBit_and, Nat.testBit_mul_two_pow, Nat.testBit_div_two_pow]
    rw [show (18446744073709551615 - 8589934591 : Nat) = (2 ^ 31 - 1) * 2 ^ 33 from rfl, Nat.testBit_mul_two_pow, Nat.testBit_two_pow_sub_one]
    by_cases hi : 33 ≤ i
    · simp only [hi, decide_true, Bool.true_and]
      rw [show i - 33 + 33 = i from by omega]
      by_cases h64 : i - 33 < 31
      · simp [h64]
      · have : n.testBit i = false := Nat.testBit_lt_two_pow (Nat.lt_of_lt_of_le (show n < 2 ^ 64 by omega) (Nat.pow_le_pow_right (by decide) (by omega)))
        simp [this]
    · simp [hi]
  rw [e] at this
  rw [show (8589934591 : Int) = ((8589934591 : Nat) : Int) from rfl, this]; omega

end Go.Proofs.Ytdggempcfmihpaa.Wp
