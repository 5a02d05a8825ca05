/-
  PLAIN ARITHMETIC of packed words: no Go in sight.
-/
import Derived.Laws.BitsAllLaws
import Derived.Laws.Wrap64
import Derived.OpenShut
namespace Go.Proofs.Ytpckcfdjgpdooaa.Wp
open Go Go.RowKit

/-- A link's word. -/
def packLink (i : Int) (m : Bool) : Int := i + 1 + (if m then 4294967296 else 0)
/-- A head's word. -/
def packHead (t : Int) (i : Int) : Int := t * 4294967296 + (i + 1)
def isLinkB (w : Int) : Bool := decide (w < 8589934592) && decide (w % 4294967296 ≤ 2147483647)

theorem packLink_bd (i : Int) (m : Bool) (h1 : -1 ≤ i) (h2 : i ≤ 2147483646) : 0 ≤ packLink i m ∧ packLink i m ≤ 6442450943 := by
  unfold packLink; split <;> omega

theorem or_mark (x : Int) (h1 : 0 ≤ x) (h2 : x ≤ 2147483647) : bits .or .u64 x 4294967296 = x + 4294967296 := by
  obtain ⟨n, rfl⟩ := Int.eq_ofNat_of_zero_le h1
  have := u64_or_nat n 4294967296 (by omega) (by decide)
  have e : n ||| 4294967296 = n + 4294967296 := by
    rw [Nat.or_comm, nat_join 32 4294967296 n (by decide) (by omega), Nat.add_comm]
  rw [e] at this
  rw [show (4294967296 : Int) = ((4294967296 : Nat) : Int) from rfl, this]; rfl

theorem and_low (x : Int) (h1 : 0 ≤ x) (h2 : x ≤ 18446744073709551615) : bits .and .u64 x 4294967295 = x % 4294967296 := by
  obtain ⟨n, rfl⟩ := Int.eq_ofNat_of_zero_le h1
  have := u64_and_nat n 4294967295 (by omega) (by decide)
  have e : n &&& 4294967295 = n % 4294967296 := Nat.and_two_pow_sub_one_eq_mod n 32
  rw [e] at this
  rw [show (4294967295 : Int) = ((4294967295 : Nat) : Int) from rfl, this]; omega

theorem and_mark (x : Int) (h1 : 0 ≤ x) (h2 : x ≤ 18446744073709551615) : bits .and .u64 x 4294967296 = x / 4294967296 % 2 * 4294967296 := by
  obtain ⟨n, rfl⟩ := Int.eq_ofNat_of_zero_le h1
  have := u64_and_nat n 4294967296 (by omega) (by decide)
  have e : n &&& 4294967296 = n / 4294967296 % 2 * 4294967296 := nat_bit 32 n
  rw [e] at this
  rw [show (4294967296 : Int) = ((4294967296 : Nat) : Int) from rfl, this]; omega

theorem andNot_link (x : Int) (h1 : 0 ≤ x) (h2 : x ≤ 18446744073709551615) : bits .andNot .u64 x 8589934591 = x / 8589934592 * 8589934592 := by
  obtain ⟨n, rfl⟩ := Int.eq_ofNat_of_zero_le h1
  have := u64_andNot_nat n 8589934591 (by omega) (by decide)
  have e : n &&& (18446744073709551615 - 8589934591) = n / 8589934592 * 8589934592 := by
    apply Nat.eq_of_testBit_eq
    intro i
    rw [show (8589934592 : Nat) = 2 ^ 33 from rfl, Nat.testBit_and, Nat.testBit_mul_two_pow, Nat.testBit_div_two_pow]
    rw [show (18446744073709551615 - 8589934591 : Nat) = (2 ^ 31 - 1) * 2 ^ 33 from rfl, Nat.testBit_mul_two_pow, Nat.testBit_two_pow_sub_one]
    by_cases hi : 33 ≤ i
    · simp only [hi, decide_true, Bool.true_and]
      rw [show i - 33 + 33 = i from by omega]
      by_cases h64 : i - 33 < 31
      · simp [h64]
      · have : n.testBit i = false := Nat.testBit_lt_two_pow (Nat.lt_of_lt_of_le (show n < 2 ^ 64 by omega) (Nat.pow_le_pow_right (by decide) (by omega)))
        simp [this]
    · simp [hi]
  rw [e] at this
  rw [show (8589934591 : Int) = ((8589934591 : Nat) : Int) from rfl, this]; omega

theorem or_head (t x : Int) (h0 : 0 ≤ t) (h0' : t ≤ 4294967295) (h1 : 0 ≤ x) (h2 : x ≤ 2147483647) : bits .or .u64 (t * 4294967296) x = t * 4294967296 + x := by
  obtain ⟨n, rfl⟩ := Int.eq_ofNat_of_zero_le h1
  obtain ⟨k, rfl⟩ := Int.eq_ofNat_of_zero_le h0
  have := u64_or_nat (k * 4294967296) n (by omega) (by omega)
  have e : k * 4294967296 ||| n = k * 4294967296 + n := nat_join 32 _ n (by omega) (by omega)
  rw [e] at this
  rw [show ((k : Int) * 4294967296) = ((k * 4294967296 : Nat) : Int) from by omega, this]; omega

theorem wrap64_small (x : Int) (h1 : 0 ≤ x) (h2 : x ≤ 9223372036854775807) : wrap64 x = x := by unfold wrap64; omega
theorem wrapu64_small (x : Int) (h1 : 0 ≤ x) (h2 : x ≤ 18446744073709551615) : IntKind.u64.wrap x = x := by rw [IntKind.wrap_u64]; omega
end Go.Proofs.Ytpckcfdjgpdooaa.Wp
