import Derived.Laws.BitsAllLaws
import Derived.Laws.Wrap64
import Derived.OpenShut
/-
  PLAIN ARITHMETIC of packed words: no Go in sight.
-/
namespace Go.Proofs.Ytkimmfdicohoiaa.Wp
open Go Go.RowKit

theorem and_low (x : Int) (h1 : 0 ≤ x) (h2 : x ≤ 18446744073709551615) : bits .and .u64 x 4294967295 = x % 4294967296 := by
  obtain ⟨n, rfl⟩ := Int.eq_ofNat_of_zero_le h1
  have := u64_and_nat n 4294967295 (by omega) (by decide)
  have e : n &&& 4294967295 = n % 4294967296 := Nat.and_two_pow_sub_one_eq_mod n 32
  rw [e] at this
  rw [show (4294967295 : Int) = ((4294967295 : Nat) : Int) from rfl, this]; omega

theorem wrapu64_small (x : Int) (h1 : 0 ≤ x) (h2 : x ≤ 18446744073709551615) : IntKind.u64.wrap x = x := by rw [IntKind.wrap_u64]; omega
end Go.Proofs.Ytkimmfdicohoiaa.Wp
