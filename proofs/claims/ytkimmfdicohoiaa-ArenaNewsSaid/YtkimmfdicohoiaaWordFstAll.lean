import Derived.Test.YtkimmfdicohoiaaWordFst
/-
  First, joined: whatever number of used slots.
-/
namespace Go.Proofs.Ytkimmfdicohoiaa.Wr
open Go.RowKit
open Wc Wm
/-- What First leaves, of a configuration that may be. -/
def fstF (a1 a2 a5 a6 u : Int) : Nat → Int := memF (if u < a5 then u + 1 else 0) (if 0 < u then 1 else 0) (if 0 < u then 1 else 0) (base a1 a2 a5 a6 10) u (if u < a5 then a5 - 1 else u)
theorem sizes {a1 a2 a5 a6 : Int} (hok : Ok a1 a2 a5 a6) : ∃ n m : Nat, base a1 a2 a5 a6 14 = (n : Int) ∧ base a1 a2 a5 a6 10 = (m : Int) ∧ (m : Int) + 4 * a5 ≤ n ∧ 6 < m ∧ a5 ≤ 1024 ∧ n ≤ 65536 := by
  have b14 := base_bd hok 14
  have b10 := base_bd hok 10
  obtain ⟨o1, o2, o3, o4, o5, o6, o7, o8⟩ := hok
  have m1 : 0 ≤ a1 * a2 := Int.mul_nonneg (by omega) (by omega)
  have h14 := base14 a1 a2 a5 a6
  have h10 := base10 a1 a2 a5 a6
  exact ⟨(base a1 a2 a5 a6 14).toNat, (base a1 a2 a5 a6 10).toNat, by omega, by omega, by omega, by omega, by omega, by omega⟩
end Go.Proofs.Ytkimmfdicohoiaa.Wr
