import Derived.Test.YtfhkgeoionkonaaGreatDoorStrBack
/-
  NUMERALS BY THEIR DIGITS: no Go in sight.
-/
namespace Go.Proofs.YtfhkgeoionkonaaGreatDoor.St
open Go.RowKit
open Go.Lib (decDigits)
set_option linter.unusedVariables false
theorem dec_len (u : Nat) (h : u < 18446744073709551616) : 0 < (decDigits u).length ∧ (decDigits u).length ≤ 20 := by
  have h1 := dec_size (u : Int) (by omega) (by omega)
  have e : (dec (u : Int)).size = (decDigits u).length := by show (decDigits (u : Int).toNat).toArray.size = _; simp
  refine ⟨?_, by omega⟩
  have := dec_ne u
  exact List.length_pos_iff.2 this
/-- Digits' step. -/
theorem dec_step (u : Nat) (t : List UInt8) (h : ¬ u < 10) : decDigits u ++ t = decDigits (u / 10) ++ (UInt8.ofNat (48 + u % 10) :: t) := by
  rw [decDigits, dif_neg h]
  simp
end Go.Proofs.YtfhkgeoionkonaaGreatDoor.St
