import Derived.Test.YtfhkgeoionkonaaGreatDoorNumPure
/-
  WHAT IS SHOWN IS PARSED BACK, what is named is read back: no Go in sight.
-/
namespace Go.Proofs.YtfhkgeoionkonaaGreatDoor.St
open Go.RowKit
open Go.Lib (decDigits itoa)
set_option linter.unusedVariables false
theorem ito_dec (i : Int) (h : 0 ≤ i) : ito i = dec i := by
  unfold ito dec itoa
  rw [if_neg (by omega)]
/-! ### Names -/
end Go.Proofs.YtfhkgeoionkonaaGreatDoor.St
