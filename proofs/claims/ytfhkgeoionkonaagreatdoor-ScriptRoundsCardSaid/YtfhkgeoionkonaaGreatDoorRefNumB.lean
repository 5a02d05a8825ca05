import Derived.Test.YtfhkgeoionkonaaGreatDoorRefNum
import Derived.BigQuiet
import Derived.Deep.DeepCutAuto
/-
  THE DOCUMENT'S number by its contract.
-/
namespace Go.Proofs.YtfhkgeoionkonaaGreatDoor.St
open Go.RowKit
open Go.Lib (decDigits)
set_option linter.unusedVariables false
theorem dec_list (v : Nat) : (dec (v : Int)).data.toList = decDigits v := by show ((decDigits (v : Int).toNat).toArray).toList = _; simp
end Go.Proofs.YtfhkgeoionkonaaGreatDoor.St
