import Derived.Test.YtcomelbphdjnnaaGreatDoorChecked
import Derived.WalkKit
import Derived.WalkSpells
import Derived.WalkLawsBesides
import Derived.OpenShut
import Derived.Outline
import Derived.Below
import Derived.Deep.MidRow
import Derived.Deep.DeepCutAuto
import Derived.Test.YtcomelbphdjnnaaGreatDoorShelf
import Derived.Lib.AppendIntMem
import Derived.Lib.AtoiErrMem
import Derived.Deep.RegionHeld3
import Derived.Deep.QuietTactic
import Derived.BigQuiet
/-
  CONTRACT of traitOf.
-/
namespace Go.Proofs.YtcomelbphdjnnaaGreatDoor.Tr
open Go.RowKit
set_option linter.unusedVariables false
def tKind (r : Int) : Int :=
  if r = 1 then 0
  else if r = 2 then 1
  else if r = 3 then 1
  else if r = 4 then 1
  else if r = 5 then 1
  else if r = 6 then 1
  else if r = 7 then 1
  else if r = 8 then 2
  else if r = 9 then 1
  else if r = 10 then 1
  else if r = 11 then 3
  else if r = 12 then 3
  else if r = 13 then 4
  else 0
end Go.Proofs.YtcomelbphdjnnaaGreatDoor.Tr
/-
  CONTRACTS of bare and Name.
-/
namespace Go.Proofs.YtcomelbphdjnnaaGreatDoor.St
open Go.RowKit
open Tr
set_option linter.unusedVariables false
def inB (n a b : Int) : Bool := decide (a ≤ n) && decide (n ≤ b)
end Go.Proofs.YtcomelbphdjnnaaGreatDoor.St
