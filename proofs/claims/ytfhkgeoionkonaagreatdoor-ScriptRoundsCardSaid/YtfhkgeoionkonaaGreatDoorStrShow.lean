import Derived.Test.YtfhkgeoionkonaaGreatDoorChecked
import Derived.WalkKit
import Derived.WalkSpells
import Derived.WalkLawsBesides
import Derived.OpenShut
import Derived.Outline
import Derived.Below
import Derived.Deep.MidRow
import Derived.Deep.DeepCutAuto
import Derived.Test.YtfhkgeoionkonaaGreatDoorShelf
import Derived.Lib.AppendIntMem
import Derived.Lib.AtoiErrMem
import Derived.Deep.RegionHeld3
import Derived.Deep.QuietTactic
import Derived.BigQuiet
import Derived.Lib.ItoaLen
import Derived.Lib.ItoaMem
import Derived.Laws.BitsAllLaws
import Derived.Laws.Wrap64
/-
  CONTRACTS of Show and its parts.
-/
namespace Go.Proofs.YtfhkgeoionkonaaGreatDoor.St
open Go.RowKit
set_option linter.unusedVariables false
def dec (u : Int) : ByteArray := ⟨(Lib.decDigits u.toNat).toArray⟩
def ito (n : Int) : ByteArray := ⟨(Lib.itoa n).toArray⟩
theorem dec_size (u : Int) (h0 : 0 ≤ u) (h1 : u ≤ 18446744073709551615) : (dec u).size ≤ 20 := by
  obtain ⟨n, rfl⟩ := Int.eq_ofNat_of_zero_le h0
  show (Lib.decDigits n).length ≤ 20
  rw [Lib.decDigits_length]
  exact Lib.nDigits_le20 n (by omega)
end Go.Proofs.YtfhkgeoionkonaaGreatDoor.St
