import Derived.Test.YtailcefgkgpalaaMdRow
import Derived.Test.YtailcefgkgpalaaWordBox
import Derived.Deep.RegionHeld3
import Derived.BigQuiet
import Derived.Deep.LoopGhost
import Derived.Test.YtailcefgkgpalaaRfFresh
import Derived.Deep.RegionHeldLaw
import Derived.Deep.Cut
import Derived.Test.YtailcefgkgpalaaMdApp
import Derived.Deep.RegionLaw
/-
  reclaimmodel.Allows, of any call whose op has an object.
-/
namespace Go.Proofs.Ytailcefgkgpalaa.Md
open Go.RowKit Mr Me
set_option linter.unusedVariables false
set_option linter.unusedSimpArgs false
/-- An op that may find no room. -/
def fullOp (op : Int) : Prop := op = 22 ∨ op = 30 ∨ op = 40 ∨ op = 50 ∨ op = 60
instance decFull (op : Int) : Decidable (fullOp op) := by unfold fullOp; infer_instance
end Go.Proofs.Ytailcefgkgpalaa.Md
