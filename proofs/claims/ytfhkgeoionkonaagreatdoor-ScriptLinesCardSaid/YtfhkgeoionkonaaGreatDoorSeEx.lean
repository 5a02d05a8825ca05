/-
  SCRIPT: what the library's variables hold, errors.errorType too.
-/
import Derived.Test.YtfhkgeoionkonaaGreatDoorSePar
namespace Go.Proofs.YtfhkgeoionkonaaGreatDoor.Sc
open Go.RowKit
structure EnvX (W : World) : Prop where
  env : Env W
  et : EtAt W
theorem EnvX.below {W W' : World} (h : EnvX W) (hb : Below W.heap.size W W') : EnvX W' := ⟨h.env.below hb, h.et.below hb⟩
end Go.Proofs.YtfhkgeoionkonaaGreatDoor.Sc
