import Derived.Test.YtdggempcfmihpaaMemRow
import Derived.Test.YtdggempcfmihpaaChecked
import Derived.Laws.AppendOwn
import Derived.WalkSpells
import Derived.Deep.RegionLaw
import Derived.RangeFuncNested
import Derived.RangeFuncBound
import Derived.RangeFuncCalls
import Derived.RangeFuncLeaves
import Derived.Shelf.Abstract
import Derived.Shelf.RegionOpen
import Derived.OwnWalkIn
import Derived.TacticsInMore
import Derived.LoopNIn
import Derived.LoopIn
import Derived.BigQuiet
import Derived.Deep.LoopGhost
import Derived.Deep.DeepCutAuto
import Derived.Deep.RegionHeld3
/-
  A memory that New did not make: Back; a memory that is not there: logged.
-/
namespace Go.Proofs.Ytdggempcfmihpaa.Me
open Go.RowKit Go.Shelf Mr
attribute [local go_sem] Oper.semAt_some
theorem Fr.put {a b : World} {S : Nat → Prop} (h : Fr a b S) {D : Nat} (o : Obj) (hD : a.heap.size ≤ D) : Fr a (b.putObj D o) S :=
  h.grown (grownBy_putObj' b D o) (fun k hk => by cases hk; exact .inr hD)
end Go.Proofs.Ytdggempcfmihpaa.Me
