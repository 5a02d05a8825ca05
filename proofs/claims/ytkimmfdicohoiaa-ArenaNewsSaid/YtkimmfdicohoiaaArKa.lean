import Derived.Test.YtkimmfdicohoiaaArNew
import Derived.RangeFuncNested
import Derived.Test.YtkimmfdicohoiaaMemNew
import Derived.Test.YtkimmfdicohoiaaArPure
import Derived.Test.YtkimmfdicohoiaaWordFstAll
import Derived.Test.YtkimmfdicohoiaaMacRepeat
import Derived.Test.YtkimmfdicohoiaaMacRep
import Derived.Deep.RegionHeld3
import Derived.Test.YtkimmfdicohoiaaMemNote
import Derived.RangeFuncBound
import Derived.RangeFuncCalls
import Derived.RangeFuncLeaves
import Derived.Shelf.Abstract
import Derived.Shelf.RegionOpen
import Derived.OwnWalkIn
import Derived.TacticsInMore
import Derived.LoopNIn
import Derived.LoopIn
import Derived.Laws.ResultCell
import Derived.Test.YtkimmfdicohoiaaWordCfgRef
/-
  What the laws of layer 4 keep: the configuration's box, the run's box, the run's rows.
-/
namespace Go.Proofs.Ytkimmfdicohoiaa.Ar
open Go.RowKit Go.Shelf Mr Me Ma Wc Wm Wr
section
variable {w W W' : World} {c : Cf} {B : Nat} {v1 v2 v3 v4 : Value} {P : Pa}
end
theorem info_i : (Try.prog.info? 3).map (fun i => (i.zero, i.size, i.bytes)) = some (some (.int .i64 0), 1, 8) := by kernel_rfl
end Go.Proofs.Ytkimmfdicohoiaa.Ar
