import Derived.Test.YtpknggcgojkjgaaGreatJ02
import Derived.Deep.RegionHeld3
import Derived.BigQuiet
import Derived.Deep.LoopGhost
/-
  reclaimmodel.May, of any contents.
-/
namespace Go.Proofs.YtpknggcgojkjgaaGreat.Md
open Go.RowKit Mr
set_option linter.unusedVariables false
set_option linter.unusedSimpArgs false
theorem i64w (x : Int) (h1 : -9223372036854775808 ≤ x) (h2 : x ≤ 9223372036854775807) : IntKind.i64.wrap x = x := by
  simp [IntKind.wrap, IntKind.signed, IntKind.bits]; omega
end Go.Proofs.YtpknggcgojkjgaaGreat.Md
/-
  reclaimmodel.Object, kind, value, yes; set and table: where a key stands.
-/
namespace Go.Proofs.YtpknggcgojkjgaaGreat.Md
open Go.RowKit Mr
set_option linter.unusedVariables false
set_option linter.unusedSimpArgs false
/-- Where a key stands in a rising list; whether it is there. -/
def plc (l : List Int) (k : Int) : Nat := (l.takeWhile (fun x => decide (x < k))).length
def inB (l : List Int) (k : Int) : Bool := l[plc l k]? == some k
end Go.Proofs.YtpknggcgojkjgaaGreat.Md
