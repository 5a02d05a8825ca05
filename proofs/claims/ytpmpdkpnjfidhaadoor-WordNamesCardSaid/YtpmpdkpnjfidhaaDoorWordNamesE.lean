/-
  THE WALK of WordNames, as the frame hands it its facts.
-/
import Derived.Test.YtpmpdkpnjfidhaaDoorWordNamesWalk
namespace Go.Proofs.YtpmpdkpnjfidhaaDoor.St
open Go.RowKit
set_option linter.unusedVariables false
theorem namesW (r i k : Int) (s : ByteArray) (w : World) (h : (Lit.int .i64 r).wf = true ∧ (Lit.int .i64 i).wf = true ∧ (Lit.int .i64 k).wf = true) (hs : s.size ≤ 281474976710656) (E : Env w) :
    Calls Tryd.prog 3 #[.agg #[.int .i64 r, .int .i64 i, .int .i64 k], .string s] w fun e w' => e = .returned (.bool true) ∧ Below w.heap.size w w' :=
  names_law r i k s w hs E
end Go.Proofs.YtpmpdkpnjfidhaaDoor.St
