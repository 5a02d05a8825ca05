/-
  THE WALK of WordOnce, as the frame hands it its facts.
-/
import Derived.Test.YtbbgobahhcfjjabDoorWordOnceWalk
namespace Go.Proofs.YtbbgobahhcfjjabDoor.St
open Go.RowKit
set_option linter.unusedVariables false
theorem wfU {x : Int} (h : (Lit.int .u64 x).wf = true) : 0 ≤ x ∧ x ≤ 18446744073709551615 := by
  have e1 : IntKind.u64.min = 0 := rfl
  have e2 : IntKind.u64.max = 18446744073709551615 := rfl
  simpa [Lit.wf, e1, e2] using h
theorem onceW (s : ByteArray) (r x : Int) (w : World) (hs : s.size ≤ 281474976710656) (h1 : (Lit.int .i64 r).wf = true) (h2 : (Lit.int .u64 x).wf = true) (E : Env w) :
    Calls Tryd.prog 4 #[.string s, .int .i64 r, .int .u64 x] w fun e w' => e = .returned (.bool true) ∧ Below w.heap.size w w' :=
  once s r x w hs (wfU h2).1 (wfU h2).2 E
end Go.Proofs.YtbbgobahhcfjjabDoor.St
