/-
  THE WALK of WordTexts, as the frame hands it its facts.
-/
import Derived.Test.YtpmpdkpnjfidhaaDoorWordTextsWalk
namespace Go.Proofs.YtpmpdkpnjfidhaaDoor.St
open Go.RowKit
set_option linter.unusedVariables false
theorem wfU {x : Int} (h : (Lit.int .u64 x).wf = true) : 0 ≤ x ∧ x ≤ 18446744073709551615 := by
  have e1 : IntKind.u64.min = 0 := rfl
  have e2 : IntKind.u64.max = 18446744073709551615 := rfl
  simpa [Lit.wf, e1, e2] using h
theorem textsW (r x : Int) (s : ByteArray) (w : World) (h1 : (Lit.int .i64 r).wf = true) (h2 : (Lit.int .u64 x).wf = true) (hs : s.size ≤ 281474976710656) (E : Env w) :
    Calls Tryd.prog 5 #[.int .i64 r, .int .u64 x, .string s] w fun e w' => e = .returned (.bool true) ∧ Below w.heap.size w w' :=
  texts r x s w (wfU h2).1 (wfU h2).2 hs E
end Go.Proofs.YtpmpdkpnjfidhaaDoor.St
