/-
  THE WALK of WordBack, as the frame hands it its facts.
-/
import Derived.Test.YtpmpdkpnjfidhaaDoorWordBackWalk
namespace Go.Proofs.YtpmpdkpnjfidhaaDoor.St
open Go.RowKit
set_option linter.unusedVariables false
theorem wfU {x : Int} (h : (Lit.int .u64 x).wf = true) : 0 ≤ x ∧ x ≤ 18446744073709551615 := by
  have e1 : IntKind.u64.min = 0 := rfl
  have e2 : IntKind.u64.max = 18446744073709551615 := rfl
  simpa [Lit.wf, e1, e2] using h
theorem wfV {x : Int} (h : (Lit.int .u32 x).wf = true) : 0 ≤ x ∧ x ≤ 4294967295 := by
  have e1 : IntKind.u32.min = 0 := rfl
  have e2 : IntKind.u32.max = 4294967295 := rfl
  simpa [Lit.wf, e1, e2] using h
theorem backW (ix : Int) (mk : Bool) (tg r i k g x : Int) (w : World) (h : (Lit.int .u32 tg).wf = true ∧ (Lit.int .u64 x).wf = true) (E : Env w) :
    Calls Tryd.prog 4 #[.agg #[.int .i64 ix, .bool mk, .int .u32 tg, .int .i64 r, .int .i64 i, .int .i64 k, .int .i64 g, .int .u64 x]] w fun e w' => e = .returned (.bool true) ∧ Below w.heap.size w w' :=
  backs ix mk tg r i k g x w (wfV h.1).1 (wfV h.1).2 (wfU h.2).1 (wfU h.2).2 E
end Go.Proofs.YtpmpdkpnjfidhaaDoor.St
