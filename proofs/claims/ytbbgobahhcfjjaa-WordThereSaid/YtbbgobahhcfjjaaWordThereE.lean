import Derived.Test.YtbbgobahhcfjjaaWordThereWalk
namespace Go.Proofs.Ytbbgobahhcfjjaa.Wt
open Go.RowKit
theorem walk_there (a0 a1 a2 a3 a4 a5 a6 : Int) (w : World)
    (_h0 : (Lit.int .i64 a0).wf = true ∧ (Lit.int .i64 a1).wf = true ∧ (Lit.int .i64 a2).wf = true ∧ (Lit.int .i64 a3).wf = true ∧ (Lit.int .i64 a4).wf = true ∧ (Lit.int .i64 a5).wf = true ∧ (Lit.int .i64 a6).wf = true) :
    Calls Try.prog 5 #[.agg #[.int .i64 a0, .int .i64 a1, .int .i64 a2, .int .i64 a3, .int .i64 a4, .int .i64 a5, .int .i64 a6]] w fun e w' =>
      e = .returned (.bool true) ∧ Below w.heap.size w w' := law_there a0 a1 a2 a3 a4 a5 a6 w
end Go.Proofs.Ytbbgobahhcfjjaa.Wt
