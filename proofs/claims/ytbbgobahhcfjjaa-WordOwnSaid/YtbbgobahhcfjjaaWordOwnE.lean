import Derived.Test.YtbbgobahhcfjjaaWordOwnWalk
namespace Go.Proofs.Ytbbgobahhcfjjaa.Wo
open Go.RowKit
theorem walk_own (a0 a1 a2 a3 a4 a5 a6 u : Int) (w : World)
    (_h0 : (Lit.int .i64 a0).wf = true ∧ (Lit.int .i64 a1).wf = true ∧ (Lit.int .i64 a2).wf = true ∧ (Lit.int .i64 a3).wf = true ∧ (Lit.int .i64 a4).wf = true ∧ (Lit.int .i64 a5).wf = true ∧ (Lit.int .i64 a6).wf = true)
    (_h1 : (Lit.int .i64 u).wf = true) :
    Calls Try.prog 6 #[.agg #[.int .i64 a0, .int .i64 a1, .int .i64 a2, .int .i64 a3, .int .i64 a4, .int .i64 a5, .int .i64 a6], .int .i64 u] w fun e w' =>
      e = .returned (.bool true) ∧ Below w.heap.size w w' := law_own a0 a1 a2 a3 a4 a5 a6 u w
end Go.Proofs.Ytbbgobahhcfjjaa.Wo
