import Derived.Test.YtbbgobahhcfjjabWordPlanB
import Derived.Test.YtbbgobahhcfjjabWordPlanC
import Derived.Test.YtbbgobahhcfjjabWordPlanD
namespace Go.Proofs.Ytbbgobahhcfjjab.Wm
open Go.RowKit
open Wc
theorem walk_plan (a0 a1 a2 a3 a4 a5 a6 r i k ad : Int) (w : World)
    (_h0 : (Lit.int .i64 a0).wf = true ∧ (Lit.int .i64 a1).wf = true ∧ (Lit.int .i64 a2).wf = true ∧ (Lit.int .i64 a3).wf = true ∧ (Lit.int .i64 a4).wf = true ∧ (Lit.int .i64 a5).wf = true ∧ (Lit.int .i64 a6).wf = true)
    (_h1 : (Lit.int .i64 r).wf = true ∧ (Lit.int .i64 i).wf = true ∧ (Lit.int .i64 k).wf = true) (hd : (Lit.int .i64 ad).wf = true) :
    Calls Try.prog 4 #[.agg #[.int .i64 a0, .int .i64 a1, .int .i64 a2, .int .i64 a3, .int .i64 a4, .int .i64 a5, .int .i64 a6], .agg #[.int .i64 r, .int .i64 i, .int .i64 k], .int .i64 ad] w fun e w' =>
      e = .returned (.bool true) ∧ Below w.heap.size w w' := by
  have hd := bounds_i64 hd
  cases hc : cfgB a0 a1 a2 a3 a4 a5 a6
  · exact plan_bad _ _ _ _ _ _ _ _ _ _ _ w hc
  have hok := ok_of hc
  by_cases c1 : ad < 0
  · rcases addrW_dich a1 a2 a5 a6 r i k hok with hw | ⟨hw, h1, h2, h3, h4⟩
    · exact plan_no_lo _ _ _ _ _ _ _ _ _ _ _ w hc hw c1
    · exact plan_yes_lo _ _ _ _ _ _ _ _ _ _ _ w hc hw h1 h2 h3 h4 c1
  by_cases c2 : base a1 a2 a5 a6 14 ≤ ad
  · rcases addrW_dich a1 a2 a5 a6 r i k hok with hw | ⟨hw, h1, h2, h3, h4⟩
    · exact plan_no_hi _ _ _ _ _ _ _ _ _ _ _ w hc hw c2 hd.2
    · exact plan_yes_hi _ _ _ _ _ _ _ _ _ _ _ w hc hw h1 h2 h3 h4 c2 hd.2
  obtain ⟨j, j1, j2, j3, j4⟩ := find_at hok ad (by omega) 14 (by omega) (by omega)
  rcases addrW_dich a1 a2 a5 a6 r i k hok with hw | ⟨hw, h1, h2, h3, h4⟩
  · exact plan_no_ok _ _ _ _ _ _ _ _ _ _ _ w hc hw j j1 (by omega) j3 j4 (by omega)
  · exact plan_yes_ok _ _ _ _ _ _ _ _ _ _ _ w hc hw h1 h2 h3 h4 j j1 (by omega) j3 j4 (by omega)
end Go.Proofs.Ytbbgobahhcfjjab.Wm
