import Derived.Test.YtbbgobahhcfjjaaWordCfgRef
import Derived.Test.YtbbgobahhcfjjaaWordBox
namespace Go.Proofs.Ytbbgobahhcfjjaa.Wc
open Go.RowKit
set_option linter.unusedVariables false
theorem chk_zero : chkN (cfgB 0 0 0 0 0 0 0) = 1 := by decide
theorem chk_small : chkN (cfgB 2 2 3 1 0 4 2) = 0 := by decide
set_option maxHeartbeats 800000 in
theorem law_checks (a0 a1 a2 a3 a4 a5 a6 : Int) (w : World) :
    Calls Try.prog 4 #[.agg #[.int .i64 a0, .int .i64 a1, .int .i64 a2, .int .i64 a3, .int .i64 a4, .int .i64 a5, .int .i64 a6]] w fun e w' =>
      e = .returned (.bool true) ∧ Below w.heap.size w w' := by
  have z1 := chk_zero
  have z2 := chk_small
  cases hc : cfgB a0 a1 a2 a3 a4 a5 a6
  all_goals
    have hk : chkN true = 0 := rfl
    have hk' : chkN false = 1 := rfl
    go_enter Try.func4, Try.ntmps4
    go_wp2_with fail
    refine (check_any _ _ _ _ _ _ _ _).mono ?_
    rintro e w1 ⟨rfl, hb1⟩
    have B1 := Bx.boxSeq (Bx.box0 _ _) hb1
    clear hb1
    have q1 := Bx.boxCell B1
    go_wp2_with fail
    refine (small_any _).mono ?_
    rintro e w2 ⟨rfl, hb2⟩
    have B2 := Bx.boxSeq B1 hb2
    clear hb2 q1 B1
    have q2 := Bx.boxCell B2
    go_wp2_with fail
    refine (check_any _ _ _ _ _ _ _ _).mono ?_
    rintro e w3 ⟨rfl, hb3⟩
    have B3 := Bx.boxSeq B2 hb3
    clear hb3 q2 B2
    have q3 := Bx.boxCell B3
    go_wp2_with fail
    refine (check_any _ _ _ _ _ _ _ _).mono ?_
    rintro e w4 ⟨rfl, hb4⟩
    have B4 := Bx.boxSeq B3 hb4
    clear hb4 q3 B3
    have q4 := Bx.boxCell B4
    go_wp2_with fail
    refine (refConfig _ _ _ _ _ _ _ _).mono ?_
    rintro e w5 ⟨rfl, hb5⟩
    have B5 := Bx.boxSeq B4 hb5
    clear hb5 q4 B4
    go_wp2_with fail
    go_ret
    exact ⟨rfl, Bx.boxEnd B5⟩
theorem walk_checks (a0 a1 a2 a3 a4 a5 a6 : Int) (w : World) (_h : (Lit.int .i64 a0).wf = true ∧ (Lit.int .i64 a1).wf = true ∧ (Lit.int .i64 a2).wf = true ∧ (Lit.int .i64 a3).wf = true ∧ (Lit.int .i64 a4).wf = true ∧ (Lit.int .i64 a5).wf = true ∧ (Lit.int .i64 a6).wf = true) :
    Calls Try.prog 4 #[.agg #[.int .i64 a0, .int .i64 a1, .int .i64 a2, .int .i64 a3, .int .i64 a4, .int .i64 a5, .int .i64 a6]] w fun e w' =>
      e = .returned (.bool true) ∧ Below w.heap.size w w' := law_checks a0 a1 a2 a3 a4 a5 a6 w
end Go.Proofs.Ytbbgobahhcfjjaa.Wc
