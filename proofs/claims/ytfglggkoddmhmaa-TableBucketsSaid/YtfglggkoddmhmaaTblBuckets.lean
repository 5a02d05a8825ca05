/-
  THE BUCKET OF A KEY: the table's, the document's, and the law.
-/
import Derived.Test.YtfglggkoddmhmaaWordCfgRef
import Derived.Test.YtfglggkoddmhmaaWordBox
import Derived.BigQuiet
namespace Go.Proofs.Ytfglggkoddmhmaa.Wc
open Go.RowKit
set_option linter.unusedVariables false

theorem number_any (k : Int) (w : World) :
    Calls Try.prog 8 #[.int .i64 k] w fun e w' => e = .returned (.int .u64 (IntKind.u64.wrap k)) ∧ w' = w := by
  go_enter Try.func8, Try.ntmps8
  go_wp2
  go_ret
  exact ⟨rfl, rfl⟩

set_option maxHeartbeats 800000 in
theorem bucket_ok (a0 a1 a2 a3 a4 a5 a6 k : Int) (w : World) (hc : cfgB a0 a1 a2 a3 a4 a5 a6 = true) (h1 : 1 ≤ a6) (h2 : a6 ≤ 64) :
    Calls Try.prog 4 #[.agg #[.int .i64 a0, .int .i64 a1, .int .i64 a2, .int .i64 a3, .int .i64 a4, .int .i64 a5, .int .i64 a6], .int .i64 k] w fun e w' =>
      e = .returned (.tuple #[.int .i64 (wrap64 ((IntKind.u64.wrap k).tmod a6)), .int .i64 0]) ∧ Below w.heap.size w w' := by
  have hk : chkN true = 0 := rfl
  go_enter Try.func4, Try.ntmps4
  go_wp2_with fail
  refine (check_any _ _ _ _ _ _ _ _).mono ?_
  rw [hc]
  rintro e w1 ⟨rfl, hb1⟩
  have B1 := Bx.boxSeq (Bx.box0 _ _) hb1
  clear hb1
  have q1 := Bx.boxCell B1
  have q6 : w1.cell? ⟨w.heap.size, 6, none⟩ = some (.int .i64 a6) := by rw [q1]; simp [go_sem]
  clear q1
  have hz : (a6 == 0) = false := by simp; omega
  have hz1 : ¬ a6 = 0 := by omega
  have hz2 : a6 ≠ -1 := by omega
  go_wp2_with fail
  go_quiet (first | (go_at_call 8; exact Calls.quiet_of_same (number_any k _)))
  go_wp2
  go_ret2
  exact ⟨rfl, Bx.boxEnd (B1.trans (Bx.draws _ _ _))⟩

theorem bucket_no (a0 a1 a2 a3 a4 a5 a6 k : Int) (w : World) (hc : cfgB a0 a1 a2 a3 a4 a5 a6 = false) :
    Calls Try.prog 4 #[.agg #[.int .i64 a0, .int .i64 a1, .int .i64 a2, .int .i64 a3, .int .i64 a4, .int .i64 a5, .int .i64 a6], .int .i64 k] w fun e w' =>
      e = .returned (.tuple #[.int .i64 0, .int .i64 1]) ∧ Below w.heap.size w w' := by
  have hk : chkN false = 1 := rfl
  go_enter Try.func4, Try.ntmps4
  go_wp2_with fail
  refine (check_any _ _ _ _ _ _ _ _).mono ?_
  rw [hc]
  rintro e w1 ⟨rfl, hb1⟩
  have B1 := Bx.boxSeq (Bx.box0 _ _) hb1
  clear hb1
  go_wp2_with fail
  go_ret2
  exact ⟨rfl, Bx.boxEnd B1⟩

theorem refBucket_any (a0 a1 a2 a3 a4 a5 a6 k : Int) (w : World) (h1 : 1 ≤ a6) (h2 : a6 ≤ 64) :
    Calls Try.prog 6 #[.agg #[.int .i64 a0, .int .i64 a1, .int .i64 a2, .int .i64 a3, .int .i64 a4, .int .i64 a5, .int .i64 a6], .int .i64 k] w fun e w' =>
      e = .returned (.int .i64 (wrap64 ((IntKind.u64.wrap k).tmod a6))) ∧ Below w.heap.size w w' := by
  go_enter Try.func6, Try.ntmps6
  go_wp2
  go_ret
  exact ⟨rfl, (Below.refl _ _).alloc (Nat.le_refl _) _⟩

theorem cfg_buckets (a0 a1 a2 a3 a4 a5 a6 : Int) (h : cfgB a0 a1 a2 a3 a4 a5 a6 = true) : 1 ≤ a6 ∧ a6 ≤ 64 := by
  simp [cfgB, inB] at h; omega

set_option maxHeartbeats 800000 in
theorem law_buckets (a0 a1 a2 a3 a4 a5 a6 k : Int) (w : World) :
    Calls Try.prog 3 #[.agg #[.int .i64 a0, .int .i64 a1, .int .i64 a2, .int .i64 a3, .int .i64 a4, .int .i64 a5, .int .i64 a6], .int .i64 k] w fun e w' =>
      e = .returned (.bool true) ∧ Below w.heap.size w w' := by
  have z1 : wrap64 ((IntKind.u64.wrap (-1)).tmod 2) = 1 := by decide +kernel
  have z0 : cfgB 1 1 3 1 0 1 2 = true := by decide
  cases hc : cfgB a0 a1 a2 a3 a4 a5 a6
  · have K := fun w => bucket_no a0 a1 a2 a3 a4 a5 a6 k w hc
    replace hc := hc
    go_enter Try.func3, Try.ntmps3
    go_wp2_with fail
    refine (bucket_ok _ _ _ _ _ _ _ _ _ z0 (by decide) (by decide)).mono ?_
    rw [z1]
    rintro e w1 ⟨rfl, hb1⟩
    have B1 := Bx.boxSeq (Bx.box0 _ _) hb1
    clear hb1
    have q1 := Bx.boxCell B1
    go_wp2_with fail
    refine (K _).mono ?_
    rintro e w2 ⟨rfl, hb2⟩
    have B2 := Bx.boxSeq B1 hb2
    clear hb2 q1 B1
    have q2 := Bx.boxCell B2
    go_wp2_with fail
    refine (refConfig _ _ _ _ _ _ _ _).mono ?_
    rw [hc]
    rintro e w3 ⟨rfl, hb3⟩
    have B3 := Bx.boxSeq B2 hb3
    clear hb3 q2 B2
    go_wp2_with fail
    go_ret
    exact ⟨rfl, Bx.boxEnd B3⟩
  · obtain ⟨h1, h2⟩ := cfg_buckets _ _ _ _ _ _ _ hc
    have K := fun w => bucket_ok a0 a1 a2 a3 a4 a5 a6 k w hc h1 h2
    have K2 := fun w => refBucket_any a0 a1 a2 a3 a4 a5 a6 k w h1 h2
    generalize wrap64 ((IntKind.u64.wrap k).tmod a6) = bk at K K2
    go_enter Try.func3, Try.ntmps3
    go_wp2_with fail
    refine (bucket_ok _ _ _ _ _ _ _ _ _ z0 (by decide) (by decide)).mono ?_
    rw [z1]
    rintro e w1 ⟨rfl, hb1⟩
    have B1 := Bx.boxSeq (Bx.box0 _ _) hb1
    clear hb1
    have q1 := Bx.boxCell B1
    go_wp2_with fail
    refine (K _).mono ?_
    rintro e w2 ⟨rfl, hb2⟩
    have B2 := Bx.boxSeq B1 hb2
    clear hb2 q1 B1
    have q2 := Bx.boxCell B2
    go_wp2_with fail
    refine (refConfig _ _ _ _ _ _ _ _).mono ?_
    rw [hc]
    rintro e w3 ⟨rfl, hb3⟩
    have B3 := Bx.boxSeq B2 hb3
    clear hb3 q2 B2
    have q3 := Bx.boxCell B3
    go_wp2_with fail
    refine (K2 _).mono ?_
    rintro e w4 ⟨rfl, hb4⟩
    have B4 := Bx.boxSeq B3 hb4
    clear hb4 q3 B3
    go_wp2_with fail
    go_ret
    exact ⟨rfl, Bx.boxEnd B4⟩
theorem walk_buckets (a0 a1 a2 a3 a4 a5 a6 k : Int) (w : World) (_h : (Lit.int .i64 a0).wf = true ∧ (Lit.int .i64 a1).wf = true ∧ (Lit.int .i64 a2).wf = true ∧ (Lit.int .i64 a3).wf = true ∧ (Lit.int .i64 a4).wf = true ∧ (Lit.int .i64 a5).wf = true ∧ (Lit.int .i64 a6).wf = true) (_hk : (Lit.int .i64 k).wf = true) :
    Calls Try.prog 3 #[.agg #[.int .i64 a0, .int .i64 a1, .int .i64 a2, .int .i64 a3, .int .i64 a4, .int .i64 a5, .int .i64 a6], .int .i64 k] w fun e w' =>
      e = .returned (.bool true) ∧ Below w.heap.size w w' := law_buckets a0 a1 a2 a3 a4 a5 a6 k w
end Go.Proofs.Ytfglggkoddmhmaa.Wc
