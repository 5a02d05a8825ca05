/-
  THE LAW WordFirst.
-/
import Derived.Test.YtbbgobahhcfjjabWordFstRefAll
import Derived.Test.YtbbgobahhcfjjabWordCfgRef
import Derived.WalkLawsBesides
namespace Go.Proofs.Ytbbgobahhcfjjab.Wr
open Go.RowKit
open Wc Wm
set_option linter.unusedVariables false
theorem sm_ok : cfgB 2 2 3 1 0 4 2 = true := by decide
theorem sm_n : base 2 3 4 2 14 = ((32 : Nat) : Int) := by decide
theorem sm_0 : fstF 2 3 4 2 1 0 = 2 := by decide
theorem sm_3 : fstF 2 3 4 2 1 3 = 1 := by decide
theorem sm_4 : fstF 2 3 4 2 1 4 = 1 := by decide
set_option maxHeartbeats 2000000 in
theorem lawf_bad (a0 a1 a2 a3 a4 a5 a6 u : Int) (w : World) (hc : cfgB a0 a1 a2 a3 a4 a5 a6 = false) :
    Calls Try.prog 5 #[.agg #[.int .i64 a0, .int .i64 a1, .int .i64 a2, .int .i64 a3, .int .i64 a4, .int .i64 a5, .int .i64 a6], .int .i64 u] w fun e w' =>
      e = .returned (.bool true) ∧ Below w.heap.size w w' := by
  have z0 := sm_0
  have z3 := sm_3
  have z4 := sm_4
  go_enter Try.func5, Try.ntmps5
  go_wp2_with fail
  refine (small_any _).mono ?_
  rintro e w1 ⟨rfl, hb⟩
  have B := Bx.boxSeq (Bx.box0 _ _) hb
  clear hb
  go_wp2_with fail
  refine (first_all _ _ _ _ _ _ _ 1 32 _ sm_ok sm_n (by decide) (by decide)).mono ?_
  rintro e w2 ⟨b1, rfl, hbl1, R1, hb⟩
  replace B := Bx.boxSeq B hb
  clear hb hbl1
  have q := Bx.boxCell B
  have c0 := R1.cell 0 (by decide)
  have c3 := R1.cell 3 (by decide)
  have c4 := R1.cell 4 (by decide)
  clear R1
  go_wp2_with fail
  refine (first_cfg _ _ _ _ _ _ _ _ _ hc).mono ?_
  rintro e w3 ⟨rfl, hb⟩
  replace B := Bx.boxSeq B hb
  clear hb q c0 c3 c4
  have q := Bx.boxCell B
  go_wp2_with fail
  refine (refConfig _ _ _ _ _ _ _ _).mono ?_
  rintro e w4 ⟨rfl, hb⟩
  replace B := Bx.boxSeq B hb
  clear hb q
  go_wp2_with fail
  go_ret
  exact ⟨rfl, Bx.boxEnd B⟩
set_option maxHeartbeats 2000000 in
theorem lawf_used (a0 a1 a2 a3 a4 a5 a6 u : Int) (w : World) (hc : cfgB a0 a1 a2 a3 a4 a5 a6 = true) (hu : u < 0 ∨ a5 < u) :
    Calls Try.prog 5 #[.agg #[.int .i64 a0, .int .i64 a1, .int .i64 a2, .int .i64 a3, .int .i64 a4, .int .i64 a5, .int .i64 a6], .int .i64 u] w fun e w' =>
      e = .returned (.bool true) ∧ Below w.heap.size w w' := by
  have z0 := sm_0
  have z3 := sm_3
  have z4 := sm_4
  go_enter Try.func5, Try.ntmps5
  go_wp2_with fail
  refine (small_any _).mono ?_
  rintro e w1 ⟨rfl, hb⟩
  have B := Bx.boxSeq (Bx.box0 _ _) hb
  clear hb
  go_wp2_with fail
  refine (first_all _ _ _ _ _ _ _ 1 32 _ sm_ok sm_n (by decide) (by decide)).mono ?_
  rintro e w2 ⟨b1, rfl, hbl1, R1, hb⟩
  replace B := Bx.boxSeq B hb
  clear hb hbl1
  have q := Bx.boxCell B
  have c0 := R1.cell 0 (by decide)
  have c3 := R1.cell 3 (by decide)
  have c4 := R1.cell 4 (by decide)
  clear R1
  go_wp2_with fail
  refine (first_used _ _ _ _ _ _ _ _ _ hc hu).mono ?_
  rintro e w3 ⟨rfl, hb⟩
  replace B := Bx.boxSeq B hb
  clear hb q c0 c3 c4
  have q := Bx.boxCell B
  go_wp2_with fail
  refine (refConfig _ _ _ _ _ _ _ _).mono ?_
  rintro e w4 ⟨rfl, hb⟩
  replace B := Bx.boxSeq B hb
  clear hb q
  have q := Bx.boxCell B
  rcases hu with hu' | hu'
  · go_wp2_with fail
    go_ret
    exact ⟨rfl, Bx.boxEnd B⟩
  · have hd : decide (a5 < u) = true := by simpa using hu'
    by_cases hneg : u < 0
    · go_wp2_with fail
      go_ret
      exact ⟨rfl, Bx.boxEnd B⟩
    · go_wp2_with fail
      go_ret
      exact ⟨rfl, Bx.boxEnd B⟩
set_option maxHeartbeats 2000000 in
theorem lawf_ok (a0 a1 a2 a3 a4 a5 a6 u : Int) (w : World) (n : Nat) (hc : cfgB a0 a1 a2 a3 a4 a5 a6 = true) (hok : Ok a1 a2 a5 a6) (hn : base a1 a2 a5 a6 14 = (n : Int)) (hn6 : n ≤ 65536) (h0 : 0 ≤ u) (h1 : u ≤ a5) :
    Calls Try.prog 5 #[.agg #[.int .i64 a0, .int .i64 a1, .int .i64 a2, .int .i64 a3, .int .i64 a4, .int .i64 a5, .int .i64 a6], .int .i64 u] w fun e w' =>
      e = .returned (.bool true) ∧ Below w.heap.size w w' := by
  have z0 := sm_0
  have z3 := sm_3
  have z4 := sm_4
  go_enter Try.func5, Try.ntmps5
  go_wp2_with fail
  refine (small_any _).mono ?_
  rintro e w1 ⟨rfl, hb⟩
  have B := Bx.boxSeq (Bx.box0 _ _) hb
  clear hb
  go_wp2_with fail
  refine (first_all _ _ _ _ _ _ _ 1 32 _ sm_ok sm_n (by decide) (by decide)).mono ?_
  rintro e w2 ⟨b1, rfl, hbl1, R1, hb⟩
  replace B := Bx.boxSeq B hb
  clear hb hbl1
  have q := Bx.boxCell B
  have c0 := R1.cell 0 (by decide)
  have c3 := R1.cell 3 (by decide)
  have c4 := R1.cell 4 (by decide)
  clear R1
  go_wp2_with fail
  refine (first_all _ _ _ _ _ _ _ _ n _ hc hn h0 h1).mono ?_
  rintro e w3 ⟨b, rfl, hbl, R, hb⟩
  replace B := Bx.boxSeq B hb
  clear hb q c0 c3 c4 hbl
  have q := Bx.boxCell B
  go_wp2_with fail
  refine (refConfig _ _ _ _ _ _ _ _).mono ?_
  rintro e w4 ⟨rfl, hb⟩
  replace B := Bx.boxSeq B hb
  replace R := R.below hb
  clear hb q
  have q := Bx.boxCell B
  have hd0 : decide (u < 0) = false := by simpa using h0
  have hd1 : decide (a5 < u) = false := by simpa using h1
  go_wp2_with fail
  refine (refFirst_all _ _ _ _ _ _ _ _ n _ hok hn h0 h1).mono ?_
  rintro e w5 ⟨b', rfl, hbl', R', hb⟩
  replace B := Bx.boxSeq B hb
  replace R := R.below hb
  clear hb q hbl'
  go_wp2_with fail
  go_loopw [10] (fun s W => ∃ k : Nat, k ≤ n ∧ s = .int .i64 (k : Int) ∧ Row W b n (fstF a1 a2 a5 a6 u) ∧ Row W b' n (fstF a1 a2 a5 a6 u) ∧ Below (w.heap.size + 1) (w.alloc (.cells #[.int .i64 a0, .int .i64 a1, .int .i64 a2, .int .i64 a3, .int .i64 a4, .int .i64 a5, .int .i64 a6] 23)) W) (fun s _ => n - (intOf s).toNat)
  case atStart => exact ⟨0, by omega, rfl, R, R', B⟩
  case round =>
    obtain ⟨k, k1, rfl, S, S', C⟩ := hrel
    clear R R' B
    by_cases hlt : k < n
    · have c1 := S.cell k hlt
      have c2 := S'.cell k hlt
      have hlt' : (k : Int) < (n : Int) := by omega
      go_wp2_with fail
      go_quiet (fail)
      go_wp2_with fail
      exact ⟨⟨k + 1, by omega, by go_num, S.below (Bx.draws _ _ _), S'.below (Bx.draws _ _ _), C.trans (Bx.draws _ _ _)⟩, by simp [intOf]; omega⟩
    · have hlt' : ¬ (k : Int) < (n : Int) := by omega
      go_wp2_with fail
      go_ret
      exact ⟨rfl, Bx.boxEnd C⟩
theorem walk_first (a0 a1 a2 a3 a4 a5 a6 u : Int) (w : World)
    (_h0 : (Lit.int .i64 a0).wf = true ∧ (Lit.int .i64 a1).wf = true ∧ (Lit.int .i64 a2).wf = true ∧ (Lit.int .i64 a3).wf = true ∧ (Lit.int .i64 a4).wf = true ∧ (Lit.int .i64 a5).wf = true ∧ (Lit.int .i64 a6).wf = true)
    (_h1 : (Lit.int .i64 u).wf = true) :
    Calls Try.prog 5 #[.agg #[.int .i64 a0, .int .i64 a1, .int .i64 a2, .int .i64 a3, .int .i64 a4, .int .i64 a5, .int .i64 a6], .int .i64 u] w fun e w' =>
      e = .returned (.bool true) ∧ Below w.heap.size w w' := by
  cases hc : cfgB a0 a1 a2 a3 a4 a5 a6
  · exact lawf_bad _ _ _ _ _ _ _ _ w hc
  by_cases hu : u < 0 ∨ a5 < u
  · exact lawf_used _ _ _ _ _ _ _ _ w hc hu
  obtain ⟨n, m, hn, hm, g1, g2, g3, g4⟩ := sizes (ok_of hc)
  exact lawf_ok _ _ _ _ _ _ _ _ w n hc (ok_of hc) hn g4 (by omega) (by omega)
end Go.Proofs.Ytbbgobahhcfjjab.Wr
