import Derived.Test.YtcomelbphdjnnaaGreatDoorJ12
import Derived.Test.YtcomelbphdjnnaaGreatDoorJ28
import Derived.Test.YtcomelbphdjnnaaGreatDoorJ29
namespace Go.Proofs.YtcomelbphdjnnaaGreatDoor.Wc
open Go.RowKit
set_option linter.unusedVariables false
set_option maxHeartbeats 1000000 in
theorem refConfig13 (a0 a1 a2 a3 a4 a5 a6 : Int) (w : World) (c0 : decide (1 ≤ a0) = true) (c1 : decide (a0 ≤ 16) = true) (c2 : decide (1 ≤ a1) = true) (c3 : decide (a1 ≤ 16) = true) (c4 : decide (3 ≤ a2) = true) (c5 : decide (a2 ≤ 8) = true) (c6 : decide (1 ≤ a3) = true) (c7 : decide (a3 ≤ 1024) = true) (c8 : decide (0 ≤ a4) = true) (c9 : decide (a4 ≤ 64) = true) (c10 : decide (1 ≤ a5) = true) (c11 : decide (a5 ≤ 1024) = true) (c12 : decide (1 ≤ a6) = true) (c13 : decide (a6 ≤ 64) = false) :
    Calls Tryz.prog 15 #[.agg #[.int .i64 a0, .int .i64 a1, .int .i64 a2, .int .i64 a3, .int .i64 a4, .int .i64 a5, .int .i64 a6]] w fun e w' =>
      e = .returned (.bool false) ∧ Below w.heap.size w w' := by
  go_enter Tryz.func15, Tryz.ntmps15
  go_wp2
  go_ret
  exact ⟨rfl, (Below.refl _ _).alloc (Nat.le_refl _) _⟩
set_option maxHeartbeats 1000000 in
theorem refConfig14 (a0 a1 a2 a3 a4 a5 a6 : Int) (w : World) (c0 : decide (1 ≤ a0) = true) (c1 : decide (a0 ≤ 16) = true) (c2 : decide (1 ≤ a1) = true) (c3 : decide (a1 ≤ 16) = true) (c4 : decide (3 ≤ a2) = true) (c5 : decide (a2 ≤ 8) = true) (c6 : decide (1 ≤ a3) = true) (c7 : decide (a3 ≤ 1024) = true) (c8 : decide (0 ≤ a4) = true) (c9 : decide (a4 ≤ 64) = true) (c10 : decide (1 ≤ a5) = true) (c11 : decide (a5 ≤ 1024) = true) (c12 : decide (1 ≤ a6) = true) (c13 : decide (a6 ≤ 64) = true) :
    Calls Tryz.prog 15 #[.agg #[.int .i64 a0, .int .i64 a1, .int .i64 a2, .int .i64 a3, .int .i64 a4, .int .i64 a5, .int .i64 a6]] w fun e w' =>
      e = .returned (.bool true) ∧ Below w.heap.size w w' := by
  go_enter Tryz.func15, Tryz.ntmps15
  go_wp2
  go_ret
  exact ⟨rfl, (Below.refl _ _).alloc (Nat.le_refl _) _⟩
end Go.Proofs.YtcomelbphdjnnaaGreatDoor.Wc
namespace Go.Proofs.YtcomelbphdjnnaaGreatDoor.Wc
open Go.RowKit
theorem refConfig (a0 a1 a2 a3 a4 a5 a6 : Int) (w : World) :
    Calls Tryz.prog 15 #[.agg #[.int .i64 a0, .int .i64 a1, .int .i64 a2, .int .i64 a3, .int .i64 a4, .int .i64 a5, .int .i64 a6]] w fun e w' =>
      e = .returned (.bool (cfgB a0 a1 a2 a3 a4 a5 a6)) ∧ Below w.heap.size w w' := by
  by_cases c0 : decide (1 ≤ a0) = true
  rotate_left
  · have f : decide (1 ≤ a0) = false := by simpa using c0
    have e : cfgB a0 a1 a2 a3 a4 a5 a6 = false := by simp [cfgB, inB, f]
    rw [e]
    exact refConfig0 a0 a1 a2 a3 a4 a5 a6 w f
  by_cases c1 : decide (a0 ≤ 16) = true
  rotate_left
  · have f : decide (a0 ≤ 16) = false := by simpa using c1
    have e : cfgB a0 a1 a2 a3 a4 a5 a6 = false := by simp [cfgB, inB, f]
    rw [e]
    exact refConfig1 a0 a1 a2 a3 a4 a5 a6 w c0 f
  by_cases c2 : decide (1 ≤ a1) = true
  rotate_left
  · have f : decide (1 ≤ a1) = false := by simpa using c2
    have e : cfgB a0 a1 a2 a3 a4 a5 a6 = false := by simp [cfgB, inB, f]
    rw [e]
    exact refConfig2 a0 a1 a2 a3 a4 a5 a6 w c0 c1 f
  by_cases c3 : decide (a1 ≤ 16) = true
  rotate_left
  · have f : decide (a1 ≤ 16) = false := by simpa using c3
    have e : cfgB a0 a1 a2 a3 a4 a5 a6 = false := by simp [cfgB, inB, f]
    rw [e]
    exact refConfig3 a0 a1 a2 a3 a4 a5 a6 w c0 c1 c2 f
  by_cases c4 : decide (3 ≤ a2) = true
  rotate_left
  · have f : decide (3 ≤ a2) = false := by simpa using c4
    have e : cfgB a0 a1 a2 a3 a4 a5 a6 = false := by simp [cfgB, inB, f]
    rw [e]
    exact refConfig4 a0 a1 a2 a3 a4 a5 a6 w c0 c1 c2 c3 f
  by_cases c5 : decide (a2 ≤ 8) = true
  rotate_left
  · have f : decide (a2 ≤ 8) = false := by simpa using c5
    have e : cfgB a0 a1 a2 a3 a4 a5 a6 = false := by simp [cfgB, inB, f]
    rw [e]
    exact refConfig5 a0 a1 a2 a3 a4 a5 a6 w c0 c1 c2 c3 c4 f
  by_cases c6 : decide (1 ≤ a3) = true
  rotate_left
  · have f : decide (1 ≤ a3) = false := by simpa using c6
    have e : cfgB a0 a1 a2 a3 a4 a5 a6 = false := by simp [cfgB, inB, f]
    rw [e]
    exact refConfig6 a0 a1 a2 a3 a4 a5 a6 w c0 c1 c2 c3 c4 c5 f
  by_cases c7 : decide (a3 ≤ 1024) = true
  rotate_left
  · have f : decide (a3 ≤ 1024) = false := by simpa using c7
    have e : cfgB a0 a1 a2 a3 a4 a5 a6 = false := by simp [cfgB, inB, f]
    rw [e]
    exact refConfig7 a0 a1 a2 a3 a4 a5 a6 w c0 c1 c2 c3 c4 c5 c6 f
  by_cases c8 : decide (0 ≤ a4) = true
  rotate_left
  · have f : decide (0 ≤ a4) = false := by simpa using c8
    have e : cfgB a0 a1 a2 a3 a4 a5 a6 = false := by simp [cfgB, inB, f]
    rw [e]
    exact refConfig8 a0 a1 a2 a3 a4 a5 a6 w c0 c1 c2 c3 c4 c5 c6 c7 f
  by_cases c9 : decide (a4 ≤ 64) = true
  rotate_left
  · have f : decide (a4 ≤ 64) = false := by simpa using c9
    have e : cfgB a0 a1 a2 a3 a4 a5 a6 = false := by simp [cfgB, inB, f]
    rw [e]
    exact refConfig9 a0 a1 a2 a3 a4 a5 a6 w c0 c1 c2 c3 c4 c5 c6 c7 c8 f
  by_cases c10 : decide (1 ≤ a5) = true
  rotate_left
  · have f : decide (1 ≤ a5) = false := by simpa using c10
    have e : cfgB a0 a1 a2 a3 a4 a5 a6 = false := by simp [cfgB, inB, f]
    rw [e]
    exact refConfig10 a0 a1 a2 a3 a4 a5 a6 w c0 c1 c2 c3 c4 c5 c6 c7 c8 c9 f
  by_cases c11 : decide (a5 ≤ 1024) = true
  rotate_left
  · have f : decide (a5 ≤ 1024) = false := by simpa using c11
    have e : cfgB a0 a1 a2 a3 a4 a5 a6 = false := by simp [cfgB, inB, f]
    rw [e]
    exact refConfig11 a0 a1 a2 a3 a4 a5 a6 w c0 c1 c2 c3 c4 c5 c6 c7 c8 c9 c10 f
  by_cases c12 : decide (1 ≤ a6) = true
  rotate_left
  · have f : decide (1 ≤ a6) = false := by simpa using c12
    have e : cfgB a0 a1 a2 a3 a4 a5 a6 = false := by simp [cfgB, inB, f]
    rw [e]
    exact refConfig12 a0 a1 a2 a3 a4 a5 a6 w c0 c1 c2 c3 c4 c5 c6 c7 c8 c9 c10 c11 f
  by_cases c13 : decide (a6 ≤ 64) = true
  rotate_left
  · have f : decide (a6 ≤ 64) = false := by simpa using c13
    have e : cfgB a0 a1 a2 a3 a4 a5 a6 = false := by simp [cfgB, inB, f]
    rw [e]
    exact refConfig13 a0 a1 a2 a3 a4 a5 a6 w c0 c1 c2 c3 c4 c5 c6 c7 c8 c9 c10 c11 c12 f
  have e : cfgB a0 a1 a2 a3 a4 a5 a6 = true := by simp only [cfgB, inB, c0, c1, c2, c3, c4, c5, c6, c7, c8, c9, c10, c11, c12, c13]; rfl
  rw [e]
  exact refConfig14 a0 a1 a2 a3 a4 a5 a6 w c0 c1 c2 c3 c4 c5 c6 c7 c8 c9 c10 c11 c12 c13
end Go.Proofs.YtcomelbphdjnnaaGreatDoor.Wc
