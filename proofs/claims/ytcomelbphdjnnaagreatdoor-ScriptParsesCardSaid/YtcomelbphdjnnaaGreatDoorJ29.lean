import Derived.Test.YtcomelbphdjnnaaGreatDoorJ12
namespace Go.Proofs.YtcomelbphdjnnaaGreatDoor.Wc
open Go.RowKit
set_option linter.unusedVariables false
set_option maxHeartbeats 1000000 in
theorem refConfig6 (a0 a1 a2 a3 a4 a5 a6 : Int) (w : World) (c0 : decide (1 ≤ a0) = true) (c1 : decide (a0 ≤ 16) = true) (c2 : decide (1 ≤ a1) = true) (c3 : decide (a1 ≤ 16) = true) (c4 : decide (3 ≤ a2) = true) (c5 : decide (a2 ≤ 8) = true) (c6 : decide (1 ≤ a3) = false) :
    Calls Tryz.prog 15 #[.agg #[.int .i64 a0, .int .i64 a1, .int .i64 a2, .int .i64 a3, .int .i64 a4, .int .i64 a5, .int .i64 a6]] w fun e w' =>
      e = .returned (.bool false) ∧ Below w.heap.size w w' := by
  go_enter Tryz.func15, Tryz.ntmps15
  go_wp2
  go_ret
  exact ⟨rfl, (Below.refl _ _).alloc (Nat.le_refl _) _⟩
set_option maxHeartbeats 1000000 in
theorem refConfig7 (a0 a1 a2 a3 a4 a5 a6 : Int) (w : World) (c0 : decide (1 ≤ a0) = true) (c1 : decide (a0 ≤ 16) = true) (c2 : decide (1 ≤ a1) = true) (c3 : decide (a1 ≤ 16) = true) (c4 : decide (3 ≤ a2) = true) (c5 : decide (a2 ≤ 8) = true) (c6 : decide (1 ≤ a3) = true) (c7 : decide (a3 ≤ 1024) = false) :
    Calls Tryz.prog 15 #[.agg #[.int .i64 a0, .int .i64 a1, .int .i64 a2, .int .i64 a3, .int .i64 a4, .int .i64 a5, .int .i64 a6]] w fun e w' =>
      e = .returned (.bool false) ∧ Below w.heap.size w w' := by
  go_enter Tryz.func15, Tryz.ntmps15
  go_wp2
  go_ret
  exact ⟨rfl, (Below.refl _ _).alloc (Nat.le_refl _) _⟩
set_option maxHeartbeats 1000000 in
theorem refConfig8 (a0 a1 a2 a3 a4 a5 a6 : Int) (w : World) (c0 : decide (1 ≤ a0) = true) (c1 : decide (a0 ≤ 16) = true) (c2 : decide (1 ≤ a1) = true) (c3 : decide (a1 ≤ 16) = true) (c4 : decide (3 ≤ a2) = true) (c5 : decide (a2 ≤ 8) = true) (c6 : decide (1 ≤ a3) = true) (c7 : decide (a3 ≤ 1024) = true) (c8 : decide (0 ≤ a4) = false) :
    Calls Tryz.prog 15 #[.agg #[.int .i64 a0, .int .i64 a1, .int .i64 a2, .int .i64 a3, .int .i64 a4, .int .i64 a5, .int .i64 a6]] w fun e w' =>
      e = .returned (.bool false) ∧ Below w.heap.size w w' := by
  go_enter Tryz.func15, Tryz.ntmps15
  go_wp2
  go_ret
  exact ⟨rfl, (Below.refl _ _).alloc (Nat.le_refl _) _⟩
set_option maxHeartbeats 1000000 in
theorem refConfig9 (a0 a1 a2 a3 a4 a5 a6 : Int) (w : World) (c0 : decide (1 ≤ a0) = true) (c1 : decide (a0 ≤ 16) = true) (c2 : decide (1 ≤ a1) = true) (c3 : decide (a1 ≤ 16) = true) (c4 : decide (3 ≤ a2) = true) (c5 : decide (a2 ≤ 8) = true) (c6 : decide (1 ≤ a3) = true) (c7 : decide (a3 ≤ 1024) = true) (c8 : decide (0 ≤ a4) = true) (c9 : decide (a4 ≤ 64) = false) :
    Calls Tryz.prog 15 #[.agg #[.int .i64 a0, .int .i64 a1, .int .i64 a2, .int .i64 a3, .int .i64 a4, .int .i64 a5, .int .i64 a6]] w fun e w' =>
      e = .returned (.bool false) ∧ Below w.heap.size w w' := by
  go_enter Tryz.func15, Tryz.ntmps15
  go_wp2
  go_ret
  exact ⟨rfl, (Below.refl _ _).alloc (Nat.le_refl _) _⟩
end Go.Proofs.YtcomelbphdjnnaaGreatDoor.Wc
namespace Go.Proofs.YtcomelbphdjnnaaGreatDoor.Wc
open Go.RowKit
set_option linter.unusedVariables false
set_option maxHeartbeats 1000000 in
theorem refConfig10 (a0 a1 a2 a3 a4 a5 a6 : Int) (w : World) (c0 : decide (1 ≤ a0) = true) (c1 : decide (a0 ≤ 16) = true) (c2 : decide (1 ≤ a1) = true) (c3 : decide (a1 ≤ 16) = true) (c4 : decide (3 ≤ a2) = true) (c5 : decide (a2 ≤ 8) = true) (c6 : decide (1 ≤ a3) = true) (c7 : decide (a3 ≤ 1024) = true) (c8 : decide (0 ≤ a4) = true) (c9 : decide (a4 ≤ 64) = true) (c10 : decide (1 ≤ a5) = false) :
    Calls Tryz.prog 15 #[.agg #[.int .i64 a0, .int .i64 a1, .int .i64 a2, .int .i64 a3, .int .i64 a4, .int .i64 a5, .int .i64 a6]] w fun e w' =>
      e = .returned (.bool false) ∧ Below w.heap.size w w' := by
  go_enter Tryz.func15, Tryz.ntmps15
  go_wp2
  go_ret
  exact ⟨rfl, (Below.refl _ _).alloc (Nat.le_refl _) _⟩
set_option maxHeartbeats 1000000 in
theorem refConfig11 (a0 a1 a2 a3 a4 a5 a6 : Int) (w : World) (c0 : decide (1 ≤ a0) = true) (c1 : decide (a0 ≤ 16) = true) (c2 : decide (1 ≤ a1) = true) (c3 : decide (a1 ≤ 16) = true) (c4 : decide (3 ≤ a2) = true) (c5 : decide (a2 ≤ 8) = true) (c6 : decide (1 ≤ a3) = true) (c7 : decide (a3 ≤ 1024) = true) (c8 : decide (0 ≤ a4) = true) (c9 : decide (a4 ≤ 64) = true) (c10 : decide (1 ≤ a5) = true) (c11 : decide (a5 ≤ 1024) = false) :
    Calls Tryz.prog 15 #[.agg #[.int .i64 a0, .int .i64 a1, .int .i64 a2, .int .i64 a3, .int .i64 a4, .int .i64 a5, .int .i64 a6]] w fun e w' =>
      e = .returned (.bool false) ∧ Below w.heap.size w w' := by
  go_enter Tryz.func15, Tryz.ntmps15
  go_wp2
  go_ret
  exact ⟨rfl, (Below.refl _ _).alloc (Nat.le_refl _) _⟩
set_option maxHeartbeats 1000000 in
theorem refConfig12 (a0 a1 a2 a3 a4 a5 a6 : Int) (w : World) (c0 : decide (1 ≤ a0) = true) (c1 : decide (a0 ≤ 16) = true) (c2 : decide (1 ≤ a1) = true) (c3 : decide (a1 ≤ 16) = true) (c4 : decide (3 ≤ a2) = true) (c5 : decide (a2 ≤ 8) = true) (c6 : decide (1 ≤ a3) = true) (c7 : decide (a3 ≤ 1024) = true) (c8 : decide (0 ≤ a4) = true) (c9 : decide (a4 ≤ 64) = true) (c10 : decide (1 ≤ a5) = true) (c11 : decide (a5 ≤ 1024) = true) (c12 : decide (1 ≤ a6) = false) :
    Calls Tryz.prog 15 #[.agg #[.int .i64 a0, .int .i64 a1, .int .i64 a2, .int .i64 a3, .int .i64 a4, .int .i64 a5, .int .i64 a6]] w fun e w' =>
      e = .returned (.bool false) ∧ Below w.heap.size w w' := by
  go_enter Tryz.func15, Tryz.ntmps15
  go_wp2
  go_ret
  exact ⟨rfl, (Below.refl _ _).alloc (Nat.le_refl _) _⟩
end Go.Proofs.YtcomelbphdjnnaaGreatDoor.Wc
