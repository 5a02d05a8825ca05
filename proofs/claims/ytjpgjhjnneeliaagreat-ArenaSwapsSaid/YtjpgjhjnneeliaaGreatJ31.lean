import Derived.Test.YtjpgjhjnneeliaaGreatJ30
import Derived.Test.YtjpgjhjnneeliaaGreatJ09
/-
  awake of reclaimlaw04: a slot is taken in three steps, and given back in three.
-/
namespace Go.Proofs.YtjpgjhjnneeliaaGreat.Ar
open Go.RowKit Go.Shelf Mr Me Ma Wc Wm Wr
def awc : Cf := ⟨1, 1, 3, 1, 0, 2, 1⟩
def awm : List Mv := [⟨0, 10, 0, 0⟩, ⟨0, 0, 0, 0⟩, ⟨0, 0, 0, 0⟩, ⟨0, 0, 0, 0⟩, ⟨0, 11, 0, 0⟩, ⟨0, 0, 0, 0⟩, ⟨0, 0, 0, 0⟩, ⟨0, 0, 0, 0⟩]
theorem aw_cls : ((Pa.first awc 2 1 19 11 0).play awm).cls = [⟨0, 10, 0, 0, 0, 3, -1, 2, 0⟩, ⟨0, 11, 0, 0, 4, 7, -1, 1, 0⟩] := by kernel_rfl
theorem aw_lg : ((Pa.first awc 2 1 19 11 0).play awm).lg.length = 6 := by kernel_rfl
theorem aw_shs : ((Pa.first awc 2 1 19 11 0).play awm).shs.length = 2 := by kernel_rfl
theorem aw_ws : ((Pa.first awc 2 1 19 11 0).play awm).ws.length = 19 := by kernel_rfl
def awo : Obj := .cells #[.int .i64 0, .int .i64 10, .int .i64 0, .int .i64 0, .int .i64 0, .int .i64 0, .int .i64 0, .int .i64 0, .int .i64 0, .int .i64 0, .int .i64 0, .int .i64 0, .int .i64 0, .int .i64 0, .int .i64 0, .int .i64 0, .int .i64 0, .int .i64 11, .int .i64 0, .int .i64 0, .int .i64 0, .int .i64 0, .int .i64 0, .int .i64 0, .int .i64 0, .int .i64 0, .int .i64 0, .int .i64 0, .int .i64 0, .int .i64 0, .int .i64 0, .int .i64 0] 57
theorem aw_at (w : World) : MvAt (w.alloc awo) (some ⟨w.heap.size, 0, none⟩) 8 awm := by
  refine ⟨rfl, .inr ⟨_, 0, rfl, by simp, fun j hj => ?_⟩⟩
  have hb : (w.alloc awo).heap[w.heap.size]? = some awo := heap_alloc_new w _
  generalize w.alloc awo = W at *
  have hj' : j = 0 ∨ j = 1 ∨ j = 2 ∨ j = 3 ∨ j = 4 ∨ j = 5 ∨ j = 6 ∨ j = 7 := by simp [awm] at hj; omega
  rcases hj' with rfl | rfl | rfl | rfl | rfl | rfl | rfl | rfl <;> simp [World.cell?, hb, awo, awm]
/-- The example, played. -/
theorem aw_play (w : World) : Calls Tryz.prog 11 #[.agg #[.int .i64 1, .int .i64 1, .int .i64 3, .int .i64 1, .int .i64 0, .int .i64 2, .int .i64 1], .slice (some ⟨w.heap.size, 0, none⟩) 8 8] (w.alloc awo) fun e w' => ∃ g1 c1 p2 n2 c2 g3 c3 p4 n4 c4, e = .returned (.tuple #[.agg #[.slice (some ⟨g1, 0, none⟩) 2 c1, .slice p2 n2 c2, .slice (some ⟨g3, 0, none⟩) 2 c3, .slice p4 n4 c4], .int .i64 0]) ∧ g1 < w'.heap.size ∧ ((w'.cell? ⟨g1, 0, none⟩ = some (.int .i64 0) ∧ w'.cell? ⟨g1, 1, none⟩ = some (.int .i64 10) ∧ w'.cell? ⟨g1, 2, none⟩ = some (.int .i64 0) ∧ w'.cell? ⟨g1, 3, none⟩ = some (.int .i64 0) ∧ w'.cell? ⟨g1, 4, none⟩ = some (.int .i64 0) ∧ w'.cell? ⟨g1, 5, none⟩ = some (.int .i64 3) ∧ w'.cell? ⟨g1, 6, none⟩ = some (.int .i64 (-1)) ∧ w'.cell? ⟨g1, 7, none⟩ = some (.int .i64 2) ∧ w'.cell? ⟨g1, 8, none⟩ = some (.int .i64 0)) ∧ w'.cell? ⟨g1, 14, none⟩ = some (.int .i64 7)) ∧ Below w.heap.size w w' := by
  refine (play_ok _ awc rfl 2 1 19 11 0 rfl rfl rfl rfl rfl (by decide) _ _ 8 _ (aw_at w) (by decide)).mono ?_
  rintro e w' ⟨v1, v2, v3, v4, rfl, hv1, hv2, hv3, hv4, hB⟩
  rw [aw_cls] at hv1
  rw [aw_shs] at hv3
  obtain ⟨g1, c1, rfl, _, l1, _⟩ := hv1.there (by decide)
  obtain ⟨g3, c3, rfl, _, l3, _⟩ := hv3.there (by decide)
  obtain ⟨p2, c2, rfl, _⟩ := hv2.form
  obtain ⟨p4, c4, rfl, _⟩ := hv4.form
  have k1 := hv1.cells (g := g1) rfl
  refine ⟨g1, c1, p2, _, c2, g3, c3, p4, _, c4, rfl, l1, ⟨⟨k1 0 _ rfl, k1 1 _ rfl, k1 2 _ rfl, k1 3 _ rfl, k1 4 _ rfl, k1 5 _ rfl, k1 6 _ rfl, k1 7 _ rfl, k1 8 _ rfl⟩, k1 14 _ rfl⟩, ?_⟩
  simp only [World.size_alloc] at hB
  exact ((Below.refl w.heap.size w).alloc (Nat.le_refl _) _).trans (hB.mono (by omega))
theorem num_any (n : Int) (w : World) : Calls Tryz.prog 12 #[.int .i64 n] w fun e w' => e = .returned (.int .i64 n) ∧ w' = w := by
  go_enter Tryz.func12, Tryz.ntmps12
  go_wp2
  go_ret
  exact ⟨rfl, rfl⟩
set_option maxRecDepth 100000 in
set_option maxHeartbeats 1000000 in
theorem awake_any (w : World) : Calls Tryz.prog 10 #[] w fun e w' => e = .returned (.bool true) ∧ Below w.heap.size w w' := by
  have P := aw_play ((w.alloc (.cells #[.int .i64 1, .int .i64 1, .int .i64 3, .int .i64 1, .int .i64 0, .int .i64 2, .int .i64 1] 23)).alloc (.cells #[.int .i64 0, .int .i64 0, .int .i64 0, .int .i64 0] 57))
  unfold awo at P
  simp only [World.size_alloc] at P
  have hB0 : Below w.heap.size w ((w.alloc (.cells #[.int .i64 1, .int .i64 1, .int .i64 3, .int .i64 1, .int .i64 0, .int .i64 2, .int .i64 1] 23)).alloc (.cells #[.int .i64 0, .int .i64 0, .int .i64 0, .int .i64 0] 57)) := ((Below.refl w.heap.size w).alloc (Nat.le_refl _) _).alloc (by simp) _
  go_enter Tryz.func10, Tryz.ntmps10
  go_wp2_with (first | (go_at_call 12; refine (num_any _ _).mono ?_; rintro e wn ⟨rfl, rfl⟩) | (go_at_call 11; refine P.mono ?_; clear P; rintro e w1 ⟨g1, c1, p2, n2, c2, g3, c3, p4, n4, c4, rfl, l1, ⟨⟨k0, k1, k2, k3, k4, k5, k6, k7, k8⟩, k14⟩, hB⟩; replace hB := hB0.trans (hB.mono (by omega)); clear hB0))
  go_ret
  exact ⟨rfl, hB.alloc hB.size _⟩
end Go.Proofs.YtjpgjhjnneeliaaGreat.Ar
namespace Go.Proofs.YtjpgjhjnneeliaaGreat.Wc
open Go.RowKit
set_option linter.unusedVariables false
set_option maxHeartbeats 1000000 in
theorem refConfig0 (a0 a1 a2 a3 a4 a5 a6 : Int) (w : World) (c0 : decide (1 ≤ a0) = false) :
    Calls Tryz.prog 9 #[.agg #[.int .i64 a0, .int .i64 a1, .int .i64 a2, .int .i64 a3, .int .i64 a4, .int .i64 a5, .int .i64 a6]] w fun e w' =>
      e = .returned (.bool false) ∧ Below w.heap.size w w' := by
  go_enter Tryz.func9, Tryz.ntmps9
  go_wp2
  go_ret
  exact ⟨rfl, (Below.refl _ _).alloc (Nat.le_refl _) _⟩
set_option maxHeartbeats 1000000 in
theorem refConfig1 (a0 a1 a2 a3 a4 a5 a6 : Int) (w : World) (c0 : decide (1 ≤ a0) = true) (c1 : decide (a0 ≤ 16) = false) :
    Calls Tryz.prog 9 #[.agg #[.int .i64 a0, .int .i64 a1, .int .i64 a2, .int .i64 a3, .int .i64 a4, .int .i64 a5, .int .i64 a6]] w fun e w' =>
      e = .returned (.bool false) ∧ Below w.heap.size w w' := by
  go_enter Tryz.func9, Tryz.ntmps9
  go_wp2
  go_ret
  exact ⟨rfl, (Below.refl _ _).alloc (Nat.le_refl _) _⟩
set_option maxHeartbeats 1000000 in
theorem refConfig2 (a0 a1 a2 a3 a4 a5 a6 : Int) (w : World) (c0 : decide (1 ≤ a0) = true) (c1 : decide (a0 ≤ 16) = true) (c2 : decide (1 ≤ a1) = false) :
    Calls Tryz.prog 9 #[.agg #[.int .i64 a0, .int .i64 a1, .int .i64 a2, .int .i64 a3, .int .i64 a4, .int .i64 a5, .int .i64 a6]] w fun e w' =>
      e = .returned (.bool false) ∧ Below w.heap.size w w' := by
  go_enter Tryz.func9, Tryz.ntmps9
  go_wp2
  go_ret
  exact ⟨rfl, (Below.refl _ _).alloc (Nat.le_refl _) _⟩
set_option maxHeartbeats 1000000 in
theorem refConfig3 (a0 a1 a2 a3 a4 a5 a6 : Int) (w : World) (c0 : decide (1 ≤ a0) = true) (c1 : decide (a0 ≤ 16) = true) (c2 : decide (1 ≤ a1) = true) (c3 : decide (a1 ≤ 16) = false) :
    Calls Tryz.prog 9 #[.agg #[.int .i64 a0, .int .i64 a1, .int .i64 a2, .int .i64 a3, .int .i64 a4, .int .i64 a5, .int .i64 a6]] w fun e w' =>
      e = .returned (.bool false) ∧ Below w.heap.size w w' := by
  go_enter Tryz.func9, Tryz.ntmps9
  go_wp2
  go_ret
  exact ⟨rfl, (Below.refl _ _).alloc (Nat.le_refl _) _⟩
set_option maxHeartbeats 1000000 in
theorem refConfig4 (a0 a1 a2 a3 a4 a5 a6 : Int) (w : World) (c0 : decide (1 ≤ a0) = true) (c1 : decide (a0 ≤ 16) = true) (c2 : decide (1 ≤ a1) = true) (c3 : decide (a1 ≤ 16) = true) (c4 : decide (3 ≤ a2) = false) :
    Calls Tryz.prog 9 #[.agg #[.int .i64 a0, .int .i64 a1, .int .i64 a2, .int .i64 a3, .int .i64 a4, .int .i64 a5, .int .i64 a6]] w fun e w' =>
      e = .returned (.bool false) ∧ Below w.heap.size w w' := by
  go_enter Tryz.func9, Tryz.ntmps9
  go_wp2
  go_ret
  exact ⟨rfl, (Below.refl _ _).alloc (Nat.le_refl _) _⟩
set_option maxHeartbeats 1000000 in
theorem refConfig5 (a0 a1 a2 a3 a4 a5 a6 : Int) (w : World) (c0 : decide (1 ≤ a0) = true) (c1 : decide (a0 ≤ 16) = true) (c2 : decide (1 ≤ a1) = true) (c3 : decide (a1 ≤ 16) = true) (c4 : decide (3 ≤ a2) = true) (c5 : decide (a2 ≤ 8) = false) :
    Calls Tryz.prog 9 #[.agg #[.int .i64 a0, .int .i64 a1, .int .i64 a2, .int .i64 a3, .int .i64 a4, .int .i64 a5, .int .i64 a6]] w fun e w' =>
      e = .returned (.bool false) ∧ Below w.heap.size w w' := by
  go_enter Tryz.func9, Tryz.ntmps9
  go_wp2
  go_ret
  exact ⟨rfl, (Below.refl _ _).alloc (Nat.le_refl _) _⟩
end Go.Proofs.YtjpgjhjnneeliaaGreat.Wc
namespace Go.Proofs.YtjpgjhjnneeliaaGreat.Wc
open Go.RowKit
set_option linter.unusedVariables false
set_option maxHeartbeats 1000000 in
theorem refConfig6 (a0 a1 a2 a3 a4 a5 a6 : Int) (w : World) (c0 : decide (1 ≤ a0) = true) (c1 : decide (a0 ≤ 16) = true) (c2 : decide (1 ≤ a1) = true) (c3 : decide (a1 ≤ 16) = true) (c4 : decide (3 ≤ a2) = true) (c5 : decide (a2 ≤ 8) = true) (c6 : decide (1 ≤ a3) = false) :
    Calls Tryz.prog 9 #[.agg #[.int .i64 a0, .int .i64 a1, .int .i64 a2, .int .i64 a3, .int .i64 a4, .int .i64 a5, .int .i64 a6]] w fun e w' =>
      e = .returned (.bool false) ∧ Below w.heap.size w w' := by
  go_enter Tryz.func9, Tryz.ntmps9
  go_wp2
  go_ret
  exact ⟨rfl, (Below.refl _ _).alloc (Nat.le_refl _) _⟩
set_option maxHeartbeats 1000000 in
theorem refConfig7 (a0 a1 a2 a3 a4 a5 a6 : Int) (w : World) (c0 : decide (1 ≤ a0) = true) (c1 : decide (a0 ≤ 16) = true) (c2 : decide (1 ≤ a1) = true) (c3 : decide (a1 ≤ 16) = true) (c4 : decide (3 ≤ a2) = true) (c5 : decide (a2 ≤ 8) = true) (c6 : decide (1 ≤ a3) = true) (c7 : decide (a3 ≤ 1024) = false) :
    Calls Tryz.prog 9 #[.agg #[.int .i64 a0, .int .i64 a1, .int .i64 a2, .int .i64 a3, .int .i64 a4, .int .i64 a5, .int .i64 a6]] w fun e w' =>
      e = .returned (.bool false) ∧ Below w.heap.size w w' := by
  go_enter Tryz.func9, Tryz.ntmps9
  go_wp2
  go_ret
  exact ⟨rfl, (Below.refl _ _).alloc (Nat.le_refl _) _⟩
set_option maxHeartbeats 1000000 in
theorem refConfig8 (a0 a1 a2 a3 a4 a5 a6 : Int) (w : World) (c0 : decide (1 ≤ a0) = true) (c1 : decide (a0 ≤ 16) = true) (c2 : decide (1 ≤ a1) = true) (c3 : decide (a1 ≤ 16) = true) (c4 : decide (3 ≤ a2) = true) (c5 : decide (a2 ≤ 8) = true) (c6 : decide (1 ≤ a3) = true) (c7 : decide (a3 ≤ 1024) = true) (c8 : decide (0 ≤ a4) = false) :
    Calls Tryz.prog 9 #[.agg #[.int .i64 a0, .int .i64 a1, .int .i64 a2, .int .i64 a3, .int .i64 a4, .int .i64 a5, .int .i64 a6]] w fun e w' =>
      e = .returned (.bool false) ∧ Below w.heap.size w w' := by
  go_enter Tryz.func9, Tryz.ntmps9
  go_wp2
  go_ret
  exact ⟨rfl, (Below.refl _ _).alloc (Nat.le_refl _) _⟩
set_option maxHeartbeats 1000000 in
theorem refConfig9 (a0 a1 a2 a3 a4 a5 a6 : Int) (w : World) (c0 : decide (1 ≤ a0) = true) (c1 : decide (a0 ≤ 16) = true) (c2 : decide (1 ≤ a1) = true) (c3 : decide (a1 ≤ 16) = true) (c4 : decide (3 ≤ a2) = true) (c5 : decide (a2 ≤ 8) = true) (c6 : decide (1 ≤ a3) = true) (c7 : decide (a3 ≤ 1024) = true) (c8 : decide (0 ≤ a4) = true) (c9 : decide (a4 ≤ 64) = false) :
    Calls Tryz.prog 9 #[.agg #[.int .i64 a0, .int .i64 a1, .int .i64 a2, .int .i64 a3, .int .i64 a4, .int .i64 a5, .int .i64 a6]] w fun e w' =>
      e = .returned (.bool false) ∧ Below w.heap.size w w' := by
  go_enter Tryz.func9, Tryz.ntmps9
  go_wp2
  go_ret
  exact ⟨rfl, (Below.refl _ _).alloc (Nat.le_refl _) _⟩
end Go.Proofs.YtjpgjhjnneeliaaGreat.Wc
