/-
  awake of reclaimlaw21 (made by mk_dmaw.py); num, fits.
-/
import Derived.Test.YtpckcfdjgpdooaaDmPlay
namespace Go.Proofs.Ytpckcfdjgpdooaa.Dm
open Go.RowKit Go.Shelf Mr Me Ma Gm Dq
set_option linter.unusedVariables false
set_option linter.unusedSimpArgs false
def awm : List Mv := [⟨0, 90, 5, 0⟩, ⟨0, 0, 0, 0⟩, ⟨0, 0, 0, 0⟩, ⟨0, 0, 0, 0⟩, ⟨0, 0, 0, 0⟩, ⟨0, 90, 6, 0⟩, ⟨0, 0, 0, 0⟩, ⟨0, 0, 0, 0⟩, ⟨0, 0, 0, 0⟩, ⟨0, 0, 0, 0⟩, ⟨1, 92, 0, 0⟩, ⟨1, 0, 0, 0⟩, ⟨1, 0, 0, 0⟩, ⟨1, 0, 0, 0⟩, ⟨1, 0, 0, 0⟩, ⟨0, 91, 0, 0⟩, ⟨0, 0, 0, 0⟩, ⟨0, 0, 0, 0⟩, ⟨0, 0, 0, 0⟩, ⟨0, 0, 0, 0⟩, ⟨0, 0, 0, 0⟩, ⟨0, 0, 0, 0⟩]
theorem aw_cls : (Pl 2 (P0 2 2) awm).cls = [⟨0, 90, 5, 0, 0, 4, 4, 1, 0⟩, ⟨0, 90, 6, 0, 5, 9, 9, 1, 0⟩, ⟨1, 92, 0, 0, 10, 14, 14, 2, 5⟩, ⟨0, 91, 0, 0, 15, 21, 17, 2, 6⟩] := by kernel_rfl
def awo : Obj := .cells #[.int .i64 0, .int .i64 90, .int .i64 5, .int .i64 0, .int .i64 0, .int .i64 0, .int .i64 0, .int .i64 0, .int .i64 0, .int .i64 0, .int .i64 0, .int .i64 0, .int .i64 0, .int .i64 0, .int .i64 0, .int .i64 0, .int .i64 0, .int .i64 0, .int .i64 0, .int .i64 0, .int .i64 0, .int .i64 90, .int .i64 6, .int .i64 0, .int .i64 0, .int .i64 0, .int .i64 0, .int .i64 0, .int .i64 0, .int .i64 0, .int .i64 0, .int .i64 0, .int .i64 0, .int .i64 0, .int .i64 0, .int .i64 0, .int .i64 0, .int .i64 0, .int .i64 0, .int .i64 0, .int .i64 1, .int .i64 92, .int .i64 0, .int .i64 0, .int .i64 1, .int .i64 0, .int .i64 0, .int .i64 0, .int .i64 1, .int .i64 0, .int .i64 0, .int .i64 0, .int .i64 1, .int .i64 0, .int .i64 0, .int .i64 0, .int .i64 1, .int .i64 0, .int .i64 0, .int .i64 0, .int .i64 0, .int .i64 91, .int .i64 0, .int .i64 0, .int .i64 0, .int .i64 0, .int .i64 0, .int .i64 0, .int .i64 0, .int .i64 0, .int .i64 0, .int .i64 0, .int .i64 0, .int .i64 0, .int .i64 0, .int .i64 0, .int .i64 0, .int .i64 0, .int .i64 0, .int .i64 0, .int .i64 0, .int .i64 0, .int .i64 0, .int .i64 0, .int .i64 0, .int .i64 0, .int .i64 0, .int .i64 0] 27 (0, 0)
theorem aw_at (w : World) : MvAt (w.alloc awo) (some ⟨w.heap.size, 0, none⟩) 22 awm := by
  refine ⟨rfl, .inr ⟨_, 0, rfl, by simp, fun j hj => ?_⟩⟩
  have hb : (w.alloc awo).heap[w.heap.size]? = some awo := heap_alloc_new w _
  generalize w.alloc awo = W at *
  have hj' : j = 0 ∨ j = 1 ∨ j = 2 ∨ j = 3 ∨ j = 4 ∨ j = 5 ∨ j = 6 ∨ j = 7 ∨ j = 8 ∨ j = 9 ∨ j = 10 ∨ j = 11 ∨ j = 12 ∨ j = 13 ∨ j = 14 ∨ j = 15 ∨ j = 16 ∨ j = 17 ∨ j = 18 ∨ j = 19 ∨ j = 20 ∨ j = 21 := by simp [awm] at hj; omega
  rcases hj' with rfl | rfl | rfl | rfl | rfl | rfl | rfl | rfl | rfl | rfl | rfl | rfl | rfl | rfl | rfl | rfl | rfl | rfl | rfl | rfl | rfl | rfl <;> exact ⟨cell_at hb _, cell_at hb _, cell_at hb _, cell_at hb _⟩
/-- The example, played. -/
theorem aw_play (w : World) : Calls Try.prog 18 #[.agg #[.int .i64 2, .int .i64 2], .slice (some ⟨w.heap.size, 0, none⟩) 22 22] (w.alloc awo) fun e w' => ∃ g1 c1 p2 n2 c2 p3 c3 p4 n4 c4, e = .returned (.tuple #[.agg #[.slice (some ⟨g1, 0, none⟩) 4 c1, .slice p2 n2 c2, .slice p3 0 c3, .slice p4 n4 c4], .int .i64 0]) ∧ g1 < w'.heap.size ∧ (w'.cell? ⟨g1, 25, none⟩ = some (.int .i64 2) ∧ w'.cell? ⟨g1, 26, none⟩ = some (.int .i64 5) ∧ w'.cell? ⟨g1, 33, none⟩ = some (.int .i64 17) ∧ w'.cell? ⟨g1, 34, none⟩ = some (.int .i64 2) ∧ w'.cell? ⟨g1, 35, none⟩ = some (.int .i64 6)) ∧ Below w.heap.size w w' := by
  refine (play_d (w.alloc awo) 2 2 (by decide) (by decide) (by decide) (by decide) _ _ 22 _ (aw_at w) (by decide)).mono ?_
  rintro e w' ⟨v1, v2, v3, v4, rfl, hv1, hv2, hv3, hv4, hB⟩
  rw [aw_cls] at hv1
  obtain ⟨g1, c1, rfl, _, l1, _⟩ := hv1.there (by decide)
  obtain ⟨p3, c3, rfl, _⟩ := hv3.form
  obtain ⟨p2, c2, rfl, _⟩ := hv2.form
  obtain ⟨p4, c4, rfl, _⟩ := hv4.form
  have k1 := hv1.cells (g := g1) rfl
  refine ⟨g1, c1, p2, _, c2, p3, c3, p4, _, c4, rfl, l1, ⟨k1 25 _ rfl, k1 26 _ rfl, k1 33 _ rfl, k1 34 _ rfl, k1 35 _ rfl⟩, ?_⟩
  simp only [World.size_alloc] at hB
  exact ((Below.refl w.heap.size w).alloc (Nat.le_refl _) _).trans (hB.mono (by omega))
theorem num_any (n : Int) (w : World) : Calls Try.prog 9 #[.int .i64 n] w fun e w' => e = .returned (.int .i64 n) ∧ w' = w := by
  go_enter Try.func9, Try.ntmps9
  go_wp2
  go_ret
  exact ⟨rfl, rfl⟩
set_option maxRecDepth 100000 in
set_option maxHeartbeats 2000000 in
theorem awake_any (w : World) : Calls Try.prog 7 #[] w fun e w' => e = .returned (.bool true) ∧ Below w.heap.size w w' := by
  have P := aw_play w
  unfold awo at P
  go_enter Try.func7, Try.ntmps7
  go_wp2_with (first | (go_at_call 9; refine (num_any _ _).mono ?_; rintro e wn ⟨rfl, rfl⟩) | (go_at_call 18; refine P.mono ?_; clear P; rintro e w1 ⟨g1, c1, p2, n2, c2, p3, c3, p4, n4, c4, rfl, l1, ⟨k0, k1, k2, k3, k4⟩, hB⟩; replace hB := Mr.hid hB))
  go_ret
  exact ⟨rfl, hB.out.alloc hB.out.size _⟩
end Go.Proofs.Ytpckcfdjgpdooaa.Dm
