/-
  awake of reclaimlaw03: the chapter's first example.
-/
import Derived.Test.YtiobchadjcekcaaMacPlay
namespace Go.Proofs.Ytiobchadjcekcaa.Ma
open Go.RowKit Go.Shelf Mr Me
def awm : List Mv := [⟨0, 2, 0, 0⟩, ⟨1, 2, 0, 0⟩, ⟨0, 0, 0, 0⟩, ⟨1, 0, 0, 0⟩, ⟨0, 0, 0, 0⟩, ⟨1, 0, 0, 0⟩, ⟨1, 0, 0, 0⟩, ⟨1, 0, 0, 0⟩]
theorem aw_cls : ((Pm.new 2 [5, 0]).play awm).cls = [⟨0, 2, 0, 0, 0, 4, 4, 2, 5⟩, ⟨1, 2, 0, 0, 1, 7, 7, 2, 6⟩] := by kernel_rfl
theorem aw_lg : ((Pm.new 2 [5, 0]).play awm).lg.length = 6 := by kernel_rfl
theorem aw_ws : ((Pm.new 2 [5, 0]).play awm).ws = [7, 0] := by kernel_rfl
theorem two_srcM (w : World) (x y : Int) : Src (w.alloc (.cells #[.int .u64 x, .int .u64 y] 27)) (some ⟨w.heap.size, 0, none⟩) 2 2 [x, y] := by
  refine ⟨rfl, .inr ⟨_, rfl, fun j u hu => ?_⟩⟩
  exact newsAt w _ #[.int .u64 x, .int .u64 y] 27 _ rfl rfl j u (by simpa [wrd] using hu)
def awo : Obj := .cells #[.int .i64 0, .int .i64 2, .int .i64 0, .int .i64 0, .int .i64 1, .int .i64 2, .int .i64 0, .int .i64 0, .int .i64 0, .int .i64 0, .int .i64 0, .int .i64 0, .int .i64 1, .int .i64 0, .int .i64 0, .int .i64 0, .int .i64 0, .int .i64 0, .int .i64 0, .int .i64 0, .int .i64 1, .int .i64 0, .int .i64 0, .int .i64 0, .int .i64 1, .int .i64 0, .int .i64 0, .int .i64 0, .int .i64 1, .int .i64 0, .int .i64 0, .int .i64 0] 34
theorem aw_at (w : World) : MvAt (w.alloc awo) (some ⟨w.heap.size, 0, none⟩) 8 awm := by
  refine ⟨rfl, .inr ⟨_, 0, rfl, by simp, fun j hj => ?_⟩⟩
  have hb : (w.alloc awo).heap[w.heap.size]? = some awo := heap_alloc_new w _
  generalize w.alloc awo = W at *
  have hj' : j = 0 ∨ j = 1 ∨ j = 2 ∨ j = 3 ∨ j = 4 ∨ j = 5 ∨ j = 6 ∨ j = 7 := by simp [awm] at hj; omega
  rcases hj' with rfl | rfl | rfl | rfl | rfl | rfl | rfl | rfl <;> simp [World.cell?, hb, awo, awm]
/-- The example, played. -/
theorem aw_play (w : World) : Calls Try.prog 15 #[.int .i64 2, .slice (some ⟨w.heap.size + 1, 0, none⟩) 2 2, .slice (some ⟨w.heap.size, 0, none⟩) 8 8] ((w.alloc awo).alloc (.cells #[.int .u64 5, .int .u64 0] 27)) fun e w' => ∃ g1 c1 g2 c2 g4 c4, e = .returned (.tuple #[.agg #[.slice (some ⟨g1, 0, none⟩) 2 c1, .slice (some ⟨g2, 0, none⟩) 6 c2, .slice none 0 0, .slice (some ⟨g4, 0, none⟩) 2 c4], .int .i64 0]) ∧ g1 < w'.heap.size ∧ g4 < w'.heap.size ∧ w'.cell? ⟨g4, 0, none⟩ = some (.int .u64 7) ∧ (w'.cell? ⟨g1, 9, none⟩ = some (.int .i64 1) ∧ w'.cell? ⟨g1, 10, none⟩ = some (.int .i64 2) ∧ w'.cell? ⟨g1, 11, none⟩ = some (.int .i64 0) ∧ w'.cell? ⟨g1, 12, none⟩ = some (.int .i64 0) ∧ w'.cell? ⟨g1, 13, none⟩ = some (.int .i64 1) ∧ w'.cell? ⟨g1, 14, none⟩ = some (.int .i64 7) ∧ w'.cell? ⟨g1, 15, none⟩ = some (.int .i64 7) ∧ w'.cell? ⟨g1, 16, none⟩ = some (.int .i64 2) ∧ w'.cell? ⟨g1, 17, none⟩ = some (.int .i64 6)) ∧ Below w.heap.size w w' := by
  have h1 := two_srcM (w.alloc awo) 5 0
  have h2 := (aw_at w).below ((Below.refl (w.alloc awo).heap.size (w.alloc awo)).alloc (Nat.le_refl _) (.cells #[.int .u64 5, .int .u64 0] 27))
  rw [show (w.alloc awo).heap.size = w.heap.size + 1 from by simp] at h1
  refine (play_ok _ 2 (by decide) (by decide) _ _ _ _ h1 (by decide) _ _ 8 _ h2 (by decide)).mono ?_
  rintro e w' ⟨v1, v2, v4, rfl, hv1, hv2, hv4, hB⟩
  rw [aw_cls] at hv1
  rw [aw_lg] at hv2
  rw [aw_ws] at hv4
  obtain ⟨g1, c1, rfl, _, l1, _⟩ := hv1.there (by decide)
  obtain ⟨g2, c2, rfl, _, l2, _⟩ := hv2.there (by decide)
  obtain ⟨g4, c4, rfl, _, l4, _⟩ := hv4.there (by decide)
  have k1 := hv1.cells (g := g1) rfl
  have k4 := hv4.cells (g := g4) rfl
  refine ⟨g1, c1, g2, c2, g4, c4, rfl, l1, l4, k4 0 _ rfl, ⟨k1 9 _ rfl, k1 10 _ rfl, k1 11 _ rfl, k1 12 _ rfl, k1 13 _ rfl, k1 14 _ rfl, k1 15 _ rfl, k1 16 _ rfl, k1 17 _ rfl⟩, ?_⟩
  simp only [World.size_alloc] at hB
  exact (((Below.refl w.heap.size w).alloc (Nat.le_refl _) _).alloc (by simp) _).trans (hB.mono (by omega))
set_option maxRecDepth 100000 in
set_option maxHeartbeats 1000000 in
theorem awake_any (w : World) : Calls Try.prog 28 #[] w fun e w' => e = .returned (.bool true) ∧ Below w.heap.size w w' := by
  have P := aw_play w
  unfold awo at P
  go_enter Try.func28, Try.ntmps28
  go_wp2_with (go_at_call 15; refine P.mono ?_; clear P; rintro e w1 ⟨g1, c1, g2, c2, g4, c4, rfl, l1, l4, k, ⟨k0, k1, k2, k3, k4, k5, k6, k7, k8⟩, hB⟩)
  go_ret
  exact ⟨rfl, hB.alloc hB.size _⟩
end Go.Proofs.Ytiobchadjcekcaa.Ma
