/-
  DEQUE: known, untimely.
-/
import Derived.Test.YtaojggnflblgnaaHdP
namespace Go.Proofs.Ytaojggnflblgnaa.Hd
open Go.RowKit Mr Md
set_option linter.unusedVariables false
set_option linter.unusedSimpArgs false
set_option maxRecDepth 100000
theorem b2b {w : World} (x y : Obj) : Below w.heap.size w ((w.alloc x).alloc y) := ((Below.refl _ _).alloc (Nat.le_refl _) _).alloc (by simp) _
theorem b1b {w : World} (x : Obj) : Below w.heap.size w (w.alloc x) := (Below.refl _ _).alloc (Nat.le_refl _) _
set_option maxHeartbeats 4000000 in
theorem known_any (th rm : Int) (c : Cq) (w : World) : Calls Try.prog 20 #[Dq.dV th rm, c.val] w fun e w' => e = .returned (.bool (kn th c)) ∧ Below w.heap.size w w' := by
  obtain ⟨a0, a1, a2, a3, a4, a5, a6, a7, a8⟩ := c
  unfold Cq.val Dq.dV
  simp only
  by_cases h0 : a1 = 90
  · have h0b : (a1 == 90) = true := by simp [h0]
    have hk : kn th ⟨a0, a1, a2, a3, a4, a5, a6, a7, a8⟩ = (a0 == 0) := by simp [kn, h0]; rfl
    rw [hk]
    clear hk h0
    go_enter Try.func20, Try.ntmps20
    go_wp2
    go_ret
    exact ⟨rfl, b2b _ _⟩
  · have h0b : (a1 == 90) = false := by simp [h0]
    by_cases h1 : a1 = 91
    · have h1b : (a1 == 91) = true := by simp [h1]
      have hk : kn th ⟨a0, a1, a2, a3, a4, a5, a6, a7, a8⟩ = (a0 == 0) := by simp [kn, h1]; rfl
      rw [hk]
      clear hk h1 h0
      go_enter Try.func20, Try.ntmps20
      go_wp2
      go_ret
      exact ⟨rfl, b2b _ _⟩
    · have h1b : (a1 == 91) = false := by simp [h1]
      by_cases h2 : a1 = 92
      · have h2b : (a1 == 92) = true := by simp [h2]
        by_cases h3 : 0 ≤ a0
        · have h3b : decide (0 ≤ a0) = true := by simp [h3]
          have hk : kn th ⟨a0, a1, a2, a3, a4, a5, a6, a7, a8⟩ = decide (a0 < th) := by simp [kn, h2, h3]
          rw [hk]
          clear hk h1 h0 h2
          go_enter Try.func20, Try.ntmps20
          go_wp2
          go_ret
          exact ⟨rfl, b2b _ _⟩
        · have h3b : decide (0 ≤ a0) = false := by simp [h3]
          have hk : kn th ⟨a0, a1, a2, a3, a4, a5, a6, a7, a8⟩ = false := by simp [kn, h2, h3]
          rw [hk]
          clear hk h1 h0 h2
          go_enter Try.func20, Try.ntmps20
          go_wp2
          go_ret
          exact ⟨rfl, b2b _ _⟩
      · have h2b : (a1 == 92) = false := by simp [h2]
        have hk : kn th ⟨a0, a1, a2, a3, a4, a5, a6, a7, a8⟩ = false := by simp [kn, h0, h1, h2]
        rw [hk]
        clear hk h1 h0 h2
        go_enter Try.func20, Try.ntmps20
        go_wp2
        go_ret
        exact ⟨rfl, b2b _ _⟩
set_option maxHeartbeats 4000000 in
theorem untimely_any (c : Cq) (w : World) : Calls Try.prog 13 #[c.val] w fun e w' => e = .returned (.bool (unt c)) ∧ Below w.heap.size w w' := by
  obtain ⟨a0, a1, a2, a3, a4, a5, a6, a7, a8⟩ := c
  unfold Cq.val
  simp only
  by_cases h0 : a6 ≤ a4
  · have h0b : decide (a6 ≤ a4) = true := by simp [h0]
    have hk : unt ⟨a0, a1, a2, a3, a4, a5, a6, a7, a8⟩ = true := by simp [unt, h0]
    rw [hk]
    clear hk
    go_enter Try.func13, Try.ntmps13
    go_wp2
    go_ret
    exact ⟨rfl, b1b _⟩
  · have h0b : decide (a6 ≤ a4) = false := by simp [h0]
    by_cases h1 : a5 = -1
    · have h1b : (a5 != -1) = false := by simp [h1]
      have hk : unt ⟨a0, a1, a2, a3, a4, a5, a6, a7, a8⟩ = false := by simp [unt, h0, h1]
      rw [hk]
      clear hk
      go_enter Try.func13, Try.ntmps13
      go_wp2
      go_ret
      exact ⟨rfl, b1b _⟩
    · have h1b : (a5 != -1) = true := by simp [h1]
      have hk : unt ⟨a0, a1, a2, a3, a4, a5, a6, a7, a8⟩ = decide (a5 < a6) := by simp [unt, h0, h1]
      rw [hk]
      clear hk
      go_enter Try.func13, Try.ntmps13
      go_wp2
      go_ret
      exact ⟨rfl, b1b _⟩
end Go.Proofs.Ytaojggnflblgnaa.Hd
