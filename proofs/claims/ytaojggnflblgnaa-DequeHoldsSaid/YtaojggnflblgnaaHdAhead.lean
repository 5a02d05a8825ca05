/-
  DEQUE: the document's byPoint.
-/
import Derived.Test.YtaojggnflblgnaaHdIns
import Derived.Deep.RegionHeld3
namespace Go.Proofs.Ytaojggnflblgnaa.Hd
open Go.RowKit Mr Md
set_option linter.unusedVariables false
set_option linter.unusedSimpArgs false
set_option maxRecDepth 100000
set_option maxHeartbeats 4000000 in
theorem ahead_any (a b : Cq) (w : World) : Calls Try.prog 27 #[a.val, b.val] w fun e w' => e = .returned (.bool (decide (a.key < b.key))) ∧ Below w.heap.size w w' := by
  have hk : decide (a.key < b.key) = (decide (a.pt < b.pt) || (decide (a.pt = b.pt) && (decide (a.op = 92) && !decide (b.op = 92)))) := by
    rw [Bool.eq_iff_iff]
    simp only [decide_eq_true_eq, Bool.or_eq_true, Bool.and_eq_true, Bool.not_eq_true', decide_eq_false_iff_not]
    rw [← key_lt]
    unfold Cq.lt rk
    split <;> split <;> omega
  rw [hk]
  obtain ⟨a0, a1, a2, a3, a4, a5, a6, a7, a8⟩ := a
  obtain ⟨b0, b1, b2, b3, b4, b5, b6, b7, b8⟩ := b
  unfold Cq.val
  simp only
  clear hk
  by_cases h1 : a6 < b6
  · have e1 : decide (a6 < b6) = true := decide_eq_true h1
    rw [e1, Bool.true_or]
    go_enter Try.func27, Try.ntmps27
    go_wp2
    go_ret
    exact ⟨rfl, b2b (cqO ⟨a0, a1, a2, a3, a4, a5, a6, a7, a8⟩) (cqO ⟨b0, b1, b2, b3, b4, b5, b6, b7, b8⟩)⟩
  · have e1 : decide (a6 < b6) = false := decide_eq_false h1
    rw [e1, Bool.false_or]
    by_cases h2 : a6 = b6
    · have e2 : (a6 == b6) = true := by simp [h2]
      have e2' : decide (a6 = b6) = true := decide_eq_true h2
      rw [e2', Bool.true_and]
      clear e2' h2
      by_cases h3 : a1 = 92
      · have e3 : (a1 == 92) = true := by simp [h3]
        have e3' : decide (a1 = 92) = true := decide_eq_true h3
        have e4 : (!decide (b1 = 92)) = (b1 != 92) := rfl
        rw [e3', Bool.true_and, e4]
        clear e3' h3 e4
        go_enter Try.func27, Try.ntmps27
        go_wp2
        go_ret
        exact ⟨rfl, b2b (cqO ⟨a0, a1, a2, a3, a4, a5, a6, a7, a8⟩) (cqO ⟨b0, b1, b2, b3, b4, b5, b6, b7, b8⟩)⟩
      · have e3 : (a1 == 92) = false := by simp [h3]
        have e3' : decide (a1 = 92) = false := decide_eq_false h3
        rw [e3', Bool.false_and]
        clear e3' h3
        go_enter Try.func27, Try.ntmps27
        go_wp2
        go_ret
        exact ⟨rfl, b2b (cqO ⟨a0, a1, a2, a3, a4, a5, a6, a7, a8⟩) (cqO ⟨b0, b1, b2, b3, b4, b5, b6, b7, b8⟩)⟩
    · have e2 : (a6 == b6) = false := by simp [h2]
      have e2' : decide (a6 = b6) = false := decide_eq_false h2
      rw [e2', Bool.false_and]
      clear e2' h2
      go_enter Try.func27, Try.ntmps27
      go_wp2
      go_ret
      exact ⟨rfl, b2b (cqO ⟨a0, a1, a2, a3, a4, a5, a6, a7, a8⟩) (cqO ⟨b0, b1, b2, b3, b4, b5, b6, b7, b8⟩)⟩
end Go.Proofs.Ytaojggnflblgnaa.Hd
