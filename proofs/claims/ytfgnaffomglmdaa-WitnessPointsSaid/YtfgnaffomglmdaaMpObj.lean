import Derived.Test.YtfgnaffomglmdaaMdObj
/-
  Package model: Object, puts.
-/
namespace Go.Proofs.Ytfgnaffomglmdaa.Md
open Go.RowKit Mr
set_option linter.unusedVariables false
set_option linter.unusedSimpArgs false
set_option maxHeartbeats 4000000 in
theorem mObj (op : Int) (w : World) : Calls Try.prog 38 #[.int .i64 op] w fun e w' => e = .returned (.int .i64 (obj op)) ∧ w' = w := by
  by_cases h : op = 22 ∨ op = 23 ∨ op = 30 ∨ op = 31 ∨ op = 40 ∨ op = 41 ∨ op = 50 ∨ op = 51 ∨ op = 52 ∨ op = 60 ∨ op = 61 ∨ op = 62
  · rcases h with rfl | rfl | rfl | rfl | rfl | rfl | rfl | rfl | rfl | rfl | rfl | rfl
    all_goals
      go_enter Try.func38, Try.ntmps38
      go_wp2
      go_ret
      exact ⟨rfl, rfl⟩
  · have e : obj op = 0 := by
      unfold obj
      rw [if_neg (by omega), if_neg (by omega), if_neg (by omega), if_neg (by omega), if_neg (by omega)]
    rw [e]
    have d : ∀ k : Int, (k = 22 ∨ k = 23 ∨ k = 30 ∨ k = 31 ∨ k = 40 ∨ k = 41 ∨ k = 50 ∨ k = 51 ∨ k = 52 ∨ k = 60 ∨ k = 61 ∨ k = 62) → (op == k) = false := fun k hk => by
      rw [beq_eq_false_iff_ne]; rintro rfl; exact h hk
    have d0 := d 22 (by simp)
    have d1 := d 23 (by simp)
    have d2 := d 30 (by simp)
    have d3 := d 31 (by simp)
    have d4 := d 40 (by simp)
    have d5 := d 41 (by simp)
    have d6 := d 50 (by simp)
    have d7 := d 51 (by simp)
    have d8 := d 52 (by simp)
    have d9 := d 60 (by simp)
    have da := d 61 (by simp)
    have db := d 62 (by simp)
    clear d h e
    go_enter Try.func38, Try.ntmps38
    go_wp2
    go_ret
    exact ⟨rfl, rfl⟩
theorem mObject_any (op : Int) (W : World) : Calls Try.prog 38 #[.int .i64 op] W fun e w' => e = .returned (.int .i64 (obj op)) ∧ Below W.heap.size W w' :=
  (mObj op W).mono (by rintro e w' ⟨rfl, rfl⟩; exact ⟨rfl, Below.refl _ _⟩)
end Go.Proofs.Ytfgnaffomglmdaa.Md
