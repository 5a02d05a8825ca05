/-
  A memory that is not there: logged, Writer, Back.
-/
import Derived.Test.YtkfcfhgjhnmjlaaMemHelp2
namespace Go.Proofs.Ytkfcfhgjhnmjlaa.Me
open Go.RowKit Go.Shelf Mr
attribute [local go_sem] Oper.semAt_some
theorem back_nil (c : Int) (W : World) :
    Calls Try.prog 11 #[.pointer none, .int .i64 c] W fun e w' => e = .returned (.int .i64 (if c = 0 then 0 else 21)) ∧ Below W.heap.size W w' := by
  have hB : ∀ o, Below W.heap.size W (W.alloc o) := fun o => (Below.refl _ _).alloc (Nat.le_refl _) o
  by_cases h0 : c < 0
  · rw [if_neg (by omega)]
    go_enter Try.func11, Try.ntmps11
    go_wp2_with (go_at_call 9; refine (count_nil _).mono ?_; rintro e w' ⟨rfl, rfl⟩)
    go_ret
    exact ⟨rfl, hB _⟩
  · have d0 : decide (c < 0) = false := by simpa using h0
    by_cases h1 : c = 0
    · subst h1
      rw [if_pos rfl]
      go_enter Try.func11, Try.ntmps11
      go_wp2_with (go_at_call 9; refine (count_nil _).mono ?_; rintro e w' ⟨rfl, rfl⟩)
      go_ret
      exact ⟨rfl, hB _⟩
    · rw [if_neg h1]
      have d1 : decide (0 < c) = true := by simp; omega
      clear h0 h1
      go_enter Try.func11, Try.ntmps11
      go_wp2_with (go_at_call 9; refine (count_nil _).mono ?_; rintro e w' ⟨rfl, rfl⟩)
      go_ret
      exact ⟨rfl, hB _⟩
end Go.Proofs.Ytkfcfhgjhnmjlaa.Me
