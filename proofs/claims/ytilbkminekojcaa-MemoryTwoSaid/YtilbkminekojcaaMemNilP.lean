/-
  A memory that is not there: logged, Writer, Back.
-/
import Derived.Test.YtilbkminekojcaaMemHelp2
namespace Go.Proofs.Ytilbkminekojcaa.Me
open Go.RowKit Go.Shelf Mr
attribute [local go_sem] Oper.semAt_some
theorem writer_no {W : World} {S : Nat → Prop} {b : Nat} {vw vl va : Value} {ws : List Int} {mv : Int} {lg : List Acc} {ah : List Int} (h : Mem W S b vw vl va ws mv lg ah) (ad : Int) (h0 : ad < 0 ∨ ws.length ≤ ad) :
    Calls Try.prog 36 #[.pointer (some ⟨b, 0, none⟩), .int .i64 ad] W fun e w' => e = .returned (.tuple #[.int .i64 0, .int .i64 0, .int .i64 20]) ∧ Below W.heap.size W w' := by
  have hB : ∀ o, Below W.heap.size W (W.alloc o) := fun o => (Below.refl _ _).alloc (Nat.le_refl _) o
  have C := fun o => has_no (h.below (hB o)) ad h0
  clear h h0
  go_enter Try.func36, Try.ntmps36
  go_wp2_with (go_at_call 43; refine (C _).mono ?_; rintro e w' ⟨rfl, rfl⟩)
  go_ret3
  exact ⟨rfl, hB _⟩
theorem writer_nil (ad : Int) (W : World) :
    Calls Try.prog 36 #[.pointer none, .int .i64 ad] W fun e w' => e = .returned (.tuple #[.int .i64 0, .int .i64 0, .int .i64 20]) ∧ Below W.heap.size W w' := by
  have hB : ∀ o, Below W.heap.size W (W.alloc o) := fun o => (Below.refl _ _).alloc (Nat.le_refl _) o
  go_enter Try.func36, Try.ntmps36
  go_wp2_with (go_at_call 43; refine (has_nil _ _).mono ?_; rintro e w' ⟨rfl, rfl⟩)
  go_ret3
  exact ⟨rfl, hB _⟩
theorem back_nil (c : Int) (W : World) :
    Calls Try.prog 14 #[.pointer none, .int .i64 c] W fun e w' => e = .returned (.int .i64 (if c = 0 then 0 else 21)) ∧ Below W.heap.size W w' := by
  have hB : ∀ o, Below W.heap.size W (W.alloc o) := fun o => (Below.refl _ _).alloc (Nat.le_refl _) o
  by_cases h0 : c < 0
  · rw [if_neg (by omega)]
    go_enter Try.func14, Try.ntmps14
    go_wp2_with (go_at_call 12; refine (count_nil _).mono ?_; rintro e w' ⟨rfl, rfl⟩)
    go_ret
    exact ⟨rfl, hB _⟩
  · have d0 : decide (c < 0) = false := by simpa using h0
    by_cases h1 : c = 0
    · subst h1
      rw [if_pos rfl]
      go_enter Try.func14, Try.ntmps14
      go_wp2_with (go_at_call 12; refine (count_nil _).mono ?_; rintro e w' ⟨rfl, rfl⟩)
      go_ret
      exact ⟨rfl, hB _⟩
    · rw [if_neg h1]
      have d1 : decide (0 < c) = true := by simp; omega
      clear h0 h1
      go_enter Try.func14, Try.ntmps14
      go_wp2_with (go_at_call 12; refine (count_nil _).mono ?_; rintro e w' ⟨rfl, rfl⟩)
      go_ret
      exact ⟨rfl, hB _⟩
end Go.Proofs.Ytilbkminekojcaa.Me
