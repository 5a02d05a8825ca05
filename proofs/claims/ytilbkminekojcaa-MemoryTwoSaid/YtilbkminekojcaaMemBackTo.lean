/-
  Back by its contract, whatever the log's slice is; refused.
-/
import Derived.Test.YtilbkminekojcaaMemBackNone
namespace Go.Proofs.Ytilbkminekojcaa.Me
open Go.RowKit Go.Shelf Mr
theorem back_to {W : World} {S : Nat → Prop} {b : Nat} {vw vl va : Value} {ws0 : List Int} {mv : Int} {lg : List Acc} (h : Mem W S b vw vl va (play ws0 lg).1 mv lg (play ws0 lg).2) (hok : ∀ a ∈ lg, 0 ≤ a.ad ∧ a.ad < ws0.length) (c : Nat) (hc : c ≤ lg.length) (hsm : lg.length ≤ 5026338869641) :
    Calls Try.prog 14 #[.pointer (some ⟨b, 0, none⟩), .int .i64 (c : Int)] W fun e w' => e = .returned (.int .i64 0) ∧ (∃ vl' va', Mem w' S b vw vl' va' (play ws0 (lg.take c)).1 mv (lg.take c) (play ws0 (lg.take c)).2) ∧ Fr W w' S := by
  by_cases hlt : c < lg.length
  · obtain ⟨g, cap, hvl, _⟩ := h.hl.there (by omega)
    subst hvl
    exact (back_any h hok c hlt hsm).mono fun e w' ⟨h1, ⟨va', h2⟩, h3⟩ => ⟨h1, ⟨_, va', h2⟩, h3⟩
  · obtain rfl : c = lg.length := by omega
    rw [List.take_length]
    rcases h.hl.2 with ⟨hv, _⟩ | ⟨g, cap, cur, hv, _⟩
    · subst hv
      exact back_nil0 h
    · subst hv
      by_cases hcap : cap = lg.length
      · subst hcap
        exact back_tight h
      · exact back_room h hcap
set_option maxRecDepth 100000 in
theorem back_no {W : World} {S : Nat → Prop} {b : Nat} {vw vl va : Value} {ws : List Int} {mv : Int} {lg : List Acc} {ah : List Int} (h : Mem W S b vw vl va ws mv lg ah) (c : Int) (hc : c < 0 ∨ lg.length < c) :
    Calls Try.prog 14 #[.pointer (some ⟨b, 0, none⟩), .int .i64 c] W fun e w' => e = .returned (.int .i64 21) ∧ Below W.heap.size W w' := by
  have hB : ∀ o, Below W.heap.size W (W.alloc o) := fun o => (Below.refl _ _).alloc (Nat.le_refl _) o
  have C := fun o => count_any (h.below (hB o))
  generalize lg.length = n at *
  clear h
  by_cases hc0 : c < 0
  · clear hc C
    go_enter Try.func14, Try.ntmps14
    go_wp2
    go_ret
    exact ⟨rfl, hB _⟩
  · have hd : decide ((n : Int) < c) = true := by simp; omega
    have hd0 : decide (c < 0) = false := by simp; omega
    clear hc
    go_enter Try.func14, Try.ntmps14
    go_wp2_with (go_at_call 12; refine (C _).mono ?_; rintro e w' ⟨rfl, rfl⟩)
    go_ret
    exact ⟨rfl, hB _⟩
end Go.Proofs.Ytilbkminekojcaa.Me
