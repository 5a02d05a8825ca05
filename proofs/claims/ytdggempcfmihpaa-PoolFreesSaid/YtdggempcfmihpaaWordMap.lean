import Derived.RowKit
/-
  PLAIN: how the regions lie. No Go in sight.
-/
namespace Go.Proofs.Ytdggempcfmihpaa.Wm
/-- How many of a region's things (of buckets, records, slots). -/
def items (a1 a5 a6 : Int) (r : Int) : Int := if r = 7 then a6 else if r = 8 then a1 else if r = 9 then a1 else if 10 ≤ r ∧ r ≤ 13 then a5 else 1
/-- How many words for each. -/
def each (a2 : Int) (r : Int) : Int := if r = 9 then a2 else 1
def many (a1 a2 a5 a6 : Int) (r : Int) : Int := items a1 a5 a6 r * each a2 r
/-- Where region k begins. -/
def base (a1 a2 a5 a6 : Int) : Nat → Int
  | 0 => 0
  | 1 => 0
  | (k + 2) => base a1 a2 a5 a6 (k + 1) + many a1 a2 a5 a6 ((k + 1 : Nat) : Int)
theorem base_succ (a1 a2 a5 a6 : Int) (k : Nat) (h : 1 ≤ k) : base a1 a2 a5 a6 (k + 1) = base a1 a2 a5 a6 k + many a1 a2 a5 a6 (k : Int) := by
  obtain ⟨j, rfl⟩ : ∃ j, k = j + 1 := ⟨k - 1, by omega⟩
  rfl
/-- The bounds of a configuration that may be. -/
def Ok (a1 a2 a5 a6 : Int) : Prop := 1 ≤ a1 ∧ a1 ≤ 16 ∧ 3 ≤ a2 ∧ a2 ≤ 8 ∧ 1 ≤ a5 ∧ a5 ≤ 1024 ∧ 1 ≤ a6 ∧ a6 ≤ 64
theorem items_bd {a1 a2 a5 a6 : Int} (h : Ok a1 a2 a5 a6) (r : Int) : 1 ≤ items a1 a5 a6 r ∧ items a1 a5 a6 r ≤ 1024 := by
  obtain ⟨h1, h2, h3, h4, h5, h6, h7, h8⟩ := h
  unfold items; (repeat' split) <;> omega
theorem each_bd {a1 a2 a5 a6 : Int} (h : Ok a1 a2 a5 a6) (r : Int) : 1 ≤ each a2 r ∧ each a2 r ≤ 8 := by
  obtain ⟨h1, h2, h3, h4, h5, h6, h7, h8⟩ := h
  unfold each; split <;> omega
theorem many_bd {a1 a2 a5 a6 : Int} (h : Ok a1 a2 a5 a6) (r : Int) : 1 ≤ many a1 a2 a5 a6 r ∧ many a1 a2 a5 a6 r ≤ 1024 := by
  have hh := h
  obtain ⟨h1, h2, h3, h4, h5, h6, h7, h8⟩ := h
  unfold many
  by_cases e : r = 9
  · subst e
    simp only [items, each]
    simp only [show ¬ ((9 : Int) = 7) from by decide, show ¬ ((9 : Int) = 8) from by decide, if_true, if_false]
    constructor
    · have := Int.mul_le_mul h1 h3 (by omega) (by omega); omega
    · have := Int.mul_le_mul h2 h4 (by omega) (by omega); omega
  · have e1 : each a2 r = 1 := by unfold each; rw [if_neg e]
    rw [e1]; have := items_bd hh r; omega
theorem base_bd {a1 a2 a5 a6 : Int} (h : Ok a1 a2 a5 a6) : ∀ k : Nat, 0 ≤ base a1 a2 a5 a6 k ∧ base a1 a2 a5 a6 k ≤ 1024 * (k : Int)
  | 0 => by simp [base]
  | 1 => by simp [base]
  | (k + 2) => by
    have i := base_bd h (k + 1)
    have m := many_bd h ((k + 1 : Nat) : Int)
    simp only [base]; omega
end Go.Proofs.Ytdggempcfmihpaa.Wm
