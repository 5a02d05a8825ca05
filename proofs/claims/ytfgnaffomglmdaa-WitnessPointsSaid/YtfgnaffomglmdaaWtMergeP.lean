/-
  The document's sort of marks, pure: a merge so far.
-/
import Derived.Test.YtfgnaffomglmdaaWtP
namespace Go.Proofs.Ytfgnaffomglmdaa.Wt
set_option linter.unusedVariables false
def Up1 (l : List (Int × Int)) : Prop := l.Pairwise (fun a b => a.1 ≤ b.1)
theorem Up1.at {l : List (Int × Int)} (h : Up1 l) {i : Nat} {x : Int × Int} (hx : l[i]? = some x) : ∀ y ∈ l.drop i, x.1 ≤ y.1 := by
  intro y hy
  obtain ⟨k, hk⟩ := List.getElem?_of_mem hy
  rw [List.getElem?_drop] at hk
  obtain ⟨h1, rfl⟩ := List.getElem?_eq_some_iff.1 hx
  obtain ⟨h2, rfl⟩ := List.getElem?_eq_some_iff.1 hk
  by_cases e : k = 0
  · subst e; simp
  · exact (List.pairwise_iff_getElem.1 h) i (i + k) h1 h2 (by omega)
theorem drop_sub {α : Type} {l : List α} {i : Nat} {y : α} (h : y ∈ l.drop (i + 1)) : y ∈ l.drop i := by
  obtain ⟨k, hk⟩ := List.getElem?_of_mem h
  rw [List.getElem?_drop] at hk
  refine List.mem_of_getElem? (i := k + 1) ?_
  rw [List.getElem?_drop, show i + (k + 1) = i + 1 + k from by omega]; exact hk
theorem mem_drop_at {α : Type} {l : List α} {i : Nat} {x : α} (h : l[i]? = some x) : x ∈ l.drop i := by
  refine List.mem_of_getElem? (i := 0) ?_
  rw [List.getElem?_drop, Nat.add_zero]; exact h
structure Mg (a b m : List (Int × Int)) (i k : Nat) : Prop where
  perm : m.Perm (a.take i ++ b.take k)
  up : Up1 m
  low : ∀ x ∈ m, ∀ y, (y ∈ a.drop i ∨ y ∈ b.drop k) → x.1 ≤ y.1
theorem Mg.zero (a b : List (Int × Int)) : Mg a b [] 0 0 := ⟨by simp, List.Pairwise.nil, fun x hx => by simp at hx⟩
theorem Mg.len {a b m : List (Int × Int)} {i k : Nat} (h : Mg a b m i k) : m.length ≤ i + k := by
  have := h.perm.length_eq
  simp at this; omega
theorem Mg.left {a b m : List (Int × Int)} {i k : Nat} (h : Mg a b m i k) (ha : Up1 a) (hb : Up1 b) {x : Int × Int} (hx : a[i]? = some x) (hle : ∀ y, b[k]? = some y → x.1 ≤ y.1) : Mg a b (m ++ [x]) (i + 1) k := by
  refine ⟨?_, ?_, ?_⟩
  · rw [List.take_add_one, hx]
    show (m ++ [x]).Perm (a.take i ++ [x] ++ b.take k)
    refine (List.Perm.append_right [x] h.perm).trans ?_
    rw [List.append_assoc, List.append_assoc]
    exact List.Perm.append_left _ List.perm_append_comm
  · unfold Up1
    rw [List.pairwise_append]
    refine ⟨h.up, by simp, fun y hy z hz => ?_⟩
    simp at hz; subst hz
    exact h.low y hy z (.inl (mem_drop_at hx))
  · intro z hz y hy
    rcases List.mem_append.1 hz with hz | hz
    · exact h.low z hz y (hy.imp drop_sub id)
    · simp at hz; subst hz
      rcases hy with hy | hy
      · exact ha.at hx y (drop_sub hy)
      · by_cases hk : k < b.length
        · have hbk : b[k]? = some b[k] := List.getElem?_eq_getElem _
          exact Int.le_trans (hle _ hbk) (hb.at hbk y hy)
        · rw [List.drop_of_length_le (by omega)] at hy; simp at hy
theorem Mg.swap {a b m : List (Int × Int)} {i k : Nat} (h : Mg a b m i k) : Mg b a m k i := ⟨h.perm.trans List.perm_append_comm, h.up, fun x hx y hy => h.low x hx y hy.symm⟩
theorem Mg.right {a b m : List (Int × Int)} {i k : Nat} (h : Mg a b m i k) (ha : Up1 a) (hb : Up1 b) {y : Int × Int} (hy : b[k]? = some y) (hle : ∀ x, a[i]? = some x → y.1 ≤ x.1) : Mg a b (m ++ [y]) i (k + 1) := (h.swap.left hb ha hy hle).swap
theorem Mg.done {a b m l : List (Int × Int)} {i k : Nat} (h : Mg a b m i k) (hi : ¬ i < a.length) (hk : ¬ k < b.length) {j : Nat} (ha : a.Perm (l.take j)) (hb : b.Perm (l.drop j)) : m.Perm l := by
  have := h.perm
  rw [List.take_of_length_le (by omega), List.take_of_length_le (by omega)] at this
  refine this.trans ((ha.append hb).trans ?_)
  rw [List.take_append_drop]
end Go.Proofs.Ytfgnaffomglmdaa.Wt
