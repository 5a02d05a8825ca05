import Derived.Test.YtecldhngggkjjaaGreatJ10
set_option linter.unusedVariables false
namespace Go.Proofs.YtecldhngggkjjaaGreat.Md
open Go.RowKit Mr
section
variable {P : Program} (w : World)
end
section
variable {w w' : World} {S T : Nat → Prop} {e : TypeId} {size n0 n : Nat} {v0 v : Value} {xs0 : List Value}
theorem Own.put {xs : List Value} {g o cap : Nat} (h : Own w S e size (.slice (some ⟨g, o, none⟩) n cap) n xs) (hn : 0 < n) {j : Nat} (hj : j < n * size) (u : Value) : Own (w.setCell ⟨g, o + j, none⟩ u) S e size (.slice (some ⟨g, o, none⟩) n cap) n (xs.set j u) := by
 obtain ⟨h1, a, c, hv, hc, hm, h2⟩ := h
 cases hv
 refine ⟨by rw [List.length_set]; exact h1, _, _, rfl, hc, hm, .inr ?_⟩
 rcases h2 with h2 | ⟨g', o', cur, ha, hS, hg, hs, hx⟩
 ·omega
 ·cases ha
  refine ⟨g, o, _, rfl, hS, setBlk hg (o + j) u, by simpa using hs, ?_⟩
  apply List.ext_getElem?
  intro k
  rw [List.getElem?_take, List.getElem?_set, ← hx]
  simp only [Array.toList_setIfInBounds, List.getElem?_drop, List.getElem?_set, List.getElem?_take, List.length_take, List.length_drop, Array.length_toList]
  have : n * size ≤ cap * size := Nat.mul_le_mul_right _ hc
  by_cases hk : k < n * size
  ·rw [if_pos hk]
   by_cases hjk : j = k
   ·subst hjk
    rw [if_pos rfl, if_pos rfl, if_pos (by omega), if_pos (by omega)]
   ·rw [if_neg (by omega), if_neg hjk, if_pos hk]
  ·rw [if_neg hk, if_neg (by omega), if_neg hk]
end
end Go.Proofs.YtecldhngggkjjaaGreat.Md
