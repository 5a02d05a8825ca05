import Derived.Test.YtkimmfdicohoiaaArRep
import Derived.Test.YtkimmfdicohoiaaMacRep
import Derived.Deep.RegionHeld3
/-
  THE ARENA: freeAddr, spareAddr, hasRoom, State, Shift by their contracts.
-/
namespace Go.Proofs.Ytkimmfdicohoiaa.Ar
open Go.RowKit Mr Me Ma Wc Wm
section
variable {W : World} {T : Nat → Prop} {ba gs cs : Nat} {c : Cf} {vca : Value} {vs : List Value} {A : Ao}
/-- A slot's cells. -/
theorem Ar.slot (h : Ar W T ba gs cs c vca vs A) (x j : Nat) (y y' : Int × Int) (u : Value) (hy : A.sl[x]? = some y) (hj : j < 2) (hu : sla y' = (sla y).set j u) : Ar (W.setCell ⟨gs, x * 2 + j, none⟩ u) T ba gs cs c vca vs { A with sl := A.sl.set x y' } := by
  have hl : (A.sl.set x y').length = A.sl.length := List.length_set
  have hk : ∀ k, k ≠ gs → (W.setCell ⟨gs, x * 2 + j, none⟩ u).heap[k]? = W.heap[k]? := fun k hne => Below.heap_setCell _ _ _ k hne
  have hgo : (Value.slice (some ⟨gs, 0, none⟩) A.sl.length cs).ownBlock = some gs := rfl
  have n1 : ba ≠ gs := fun e => not_row h.blk h.slots (by decide) (e ▸ hgo)
  refine ⟨?_, ?_, h.caches.setCell _ _ (fun e => has_ne h.caches h.slots (by decide) gs e hgo), fun i v l hv hl' => (h.each i v l hv hl').setCell _ _ (fun e => has_ne (h.each i v l hv hl') h.slots (by decide) gs e hgo), h.sep, h.ta, h.ok, by simp only [hl]; exact h.five⟩
  · simp only [hl]
    exact (hk ba n1).trans h.blk
  · simp only [hl]
    have := has_put h.slots (x * 2 + j) u
    rw [flat_set sla_len A.sl x j y y' u hy hj hu] at this
    exact this
theorem Ar.slotAt (h : Ar W T ba gs cs c vca vs A) (x j : Nat) (y : Int × Int) (u : Value) (hy : A.sl[x]? = some y) (hj : (sla y)[j]? = some u) : W.cell? ⟨gs, x * 2 + j, none⟩ = some u ∧ W.frozen? ⟨gs, x * 2 + j, none⟩ = false := by
  have hj2 : j < 2 := by have := (List.getElem?_eq_some_iff.1 hj).1; rw [sla_len] at this; exact this
  exact ⟨h.slots.cells (g := gs) rfl _ _ ((flat_get sla_len A.sl x j y hy hj2).trans hj), h.slots.frozen (g := gs) rfl _⟩
end
section
end
end Go.Proofs.Ytkimmfdicohoiaa.Ar
