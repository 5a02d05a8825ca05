import Derived.Test.YtnbibkohgppjnaaGreatJ01
import Derived.Test.YtnbibkohgppjnaaGreatJ02
import Derived.Deep.RegionHeldLaw
set_option linter.unusedVariables false
set_option linter.unusedSimpArgs false
namespace Go.Proofs.YtnbibkohgppjnaaGreat.Md
open Go.RowKit Mr Me
theorem info_parts {a : Option TypeInfo} {z : Option Value} {n b : Nat} (h : a.map (fun i => (i.zero, i.size, i.bytes)) = some (z, n, b)) : ∃ i, a = some i ∧ i.zero = z ∧ i.size = n ∧ i.bytes = b := by
 cases a with
 | none => simp at h
 | some i => simp at h; exact ⟨i, rfl, h.1, h.2.1, h.2.2⟩
structure CtHas (W : World) (S : Nat → Prop) (v0 v1 v2 v3 v4 : Value) (x : Ct) : Prop where
 cell : Has W S 3 1 v0 x.cell.length (ints x.cell)
 stack : Has W S 3 1 v1 x.stack.length (ints x.stack)
 queue : Has W S 3 1 v2 x.queue.length (ints x.queue)
 set : Has W S 3 1 v3 x.set.length (ints x.set)
 table : Has W S 92 2 v4 x.table.length (prs x.table)
theorem CtHas.at {W : World} {S : Nat → Prop} {v0 v1 v2 v3 v4 : Value} {x : Ct} (h : CtHas W S v0 v1 v2 v3 v4 x) : CtAt W S v0 v1 v2 v3 v4 x := ⟨.of_has h.cell, .of_has h.stack, .of_has h.queue, .of_has h.set, .of_has h.table⟩
def Dj (v0 v1 v2 v3 v4 : Value) : Prop := ∀ k, v2.ownBlock = some k → v0.ownBlock ≠ some k ∧ v1.ownBlock ≠ some k ∧ v3.ownBlock ≠ some k ∧ v4.ownBlock ≠ some k
def Tc (W w : World) (bU bR : Nat) (o : Obj) : Prop := Below W.heap.size W w ∧ w.heap[bU]? = some o ∧ w.heap[bR]? = some (ctO (.slice none 0 0) (.slice none 0 0) (.slice none 0 0) (.slice none 0 0) (.slice none 0 0)) ∧ bR < w.heap.size ∧ W.heap.size ≤ bU ∧ W.heap.size ≤ bR ∧ bU < bR
theorem Tc.grown {W w w' : World} {bU bR : Nat} {o : Obj} (h : Tc W w bU bR o) (hg : w.grownBy w' none) : Tc W w' bU bR o := by
 obtain ⟨h1, h2, h3, h4, h5, h6, h7⟩ := h
 refine ⟨h1.grown hg (by omega) (by simp), ?_, ?_, ?_, h5, h6, h7⟩
 ·rw [hg.block _ (by omega) (by simp)]; exact h2
 ·rw [hg.block _ (by omega) (by simp)]; exact h3
 ·have := hg.size; omega
theorem Tc.new (W : World) (o : Obj) : Tc W ((W.alloc o).alloc (ctO (.slice none 0 0) (.slice none 0 0) (.slice none 0 0) (.slice none 0 0) (.slice none 0 0))) W.heap.size (W.heap.size + 1) o :=
 ⟨((Below.refl _ _).alloc (Nat.le_refl _) _).alloc (by simp) _, old_at (new_at W o _ rfl) _, new_at _ _ _ (by simp), by simp, Nat.le_refl _, by omega, by omega⟩
theorem Tc.drew {W w : World} {bU bR : Nat} {o : Obj} (h : Tc W w bU bR o) : Tc W w.drew bU bR o := ⟨h.1.drew, h.2⟩
def set5 (w : World) (b : Nat) (v0 v1 v2 v3 v4 : Value) : World := ((((w.setCell ⟨b, 0, none⟩ v0).setCell ⟨b, 1, none⟩ v1).setCell ⟨b, 2, none⟩ v2).setCell ⟨b, 3, none⟩ v3).setCell ⟨b, 4, none⟩ v4
theorem set5_far (w : World) (b : Nat) (v0 v1 v2 v3 v4 : Value) (k : Nat) (h : k ≠ b) : (set5 w b v0 v1 v2 v3 v4).heap[k]? = w.heap[k]? := by
 unfold set5
 rw [Below.heap_setCell _ _ _ k h, Below.heap_setCell _ _ _ k h, Below.heap_setCell _ _ _ k h, Below.heap_setCell _ _ _ k h, Below.heap_setCell _ _ _ k h]
theorem set5_at {w : World} {b : Nat} {u0 u1 u2 u3 u4 : Value} (v0 v1 v2 v3 v4 : Value) (h : w.heap[b]? = some (ctO u0 u1 u2 u3 u4)) : (set5 w b v0 v1 v2 v3 v4).heap[b]? = some (ctO v0 v1 v2 v3 v4) := by
 unfold set5
 rw [setBlk (setBlk (setBlk (setBlk (setBlk h 0 _) 1 _) 2 _) 3 _) 4 _]
 rfl
theorem set5_below {n : Nat} {a w : World} {b : Nat} (v0 v1 v2 v3 v4 : Value) (h : Below n a w) (hb : n ≤ b) : Below n a (set5 w b v0 v1 v2 v3 v4) := by
 unfold set5
 exact ((((h.setCell (p := ⟨b, 0, none⟩) hb _).setCell (p := ⟨b, 1, none⟩) hb _).setCell (p := ⟨b, 2, none⟩) hb _).setCell (p := ⟨b, 3, none⟩) hb _).setCell (p := ⟨b, 4, none⟩) hb _
theorem ctO_thaw {W : World} {b : Nat} {v0 v1 v2 v3 v4 : Value} (h : W.heap[b]? = some (ctO v0 v1 v2 v3 v4)) : W.frozen? ⟨b, 0, none⟩ = false ∧ W.frozen? ⟨b, 1, none⟩ = false ∧ W.frozen? ⟨b, 2, none⟩ = false ∧ W.frozen? ⟨b, 3, none⟩ = false ∧ W.frozen? ⟨b, 4, none⟩ = false := by
 unfold ctO at h
 refine ⟨?_, ?_, ?_, ?_, ?_⟩ <;> simp [World.frozen?, h]
end Go.Proofs.YtnbibkohgppjnaaGreat.Md
