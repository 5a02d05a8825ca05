import Derived.Test.YtkimmfdicohoiaaWordMap
import Derived.Test.YtkimmfdicohoiaaWordBox
import Derived.Laws.MakeOwn
import Derived.Laws.Entries
import Derived.Laws.NewBlocks
/-
  A ROW of words that the call itself made; and what First lays there.
-/
namespace Go.Proofs.Ytkimmfdicohoiaa.Wr
open Go.RowKit
/-- Block b holds the n words f 0, f 1, .. -/
structure Row (W : World) (b n : Nat) (f : Nat → Int) : Prop where
  cell : ∀ i, i < n → W.cell? ⟨b, i, none⟩ = some (.int .u64 (f i))
  free : ∀ i, i < n → W.frozen? ⟨b, i, none⟩ = false
  size : b < W.heap.size
theorem Row.below {W W' : World} {b n : Nat} {f : Nat → Int} (h : Row W b n f) (hb : Below W.heap.size W W') : Row W' b n f :=
  ⟨fun i hi => (hb.cell (p := ⟨b, i, none⟩) h.size).trans (h.cell i hi), fun i hi => (hb.frozen (p := ⟨b, i, none⟩) h.size).trans (h.free i hi), Nat.lt_of_lt_of_le h.size hb.size⟩
theorem Row.made (w : World) (n e : Nat) : Row (w.alloc (.cells (madeCells #[.int .u64 0] n) e)) w.heap.size n (fun _ => 0) := by
  refine ⟨fun i hi => ?_, fun i _ => ?_, by simp⟩
  · rw [World.cell?_alloc_at _ _ _ _ rfl]
    simp [madeCells, hi, Nat.mod_one]
  · exact World.frozen?_alloc_at _ _ _ _ rfl
theorem Row.set {W : World} {b n : Nat} {f : Nat → Int} (h : Row W b n f) (j : Nat) (v : Int) (g : Nat → Int) (hj : j < n) (hg : ∀ i, i < n → g i = if i = j then v else f i) :
    Row (W.setCell ⟨b, j, none⟩ (.int .u64 v)) b n g := by
  refine ⟨fun i hi => ?_, fun i hi => ?_, ?_⟩
  · rw [hg i hi]
    by_cases e : i = j
    · subst e; rw [if_pos rfl]; exact World.cell?_setCell_same _ _ _ (h.cell i hi)
    · rw [if_neg e, World.cell?_setCell_other _ _ _ _ (by intro h; exact e (by simpa using h.symm))]; exact h.cell i hi
  · rw [World.frozen?_setCell]; exact h.free i hi
  · have := h.size; simpa using this
theorem Row.congr {W : World} {b n : Nat} {f g : Nat → Int} (h : Row W b n f) (hg : ∀ i, i < n → g i = f i) : Row W b n g :=
  ⟨fun i hi => by rw [hg i hi]; exact h.cell i hi, h.free, h.size⟩
/-- The words while First writes them: head, the words 3 and 4, the spare words from b10 + u up to b10 + s. -/
def memF (hd t3 t4 b10 u s : Int) (i : Nat) : Int :=
  if i = 0 then hd else if i = 3 then t3 else if i = 4 then t4 else if b10 + u ≤ (i : Int) ∧ (i : Int) < b10 + s then (i : Int) - b10 + 2 else 0
theorem memF_zero (b10 u : Int) (i : Nat) : memF 0 0 0 b10 u u i = 0 := by
  unfold memF; (repeat' split) <;> first | rfl | omega
theorem memF_head (hd b10 u s t3 t4 h0 : Int) (i : Nat) : memF hd t3 t4 b10 u s i = if i = 0 then hd else memF h0 t3 t4 b10 u s i := by
  unfold memF; (repeat' split) <;> first | rfl | omega
theorem memF_three (hd b10 u s t3 t4 h0 : Int) (i : Nat) : memF hd t3 t4 b10 u s i = if i = 3 then t3 else memF hd h0 t4 b10 u s i := by
  unfold memF; (repeat' split) <;> first | rfl | omega
theorem memF_four (hd b10 u s t3 t4 h0 : Int) (i : Nat) : memF hd t3 t4 b10 u s i = if i = 4 then t4 else memF hd t3 h0 b10 u s i := by
  unfold memF; (repeat' split) <;> first | rfl | omega
theorem memF_spare (hd b10 u s t3 t4 : Int) (hb : 6 ≤ b10) (hu : 0 ≤ u) (hs : u ≤ s) (i : Nat) :
    memF hd t3 t4 b10 u (s + 1) i = if i = (b10 + s).toNat then s + 2 else memF hd t3 t4 b10 u s i := by
  unfold memF
  by_cases e : i = (b10 + s).toNat
  · rw [if_pos e]
    have e' : (i : Int) = b10 + s := by omega
    rw [if_neg (by omega), if_neg (by omega), if_neg (by omega), if_pos (by omega)]; omega
  · rw [if_neg e]
    (repeat' split) <;> first | rfl | omega
open Wm in
theorem base10 (a1 a2 a5 a6 : Int) : base a1 a2 a5 a6 10 = 6 + a6 + a1 + a1 * a2 := by
  simp [base, many, items, each]
open Wm in
theorem base14 (a1 a2 a5 a6 : Int) : base a1 a2 a5 a6 14 = 6 + a6 + a1 + a1 * a2 + 4 * a5 := by
  simp [base, many, items, each]; omega
open Wm in
theorem base4 (a1 a2 a5 a6 : Int) : base a1 a2 a5 a6 4 = 3 := by simp [base, many, items, each]
open Wm in
theorem base5 (a1 a2 a5 a6 : Int) : base a1 a2 a5 a6 5 = 4 := by simp [base, many, items, each]
end Go.Proofs.Ytkimmfdicohoiaa.Wr
