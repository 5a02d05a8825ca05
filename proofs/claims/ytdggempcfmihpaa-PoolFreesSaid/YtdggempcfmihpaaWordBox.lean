import Derived.WalkKit
import Derived.WalkSpells
import Derived.Below
import Derived.Deep.Draws
/-
  SMALL LAWS on worlds behind calls that only make memory.
-/
namespace Go.Proofs.Ytdggempcfmihpaa.Bx
open Go.RowKit
theorem seqB {n : Nat} {w w1 w2 : World} (h1 : Below n w w1) (h2 : Below w1.heap.size w1 w2) (hn : n ≤ w.heap.size) : Below n w w2 :=
  h1.trans (h2.mono (by have := h1.size; omega))
theorem box0 (w : World) (o : Obj) : Below (w.heap.size + 1) (w.alloc o) (w.alloc o) := Below.refl _ _
theorem boxSeq {w w1 w2 : World} {o : Obj} (h1 : Below (w.heap.size + 1) (w.alloc o) w1) (h2 : Below w1.heap.size w1 w2) : Below (w.heap.size + 1) (w.alloc o) w2 :=
  seqB h1 h2 (by simp)
theorem boxCell {w w1 : World} {o : Obj} (B : Below (w.heap.size + 1) (w.alloc o) w1) : ∀ k, w1.cell? ⟨w.heap.size, k, none⟩ = (w.alloc o).cell? ⟨w.heap.size, k, none⟩ :=
  fun _ => B.cell (by simp)
theorem boxEnd {w w1 : World} {o : Obj} (B : Below (w.heap.size + 1) (w.alloc o) w1) : Below w.heap.size w w1 :=
  ((Below.refl _ _).alloc (Nat.le_refl _) o).trans (B.mono (by omega))
theorem two0 (w : World) (o p : Obj) : Below (w.heap.size + 2) ((w.alloc o).alloc p) ((w.alloc o).alloc p) := Below.refl _ _
theorem twoSeq {w w1 w2 : World} {o p : Obj} (h1 : Below (w.heap.size + 2) ((w.alloc o).alloc p) w1) (h2 : Below w1.heap.size w1 w2) : Below (w.heap.size + 2) ((w.alloc o).alloc p) w2 :=
  seqB h1 h2 (by simp)
theorem twoCellA {w w1 : World} {o p : Obj} (B : Below (w.heap.size + 2) ((w.alloc o).alloc p) w1) : ∀ k, w1.cell? ⟨w.heap.size, k, none⟩ = ((w.alloc o).alloc p).cell? ⟨w.heap.size, k, none⟩ :=
  fun _ => B.cell (by simp)
theorem twoCellB {w w1 : World} {o p : Obj} (B : Below (w.heap.size + 2) ((w.alloc o).alloc p) w1) : ∀ k, w1.cell? ⟨w.heap.size + 1, k, none⟩ = ((w.alloc o).alloc p).cell? ⟨w.heap.size + 1, k, none⟩ :=
  fun _ => B.cell (by simp)
theorem twoEnd {w w1 : World} {o p : Obj} (B : Below (w.heap.size + 2) ((w.alloc o).alloc p) w1) : Below w.heap.size w w1 :=
  (((Below.refl _ _).alloc (Nat.le_refl _) o).alloc (by simp) p).trans (B.mono (by omega))
theorem draws (B : Nat) (w : World) (n : Nat) : Below B w (w.drewN n) := ⟨rfl, rfl, rfl, Nat.le_refl _, fun _ _ => rfl⟩
end Go.Proofs.Ytdggempcfmihpaa.Bx
