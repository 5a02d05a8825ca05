/-
  A CONFIGURATION IN A BOX: seven cells of one block.
-/
import Derived.Test.YtbbgobahhcfjjaaWordBox2
namespace Go.Proofs.Ytbbgobahhcfjjaa.Bx
open Go.RowKit
structure Cfg7 (W : World) (b : Nat) (x0 x1 x2 x3 x4 x5 x6 : Int) : Prop where
  c0 : W.cell? ⟨b, 0, none⟩ = some (.int .i64 x0)
  c1 : W.cell? ⟨b, 1, none⟩ = some (.int .i64 x1)
  c2 : W.cell? ⟨b, 2, none⟩ = some (.int .i64 x2)
  c3 : W.cell? ⟨b, 3, none⟩ = some (.int .i64 x3)
  c4 : W.cell? ⟨b, 4, none⟩ = some (.int .i64 x4)
  c5 : W.cell? ⟨b, 5, none⟩ = some (.int .i64 x5)
  c6 : W.cell? ⟨b, 6, none⟩ = some (.int .i64 x6)
  size : b < W.heap.size
theorem Cfg7.below {W W' : World} {b : Nat} {x0 x1 x2 x3 x4 x5 x6 : Int} (h : Cfg7 W b x0 x1 x2 x3 x4 x5 x6) (hb : Below W.heap.size W W') : Cfg7 W' b x0 x1 x2 x3 x4 x5 x6 :=
  ⟨(hb.cell (p := ⟨b, 0, none⟩) h.size).trans h.c0, (hb.cell (p := ⟨b, 1, none⟩) h.size).trans h.c1, (hb.cell (p := ⟨b, 2, none⟩) h.size).trans h.c2, (hb.cell (p := ⟨b, 3, none⟩) h.size).trans h.c3, (hb.cell (p := ⟨b, 4, none⟩) h.size).trans h.c4, (hb.cell (p := ⟨b, 5, none⟩) h.size).trans h.c5, (hb.cell (p := ⟨b, 6, none⟩) h.size).trans h.c6, Nat.lt_of_lt_of_le h.size hb.size⟩
theorem Cfg7.alloc {W : World} {b : Nat} {x0 x1 x2 x3 x4 x5 x6 : Int} (h : Cfg7 W b x0 x1 x2 x3 x4 x5 x6) (o : Obj) : Cfg7 (W.alloc o) b x0 x1 x2 x3 x4 x5 x6 :=
  h.below ((Below.refl _ _).alloc (Nat.le_refl _) o)
theorem Cfg7.setFar {W : World} {b : Nat} {x0 x1 x2 x3 x4 x5 x6 : Int} (h : Cfg7 W b x0 x1 x2 x3 x4 x5 x6) (a : Addr) (v : Value) (ha : a.block ≠ b) : Cfg7 (W.setCell a v) b x0 x1 x2 x3 x4 x5 x6 := by
  have key : ∀ i u, W.cell? ⟨b, i, none⟩ = some u → (W.setCell a v).cell? ⟨b, i, none⟩ = some u := by
    intro i u hu
    rw [World.cell?_setCell_other _ _ _ _ (by intro e; exact ha (by rw [e]))]; exact hu
  exact ⟨key 0 _ h.c0, key 1 _ h.c1, key 2 _ h.c2, key 3 _ h.c3, key 4 _ h.c4, key 5 _ h.c5, key 6 _ h.c6, by have := h.size; simpa using this⟩
theorem Cfg7.made (w : World) (x0 x1 x2 x3 x4 x5 x6 : Int) (t : TypeId) : Cfg7 (w.alloc (.cells #[.int .i64 x0, .int .i64 x1, .int .i64 x2, .int .i64 x3, .int .i64 x4, .int .i64 x5, .int .i64 x6] t)) w.heap.size x0 x1 x2 x3 x4 x5 x6 := by
  refine ⟨?_, ?_, ?_, ?_, ?_, ?_, ?_, by simp⟩ <;> (rw [World.cell?_alloc_at _ _ _ _ rfl]; rfl)
/-- All seven cells written. -/
theorem Cfg7.stored {W : World} {b : Nat} {x0 x1 x2 x3 x4 x5 x6 : Int} (y0 y1 y2 y3 y4 y5 y6 : Int) (h : Cfg7 W b x0 x1 x2 x3 x4 x5 x6) :
    Cfg7 (((((((W.setCell ⟨b, 0, none⟩ (.int .i64 y0)).setCell ⟨b, 1, none⟩ (.int .i64 y1)).setCell ⟨b, 2, none⟩ (.int .i64 y2)).setCell ⟨b, 3, none⟩ (.int .i64 y3)).setCell ⟨b, 4, none⟩ (.int .i64 y4)).setCell ⟨b, 5, none⟩ (.int .i64 y5)).setCell ⟨b, 6, none⟩ (.int .i64 y6)) b y0 y1 y2 y3 y4 y5 y6 := by
  have d : ∀ i j : Nat, i ≠ j → (⟨b, i, none⟩ : Addr) ≠ ⟨b, j, none⟩ := by intro i j hij e; injection e with e1 e2 e3; exact hij e2
  have hs := h.size
  refine ⟨?_, ?_, ?_, ?_, ?_, ?_, ?_, by simpa using hs⟩
  · rw [World.cell?_setCell_other _ _ _ _ (d 6 0 (by decide))]; rw [World.cell?_setCell_other _ _ _ _ (d 5 0 (by decide))]; rw [World.cell?_setCell_other _ _ _ _ (d 4 0 (by decide))]; rw [World.cell?_setCell_other _ _ _ _ (d 3 0 (by decide))]; rw [World.cell?_setCell_other _ _ _ _ (d 2 0 (by decide))]; rw [World.cell?_setCell_other _ _ _ _ (d 1 0 (by decide))]; refine World.cell?_setCell_same _ _ _ (u := .int .i64 x0) ?_; exact h.c0
  · rw [World.cell?_setCell_other _ _ _ _ (d 6 1 (by decide))]; rw [World.cell?_setCell_other _ _ _ _ (d 5 1 (by decide))]; rw [World.cell?_setCell_other _ _ _ _ (d 4 1 (by decide))]; rw [World.cell?_setCell_other _ _ _ _ (d 3 1 (by decide))]; rw [World.cell?_setCell_other _ _ _ _ (d 2 1 (by decide))]; refine World.cell?_setCell_same _ _ _ (u := .int .i64 x1) ?_; rw [World.cell?_setCell_other _ _ _ _ (d 0 1 (by decide))]; exact h.c1
  · rw [World.cell?_setCell_other _ _ _ _ (d 6 2 (by decide))]; rw [World.cell?_setCell_other _ _ _ _ (d 5 2 (by decide))]; rw [World.cell?_setCell_other _ _ _ _ (d 4 2 (by decide))]; rw [World.cell?_setCell_other _ _ _ _ (d 3 2 (by decide))]; refine World.cell?_setCell_same _ _ _ (u := .int .i64 x2) ?_; rw [World.cell?_setCell_other _ _ _ _ (d 1 2 (by decide))]; rw [World.cell?_setCell_other _ _ _ _ (d 0 2 (by decide))]; exact h.c2
  · rw [World.cell?_setCell_other _ _ _ _ (d 6 3 (by decide))]; rw [World.cell?_setCell_other _ _ _ _ (d 5 3 (by decide))]; rw [World.cell?_setCell_other _ _ _ _ (d 4 3 (by decide))]; refine World.cell?_setCell_same _ _ _ (u := .int .i64 x3) ?_; rw [World.cell?_setCell_other _ _ _ _ (d 2 3 (by decide))]; rw [World.cell?_setCell_other _ _ _ _ (d 1 3 (by decide))]; rw [World.cell?_setCell_other _ _ _ _ (d 0 3 (by decide))]; exact h.c3
  · rw [World.cell?_setCell_other _ _ _ _ (d 6 4 (by decide))]; rw [World.cell?_setCell_other _ _ _ _ (d 5 4 (by decide))]; refine World.cell?_setCell_same _ _ _ (u := .int .i64 x4) ?_; rw [World.cell?_setCell_other _ _ _ _ (d 3 4 (by decide))]; rw [World.cell?_setCell_other _ _ _ _ (d 2 4 (by decide))]; rw [World.cell?_setCell_other _ _ _ _ (d 1 4 (by decide))]; rw [World.cell?_setCell_other _ _ _ _ (d 0 4 (by decide))]; exact h.c4
  · rw [World.cell?_setCell_other _ _ _ _ (d 6 5 (by decide))]; refine World.cell?_setCell_same _ _ _ (u := .int .i64 x5) ?_; rw [World.cell?_setCell_other _ _ _ _ (d 4 5 (by decide))]; rw [World.cell?_setCell_other _ _ _ _ (d 3 5 (by decide))]; rw [World.cell?_setCell_other _ _ _ _ (d 2 5 (by decide))]; rw [World.cell?_setCell_other _ _ _ _ (d 1 5 (by decide))]; rw [World.cell?_setCell_other _ _ _ _ (d 0 5 (by decide))]; exact h.c5
  · refine World.cell?_setCell_same _ _ _ (u := .int .i64 x6) ?_; rw [World.cell?_setCell_other _ _ _ _ (d 5 6 (by decide))]; rw [World.cell?_setCell_other _ _ _ _ (d 4 6 (by decide))]; rw [World.cell?_setCell_other _ _ _ _ (d 3 6 (by decide))]; rw [World.cell?_setCell_other _ _ _ _ (d 2 6 (by decide))]; rw [World.cell?_setCell_other _ _ _ _ (d 1 6 (by decide))]; rw [World.cell?_setCell_other _ _ _ _ (d 0 6 (by decide))]; exact h.c6
end Go.Proofs.Ytbbgobahhcfjjaa.Bx
