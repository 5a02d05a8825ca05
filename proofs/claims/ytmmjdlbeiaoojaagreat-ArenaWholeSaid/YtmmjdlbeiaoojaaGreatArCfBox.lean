import Derived.Test.YtmmjdlbeiaoojaaGreatJ39
/-
  A configuration's box.
-/
namespace Go.Proofs.YtmmjdlbeiaoojaaGreat.Ar
open Go.RowKit Go.Shelf Mr Me Ma Wc Wm Wr
theorem cf_box2 (w : World) (c : Cf) : (w.alloc (cfO c)).cell? ⟨w.heap.size, 0, none⟩ = some (.int .i64 c.a0) ∧ (w.alloc (cfO c)).cell? ⟨w.heap.size, 1, none⟩ = some (.int .i64 c.a1) ∧ (w.alloc (cfO c)).cell? ⟨w.heap.size, 2, none⟩ = some (.int .i64 c.a2) ∧ (w.alloc (cfO c)).cell? ⟨w.heap.size, 3, none⟩ = some (.int .i64 c.a3) ∧ (w.alloc (cfO c)).cell? ⟨w.heap.size, 4, none⟩ = some (.int .i64 c.a4) ∧ (w.alloc (cfO c)).cell? ⟨w.heap.size, 5, none⟩ = some (.int .i64 c.a5) ∧ (w.alloc (cfO c)).cell? ⟨w.heap.size, 6, none⟩ = some (.int .i64 c.a6) := by
  have hb : (w.alloc (cfO c)).heap[w.heap.size]? = some (cfO c) := heap_alloc_new w _
  generalize w.alloc (cfO c) = W at *
  simp [cfO] at hb
  simp [World.cell?, hb]
theorem Ka.box {w W : World} {c : Cf} {B : Nat} {v1 v2 v3 v4 : Value} {P : Pa} (h : Ka w W c B v1 v2 v3 v4 P) (o : Obj) : Ka w (W.alloc o) c B v1 v2 v3 v4 P := h.below ((Below.refl _ _).alloc (Nat.le_refl _) o)
theorem box_kept {W : World} {k : Nat} {o : Obj} (h : W.heap[k]? = some o) (o' : Obj) : (W.alloc o').heap[k]? = some o := (Below.heap_alloc _ _ _ (Array.getElem?_eq_some_iff.1 h).1).trans h
/-- A call in a box. -/
def clO (x : Cl) : Obj := .cells #[.int .i64 x.th, .int .i64 x.op, .int .i64 x.arg, .int .i64 x.data, .int .i64 x.beg, .int .i64 x.fin, .int .i64 x.pt, .int .i64 x.ak, .int .i64 x.av] 42 (0, 0)
theorem clO_cells {W : World} {k : Nat} {x : Cl} (h : W.heap[k]? = some (clO x)) : W.cell? ⟨k, 0, none⟩ = some (.int .i64 x.th) ∧ W.cell? ⟨k, 1, none⟩ = some (.int .i64 x.op) ∧ W.cell? ⟨k, 2, none⟩ = some (.int .i64 x.arg) ∧ W.cell? ⟨k, 3, none⟩ = some (.int .i64 x.data) ∧ W.cell? ⟨k, 4, none⟩ = some (.int .i64 x.beg) ∧ W.cell? ⟨k, 5, none⟩ = some (.int .i64 x.fin) ∧ W.cell? ⟨k, 6, none⟩ = some (.int .i64 x.pt) ∧ W.cell? ⟨k, 7, none⟩ = some (.int .i64 x.ak) ∧ W.cell? ⟨k, 8, none⟩ = some (.int .i64 x.av) := by
  unfold clO at h
  simp [World.cell?, h]
end Go.Proofs.YtmmjdlbeiaoojaaGreat.Ar
