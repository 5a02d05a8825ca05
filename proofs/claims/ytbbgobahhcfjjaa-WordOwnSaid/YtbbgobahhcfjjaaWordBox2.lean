/-
  MORE SMALL LAWS on worlds behind calls that only make memory.
-/
import Derived.Test.YtbbgobahhcfjjaaWordBox
namespace Go.Proofs.Ytbbgobahhcfjjaa.Bx
open Go.RowKit
theorem twoAllocA {w w1 : World} {o p : Obj} (B : Below (w.heap.size + 2) ((w.alloc o).alloc p) w1) : ∀ q k, (w1.alloc q).cell? ⟨w.heap.size, k, none⟩ = ((w.alloc o).alloc p).cell? ⟨w.heap.size, k, none⟩ := by
  intro q k
  have hs := B.size
  simp at hs
  exact ((B.alloc (by omega) q)).cell (by simp)
theorem twoAllocB {w w1 : World} {o p : Obj} (B : Below (w.heap.size + 2) ((w.alloc o).alloc p) w1) : ∀ q k, (w1.alloc q).cell? ⟨w.heap.size + 1, k, none⟩ = ((w.alloc o).alloc p).cell? ⟨w.heap.size + 1, k, none⟩ := by
  intro q k
  have hs := B.size
  simp at hs
  exact ((B.alloc (by omega) q)).cell (by simp)
theorem oneAlloc {w w1 : World} {o : Obj} (B : Below (w.heap.size + 1) (w.alloc o) w1) : ∀ q k, (w1.alloc q).cell? ⟨w.heap.size, k, none⟩ = (w.alloc o).cell? ⟨w.heap.size, k, none⟩ := by
  intro q k
  have hs := B.size
  simp at hs
  exact ((B.alloc (by omega) q)).cell (by simp)
end Go.Proofs.Ytbbgobahhcfjjaa.Bx
