import Derived.Test.YtkimmfdicohoiaaWordBox
/-
  MORE SMALL LAWS on worlds behind calls that only make memory.
-/
namespace Go.Proofs.Ytkimmfdicohoiaa.Bx
open Go.RowKit
theorem oneAlloc {w w1 : World} {o : Obj} (B : Below (w.heap.size + 1) (w.alloc o) w1) : ∀ q k, (w1.alloc q).cell? ⟨w.heap.size, k, none⟩ = (w.alloc o).cell? ⟨w.heap.size, k, none⟩ := by
  intro q k
  have hs := B.size
  simp at hs
  exact ((B.alloc (by omega) q)).cell (by simp)
end Go.Proofs.Ytkimmfdicohoiaa.Bx
