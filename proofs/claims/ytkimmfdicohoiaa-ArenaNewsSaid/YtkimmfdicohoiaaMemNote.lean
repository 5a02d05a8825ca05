import Derived.Test.YtkimmfdicohoiaaMemNew
import Derived.Deep.RegionLaw
/-
  note and write by their contracts.
-/
namespace Go.Proofs.Ytkimmfdicohoiaa.Me
open Go.RowKit Mr
theorem setBlk {W : World} {b : Nat} {cs : Array Value} {t : TypeId} {fr : Nat × Nat} (h : W.heap[b]? = some (.cells cs t fr)) (o : Nat) (v : Value) : (W.setCell ⟨b, o, none⟩ v).heap[b]? = some (.cells (cs.setIfInBounds o v) t fr) := by
  obtain ⟨hlt, hk⟩ := Array.getElem?_eq_some_iff.1 h
  show (W.heap.modify b _)[b]? = _
  rw [Array.getElem?_eq_getElem (by rw [Array.size_modify]; exact hlt), Array.getElem_modify_self, hk]
  rfl
theorem newsAt (w w' : World) (cs : Array Value) (t : TypeId) (B : Nat) (hB : B = w.heap.size) (hw : w'.heap = (w.alloc (.cells cs t)).heap) : ∀ j u, cs.toList[j]? = some u → w'.cell? ((⟨B, 0, none⟩ : Addr).add j) = some u := by
  subst hB
  exact World.news_of_block (by rw [hw]; exact heap_alloc_new w _)
section
variable {W : World} {S : Nat → Prop} {b : Nat} {vw vl va : Value} {ws : List Int} {mv : Int} {lg : List Acc} {ah : List Int}
end
end Go.Proofs.Ytkimmfdicohoiaa.Me
