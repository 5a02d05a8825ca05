import Derived.Test.YtnbibkohgppjnaaGreatJ04
import Derived.Deep.RegionHeld3
set_option linter.unusedVariables false
set_option linter.unusedSimpArgs false
namespace Go.Proofs.YtnbibkohgppjnaaGreat.Md
open Go.RowKit Mr Me
def Tr (lo bs : Nat) : Nat → Prop := fun k => lo ≤ k ∧ k ≠ bs ∧ (k < lo ∨ lo + 3 ≤ k)
theorem Ds.app_box {W w w' : World} {bs : Nat} {v0 v1 v2 v3 v4 : Value} {y : Ct} (h : Ds W w (fun k => W.heap.size ≤ k) bs v0 v1 v2 v3 v4 y) (hH : CtHas w (Tr W.heap.size bs) v0 v1 v2 v3 v4 y) (hg : w.grownBy w' v2.ownBlock) :
  w'.heap[bs]? = some (ctO v0 v1 v2 v3 v4) ∧ True := by
 refine ⟨(hg.block bs (Array.getElem?_eq_some_iff.1 h.box).1 (fun e => ?_)).trans h.box, trivial⟩
 have := (hH.queue.lt bs e.symm).1
 unfold Tr at this
 omega
theorem Ds.app {W w w' : World} {bs : Nat} {v0 v1 v2 v3 v4 : Value} {y : Ct} {arg : Int} (h : Ds W w (fun k => W.heap.size ≤ k) bs v0 v1 v2 v3 v4 y) (hH : CtHas w (Tr W.heap.size bs) v0 v1 v2 v3 v4 y) (hJ : Dj v0 v1 v2 v3 v4) (hg : w.grownBy w' v2.ownBlock) {v' : Value}
  (hs : Has w' (Tr W.heap.size bs) 3 1 v' (y.queue.length + 1) (ints y.queue ++ [.int .i64 arg])) : Ds W (w'.setCell ⟨bs, 2, none⟩ v') (fun k => W.heap.size ≤ k) bs v0 v1 v' v3 v4 { y with queue := y.queue ++ [arg] } := by
 have hq : ∀ k, v2.ownBlock = some k → W.heap.size + 3 ≤ k ∧ k ≠ bs := fun k hk => by have := (hH.queue.lt k hk).1; unfold Tr at this; omega
 have hbel : Below W.heap.size W w' := h.bel.grown hg h.bel.size (fun k e => by have := hq k e; omega)
 have hbx := (Ds.app_box h hH hg).1
 have ha := h.apart
 have hfr : Fr w' (w'.setCell ⟨bs, 2, none⟩ v') (fun q => q = bs) := (Fr.refl w' _).setCell ⟨bs, 2, none⟩ v' (Or.inl rfl)
 have hd : ∀ k, Tr W.heap.size bs k → k < w'.heap.size → ¬ (fun q => q = bs) k := fun k hk _ e => hk.2.1 e
 have g : ∀ {e size m : Nat} {v : Value} {xs : List Value}, Has w (Tr W.heap.size bs) e size v m xs → (∀ k, v.ownBlock = some k → v2.ownBlock ≠ some k) → Sl (w'.setCell ⟨bs, 2, none⟩ v') (Tr W.heap.size bs) size v m xs := fun {e size m v xs} hh hn => (Sl.of_has (hh.grown hg hn)).fr hfr hd
 have hb2 := setBlk hbx 2 v'
 refine ⟨hbel.setCell (p := ⟨bs, 2, none⟩) (by show _ ≤ bs; omega) v', (Below.heap_setCell w' ⟨bs, 2, none⟩ v' _ (by show _ ≠ bs; omega)).trans ((hg.block _ (Array.getElem?_eq_some_iff.1 h.res).1 (fun e => by have := hq _ e.symm; omega)).trans h.res), (Below.heap_setCell w' ⟨bs, 2, none⟩ v' _ (by show _ ≠ bs; omega)).trans ((hg.block _ (Array.getElem?_eq_some_iff.1 h.ans).1 (fun e => by have := hq _ e.symm; omega)).trans h.ans), hb2, h.apart, ?_⟩
 refine ⟨g hH.cell (fun k hk e => (hJ k e).1 hk), g hH.stack (fun k hk e => (hJ k e).2.1 hk), ?_, g hH.set (fun k hk e => (hJ k e).2.2.1 hk), g hH.table (fun k hk e => (hJ k e).2.2.2 hk)⟩
 have := (Sl.of_has hs).fr hfr hd
 show Sl _ (Tr W.heap.size bs) 1 v' _ _
 simpa [ints] using this
end Go.Proofs.YtnbibkohgppjnaaGreat.Md
