/-
  What a law of the model keeps: boxes of contents and of answers.
-/
import Derived.Test.YtegbcocbopgghabMlRight
import Derived.Test.YtegbcocbopgghabMdSort
namespace Go.Proofs.Ytegbcocbopgghab.Md
open Go.RowKit Mr Me
set_option linter.unusedVariables false
set_option linter.unusedSimpArgs false
/-- Contents in their box. -/
structure Cb (w : World) (b : Nat) (v0 v1 v2 v3 v4 : Value) (x : Ct) : Prop where
  box : w.heap[b]? = some (ctO v0 v1 v2 v3 v4)
  at_ : CtAt w (fun _ => True) v0 v1 v2 v3 v4 x
theorem Cb.next {w w' : World} {b : Nat} {v0 v1 v2 v3 v4 : Value} {x : Ct} (h : Cb w b v0 v1 v2 v3 v4 x) (hB : Below w.heap.size w w') : Cb w' b v0 v1 v2 v3 v4 x :=
  ⟨(hB.block _ (Array.getElem?_eq_some_iff.1 h.box).1).trans h.box, h.at_.below hB⟩
/-- An answer in its box. -/
structure Ab (w : World) (b : Nat) (k v : Int) : Prop where
  box : w.heap[b]? = some (ansO k v)
theorem Ab.next {w w' : World} {b : Nat} {k v : Int} (h : Ab w b k v) (hB : Below w.heap.size w w') : Ab w' b k v :=
  ⟨(hB.block _ (Array.getElem?_eq_some_iff.1 h.box).1).trans h.box⟩
structure Bl (w : World) (W : World) : Prop where
  bel : Below W.heap.size W w
theorem Bl.next {w w' W : World} (h : Bl w W) (hB : Below w.heap.size w w') : Bl w' W := ⟨h.bel.trans (hB.mono h.bel.size)⟩
/-- Behind a call of Do: the two boxes made. -/
theorem made {w w1 wM : World} {l0 l1 l2 l3 l4 : Value} {y : Ct} {a c : Int} {T : Nat → Prop} (hM : wM = (w1.alloc (ctO l0 l1 l2 l3 l4)).alloc (ansO a c)) (hB : Below w.heap.size w w1) (hl : CtAt w1 T l0 l1 l2 l3 l4 y) :
    Below w.heap.size w wM ∧ Cb wM w1.heap.size l0 l1 l2 l3 l4 y ∧ Ab wM (w1.heap.size + 1) a c := by
  subst hM
  have Y := ((Below.refl w1.heap.size w1).alloc (Nat.le_refl _) (ctO l0 l1 l2 l3 l4)).alloc (by simp) (ansO a c)
  exact ⟨hB.trans (Y.mono hB.size), ⟨old_at (new_at _ _ _ rfl) _, (hl.mono (fun _ _ => trivial)).below Y⟩, ⟨new_at _ _ _ (by simp)⟩⟩
/-- Behind right: its answer in the contents' own box. -/
theorem righted {W w1 wM : World} {u0 u1 u2 u3 u4 v0 v1 v2 v3 v4 : Value} {y : Ct} (hM : wM = set5 w1 W.heap.size v0 v1 v2 v3 v4) (hB : Below (W.heap.size + 1) (W.alloc (ctO u0 u1 u2 u3 u4)) w1) (hl : CtAt w1 (fun k => W.heap.size + 1 ≤ k) v0 v1 v2 v3 v4 y) :
    Bl wM W ∧ Cb wM W.heap.size v0 v1 v2 v3 v4 y ∧ w1.heap[W.heap.size]? = some (ctO u0 u1 u2 u3 u4) := by
  subst hM
  have B0 := (Below.refl W.heap.size W).alloc (Nat.le_refl _) (ctO u0 u1 u2 u3 u4)
  have g := (hB.block W.heap.size (by omega)).trans (new_at W (ctO u0 u1 u2 u3 u4) _ rfl)
  have B1 := B0.trans (hB.mono (by omega))
  exact ⟨⟨set5_below v0 v1 v2 v3 v4 B1 (Nat.le_refl _)⟩, ⟨set5_at v0 v1 v2 v3 v4 g, (hl.fr (set5_fr w1 W.heap.size v0 v1 v2 v3 v4) (fun k hk _ e => by subst e; omega)).mono (fun _ _ => trivial)⟩, g⟩
theorem sameT {w : World} {b b' : Nat} {v0 v1 v2 v3 v4 u0 u1 u2 u3 u4 : Value} {x : Ct} (h : Cb w b v0 v1 v2 v3 v4 x) (h' : Cb w b' u0 u1 u2 u3 u4 x) (sx : CtSm x) : Calls Try.prog 12 #[.agg #[v0, v1, v2, v3, v4], .agg #[u0, u1, u2, u3, u4]] w fun e w' => e = .returned (.bool true) ∧ Below w.heap.size w w' := by
  have C := mSame_any h.at_ h'.at_ sx sx
  rw [show ctB x x = true from by unfold ctB; simp] at C
  exact C
theorem mayT {w : World} {b : Nat} {v0 v1 v2 v3 v4 : Value} {x : Ct} (h : Cb w b v0 v1 v2 v3 v4 x) (sx : CtSm x) (hm : May x) : Calls Try.prog 13 #[.agg #[v0, v1, v2, v3, v4]] w fun e w' => e = .returned (.bool true) ∧ Below w.heap.size w w' := mMay_any h.at_ sx true (by simp [hm])
end Go.Proofs.Ytegbcocbopgghab.Md
