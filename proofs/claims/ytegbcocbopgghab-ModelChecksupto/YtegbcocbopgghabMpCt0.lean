/-
  Package model: no contents; labels of one object.
-/
import Derived.Test.YtegbcocbopgghabMpCont
import Derived.Test.YtegbcocbopgghabMdAllows
namespace Go.Proofs.Ytegbcocbopgghab.Md
open Go.RowKit Mr
set_option linter.unusedVariables false
def labx (lab : Nat → Nat) (s i k : Nat) : Nat := if lab k = i ∨ s ≤ k then i else 5
theorem labx_in {lab : Nat → Nat} {s i k : Nat} (h : lab k = i ∨ s ≤ k) : labx lab s i k = i := if_pos h
theorem labx_lt {lab : Nat → Nat} {s i k : Nat} (h : labx lab s i k < 5) : lab k = i ∨ s ≤ k := by
  by_cases c : lab k = i ∨ s ≤ k
  · exact c
  · unfold labx at h; rw [if_neg c] at h; omega
theorem ct0_own (w : World) (B : Nat) : CtOwn w B (fun _ => 5) (.slice none 0 0) (.slice none 0 0) (.slice none 0 0) (.slice none 0 0) (.slice none 0 0) ct0 := ⟨fun k h => absurd h (by decide), Own.zero _ _ _ _ _, Own.zero _ _ _ _ _, Own.zero _ _ _ _ _, Own.zero _ _ _ _ _, Own.zero _ _ _ _ _⟩
theorem Tq.res {W w w' : World} {n : Nat} {o r : Obj} {T : Nat → Prop} (h : Tq W w n (n + 1) o r) (hF : Fr w w' T) (hT : ¬ T (n + 1)) : w'.heap[n + 1]? = some r := (hF.block _ h.2.2.2.1 hT).trans h.2.2.1
end Go.Proofs.Ytegbcocbopgghab.Md
