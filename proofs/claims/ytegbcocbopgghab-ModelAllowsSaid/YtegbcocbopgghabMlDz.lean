/-
  What the laws of Do, Allows, Play keep: the contents, their copy, what is left, each in its box.
-/
import Derived.Test.YtegbcocbopgghabMlAwake
namespace Go.Proofs.Ytegbcocbopgghab.Md
open Go.RowKit Mr Me
set_option linter.unusedVariables false
set_option linter.unusedSimpArgs false
structure Dz (W w : World) (b1 bk bl : Nat) (u0 u1 u2 u3 u4 k0 k1 k2 k3 k4 l0 l1 l2 l3 l4 : Value) (x y : Ct) (ex : Option Obj) (fx : Nat → Option Obj) : Prop where
  bel : Below W.heap.size W w
  s : w.heap[b1]? = some (ctO u0 u1 u2 u3 u4)
  kept : w.heap[bk]? = some (ctO k0 k1 k2 k3 k4)
  left : w.heap[bl]? = some (ctO l0 l1 l2 l3 l4)
  more : ∀ o, ex = some o → w.heap[bl + 1]? = some o
  fix : ∀ b o, fx b = some o → w.heap[b]? = some o
  sat : CtAt w (fun _ => True) u0 u1 u2 u3 u4 x
  kat : CtAt w (fun _ => True) k0 k1 k2 k3 k4 x
  lat : CtAt w (fun _ => True) l0 l1 l2 l3 l4 y
theorem Dz.next {W w w' : World} {b1 bk bl : Nat} {u0 u1 u2 u3 u4 k0 k1 k2 k3 k4 l0 l1 l2 l3 l4 : Value} {x y : Ct} {ex : Option Obj} {fx : Nat → Option Obj} (h : Dz W w b1 bk bl u0 u1 u2 u3 u4 k0 k1 k2 k3 k4 l0 l1 l2 l3 l4 x y ex fx) (hB : Below w.heap.size w w') : Dz W w' b1 bk bl u0 u1 u2 u3 u4 k0 k1 k2 k3 k4 l0 l1 l2 l3 l4 x y ex fx :=
  ⟨h.bel.trans (hB.mono h.bel.size), (hB.block _ (Array.getElem?_eq_some_iff.1 h.s).1).trans h.s, (hB.block _ (Array.getElem?_eq_some_iff.1 h.kept).1).trans h.kept, (hB.block _ (Array.getElem?_eq_some_iff.1 h.left).1).trans h.left, fun o ho => (hB.block _ (Array.getElem?_eq_some_iff.1 (h.more o ho)).1).trans (h.more o ho), fun b o ho => (hB.block _ (Array.getElem?_eq_some_iff.1 (h.fix b o ho)).1).trans (h.fix b o ho), h.sat.below hB, h.kat.below hB, h.lat.below hB⟩
/-- Ahead of it: the contents and their copy. -/
structure Dk (W w : World) (b1 bk : Nat) (u0 u1 u2 u3 u4 k0 k1 k2 k3 k4 : Value) (x : Ct) (fx : Nat → Option Obj) : Prop where
  bel : Below W.heap.size W w
  s : w.heap[b1]? = some (ctO u0 u1 u2 u3 u4)
  kept : w.heap[bk]? = some (ctO k0 k1 k2 k3 k4)
  fix : ∀ b o, fx b = some o → w.heap[b]? = some o
  sat : CtAt w (fun _ => True) u0 u1 u2 u3 u4 x
  kat : CtAt w (fun _ => True) k0 k1 k2 k3 k4 x
theorem Dk.next {W w w' : World} {b1 bk : Nat} {u0 u1 u2 u3 u4 k0 k1 k2 k3 k4 : Value} {x : Ct} {fx : Nat → Option Obj} (h : Dk W w b1 bk u0 u1 u2 u3 u4 k0 k1 k2 k3 k4 x fx) (hB : Below w.heap.size w w') : Dk W w' b1 bk u0 u1 u2 u3 u4 k0 k1 k2 k3 k4 x fx :=
  ⟨h.bel.trans (hB.mono h.bel.size), (hB.block _ (Array.getElem?_eq_some_iff.1 h.s).1).trans h.s, (hB.block _ (Array.getElem?_eq_some_iff.1 h.kept).1).trans h.kept, fun b o ho => (hB.block _ (Array.getElem?_eq_some_iff.1 (h.fix b o ho)).1).trans (h.fix b o ho), h.sat.below hB, h.kat.below hB⟩
theorem Dk.first {W w0 w1 : World} {b1 : Nat} {u0 u1 u2 u3 u4 k0 k1 k2 k3 k4 : Value} {x : Ct} {T : Nat → Prop} {fx : Nat → Option Obj} (hf : ∀ b o, fx b = some o → w0.heap[b]? = some o) (hb : Below W.heap.size W w0) (hs : w0.heap[b1]? = some (ctO u0 u1 u2 u3 u4)) (hu : CtAt w0 (fun _ => True) u0 u1 u2 u3 u4 x) (hB : Below w0.heap.size w0 w1) (hk : CtAt w1 T k0 k1 k2 k3 k4 x) :
    Dk W (w1.alloc (ctO k0 k1 k2 k3 k4)) b1 w1.heap.size u0 u1 u2 u3 u4 k0 k1 k2 k3 k4 x fx := by
  have h1 := hb.trans (hB.mono hb.size)
  have Y := (Below.refl w1.heap.size w1).alloc (Nat.le_refl _) (ctO k0 k1 k2 k3 k4)
  exact ⟨h1.alloc h1.size _, old_at ((hB.block _ (Array.getElem?_eq_some_iff.1 hs).1).trans hs) _, new_at _ _ _ rfl, fun b o ho => old_at ((hB.block _ (Array.getElem?_eq_some_iff.1 (hf b o ho)).1).trans (hf b o ho)) _, (hu.below hB).below Y, (hk.mono (fun _ _ => trivial)).below Y⟩
theorem Dk.then1 {W w0 w1 : World} {b1 bk : Nat} {u0 u1 u2 u3 u4 k0 k1 k2 k3 k4 l0 l1 l2 l3 l4 : Value} {x y : Ct} {T : Nat → Prop} {fx : Nat → Option Obj} (h : Dk W w0 b1 bk u0 u1 u2 u3 u4 k0 k1 k2 k3 k4 x fx) (hB : Below w0.heap.size w0 w1) (hl : CtAt w1 T l0 l1 l2 l3 l4 y) :
    Dz W (w1.alloc (ctO l0 l1 l2 l3 l4)) b1 bk w1.heap.size u0 u1 u2 u3 u4 k0 k1 k2 k3 k4 l0 l1 l2 l3 l4 x y none fx := by
  have g := h.next hB
  have Y := (Below.refl w1.heap.size w1).alloc (Nat.le_refl _) (ctO l0 l1 l2 l3 l4)
  have g2 := g.next Y
  exact ⟨g2.bel, g2.s, g2.kept, new_at _ _ _ rfl, fun o ho => (by cases ho), g2.fix, g2.sat, g2.kat, (hl.mono (fun _ _ => trivial)).below Y⟩
theorem Dk.then2 {W w0 w1 : World} {b1 bk : Nat} {u0 u1 u2 u3 u4 k0 k1 k2 k3 k4 l0 l1 l2 l3 l4 : Value} {x y : Ct} {T : Nat → Prop} {fx : Nat → Option Obj} (o : Obj) (h : Dk W w0 b1 bk u0 u1 u2 u3 u4 k0 k1 k2 k3 k4 x fx) (hB : Below w0.heap.size w0 w1) (hl : CtAt w1 T l0 l1 l2 l3 l4 y) :
    Dz W ((w1.alloc (ctO l0 l1 l2 l3 l4)).alloc o) b1 bk w1.heap.size u0 u1 u2 u3 u4 k0 k1 k2 k3 k4 l0 l1 l2 l3 l4 x y (some o) fx := by
  have g := h.next hB
  have Y := ((Below.refl w1.heap.size w1).alloc (Nat.le_refl _) (ctO l0 l1 l2 l3 l4)).alloc (by simp) o
  have g2 := g.next Y
  exact ⟨g2.bel, g2.s, g2.kept, old_at (new_at _ _ _ rfl) _, fun o' ho => (by cases ho; exact new_at _ _ _ (by simp)), g2.fix, g2.sat, g2.kat, (hl.mono (fun _ _ => trivial)).below Y⟩
theorem ctB_same (x : Ct) : ctB x x = true := by unfold ctB; simp
end Go.Proofs.Ytegbcocbopgghab.Md
