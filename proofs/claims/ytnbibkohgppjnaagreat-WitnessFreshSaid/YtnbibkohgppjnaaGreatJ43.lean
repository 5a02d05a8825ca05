import Derived.Test.YtnbibkohgppjnaaGreatJ10
import Derived.Test.YtnbibkohgppjnaaGreatJ13
import Derived.Test.YtnbibkohgppjnaaGreatJ08
import Derived.Test.YtnbibkohgppjnaaGreatJ04
import Derived.Deep.LoopGhost
import Derived.Deep.CutRange
set_option linter.unusedVariables false
set_option linter.unusedSimpArgs false
set_option maxRecDepth 100000
namespace Go.Proofs.YtnbibkohgppjnaaGreat.Wt
open Go.RowKit Mr Md
structure Dq (W w : World) (v0 v1 v2 v3 v4 : Value) (y : Ct) : Prop where
 bel : Below W.heap.size W w
 res : w.heap[W.heap.size]? = some (ctO (.slice none 0 0) (.slice none 0 0) (.slice none 0 0) (.slice none 0 0) (.slice none 0 0))
 box : w.heap[W.heap.size + 1]? = some (ctO v0 v1 v2 v3 v4)
 at_ : CtAt w (fun k => W.heap.size + 2 ≤ k) v0 v1 v2 v3 v4 y
theorem Dq.below {W w w' : World} {v0 v1 v2 v3 v4 : Value} {y : Ct} (h : Dq W w v0 v1 v2 v3 v4 y) (hB : Below w.heap.size w w') : Dq W w' v0 v1 v2 v3 v4 y :=
 ⟨h.bel.trans (hB.mono h.bel.size), (hB.block _ (Array.getElem?_eq_some_iff.1 h.res).1).trans h.res, (hB.block _ (Array.getElem?_eq_some_iff.1 h.box).1).trans h.box, h.at_.below hB⟩
theorem Dq.next {W w : World} {u0 u1 u2 u3 u4 v0 v1 v2 v3 v4 : Value} {y z : Ct} (h : Dq W w u0 u1 u2 u3 u4 y) (hz : CtAt w (fun k => W.heap.size + 2 ≤ k) v0 v1 v2 v3 v4 z) : Dq W (set5 w (W.heap.size + 1) v0 v1 v2 v3 v4) v0 v1 v2 v3 v4 z :=
 ⟨set5_below v0 v1 v2 v3 v4 h.bel (by omega), (set5_far w (W.heap.size + 1) v0 v1 v2 v3 v4 _ (by omega)).trans h.res, set5_at v0 v1 v2 v3 v4 h.box, hz.fr (set5_fr w (W.heap.size + 1) v0 v1 v2 v3 v4) (fun k hk _ e => by subst e; omega)⟩
theorem Dq.first (W : World) : Dq W ((W.alloc (ctO (.slice none 0 0) (.slice none 0 0) (.slice none 0 0) (.slice none 0 0) (.slice none 0 0))).alloc (ctO (.slice none 0 0) (.slice none 0 0) (.slice none 0 0) (.slice none 0 0) (.slice none 0 0))) (.slice none 0 0) (.slice none 0 0) (.slice none 0 0) (.slice none 0 0) (.slice none 0 0) ct0 :=
 ⟨((Below.refl _ _).alloc (Nat.le_refl _) _).alloc (by simp) _, old_at (new_at _ _ _ rfl) _, new_at _ _ _ (by simp), ct0_at _ _⟩
end Go.Proofs.YtnbibkohgppjnaaGreat.Wt
