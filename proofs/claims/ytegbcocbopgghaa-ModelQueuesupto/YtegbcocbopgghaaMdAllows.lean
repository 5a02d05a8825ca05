import Derived.Test.YtegbcocbopgghaaMdKeyed
/-
  reclaimmodel.Allows, of any call whose op has an object.
-/
namespace Go.Proofs.Ytegbcocbopgghaa.Md
open Go.RowKit Mr Me
set_option linter.unusedVariables false
set_option linter.unusedSimpArgs false
/-- A call. -/
structure Cq where
  th : Int
  op : Int
  arg : Int
  data : Int
  beg : Int
  fin : Int
  pt : Int
  ak : Int
  av : Int
def ct0 : Ct := ⟨[], [], [], [], []⟩
/-- An op that may find no room. -/
def fullOp (op : Int) : Prop := op = 22 ∨ op = 30 ∨ op = 40 ∨ op = 50 ∨ op = 60
instance decFull (op : Int) : Decidable (fullOp op) := by unfold fullOp; infer_instance
/-- Whether a call may answer so, and what it leaves then. -/
def alw (x : Ct) (c : Cq) : Ct × Bool :=
  if c.ak = 0 then (dnx x c.op c.arg c.data, true)
  else if c.ak = 4 then (if fullOp c.op then (x, true) else (ct0, false))
  else if dan x c.op c.arg = (c.ak, c.av) then (dnx x c.op c.arg c.data, true) else (ct0, false)
theorem end5a {W w : World} {T : Nat → Prop} {b : Nat} {u0 u1 u2 u3 u4 v0 v1 v2 v3 v4 : Value} {y : Ct} (hBe : Below W.heap.size W w) (hb : W.heap.size ≤ b) (hbx : w.heap[b]? = some (ctO u0 u1 u2 u3 u4)) (hy : CtAt w T v0 v1 v2 v3 v4 y) (hT : ∀ k, T k → W.heap.size ≤ k ∧ k ≠ b) :
    CtAt (set5 w b v0 v1 v2 v3 v4) (fun k => W.heap.size ≤ k) v0 v1 v2 v3 v4 y ∧ Below W.heap.size W (set5 w b v0 v1 v2 v3 v4) ∧ (set5 w b v0 v1 v2 v3 v4).heap[b]? = some (ctO v0 v1 v2 v3 v4) :=
  ⟨(hy.fr (set5_fr w b v0 v1 v2 v3 v4) (fun k hk _ e => (hT k hk).2 e)).mono (fun k hk => (hT k hk).1), set5_below v0 v1 v2 v3 v4 hBe hb, set5_at v0 v1 v2 v3 v4 hbx⟩
theorem ct0_at (w : World) (T : Nat → Prop) : CtAt w T (.slice none 0 0) (.slice none 0 0) (.slice none 0 0) (.slice none 0 0) (.slice none 0 0) ct0 := ⟨Sl.nil _ _ _, Sl.nil _ _ _, Sl.nil _ _ _, Sl.nil _ _ _, Sl.nil _ _ _⟩
end Go.Proofs.Ytegbcocbopgghaa.Md
