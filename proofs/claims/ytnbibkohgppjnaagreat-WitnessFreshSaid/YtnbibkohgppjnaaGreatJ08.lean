import Derived.Test.YtnbibkohgppjnaaGreatJ07
set_option linter.unusedVariables false
set_option linter.unusedSimpArgs false
namespace Go.Proofs.YtnbibkohgppjnaaGreat.Md
open Go.RowKit Mr Me
structure Cq where
 th : Int
 op : Int
 arg : Int
 data : Int
 beg : Int
 fin : Int
 pt : Int
 ak : Int
 av : Int
def Cq.val (c : Cq) : Value := .agg #[.int .i64 c.th, .int .i64 c.op, .int .i64 c.arg, .int .i64 c.data, .int .i64 c.beg, .int .i64 c.fin, .int .i64 c.pt, .int .i64 c.ak, .int .i64 c.av]
def cqO (c : Cq) : Obj := .cells #[.int .i64 c.th, .int .i64 c.op, .int .i64 c.arg, .int .i64 c.data, .int .i64 c.beg, .int .i64 c.fin, .int .i64 c.pt, .int .i64 c.ak, .int .i64 c.av] 45 (0, 0)
theorem cq_cells {W : World} {b : Nat} {c : Cq} (h : W.heap[b]? = some (cqO c)) : W.cell? ⟨b, 0, none⟩ = some (.int .i64 c.th) ∧ W.cell? ⟨b, 1, none⟩ = some (.int .i64 c.op) ∧ W.cell? ⟨b, 2, none⟩ = some (.int .i64 c.arg) ∧ W.cell? ⟨b, 3, none⟩ = some (.int .i64 c.data) ∧ W.cell? ⟨b, 4, none⟩ = some (.int .i64 c.beg) ∧ W.cell? ⟨b, 5, none⟩ = some (.int .i64 c.fin) ∧ W.cell? ⟨b, 6, none⟩ = some (.int .i64 c.pt) ∧ W.cell? ⟨b, 7, none⟩ = some (.int .i64 c.ak) ∧ W.cell? ⟨b, 8, none⟩ = some (.int .i64 c.av) ∧ b < W.heap.size := by
 have hlt := (Array.getElem?_eq_some_iff.1 h).1
 unfold cqO at h
 exact ⟨by simp [World.cell?, h], by simp [World.cell?, h], by simp [World.cell?, h], by simp [World.cell?, h], by simp [World.cell?, h], by simp [World.cell?, h], by simp [World.cell?, h], by simp [World.cell?, h], by simp [World.cell?, h], hlt⟩
def ct0 : Ct := ⟨[], [], [], [], []⟩
def fullOp (op : Int) : Prop := op = 22 ∨ op = 30 ∨ op = 40 ∨ op = 50 ∨ op = 60
instance decFull (op : Int) : Decidable (fullOp op) := by unfold fullOp; infer_instance
def alw (x : Ct) (c : Cq) : Ct × Bool :=
 if c.ak = 0 then (dnx x c.op c.arg c.data, true)
 else if c.ak = 4 then (if fullOp c.op then (x, true) else (ct0, false))
 else if dan x c.op c.arg = (c.ak, c.av) then (dnx x c.op c.arg c.data, true) else (ct0, false)
theorem end5a {W w : World} {T : Nat → Prop} {b : Nat} {u0 u1 u2 u3 u4 v0 v1 v2 v3 v4 : Value} {y : Ct} (hBe : Below W.heap.size W w) (hb : W.heap.size ≤ b) (hbx : w.heap[b]? = some (ctO u0 u1 u2 u3 u4)) (hy : CtAt w T v0 v1 v2 v3 v4 y) (hT : ∀ k, T k → W.heap.size ≤ k ∧ k ≠ b) :
  CtAt (set5 w b v0 v1 v2 v3 v4) (fun k => W.heap.size ≤ k) v0 v1 v2 v3 v4 y ∧ Below W.heap.size W (set5 w b v0 v1 v2 v3 v4) ∧ (set5 w b v0 v1 v2 v3 v4).heap[b]? = some (ctO v0 v1 v2 v3 v4) :=
 ⟨(hy.fr (set5_fr w b v0 v1 v2 v3 v4) (fun k hk _ e => (hT k hk).2 e)).mono (fun k hk => (hT k hk).1), set5_below v0 v1 v2 v3 v4 hBe hb, set5_at v0 v1 v2 v3 v4 hbx⟩
theorem ct0_at (w : World) (T : Nat → Prop) : CtAt w T (.slice none 0 0) (.slice none 0 0) (.slice none 0 0) (.slice none 0 0) (.slice none 0 0) ct0 := ⟨Sl.nil _ _ _, Sl.nil _ _ _, Sl.nil _ _ _, Sl.nil _ _ _, Sl.nil _ _ _⟩
structure Da (W w : World) (c : Cq) (u0 u1 u2 u3 u4 : Value) (b6 : Nat) (v0 v1 v2 v3 v4 : Value) (y : Ct) (ak av : Int) : Prop where
 bel : Below W.heap.size W w
 arg : w.heap[W.heap.size]? = some (ctO u0 u1 u2 u3 u4)
 call : w.heap[W.heap.size + 1]? = some (cqO c)
 res : w.heap[W.heap.size + 2]? = some (ctO (.slice none 0 0) (.slice none 0 0) (.slice none 0 0) (.slice none 0 0) (.slice none 0 0))
 left : w.heap[b6]? = some (ctO v0 v1 v2 v3 v4)
 ans : w.heap[b6 + 1]? = some (ansO ak av)
 apart : W.heap.size + 3 ≤ b6
 at_ : CtAt w (fun k => W.heap.size + 3 ≤ k) v0 v1 v2 v3 v4 y
theorem Da.below {W w w' : World} {c : Cq} {u0 u1 u2 u3 u4 v0 v1 v2 v3 v4 : Value} {b6 : Nat} {y : Ct} {ak av : Int} (h : Da W w c u0 u1 u2 u3 u4 b6 v0 v1 v2 v3 v4 y ak av) (hB : Below w.heap.size w w') : Da W w' c u0 u1 u2 u3 u4 b6 v0 v1 v2 v3 v4 y ak av :=
 ⟨h.bel.trans (hB.mono h.bel.size), (hB.block _ (Array.getElem?_eq_some_iff.1 h.arg).1).trans h.arg, (hB.block _ (Array.getElem?_eq_some_iff.1 h.call).1).trans h.call, (hB.block _ (Array.getElem?_eq_some_iff.1 h.res).1).trans h.res, (hB.block _ (Array.getElem?_eq_some_iff.1 h.left).1).trans h.left, (hB.block _ (Array.getElem?_eq_some_iff.1 h.ans).1).trans h.ans, h.apart, h.at_.below hB⟩
end Go.Proofs.YtnbibkohgppjnaaGreat.Md
