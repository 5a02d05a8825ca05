import Derived.Test.YtglohochdgeonaaJ09
/-
  reclaimmodel.Do, of every op that has an object.
-/
namespace Go.Proofs.Ytglohochdgeonaa.Md
open Go.RowKit Mr Me
set_option linter.unusedVariables false
set_option linter.unusedSimpArgs false

theorem ends_any {W w : World} {T : Nat → Prop} {v0 v1 v2 v3 v4 : Value} {y : Ct} {u0 u1 u2 u3 u4 : Value} {a b : Int} (hb : Below W.heap.size W w) (hr : w.heap[W.heap.size + 1]? = some (ctO u0 u1 u2 u3 u4)) (ha : w.heap[W.heap.size + 2]? = some (ansO a b)) (hat : CtAt w T v0 v1 v2 v3 v4 y) (hT : ∀ k, T k → W.heap.size ≤ k ∧ k ≠ W.heap.size + 1 ∧ k ≠ W.heap.size + 2) (k v : Int) :
    CtAt (set7 w (W.heap.size + 1) v0 v1 v2 v3 v4 (W.heap.size + 2) k v) (fun q => W.heap.size ≤ q) v0 v1 v2 v3 v4 y ∧ Below W.heap.size W (set7 w (W.heap.size + 1) v0 v1 v2 v3 v4 (W.heap.size + 2) k v) ∧
    (set7 w (W.heap.size + 1) v0 v1 v2 v3 v4 (W.heap.size + 2) k v).heap[W.heap.size + 1]? = some (ctO v0 v1 v2 v3 v4) ∧ (set7 w (W.heap.size + 1) v0 v1 v2 v3 v4 (W.heap.size + 2) k v).heap[W.heap.size + 2]? = some (ansO k v) := by
  have h1 := set5_at v0 v1 v2 v3 v4 hr
  have h2 := set5_below v0 v1 v2 v3 v4 hb (Nat.le_succ _)
  have h3 := (set5_far w (W.heap.size + 1) v0 v1 v2 v3 v4 (W.heap.size + 2) (by omega)).trans ha
  have hf := (set5_fr w (W.heap.size + 1) v0 v1 v2 v3 v4).mono (T := fun q => q = W.heap.size + 1 ∨ q = W.heap.size + 2) (fun q hq => .inl hq)
  unfold set7
  generalize set5 w (W.heap.size + 1) v0 v1 v2 v3 v4 = w5 at *
  have h4 := setBlk (setBlk h3 0 (.int .i64 k)) 1 (.int .i64 v)
  have hf2 : ∀ q, q ≠ W.heap.size + 2 → ((w5.setCell ⟨W.heap.size + 2, 0, none⟩ (.int .i64 k)).setCell ⟨W.heap.size + 2, 1, none⟩ (.int .i64 v)).heap[q]? = w5.heap[q]? := fun q hq => by
    rw [Below.heap_setCell _ _ _ q hq, Below.heap_setCell _ _ _ q hq]
  have hfr : Fr w ((w5.setCell ⟨W.heap.size + 2, 0, none⟩ (.int .i64 k)).setCell ⟨W.heap.size + 2, 1, none⟩ (.int .i64 v)) (fun q => q = W.heap.size + 1 ∨ q = W.heap.size + 2) :=
    (hf.setCell ⟨W.heap.size + 2, 0, none⟩ (.int .i64 k) (Or.inl (Or.inr rfl))).setCell ⟨W.heap.size + 2, 1, none⟩ (.int .i64 v) (Or.inl (Or.inr rfl))
  exact ⟨(hat.fr hfr (fun q hq hl e => by have := hT q hq; omega)).mono (fun q hq => (hT q hq).1), (h2.setCell (p := ⟨W.heap.size + 2, 0, none⟩) (Nat.le_add_right _ 2) _).setCell (p := ⟨W.heap.size + 2, 1, none⟩) (Nat.le_add_right _ 2) _, (hf2 _ (by omega)).trans h1, h4⟩

theorem ne_pos {α : Type} {l : List α} (h : l ≠ []) : 0 < l.length := by cases l with
  | nil => exact absurd rfl h
  | cons a l => simp

end Go.Proofs.Ytglohochdgeonaa.Md
/-
  reclaimmodel.Allows, of any call whose op has an object.
-/
namespace Go.Proofs.Ytglohochdgeonaa.Md
open Go.RowKit Mr Me
set_option linter.unusedVariables false
set_option linter.unusedSimpArgs false
/-- A call. -/
structure Cq where
  th : Int
  op : Int
  arg : Int
  data : Int
  beg : Int
  fin : Int
  pt : Int
  ak : Int
  av : Int
def Cq.val (c : Cq) : Value := .agg #[.int .i64 c.th, .int .i64 c.op, .int .i64 c.arg, .int .i64 c.data, .int .i64 c.beg, .int .i64 c.fin, .int .i64 c.pt, .int .i64 c.ak, .int .i64 c.av]
def cqO (c : Cq) : Obj := .cells #[.int .i64 c.th, .int .i64 c.op, .int .i64 c.arg, .int .i64 c.data, .int .i64 c.beg, .int .i64 c.fin, .int .i64 c.pt, .int .i64 c.ak, .int .i64 c.av] 40 (0, 0)
theorem cq_cells {W : World} {b : Nat} {c : Cq} (h : W.heap[b]? = some (cqO c)) : W.cell? ⟨b, 0, none⟩ = some (.int .i64 c.th) ∧ W.cell? ⟨b, 1, none⟩ = some (.int .i64 c.op) ∧ W.cell? ⟨b, 2, none⟩ = some (.int .i64 c.arg) ∧ W.cell? ⟨b, 3, none⟩ = some (.int .i64 c.data) ∧ W.cell? ⟨b, 4, none⟩ = some (.int .i64 c.beg) ∧ W.cell? ⟨b, 5, none⟩ = some (.int .i64 c.fin) ∧ W.cell? ⟨b, 6, none⟩ = some (.int .i64 c.pt) ∧ W.cell? ⟨b, 7, none⟩ = some (.int .i64 c.ak) ∧ W.cell? ⟨b, 8, none⟩ = some (.int .i64 c.av) ∧ b < W.heap.size := by
  have hlt := (Array.getElem?_eq_some_iff.1 h).1
  unfold cqO at h
  exact ⟨by simp [World.cell?, h], by simp [World.cell?, h], by simp [World.cell?, h], by simp [World.cell?, h], by simp [World.cell?, h], by simp [World.cell?, h], by simp [World.cell?, h], by simp [World.cell?, h], by simp [World.cell?, h], hlt⟩
def ct0 : Ct := ⟨[], [], [], [], []⟩
/-- An op that may find no room. -/
def fullOp (op : Int) : Prop := op = 22 ∨ op = 30 ∨ op = 40 ∨ op = 50 ∨ op = 60
instance decFull (op : Int) : Decidable (fullOp op) := by unfold fullOp; infer_instance
/-- Whether a call may answer so, and what it leaves then. -/
def alw (x : Ct) (c : Cq) : Ct × Bool :=
  if c.ak = 0 then (dnx x c.op c.arg c.data, true)
  else if c.ak = 4 then (if fullOp c.op then (x, true) else (ct0, false))
  else if dan x c.op c.arg = (c.ak, c.av) then (dnx x c.op c.arg c.data, true) else (ct0, false)
theorem end5a {W w : World} {T : Nat → Prop} {b : Nat} {u0 u1 u2 u3 u4 v0 v1 v2 v3 v4 : Value} {y : Ct} (hBe : Below W.heap.size W w) (hb : W.heap.size ≤ b) (hbx : w.heap[b]? = some (ctO u0 u1 u2 u3 u4)) (hy : CtAt w T v0 v1 v2 v3 v4 y) (hT : ∀ k, T k → W.heap.size ≤ k ∧ k ≠ b) :
    CtAt (set5 w b v0 v1 v2 v3 v4) (fun k => W.heap.size ≤ k) v0 v1 v2 v3 v4 y ∧ Below W.heap.size W (set5 w b v0 v1 v2 v3 v4) ∧ (set5 w b v0 v1 v2 v3 v4).heap[b]? = some (ctO v0 v1 v2 v3 v4) :=
  ⟨(hy.fr (set5_fr w b v0 v1 v2 v3 v4) (fun k hk _ e => (hT k hk).2 e)).mono (fun k hk => (hT k hk).1), set5_below v0 v1 v2 v3 v4 hBe hb, set5_at v0 v1 v2 v3 v4 hbx⟩
theorem ct0_at (w : World) (T : Nat → Prop) : CtAt w T (.slice none 0 0) (.slice none 0 0) (.slice none 0 0) (.slice none 0 0) (.slice none 0 0) ct0 := ⟨Sl.nil _ _ _, Sl.nil _ _ _, Sl.nil _ _ _, Sl.nil _ _ _, Sl.nil _ _ _⟩
/-- Within Allows, behind Do. -/
structure Da (W w : World) (c : Cq) (u0 u1 u2 u3 u4 : Value) (b6 : Nat) (v0 v1 v2 v3 v4 : Value) (y : Ct) (ak av : Int) : Prop where
  bel : Below W.heap.size W w
  arg : w.heap[W.heap.size]? = some (ctO u0 u1 u2 u3 u4)
  call : w.heap[W.heap.size + 1]? = some (cqO c)
  res : w.heap[W.heap.size + 2]? = some (ctO (.slice none 0 0) (.slice none 0 0) (.slice none 0 0) (.slice none 0 0) (.slice none 0 0))
  left : w.heap[b6]? = some (ctO v0 v1 v2 v3 v4)
  ans : w.heap[b6 + 1]? = some (ansO ak av)
  apart : W.heap.size + 3 ≤ b6
  at_ : CtAt w (fun k => W.heap.size + 3 ≤ k) v0 v1 v2 v3 v4 y
theorem alw_pre {W w1 : World} {c : Cq} {u0 u1 u2 u3 u4 v0 v1 v2 v3 v4 : Value} {y : Ct} {ak av : Int} (hat : CtAt w1 (fun k => W.heap.size + 3 ≤ k) v0 v1 v2 v3 v4 y) (hB : Below (W.heap.size + 3) (((W.alloc (ctO u0 u1 u2 u3 u4)).alloc (cqO c)).alloc (ctO (.slice none 0 0) (.slice none 0 0) (.slice none 0 0) (.slice none 0 0) (.slice none 0 0))) w1) :
    Da W ((w1.alloc (ctO v0 v1 v2 v3 v4)).alloc (ansO ak av)) c u0 u1 u2 u3 u4 w1.heap.size v0 v1 v2 v3 v4 y ak av := by
  have hs := hB.size
  simp only [World.size_alloc] at hs
  have B0 := (((Below.refl W.heap.size W).alloc (Nat.le_refl _) (ctO u0 u1 u2 u3 u4)).alloc (by simp) (cqO c)).alloc (by simp; omega) (ctO (.slice none 0 0) (.slice none 0 0) (.slice none 0 0) (.slice none 0 0) (.slice none 0 0))
  have g0 := (hB.block W.heap.size (by omega)).trans (old_at (old_at (new_at W (ctO u0 u1 u2 u3 u4) _ rfl) (cqO c)) (ctO (.slice none 0 0) (.slice none 0 0) (.slice none 0 0) (.slice none 0 0) (.slice none 0 0)))
  have g1 := (hB.block (W.heap.size + 1) (by omega)).trans (old_at (new_at (W.alloc (ctO u0 u1 u2 u3 u4)) (cqO c) _ (by simp)) (ctO (.slice none 0 0) (.slice none 0 0) (.slice none 0 0) (.slice none 0 0) (.slice none 0 0)))
  have g2 := (hB.block (W.heap.size + 2) (by omega)).trans (new_at ((W.alloc (ctO u0 u1 u2 u3 u4)).alloc (cqO c)) (ctO (.slice none 0 0) (.slice none 0 0) (.slice none 0 0) (.slice none 0 0) (.slice none 0 0)) _ (by simp))
  have B1 := B0.trans (hB.mono (by omega))
  have B2 := ((Below.refl w1.heap.size w1).alloc (Nat.le_refl _) (ctO v0 v1 v2 v3 v4)).alloc (by simp) (ansO ak av)
  exact ⟨B1.trans (B2.mono B1.size), old_at (old_at g0 _) _, old_at (old_at g1 _) _, old_at (old_at g2 _) _, old_at (new_at _ _ _ rfl) _, new_at _ _ _ (by simp), by omega, hat.below B2⟩
theorem Da.below {W w w' : World} {c : Cq} {u0 u1 u2 u3 u4 v0 v1 v2 v3 v4 : Value} {b6 : Nat} {y : Ct} {ak av : Int} (h : Da W w c u0 u1 u2 u3 u4 b6 v0 v1 v2 v3 v4 y ak av) (hB : Below w.heap.size w w') : Da W w' c u0 u1 u2 u3 u4 b6 v0 v1 v2 v3 v4 y ak av :=
  ⟨h.bel.trans (hB.mono h.bel.size), (hB.block _ (Array.getElem?_eq_some_iff.1 h.arg).1).trans h.arg, (hB.block _ (Array.getElem?_eq_some_iff.1 h.call).1).trans h.call, (hB.block _ (Array.getElem?_eq_some_iff.1 h.res).1).trans h.res, (hB.block _ (Array.getElem?_eq_some_iff.1 h.left).1).trans h.left, (hB.block _ (Array.getElem?_eq_some_iff.1 h.ans).1).trans h.ans, h.apart, h.at_.below hB⟩











end Go.Proofs.Ytglohochdgeonaa.Md
