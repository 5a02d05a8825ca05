import Derived.Test.YtegbcocbopgghabJ08
/-
  reclaimmodel.Allows, of any call whose op has an object.
-/
namespace Go.Proofs.Ytegbcocbopgghab.Md
open Go.RowKit Mr Me
set_option linter.unusedVariables false
set_option linter.unusedSimpArgs false
/-- A call. -/
structure Cq where
  th : Int
  op : Int
  arg : Int
  data : Int
  beg : Int
  fin : Int
  pt : Int
  ak : Int
  av : Int
def Cq.val (c : Cq) : Value := .agg #[.int .i64 c.th, .int .i64 c.op, .int .i64 c.arg, .int .i64 c.data, .int .i64 c.beg, .int .i64 c.fin, .int .i64 c.pt, .int .i64 c.ak, .int .i64 c.av]
def cqO (c : Cq) : Obj := .cells #[.int .i64 c.th, .int .i64 c.op, .int .i64 c.arg, .int .i64 c.data, .int .i64 c.beg, .int .i64 c.fin, .int .i64 c.pt, .int .i64 c.ak, .int .i64 c.av] 50 (0, 0)
theorem cq_cells {W : World} {b : Nat} {c : Cq} (h : W.heap[b]? = some (cqO c)) : W.cell? ⟨b, 0, none⟩ = some (.int .i64 c.th) ∧ W.cell? ⟨b, 1, none⟩ = some (.int .i64 c.op) ∧ W.cell? ⟨b, 2, none⟩ = some (.int .i64 c.arg) ∧ W.cell? ⟨b, 3, none⟩ = some (.int .i64 c.data) ∧ W.cell? ⟨b, 4, none⟩ = some (.int .i64 c.beg) ∧ W.cell? ⟨b, 5, none⟩ = some (.int .i64 c.fin) ∧ W.cell? ⟨b, 6, none⟩ = some (.int .i64 c.pt) ∧ W.cell? ⟨b, 7, none⟩ = some (.int .i64 c.ak) ∧ W.cell? ⟨b, 8, none⟩ = some (.int .i64 c.av) ∧ b < W.heap.size := by
  have hlt := (Array.getElem?_eq_some_iff.1 h).1
  unfold cqO at h
  exact ⟨by simp [World.cell?, h], by simp [World.cell?, h], by simp [World.cell?, h], by simp [World.cell?, h], by simp [World.cell?, h], by simp [World.cell?, h], by simp [World.cell?, h], by simp [World.cell?, h], by simp [World.cell?, h], hlt⟩
def ct0 : Ct := ⟨[], [], [], [], []⟩
/-- An op that may find no room. -/
def fullOp (op : Int) : Prop := op = 22 ∨ op = 30 ∨ op = 40 ∨ op = 50 ∨ op = 60
instance decFull (op : Int) : Decidable (fullOp op) := by unfold fullOp; infer_instance
/-- Whether a call may answer so, and what it leaves then. -/
def alw (x : Ct) (c : Cq) : Ct × Bool :=
  if c.ak = 0 then (dnx x c.op c.arg c.data, true)
  else if c.ak = 4 then (if fullOp c.op then (x, true) else (ct0, false))
  else if dan x c.op c.arg = (c.ak, c.av) then (dnx x c.op c.arg c.data, true) else (ct0, false)
theorem end5a {W w : World} {T : Nat → Prop} {b : Nat} {u0 u1 u2 u3 u4 v0 v1 v2 v3 v4 : Value} {y : Ct} (hBe : Below W.heap.size W w) (hb : W.heap.size ≤ b) (hbx : w.heap[b]? = some (ctO u0 u1 u2 u3 u4)) (hy : CtAt w T v0 v1 v2 v3 v4 y) (hT : ∀ k, T k → W.heap.size ≤ k ∧ k ≠ b) :
    CtAt (set5 w b v0 v1 v2 v3 v4) (fun k => W.heap.size ≤ k) v0 v1 v2 v3 v4 y ∧ Below W.heap.size W (set5 w b v0 v1 v2 v3 v4) ∧ (set5 w b v0 v1 v2 v3 v4).heap[b]? = some (ctO v0 v1 v2 v3 v4) :=
  ⟨(hy.fr (set5_fr w b v0 v1 v2 v3 v4) (fun k hk _ e => (hT k hk).2 e)).mono (fun k hk => (hT k hk).1), set5_below v0 v1 v2 v3 v4 hBe hb, set5_at v0 v1 v2 v3 v4 hbx⟩
theorem ct0_at (w : World) (T : Nat → Prop) : CtAt w T (.slice none 0 0) (.slice none 0 0) (.slice none 0 0) (.slice none 0 0) (.slice none 0 0) ct0 := ⟨Sl.nil _ _ _, Sl.nil _ _ _, Sl.nil _ _ _, Sl.nil _ _ _, Sl.nil _ _ _⟩
/-- Within Allows, behind Do. -/
structure Da (W w : World) (c : Cq) (u0 u1 u2 u3 u4 : Value) (b6 : Nat) (v0 v1 v2 v3 v4 : Value) (y : Ct) (ak av : Int) : Prop where
  bel : Below W.heap.size W w
  arg : w.heap[W.heap.size]? = some (ctO u0 u1 u2 u3 u4)
  call : w.heap[W.heap.size + 1]? = some (cqO c)
  res : w.heap[W.heap.size + 2]? = some (ctO (.slice none 0 0) (.slice none 0 0) (.slice none 0 0) (.slice none 0 0) (.slice none 0 0))
  left : w.heap[b6]? = some (ctO v0 v1 v2 v3 v4)
  ans : w.heap[b6 + 1]? = some (ansO ak av)
  apart : W.heap.size + 3 ≤ b6
  at_ : CtAt w (fun k => W.heap.size + 3 ≤ k) v0 v1 v2 v3 v4 y
theorem alw_pre {W w1 : World} {c : Cq} {u0 u1 u2 u3 u4 v0 v1 v2 v3 v4 : Value} {y : Ct} {ak av : Int} (hat : CtAt w1 (fun k => W.heap.size + 3 ≤ k) v0 v1 v2 v3 v4 y) (hB : Below (W.heap.size + 3) (((W.alloc (ctO u0 u1 u2 u3 u4)).alloc (cqO c)).alloc (ctO (.slice none 0 0) (.slice none 0 0) (.slice none 0 0) (.slice none 0 0) (.slice none 0 0))) w1) :
    Da W ((w1.alloc (ctO v0 v1 v2 v3 v4)).alloc (ansO ak av)) c u0 u1 u2 u3 u4 w1.heap.size v0 v1 v2 v3 v4 y ak av := by
  have hs := hB.size
  simp only [World.size_alloc] at hs
  have B0 := (((Below.refl W.heap.size W).alloc (Nat.le_refl _) (ctO u0 u1 u2 u3 u4)).alloc (by simp) (cqO c)).alloc (by simp; omega) (ctO (.slice none 0 0) (.slice none 0 0) (.slice none 0 0) (.slice none 0 0) (.slice none 0 0))
  have g0 := (hB.block W.heap.size (by omega)).trans (old_at (old_at (new_at W (ctO u0 u1 u2 u3 u4) _ rfl) (cqO c)) (ctO (.slice none 0 0) (.slice none 0 0) (.slice none 0 0) (.slice none 0 0) (.slice none 0 0)))
  have g1 := (hB.block (W.heap.size + 1) (by omega)).trans (old_at (new_at (W.alloc (ctO u0 u1 u2 u3 u4)) (cqO c) _ (by simp)) (ctO (.slice none 0 0) (.slice none 0 0) (.slice none 0 0) (.slice none 0 0) (.slice none 0 0)))
  have g2 := (hB.block (W.heap.size + 2) (by omega)).trans (new_at ((W.alloc (ctO u0 u1 u2 u3 u4)).alloc (cqO c)) (ctO (.slice none 0 0) (.slice none 0 0) (.slice none 0 0) (.slice none 0 0) (.slice none 0 0)) _ (by simp))
  have B1 := B0.trans (hB.mono (by omega))
  have B2 := ((Below.refl w1.heap.size w1).alloc (Nat.le_refl _) (ctO v0 v1 v2 v3 v4)).alloc (by simp) (ansO ak av)
  exact ⟨B1.trans (B2.mono B1.size), old_at (old_at g0 _) _, old_at (old_at g1 _) _, old_at (old_at g2 _) _, old_at (new_at _ _ _ rfl) _, new_at _ _ _ (by simp), by omega, hat.below B2⟩
theorem Da.below {W w w' : World} {c : Cq} {u0 u1 u2 u3 u4 v0 v1 v2 v3 v4 : Value} {b6 : Nat} {y : Ct} {ak av : Int} (h : Da W w c u0 u1 u2 u3 u4 b6 v0 v1 v2 v3 v4 y ak av) (hB : Below w.heap.size w w') : Da W w' c u0 u1 u2 u3 u4 b6 v0 v1 v2 v3 v4 y ak av :=
  ⟨h.bel.trans (hB.mono h.bel.size), (hB.block _ (Array.getElem?_eq_some_iff.1 h.arg).1).trans h.arg, (hB.block _ (Array.getElem?_eq_some_iff.1 h.call).1).trans h.call, (hB.block _ (Array.getElem?_eq_some_iff.1 h.res).1).trans h.res, (hB.block _ (Array.getElem?_eq_some_iff.1 h.left).1).trans h.left, (hB.block _ (Array.getElem?_eq_some_iff.1 h.ans).1).trans h.ans, h.apart, h.at_.below hB⟩
set_option maxRecDepth 100000 in
set_option maxHeartbeats 8000000 in
theorem alw_0 {W : World} {S : Nat → Prop} {u0 u1 u2 u3 u4 : Value} {x : Ct} (hu : CtAt W S u0 u1 u2 u3 u4 x) (hin : CtIn 225000000000000 x) (c : Cq) (ho : obj c.op ≠ 0) (h0 : c.ak = 0) :
    Calls Try.prog 45 #[.agg #[u0, u1, u2, u3, u4], .agg #[.int .i64 c.th, .int .i64 c.op, .int .i64 c.arg, .int .i64 c.data, .int .i64 c.beg, .int .i64 c.fin, .int .i64 c.pt, .int .i64 c.ak, .int .i64 c.av]] W fun e w' => ∃ v0 v1 v2 v3 v4, e = .returned (.tuple #[.agg #[v0, v1, v2, v3, v4], .bool (alw x c).2]) ∧ CtAt w' (fun k => W.heap.size ≤ k) v0 v1 v2 v3 v4 (alw x c).1 ∧ Below W.heap.size W w' := by
  have C := fun w' (hB : Below W.heap.size W w') => do_any (hu.below hB) hin c.op c.arg c.data ho
  have CC := fun w' (hB : Below W.heap.size W w') => copy_any (hu.below hB) hin
  obtain ⟨a0, c0, rfl, _⟩ := hu.cell.form
  obtain ⟨a1, c1, rfl, _⟩ := hu.stack.form
  obtain ⟨a2, c2, rfl, _⟩ := hu.queue.form
  obtain ⟨a3, c3, rfl, _⟩ := hu.set.form
  obtain ⟨a4, c4, rfl, _⟩ := hu.table.form
  obtain ⟨ak, av, hak⟩ : ∃ a b, (dan x c.op c.arg) = (a, b) := ⟨_, _, rfl⟩
  rw [hak] at C
  obtain ⟨y, hy⟩ : ∃ y, y = dnx x c.op c.arg c.data := ⟨_, rfl⟩
  rw [← hy] at C
  obtain ⟨r, hr⟩ : ∃ r, r = alw x c := ⟨_, rfl⟩
  rw [← hr]
  replace hy := Mr.hid hy
  replace hr := Mr.hid hr
  replace hak := Mr.hid hak
  have B0 := (((Below.refl W.heap.size W).alloc (Nat.le_refl _) (ctO (.slice a0 x.cell.length c0) (.slice a1 x.stack.length c1) (.slice a2 x.queue.length c2) (.slice a3 x.set.length c3) (.slice a4 x.table.length c4))).alloc (by simp) (cqO c)).alloc (by simp; omega) nil5
  have DP := fun w1 v0 v1 v2 v3 v4 (hat : CtAt w1 (fun k => W.heap.size + 3 ≤ k) v0 v1 v2 v3 v4 y) => alw_pre (W := W) (w1 := w1) (c := c) (u0 := (.slice a0 x.cell.length c0)) (u1 := (.slice a1 x.stack.length c1)) (u2 := (.slice a2 x.queue.length c2)) (u3 := (.slice a3 x.set.length c3)) (u4 := (.slice a4 x.table.length c4)) (ak := ak) (av := av) hat
  clear hu
  have kk : ((((W.alloc (ctO (.slice a0 x.cell.length c0) (.slice a1 x.stack.length c1) (.slice a2 x.queue.length c2) (.slice a3 x.set.length c3) (.slice a4 x.table.length c4))).alloc (cqO c)).alloc nil5).heap[W.heap.size + 1]? = some (cqO c)) := old_at (new_at (W.alloc (ctO (.slice a0 x.cell.length c0) (.slice a1 x.stack.length c1) (.slice a2 x.queue.length c2) (.slice a3 x.set.length c3) (.slice a4 x.table.length c4))) (cqO c) _ (by simp)) nil5
  unfold nil5 ctO cqO at B0
  unfold nil5 ctO at kk
  unfold ctO ansO cqO at DP
  obtain ⟨o0, o1, o2, o3, o4, o5, o6, o7, o8, o9⟩ := cq_cells kk
  unfold cqO at o0 o1 o2 o3 o4 o5 o6 o7 o8 o9
  clear kk
  replace C := Mr.hid C
  replace CC := Mr.hid CC
  replace B0 := Mr.hid B0
  replace DP := Mr.hid DP
  replace ho := Mr.hid ho
  replace h0 := Mr.hid h0
  go_enter Try.func45, Try.ntmps45
  go_upto_region 2 with (go_at_call 44; refine (C.out _ B0.out).mono ?_; clear C; rintro e w1 ⟨v0, v1, v2, v3, v4, rfl, hv, hB1⟩; simp only [World.size_alloc] at hB1 hv; have hD := DP.out _ _ _ _ _ _ hv hB1; clear DP; obtain ⟨z0, q0, rfl, _⟩ := hv.cell.form; obtain ⟨z1, q1, rfl, _⟩ := hv.stack.form; obtain ⟨z2, q2, rfl, _⟩ := hv.queue.form; obtain ⟨z3, q3, rfl, _⟩ := hv.set.form; obtain ⟨z4, q4, rfl, _⟩ := hv.table.form; unfold ans; clear hv hB1 B0 o0 o1 o2 o3 o4 o5 o6 o7 o8 o9; replace hD := Mr.hid hD)
  rw [show W.heap.size + 1 + 1 = W.heap.size + 2 from rfl]
  obtain ⟨b6, hb6⟩ : ∃ b, b = w1.heap.size := ⟨_, rfl⟩
  rw [← hb6] at hD ⊢
  clear hb6
  generalize ((w1.alloc (.cells #[.slice z0 y.cell.length q0, .slice z1 y.stack.length q1, .slice z2 y.queue.length q2, .slice z3 y.set.length q3, .slice z4 y.table.length q4] 25 (0, 0))).alloc (.cells #[.int .i64 ak, .int .i64 av] 31 (0, 0))) = w2 at *
  obtain ⟨o0, o1, o2, o3, o4, o5, o6, o7, o8, o9⟩ := cq_cells hD.out.call
  obtain ⟨k0, k1, k2, k3, k4, kl⟩ := ctO_cells hD.out.left
  obtain ⟨i0, i1, il, -, -⟩ := ansO_cells hD.out.ans
  obtain ⟨r0, r1, r2, r3, r4, rl⟩ := ctO_cells hD.out.res
  obtain ⟨t0, t1, t2, t3, t4, tl⟩ := ctO_cells hD.out.arg
  obtain ⟨f0, f1, f2, f3, f4⟩ := ctO_thaw hD.out.res
  have hap := hD.out.apart
  have hq : r = (y, true) := by rw [hr.out, hy.out]; unfold alw; rw [if_pos h0.out]
  replace hq := Mr.hid hq
  have hz : (c.ak == 0) = true := by rw [h0.out]; rfl
  clear h0
  go_wp2
  replace hq := hq.out
  obtain ⟨e1, e2, e3⟩ := end5a (v0 := (.slice z0 y.cell.length q0)) (v1 := (.slice z1 y.stack.length q1)) (v2 := (.slice z2 y.queue.length q2)) (v3 := (.slice z3 y.set.length q3)) (v4 := (.slice z4 y.table.length q4)) hD.out.bel (b := W.heap.size + 2) (by omega) hD.out.res (hD.out.at_) (fun k hk => by omega)
  obtain ⟨d0, d1, d2, d3, d4, -⟩ := ctO_cells e3
  unfold set5 at e1 e2 d0 d1 d2 d3 d4
  replace e1 := Mr.hid e1
  replace e2 := Mr.hid e2
  clear e3
  refine bodyPost_ret (v := .tuple #[.agg #[.slice z0 y.cell.length q0, .slice z1 y.stack.length q1, .slice z2 y.queue.length q2, .slice z3 y.set.length q3, .slice z4 y.table.length q4], .bool true]) (by simp [results, Try.results45, go_sem, d0, d1, d2, d3, d4]) rfl ?_
  exact ⟨_, _, _, _, _, by rw [hq], by rw [hq]; exact e1.out, e2.out⟩
set_option maxRecDepth 100000 in
set_option maxHeartbeats 8000000 in
theorem alw_4_22 {W : World} {S : Nat → Prop} {u0 u1 u2 u3 u4 : Value} {x : Ct} (hu : CtAt W S u0 u1 u2 u3 u4 x) (hin : CtIn 225000000000000 x) (c : Cq) (ho : obj c.op ≠ 0) (h4 : c.ak = 4) (h5 : c.op = 22) :
    Calls Try.prog 45 #[.agg #[u0, u1, u2, u3, u4], .agg #[.int .i64 c.th, .int .i64 c.op, .int .i64 c.arg, .int .i64 c.data, .int .i64 c.beg, .int .i64 c.fin, .int .i64 c.pt, .int .i64 c.ak, .int .i64 c.av]] W fun e w' => ∃ v0 v1 v2 v3 v4, e = .returned (.tuple #[.agg #[v0, v1, v2, v3, v4], .bool (alw x c).2]) ∧ CtAt w' (fun k => W.heap.size ≤ k) v0 v1 v2 v3 v4 (alw x c).1 ∧ Below W.heap.size W w' := by
  have C := fun w' (hB : Below W.heap.size W w') => do_any (hu.below hB) hin c.op c.arg c.data ho
  have CC := fun w' (hB : Below W.heap.size W w') => copy_any (hu.below hB) hin
  obtain ⟨a0, c0, rfl, _⟩ := hu.cell.form
  obtain ⟨a1, c1, rfl, _⟩ := hu.stack.form
  obtain ⟨a2, c2, rfl, _⟩ := hu.queue.form
  obtain ⟨a3, c3, rfl, _⟩ := hu.set.form
  obtain ⟨a4, c4, rfl, _⟩ := hu.table.form
  obtain ⟨ak, av, hak⟩ : ∃ a b, (dan x c.op c.arg) = (a, b) := ⟨_, _, rfl⟩
  rw [hak] at C
  obtain ⟨y, hy⟩ : ∃ y, y = dnx x c.op c.arg c.data := ⟨_, rfl⟩
  rw [← hy] at C
  obtain ⟨r, hr⟩ : ∃ r, r = alw x c := ⟨_, rfl⟩
  rw [← hr]
  replace hy := Mr.hid hy
  replace hr := Mr.hid hr
  replace hak := Mr.hid hak
  have B0 := (((Below.refl W.heap.size W).alloc (Nat.le_refl _) (ctO (.slice a0 x.cell.length c0) (.slice a1 x.stack.length c1) (.slice a2 x.queue.length c2) (.slice a3 x.set.length c3) (.slice a4 x.table.length c4))).alloc (by simp) (cqO c)).alloc (by simp; omega) nil5
  have DP := fun w1 v0 v1 v2 v3 v4 (hat : CtAt w1 (fun k => W.heap.size + 3 ≤ k) v0 v1 v2 v3 v4 y) => alw_pre (W := W) (w1 := w1) (c := c) (u0 := (.slice a0 x.cell.length c0)) (u1 := (.slice a1 x.stack.length c1)) (u2 := (.slice a2 x.queue.length c2)) (u3 := (.slice a3 x.set.length c3)) (u4 := (.slice a4 x.table.length c4)) (ak := ak) (av := av) hat
  clear hu
  have kk : ((((W.alloc (ctO (.slice a0 x.cell.length c0) (.slice a1 x.stack.length c1) (.slice a2 x.queue.length c2) (.slice a3 x.set.length c3) (.slice a4 x.table.length c4))).alloc (cqO c)).alloc nil5).heap[W.heap.size + 1]? = some (cqO c)) := old_at (new_at (W.alloc (ctO (.slice a0 x.cell.length c0) (.slice a1 x.stack.length c1) (.slice a2 x.queue.length c2) (.slice a3 x.set.length c3) (.slice a4 x.table.length c4))) (cqO c) _ (by simp)) nil5
  unfold nil5 ctO cqO at B0
  unfold nil5 ctO at kk
  unfold ctO ansO cqO at DP
  obtain ⟨o0, o1, o2, o3, o4, o5, o6, o7, o8, o9⟩ := cq_cells kk
  unfold cqO at o0 o1 o2 o3 o4 o5 o6 o7 o8 o9
  clear kk
  replace C := Mr.hid C
  replace CC := Mr.hid CC
  replace B0 := Mr.hid B0
  replace DP := Mr.hid DP
  replace ho := Mr.hid ho
  replace h4 := Mr.hid h4
  replace h5 := Mr.hid h5
  go_enter Try.func45, Try.ntmps45
  go_upto_region 2 with (go_at_call 44; refine (C.out _ B0.out).mono ?_; clear C; rintro e w1 ⟨v0, v1, v2, v3, v4, rfl, hv, hB1⟩; simp only [World.size_alloc] at hB1 hv; have hD := DP.out _ _ _ _ _ _ hv hB1; clear DP; obtain ⟨z0, q0, rfl, _⟩ := hv.cell.form; obtain ⟨z1, q1, rfl, _⟩ := hv.stack.form; obtain ⟨z2, q2, rfl, _⟩ := hv.queue.form; obtain ⟨z3, q3, rfl, _⟩ := hv.set.form; obtain ⟨z4, q4, rfl, _⟩ := hv.table.form; unfold ans; clear hv hB1 B0 o0 o1 o2 o3 o4 o5 o6 o7 o8 o9; replace hD := Mr.hid hD)
  rw [show W.heap.size + 1 + 1 = W.heap.size + 2 from rfl]
  obtain ⟨b6, hb6⟩ : ∃ b, b = w1.heap.size := ⟨_, rfl⟩
  rw [← hb6] at hD ⊢
  clear hb6
  generalize ((w1.alloc (.cells #[.slice z0 y.cell.length q0, .slice z1 y.stack.length q1, .slice z2 y.queue.length q2, .slice z3 y.set.length q3, .slice z4 y.table.length q4] 25 (0, 0))).alloc (.cells #[.int .i64 ak, .int .i64 av] 31 (0, 0))) = w2 at *
  obtain ⟨o0, o1, o2, o3, o4, o5, o6, o7, o8, o9⟩ := cq_cells hD.out.call
  obtain ⟨k0, k1, k2, k3, k4, kl⟩ := ctO_cells hD.out.left
  obtain ⟨i0, i1, il, -, -⟩ := ansO_cells hD.out.ans
  obtain ⟨r0, r1, r2, r3, r4, rl⟩ := ctO_cells hD.out.res
  obtain ⟨t0, t1, t2, t3, t4, tl⟩ := ctO_cells hD.out.arg
  obtain ⟨f0, f1, f2, f3, f4⟩ := ctO_thaw hD.out.res
  have hap := hD.out.apart
  have hq : r = (x, true) := by rw [hr.out]; unfold alw; rw [h4.out, if_neg (by decide), if_pos rfl, if_pos (by rw [h5.out]; decide)]
  replace hq := Mr.hid hq
  have hz : (c.ak == 0) = false := by rw [h4.out]; rfl
  have hz4 : (c.ak == 4) = true := by rw [h4.out]; rfl
  have ho22 : (c.op == 22) = true := by rw [h5.out]; rfl
  have ho30 : (c.op == 30) = false := by rw [h5.out]; rfl
  have ho40 : (c.op == 40) = false := by rw [h5.out]; rfl
  have ho50 : (c.op == 50) = false := by rw [h5.out]; rfl
  have ho60 : (c.op == 60) = false := by rw [h5.out]; rfl
  have B2 := hD.out.bel
  have BC := fun w3 (hB : Below w2.heap.size w2 w3) => hD.out.below hB
  replace BC := Mr.hid BC
  replace B2 := Mr.hid B2
  clear h4 h5 hD
  go_wp2_with (first | (go_at_call 40; refine (CC.out _ B2.out).mono ?_; clear CC; rintro e w3 ⟨v0, v1, v2, v3, v4, rfl, hv, -, hB3⟩; have hD := BC.out w3 hB3; clear BC; obtain ⟨m0, n0, rfl, _⟩ := hv.cell.form; obtain ⟨m1, n1, rfl, _⟩ := hv.stack.form; obtain ⟨m2, n2, rfl, _⟩ := hv.queue.form; obtain ⟨m3, n3, rfl, _⟩ := hv.set.form; obtain ⟨m4, n4, rfl, _⟩ := hv.table.form; obtain ⟨r0, r1, r2, r3, r4, rl⟩ := ctO_cells hD.res; obtain ⟨f0, f1, f2, f3, f4⟩ := ctO_thaw hD.res; have hs3 := hB3.size; have hA := hv.at; clear hv hB3; replace hD := Mr.hid hD; replace hA := Mr.hid hA))
  replace hq := hq.out
  obtain ⟨e1, e2, e3⟩ := end5a (v0 := (.slice m0 x.cell.length n0)) (v1 := (.slice m1 x.stack.length n1)) (v2 := (.slice m2 x.queue.length n2)) (v3 := (.slice m3 x.set.length n3)) (v4 := (.slice m4 x.table.length n4)) hD.out.bel (b := W.heap.size + 2) (by omega) hD.out.res (hA.out) (fun k hk => by omega)
  obtain ⟨d0, d1, d2, d3, d4, -⟩ := ctO_cells e3
  unfold set5 at e1 e2 d0 d1 d2 d3 d4
  replace e1 := Mr.hid e1
  replace e2 := Mr.hid e2
  clear e3
  refine bodyPost_ret (v := .tuple #[.agg #[.slice m0 x.cell.length n0, .slice m1 x.stack.length n1, .slice m2 x.queue.length n2, .slice m3 x.set.length n3, .slice m4 x.table.length n4], .bool true]) (by simp [results, Try.results45, go_sem, d0, d1, d2, d3, d4]) rfl ?_
  exact ⟨_, _, _, _, _, by rw [hq], by rw [hq]; exact e1.out, e2.out⟩
set_option maxRecDepth 100000 in
set_option maxHeartbeats 8000000 in
theorem alw_4_30 {W : World} {S : Nat → Prop} {u0 u1 u2 u3 u4 : Value} {x : Ct} (hu : CtAt W S u0 u1 u2 u3 u4 x) (hin : CtIn 225000000000000 x) (c : Cq) (ho : obj c.op ≠ 0) (h4 : c.ak = 4) (h5 : c.op = 30) :
    Calls Try.prog 45 #[.agg #[u0, u1, u2, u3, u4], .agg #[.int .i64 c.th, .int .i64 c.op, .int .i64 c.arg, .int .i64 c.data, .int .i64 c.beg, .int .i64 c.fin, .int .i64 c.pt, .int .i64 c.ak, .int .i64 c.av]] W fun e w' => ∃ v0 v1 v2 v3 v4, e = .returned (.tuple #[.agg #[v0, v1, v2, v3, v4], .bool (alw x c).2]) ∧ CtAt w' (fun k => W.heap.size ≤ k) v0 v1 v2 v3 v4 (alw x c).1 ∧ Below W.heap.size W w' := by
  have C := fun w' (hB : Below W.heap.size W w') => do_any (hu.below hB) hin c.op c.arg c.data ho
  have CC := fun w' (hB : Below W.heap.size W w') => copy_any (hu.below hB) hin
  obtain ⟨a0, c0, rfl, _⟩ := hu.cell.form
  obtain ⟨a1, c1, rfl, _⟩ := hu.stack.form
  obtain ⟨a2, c2, rfl, _⟩ := hu.queue.form
  obtain ⟨a3, c3, rfl, _⟩ := hu.set.form
  obtain ⟨a4, c4, rfl, _⟩ := hu.table.form
  obtain ⟨ak, av, hak⟩ : ∃ a b, (dan x c.op c.arg) = (a, b) := ⟨_, _, rfl⟩
  rw [hak] at C
  obtain ⟨y, hy⟩ : ∃ y, y = dnx x c.op c.arg c.data := ⟨_, rfl⟩
  rw [← hy] at C
  obtain ⟨r, hr⟩ : ∃ r, r = alw x c := ⟨_, rfl⟩
  rw [← hr]
  replace hy := Mr.hid hy
  replace hr := Mr.hid hr
  replace hak := Mr.hid hak
  have B0 := (((Below.refl W.heap.size W).alloc (Nat.le_refl _) (ctO (.slice a0 x.cell.length c0) (.slice a1 x.stack.length c1) (.slice a2 x.queue.length c2) (.slice a3 x.set.length c3) (.slice a4 x.table.length c4))).alloc (by simp) (cqO c)).alloc (by simp; omega) nil5
  have DP := fun w1 v0 v1 v2 v3 v4 (hat : CtAt w1 (fun k => W.heap.size + 3 ≤ k) v0 v1 v2 v3 v4 y) => alw_pre (W := W) (w1 := w1) (c := c) (u0 := (.slice a0 x.cell.length c0)) (u1 := (.slice a1 x.stack.length c1)) (u2 := (.slice a2 x.queue.length c2)) (u3 := (.slice a3 x.set.length c3)) (u4 := (.slice a4 x.table.length c4)) (ak := ak) (av := av) hat
  clear hu
  have kk : ((((W.alloc (ctO (.slice a0 x.cell.length c0) (.slice a1 x.stack.length c1) (.slice a2 x.queue.length c2) (.slice a3 x.set.length c3) (.slice a4 x.table.length c4))).alloc (cqO c)).alloc nil5).heap[W.heap.size + 1]? = some (cqO c)) := old_at (new_at (W.alloc (ctO (.slice a0 x.cell.length c0) (.slice a1 x.stack.length c1) (.slice a2 x.queue.length c2) (.slice a3 x.set.length c3) (.slice a4 x.table.length c4))) (cqO c) _ (by simp)) nil5
  unfold nil5 ctO cqO at B0
  unfold nil5 ctO at kk
  unfold ctO ansO cqO at DP
  obtain ⟨o0, o1, o2, o3, o4, o5, o6, o7, o8, o9⟩ := cq_cells kk
  unfold cqO at o0 o1 o2 o3 o4 o5 o6 o7 o8 o9
  clear kk
  replace C := Mr.hid C
  replace CC := Mr.hid CC
  replace B0 := Mr.hid B0
  replace DP := Mr.hid DP
  replace ho := Mr.hid ho
  replace h4 := Mr.hid h4
  replace h5 := Mr.hid h5
  go_enter Try.func45, Try.ntmps45
  go_upto_region 2 with (go_at_call 44; refine (C.out _ B0.out).mono ?_; clear C; rintro e w1 ⟨v0, v1, v2, v3, v4, rfl, hv, hB1⟩; simp only [World.size_alloc] at hB1 hv; have hD := DP.out _ _ _ _ _ _ hv hB1; clear DP; obtain ⟨z0, q0, rfl, _⟩ := hv.cell.form; obtain ⟨z1, q1, rfl, _⟩ := hv.stack.form; obtain ⟨z2, q2, rfl, _⟩ := hv.queue.form; obtain ⟨z3, q3, rfl, _⟩ := hv.set.form; obtain ⟨z4, q4, rfl, _⟩ := hv.table.form; unfold ans; clear hv hB1 B0 o0 o1 o2 o3 o4 o5 o6 o7 o8 o9; replace hD := Mr.hid hD)
  rw [show W.heap.size + 1 + 1 = W.heap.size + 2 from rfl]
  obtain ⟨b6, hb6⟩ : ∃ b, b = w1.heap.size := ⟨_, rfl⟩
  rw [← hb6] at hD ⊢
  clear hb6
  generalize ((w1.alloc (.cells #[.slice z0 y.cell.length q0, .slice z1 y.stack.length q1, .slice z2 y.queue.length q2, .slice z3 y.set.length q3, .slice z4 y.table.length q4] 25 (0, 0))).alloc (.cells #[.int .i64 ak, .int .i64 av] 31 (0, 0))) = w2 at *
  obtain ⟨o0, o1, o2, o3, o4, o5, o6, o7, o8, o9⟩ := cq_cells hD.out.call
  obtain ⟨k0, k1, k2, k3, k4, kl⟩ := ctO_cells hD.out.left
  obtain ⟨i0, i1, il, -, -⟩ := ansO_cells hD.out.ans
  obtain ⟨r0, r1, r2, r3, r4, rl⟩ := ctO_cells hD.out.res
  obtain ⟨t0, t1, t2, t3, t4, tl⟩ := ctO_cells hD.out.arg
  obtain ⟨f0, f1, f2, f3, f4⟩ := ctO_thaw hD.out.res
  have hap := hD.out.apart
  have hq : r = (x, true) := by rw [hr.out]; unfold alw; rw [h4.out, if_neg (by decide), if_pos rfl, if_pos (by rw [h5.out]; decide)]
  replace hq := Mr.hid hq
  have hz : (c.ak == 0) = false := by rw [h4.out]; rfl
  have hz4 : (c.ak == 4) = true := by rw [h4.out]; rfl
  have ho22 : (c.op == 22) = false := by rw [h5.out]; rfl
  have ho30 : (c.op == 30) = true := by rw [h5.out]; rfl
  have ho40 : (c.op == 40) = false := by rw [h5.out]; rfl
  have ho50 : (c.op == 50) = false := by rw [h5.out]; rfl
  have ho60 : (c.op == 60) = false := by rw [h5.out]; rfl
  have B2 := hD.out.bel
  have BC := fun w3 (hB : Below w2.heap.size w2 w3) => hD.out.below hB
  replace BC := Mr.hid BC
  replace B2 := Mr.hid B2
  clear h4 h5 hD
  go_wp2_with (first | (go_at_call 40; refine (CC.out _ B2.out).mono ?_; clear CC; rintro e w3 ⟨v0, v1, v2, v3, v4, rfl, hv, -, hB3⟩; have hD := BC.out w3 hB3; clear BC; obtain ⟨m0, n0, rfl, _⟩ := hv.cell.form; obtain ⟨m1, n1, rfl, _⟩ := hv.stack.form; obtain ⟨m2, n2, rfl, _⟩ := hv.queue.form; obtain ⟨m3, n3, rfl, _⟩ := hv.set.form; obtain ⟨m4, n4, rfl, _⟩ := hv.table.form; obtain ⟨r0, r1, r2, r3, r4, rl⟩ := ctO_cells hD.res; obtain ⟨f0, f1, f2, f3, f4⟩ := ctO_thaw hD.res; have hs3 := hB3.size; have hA := hv.at; clear hv hB3; replace hD := Mr.hid hD; replace hA := Mr.hid hA))
  replace hq := hq.out
  obtain ⟨e1, e2, e3⟩ := end5a (v0 := (.slice m0 x.cell.length n0)) (v1 := (.slice m1 x.stack.length n1)) (v2 := (.slice m2 x.queue.length n2)) (v3 := (.slice m3 x.set.length n3)) (v4 := (.slice m4 x.table.length n4)) hD.out.bel (b := W.heap.size + 2) (by omega) hD.out.res (hA.out) (fun k hk => by omega)
  obtain ⟨d0, d1, d2, d3, d4, -⟩ := ctO_cells e3
  unfold set5 at e1 e2 d0 d1 d2 d3 d4
  replace e1 := Mr.hid e1
  replace e2 := Mr.hid e2
  clear e3
  refine bodyPost_ret (v := .tuple #[.agg #[.slice m0 x.cell.length n0, .slice m1 x.stack.length n1, .slice m2 x.queue.length n2, .slice m3 x.set.length n3, .slice m4 x.table.length n4], .bool true]) (by simp [results, Try.results45, go_sem, d0, d1, d2, d3, d4]) rfl ?_
  exact ⟨_, _, _, _, _, by rw [hq], by rw [hq]; exact e1.out, e2.out⟩
set_option maxRecDepth 100000 in
set_option maxHeartbeats 8000000 in
theorem alw_4_40 {W : World} {S : Nat → Prop} {u0 u1 u2 u3 u4 : Value} {x : Ct} (hu : CtAt W S u0 u1 u2 u3 u4 x) (hin : CtIn 225000000000000 x) (c : Cq) (ho : obj c.op ≠ 0) (h4 : c.ak = 4) (h5 : c.op = 40) :
    Calls Try.prog 45 #[.agg #[u0, u1, u2, u3, u4], .agg #[.int .i64 c.th, .int .i64 c.op, .int .i64 c.arg, .int .i64 c.data, .int .i64 c.beg, .int .i64 c.fin, .int .i64 c.pt, .int .i64 c.ak, .int .i64 c.av]] W fun e w' => ∃ v0 v1 v2 v3 v4, e = .returned (.tuple #[.agg #[v0, v1, v2, v3, v4], .bool (alw x c).2]) ∧ CtAt w' (fun k => W.heap.size ≤ k) v0 v1 v2 v3 v4 (alw x c).1 ∧ Below W.heap.size W w' := by
  have C := fun w' (hB : Below W.heap.size W w') => do_any (hu.below hB) hin c.op c.arg c.data ho
  have CC := fun w' (hB : Below W.heap.size W w') => copy_any (hu.below hB) hin
  obtain ⟨a0, c0, rfl, _⟩ := hu.cell.form
  obtain ⟨a1, c1, rfl, _⟩ := hu.stack.form
  obtain ⟨a2, c2, rfl, _⟩ := hu.queue.form
  obtain ⟨a3, c3, rfl, _⟩ := hu.set.form
  obtain ⟨a4, c4, rfl, _⟩ := hu.table.form
  obtain ⟨ak, av, hak⟩ : ∃ a b, (dan x c.op c.arg) = (a, b) := ⟨_, _, rfl⟩
  rw [hak] at C
  obtain ⟨y, hy⟩ : ∃ y, y = dnx x c.op c.arg c.data := ⟨_, rfl⟩
  rw [← hy] at C
  obtain ⟨r, hr⟩ : ∃ r, r = alw x c := ⟨_, rfl⟩
  rw [← hr]
  replace hy := Mr.hid hy
  replace hr := Mr.hid hr
  replace hak := Mr.hid hak
  have B0 := (((Below.refl W.heap.size W).alloc (Nat.le_refl _) (ctO (.slice a0 x.cell.length c0) (.slice a1 x.stack.length c1) (.slice a2 x.queue.length c2) (.slice a3 x.set.length c3) (.slice a4 x.table.length c4))).alloc (by simp) (cqO c)).alloc (by simp; omega) nil5
  have DP := fun w1 v0 v1 v2 v3 v4 (hat : CtAt w1 (fun k => W.heap.size + 3 ≤ k) v0 v1 v2 v3 v4 y) => alw_pre (W := W) (w1 := w1) (c := c) (u0 := (.slice a0 x.cell.length c0)) (u1 := (.slice a1 x.stack.length c1)) (u2 := (.slice a2 x.queue.length c2)) (u3 := (.slice a3 x.set.length c3)) (u4 := (.slice a4 x.table.length c4)) (ak := ak) (av := av) hat
  clear hu
  have kk : ((((W.alloc (ctO (.slice a0 x.cell.length c0) (.slice a1 x.stack.length c1) (.slice a2 x.queue.length c2) (.slice a3 x.set.length c3) (.slice a4 x.table.length c4))).alloc (cqO c)).alloc nil5).heap[W.heap.size + 1]? = some (cqO c)) := old_at (new_at (W.alloc (ctO (.slice a0 x.cell.length c0) (.slice a1 x.stack.length c1) (.slice a2 x.queue.length c2) (.slice a3 x.set.length c3) (.slice a4 x.table.length c4))) (cqO c) _ (by simp)) nil5
  unfold nil5 ctO cqO at B0
  unfold nil5 ctO at kk
  unfold ctO ansO cqO at DP
  obtain ⟨o0, o1, o2, o3, o4, o5, o6, o7, o8, o9⟩ := cq_cells kk
  unfold cqO at o0 o1 o2 o3 o4 o5 o6 o7 o8 o9
  clear kk
  replace C := Mr.hid C
  replace CC := Mr.hid CC
  replace B0 := Mr.hid B0
  replace DP := Mr.hid DP
  replace ho := Mr.hid ho
  replace h4 := Mr.hid h4
  replace h5 := Mr.hid h5
  go_enter Try.func45, Try.ntmps45
  go_upto_region 2 with (go_at_call 44; refine (C.out _ B0.out).mono ?_; clear C; rintro e w1 ⟨v0, v1, v2, v3, v4, rfl, hv, hB1⟩; simp only [World.size_alloc] at hB1 hv; have hD := DP.out _ _ _ _ _ _ hv hB1; clear DP; obtain ⟨z0, q0, rfl, _⟩ := hv.cell.form; obtain ⟨z1, q1, rfl, _⟩ := hv.stack.form; obtain ⟨z2, q2, rfl, _⟩ := hv.queue.form; obtain ⟨z3, q3, rfl, _⟩ := hv.set.form; obtain ⟨z4, q4, rfl, _⟩ := hv.table.form; unfold ans; clear hv hB1 B0 o0 o1 o2 o3 o4 o5 o6 o7 o8 o9; replace hD := Mr.hid hD)
  rw [show W.heap.size + 1 + 1 = W.heap.size + 2 from rfl]
  obtain ⟨b6, hb6⟩ : ∃ b, b = w1.heap.size := ⟨_, rfl⟩
  rw [← hb6] at hD ⊢
  clear hb6
  generalize ((w1.alloc (.cells #[.slice z0 y.cell.length q0, .slice z1 y.stack.length q1, .slice z2 y.queue.length q2, .slice z3 y.set.length q3, .slice z4 y.table.length q4] 25 (0, 0))).alloc (.cells #[.int .i64 ak, .int .i64 av] 31 (0, 0))) = w2 at *
  obtain ⟨o0, o1, o2, o3, o4, o5, o6, o7, o8, o9⟩ := cq_cells hD.out.call
  obtain ⟨k0, k1, k2, k3, k4, kl⟩ := ctO_cells hD.out.left
  obtain ⟨i0, i1, il, -, -⟩ := ansO_cells hD.out.ans
  obtain ⟨r0, r1, r2, r3, r4, rl⟩ := ctO_cells hD.out.res
  obtain ⟨t0, t1, t2, t3, t4, tl⟩ := ctO_cells hD.out.arg
  obtain ⟨f0, f1, f2, f3, f4⟩ := ctO_thaw hD.out.res
  have hap := hD.out.apart
  have hq : r = (x, true) := by rw [hr.out]; unfold alw; rw [h4.out, if_neg (by decide), if_pos rfl, if_pos (by rw [h5.out]; decide)]
  replace hq := Mr.hid hq
  have hz : (c.ak == 0) = false := by rw [h4.out]; rfl
  have hz4 : (c.ak == 4) = true := by rw [h4.out]; rfl
  have ho22 : (c.op == 22) = false := by rw [h5.out]; rfl
  have ho30 : (c.op == 30) = false := by rw [h5.out]; rfl
  have ho40 : (c.op == 40) = true := by rw [h5.out]; rfl
  have ho50 : (c.op == 50) = false := by rw [h5.out]; rfl
  have ho60 : (c.op == 60) = false := by rw [h5.out]; rfl
  have B2 := hD.out.bel
  have BC := fun w3 (hB : Below w2.heap.size w2 w3) => hD.out.below hB
  replace BC := Mr.hid BC
  replace B2 := Mr.hid B2
  clear h4 h5 hD
  go_wp2_with (first | (go_at_call 40; refine (CC.out _ B2.out).mono ?_; clear CC; rintro e w3 ⟨v0, v1, v2, v3, v4, rfl, hv, -, hB3⟩; have hD := BC.out w3 hB3; clear BC; obtain ⟨m0, n0, rfl, _⟩ := hv.cell.form; obtain ⟨m1, n1, rfl, _⟩ := hv.stack.form; obtain ⟨m2, n2, rfl, _⟩ := hv.queue.form; obtain ⟨m3, n3, rfl, _⟩ := hv.set.form; obtain ⟨m4, n4, rfl, _⟩ := hv.table.form; obtain ⟨r0, r1, r2, r3, r4, rl⟩ := ctO_cells hD.res; obtain ⟨f0, f1, f2, f3, f4⟩ := ctO_thaw hD.res; have hs3 := hB3.size; have hA := hv.at; clear hv hB3; replace hD := Mr.hid hD; replace hA := Mr.hid hA))
  replace hq := hq.out
  obtain ⟨e1, e2, e3⟩ := end5a (v0 := (.slice m0 x.cell.length n0)) (v1 := (.slice m1 x.stack.length n1)) (v2 := (.slice m2 x.queue.length n2)) (v3 := (.slice m3 x.set.length n3)) (v4 := (.slice m4 x.table.length n4)) hD.out.bel (b := W.heap.size + 2) (by omega) hD.out.res (hA.out) (fun k hk => by omega)
  obtain ⟨d0, d1, d2, d3, d4, -⟩ := ctO_cells e3
  unfold set5 at e1 e2 d0 d1 d2 d3 d4
  replace e1 := Mr.hid e1
  replace e2 := Mr.hid e2
  clear e3
  refine bodyPost_ret (v := .tuple #[.agg #[.slice m0 x.cell.length n0, .slice m1 x.stack.length n1, .slice m2 x.queue.length n2, .slice m3 x.set.length n3, .slice m4 x.table.length n4], .bool true]) (by simp [results, Try.results45, go_sem, d0, d1, d2, d3, d4]) rfl ?_
  exact ⟨_, _, _, _, _, by rw [hq], by rw [hq]; exact e1.out, e2.out⟩
set_option maxRecDepth 100000 in
set_option maxHeartbeats 8000000 in
theorem alw_4_50 {W : World} {S : Nat → Prop} {u0 u1 u2 u3 u4 : Value} {x : Ct} (hu : CtAt W S u0 u1 u2 u3 u4 x) (hin : CtIn 225000000000000 x) (c : Cq) (ho : obj c.op ≠ 0) (h4 : c.ak = 4) (h5 : c.op = 50) :
    Calls Try.prog 45 #[.agg #[u0, u1, u2, u3, u4], .agg #[.int .i64 c.th, .int .i64 c.op, .int .i64 c.arg, .int .i64 c.data, .int .i64 c.beg, .int .i64 c.fin, .int .i64 c.pt, .int .i64 c.ak, .int .i64 c.av]] W fun e w' => ∃ v0 v1 v2 v3 v4, e = .returned (.tuple #[.agg #[v0, v1, v2, v3, v4], .bool (alw x c).2]) ∧ CtAt w' (fun k => W.heap.size ≤ k) v0 v1 v2 v3 v4 (alw x c).1 ∧ Below W.heap.size W w' := by
  have C := fun w' (hB : Below W.heap.size W w') => do_any (hu.below hB) hin c.op c.arg c.data ho
  have CC := fun w' (hB : Below W.heap.size W w') => copy_any (hu.below hB) hin
  obtain ⟨a0, c0, rfl, _⟩ := hu.cell.form
  obtain ⟨a1, c1, rfl, _⟩ := hu.stack.form
  obtain ⟨a2, c2, rfl, _⟩ := hu.queue.form
  obtain ⟨a3, c3, rfl, _⟩ := hu.set.form
  obtain ⟨a4, c4, rfl, _⟩ := hu.table.form
  obtain ⟨ak, av, hak⟩ : ∃ a b, (dan x c.op c.arg) = (a, b) := ⟨_, _, rfl⟩
  rw [hak] at C
  obtain ⟨y, hy⟩ : ∃ y, y = dnx x c.op c.arg c.data := ⟨_, rfl⟩
  rw [← hy] at C
  obtain ⟨r, hr⟩ : ∃ r, r = alw x c := ⟨_, rfl⟩
  rw [← hr]
  replace hy := Mr.hid hy
  replace hr := Mr.hid hr
  replace hak := Mr.hid hak
  have B0 := (((Below.refl W.heap.size W).alloc (Nat.le_refl _) (ctO (.slice a0 x.cell.length c0) (.slice a1 x.stack.length c1) (.slice a2 x.queue.length c2) (.slice a3 x.set.length c3) (.slice a4 x.table.length c4))).alloc (by simp) (cqO c)).alloc (by simp; omega) nil5
  have DP := fun w1 v0 v1 v2 v3 v4 (hat : CtAt w1 (fun k => W.heap.size + 3 ≤ k) v0 v1 v2 v3 v4 y) => alw_pre (W := W) (w1 := w1) (c := c) (u0 := (.slice a0 x.cell.length c0)) (u1 := (.slice a1 x.stack.length c1)) (u2 := (.slice a2 x.queue.length c2)) (u3 := (.slice a3 x.set.length c3)) (u4 := (.slice a4 x.table.length c4)) (ak := ak) (av := av) hat
  clear hu
  have kk : ((((W.alloc (ctO (.slice a0 x.cell.length c0) (.slice a1 x.stack.length c1) (.slice a2 x.queue.length c2) (.slice a3 x.set.length c3) (.slice a4 x.table.length c4))).alloc (cqO c)).alloc nil5).heap[W.heap.size + 1]? = some (cqO c)) := old_at (new_at (W.alloc (ctO (.slice a0 x.cell.length c0) (.slice a1 x.stack.length c1) (.slice a2 x.queue.length c2) (.slice a3 x.set.length c3) (.slice a4 x.table.length c4))) (cqO c) _ (by simp)) nil5
  unfold nil5 ctO cqO at B0
  unfold nil5 ctO at kk
  unfold ctO ansO cqO at DP
  obtain ⟨o0, o1, o2, o3, o4, o5, o6, o7, o8, o9⟩ := cq_cells kk
  unfold cqO at o0 o1 o2 o3 o4 o5 o6 o7 o8 o9
  clear kk
  replace C := Mr.hid C
  replace CC := Mr.hid CC
  replace B0 := Mr.hid B0
  replace DP := Mr.hid DP
  replace ho := Mr.hid ho
  replace h4 := Mr.hid h4
  replace h5 := Mr.hid h5
  go_enter Try.func45, Try.ntmps45
  go_upto_region 2 with (go_at_call 44; refine (C.out _ B0.out).mono ?_; clear C; rintro e w1 ⟨v0, v1, v2, v3, v4, rfl, hv, hB1⟩; simp only [World.size_alloc] at hB1 hv; have hD := DP.out _ _ _ _ _ _ hv hB1; clear DP; obtain ⟨z0, q0, rfl, _⟩ := hv.cell.form; obtain ⟨z1, q1, rfl, _⟩ := hv.stack.form; obtain ⟨z2, q2, rfl, _⟩ := hv.queue.form; obtain ⟨z3, q3, rfl, _⟩ := hv.set.form; obtain ⟨z4, q4, rfl, _⟩ := hv.table.form; unfold ans; clear hv hB1 B0 o0 o1 o2 o3 o4 o5 o6 o7 o8 o9; replace hD := Mr.hid hD)
  rw [show W.heap.size + 1 + 1 = W.heap.size + 2 from rfl]
  obtain ⟨b6, hb6⟩ : ∃ b, b = w1.heap.size := ⟨_, rfl⟩
  rw [← hb6] at hD ⊢
  clear hb6
  generalize ((w1.alloc (.cells #[.slice z0 y.cell.length q0, .slice z1 y.stack.length q1, .slice z2 y.queue.length q2, .slice z3 y.set.length q3, .slice z4 y.table.length q4] 25 (0, 0))).alloc (.cells #[.int .i64 ak, .int .i64 av] 31 (0, 0))) = w2 at *
  obtain ⟨o0, o1, o2, o3, o4, o5, o6, o7, o8, o9⟩ := cq_cells hD.out.call
  obtain ⟨k0, k1, k2, k3, k4, kl⟩ := ctO_cells hD.out.left
  obtain ⟨i0, i1, il, -, -⟩ := ansO_cells hD.out.ans
  obtain ⟨r0, r1, r2, r3, r4, rl⟩ := ctO_cells hD.out.res
  obtain ⟨t0, t1, t2, t3, t4, tl⟩ := ctO_cells hD.out.arg
  obtain ⟨f0, f1, f2, f3, f4⟩ := ctO_thaw hD.out.res
  have hap := hD.out.apart
  have hq : r = (x, true) := by rw [hr.out]; unfold alw; rw [h4.out, if_neg (by decide), if_pos rfl, if_pos (by rw [h5.out]; decide)]
  replace hq := Mr.hid hq
  have hz : (c.ak == 0) = false := by rw [h4.out]; rfl
  have hz4 : (c.ak == 4) = true := by rw [h4.out]; rfl
  have ho22 : (c.op == 22) = false := by rw [h5.out]; rfl
  have ho30 : (c.op == 30) = false := by rw [h5.out]; rfl
  have ho40 : (c.op == 40) = false := by rw [h5.out]; rfl
  have ho50 : (c.op == 50) = true := by rw [h5.out]; rfl
  have ho60 : (c.op == 60) = false := by rw [h5.out]; rfl
  have B2 := hD.out.bel
  have BC := fun w3 (hB : Below w2.heap.size w2 w3) => hD.out.below hB
  replace BC := Mr.hid BC
  replace B2 := Mr.hid B2
  clear h4 h5 hD
  go_wp2_with (first | (go_at_call 40; refine (CC.out _ B2.out).mono ?_; clear CC; rintro e w3 ⟨v0, v1, v2, v3, v4, rfl, hv, -, hB3⟩; have hD := BC.out w3 hB3; clear BC; obtain ⟨m0, n0, rfl, _⟩ := hv.cell.form; obtain ⟨m1, n1, rfl, _⟩ := hv.stack.form; obtain ⟨m2, n2, rfl, _⟩ := hv.queue.form; obtain ⟨m3, n3, rfl, _⟩ := hv.set.form; obtain ⟨m4, n4, rfl, _⟩ := hv.table.form; obtain ⟨r0, r1, r2, r3, r4, rl⟩ := ctO_cells hD.res; obtain ⟨f0, f1, f2, f3, f4⟩ := ctO_thaw hD.res; have hs3 := hB3.size; have hA := hv.at; clear hv hB3; replace hD := Mr.hid hD; replace hA := Mr.hid hA))
  replace hq := hq.out
  obtain ⟨e1, e2, e3⟩ := end5a (v0 := (.slice m0 x.cell.length n0)) (v1 := (.slice m1 x.stack.length n1)) (v2 := (.slice m2 x.queue.length n2)) (v3 := (.slice m3 x.set.length n3)) (v4 := (.slice m4 x.table.length n4)) hD.out.bel (b := W.heap.size + 2) (by omega) hD.out.res (hA.out) (fun k hk => by omega)
  obtain ⟨d0, d1, d2, d3, d4, -⟩ := ctO_cells e3
  unfold set5 at e1 e2 d0 d1 d2 d3 d4
  replace e1 := Mr.hid e1
  replace e2 := Mr.hid e2
  clear e3
  refine bodyPost_ret (v := .tuple #[.agg #[.slice m0 x.cell.length n0, .slice m1 x.stack.length n1, .slice m2 x.queue.length n2, .slice m3 x.set.length n3, .slice m4 x.table.length n4], .bool true]) (by simp [results, Try.results45, go_sem, d0, d1, d2, d3, d4]) rfl ?_
  exact ⟨_, _, _, _, _, by rw [hq], by rw [hq]; exact e1.out, e2.out⟩
set_option maxRecDepth 100000 in
set_option maxHeartbeats 8000000 in
theorem alw_4_60 {W : World} {S : Nat → Prop} {u0 u1 u2 u3 u4 : Value} {x : Ct} (hu : CtAt W S u0 u1 u2 u3 u4 x) (hin : CtIn 225000000000000 x) (c : Cq) (ho : obj c.op ≠ 0) (h4 : c.ak = 4) (h5 : c.op = 60) :
    Calls Try.prog 45 #[.agg #[u0, u1, u2, u3, u4], .agg #[.int .i64 c.th, .int .i64 c.op, .int .i64 c.arg, .int .i64 c.data, .int .i64 c.beg, .int .i64 c.fin, .int .i64 c.pt, .int .i64 c.ak, .int .i64 c.av]] W fun e w' => ∃ v0 v1 v2 v3 v4, e = .returned (.tuple #[.agg #[v0, v1, v2, v3, v4], .bool (alw x c).2]) ∧ CtAt w' (fun k => W.heap.size ≤ k) v0 v1 v2 v3 v4 (alw x c).1 ∧ Below W.heap.size W w' := by
  have C := fun w' (hB : Below W.heap.size W w') => do_any (hu.below hB) hin c.op c.arg c.data ho
  have CC := fun w' (hB : Below W.heap.size W w') => copy_any (hu.below hB) hin
  obtain ⟨a0, c0, rfl, _⟩ := hu.cell.form
  obtain ⟨a1, c1, rfl, _⟩ := hu.stack.form
  obtain ⟨a2, c2, rfl, _⟩ := hu.queue.form
  obtain ⟨a3, c3, rfl, _⟩ := hu.set.form
  obtain ⟨a4, c4, rfl, _⟩ := hu.table.form
  obtain ⟨ak, av, hak⟩ : ∃ a b, (dan x c.op c.arg) = (a, b) := ⟨_, _, rfl⟩
  rw [hak] at C
  obtain ⟨y, hy⟩ : ∃ y, y = dnx x c.op c.arg c.data := ⟨_, rfl⟩
  rw [← hy] at C
  obtain ⟨r, hr⟩ : ∃ r, r = alw x c := ⟨_, rfl⟩
  rw [← hr]
  replace hy := Mr.hid hy
  replace hr := Mr.hid hr
  replace hak := Mr.hid hak
  have B0 := (((Below.refl W.heap.size W).alloc (Nat.le_refl _) (ctO (.slice a0 x.cell.length c0) (.slice a1 x.stack.length c1) (.slice a2 x.queue.length c2) (.slice a3 x.set.length c3) (.slice a4 x.table.length c4))).alloc (by simp) (cqO c)).alloc (by simp; omega) nil5
  have DP := fun w1 v0 v1 v2 v3 v4 (hat : CtAt w1 (fun k => W.heap.size + 3 ≤ k) v0 v1 v2 v3 v4 y) => alw_pre (W := W) (w1 := w1) (c := c) (u0 := (.slice a0 x.cell.length c0)) (u1 := (.slice a1 x.stack.length c1)) (u2 := (.slice a2 x.queue.length c2)) (u3 := (.slice a3 x.set.length c3)) (u4 := (.slice a4 x.table.length c4)) (ak := ak) (av := av) hat
  clear hu
  have kk : ((((W.alloc (ctO (.slice a0 x.cell.length c0) (.slice a1 x.stack.length c1) (.slice a2 x.queue.length c2) (.slice a3 x.set.length c3) (.slice a4 x.table.length c4))).alloc (cqO c)).alloc nil5).heap[W.heap.size + 1]? = some (cqO c)) := old_at (new_at (W.alloc (ctO (.slice a0 x.cell.length c0) (.slice a1 x.stack.length c1) (.slice a2 x.queue.length c2) (.slice a3 x.set.length c3) (.slice a4 x.table.length c4))) (cqO c) _ (by simp)) nil5
  unfold nil5 ctO cqO at B0
  unfold nil5 ctO at kk
  unfold ctO ansO cqO at DP
  obtain ⟨o0, o1, o2, o3, o4, o5, o6, o7, o8, o9⟩ := cq_cells kk
  unfold cqO at o0 o1 o2 o3 o4 o5 o6 o7 o8 o9
  clear kk
  replace C := Mr.hid C
  replace CC := Mr.hid CC
  replace B0 := Mr.hid B0
  replace DP := Mr.hid DP
  replace ho := Mr.hid ho
  replace h4 := Mr.hid h4
  replace h5 := Mr.hid h5
  go_enter Try.func45, Try.ntmps45
  go_upto_region 2 with (go_at_call 44; refine (C.out _ B0.out).mono ?_; clear C; rintro e w1 ⟨v0, v1, v2, v3, v4, rfl, hv, hB1⟩; simp only [World.size_alloc] at hB1 hv; have hD := DP.out _ _ _ _ _ _ hv hB1; clear DP; obtain ⟨z0, q0, rfl, _⟩ := hv.cell.form; obtain ⟨z1, q1, rfl, _⟩ := hv.stack.form; obtain ⟨z2, q2, rfl, _⟩ := hv.queue.form; obtain ⟨z3, q3, rfl, _⟩ := hv.set.form; obtain ⟨z4, q4, rfl, _⟩ := hv.table.form; unfold ans; clear hv hB1 B0 o0 o1 o2 o3 o4 o5 o6 o7 o8 o9; replace hD := Mr.hid hD)
  rw [show W.heap.size + 1 + 1 = W.heap.size + 2 from rfl]
  obtain ⟨b6, hb6⟩ : ∃ b, b = w1.heap.size := ⟨_, rfl⟩
  rw [← hb6] at hD ⊢
  clear hb6
  generalize ((w1.alloc (.cells #[.slice z0 y.cell.length q0, .slice z1 y.stack.length q1, .slice z2 y.queue.length q2, .slice z3 y.set.length q3, .slice z4 y.table.length q4] 25 (0, 0))).alloc (.cells #[.int .i64 ak, .int .i64 av] 31 (0, 0))) = w2 at *
  obtain ⟨o0, o1, o2, o3, o4, o5, o6, o7, o8, o9⟩ := cq_cells hD.out.call
  obtain ⟨k0, k1, k2, k3, k4, kl⟩ := ctO_cells hD.out.left
  obtain ⟨i0, i1, il, -, -⟩ := ansO_cells hD.out.ans
  obtain ⟨r0, r1, r2, r3, r4, rl⟩ := ctO_cells hD.out.res
  obtain ⟨t0, t1, t2, t3, t4, tl⟩ := ctO_cells hD.out.arg
  obtain ⟨f0, f1, f2, f3, f4⟩ := ctO_thaw hD.out.res
  have hap := hD.out.apart
  have hq : r = (x, true) := by rw [hr.out]; unfold alw; rw [h4.out, if_neg (by decide), if_pos rfl, if_pos (by rw [h5.out]; decide)]
  replace hq := Mr.hid hq
  have hz : (c.ak == 0) = false := by rw [h4.out]; rfl
  have hz4 : (c.ak == 4) = true := by rw [h4.out]; rfl
  have ho22 : (c.op == 22) = false := by rw [h5.out]; rfl
  have ho30 : (c.op == 30) = false := by rw [h5.out]; rfl
  have ho40 : (c.op == 40) = false := by rw [h5.out]; rfl
  have ho50 : (c.op == 50) = false := by rw [h5.out]; rfl
  have ho60 : (c.op == 60) = true := by rw [h5.out]; rfl
  have B2 := hD.out.bel
  have BC := fun w3 (hB : Below w2.heap.size w2 w3) => hD.out.below hB
  replace BC := Mr.hid BC
  replace B2 := Mr.hid B2
  clear h4 h5 hD
  go_wp2_with (first | (go_at_call 40; refine (CC.out _ B2.out).mono ?_; clear CC; rintro e w3 ⟨v0, v1, v2, v3, v4, rfl, hv, -, hB3⟩; have hD := BC.out w3 hB3; clear BC; obtain ⟨m0, n0, rfl, _⟩ := hv.cell.form; obtain ⟨m1, n1, rfl, _⟩ := hv.stack.form; obtain ⟨m2, n2, rfl, _⟩ := hv.queue.form; obtain ⟨m3, n3, rfl, _⟩ := hv.set.form; obtain ⟨m4, n4, rfl, _⟩ := hv.table.form; obtain ⟨r0, r1, r2, r3, r4, rl⟩ := ctO_cells hD.res; obtain ⟨f0, f1, f2, f3, f4⟩ := ctO_thaw hD.res; have hs3 := hB3.size; have hA := hv.at; clear hv hB3; replace hD := Mr.hid hD; replace hA := Mr.hid hA))
  replace hq := hq.out
  obtain ⟨e1, e2, e3⟩ := end5a (v0 := (.slice m0 x.cell.length n0)) (v1 := (.slice m1 x.stack.length n1)) (v2 := (.slice m2 x.queue.length n2)) (v3 := (.slice m3 x.set.length n3)) (v4 := (.slice m4 x.table.length n4)) hD.out.bel (b := W.heap.size + 2) (by omega) hD.out.res (hA.out) (fun k hk => by omega)
  obtain ⟨d0, d1, d2, d3, d4, -⟩ := ctO_cells e3
  unfold set5 at e1 e2 d0 d1 d2 d3 d4
  replace e1 := Mr.hid e1
  replace e2 := Mr.hid e2
  clear e3
  refine bodyPost_ret (v := .tuple #[.agg #[.slice m0 x.cell.length n0, .slice m1 x.stack.length n1, .slice m2 x.queue.length n2, .slice m3 x.set.length n3, .slice m4 x.table.length n4], .bool true]) (by simp [results, Try.results45, go_sem, d0, d1, d2, d3, d4]) rfl ?_
  exact ⟨_, _, _, _, _, by rw [hq], by rw [hq]; exact e1.out, e2.out⟩
set_option maxRecDepth 100000 in
set_option maxHeartbeats 8000000 in
theorem alw_4n {W : World} {S : Nat → Prop} {u0 u1 u2 u3 u4 : Value} {x : Ct} (hu : CtAt W S u0 u1 u2 u3 u4 x) (hin : CtIn 225000000000000 x) (c : Cq) (ho : obj c.op ≠ 0) (h4 : c.ak = 4) (h5 : ¬ fullOp c.op) :
    Calls Try.prog 45 #[.agg #[u0, u1, u2, u3, u4], .agg #[.int .i64 c.th, .int .i64 c.op, .int .i64 c.arg, .int .i64 c.data, .int .i64 c.beg, .int .i64 c.fin, .int .i64 c.pt, .int .i64 c.ak, .int .i64 c.av]] W fun e w' => ∃ v0 v1 v2 v3 v4, e = .returned (.tuple #[.agg #[v0, v1, v2, v3, v4], .bool (alw x c).2]) ∧ CtAt w' (fun k => W.heap.size ≤ k) v0 v1 v2 v3 v4 (alw x c).1 ∧ Below W.heap.size W w' := by
  have C := fun w' (hB : Below W.heap.size W w') => do_any (hu.below hB) hin c.op c.arg c.data ho
  have CC := fun w' (hB : Below W.heap.size W w') => copy_any (hu.below hB) hin
  obtain ⟨a0, c0, rfl, _⟩ := hu.cell.form
  obtain ⟨a1, c1, rfl, _⟩ := hu.stack.form
  obtain ⟨a2, c2, rfl, _⟩ := hu.queue.form
  obtain ⟨a3, c3, rfl, _⟩ := hu.set.form
  obtain ⟨a4, c4, rfl, _⟩ := hu.table.form
  obtain ⟨ak, av, hak⟩ : ∃ a b, (dan x c.op c.arg) = (a, b) := ⟨_, _, rfl⟩
  rw [hak] at C
  obtain ⟨y, hy⟩ : ∃ y, y = dnx x c.op c.arg c.data := ⟨_, rfl⟩
  rw [← hy] at C
  obtain ⟨r, hr⟩ : ∃ r, r = alw x c := ⟨_, rfl⟩
  rw [← hr]
  replace hy := Mr.hid hy
  replace hr := Mr.hid hr
  replace hak := Mr.hid hak
  have B0 := (((Below.refl W.heap.size W).alloc (Nat.le_refl _) (ctO (.slice a0 x.cell.length c0) (.slice a1 x.stack.length c1) (.slice a2 x.queue.length c2) (.slice a3 x.set.length c3) (.slice a4 x.table.length c4))).alloc (by simp) (cqO c)).alloc (by simp; omega) nil5
  have DP := fun w1 v0 v1 v2 v3 v4 (hat : CtAt w1 (fun k => W.heap.size + 3 ≤ k) v0 v1 v2 v3 v4 y) => alw_pre (W := W) (w1 := w1) (c := c) (u0 := (.slice a0 x.cell.length c0)) (u1 := (.slice a1 x.stack.length c1)) (u2 := (.slice a2 x.queue.length c2)) (u3 := (.slice a3 x.set.length c3)) (u4 := (.slice a4 x.table.length c4)) (ak := ak) (av := av) hat
  clear hu
  have kk : ((((W.alloc (ctO (.slice a0 x.cell.length c0) (.slice a1 x.stack.length c1) (.slice a2 x.queue.length c2) (.slice a3 x.set.length c3) (.slice a4 x.table.length c4))).alloc (cqO c)).alloc nil5).heap[W.heap.size + 1]? = some (cqO c)) := old_at (new_at (W.alloc (ctO (.slice a0 x.cell.length c0) (.slice a1 x.stack.length c1) (.slice a2 x.queue.length c2) (.slice a3 x.set.length c3) (.slice a4 x.table.length c4))) (cqO c) _ (by simp)) nil5
  unfold nil5 ctO cqO at B0
  unfold nil5 ctO at kk
  unfold ctO ansO cqO at DP
  obtain ⟨o0, o1, o2, o3, o4, o5, o6, o7, o8, o9⟩ := cq_cells kk
  unfold cqO at o0 o1 o2 o3 o4 o5 o6 o7 o8 o9
  clear kk
  replace C := Mr.hid C
  replace CC := Mr.hid CC
  replace B0 := Mr.hid B0
  replace DP := Mr.hid DP
  replace ho := Mr.hid ho
  replace h4 := Mr.hid h4
  replace h5 := Mr.hid h5
  go_enter Try.func45, Try.ntmps45
  go_upto_region 2 with (go_at_call 44; refine (C.out _ B0.out).mono ?_; clear C; rintro e w1 ⟨v0, v1, v2, v3, v4, rfl, hv, hB1⟩; simp only [World.size_alloc] at hB1 hv; have hD := DP.out _ _ _ _ _ _ hv hB1; clear DP; obtain ⟨z0, q0, rfl, _⟩ := hv.cell.form; obtain ⟨z1, q1, rfl, _⟩ := hv.stack.form; obtain ⟨z2, q2, rfl, _⟩ := hv.queue.form; obtain ⟨z3, q3, rfl, _⟩ := hv.set.form; obtain ⟨z4, q4, rfl, _⟩ := hv.table.form; unfold ans; clear hv hB1 B0 o0 o1 o2 o3 o4 o5 o6 o7 o8 o9; replace hD := Mr.hid hD)
  rw [show W.heap.size + 1 + 1 = W.heap.size + 2 from rfl]
  obtain ⟨b6, hb6⟩ : ∃ b, b = w1.heap.size := ⟨_, rfl⟩
  rw [← hb6] at hD ⊢
  clear hb6
  generalize ((w1.alloc (.cells #[.slice z0 y.cell.length q0, .slice z1 y.stack.length q1, .slice z2 y.queue.length q2, .slice z3 y.set.length q3, .slice z4 y.table.length q4] 25 (0, 0))).alloc (.cells #[.int .i64 ak, .int .i64 av] 31 (0, 0))) = w2 at *
  obtain ⟨o0, o1, o2, o3, o4, o5, o6, o7, o8, o9⟩ := cq_cells hD.out.call
  obtain ⟨k0, k1, k2, k3, k4, kl⟩ := ctO_cells hD.out.left
  obtain ⟨i0, i1, il, -, -⟩ := ansO_cells hD.out.ans
  obtain ⟨r0, r1, r2, r3, r4, rl⟩ := ctO_cells hD.out.res
  obtain ⟨t0, t1, t2, t3, t4, tl⟩ := ctO_cells hD.out.arg
  obtain ⟨f0, f1, f2, f3, f4⟩ := ctO_thaw hD.out.res
  have hap := hD.out.apart
  have hq : r = (ct0, false) := by rw [hr.out]; unfold alw; rw [h4.out, if_neg (by decide), if_pos rfl, if_neg h5.out]
  replace hq := Mr.hid hq
  have hz : (c.ak == 0) = false := by rw [h4.out]; rfl
  have hz4 : (c.ak == 4) = true := by rw [h4.out]; rfl
  have ho22 : (c.op == 22) = false := by rw [beq_eq_false_iff_ne]; intro e; exact h5.out (by unfold fullOp; omega)
  have ho30 : (c.op == 30) = false := by rw [beq_eq_false_iff_ne]; intro e; exact h5.out (by unfold fullOp; omega)
  have ho40 : (c.op == 40) = false := by rw [beq_eq_false_iff_ne]; intro e; exact h5.out (by unfold fullOp; omega)
  have ho50 : (c.op == 50) = false := by rw [beq_eq_false_iff_ne]; intro e; exact h5.out (by unfold fullOp; omega)
  have ho60 : (c.op == 60) = false := by rw [beq_eq_false_iff_ne]; intro e; exact h5.out (by unfold fullOp; omega)
  clear h4 h5
  go_wp2
  replace hq := hq.out
  obtain ⟨e1, e2, e3⟩ := end5a (v0 := (.slice none 0 0)) (v1 := (.slice none 0 0)) (v2 := (.slice none 0 0)) (v3 := (.slice none 0 0)) (v4 := (.slice none 0 0)) hD.out.bel (b := W.heap.size + 2) (by omega) hD.out.res (ct0_at _ (fun k => W.heap.size + 3 ≤ k)) (fun k hk => by omega)
  obtain ⟨d0, d1, d2, d3, d4, -⟩ := ctO_cells e3
  unfold set5 at e1 e2 d0 d1 d2 d3 d4
  replace e1 := Mr.hid e1
  replace e2 := Mr.hid e2
  clear e3
  refine bodyPost_ret (v := .tuple #[.agg #[.slice none 0 0, .slice none 0 0, .slice none 0 0, .slice none 0 0, .slice none 0 0], .bool false]) (by simp [results, Try.results45, go_sem, d0, d1, d2, d3, d4]) rfl ?_
  exact ⟨_, _, _, _, _, by rw [hq], by rw [hq]; exact e1.out, e2.out⟩
set_option maxRecDepth 100000 in
set_option maxHeartbeats 8000000 in
theorem alw_eq {W : World} {S : Nat → Prop} {u0 u1 u2 u3 u4 : Value} {x : Ct} (hu : CtAt W S u0 u1 u2 u3 u4 x) (hin : CtIn 225000000000000 x) (c : Cq) (ho : obj c.op ≠ 0) (h0 : c.ak ≠ 0) (h4 : c.ak ≠ 4) (h5 : dan x c.op c.arg = (c.ak, c.av)) :
    Calls Try.prog 45 #[.agg #[u0, u1, u2, u3, u4], .agg #[.int .i64 c.th, .int .i64 c.op, .int .i64 c.arg, .int .i64 c.data, .int .i64 c.beg, .int .i64 c.fin, .int .i64 c.pt, .int .i64 c.ak, .int .i64 c.av]] W fun e w' => ∃ v0 v1 v2 v3 v4, e = .returned (.tuple #[.agg #[v0, v1, v2, v3, v4], .bool (alw x c).2]) ∧ CtAt w' (fun k => W.heap.size ≤ k) v0 v1 v2 v3 v4 (alw x c).1 ∧ Below W.heap.size W w' := by
  have C := fun w' (hB : Below W.heap.size W w') => do_any (hu.below hB) hin c.op c.arg c.data ho
  have CC := fun w' (hB : Below W.heap.size W w') => copy_any (hu.below hB) hin
  obtain ⟨a0, c0, rfl, _⟩ := hu.cell.form
  obtain ⟨a1, c1, rfl, _⟩ := hu.stack.form
  obtain ⟨a2, c2, rfl, _⟩ := hu.queue.form
  obtain ⟨a3, c3, rfl, _⟩ := hu.set.form
  obtain ⟨a4, c4, rfl, _⟩ := hu.table.form
  obtain ⟨ak, av, hak⟩ : ∃ a b, (dan x c.op c.arg) = (a, b) := ⟨_, _, rfl⟩
  rw [hak] at C
  obtain ⟨y, hy⟩ : ∃ y, y = dnx x c.op c.arg c.data := ⟨_, rfl⟩
  rw [← hy] at C
  obtain ⟨r, hr⟩ : ∃ r, r = alw x c := ⟨_, rfl⟩
  rw [← hr]
  replace hy := Mr.hid hy
  replace hr := Mr.hid hr
  replace hak := Mr.hid hak
  have B0 := (((Below.refl W.heap.size W).alloc (Nat.le_refl _) (ctO (.slice a0 x.cell.length c0) (.slice a1 x.stack.length c1) (.slice a2 x.queue.length c2) (.slice a3 x.set.length c3) (.slice a4 x.table.length c4))).alloc (by simp) (cqO c)).alloc (by simp; omega) nil5
  have DP := fun w1 v0 v1 v2 v3 v4 (hat : CtAt w1 (fun k => W.heap.size + 3 ≤ k) v0 v1 v2 v3 v4 y) => alw_pre (W := W) (w1 := w1) (c := c) (u0 := (.slice a0 x.cell.length c0)) (u1 := (.slice a1 x.stack.length c1)) (u2 := (.slice a2 x.queue.length c2)) (u3 := (.slice a3 x.set.length c3)) (u4 := (.slice a4 x.table.length c4)) (ak := ak) (av := av) hat
  clear hu
  have kk : ((((W.alloc (ctO (.slice a0 x.cell.length c0) (.slice a1 x.stack.length c1) (.slice a2 x.queue.length c2) (.slice a3 x.set.length c3) (.slice a4 x.table.length c4))).alloc (cqO c)).alloc nil5).heap[W.heap.size + 1]? = some (cqO c)) := old_at (new_at (W.alloc (ctO (.slice a0 x.cell.length c0) (.slice a1 x.stack.length c1) (.slice a2 x.queue.length c2) (.slice a3 x.set.length c3) (.slice a4 x.table.length c4))) (cqO c) _ (by simp)) nil5
  unfold nil5 ctO cqO at B0
  unfold nil5 ctO at kk
  unfold ctO ansO cqO at DP
  obtain ⟨o0, o1, o2, o3, o4, o5, o6, o7, o8, o9⟩ := cq_cells kk
  unfold cqO at o0 o1 o2 o3 o4 o5 o6 o7 o8 o9
  clear kk
  replace C := Mr.hid C
  replace CC := Mr.hid CC
  replace B0 := Mr.hid B0
  replace DP := Mr.hid DP
  replace ho := Mr.hid ho
  replace h0 := Mr.hid h0
  replace h4 := Mr.hid h4
  replace h5 := Mr.hid h5
  go_enter Try.func45, Try.ntmps45
  go_upto_region 2 with (go_at_call 44; refine (C.out _ B0.out).mono ?_; clear C; rintro e w1 ⟨v0, v1, v2, v3, v4, rfl, hv, hB1⟩; simp only [World.size_alloc] at hB1 hv; have hD := DP.out _ _ _ _ _ _ hv hB1; clear DP; obtain ⟨z0, q0, rfl, _⟩ := hv.cell.form; obtain ⟨z1, q1, rfl, _⟩ := hv.stack.form; obtain ⟨z2, q2, rfl, _⟩ := hv.queue.form; obtain ⟨z3, q3, rfl, _⟩ := hv.set.form; obtain ⟨z4, q4, rfl, _⟩ := hv.table.form; unfold ans; clear hv hB1 B0 o0 o1 o2 o3 o4 o5 o6 o7 o8 o9; replace hD := Mr.hid hD)
  rw [show W.heap.size + 1 + 1 = W.heap.size + 2 from rfl]
  obtain ⟨b6, hb6⟩ : ∃ b, b = w1.heap.size := ⟨_, rfl⟩
  rw [← hb6] at hD ⊢
  clear hb6
  generalize ((w1.alloc (.cells #[.slice z0 y.cell.length q0, .slice z1 y.stack.length q1, .slice z2 y.queue.length q2, .slice z3 y.set.length q3, .slice z4 y.table.length q4] 25 (0, 0))).alloc (.cells #[.int .i64 ak, .int .i64 av] 31 (0, 0))) = w2 at *
  obtain ⟨o0, o1, o2, o3, o4, o5, o6, o7, o8, o9⟩ := cq_cells hD.out.call
  obtain ⟨k0, k1, k2, k3, k4, kl⟩ := ctO_cells hD.out.left
  obtain ⟨i0, i1, il, -, -⟩ := ansO_cells hD.out.ans
  obtain ⟨r0, r1, r2, r3, r4, rl⟩ := ctO_cells hD.out.res
  obtain ⟨t0, t1, t2, t3, t4, tl⟩ := ctO_cells hD.out.arg
  obtain ⟨f0, f1, f2, f3, f4⟩ := ctO_thaw hD.out.res
  have hap := hD.out.apart
  have hq : r = (y, true) := by rw [hr.out, hy.out]; unfold alw; rw [if_neg h0.out, if_neg h4.out, if_pos h5.out]
  replace hq := Mr.hid hq
  have hz : (c.ak == 0) = false := by rw [beq_eq_false_iff_ne]; exact h0.out
  have hz4 : (c.ak == 4) = false := by rw [beq_eq_false_iff_ne]; exact h4.out
  have ea : ak = c.ak ∧ av = c.av := by have e := hak.out.symm.trans h5.out; simpa using e
  have n1 : (ak != c.ak) = false := by rw [ea.1]; simp
  have n2 : (av != c.av) = false := by rw [ea.2]; simp
  have n3 : (ak == c.ak) = true := by rw [ea.1]; simp
  have n4 : (av == c.av) = true := by rw [ea.2]; simp
  clear ea
  clear h0 h4
  go_wp2
  replace hq := hq.out
  obtain ⟨e1, e2, e3⟩ := end5a (v0 := (.slice z0 y.cell.length q0)) (v1 := (.slice z1 y.stack.length q1)) (v2 := (.slice z2 y.queue.length q2)) (v3 := (.slice z3 y.set.length q3)) (v4 := (.slice z4 y.table.length q4)) hD.out.bel (b := W.heap.size + 2) (by omega) hD.out.res (hD.out.at_) (fun k hk => by omega)
  obtain ⟨d0, d1, d2, d3, d4, -⟩ := ctO_cells e3
  unfold set5 at e1 e2 d0 d1 d2 d3 d4
  replace e1 := Mr.hid e1
  replace e2 := Mr.hid e2
  clear e3
  refine bodyPost_ret (v := .tuple #[.agg #[.slice z0 y.cell.length q0, .slice z1 y.stack.length q1, .slice z2 y.queue.length q2, .slice z3 y.set.length q3, .slice z4 y.table.length q4], .bool true]) (by simp [results, Try.results45, go_sem, d0, d1, d2, d3, d4]) rfl ?_
  exact ⟨_, _, _, _, _, by rw [hq], by rw [hq]; exact e1.out, e2.out⟩
set_option maxRecDepth 100000 in
set_option maxHeartbeats 8000000 in
theorem alw_ne1 {W : World} {S : Nat → Prop} {u0 u1 u2 u3 u4 : Value} {x : Ct} (hu : CtAt W S u0 u1 u2 u3 u4 x) (hin : CtIn 225000000000000 x) (c : Cq) (ho : obj c.op ≠ 0) (h0 : c.ak ≠ 0) (h4 : c.ak ≠ 4) (h5 : dan x c.op c.arg ≠ (c.ak, c.av)) (h6 : (dan x c.op c.arg).1 ≠ c.ak) :
    Calls Try.prog 45 #[.agg #[u0, u1, u2, u3, u4], .agg #[.int .i64 c.th, .int .i64 c.op, .int .i64 c.arg, .int .i64 c.data, .int .i64 c.beg, .int .i64 c.fin, .int .i64 c.pt, .int .i64 c.ak, .int .i64 c.av]] W fun e w' => ∃ v0 v1 v2 v3 v4, e = .returned (.tuple #[.agg #[v0, v1, v2, v3, v4], .bool (alw x c).2]) ∧ CtAt w' (fun k => W.heap.size ≤ k) v0 v1 v2 v3 v4 (alw x c).1 ∧ Below W.heap.size W w' := by
  have C := fun w' (hB : Below W.heap.size W w') => do_any (hu.below hB) hin c.op c.arg c.data ho
  have CC := fun w' (hB : Below W.heap.size W w') => copy_any (hu.below hB) hin
  obtain ⟨a0, c0, rfl, _⟩ := hu.cell.form
  obtain ⟨a1, c1, rfl, _⟩ := hu.stack.form
  obtain ⟨a2, c2, rfl, _⟩ := hu.queue.form
  obtain ⟨a3, c3, rfl, _⟩ := hu.set.form
  obtain ⟨a4, c4, rfl, _⟩ := hu.table.form
  obtain ⟨ak, av, hak⟩ : ∃ a b, (dan x c.op c.arg) = (a, b) := ⟨_, _, rfl⟩
  rw [hak] at C
  obtain ⟨y, hy⟩ : ∃ y, y = dnx x c.op c.arg c.data := ⟨_, rfl⟩
  rw [← hy] at C
  obtain ⟨r, hr⟩ : ∃ r, r = alw x c := ⟨_, rfl⟩
  rw [← hr]
  replace hy := Mr.hid hy
  replace hr := Mr.hid hr
  replace hak := Mr.hid hak
  have B0 := (((Below.refl W.heap.size W).alloc (Nat.le_refl _) (ctO (.slice a0 x.cell.length c0) (.slice a1 x.stack.length c1) (.slice a2 x.queue.length c2) (.slice a3 x.set.length c3) (.slice a4 x.table.length c4))).alloc (by simp) (cqO c)).alloc (by simp; omega) nil5
  have DP := fun w1 v0 v1 v2 v3 v4 (hat : CtAt w1 (fun k => W.heap.size + 3 ≤ k) v0 v1 v2 v3 v4 y) => alw_pre (W := W) (w1 := w1) (c := c) (u0 := (.slice a0 x.cell.length c0)) (u1 := (.slice a1 x.stack.length c1)) (u2 := (.slice a2 x.queue.length c2)) (u3 := (.slice a3 x.set.length c3)) (u4 := (.slice a4 x.table.length c4)) (ak := ak) (av := av) hat
  clear hu
  have kk : ((((W.alloc (ctO (.slice a0 x.cell.length c0) (.slice a1 x.stack.length c1) (.slice a2 x.queue.length c2) (.slice a3 x.set.length c3) (.slice a4 x.table.length c4))).alloc (cqO c)).alloc nil5).heap[W.heap.size + 1]? = some (cqO c)) := old_at (new_at (W.alloc (ctO (.slice a0 x.cell.length c0) (.slice a1 x.stack.length c1) (.slice a2 x.queue.length c2) (.slice a3 x.set.length c3) (.slice a4 x.table.length c4))) (cqO c) _ (by simp)) nil5
  unfold nil5 ctO cqO at B0
  unfold nil5 ctO at kk
  unfold ctO ansO cqO at DP
  obtain ⟨o0, o1, o2, o3, o4, o5, o6, o7, o8, o9⟩ := cq_cells kk
  unfold cqO at o0 o1 o2 o3 o4 o5 o6 o7 o8 o9
  clear kk
  replace C := Mr.hid C
  replace CC := Mr.hid CC
  replace B0 := Mr.hid B0
  replace DP := Mr.hid DP
  replace ho := Mr.hid ho
  replace h0 := Mr.hid h0
  replace h4 := Mr.hid h4
  replace h5 := Mr.hid h5
  replace h6 := Mr.hid h6
  go_enter Try.func45, Try.ntmps45
  go_upto_region 2 with (go_at_call 44; refine (C.out _ B0.out).mono ?_; clear C; rintro e w1 ⟨v0, v1, v2, v3, v4, rfl, hv, hB1⟩; simp only [World.size_alloc] at hB1 hv; have hD := DP.out _ _ _ _ _ _ hv hB1; clear DP; obtain ⟨z0, q0, rfl, _⟩ := hv.cell.form; obtain ⟨z1, q1, rfl, _⟩ := hv.stack.form; obtain ⟨z2, q2, rfl, _⟩ := hv.queue.form; obtain ⟨z3, q3, rfl, _⟩ := hv.set.form; obtain ⟨z4, q4, rfl, _⟩ := hv.table.form; unfold ans; clear hv hB1 B0 o0 o1 o2 o3 o4 o5 o6 o7 o8 o9; replace hD := Mr.hid hD)
  rw [show W.heap.size + 1 + 1 = W.heap.size + 2 from rfl]
  obtain ⟨b6, hb6⟩ : ∃ b, b = w1.heap.size := ⟨_, rfl⟩
  rw [← hb6] at hD ⊢
  clear hb6
  generalize ((w1.alloc (.cells #[.slice z0 y.cell.length q0, .slice z1 y.stack.length q1, .slice z2 y.queue.length q2, .slice z3 y.set.length q3, .slice z4 y.table.length q4] 25 (0, 0))).alloc (.cells #[.int .i64 ak, .int .i64 av] 31 (0, 0))) = w2 at *
  obtain ⟨o0, o1, o2, o3, o4, o5, o6, o7, o8, o9⟩ := cq_cells hD.out.call
  obtain ⟨k0, k1, k2, k3, k4, kl⟩ := ctO_cells hD.out.left
  obtain ⟨i0, i1, il, -, -⟩ := ansO_cells hD.out.ans
  obtain ⟨r0, r1, r2, r3, r4, rl⟩ := ctO_cells hD.out.res
  obtain ⟨t0, t1, t2, t3, t4, tl⟩ := ctO_cells hD.out.arg
  obtain ⟨f0, f1, f2, f3, f4⟩ := ctO_thaw hD.out.res
  have hap := hD.out.apart
  have hq : r = (ct0, false) := by rw [hr.out]; unfold alw; rw [if_neg h0.out, if_neg h4.out, if_neg h5.out]
  replace hq := Mr.hid hq
  have hz : (c.ak == 0) = false := by rw [beq_eq_false_iff_ne]; exact h0.out
  have hz4 : (c.ak == 4) = false := by rw [beq_eq_false_iff_ne]; exact h4.out
  have ea : ak ≠ c.ak := by have := h6.out; rw [hak.out] at this; exact this
  have n1 : (ak != c.ak) = true := by simpa using ea
  have n3 : (ak == c.ak) = false := by simpa using ea
  clear ea
  clear h0 h4
  go_wp2
  replace hq := hq.out
  obtain ⟨e1, e2, e3⟩ := end5a (v0 := (.slice none 0 0)) (v1 := (.slice none 0 0)) (v2 := (.slice none 0 0)) (v3 := (.slice none 0 0)) (v4 := (.slice none 0 0)) hD.out.bel (b := W.heap.size + 2) (by omega) hD.out.res (ct0_at _ (fun k => W.heap.size + 3 ≤ k)) (fun k hk => by omega)
  obtain ⟨d0, d1, d2, d3, d4, -⟩ := ctO_cells e3
  unfold set5 at e1 e2 d0 d1 d2 d3 d4
  replace e1 := Mr.hid e1
  replace e2 := Mr.hid e2
  clear e3
  refine bodyPost_ret (v := .tuple #[.agg #[.slice none 0 0, .slice none 0 0, .slice none 0 0, .slice none 0 0, .slice none 0 0], .bool false]) (by simp [results, Try.results45, go_sem, d0, d1, d2, d3, d4]) rfl ?_
  exact ⟨_, _, _, _, _, by rw [hq], by rw [hq]; exact e1.out, e2.out⟩
set_option maxRecDepth 100000 in
set_option maxHeartbeats 8000000 in
theorem alw_ne2 {W : World} {S : Nat → Prop} {u0 u1 u2 u3 u4 : Value} {x : Ct} (hu : CtAt W S u0 u1 u2 u3 u4 x) (hin : CtIn 225000000000000 x) (c : Cq) (ho : obj c.op ≠ 0) (h0 : c.ak ≠ 0) (h4 : c.ak ≠ 4) (h5 : dan x c.op c.arg ≠ (c.ak, c.av)) (h6 : (dan x c.op c.arg).1 = c.ak) :
    Calls Try.prog 45 #[.agg #[u0, u1, u2, u3, u4], .agg #[.int .i64 c.th, .int .i64 c.op, .int .i64 c.arg, .int .i64 c.data, .int .i64 c.beg, .int .i64 c.fin, .int .i64 c.pt, .int .i64 c.ak, .int .i64 c.av]] W fun e w' => ∃ v0 v1 v2 v3 v4, e = .returned (.tuple #[.agg #[v0, v1, v2, v3, v4], .bool (alw x c).2]) ∧ CtAt w' (fun k => W.heap.size ≤ k) v0 v1 v2 v3 v4 (alw x c).1 ∧ Below W.heap.size W w' := by
  have C := fun w' (hB : Below W.heap.size W w') => do_any (hu.below hB) hin c.op c.arg c.data ho
  have CC := fun w' (hB : Below W.heap.size W w') => copy_any (hu.below hB) hin
  obtain ⟨a0, c0, rfl, _⟩ := hu.cell.form
  obtain ⟨a1, c1, rfl, _⟩ := hu.stack.form
  obtain ⟨a2, c2, rfl, _⟩ := hu.queue.form
  obtain ⟨a3, c3, rfl, _⟩ := hu.set.form
  obtain ⟨a4, c4, rfl, _⟩ := hu.table.form
  obtain ⟨ak, av, hak⟩ : ∃ a b, (dan x c.op c.arg) = (a, b) := ⟨_, _, rfl⟩
  rw [hak] at C
  obtain ⟨y, hy⟩ : ∃ y, y = dnx x c.op c.arg c.data := ⟨_, rfl⟩
  rw [← hy] at C
  obtain ⟨r, hr⟩ : ∃ r, r = alw x c := ⟨_, rfl⟩
  rw [← hr]
  replace hy := Mr.hid hy
  replace hr := Mr.hid hr
  replace hak := Mr.hid hak
  have B0 := (((Below.refl W.heap.size W).alloc (Nat.le_refl _) (ctO (.slice a0 x.cell.length c0) (.slice a1 x.stack.length c1) (.slice a2 x.queue.length c2) (.slice a3 x.set.length c3) (.slice a4 x.table.length c4))).alloc (by simp) (cqO c)).alloc (by simp; omega) nil5
  have DP := fun w1 v0 v1 v2 v3 v4 (hat : CtAt w1 (fun k => W.heap.size + 3 ≤ k) v0 v1 v2 v3 v4 y) => alw_pre (W := W) (w1 := w1) (c := c) (u0 := (.slice a0 x.cell.length c0)) (u1 := (.slice a1 x.stack.length c1)) (u2 := (.slice a2 x.queue.length c2)) (u3 := (.slice a3 x.set.length c3)) (u4 := (.slice a4 x.table.length c4)) (ak := ak) (av := av) hat
  clear hu
  have kk : ((((W.alloc (ctO (.slice a0 x.cell.length c0) (.slice a1 x.stack.length c1) (.slice a2 x.queue.length c2) (.slice a3 x.set.length c3) (.slice a4 x.table.length c4))).alloc (cqO c)).alloc nil5).heap[W.heap.size + 1]? = some (cqO c)) := old_at (new_at (W.alloc (ctO (.slice a0 x.cell.length c0) (.slice a1 x.stack.length c1) (.slice a2 x.queue.length c2) (.slice a3 x.set.length c3) (.slice a4 x.table.length c4))) (cqO c) _ (by simp)) nil5
  unfold nil5 ctO cqO at B0
  unfold nil5 ctO at kk
  unfold ctO ansO cqO at DP
  obtain ⟨o0, o1, o2, o3, o4, o5, o6, o7, o8, o9⟩ := cq_cells kk
  unfold cqO at o0 o1 o2 o3 o4 o5 o6 o7 o8 o9
  clear kk
  replace C := Mr.hid C
  replace CC := Mr.hid CC
  replace B0 := Mr.hid B0
  replace DP := Mr.hid DP
  replace ho := Mr.hid ho
  replace h0 := Mr.hid h0
  replace h4 := Mr.hid h4
  replace h5 := Mr.hid h5
  replace h6 := Mr.hid h6
  go_enter Try.func45, Try.ntmps45
  go_upto_region 2 with (go_at_call 44; refine (C.out _ B0.out).mono ?_; clear C; rintro e w1 ⟨v0, v1, v2, v3, v4, rfl, hv, hB1⟩; simp only [World.size_alloc] at hB1 hv; have hD := DP.out _ _ _ _ _ _ hv hB1; clear DP; obtain ⟨z0, q0, rfl, _⟩ := hv.cell.form; obtain ⟨z1, q1, rfl, _⟩ := hv.stack.form; obtain ⟨z2, q2, rfl, _⟩ := hv.queue.form; obtain ⟨z3, q3, rfl, _⟩ := hv.set.form; obtain ⟨z4, q4, rfl, _⟩ := hv.table.form; unfold ans; clear hv hB1 B0 o0 o1 o2 o3 o4 o5 o6 o7 o8 o9; replace hD := Mr.hid hD)
  rw [show W.heap.size + 1 + 1 = W.heap.size + 2 from rfl]
  obtain ⟨b6, hb6⟩ : ∃ b, b = w1.heap.size := ⟨_, rfl⟩
  rw [← hb6] at hD ⊢
  clear hb6
  generalize ((w1.alloc (.cells #[.slice z0 y.cell.length q0, .slice z1 y.stack.length q1, .slice z2 y.queue.length q2, .slice z3 y.set.length q3, .slice z4 y.table.length q4] 25 (0, 0))).alloc (.cells #[.int .i64 ak, .int .i64 av] 31 (0, 0))) = w2 at *
  obtain ⟨o0, o1, o2, o3, o4, o5, o6, o7, o8, o9⟩ := cq_cells hD.out.call
  obtain ⟨k0, k1, k2, k3, k4, kl⟩ := ctO_cells hD.out.left
  obtain ⟨i0, i1, il, -, -⟩ := ansO_cells hD.out.ans
  obtain ⟨r0, r1, r2, r3, r4, rl⟩ := ctO_cells hD.out.res
  obtain ⟨t0, t1, t2, t3, t4, tl⟩ := ctO_cells hD.out.arg
  obtain ⟨f0, f1, f2, f3, f4⟩ := ctO_thaw hD.out.res
  have hap := hD.out.apart
  have hq : r = (ct0, false) := by rw [hr.out]; unfold alw; rw [if_neg h0.out, if_neg h4.out, if_neg h5.out]
  replace hq := Mr.hid hq
  have hz : (c.ak == 0) = false := by rw [beq_eq_false_iff_ne]; exact h0.out
  have hz4 : (c.ak == 4) = false := by rw [beq_eq_false_iff_ne]; exact h4.out
  have ea : ¬ (ak = c.ak ∧ av = c.av) := fun e => h5.out (by rw [hak.out, e.1, e.2])
  have e1 : ak = c.ak := by have := h6.out; rw [hak.out] at this; exact this
  have e2 : av ≠ c.av := fun e => ea ⟨e1, e⟩
  have n1 : (ak != c.ak) = false := by rw [e1]; simp
  have n3 : (ak == c.ak) = true := by rw [e1]; simp
  have n2 : (av != c.av) = true := by simpa using e2
  have n4 : (av == c.av) = false := by simpa using e2
  clear ea e1 e2
  clear h0 h4
  go_wp2
  replace hq := hq.out
  obtain ⟨e1, e2, e3⟩ := end5a (v0 := (.slice none 0 0)) (v1 := (.slice none 0 0)) (v2 := (.slice none 0 0)) (v3 := (.slice none 0 0)) (v4 := (.slice none 0 0)) hD.out.bel (b := W.heap.size + 2) (by omega) hD.out.res (ct0_at _ (fun k => W.heap.size + 3 ≤ k)) (fun k hk => by omega)
  obtain ⟨d0, d1, d2, d3, d4, -⟩ := ctO_cells e3
  unfold set5 at e1 e2 d0 d1 d2 d3 d4
  replace e1 := Mr.hid e1
  replace e2 := Mr.hid e2
  clear e3
  refine bodyPost_ret (v := .tuple #[.agg #[.slice none 0 0, .slice none 0 0, .slice none 0 0, .slice none 0 0, .slice none 0 0], .bool false]) (by simp [results, Try.results45, go_sem, d0, d1, d2, d3, d4]) rfl ?_
  exact ⟨_, _, _, _, _, by rw [hq], by rw [hq]; exact e1.out, e2.out⟩
/-- Allows, of any call whose op has an object. -/
theorem allows_any {W : World} {S : Nat → Prop} {u0 u1 u2 u3 u4 : Value} {x : Ct} (hu : CtAt W S u0 u1 u2 u3 u4 x) (hin : CtIn 225000000000000 x) (c : Cq) (ho : obj c.op ≠ 0) :
    Calls Try.prog 45 #[.agg #[u0, u1, u2, u3, u4], .agg #[.int .i64 c.th, .int .i64 c.op, .int .i64 c.arg, .int .i64 c.data, .int .i64 c.beg, .int .i64 c.fin, .int .i64 c.pt, .int .i64 c.ak, .int .i64 c.av]] W fun e w' => ∃ v0 v1 v2 v3 v4, e = .returned (.tuple #[.agg #[v0, v1, v2, v3, v4], .bool (alw x c).2]) ∧ CtAt w' (fun k => W.heap.size ≤ k) v0 v1 v2 v3 v4 (alw x c).1 ∧ Below W.heap.size W w' := by
  by_cases h0 : c.ak = 0
  · exact alw_0 hu hin c ho h0
  by_cases h4 : c.ak = 4
  · by_cases h5 : fullOp c.op
    · unfold fullOp at h5
      rcases h5 with h | h | h | h | h
      · exact alw_4_22 hu hin c ho h4 h
      · exact alw_4_30 hu hin c ho h4 h
      · exact alw_4_40 hu hin c ho h4 h
      · exact alw_4_50 hu hin c ho h4 h
      · exact alw_4_60 hu hin c ho h4 h
    · exact alw_4n hu hin c ho h4 h5
  by_cases h5 : dan x c.op c.arg = (c.ak, c.av)
  · exact alw_eq hu hin c ho h0 h4 h5
  by_cases h6 : (dan x c.op c.arg).1 = c.ak
  · exact alw_ne2 hu hin c ho h0 h4 h5 h6
  · exact alw_ne1 hu hin c ho h0 h4 h5 h6
end Go.Proofs.Ytegbcocbopgghab.Md
/-
  Calls one behind the other, purely; rows of calls; sizes.
-/
namespace Go.Proofs.Ytegbcocbopgghab.Md
open Go.RowKit Mr Me
set_option linter.unusedVariables false
set_option linter.unusedSimpArgs false
/-- Calls one behind the other: what is left, and the first that may not answer so. -/
def plays (x : Ct) : List Cq → Nat → Ct × Int
  | [], _ => (x, -1)
  | c :: cs, i => if (alw x c).2 = true then plays (alw x c).1 cs (i + 1) else (x, (i : Int))
/-- What is left behind the first i of them, if all may. -/
def lefts (x : Ct) (cs : List Cq) (i : Nat) : Ct := (cs.take i).foldl (fun y c => (alw y c).1) x
def okTo (x : Ct) (cs : List Cq) (i : Nat) : Prop := ∀ j, j < i → ∀ c, cs[j]? = some c → (alw (lefts x cs j) c).2 = true
theorem lefts_succ (x : Ct) (cs : List Cq) (i : Nat) (c : Cq) (h : cs[i]? = some c) : lefts x cs (i + 1) = (alw (lefts x cs i) c).1 := by
  unfold lefts
  rw [List.take_add_one, h]
  simp
theorem plays_at (x : Ct) (cs : List Cq) (n : Nat) : ∀ (i : Nat), plays x cs n = if h : ∃ j, j < i ∧ ∃ c, cs[j]? = some c ∧ (alw (lefts x cs j) c).2 = false then plays x cs n else plays (lefts x cs i) (cs.drop i) (n + i) := by
  intro i
  split
  · rfl
  · rename_i hno
    induction cs generalizing x n i with
    | nil => simp [plays, lefts]
    | cons c cs ih =>
      cases i with
      | zero => simp [lefts]
      | succ i =>
        have h0 : (alw x c).2 = true := by
          cases h : (alw x c).2 with
          | true => rfl
          | false => exact absurd ⟨0, by omega, c, rfl, h⟩ hno
        have := ih (alw x c).1 (n + 1) i (fun ⟨j, hj, d, hd, hb⟩ => hno ⟨j + 1, by omega, d, by simpa using hd, by simpa [lefts] using hb⟩)
        simp only [plays, h0, if_true]
        rw [this]
        simp only [lefts, List.take_succ_cons, List.foldl_cons, List.drop_succ_cons]
        rw [show n + 1 + i = n + (i + 1) from by omega]
theorem plays_end {x : Ct} {cs : List Cq} (h : okTo x cs cs.length) : plays x cs 0 = (lefts x cs cs.length, -1) := by
  have := plays_at x cs 0 cs.length
  rw [dif_neg] at this
  · rw [this, List.drop_length]; rfl
  · rintro ⟨j, hj, c, hc, hb⟩
    rw [h j hj c hc] at hb; cases hb
theorem plays_no {x : Ct} {cs : List Cq} {i : Nat} {c : Cq} (h : okTo x cs i) (hc : cs[i]? = some c) (hn : (alw (lefts x cs i) c).2 = false) : plays x cs 0 = (lefts x cs i, (i : Int)) := by
  have := plays_at x cs 0 i
  rw [dif_neg] at this
  · rw [this]
    have hi : i < cs.length := (List.getElem?_eq_some_iff.1 hc).1
    rw [List.drop_eq_getElem_cons hi]
    have e : cs[i] = c := (List.getElem?_eq_some_iff.1 hc).2
    rw [e]
    simp [plays, hn]
  · rintro ⟨j, hj, d, hd, hb⟩
    rw [h j hj d hd] at hb; cases hb
theorem okTo.succ {x : Ct} {cs : List Cq} {i : Nat} {c : Cq} (h : okTo x cs i) (hc : cs[i]? = some c) (hy : (alw (lefts x cs i) c).2 = true) : okTo x cs (i + 1) := fun j hj d hd => by
  by_cases e : j = i
  · subst e; rw [hc] at hd; cases hd; exact hy
  · exact h j (by omega) d hd
theorem insL_len (l : List Int) (k : Int) : (insL l k).length = l.length + 1 := by
  have := plc_le l k
  simp [insL]; omega
theorem delL_len (l : List Int) (k : Int) : (delL l k).length ≤ l.length := by simp [delL]; omega
theorem insT_len (l : List (Int × Int)) (k d : Int) : (insT l k d).length = l.length + 1 := by
  have := plcT_le l k
  simp [insT, keysOf] at this ⊢; omega
theorem delT_len (l : List (Int × Int)) (k : Int) : (delT l k).length ≤ l.length := by simp [delT]; omega
theorem dnx_in {B : Nat} {x : Ct} (h : CtIn B x) (op arg data : Int) : CtIn (B + 16) (dnx x op arg data) := by
  obtain ⟨h0, h1, h2, h3, h4⟩ := h
  have i3 := insL_len x.set arg
  have d3 := delL_len x.set arg
  have i4 := insT_len x.table arg data
  have d4 := delT_len x.table arg
  have hw : CtIn (B + 16) x := ⟨by omega, by omega, by omega, by omega, by omega⟩
  obtain ⟨w0, w1, w2, w3, w4⟩ := hw
  unfold dnx
  split
  · exact ⟨by show 1 * 8 ≤ _; omega, w1, w2, w3, w4⟩
  split
  · exact ⟨w0, by simp; omega, w2, w3, w4⟩
  split
  · exact ⟨w0, by simp; omega, w2, w3, w4⟩
  split
  · exact ⟨w0, w1, by simp; omega, w3, w4⟩
  split
  · exact ⟨w0, w1, by simp; omega, w3, w4⟩
  split
  · refine ⟨w0, w1, w2, ?_, w4⟩
    show (if inB x.set arg = true then x.set else insL x.set arg).length * 8 ≤ _
    split <;> omega
  split
  · refine ⟨w0, w1, w2, ?_, w4⟩
    show (if inB x.set arg = true then delL x.set arg else x.set).length * 8 ≤ _
    split <;> omega
  split
  · refine ⟨w0, w1, w2, w3, ?_⟩
    show (if inB (keysOf x.table) arg = true then x.table else insT x.table arg data).length * 16 ≤ _
    split <;> omega
  split
  · refine ⟨w0, w1, w2, w3, ?_⟩
    show (if inB (keysOf x.table) arg = true then delT x.table arg else x.table).length * 16 ≤ _
    split <;> omega
  · exact ⟨w0, w1, w2, w3, w4⟩
theorem ct0_in (B : Nat) : CtIn B ct0 := ⟨by simp [ct0], by simp [ct0], by simp [ct0], by simp [ct0], by simp [ct0]⟩
theorem alw_in {B : Nat} {x : Ct} (h : CtIn B x) (c : Cq) : CtIn (B + 16) (alw x c).1 := by
  have h' := h.mono (Nat.le_add_right B 16)
  unfold alw
  split
  · exact dnx_in h _ _ _
  split
  · split
    · exact h'
    · exact ct0_in _
  split
  · exact dnx_in h _ _ _
  · exact ct0_in _
theorem lefts_in {B : Nat} {x : Ct} (h : CtIn B x) (cs : List Cq) : ∀ i, CtIn (B + 16 * i) (lefts x cs i) := by
  intro i
  induction i with
  | zero => simpa [lefts] using h
  | succ i ih =>
    cases hc : cs[i]? with
    | some c => rw [lefts_succ x cs i c hc]; exact (alw_in ih c).mono (by omega)
    | none =>
      have : lefts x cs (i + 1) = lefts x cs i := by unfold lefts; rw [List.take_add_one, hc]; simp
      rw [this]; exact ih.mono (by omega)
/-- A call's cells; calls' rows. -/
def Cq.row (c : Cq) : List Value := [.int .i64 c.th, .int .i64 c.op, .int .i64 c.arg, .int .i64 c.data, .int .i64 c.beg, .int .i64 c.fin, .int .i64 c.pt, .int .i64 c.ak, .int .i64 c.av]
def cqs (l : List Cq) : List Value := l.flatMap Cq.row
theorem cqs_get (l : List Cq) (i : Nat) (c : Cq) (h : l[i]? = some c) (j : Nat) (hj : j < 9) : (cqs l)[i * 9 + j]? = c.row[j]? := by
  induction l generalizing i with
  | nil => simp at h
  | cons x l ih =>
    cases i with
    | zero =>
      simp at h; subst h
      simp only [cqs, List.flatMap_cons]
      rw [List.getElem?_append_left (by simp [Cq.row]; omega)]
      simp
    | succ i =>
      have := ih i (by simpa using h)
      simp only [cqs, List.flatMap_cons] at this ⊢
      rw [List.getElem?_append_right (by simp [Cq.row]; omega)]
      rw [← this]
      congr 1
      simp [Cq.row]; omega
theorem cqs_length (l : List Cq) : (cqs l).length = l.length * 9 := by
  induction l with
  | nil => rfl
  | cons x l ih => simp only [cqs, List.flatMap_cons, List.length_append] at ih ⊢; simp [Cq.row] at ih ⊢; omega
end Go.Proofs.Ytegbcocbopgghab.Md
