import Derived.Test.YtegbcocbopgghacJ15
import Derived.Test.YtegbcocbopgghacJ16
import Derived.Test.YtegbcocbopgghacJ20
import Derived.Test.YtegbcocbopgghacJ21
/-
  Package model: the boxes within Do; a row of one call.
-/
namespace Go.Proofs.Ytegbcocbopgghac.Md
open Go.RowKit Mr
set_option linter.unusedVariables false
set_option linter.unusedSimpArgs false
/-- Boxes at n (what was handed in), n + 1 (the contents), n + 2 (the answer), n + 3 (the call). -/
structure Dx (W w : World) (oU oC : Obj) : Prop where
  bel : Below W.heap.size W w
  u : w.heap[W.heap.size]? = some oU
  r : w.heap[W.heap.size + 1]? = some (.cells #[.slice none 0 0, .slice none 0 0, .slice none 0 0, .slice none 0 0, .slice none 0 0] 25 (0, 0))
  a : w.heap[W.heap.size + 1 + 1]? = some (.cells #[.int .i64 0, .int .i64 0] 37 (0, 0))
  c : w.heap[W.heap.size + 1 + 1 + 1]? = some oC
theorem Dx.lt {W w : World} {oU oC : Obj} (h : Dx W w oU oC) : W.heap.size + 3 < w.heap.size := (Array.getElem?_eq_some_iff.1 h.c).1
theorem Dx.new (W : World) (oU oC : Obj) : Dx W ((((W.alloc oU).alloc (.cells #[.slice none 0 0, .slice none 0 0, .slice none 0 0, .slice none 0 0, .slice none 0 0] 25 (0, 0))).alloc (.cells #[.int .i64 0, .int .i64 0] 37 (0, 0))).alloc oC) oU oC :=
  ⟨((((Below.refl _ _).alloc (Nat.le_refl _) _).alloc (by simp) _).alloc (by simp; omega) _).alloc (by simp; omega) _, old_at (old_at (old_at (new_at W _ _ rfl) _) _) _, old_at (old_at (new_at _ _ _ (by simp)) _) _, old_at (new_at _ _ _ (by simp)) _, new_at _ _ _ (by simp)⟩
theorem Dx.below {W w w' : World} {oU oC : Obj} (h : Dx W w oU oC) (hB : Below w.heap.size w w') : Dx W w' oU oC := by
  have hl := h.lt
  exact ⟨h.bel.trans (hB.mono h.bel.size), (hB.block _ (by omega)).trans h.u, (hB.block _ (by omega)).trans h.r, (hB.block _ (by omega)).trans h.a, (hB.block _ (by omega)).trans h.c⟩
theorem Dx.fr {W w w' : World} {oU oC : Obj} {S : Nat → Prop} (h : Dx W w oU oC) (hF : Fr w w' S) (hS : ∀ k, S k → W.heap.size + 3 < k) : Dx W w' oU oC := by
  have hl := h.lt
  have q : ∀ k, k ≤ W.heap.size + 3 → ¬ S k := fun k hk e => by have := hS k e; omega
  exact ⟨h.bel.trans (hF.below (n := W.heap.size) (fun k hk => by have := hS k hk; omega) h.bel.size), (hF.block _ (by omega) (q _ (by omega))).trans h.u, (hF.block _ (by omega) (q _ (by omega))).trans h.r, (hF.block _ (by omega) (q _ (by omega))).trans h.a, (hF.block _ (by omega) (q _ (by omega))).trans h.c⟩
theorem CtOwn.kept {W W' : World} {B B' : Nat} {lab : Nat → Nat} {v0 v1 v2 v3 v4 : Value} {x : Ct} (h : CtOwn W B lab v0 v1 v2 v3 v4 x) (hb : ∀ k, B ≤ k → k < W.heap.size → W'.heap[k]? = W.heap[k]?) (hB : B' ≤ B) : CtOwn W' B' lab v0 v1 v2 v3 v4 x :=
  ⟨fun k hk => Nat.le_trans hB (h.low k hk), h.cell.kept2 (fun k hk hl => hb k (h.low k (by omega)) hl) (fun k hk _ => hk), h.stack.kept2 (fun k hk hl => hb k (h.low k (by omega)) hl) (fun k hk _ => hk), h.queue.kept2 (fun k hk hl => hb k (h.low k (by omega)) hl) (fun k hk _ => hk), h.set.kept2 (fun k hk hl => hb k (h.low k (by omega)) hl) (fun k hk _ => hk), h.table.kept2 (fun k hk hl => hb k (h.low k (by omega)) hl) (fun k hk _ => hk)⟩
/-- The two results written. -/
def set7d (w : World) (n : Nat) (v0 v1 v2 v3 v4 : Value) (k v : Int) : World := ((set5 w (n + 1) v0 v1 v2 v3 v4).setCell ⟨n + 1 + 1, 0, none⟩ (.int .i64 k)).setCell ⟨n + 1 + 1, 1, none⟩ (.int .i64 v)
theorem set7d_far (w : World) (n : Nat) (v0 v1 v2 v3 v4 : Value) (k v : Int) (b : Nat) (h1 : b ≠ n + 1) (h2 : b ≠ n + 1 + 1) : (set7d w n v0 v1 v2 v3 v4 k v).heap[b]? = w.heap[b]? := by
  unfold set7d
  rw [Below.heap_setCell _ _ _ b h2, Below.heap_setCell _ _ _ b h2, set5_far w (n + 1) v0 v1 v2 v3 v4 b h1]
theorem do_end {W w : World} {n : Nat} (v0 v1 v2 v3 v4 : Value) (k v : Int) (hB : Below W.heap.size W w) (hn : W.heap.size ≤ n) (hr : w.heap[n + 1]? = some (.cells #[.slice none 0 0, .slice none 0 0, .slice none 0 0, .slice none 0 0, .slice none 0 0] 25 (0, 0))) (ha : w.heap[n + 1 + 1]? = some (.cells #[.int .i64 0, .int .i64 0] 37 (0, 0))) :
    Below W.heap.size W (set7d w n v0 v1 v2 v3 v4 k v) ∧ (set7d w n v0 v1 v2 v3 v4 k v).heap[n + 1]? = some (.cells #[v0, v1, v2, v3, v4] 25 (0, 0)) ∧ (set7d w n v0 v1 v2 v3 v4 k v).cell? ⟨n + 1 + 1, 0, none⟩ = some (.int .i64 k) ∧ (set7d w n v0 v1 v2 v3 v4 k v).cell? ⟨n + 1 + 1, 1, none⟩ = some (.int .i64 v) := by
  have h5 := set5_five v0 v1 v2 v3 v4 hr
  have ha5 : (set5 w (n + 1) v0 v1 v2 v3 v4).heap[n + 1 + 1]? = some (.cells #[.int .i64 0, .int .i64 0] 37 (0, 0)) := (set5_far w (n + 1) v0 v1 v2 v3 v4 (n + 1 + 1) (by omega)).trans ha
  obtain ⟨_, _, _, _, _, e1, e2⟩ := ans_set ha5 k v
  refine ⟨ans_below (set5_below (b := n + 1) v0 v1 v2 v3 v4 hB (by omega)) (by omega) k v, ?_, e1, e2⟩
  unfold set7d
  rw [Below.heap_setCell _ _ _ (n + 1) (by show n + 1 ≠ n + 1 + 1; omega), Below.heap_setCell _ _ _ (n + 1) (by show n + 1 ≠ n + 1 + 1; omega)]
  exact h5
theorem cell_of {w w' : World} {b o : Nat} (h : w'.heap[b]? = w.heap[b]?) : w'.cell? ⟨b, o, none⟩ = w.cell? ⟨b, o, none⟩ := by
  unfold World.cell?
  simp only [h]
theorem do_keep {w : World} {n bW bA : Nat} {i0 i1 i2 i3 i4 a0 a1 : Value} (v0 v1 v2 v3 v4 : Value) (k v : Int) (h1 : n + 1 + 1 < bW) (h2 : n + 1 + 1 < bA) (h : w.cell? ⟨bW, 0, none⟩ = some i0 ∧ w.cell? ⟨bW, 1, none⟩ = some i1 ∧ w.cell? ⟨bW, 2, none⟩ = some i2 ∧ w.cell? ⟨bW, 3, none⟩ = some i3 ∧ w.cell? ⟨bW, 4, none⟩ = some i4 ∧ w.cell? ⟨bA, 0, none⟩ = some a0 ∧ w.cell? ⟨bA, 1, none⟩ = some a1) :
    (set7d w n v0 v1 v2 v3 v4 k v).cell? ⟨bW, 0, none⟩ = some i0 ∧ (set7d w n v0 v1 v2 v3 v4 k v).cell? ⟨bW, 1, none⟩ = some i1 ∧ (set7d w n v0 v1 v2 v3 v4 k v).cell? ⟨bW, 2, none⟩ = some i2 ∧ (set7d w n v0 v1 v2 v3 v4 k v).cell? ⟨bW, 3, none⟩ = some i3 ∧ (set7d w n v0 v1 v2 v3 v4 k v).cell? ⟨bW, 4, none⟩ = some i4 ∧ (set7d w n v0 v1 v2 v3 v4 k v).cell? ⟨bA, 0, none⟩ = some a0 ∧ (set7d w n v0 v1 v2 v3 v4 k v).cell? ⟨bA, 1, none⟩ = some a1 := by
  have eW := set7d_far w n v0 v1 v2 v3 v4 k v bW (by omega) (by omega)
  have eA := set7d_far w n v0 v1 v2 v3 v4 k v bA (by omega) (by omega)
  rw [cell_of eW, cell_of eW, cell_of eW, cell_of eW, cell_of eW, cell_of eA, cell_of eA]
  exact h
theorem do_keep5 {w : World} {n bW bA : Nat} {i0 i1 i2 i3 i4 a0 a1 : Value} (v0 v1 v2 v3 v4 : Value) (h1 : n + 1 + 1 < bW) (h2 : n + 1 + 1 < bA) (h : w.cell? ⟨bW, 0, none⟩ = some i0 ∧ w.cell? ⟨bW, 1, none⟩ = some i1 ∧ w.cell? ⟨bW, 2, none⟩ = some i2 ∧ w.cell? ⟨bW, 3, none⟩ = some i3 ∧ w.cell? ⟨bW, 4, none⟩ = some i4 ∧ w.cell? ⟨bA, 0, none⟩ = some a0 ∧ w.cell? ⟨bA, 1, none⟩ = some a1) :
    (set5 w (n + 1) v0 v1 v2 v3 v4).cell? ⟨bW, 0, none⟩ = some i0 ∧ (set5 w (n + 1) v0 v1 v2 v3 v4).cell? ⟨bW, 1, none⟩ = some i1 ∧ (set5 w (n + 1) v0 v1 v2 v3 v4).cell? ⟨bW, 2, none⟩ = some i2 ∧ (set5 w (n + 1) v0 v1 v2 v3 v4).cell? ⟨bW, 3, none⟩ = some i3 ∧ (set5 w (n + 1) v0 v1 v2 v3 v4).cell? ⟨bW, 4, none⟩ = some i4 ∧ (set5 w (n + 1) v0 v1 v2 v3 v4).cell? ⟨bA, 0, none⟩ = some a0 ∧ (set5 w (n + 1) v0 v1 v2 v3 v4).cell? ⟨bA, 1, none⟩ = some a1 := by
  have eW := set5_far w (n + 1) v0 v1 v2 v3 v4 bW (by omega)
  have eA := set5_far w (n + 1) v0 v1 v2 v3 v4 bA (by omega)
  rw [cell_of eW, cell_of eW, cell_of eW, cell_of eW, cell_of eW, cell_of eA, cell_of eA]
  exact h
def cqM (c : Cq) : Obj := .cells #[.int .i64 c.th, .int .i64 c.op, .int .i64 c.arg, .int .i64 c.data, .int .i64 c.beg, .int .i64 c.fin, .int .i64 c.pt, .int .i64 c.ak, .int .i64 c.av] 39 (0, 0)
theorem sl_call {w : World} {b : Nat} {c : Cq} (h : w.heap[b]? = some (cqM c)) : Sl w (fun _ => True) 9 (.slice (some ⟨b, 0, none⟩) 1 1) [c].length (cqs [c]) := by
  refine ⟨by simp [cqs, Cq.row], _, 1, rfl, Nat.le_refl _, .inr ⟨b, 0, rfl, trivial, (Array.getElem?_eq_some_iff.1 h).1, fun j u hu => ?_⟩⟩
  rw [Nat.zero_add, cell_blk h]
  simpa [cqs, Cq.row] using hu
end Go.Proofs.Ytegbcocbopgghac.Md
/-
  Package model: Do.
-/
namespace Go.Proofs.Ytegbcocbopgghac.Md
open Go.RowKit Mr
set_option linter.unusedVariables false
set_option linter.unusedSimpArgs false
theorem nines {W : World} {b : Nat} {v0 v1 v2 v3 v4 v5 v6 v7 v8 : Value} {t : TypeId} (h : W.heap[b]? = some (.cells #[v0, v1, v2, v3, v4, v5, v6, v7, v8] t (0, 0))) : W.cell? ⟨b, 0, none⟩ = some v0 ∧ W.cell? ⟨b, 1, none⟩ = some v1 ∧ W.cell? ⟨b, 2, none⟩ = some v2 ∧ W.cell? ⟨b, 3, none⟩ = some v3 ∧ W.cell? ⟨b, 4, none⟩ = some v4 ∧ W.cell? ⟨b, 5, none⟩ = some v5 ∧ W.cell? ⟨b, 6, none⟩ = some v6 ∧ W.cell? ⟨b, 7, none⟩ = some v7 ∧ W.cell? ⟨b, 8, none⟩ = some v8 ∧ b < W.heap.size :=
  ⟨cell_blk h 0, cell_blk h 1, cell_blk h 2, cell_blk h 3, cell_blk h 4, cell_blk h 5, cell_blk h 6, cell_blk h 7, cell_blk h 8, (Array.getElem?_eq_some_iff.1 h).1⟩
theorem ans_setq {W : World} {S : Nat → Prop} {g : Nat} {l : List Int} (ho : Ob W S g 86 3 1 l.length (ints l)) (hsm : l.length * 8 ≤ 281474976710656) (hR : Ris l) (th op arg data beg fin pt ak av : Int) (q : Int × Int) (hq : q = (if op = 50 then (if inB l arg then 6 else 5) else (if inB l arg then 5 else 6), 0)) :
    Calls Try.prog 72 #[.pointer (some ⟨g, 0, none⟩), .agg #[.int .i64 th, .int .i64 op, .int .i64 arg, .int .i64 data, .int .i64 beg, .int .i64 fin, .int .i64 pt, .int .i64 ak, .int .i64 av]] W fun e w' => e = .returned (ans q.1 q.2) ∧ Below W.heap.size W w' := by
  subst hq
  exact ans_set4 ho hsm hR th op arg data beg fin pt ak av _ rfl
set_option maxRecDepth 100000 in
set_option maxHeartbeats 8000000 in
theorem pDo_state {W : World} {S : Nat → Prop} {u0 u1 u2 u3 u4 : Value} {x : Ct} (hu : CtAt W S u0 u1 u2 u3 u4 x) (hin : CtIn 225000000000000 x) (hm : ¬ May x) (op arg data : Int) :
    Calls Try.prog 16 #[.agg #[u0, u1, u2, u3, u4], .int .i64 op, .int .i64 arg, .int .i64 data] W fun e w' => ∃ v0 v1 v2 v3 v4 lab, e = .returned (.tuple #[.agg #[v0, v1, v2, v3, v4], ans 0 0, .int .i64 111]) ∧ CtOwn w' W.heap.size lab v0 v1 v2 v3 v4 ct0 ∧ Below W.heap.size W w' := by
  obtain ⟨a0, c0, rfl, _⟩ := hu.cell.form
  obtain ⟨a1, c1, rfl, _⟩ := hu.stack.form
  obtain ⟨a2, c2, rfl, _⟩ := hu.queue.form
  obtain ⟨a3, c3, rfl, _⟩ := hu.set.form
  obtain ⟨a4, c4, rfl, _⟩ := hu.table.form
  have CR := fun w' (hB : Below W.heap.size W w') (b : Nat) (hb : w'.heap[b]? = some (cqM ⟨0, op, arg, data, 0, 0, 0, 0, 0⟩)) => refused_any (hu.below hB) (hin.sm (by decide)) (sl_call hb) (by show 1 * 72 ≤ 281474976710656; omega) false (by simp [hm]) 111 rfl
  have CW := fun w' (hB : Below W.heap.size W w') => worldOf_any (hu.below hB) (hin.mono (by decide))
  have hX0 := Dx.new W (.cells #[.slice a0 x.cell.length c0, .slice a1 x.stack.length c1, .slice a2 x.queue.length c2, .slice a3 x.set.length c3, .slice a4 x.table.length c4] 25 (0, 0)) (.cells #[.int .i64 0, .int .i64 op, .int .i64 arg, .int .i64 data, .int .i64 0, .int .i64 0, .int .i64 0, .int .i64 0, .int .i64 0] 39 (0, 0))
  obtain ⟨y0, y1, y2, y3, y4, y5⟩ := ifs_cells hX0.u
  obtain ⟨q0, q1, q2, q3, q4, q5, q6, q7, q8, q9⟩ := nines hX0.c
  have hn := new_at ((((W.alloc (.cells #[.slice a0 x.cell.length c0, .slice a1 x.stack.length c1, .slice a2 x.queue.length c2, .slice a3 x.set.length c3, .slice a4 x.table.length c4] 25 (0, 0))).alloc (.cells #[.slice none 0 0, .slice none 0 0, .slice none 0 0, .slice none 0 0, .slice none 0 0] 25 (0, 0))).alloc (.cells #[.int .i64 0, .int .i64 0] 37 (0, 0))).alloc (.cells #[.int .i64 0, .int .i64 op, .int .i64 arg, .int .i64 data, .int .i64 0, .int .i64 0, .int .i64 0, .int .i64 0, .int .i64 0] 39 (0, 0))) (.cells #[.int .i64 0, .int .i64 op, .int .i64 arg, .int .i64 data, .int .i64 0, .int .i64 0, .int .i64 0, .int .i64 0, .int .i64 0] 39 (0, 0)) (W.heap.size + 1 + 1 + 1 + 1) (by simp)
  have hY0 := hX0.below ((Below.refl _ ((((W.alloc (.cells #[.slice a0 x.cell.length c0, .slice a1 x.stack.length c1, .slice a2 x.queue.length c2, .slice a3 x.set.length c3, .slice a4 x.table.length c4] 25 (0, 0))).alloc (.cells #[.slice none 0 0, .slice none 0 0, .slice none 0 0, .slice none 0 0, .slice none 0 0] 25 (0, 0))).alloc (.cells #[.int .i64 0, .int .i64 0] 37 (0, 0))).alloc (.cells #[.int .i64 0, .int .i64 op, .int .i64 arg, .int .i64 data, .int .i64 0, .int .i64 0, .int .i64 0, .int .i64 0, .int .i64 0] 39 (0, 0)))).alloc (Nat.le_refl _) (.cells #[.int .i64 0, .int .i64 op, .int .i64 arg, .int .i64 data, .int .i64 0, .int .i64 0, .int .i64 0, .int .i64 0, .int .i64 0] 39 (0, 0)))
  have ez : ((((W.alloc (.cells #[.slice a0 x.cell.length c0, .slice a1 x.stack.length c1, .slice a2 x.queue.length c2, .slice a3 x.set.length c3, .slice a4 x.table.length c4] 25 (0, 0))).alloc (.cells #[.slice none 0 0, .slice none 0 0, .slice none 0 0, .slice none 0 0, .slice none 0 0] 25 (0, 0))).alloc (.cells #[.int .i64 0, .int .i64 0] 37 (0, 0))).alloc (.cells #[.int .i64 0, .int .i64 op, .int .i64 arg, .int .i64 data, .int .i64 0, .int .i64 0, .int .i64 0, .int .i64 0, .int .i64 0] 39 (0, 0))).heap.size = W.heap.size + 4 := by simp
  unfold cqM at CR
  clear hu
  replace CR := Mr.hid CR
  replace CW := Mr.hid CW
  replace hX0 := Mr.hid hX0
  replace hY0 := Mr.hid hY0
  replace hn := Mr.hid hn
  go_enter Try.func16, Try.ntmps16
  go_upto_region 4 with (first | (go_at_call 12; refine (CR.out _ hY0.out.bel _ hn.out).mono ?_; rintro e w1 ⟨rfl, hB1⟩; have hX1 := Mr.hid (hY0.out.below hB1); clear y0 y1 y2 y3 y4 y5 q0 q1 q2 q3 q4 q5 q6 q7 q8 q9; obtain ⟨y0, y1, y2, y3, y4, y5⟩ := ifs_cells hX1.out.u; obtain ⟨q0, q1, q2, q3, q4, q5, q6, q7, q8, q9⟩ := nines hX1.out.c))
  obtain ⟨r0, r1, r2, r3, r4, r5⟩ := ifs_cells hX1.out.r
  obtain ⟨f0, f1, f2, f3, f4⟩ := ifs_thaw hX1.out.r
  obtain ⟨e0, e1, h0, h1, e2, e3, e4⟩ := ans_set hX1.out.a 0 0
  obtain ⟨m1, m2, m3, m4⟩ := do_end (.slice none 0 0) (.slice none 0 0) (.slice none 0 0) (.slice none 0 0) (.slice none 0 0) 0 0 hX1.out.bel (Nat.le_refl _) hX1.out.r hX1.out.a
  unfold set7d set5 at m1 m2 m3 m4
  obtain ⟨x0, x1, x2, x3, x4, x5⟩ := ifs_cells m2
  replace m1 := Mr.hid m1
  clear y0 y1 y2 y3 y4 y5 q0 q1 q2 q3 q4 q5 q6 q7 q8 q9 m2 e3 e4
  go_wp2
  refine bodyPost_ret (v := .tuple #[.agg #[.slice none 0 0, .slice none 0 0, .slice none 0 0, .slice none 0 0, .slice none 0 0], .agg #[.int .i64 0, .int .i64 0], .int .i64 111]) (by simp [results, Try.results16, go_sem, x0, x1, x2, x3, x4, m3, m4]) rfl ⟨_, _, _, _, _, _, rfl, ct0_own _ _, m1.out⟩
set_option maxRecDepth 100000 in
set_option maxHeartbeats 8000000 in
theorem pDo_ill {W : World} {S : Nat → Prop} {u0 u1 u2 u3 u4 : Value} {x : Ct} (hu : CtAt W S u0 u1 u2 u3 u4 x) (hin : CtIn 225000000000000 x) (hm : May x) (op arg data : Int) (ho : obj op = 0) :
    Calls Try.prog 16 #[.agg #[u0, u1, u2, u3, u4], .int .i64 op, .int .i64 arg, .int .i64 data] W fun e w' => ∃ v0 v1 v2 v3 v4 lab, e = .returned (.tuple #[.agg #[v0, v1, v2, v3, v4], ans 0 0, .int .i64 110]) ∧ CtOwn w' W.heap.size lab v0 v1 v2 v3 v4 ct0 ∧ Below W.heap.size W w' := by
  obtain ⟨a0, c0, rfl, _⟩ := hu.cell.form
  obtain ⟨a1, c1, rfl, _⟩ := hu.stack.form
  obtain ⟨a2, c2, rfl, _⟩ := hu.queue.form
  obtain ⟨a3, c3, rfl, _⟩ := hu.set.form
  obtain ⟨a4, c4, rfl, _⟩ := hu.table.form
  have CR := fun w' (hB : Below W.heap.size W w') (b : Nat) (hb : w'.heap[b]? = some (cqM ⟨0, op, arg, data, 0, 0, 0, 0, 0⟩)) => refused_any (hu.below hB) (hin.sm (by decide)) (sl_call hb) (by show 1 * 72 ≤ 281474976710656; omega) true (by simp [hm]) 110 (by simp [bads, ho])
  have CW := fun w' (hB : Below W.heap.size W w') => worldOf_any (hu.below hB) (hin.mono (by decide))
  have hX0 := Dx.new W (.cells #[.slice a0 x.cell.length c0, .slice a1 x.stack.length c1, .slice a2 x.queue.length c2, .slice a3 x.set.length c3, .slice a4 x.table.length c4] 25 (0, 0)) (.cells #[.int .i64 0, .int .i64 op, .int .i64 arg, .int .i64 data, .int .i64 0, .int .i64 0, .int .i64 0, .int .i64 0, .int .i64 0] 39 (0, 0))
  obtain ⟨y0, y1, y2, y3, y4, y5⟩ := ifs_cells hX0.u
  obtain ⟨q0, q1, q2, q3, q4, q5, q6, q7, q8, q9⟩ := nines hX0.c
  have hn := new_at ((((W.alloc (.cells #[.slice a0 x.cell.length c0, .slice a1 x.stack.length c1, .slice a2 x.queue.length c2, .slice a3 x.set.length c3, .slice a4 x.table.length c4] 25 (0, 0))).alloc (.cells #[.slice none 0 0, .slice none 0 0, .slice none 0 0, .slice none 0 0, .slice none 0 0] 25 (0, 0))).alloc (.cells #[.int .i64 0, .int .i64 0] 37 (0, 0))).alloc (.cells #[.int .i64 0, .int .i64 op, .int .i64 arg, .int .i64 data, .int .i64 0, .int .i64 0, .int .i64 0, .int .i64 0, .int .i64 0] 39 (0, 0))) (.cells #[.int .i64 0, .int .i64 op, .int .i64 arg, .int .i64 data, .int .i64 0, .int .i64 0, .int .i64 0, .int .i64 0, .int .i64 0] 39 (0, 0)) (W.heap.size + 1 + 1 + 1 + 1) (by simp)
  have hY0 := hX0.below ((Below.refl _ ((((W.alloc (.cells #[.slice a0 x.cell.length c0, .slice a1 x.stack.length c1, .slice a2 x.queue.length c2, .slice a3 x.set.length c3, .slice a4 x.table.length c4] 25 (0, 0))).alloc (.cells #[.slice none 0 0, .slice none 0 0, .slice none 0 0, .slice none 0 0, .slice none 0 0] 25 (0, 0))).alloc (.cells #[.int .i64 0, .int .i64 0] 37 (0, 0))).alloc (.cells #[.int .i64 0, .int .i64 op, .int .i64 arg, .int .i64 data, .int .i64 0, .int .i64 0, .int .i64 0, .int .i64 0, .int .i64 0] 39 (0, 0)))).alloc (Nat.le_refl _) (.cells #[.int .i64 0, .int .i64 op, .int .i64 arg, .int .i64 data, .int .i64 0, .int .i64 0, .int .i64 0, .int .i64 0, .int .i64 0] 39 (0, 0)))
  have ez : ((((W.alloc (.cells #[.slice a0 x.cell.length c0, .slice a1 x.stack.length c1, .slice a2 x.queue.length c2, .slice a3 x.set.length c3, .slice a4 x.table.length c4] 25 (0, 0))).alloc (.cells #[.slice none 0 0, .slice none 0 0, .slice none 0 0, .slice none 0 0, .slice none 0 0] 25 (0, 0))).alloc (.cells #[.int .i64 0, .int .i64 0] 37 (0, 0))).alloc (.cells #[.int .i64 0, .int .i64 op, .int .i64 arg, .int .i64 data, .int .i64 0, .int .i64 0, .int .i64 0, .int .i64 0, .int .i64 0] 39 (0, 0))).heap.size = W.heap.size + 4 := by simp
  unfold cqM at CR
  clear hu
  replace CR := Mr.hid CR
  replace CW := Mr.hid CW
  replace hX0 := Mr.hid hX0
  replace hY0 := Mr.hid hY0
  replace hn := Mr.hid hn
  go_enter Try.func16, Try.ntmps16
  go_upto_region 4 with (first | (go_at_call 12; refine (CR.out _ hY0.out.bel _ hn.out).mono ?_; rintro e w1 ⟨rfl, hB1⟩; have hX1 := Mr.hid (hY0.out.below hB1); clear y0 y1 y2 y3 y4 y5 q0 q1 q2 q3 q4 q5 q6 q7 q8 q9; obtain ⟨y0, y1, y2, y3, y4, y5⟩ := ifs_cells hX1.out.u; obtain ⟨q0, q1, q2, q3, q4, q5, q6, q7, q8, q9⟩ := nines hX1.out.c))
  obtain ⟨r0, r1, r2, r3, r4, r5⟩ := ifs_cells hX1.out.r
  obtain ⟨f0, f1, f2, f3, f4⟩ := ifs_thaw hX1.out.r
  obtain ⟨e0, e1, h0, h1, e2, e3, e4⟩ := ans_set hX1.out.a 0 0
  obtain ⟨m1, m2, m3, m4⟩ := do_end (.slice none 0 0) (.slice none 0 0) (.slice none 0 0) (.slice none 0 0) (.slice none 0 0) 0 0 hX1.out.bel (Nat.le_refl _) hX1.out.r hX1.out.a
  unfold set7d set5 at m1 m2 m3 m4
  obtain ⟨x0, x1, x2, x3, x4, x5⟩ := ifs_cells m2
  replace m1 := Mr.hid m1
  clear y0 y1 y2 y3 y4 y5 q0 q1 q2 q3 q4 q5 q6 q7 q8 q9 m2 e3 e4
  go_wp2
  refine bodyPost_ret (v := .tuple #[.agg #[.slice none 0 0, .slice none 0 0, .slice none 0 0, .slice none 0 0, .slice none 0 0], .agg #[.int .i64 0, .int .i64 0], .int .i64 110]) (by simp [results, Try.results16, go_sem, x0, x1, x2, x3, x4, m3, m4]) rfl ⟨_, _, _, _, _, _, rfl, ct0_own _ _, m1.out⟩
theorem obj_1 {op : Int} (h : obj op = 1) : op = 22 ∨ op = 23 := by
  unfold obj at h
  repeat (split at h; first | omega | skip)
  all_goals omega
theorem dan_o1 (x : Ct) {op arg : Int} (h : obj op = 1) : dan x op arg = if op = 22 then (1, 0) else top x.cell := by
  rcases obj_1 h with rfl | rfl
  · rfl
  · rfl
theorem dnx_o1 (x : Ct) {op arg data : Int} (h : obj op = 1) : dnx x op arg data = { x with cell := if op = 22 then [arg] else x.cell } := by
  rcases obj_1 h with rfl | rfl
  · rfl
  · rfl
theorem obj_2 {op : Int} (h : obj op = 2) : op = 30 ∨ op = 31 := by
  unfold obj at h
  repeat (split at h; first | omega | skip)
  all_goals omega
theorem dan_o2 (x : Ct) {op arg : Int} (h : obj op = 2) : dan x op arg = if op = 30 then (1, 0) else top x.stack := by
  rcases obj_2 h with rfl | rfl
  · rfl
  · rfl
theorem dnx_o2 (x : Ct) {op arg data : Int} (h : obj op = 2) : dnx x op arg data = { x with stack := if op = 30 then arg :: x.stack else x.stack.drop 1 } := by
  rcases obj_2 h with rfl | rfl
  · rfl
  · rfl
theorem obj_3 {op : Int} (h : obj op = 3) : op = 40 ∨ op = 41 := by
  unfold obj at h
  repeat (split at h; first | omega | skip)
  all_goals omega
theorem dan_o3 (x : Ct) {op arg : Int} (h : obj op = 3) : dan x op arg = if op = 40 then (1, 0) else top x.queue := by
  rcases obj_3 h with rfl | rfl
  · rfl
  · rfl
theorem dnx_o3 (x : Ct) {op arg data : Int} (h : obj op = 3) : dnx x op arg data = { x with queue := if op = 40 then x.queue ++ [arg] else x.queue.drop 1 } := by
  rcases obj_3 h with rfl | rfl
  · rfl
  · rfl
theorem obj_4 {op : Int} (h : obj op = 4) : op = 50 ∨ op = 51 ∨ op = 52 := by
  unfold obj at h
  repeat (split at h; first | omega | skip)
  all_goals omega
theorem dan_o4 (x : Ct) {op arg : Int} (h : obj op = 4) : dan x op arg = (if op = 50 then (if inB x.set arg then 6 else 5) else (if inB x.set arg then 5 else 6), 0) := by
  rcases obj_4 h with rfl | rfl | rfl
  · rfl
  · rfl
  · rfl
theorem dnx_o4 (x : Ct) {op arg data : Int} (h : obj op = 4) : dnx x op arg data = { x with set := if op = 50 then (if inB x.set arg then x.set else insL x.set arg) else if op = 51 then (if inB x.set arg then delL x.set arg else x.set) else x.set } := by
  rcases obj_4 h with rfl | rfl | rfl
  · rfl
  · rfl
  · rfl
theorem obj_5 {op : Int} (h : obj op = 5) : op = 60 ∨ op = 61 ∨ op = 62 := by
  unfold obj at h
  repeat (split at h; first | omega | skip)
  all_goals omega
theorem dan_o5 (x : Ct) {op arg : Int} (h : obj op = 5) : dan x op arg = if op = 60 then (if inB (keysOf x.table) arg then 6 else 5, 0) else getT x.table arg := by
  rcases obj_5 h with rfl | rfl | rfl
  · rfl
  · rfl
  · rfl
theorem dnx_o5 (x : Ct) {op arg data : Int} (h : obj op = 5) : dnx x op arg data = { x with table := if op = 60 then (if inB (keysOf x.table) arg then x.table else insT x.table arg data) else if op = 61 then (if inB (keysOf x.table) arg then delT x.table arg else x.table) else x.table } := by
  rcases obj_5 h with rfl | rfl | rfl
  · rfl
  · rfl
  · rfl
end Go.Proofs.Ytegbcocbopgghac.Md
