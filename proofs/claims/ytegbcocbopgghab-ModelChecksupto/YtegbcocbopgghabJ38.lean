import Derived.Test.YtegbcocbopgghabJ36
import Derived.Test.YtegbcocbopgghabJ37
import Derived.Test.YtegbcocbopgghabJ31
import Derived.Test.YtegbcocbopgghabJ33
import Derived.Test.YtegbcocbopgghabJ10
/-
  ModelChecks: what its loop keeps; rows of moves.
-/
namespace Go.Proofs.Ytegbcocbopgghab.Md
open Go.RowKit Mr Me
set_option linter.unusedVariables false
set_option linter.unusedSimpArgs false
/-- A move's four cells. -/
structure Mw where
  th : Int
  op : Int
  arg : Int
  data : Int
def Mw.row (m : Mw) : List Value := [.int .i64 m.th, .int .i64 m.op, .int .i64 m.arg, .int .i64 m.data]
def mws (l : List Mw) : List Value := l.flatMap Mw.row
theorem mws_get (l : List Mw) (i : Nat) (m : Mw) (h : l[i]? = some m) (j : Nat) (hj : j < 4) : (mws l)[i * 4 + j]? = m.row[j]? := by
  induction l generalizing i with
  | nil => simp at h
  | cons x l ih =>
    cases i with
    | zero =>
      simp at h; subst h
      simp only [mws, List.flatMap_cons]
      rw [List.getElem?_append_left (by simp [Mw.row]; omega)]
      simp
    | succ i =>
      have := ih i (by simpa using h)
      simp only [mws, List.flatMap_cons] at this ⊢
      rw [List.getElem?_append_right (by simp [Mw.row]; omega)]
      rw [← this]
      congr 1
      simp [Mw.row]; omega
theorem mw_cells {w : World} {T : Nat → Prop} {a : Option Addr} {n cap : Nat} {ms : List Mw} (h : Sl w T 4 (.slice a n cap) n (mws ms)) {i : Nat} {m : Mw} (hm : ms[i]? = some m) (hi : i < n) :
    ∃ b o, a = some ⟨b, o, none⟩ ∧ b < w.heap.size ∧ w.cell? ⟨b, o + i * 4, none⟩ = some (.int .i64 m.th) ∧ w.cell? ⟨b, o + i * 4 + 1, none⟩ = some (.int .i64 m.op) ∧ w.cell? ⟨b, o + i * 4 + 2, none⟩ = some (.int .i64 m.arg) ∧ w.cell? ⟨b, o + i * 4 + 3, none⟩ = some (.int .i64 m.data) := by
  obtain ⟨b, o, c, hv, _, _, hl, hr⟩ := h.there (by omega)
  cases hv
  exact ⟨b, o, rfl, hl, hr (i * 4) _ (by rw [← Nat.add_zero (i * 4), mws_get ms i m hm 0 (by omega)]; rfl), by rw [Nat.add_assoc]; exact hr (i * 4 + 1) _ (by rw [mws_get ms i m hm 1 (by omega)]; rfl), by rw [Nat.add_assoc]; exact hr (i * 4 + 2) _ (by rw [mws_get ms i m hm 2 (by omega)]; rfl), by rw [Nat.add_assoc]; exact hr (i * 4 + 3) _ (by rw [mws_get ms i m hm 3 (by omega)]; rfl)⟩
theorem Sl.inb {w : World} {T : Nat → Prop} {size n : Nat} {v : Value} {xs : List Value} (h : Sl w T size v n xs) : Sl w (fun k => T k ∧ k < w.heap.size) size v n xs := by
  obtain ⟨h1, a, cap, hv, hc, h2⟩ := h
  refine ⟨h1, a, cap, hv, hc, h2.imp id ?_⟩
  rintro ⟨b, o, ha, hb, hl, hr⟩
  exact ⟨b, o, ha, ⟨hb, hl⟩, hl, hr⟩
theorem CtAt.inb {w : World} {T : Nat → Prop} {v0 v1 v2 v3 v4 : Value} {x : Ct} (h : CtAt w T v0 v1 v2 v3 v4 x) : CtAt w (fun k => T k ∧ k < w.heap.size) v0 v1 v2 v3 v4 x :=
  ⟨h.cell.inb, h.stack.inb, h.queue.inb, h.set.inb, h.table.inb⟩
theorem Own.inb {w : World} {S : Nat → Prop} {e : TypeId} {size n : Nat} {v : Value} {xs : List Value} (h : Own w S e size v n xs) : Own w (fun k => S k ∧ k < w.heap.size) e size v n xs := by
  obtain ⟨h1, a, cap, hv, hc, hm, h2⟩ := h
  refine ⟨h1, a, cap, hv, hc, hm, h2.imp id ?_⟩
  rintro ⟨g, o, cur, ha, hS, hg, hs, hx⟩
  exact ⟨g, o, cur, ha, ⟨hS, (Array.getElem?_eq_some_iff.1 hg).1⟩, hg, hs, hx⟩
/-- What the loop keeps: s, wrong and now in their boxes, their rows outside of T; the calls' row in blocks of its own (S, of T). -/
structure Ck (W w : World) (b5 : Nat) (S T : Nat → Prop) (s0 s1 s2 s3 s4 : Value) (y : Ct) (n0 n1 n2 n3 n4 : Value) (q : Ct) (wk wv : Int) (cv : Value) (cs : List Cq) : Prop where
  bel : Below W.heap.size W w
  sb : w.heap[W.heap.size]? = some (ctO s0 s1 s2 s3 s4)
  wb : w.heap[W.heap.size + 1]? = some (ansO wk wv)
  nb : w.heap[b5]? = some (ctO n0 n1 n2 n3 n4)
  sat : CtAt w (fun k => k ≠ b5 ∧ ¬ T k) s0 s1 s2 s3 s4 y
  nat : CtAt w (fun k => k ≠ b5 ∧ ¬ T k) n0 n1 n2 n3 n4 q
  cal : Own w S 50 9 cv cs.length (cqs cs)
  lo : W.heap.size + 1 < b5
  nS : ∀ k, T k → W.heap.size + 1 < k ∧ k ≠ b5 ∧ k < w.heap.size
  ST : ∀ k, S k → T k
section
variable {W w w' : World} {b5 b b' : Nat} {S T : Nat → Prop} {s0 s1 s2 s3 s4 n0 n1 n2 n3 n4 l0 l1 l2 l3 l4 : Value} {y q q' : Ct} {wk wv : Int} {cv : Value} {cs : List Cq}
theorem Ck.next (h : Ck W w b5 S T s0 s1 s2 s3 s4 y n0 n1 n2 n3 n4 q wk wv cv cs) (hB : Below w.heap.size w w') : Ck W w' b5 S T s0 s1 s2 s3 s4 y n0 n1 n2 n3 n4 q wk wv cv cs :=
  have K : ∀ {k : Nat} {o : Obj}, w.heap[k]? = some o → w'.heap[k]? = some o := fun g => (hB.block _ (Array.getElem?_eq_some_iff.1 g).1).trans g
  ⟨h.bel.trans (hB.mono h.bel.size), K h.sb, K h.wb, K h.nb, h.sat.below hB, h.nat.below hB, h.cal.below hB, h.lo, fun k hk => ⟨(h.nS k hk).1, (h.nS k hk).2.1, Nat.lt_of_lt_of_le (h.nS k hk).2.2 hB.size⟩, h.ST⟩
/-- Contents made in the round, in their box. -/
structure Cy (w : World) (b b5 : Nat) (T : Nat → Prop) (l0 l1 l2 l3 l4 : Value) (x : Ct) : Prop where
  box : w.heap[b]? = some (ctO l0 l1 l2 l3 l4)
  at_ : CtAt w (fun k => k ≠ b5 ∧ ¬ T k) l0 l1 l2 l3 l4 x
  ne : b ≠ b5
  nS : ¬ T b
theorem Cy.next (h : Cy w b b5 T l0 l1 l2 l3 l4 q) (hB : Below w.heap.size w w') : Cy w' b b5 T l0 l1 l2 l3 l4 q :=
  ⟨(hB.block _ (Array.getElem?_eq_some_iff.1 h.box).1).trans h.box, h.at_.below hB, h.ne, h.nS⟩
theorem Ck.newer (h : Ck W w b5 S T s0 s1 s2 s3 s4 y n0 n1 n2 n3 n4 q wk wv cv cs) {k : Nat} (hk : w.heap.size ≤ k) : k ≠ b5 ∧ ¬ T k :=
  ⟨fun e => by have := (Array.getElem?_eq_some_iff.1 h.nb).1; omega, fun e => by have := (h.nS k e).2.2; omega⟩
/-- Behind Do; behind Allows. -/
theorem Ck.made (h : Ck W w b5 S T s0 s1 s2 s3 s4 y n0 n1 n2 n3 n4 q wk wv cv cs) {w1 wM : World} {a c : Int} (hM : wM = (w1.alloc (ctO l0 l1 l2 l3 l4)).alloc (ansO a c)) (hB : Below w.heap.size w w1) (hl : CtAt w1 (fun k => w.heap.size ≤ k) l0 l1 l2 l3 l4 q') :
    Below w.heap.size w wM ∧ Cy wM w1.heap.size b5 T l0 l1 l2 l3 l4 q' ∧ Ab wM (w1.heap.size + 1) a c := by
  subst hM
  have Y := ((Below.refl w1.heap.size w1).alloc (Nat.le_refl _) (ctO l0 l1 l2 l3 l4)).alloc (by simp) (ansO a c)
  exact ⟨hB.trans (Y.mono hB.size), ⟨old_at (new_at _ _ _ rfl) _, (hl.below Y).mono (fun k hk => h.newer hk), (h.newer hB.size).1, (h.newer hB.size).2⟩, ⟨new_at _ _ _ (by simp)⟩⟩
theorem Ck.made1 (h : Ck W w b5 S T s0 s1 s2 s3 s4 y n0 n1 n2 n3 n4 q wk wv cv cs) {w1 wM : World} (hM : wM = w1.alloc (ctO l0 l1 l2 l3 l4)) (hB : Below w.heap.size w w1) (hl : CtAt w1 (fun k => w.heap.size ≤ k) l0 l1 l2 l3 l4 q') :
    Below w.heap.size w wM ∧ Cy wM w1.heap.size b5 T l0 l1 l2 l3 l4 q' := by
  subst hM
  have Y := (Below.refl w1.heap.size w1).alloc (Nat.le_refl _) (ctO l0 l1 l2 l3 l4)
  exact ⟨hB.trans (Y.mono hB.size), ⟨new_at _ _ _ rfl, (hl.below Y).mono (fun k hk => h.newer hk), (h.newer hB.size).1, (h.newer hB.size).2⟩⟩
/-- A call in its box. -/
structure Qb (w : World) (b : Nat) (c : Cq) : Prop where
  box : w.heap[b]? = some (cqO c)
theorem Qb.next {c : Cq} (h : Qb w b c) (hB : Below w.heap.size w w') : Qb w' b c := ⟨(hB.block _ (Array.getElem?_eq_some_iff.1 h.box).1).trans h.box⟩
/-- The call's box is made: it belongs to T from here. -/
theorem Ck.call (h : Ck W w b5 S T s0 s1 s2 s3 s4 y n0 n1 n2 n3 n4 q wk wv cv cs) {c : Cq} (hw : w' = w.alloc (cqO c)) (hl : Cy w b b5 T l0 l1 l2 l3 l4 q') :
    Ck W w' b5 S (fun k => T k ∨ k = w.heap.size) s0 s1 s2 s3 s4 y n0 n1 n2 n3 n4 q wk wv cv cs ∧ Cy w' b b5 (fun k => T k ∨ k = w.heap.size) l0 l1 l2 l3 l4 q' ∧ Qb w' w.heap.size c ∧ (¬ S w.heap.size) ∧ Below w.heap.size w w' := by
  subst hw
  have Y := (Below.refl w.heap.size w).alloc (Nat.le_refl _) (cqO c)
  have A : ∀ {v0 v1 v2 v3 v4 : Value} {x : Ct}, CtAt w (fun k => k ≠ b5 ∧ ¬ T k) v0 v1 v2 v3 v4 x → CtAt (w.alloc (cqO c)) (fun k => k ≠ b5 ∧ ¬ (T k ∨ k = w.heap.size)) v0 v1 v2 v3 v4 x := fun hx =>
    (hx.inb.below Y).mono (fun k hk => ⟨hk.1.1, fun e => e.elim hk.1.2 (fun e => by have := hk.2; omega)⟩)
  have N := h.next Y
  have lw := (Array.getElem?_eq_some_iff.1 h.wb).1
  have lb := (Array.getElem?_eq_some_iff.1 hl.box).1
  refine ⟨⟨N.bel, N.sb, N.wb, N.nb, A h.sat, A h.nat, N.cal, N.lo, ?_, fun k hk => .inl (h.ST k hk)⟩, ⟨(hl.next Y).box, A hl.at_, hl.ne, fun e => e.elim hl.nS (fun e => by omega)⟩, ⟨new_at _ _ _ rfl⟩, fun e => (h.newer (Nat.le_refl _)).2 (h.ST _ e), Y⟩
  rintro k (hk | hk)
  · exact N.nS k hk
  · subst hk
    exact ⟨lw, (h.newer (Nat.le_refl _)).1, by simp⟩
/-- The call's answer is written over. -/
def set78 (w : World) (b : Nat) (a c : Int) : World := (w.setCell ⟨b, 7, none⟩ (.int .i64 a)).setCell ⟨b, 8, none⟩ (.int .i64 c)
theorem set78_fr (w : World) (b : Nat) (a c : Int) : Fr w (set78 w b a c) (fun k => k = b) := ((Fr.refl w (fun k => k = b)).setCell ⟨b, 7, none⟩ _ (.inl rfl)).setCell ⟨b, 8, none⟩ _ (.inl rfl)
theorem Qb.set78 {th op arg data beg fin pt ak av : Int} (h : Qb w b ⟨th, op, arg, data, beg, fin, pt, ak, av⟩) (a c : Int) : Qb (set78 w b a c) b ⟨th, op, arg, data, beg, fin, pt, a, c⟩ := by
  refine ⟨?_⟩
  have h1 := setBlk (setBlk h.box 7 (.int .i64 a)) 8 (.int .i64 c)
  exact h1
theorem cq_thaw {c : Cq} (h : w.heap[b]? = some (cqO c)) : w.frozen? ⟨b, 7, none⟩ = false ∧ w.frozen? ⟨b, 8, none⟩ = false := by
  unfold cqO at h
  exact ⟨by simp [World.frozen?, h], by simp [World.frozen?, h]⟩
theorem Ck.fix (h : Ck W w b5 S T s0 s1 s2 s3 s4 y n0 n1 n2 n3 n4 q wk wv cv cs) (hT : T b) (hS : ¬ S b) (hl : Cy w b' b5 T l0 l1 l2 l3 l4 q') {b3 : Nat} {a c : Int} (hA : Ab w b3 a c) (hne : b3 < b) (hf : Fr w w' (fun k => k = b)) :
    Ck W w' b5 S T s0 s1 s2 s3 s4 y n0 n1 n2 n3 n4 q wk wv cv cs ∧ Cy w' b' b5 T l0 l1 l2 l3 l4 q' ∧ Ab w' b3 a c := by
  have K : ∀ {k : Nat} {o : Obj}, w.heap[k]? = some o → k ≠ b → w'.heap[k]? = some o := fun g hk => (hf.block _ (Array.getElem?_eq_some_iff.1 g).1 hk).trans g
  have A : ∀ {v0 v1 v2 v3 v4 : Value} {x : Ct}, CtAt w (fun k => k ≠ b5 ∧ ¬ T k) v0 v1 v2 v3 v4 x → CtAt w' (fun k => k ≠ b5 ∧ ¬ T k) v0 v1 v2 v3 v4 x := fun hx => hx.fr hf (fun k hk _ e => hk.2 (e ▸ hT))
  have nb := h.nS b hT
  exact ⟨⟨h.bel.trans (hf.below (fun k hk => by omega) h.bel.size), K h.sb (by omega), K h.wb (by omega), K h.nb (fun e => nb.2.1 e.symm), A h.sat, A h.nat, h.cal.fr hf (fun k hk _ e => hS (e ▸ hk)), h.lo, fun k hk => ⟨(h.nS k hk).1, (h.nS k hk).2.1, Nat.lt_of_lt_of_le (h.nS k hk).2.2 hf.size⟩, h.ST⟩, ⟨K hl.box (fun e => hl.nS (e ▸ hT)), A hl.at_, hl.ne, hl.nS⟩, ⟨K hA.box (by omega)⟩⟩
/-- Behind the append. -/
theorem Ck.more (h : Ck W w b5 S T s0 s1 s2 s3 s4 y n0 n1 n2 n3 n4 q wk wv cv cs) (hl : Cy w b b5 T l0 l1 l2 l3 l4 q') {cv' : Value} {c : Cq} (ho : Own w' (fun k => S k ∨ k = w.heap.size) 50 9 cv' (cs.length + 1) (cqs cs ++ c.row)) (hf : Fr w w' S) :
    ∃ S', Ck W w' b5 S' S' s0 s1 s2 s3 s4 y n0 n1 n2 n3 n4 q wk wv cv' (cs ++ [c]) ∧ Cy w' b b5 S' l0 l1 l2 l3 l4 q' := by
  have K : ∀ {k : Nat} {o : Obj}, w.heap[k]? = some o → ¬ T k → w'.heap[k]? = some o := fun g hk => (hf.block _ (Array.getElem?_eq_some_iff.1 g).1 (fun e => hk (h.ST _ e))).trans g
  have A : ∀ {v0 v1 v2 v3 v4 : Value} {x : Ct}, CtAt w (fun k => k ≠ b5 ∧ ¬ T k) v0 v1 v2 v3 v4 x → CtAt w' (fun k => k ≠ b5 ∧ ¬ ((S k ∨ k = w.heap.size) ∧ k < w'.heap.size)) v0 v1 v2 v3 v4 x := fun hx =>
    (hx.inb.fr hf (fun k hk _ e => hk.1.2 (h.ST k e))).mono (fun k hk => ⟨hk.1.1, fun e => e.1.elim (fun e => hk.1.2 (h.ST k e)) (fun e => by have := hk.2; omega)⟩)
  have lb := (Array.getElem?_eq_some_iff.1 h.nb).1
  have ll := (Array.getElem?_eq_some_iff.1 hl.box).1
  have lo := h.lo
  have e : cqs (cs ++ [c]) = cqs cs ++ c.row := by simp [cqs]
  refine ⟨fun k => (S k ∨ k = w.heap.size) ∧ k < w'.heap.size, ⟨h.bel.trans (hf.below (fun k hk => by have := (h.nS k (h.ST k hk)).1; omega) h.bel.size), K h.sb (fun e => by have := (h.nS _ e).1; omega), K h.wb (fun e => by have := (h.nS _ e).1; omega), K h.nb (fun e => (h.nS _ e).2.1 rfl), A h.sat, A h.nat, ?_, lo, ?_, fun k hk => hk⟩, ⟨K hl.box hl.nS, A hl.at_, hl.ne, fun e => e.1.elim (fun e => hl.nS (h.ST _ e)) (fun e => by omega)⟩⟩
  · rw [List.length_append, e]; exact ho.inb
  · rintro k ⟨hk | hk, hk2⟩
    · exact ⟨(h.nS k (h.ST k hk)).1, (h.nS k (h.ST k hk)).2.1, hk2⟩
    · exact ⟨by omega, by omega, hk2⟩
/-- Behind now = next. -/
theorem Ck.put (h : Ck W w b5 S T s0 s1 s2 s3 s4 y n0 n1 n2 n3 n4 q wk wv cv cs) (hl : Cy w b b5 T l0 l1 l2 l3 l4 q') : Ck W (set5 w b5 l0 l1 l2 l3 l4) b5 S T s0 s1 s2 s3 s4 y l0 l1 l2 l3 l4 q' wk wv cv cs := by
  have fr := set5_fr w b5 l0 l1 l2 l3 l4
  have lo := h.lo
  refine ⟨set5_below l0 l1 l2 l3 l4 h.bel (by omega), (set5_far w b5 l0 l1 l2 l3 l4 _ (by omega)).trans h.sb, (set5_far w b5 l0 l1 l2 l3 l4 _ (by omega)).trans h.wb, set5_at l0 l1 l2 l3 l4 h.nb, h.sat.fr fr (fun k hk _ e => hk.1 e), hl.at_.fr fr (fun k hk _ e => hk.1 e), h.cal.fr fr (fun k hk _ e => (h.nS k (h.ST k hk)).2.1 e), lo, fun k hk => ⟨(h.nS k hk).1, (h.nS k hk).2.1, Nat.lt_of_lt_of_le (h.nS k hk).2.2 fr.size⟩, h.ST⟩
end
/-- Behind right, ahead of the loop. -/
theorem righted2 {W w0 w1 wM : World} {u0 u1 u2 u3 u4 v0 v1 v2 v3 v4 : Value} {y : Ct} {wk wv : Int} (h0 : w0 = (W.alloc (ctO u0 u1 u2 u3 u4)).alloc (ansO wk wv)) (hM : wM = set5 w1 W.heap.size v0 v1 v2 v3 v4) (hB : Below w0.heap.size w0 w1) (hl : CtAt w1 (fun k => w0.heap.size ≤ k) v0 v1 v2 v3 v4 y) :
    Bl wM W ∧ Cb wM W.heap.size v0 v1 v2 v3 v4 y ∧ Ab wM (W.heap.size + 1) wk wv ∧ w1.heap[W.heap.size]? = some (ctO u0 u1 u2 u3 u4) := by
  subst hM
  have B0 := ((Below.refl W.heap.size W).alloc (Nat.le_refl _) (ctO u0 u1 u2 u3 u4)).alloc (by simp) (ansO wk wv)
  have g0 : w0.heap[W.heap.size]? = some (ctO u0 u1 u2 u3 u4) := by rw [h0]; exact old_at (new_at W _ _ rfl) _
  have g1 : w0.heap[W.heap.size + 1]? = some (ansO wk wv) := by rw [h0]; exact new_at _ _ _ (by simp)
  rw [← h0] at B0
  have hs0 : W.heap.size < w0.heap.size := (Array.getElem?_eq_some_iff.1 g0).1
  have B1 := B0.trans (hB.mono B0.size)
  have k0 := (hB.block _ hs0).trans g0
  have k1 := (hB.block _ (Array.getElem?_eq_some_iff.1 g1).1).trans g1
  exact ⟨⟨set5_below v0 v1 v2 v3 v4 B1 (Nat.le_refl _)⟩, ⟨set5_at v0 v1 v2 v3 v4 k0, (hl.fr (set5_fr w1 W.heap.size v0 v1 v2 v3 v4) (fun k hk _ e => by subst e; omega)).mono (fun _ _ => trivial)⟩, ⟨(set5_far w1 W.heap.size v0 v1 v2 v3 v4 _ (by omega)).trans k1⟩, k0⟩
theorem ck_first {W x0 : World} {s0 s1 s2 s3 s4 : Value} {y : Ct} {wk wv : Int} (hD : Bl x0 W) (hS : Cb x0 W.heap.size s0 s1 s2 s3 s4 y) (hA : Ab x0 (W.heap.size + 1) wk wv) :
    Ck W (x0.alloc (ctO s0 s1 s2 s3 s4)) x0.heap.size (fun _ => False) (fun _ => False) s0 s1 s2 s3 s4 y s0 s1 s2 s3 s4 y wk wv (.slice none 0 0) [] := by
  have Y := (Below.refl x0.heap.size x0).alloc (Nat.le_refl _) (ctO s0 s1 s2 s3 s4)
  have at_ : CtAt (x0.alloc (ctO s0 s1 s2 s3 s4)) (fun k => k ≠ x0.heap.size ∧ ¬ False) s0 s1 s2 s3 s4 y := (hS.at_.inb.below Y).mono (fun k hk => ⟨by have := hk.2; omega, fun e => e⟩)
  exact ⟨(hD.next Y).bel, old_at hS.box _, old_at hA.box _, new_at _ _ _ rfl, at_, at_, Own.zero _ _ _ _ _, (Array.getElem?_eq_some_iff.1 hA.box).1, fun k hk => hk.elim, fun k hk => hk⟩
theorem mp_call : (Try.prog.info? 50).map (fun i => (i.zero, i.size, i.bytes)) = some (some (.agg #[.int .i64 0, .int .i64 0, .int .i64 0, .int .i64 0, .int .i64 0, .int .i64 0, .int .i64 0, .int .i64 0, .int .i64 0]), 9, 72) := by kernel_rfl
/-- A step's pure side. -/
structure Qs (y : Ct) (cs : List Cq) (q : Ct) (i : Nat) : Prop where
  len : cs.length = i
  pl : plays y cs 0 = (q, -1)
  may : May q
  in_ : CtIn (140737488351232 + 16 * i) q
  ops : ∀ c ∈ cs, obj c.op ≠ 0
theorem Qs.first {y : Ct} (hm : May y) (hy : CtIn 140737488351232 y) : Qs y [] y 0 := ⟨rfl, rfl, hm, hy.mono (by omega), fun _ h => by simp at h⟩
theorem Qs.own {y : Ct} {cs : List Cq} {q : Ct} {i : Nat} (h : Qs y cs q i) {op : Int} (ho : obj op ≠ 0) (arg data : Int) : alw q ⟨0, op, arg, data, 0, 0, 0, (dan q op arg).1, (dan q op arg).2⟩ = (dnx q op arg data, true) :=
  alw_own q _ rfl (dan_kind q ho arg).2
theorem Qs.step {y : Ct} {cs : List Cq} {q : Ct} {i : Nat} (h : Qs y cs q i) {op : Int} (ho : obj op ≠ 0) (arg data : Int) : Qs y (cs ++ [⟨0, op, arg, data, 0, 0, 0, (dan q op arg).1, (dan q op arg).2⟩]) (dnx q op arg data) (i + 1) := by
  have e := h.own ho arg data
  refine ⟨by simp [h.len], ?_, may_dnx h.may ho arg data, (dnx_in h.in_ op arg data).mono (by omega), ?_⟩
  · have := plays_snoc y cs _ q 0 h.pl (by rw [e])
    rw [e] at this
    exact this
  · intro c hc
    rcases List.mem_append.1 hc with hc | hc
    · exact h.ops c hc
    · rw [List.mem_singleton.1 hc]; exact ho
end Go.Proofs.Ytegbcocbopgghab.Md
/-
  OPENING lists of moves and an answer that came in, by their bulk.
-/
namespace Go.Proofs.Ytegbcocbopgghab.Md
open Go.ChangeShapes Go.WideShapes Go.ChangeAt Go.RowKit Go.Deep
open Mr
set_option linter.unusedVariables false
set_option maxRecDepth 100000
section
variable {H : Type} {enc : TypeId × Value → H} {w : World} {base : Nat} {spare : Nat → Bool} {held : Bool}
theorem open_msl {fuel : Nat} {cs : List Value} {x : DataW H × List MemPlace} (hf : DataW.trod enc Try.prog w base spare held fuel 47 cs = some x) :
    ∃ v l, cs = [v] ∧ Sl w (fun _ => True) 4 v l.length (mws l) := by
  rcases open_slice Try.underlying47 hf with ⟨hc, hx⟩ | ⟨ad, n, cap, m, k, D, Pl, hc, _, hl, _, hm, hx, hel⟩
  · exact ⟨_, [], hc, Sl.nil _ _ _⟩
  · have hle : n ≤ m := by rw [hm]; split <;> omega
    obtain ⟨l, hs, hn⟩ := sl_rows (w := w) (ad := ad) (n := n) (cap := cap) ⟨0, 0, 0, 0⟩ Mw.row 4 (by omega) (fun _ => rfl) (by omega) (fun i hi => by
      obtain ⟨cs, h1, h2⟩ := hel i (by omega)
      rw [cells_mv] at h1
      obtain ⟨_, hcl, hce⟩ := World.cells?_some h1
      obtain ⟨a, b, c, d, hcc⟩ := trod_mv h2
      exact ⟨⟨a, b, c, d⟩, fun t ht => by rw [show Mw.row ⟨a, b, c, d⟩ = cs from hcc.symm]; exact hce t (by omega)⟩)
    exact ⟨_, l, by rw [hc, hn], hs⟩
theorem open_moves_u {r : Reach} {b0 : Nat} {v : Value} {d : DataW H} {p : List MemPlace} (hv : Value.okWide Try.prog w r b0 47 v) (h : DataW.Trod enc Try.prog w base spare held 47 v d p) (hk : Rows.uptoBulk d ≤ 1048576) :
    ∃ l, Sl w (fun _ => True) 4 v l.length (mws l) ∧ l.length ≤ 1048576 := by
  obtain ⟨a, n, cap, rfl⟩ := okWide_slice Try.underlying47 hv
  obtain ⟨fuel, hf⟩ := h
  have e0 : (Value.slice a n cap).cells.toList = [.slice a n cap] := rfl
  rw [e0] at hf
  obtain ⟨w0, l, e1, hs⟩ := open_msl hf
  simp at e1
  subst e1
  have f := len_slice Try.underlying47 hf rfl hs
  have g := bulk_of f
  exact ⟨l, hs, by simp only at g; omega⟩
theorem open_ans2 {r : Reach} {b0 : Nat} {v : Value} {d : DataW H} {p : List MemPlace} (hv : Value.okWide Try.prog w r b0 31 v) (h : DataW.Trod enc Try.prog w base spare held 31 v d p) :
    ∃ a b : Int, v = .agg #[.int .i64 a, .int .i64 b] := by
  obtain ⟨cs, rfl, hcz⟩ := okWide_struct Try.underlying31 hv
  obtain ⟨fuel, hfu⟩ := h
  obtain ⟨a, b, hc⟩ := trod_an hfu
  have hcs : (Value.agg cs).cells.toList = cs.toList := rfl
  rw [hcs] at hc
  refine ⟨a, b, ?_⟩
  congr 1
  have : cs = ([.int .i64 a, .int .i64 b] : List Value).toArray := by rw [← hc]
  rw [this]
end
end Go.Proofs.Ytegbcocbopgghab.Md
