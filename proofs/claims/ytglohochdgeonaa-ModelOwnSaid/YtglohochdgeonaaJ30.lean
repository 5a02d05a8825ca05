import Derived.Test.YtglohochdgeonaaJ29
import Derived.Test.YtglohochdgeonaaJ28
/-
  ModelOwn: contents of one's own in their boxes, each with the range its blocks lie in.
-/
namespace Go.Proofs.Ytglohochdgeonaa.Md
open Go.RowKit Mr Me
set_option linter.unusedVariables false
set_option linter.unusedSimpArgs false
section
variable {w w' w1 wM : World} {b lo hi B : Nat} {lab : Nat → Nat} {v0 v1 v2 v3 v4 : Value} {x : Ct}
theorem own_kept (h : CtOwn w B lab v0 v1 v2 v3 v4 x) (hb : ∀ k, lab k < 5 → k < w.heap.size → w'.heap[k]? = w.heap[k]?) : CtOwn w' B lab v0 v1 v2 v3 v4 x :=
  ⟨h.low, h.cell.kept (fun k hk => hb k (by omega)) (fun _ h => h), h.stack.kept (fun k hk => hb k (by omega)) (fun _ h => h), h.queue.kept (fun k hk => hb k (by omega)) (fun _ h => h), h.set.kept (fun k hk => hb k (by omega)) (fun _ h => h), h.table.kept (fun k hk => hb k (by omega)) (fun _ h => h)⟩
/-- Contents of one's own: their blocks lie from lo to hi. -/
structure Oc (w : World) (lo hi : Nat) (lab : Nat → Nat) (v0 v1 v2 v3 v4 : Value) (x : Ct) : Prop where
  own : CtOwn w lo lab v0 v1 v2 v3 v4 x
  up : ∀ k, lab k < 5 → k < hi
  top : hi ≤ w.heap.size
theorem Oc.next (h : Oc w lo hi lab v0 v1 v2 v3 v4 x) (hB : Below w.heap.size w w') : Oc w' lo hi lab v0 v1 v2 v3 v4 x :=
  ⟨own_kept h.own (fun k _ hl => hB.block k hl), h.up, Nat.le_trans h.top hB.size⟩
theorem Oc.fr (h : Oc w lo hi lab v0 v1 v2 v3 v4 x) {T : Nat → Prop} (hf : Fr w w' T) (hd : ∀ k, lab k < 5 → ¬ T k) : Oc w' lo hi lab v0 v1 v2 v3 v4 x :=
  ⟨own_kept h.own (fun k hk hl => hf.block k hl (hd k hk)), h.up, Nat.le_trans h.top hf.size⟩
theorem Oc.at (h : Oc w lo hi lab v0 v1 v2 v3 v4 x) : CtAt w (fun k => lab k < 5) v0 v1 v2 v3 v4 x :=
  ⟨h.own.cell.sl.mono (fun k e => by omega), h.own.stack.sl.mono (fun k e => by omega), h.own.queue.sl.mono (fun k e => by omega), h.own.set.sl.mono (fun k e => by omega), h.own.table.sl.mono (fun k e => by omega)⟩
/-- What a call left, with the box that is made for it. -/
theorem CtOwn.cut (h : CtOwn w1 B lab v0 v1 v2 v3 v4 x) : Oc w1 B w1.heap.size (fun k => if k < w1.heap.size then lab k else 5) v0 v1 v2 v3 v4 x := by
  have K : ∀ {e : TypeId} {size n i : Nat} {v : Value} {xs : List Value}, Own w1 (fun k => lab k = i) e size v n xs → Own w1 (fun k => (if k < w1.heap.size then lab k else 5) = i) e size v n xs := fun {e size n i v xs} h => by
    refine (own_inb h).mono (fun k hk => ?_)
    show (if k < w1.heap.size then lab k else 5) = i
    rw [if_pos hk.2]; exact hk.1
  refine ⟨⟨fun k hk => ?_, K h.cell, K h.stack, K h.queue, K h.set, K h.table⟩, fun k hk => ?_, Nat.le_refl _⟩
  · by_cases e : k < w1.heap.size
    · rw [if_pos e] at hk; exact h.low k hk
    · rw [if_neg e] at hk; omega
  · by_cases e : k < w1.heap.size
    · exact e
    · rw [if_neg e] at hk; omega
theorem oc_made (hM : wM = w1.alloc (ctO v0 v1 v2 v3 v4)) (hB : Below w.heap.size w w1) (h : CtOwn w1 w.heap.size lab v0 v1 v2 v3 v4 x) :
    Below w.heap.size w wM ∧ wM.heap[w1.heap.size]? = some (ctO v0 v1 v2 v3 v4) ∧ ∃ la, Oc wM w.heap.size w1.heap.size la v0 v1 v2 v3 v4 x := by
  subst hM
  have Y := (Below.refl w1.heap.size w1).alloc (Nat.le_refl _) (ctO v0 v1 v2 v3 v4)
  exact ⟨hB.trans (Y.mono hB.size), new_at _ _ _ rfl, _, h.cut.next Y⟩
theorem oc_made2 {a c : Int} (hM : wM = (w1.alloc (ctO v0 v1 v2 v3 v4)).alloc (ansO a c)) (hB : Below w.heap.size w w1) (h : CtOwn w1 w.heap.size lab v0 v1 v2 v3 v4 x) :
    Below w.heap.size w wM ∧ wM.heap[w1.heap.size]? = some (ctO v0 v1 v2 v3 v4) ∧ ∃ la, Oc wM w.heap.size w1.heap.size la v0 v1 v2 v3 v4 x := by
  subst hM
  have Y := ((Below.refl w1.heap.size w1).alloc (Nat.le_refl _) (ctO v0 v1 v2 v3 v4)).alloc (by simp) (ansO a c)
  exact ⟨hB.trans (Y.mono hB.size), old_at (new_at _ _ _ rfl) _, _, h.cut.next Y⟩
/-- Contents that were spoilt. -/
theorem Oc.spoil (h : Oc w lo hi lab v0 v1 v2 v3 v4 x) (hin : CtIn 225000000000000 x) {m : Int} (hm0 : 0 ≤ m) (hm1 : m ≤ 1000000) :
    Calls Try.prog 13 #[.agg #[v0, v1, v2, v3, v4], .int .i64 m] w fun e w' => e = .returned (.tuple #[]) ∧ Fr w w' (fun k => lab k < 5) ∧ CtAt w' (fun k => lab k < 5) v0 v1 v2 v3 v4 (spx x m) :=
  spoil_any h.own hin hm0 hm1
end
/-- The six answers, the first k of them spoilt. -/
structure Fam (w : World) (V : Nat → Nat → Value) (X : Nat → Ct) (LO HI : Nat → Nat) (LAB : Nat → Nat → Nat) (k : Nat) : Prop where
  done : ∀ i, i < k → CtAt w (fun q => LAB i q < 5) (V i 0) (V i 1) (V i 2) (V i 3) (V i 4) (spx (X i) (1000 * ((i : Int) + 1)))
  rest : ∀ i, k ≤ i → i < 6 → Oc w (LO i) (HI i) (LAB i) (V i 0) (V i 1) (V i 2) (V i 3) (V i 4) (X i)
  rng : ∀ i q, i < 6 → LAB i q < 5 → LO i ≤ q ∧ q < HI i
  apart : ∀ i j, i < j → j < 6 → HI i ≤ LO j
theorem Fam.far {w : World} {V : Nat → Nat → Value} {X : Nat → Ct} {LO HI : Nat → Nat} {LAB : Nat → Nat → Nat} {k : Nat} (h : Fam w V X LO HI LAB k) {i j q : Nat} (hi : i < 6) (hj : j < 6) (hne : i ≠ j) (hq : LAB i q < 5) : ¬ LAB j q < 5 := fun e => by
  have a := h.rng i q hi hq
  have b := h.rng j q hj e
  rcases Nat.lt_or_gt_of_ne hne with c | c
  · have := h.apart i j c hj; omega
  · have := h.apart j i c hi; omega
theorem Fam.next {w w' : World} {V : Nat → Nat → Value} {X : Nat → Ct} {LO HI : Nat → Nat} {LAB : Nat → Nat → Nat} {k : Nat} (h : Fam w V X LO HI LAB k) (hB : Below w.heap.size w w') : Fam w' V X LO HI LAB k :=
  ⟨fun i hi => (h.done i hi).below hB, fun i hk hi => (h.rest i hk hi).next hB, h.rng, h.apart⟩
theorem Fam.spoil {w w' : World} {V : Nat → Nat → Value} {X : Nat → Ct} {LO HI : Nat → Nat} {LAB : Nat → Nat → Nat} {k : Nat} (h : Fam w V X LO HI LAB k) (hk : k < 6) (hf : Fr w w' (fun q => LAB k q < 5)) (hc : CtAt w' (fun q => LAB k q < 5) (V k 0) (V k 1) (V k 2) (V k 3) (V k 4) (spx (X k) (1000 * ((k : Int) + 1)))) : Fam w' V X LO HI LAB (k + 1) := by
  refine ⟨fun i hi => ?_, fun i hi h6 => ?_, h.rng, h.apart⟩
  · by_cases e : i = k
    · subst e; exact hc
    · exact (h.done i (by omega)).fr hf (fun q hq _ => h.far (by omega) hk e hq)
  · exact (h.rest i (by omega) h6).fr hf (fun q hq => h.far h6 hk (by omega) hq)
end Go.Proofs.Ytglohochdgeonaa.Md
/-
  ModelOwn: what its loops keep.
-/
namespace Go.Proofs.Ytglohochdgeonaa.Md
open Go.RowKit Mr Me
set_option linter.unusedVariables false
set_option linter.unusedSimpArgs false
theorem sl_lowO {W : World} {T : Nat → Prop} {size n : Nat} {v : Value} {xs : List Value} (h : Sl W T size v n xs) : Sl W (fun k => k < W.heap.size) size v n xs := by
  obtain ⟨h1, a, cap, hv, hc, h2⟩ := h
  refine ⟨h1, a, cap, hv, hc, h2.imp id ?_⟩
  rintro ⟨b, o, ha, _, hl, hr⟩
  exact ⟨b, o, ha, hl, hl, hr⟩
theorem ct_lowO {W : World} {T : Nat → Prop} {v0 v1 v2 v3 v4 : Value} {x : Ct} (h : CtAt W T v0 v1 v2 v3 v4 x) : CtAt W (fun k => k < W.heap.size) v0 v1 v2 v3 v4 x := ⟨sl_lowO h.cell, sl_lowO h.stack, sl_lowO h.queue, sl_lowO h.set, sl_lowO h.table⟩
/-- Contents in their box, all below a height. -/
structure Lw (w : World) (n b : Nat) (v0 v1 v2 v3 v4 : Value) (x : Ct) : Prop where
  box : w.heap[b]? = some (ctO v0 v1 v2 v3 v4)
  lt : b < n
  at_ : CtAt w (fun q => q < n) v0 v1 v2 v3 v4 x
section
variable {w w' : World} {n b : Nat} {v0 v1 v2 v3 v4 : Value} {x : Ct}
theorem Lw.of {T : Nat → Prop} (hb : w.heap[b]? = some (ctO v0 v1 v2 v3 v4)) (ha : CtAt w T v0 v1 v2 v3 v4 x) : Lw w w.heap.size b v0 v1 v2 v3 v4 x := ⟨hb, (Array.getElem?_eq_some_iff.1 hb).1, ct_lowO ha⟩
theorem Lw.next (h : Lw w n b v0 v1 v2 v3 v4 x) (hB : Below w.heap.size w w') : Lw w' n b v0 v1 v2 v3 v4 x := ⟨(hB.block _ (Array.getElem?_eq_some_iff.1 h.box).1).trans h.box, h.lt, h.at_.below hB⟩
theorem Lw.fr (h : Lw w n b v0 v1 v2 v3 v4 x) {T : Nat → Prop} (hf : Fr w w' T) (hT : ∀ q, T q → n ≤ q) : Lw w' n b v0 v1 v2 v3 v4 x :=
  ⟨(hf.block _ (Array.getElem?_eq_some_iff.1 h.box).1 (fun e => by have := hT b e; have := h.lt; omega)).trans h.box, h.lt, h.at_.fr hf (fun q hq _ e => by have := hT q e; omega)⟩
end
/-- The letter at i * 5 + j of a row of thirty. -/
def at5 (L : List Value) (i j : Nat) : Value := (L[i * 5 + j]?).getD undef
theorem at5_get {L : List Value} (hL : L.length = 30) {i j : Nat} (hi : i < 6) (hj : j < 5) : L[i * 5 + j]? = some (at5 L i j) := by
  unfold at5
  rw [List.getElem?_eq_getElem (by omega)]; rfl
/-- What the loops keep: the first k answers are spoilt. -/
structure So (W w : World) (n0 top bk ba bw : Nat) (s0 s1 s2 s3 s4 p0 p1 p2 p3 p4 : Value) (y : Ct) (L M : List Value) (X : Nat → Ct) (LO HI : Nat → Nat) (LAB : Nat → Nat → Nat) (k : Nat) : Prop where
  bel : Below W.heap.size W w
  s : Lw w n0 W.heap.size s0 s1 s2 s3 s4 y
  kp : Lw w n0 bk p0 p1 p2 p3 p4 y
  fam : Fam w (at5 L) X LO HI LAB k
  al : w.heap[ba]? = some (.cells L.toArray 25 (0, 0))
  wa : w.heap[bw]? = some (.cells M.toArray 25 (0, 0))
  want : ∀ i, i < 6 → CtAt w (fun q => top ≤ q) (at5 M i 0) (at5 M i 1) (at5 M i 2) (at5 M i 3) (at5 M i 4) (X i)
  h0 : ∀ i, i < 6 → n0 ≤ LO i
  h1 : ∀ i, i < 6 → HI i ≤ top
  h2 : top ≤ ba ∧ top ≤ bw
section
variable {W w w' : World} {n0 top bk ba bw : Nat} {s0 s1 s2 s3 s4 p0 p1 p2 p3 p4 : Value} {y : Ct} {L M : List Value} {X : Nat → Ct} {LO HI : Nat → Nat} {LAB : Nat → Nat → Nat} {k : Nat}
theorem So.next (h : So W w n0 top bk ba bw s0 s1 s2 s3 s4 p0 p1 p2 p3 p4 y L M X LO HI LAB k) (hB : Below w.heap.size w w') : So W w' n0 top bk ba bw s0 s1 s2 s3 s4 p0 p1 p2 p3 p4 y L M X LO HI LAB k :=
  ⟨h.bel.trans (hB.mono h.bel.size), h.s.next hB, h.kp.next hB, h.fam.next hB, (hB.block _ (Array.getElem?_eq_some_iff.1 h.al).1).trans h.al, (hB.block _ (Array.getElem?_eq_some_iff.1 h.wa).1).trans h.wa, fun i hi => (h.want i hi).below hB, h.h0, h.h1, h.h2⟩
theorem So.spoil (h : So W w n0 top bk ba bw s0 s1 s2 s3 s4 p0 p1 p2 p3 p4 y L M X LO HI LAB k) (hk : k < 6) (hf : Fr w w' (fun q => LAB k q < 5)) (hc : CtAt w' (fun q => LAB k q < 5) (at5 L k 0) (at5 L k 1) (at5 L k 2) (at5 L k 3) (at5 L k 4) (spx (X k) (1000 * ((k : Int) + 1)))) : So W w' n0 top bk ba bw s0 s1 s2 s3 s4 p0 p1 p2 p3 p4 y L M X LO HI LAB (k + 1) := by
  have hr : ∀ q, LAB k q < 5 → n0 ≤ q ∧ q < top := fun q hq => by
    have a := h.fam.rng k q hk hq
    have b := h.h0 k hk
    have c := h.h1 k hk
    omega
  have hW := h.s.lt
  refine ⟨⟨hf.os.trans h.bel.os, hf.tape.trans h.bel.tape, hf.output.trans h.bel.output, Nat.le_trans h.bel.size hf.size, fun q hq => (hf.block q (Nat.lt_of_lt_of_le hq h.bel.size) (fun e => by have := (hr q e).1; omega)).trans (h.bel.block q hq)⟩, h.s.fr hf (fun q hq => (hr q hq).1), h.kp.fr hf (fun q hq => (hr q hq).1), h.fam.spoil hk hf hc, (hf.block _ (Array.getElem?_eq_some_iff.1 h.al).1 (fun e => by have := (hr _ e).2; have := h.h2.1; omega)).trans h.al, (hf.block _ (Array.getElem?_eq_some_iff.1 h.wa).1 (fun e => by have := (hr _ e).2; have := h.h2.2; omega)).trans h.wa, fun i hi => (h.want i hi).fr hf (fun q hq _ e => by have := (hr q e).2; omega), h.h0, h.h1, h.h2⟩
theorem So.all (h : So W w n0 top bk ba bw s0 s1 s2 s3 s4 p0 p1 p2 p3 p4 y L M X LO HI LAB k) (hL : L.length = 30) {i j : Nat} (hi : i < 6) (hj : j < 5) : w.cell? ⟨ba, i * 5 + j, none⟩ = some (at5 L i j) := by
  rw [cell_blk h.al, show (L.toArray)[i * 5 + j]? = L[i * 5 + j]? from by simp, at5_get hL hi hj]
theorem So.wants (h : So W w n0 top bk ba bw s0 s1 s2 s3 s4 p0 p1 p2 p3 p4 y L M X LO HI LAB k) (hM : M.length = 30) {i j : Nat} (hi : i < 6) (hj : j < 5) : w.cell? ⟨bw, i * 5 + j, none⟩ = some (at5 M i j) := by
  rw [cell_blk h.wa, show (M.toArray)[i * 5 + j]? = M[i * 5 + j]? from by simp, at5_get hM hi hj]
end
end Go.Proofs.Ytglohochdgeonaa.Md
