import Derived.Test.YtglohochdgeonaaJ03
import Derived.Test.YtglohochdgeonaaJ28
import Derived.Test.YtglohochdgeonaaJ14
/-
  ModelOwn: what reclaimlaw11.spoil's loops keep.
-/
namespace Go.Proofs.Ytglohochdgeonaa.Md
open Go.RowKit Mr Me
set_option linter.unusedVariables false
set_option linter.unusedSimpArgs false
/-- A list, its first i entries overwritten. -/
def fil {α : Type} (l : List α) (a : α) (i : Nat) : List α := List.replicate i a ++ l.drop i
theorem fil_zero {α : Type} (l : List α) (a : α) : fil l a 0 = l := by simp [fil]
theorem fil_all {α : Type} (l : List α) (a : α) : fil l a l.length = List.replicate l.length a := by simp [fil]
theorem fil_len {α : Type} (l : List α) (a : α) (i : Nat) (h : i ≤ l.length) : (fil l a i).length = l.length := by simp [fil]; omega
theorem fil_set {α : Type} (l : List α) (a : α) (i : Nat) (h : i < l.length) : (fil l a i).set i a = fil l a (i + 1) := by
  unfold fil
  rw [List.set_append_right _ _ (by simp), List.length_replicate, Nat.sub_self, List.drop_eq_getElem_cons h, List.set_cons_zero, List.replicate_succ', List.append_assoc]
  rfl
theorem ints_seta (l : List Int) (i : Nat) (a : Int) : (ints l).set i (.int .i64 a) = ints (l.set i a) := by simp [ints, List.map_set]
theorem prs_set (l : List (Int × Int)) (i : Nat) (k v : Int) (h : i < l.length) : ((prs l).set (i * 2) (.int .i64 k)).set (i * 2 + 1) (.int .i64 v) = prs (l.set i (k, v)) := by
  induction l generalizing i with
  | nil => simp at h
  | cons x l ih =>
    cases i with
    | zero => simp [prs, pr]
    | succ i =>
      have := ih i (by simpa using h)
      have e1 : (i + 1) * 2 = i * 2 + 1 + 1 := by omega
      simp only [prs, List.flatMap_cons, pr, List.cons_append, List.nil_append, e1, List.set_cons_succ] at this ⊢
      rw [this]
/-- The rows of contents of one's own, in their boxes: u's box and the lists' row are at W.heap.size and behind it. -/
structure Sf (W w : World) (lab : Nat → Nat) (u0 u1 u2 u3 u4 : Value) (n0 n1 n2 n3 n4 : Nat) (y : Ct) : Prop where
  fr : Fr W w (fun k => lab k < 5)
  box : w.heap[W.heap.size]? = some (ctO u0 u1 u2 u3 u4)
  ls : w.heap[W.heap.size + 1]? = some (lsO u0 u1 u2 u3)
  low : ∀ k, lab k < 5 → k < W.heap.size
  r0 : Own w (fun k => lab k = 0) 3 1 u0 n0 (ints y.cell)
  r1 : Own w (fun k => lab k = 1) 3 1 u1 n1 (ints y.stack)
  r2 : Own w (fun k => lab k = 2) 3 1 u2 n2 (ints y.queue)
  r3 : Own w (fun k => lab k = 3) 3 1 u3 n3 (ints y.set)
  r4 : Own w (fun k => lab k = 4) 71 2 u4 n4 (prs y.table)
theorem own_thaw {w : World} {S : Nat → Prop} {e : TypeId} {size n : Nat} {v : Value} {xs : List Value} (h : Own w S e size v n xs) {i : Nat} (hi : i < n) :
    ∃ g o cap, v = .slice (some ⟨g, o, none⟩) n cap ∧ n ≤ cap ∧ S g ∧ g < w.heap.size ∧ (∀ j u, xs[j]? = some u → w.cell? ⟨g, o + j, none⟩ = some u) ∧ ∀ j, w.frozen? ⟨g, j, none⟩ = false := by
  obtain ⟨g, o, cap, cur, rfl, hc, _, hS, hg, hs, hx⟩ := h.there (by omega)
  exact ⟨g, o, cap, rfl, hc, hS, (Array.getElem?_eq_some_iff.1 hg).1, own_cells hg hx, fun j => by simp [World.frozen?, hg]⟩
section
variable {W w : World} {lab : Nat → Nat} {u0 u1 u2 u3 u4 : Value} {n0 n1 n2 n3 n4 : Nat} {y : Ct}
theorem sf_cell {g j : Nat} (u : Value) : Fr w (w.setCell ⟨g, j, none⟩ u) (fun k => k = g) := (Fr.refl w (fun k => k = g)).setCell ⟨g, j, none⟩ u (.inl rfl)
theorem Sf.put0 (h : Sf W w lab u0 u1 u2 u3 u4 n0 n1 n2 n3 n4 y) {g o cap i : Nat} (hv : u0 = .slice (some ⟨g, o, none⟩) n0 cap) (hi : i < n0) (hg : lab g = 0) (a : Int) : Sf W (w.setCell ⟨g, o + i, none⟩ (.int .i64 a)) lab u0 u1 u2 u3 u4 n0 n1 n2 n3 n4 { y with cell := y.cell.set i a } := by
  have fr := sf_cell (w := w) (g := g) (j := o + i) (.int .i64 a)
  have lg := h.low g (by omega)
  have R : Own (w.setCell ⟨g, o + i, none⟩ (.int .i64 a)) (fun k => lab k = 0) 3 1 u0 n0 (ints (y.cell.set i a)) := by
    have r := h.r0
    subst hv
    rw [← ints_seta]
    exact r.put (by omega) (by omega) _
  exact ⟨h.fr.trans (fr.mono (fun k e => .inl (by subst e; omega))), (fr.block _ (Array.getElem?_eq_some_iff.1 h.box).1 (by omega)).trans h.box, (fr.block _ (Array.getElem?_eq_some_iff.1 h.ls).1 (by omega)).trans h.ls, h.low, R, h.r1.fr fr (fun k hk _ e => by subst e; omega), h.r2.fr fr (fun k hk _ e => by subst e; omega), h.r3.fr fr (fun k hk _ e => by subst e; omega), h.r4.fr fr (fun k hk _ e => by subst e; omega)⟩
theorem Sf.put1 (h : Sf W w lab u0 u1 u2 u3 u4 n0 n1 n2 n3 n4 y) {g o cap i : Nat} (hv : u1 = .slice (some ⟨g, o, none⟩) n1 cap) (hi : i < n1) (hg : lab g = 1) (a : Int) : Sf W (w.setCell ⟨g, o + i, none⟩ (.int .i64 a)) lab u0 u1 u2 u3 u4 n0 n1 n2 n3 n4 { y with stack := y.stack.set i a } := by
  have fr := sf_cell (w := w) (g := g) (j := o + i) (.int .i64 a)
  have lg := h.low g (by omega)
  have R : Own (w.setCell ⟨g, o + i, none⟩ (.int .i64 a)) (fun k => lab k = 1) 3 1 u1 n1 (ints (y.stack.set i a)) := by
    have r := h.r1
    subst hv
    rw [← ints_seta]
    exact r.put (by omega) (by omega) _
  exact ⟨h.fr.trans (fr.mono (fun k e => .inl (by subst e; omega))), (fr.block _ (Array.getElem?_eq_some_iff.1 h.box).1 (by omega)).trans h.box, (fr.block _ (Array.getElem?_eq_some_iff.1 h.ls).1 (by omega)).trans h.ls, h.low, h.r0.fr fr (fun k hk _ e => by subst e; omega), R, h.r2.fr fr (fun k hk _ e => by subst e; omega), h.r3.fr fr (fun k hk _ e => by subst e; omega), h.r4.fr fr (fun k hk _ e => by subst e; omega)⟩
theorem Sf.put2 (h : Sf W w lab u0 u1 u2 u3 u4 n0 n1 n2 n3 n4 y) {g o cap i : Nat} (hv : u2 = .slice (some ⟨g, o, none⟩) n2 cap) (hi : i < n2) (hg : lab g = 2) (a : Int) : Sf W (w.setCell ⟨g, o + i, none⟩ (.int .i64 a)) lab u0 u1 u2 u3 u4 n0 n1 n2 n3 n4 { y with queue := y.queue.set i a } := by
  have fr := sf_cell (w := w) (g := g) (j := o + i) (.int .i64 a)
  have lg := h.low g (by omega)
  have R : Own (w.setCell ⟨g, o + i, none⟩ (.int .i64 a)) (fun k => lab k = 2) 3 1 u2 n2 (ints (y.queue.set i a)) := by
    have r := h.r2
    subst hv
    rw [← ints_seta]
    exact r.put (by omega) (by omega) _
  exact ⟨h.fr.trans (fr.mono (fun k e => .inl (by subst e; omega))), (fr.block _ (Array.getElem?_eq_some_iff.1 h.box).1 (by omega)).trans h.box, (fr.block _ (Array.getElem?_eq_some_iff.1 h.ls).1 (by omega)).trans h.ls, h.low, h.r0.fr fr (fun k hk _ e => by subst e; omega), h.r1.fr fr (fun k hk _ e => by subst e; omega), R, h.r3.fr fr (fun k hk _ e => by subst e; omega), h.r4.fr fr (fun k hk _ e => by subst e; omega)⟩
theorem Sf.put3 (h : Sf W w lab u0 u1 u2 u3 u4 n0 n1 n2 n3 n4 y) {g o cap i : Nat} (hv : u3 = .slice (some ⟨g, o, none⟩) n3 cap) (hi : i < n3) (hg : lab g = 3) (a : Int) : Sf W (w.setCell ⟨g, o + i, none⟩ (.int .i64 a)) lab u0 u1 u2 u3 u4 n0 n1 n2 n3 n4 { y with set := y.set.set i a } := by
  have fr := sf_cell (w := w) (g := g) (j := o + i) (.int .i64 a)
  have lg := h.low g (by omega)
  have R : Own (w.setCell ⟨g, o + i, none⟩ (.int .i64 a)) (fun k => lab k = 3) 3 1 u3 n3 (ints (y.set.set i a)) := by
    have r := h.r3
    subst hv
    rw [← ints_seta]
    exact r.put (by omega) (by omega) _
  exact ⟨h.fr.trans (fr.mono (fun k e => .inl (by subst e; omega))), (fr.block _ (Array.getElem?_eq_some_iff.1 h.box).1 (by omega)).trans h.box, (fr.block _ (Array.getElem?_eq_some_iff.1 h.ls).1 (by omega)).trans h.ls, h.low, h.r0.fr fr (fun k hk _ e => by subst e; omega), h.r1.fr fr (fun k hk _ e => by subst e; omega), h.r2.fr fr (fun k hk _ e => by subst e; omega), R, h.r4.fr fr (fun k hk _ e => by subst e; omega)⟩
theorem Sf.put4 (h : Sf W w lab u0 u1 u2 u3 u4 n0 n1 n2 n3 n4 y) {g o cap i : Nat} (hv : u4 = .slice (some ⟨g, o, none⟩) n4 cap) (hi : i < n4) (hg : lab g = 4) (a b : Int) : Sf W ((w.setCell ⟨g, o + i * 2, none⟩ (.int .i64 a)).setCell ⟨g, o + i * 2 + 1, none⟩ (.int .i64 b)) lab u0 u1 u2 u3 u4 n0 n1 n2 n3 n4 { y with table := y.table.set i (a, b) } := by
  have fr : Fr w ((w.setCell ⟨g, o + i * 2, none⟩ (.int .i64 a)).setCell ⟨g, o + i * 2 + 1, none⟩ (.int .i64 b)) (fun k => k = g) := ((Fr.refl w (fun k => k = g)).setCell ⟨g, o + i * 2, none⟩ _ (.inl rfl)).setCell ⟨g, o + i * 2 + 1, none⟩ _ (.inl rfl)
  have lg := h.low g (by omega)
  have R : Own ((w.setCell ⟨g, o + i * 2, none⟩ (.int .i64 a)).setCell ⟨g, o + i * 2 + 1, none⟩ (.int .i64 b)) (fun k => lab k = 4) 71 2 u4 n4 (prs (y.table.set i (a, b))) := by
    have r := h.r4
    have hl : y.table.length = n4 := by have := r.1; rw [prs_length] at this; omega
    subst hv
    rw [← prs_set _ _ _ _ (by omega)]
    have r2 := (r.put (by omega) (j := i * 2) (by omega) (.int .i64 a)).put (by omega) (j := i * 2 + 1) (by omega) (.int .i64 b)
    rw [← Nat.add_assoc] at r2
    exact r2
  exact ⟨h.fr.trans (fr.mono (fun k e => .inl (by subst e; omega))), (fr.block _ (Array.getElem?_eq_some_iff.1 h.box).1 (by omega)).trans h.box, (fr.block _ (Array.getElem?_eq_some_iff.1 h.ls).1 (by omega)).trans h.ls, h.low, h.r0.fr fr (fun k hk _ e => by subst e; omega), h.r1.fr fr (fun k hk _ e => by subst e; omega), h.r2.fr fr (fun k hk _ e => by subst e; omega), h.r3.fr fr (fun k hk _ e => by subst e; omega), R⟩
end
/-- The lists grown behind: t's are the longer slices, u's the elder ones. -/
structure Sg (W w : World) (lab0 lab : Nat → Nat) (u0 u1 u2 u3 u4 : Value) (n0 n1 n2 n3 n4 : Nat) (y : Ct) (t0 t1 t2 t3 t4 : Value) (q0 q1 q2 q3 q4 : Nat) : Prop where
  fr : Fr W w (fun k => lab0 k < 5)
  box : w.heap[W.heap.size]? = some (ctO u0 u1 u2 u3 u4)
  ls : w.heap[W.heap.size + 1]? = some (lsO t0 t1 t2 t3)
  l5 : ¬ lab W.heap.size < 5 ∧ ¬ lab (W.heap.size + 1) < 5
  lo : ∀ k, k < W.heap.size → lab k = lab0 k
  top : ∀ k, w.heap.size ≤ k → ¬ lab k < 5
  g0 : Gr w (fun k => lab k = 0) 3 1 u0 n0 (ints y.cell) t0 (n0 + q0)
  g1 : Gr w (fun k => lab k = 1) 3 1 u1 n1 (ints y.stack) t1 (n1 + q1)
  g2 : Gr w (fun k => lab k = 2) 3 1 u2 n2 (ints y.queue) t2 (n2 + q2)
  g3 : Gr w (fun k => lab k = 3) 3 1 u3 n3 (ints y.set) t3 (n3 + q3)
  g4 : Gr w (fun k => lab k = 4) 71 2 u4 n4 (prs y.table) t4 (n4 + q4)
theorem lsO_cells {w : World} {b : Nat} {t0 t1 t2 t3 : Value} (h : w.heap[b]? = some (lsO t0 t1 t2 t3)) : w.cell? ⟨b, 0, none⟩ = some t0 ∧ w.cell? ⟨b, 1, none⟩ = some t1 ∧ w.cell? ⟨b, 2, none⟩ = some t2 ∧ w.cell? ⟨b, 3, none⟩ = some t3 ∧ b < w.heap.size ∧ w.frozen? ⟨b, 0, none⟩ = false ∧ w.frozen? ⟨b, 1, none⟩ = false ∧ w.frozen? ⟨b, 2, none⟩ = false ∧ w.frozen? ⟨b, 3, none⟩ = false := by
  have hl := (Array.getElem?_eq_some_iff.1 h).1
  unfold lsO at h
  exact ⟨cell_blk h 0, cell_blk h 1, cell_blk h 2, cell_blk h 3, hl, by simp [World.frozen?, h], by simp [World.frozen?, h], by simp [World.frozen?, h], by simp [World.frozen?, h]⟩
def labn (lab : Nat → Nat) (s s' i : Nat) (k : Nat) : Nat := if k = s ∧ s < s' then i else lab k
section
variable {W w w' : World} {lab0 lab : Nat → Nat} {u0 u1 u2 u3 u4 : Value} {n0 n1 n2 n3 n4 : Nat} {y : Ct} {t0 t1 t2 t3 t4 : Value} {q0 q1 q2 q3 q4 : Nat}
theorem Sg.first (h : Sf W w lab0 u0 u1 u2 u3 u4 n0 n1 n2 n3 n4 y) : Sg W w lab0 lab0 u0 u1 u2 u3 u4 n0 n1 n2 n3 n4 y u0 u1 u2 u3 u4 0 0 0 0 0 :=
  ⟨h.fr, h.box, h.ls, ⟨fun e => by have := h.low _ e; omega, fun e => by have := h.low _ e; omega⟩, fun _ _ => rfl, fun k hk e => by have := h.low _ e; have := h.fr.size; omega, Gr.first h.r0, Gr.first h.r1, Gr.first h.r2, Gr.first h.r3, Gr.first h.r4⟩
theorem Sg.next (h : Sg W w lab0 lab u0 u1 u2 u3 u4 n0 n1 n2 n3 n4 y t0 t1 t2 t3 t4 q0 q1 q2 q3 q4) (hB : Below w.heap.size w w') : Sg W w' lab0 lab u0 u1 u2 u3 u4 n0 n1 n2 n3 n4 y t0 t1 t2 t3 t4 q0 q1 q2 q3 q4 := by
  have fr : Fr w w' (fun _ => False) := Fr.of_below hB
  have K : ∀ {k : Nat} {o : Obj}, w.heap[k]? = some o → w'.heap[k]? = some o := fun g => (hB.block _ (Array.getElem?_eq_some_iff.1 g).1).trans g
  exact ⟨h.fr.trans (Fr.of_below hB), K h.box, K h.ls, h.l5, h.lo, fun k hk => h.top k (Nat.le_trans hB.size hk), h.g0.fr fr (fun _ _ _ e => e), h.g1.fr fr (fun _ _ _ e => e), h.g2.fr fr (fun _ _ _ e => e), h.g3.fr fr (fun _ _ _ e => e), h.g4.fr fr (fun _ _ _ e => e)⟩
theorem Sg.app0 (h : Sg W w lab0 lab u0 u1 u2 u3 u4 n0 n1 n2 n3 n4 y t0 t1 t2 t3 t4 q0 q1 q2 q3 q4) {b' : Option Addr} {cap' : Nat} {ys : List Value} (ho : Own w' (fun k => lab k = 0 ∨ k = w.heap.size) 3 1 (.slice b' (n0 + q0 + 1) cap') (n0 + q0 + 1) ys) (hf : Fr w w' (fun k => lab k = 0)) (hk : Kept w w' 1 t0 (n0 + q0) b') :
    w'.heap[W.heap.size + 1]? = some (lsO t0 t1 t2 t3) ∧ Sg W (w'.setCell ⟨W.heap.size + 1, 0, none⟩ (.slice b' (n0 + q0 + 1) cap')) lab0 (labn lab w.heap.size w'.heap.size 0) u0 u1 u2 u3 u4 n0 n1 n2 n3 n4 y (.slice b' (n0 + q0 + 1) cap') t1 t2 t3 t4 (q0 + 1) q1 q2 q3 q4 := by
  have lw := (Array.getElem?_eq_some_iff.1 h.ls).1
  have K : ∀ {k : Nat} {o : Obj}, w.heap[k]? = some o → lab k ≠ 0 → w'.heap[k]? = some o := fun g hk => (hf.block _ (Array.getElem?_eq_some_iff.1 g).1 hk).trans g
  have l5 := h.l5
  have LS := K h.ls (by omega)
  have G := (h.g0.app ho hf hk).inb
  have hw := hf.size
  have old : ∀ (i k : Nat), i < 5 → lab k = i → k < w.heap.size := fun i k hi e => by
    by_cases hk : k < w.heap.size
    · exact hk
    · exact absurd (by omega) (h.top k (by omega))
  have LN : ∀ k i, i < 5 → lab k = i → labn lab w.heap.size w'.heap.size 0 k = i := fun k i hi e => by
    unfold labn; rw [if_neg (by have := old i k hi e; omega)]; exact e
  have fr0 : Fr W w' (fun k => lab0 k < 5) := h.fr.trans (hf.mono (fun k e => by
    by_cases hk : k < W.heap.size
    · exact .inl (by rw [← h.lo k hk]; omega)
    · exact .inr (by omega)))
  have G0 : Gr w' (fun k => labn lab w.heap.size w'.heap.size 0 k = 0) 3 1 u0 n0 (ints y.cell) (.slice b' (n0 + q0 + 1) cap') (n0 + (q0 + 1)) := G.mono (fun k hk => by
    rcases hk with ⟨hk | hk, h2⟩
    · exact LN k 0 (by omega) hk
    · unfold labn; rw [if_pos ⟨hk, by omega⟩])
  have G1 : Gr w' (fun k => labn lab w.heap.size w'.heap.size 0 k = 1) 3 1 u1 n1 (ints y.stack) t1 (n1 + q1) := (h.g1.fr hf (fun k hk _ e => by omega)).mono (fun k hk => LN k 1 (by omega) hk)
  have G2 : Gr w' (fun k => labn lab w.heap.size w'.heap.size 0 k = 2) 3 1 u2 n2 (ints y.queue) t2 (n2 + q2) := (h.g2.fr hf (fun k hk _ e => by omega)).mono (fun k hk => LN k 2 (by omega) hk)
  have G3 : Gr w' (fun k => labn lab w.heap.size w'.heap.size 0 k = 3) 3 1 u3 n3 (ints y.set) t3 (n3 + q3) := (h.g3.fr hf (fun k hk _ e => by omega)).mono (fun k hk => LN k 3 (by omega) hk)
  have G4 : Gr w' (fun k => labn lab w.heap.size w'.heap.size 0 k = 4) 71 2 u4 n4 (prs y.table) t4 (n4 + q4) := (h.g4.fr hf (fun k hk _ e => by omega)).mono (fun k hk => LN k 4 (by omega) hk)
  have fs : Fr w' (w'.setCell ⟨W.heap.size + 1, 0, none⟩ (.slice b' (n0 + q0 + 1) cap')) (fun k => k = W.heap.size + 1) := sf_cell _
  have ne : ∀ k i, i < 5 → labn lab w.heap.size w'.heap.size 0 k = i → k < w'.heap.size → ¬ k = W.heap.size + 1 := fun k i hi e _ e2 => by
    subst e2; unfold labn at e; rw [if_neg (by omega)] at e; omega
  refine ⟨LS, fr0.trans (fs.mono (fun k e => .inr (by omega))), (fs.block _ (Array.getElem?_eq_some_iff.1 (K h.box (by omega))).1 (by omega)).trans (K h.box (by omega)), setBlk LS 0 _, ⟨by unfold labn; rw [if_neg (by omega)]; exact l5.1, by unfold labn; rw [if_neg (by omega)]; exact l5.2⟩, fun k hk => by have := h.fr.size; unfold labn; rw [if_neg (by omega)]; exact h.lo k hk, ?_, G0.fr fs (fun k hk hl => ne k 0 (by omega) hk hl), G1.fr fs (fun k hk hl => ne k 1 (by omega) hk hl), G2.fr fs (fun k hk hl => ne k 2 (by omega) hk hl), G3.fr fs (fun k hk hl => ne k 3 (by omega) hk hl), G4.fr fs (fun k hk hl => ne k 4 (by omega) hk hl)⟩
  intro k hk
  have hk2 : w'.heap.size ≤ k := Nat.le_trans fs.size hk
  unfold labn
  rw [if_neg (by omega)]
  exact h.top k (by omega)
theorem Sg.app1 (h : Sg W w lab0 lab u0 u1 u2 u3 u4 n0 n1 n2 n3 n4 y t0 t1 t2 t3 t4 q0 q1 q2 q3 q4) {b' : Option Addr} {cap' : Nat} {ys : List Value} (ho : Own w' (fun k => lab k = 1 ∨ k = w.heap.size) 3 1 (.slice b' (n1 + q1 + 1) cap') (n1 + q1 + 1) ys) (hf : Fr w w' (fun k => lab k = 1)) (hk : Kept w w' 1 t1 (n1 + q1) b') :
    w'.heap[W.heap.size + 1]? = some (lsO t0 t1 t2 t3) ∧ Sg W (w'.setCell ⟨W.heap.size + 1, 1, none⟩ (.slice b' (n1 + q1 + 1) cap')) lab0 (labn lab w.heap.size w'.heap.size 1) u0 u1 u2 u3 u4 n0 n1 n2 n3 n4 y t0 (.slice b' (n1 + q1 + 1) cap') t2 t3 t4 q0 (q1 + 1) q2 q3 q4 := by
  have lw := (Array.getElem?_eq_some_iff.1 h.ls).1
  have K : ∀ {k : Nat} {o : Obj}, w.heap[k]? = some o → lab k ≠ 1 → w'.heap[k]? = some o := fun g hk => (hf.block _ (Array.getElem?_eq_some_iff.1 g).1 hk).trans g
  have l5 := h.l5
  have LS := K h.ls (by omega)
  have G := (h.g1.app ho hf hk).inb
  have hw := hf.size
  have old : ∀ (i k : Nat), i < 5 → lab k = i → k < w.heap.size := fun i k hi e => by
    by_cases hk : k < w.heap.size
    · exact hk
    · exact absurd (by omega) (h.top k (by omega))
  have LN : ∀ k i, i < 5 → lab k = i → labn lab w.heap.size w'.heap.size 1 k = i := fun k i hi e => by
    unfold labn; rw [if_neg (by have := old i k hi e; omega)]; exact e
  have fr0 : Fr W w' (fun k => lab0 k < 5) := h.fr.trans (hf.mono (fun k e => by
    by_cases hk : k < W.heap.size
    · exact .inl (by rw [← h.lo k hk]; omega)
    · exact .inr (by omega)))
  have G0 : Gr w' (fun k => labn lab w.heap.size w'.heap.size 1 k = 0) 3 1 u0 n0 (ints y.cell) t0 (n0 + q0) := (h.g0.fr hf (fun k hk _ e => by omega)).mono (fun k hk => LN k 0 (by omega) hk)
  have G1 : Gr w' (fun k => labn lab w.heap.size w'.heap.size 1 k = 1) 3 1 u1 n1 (ints y.stack) (.slice b' (n1 + q1 + 1) cap') (n1 + (q1 + 1)) := G.mono (fun k hk => by
    rcases hk with ⟨hk | hk, h2⟩
    · exact LN k 1 (by omega) hk
    · unfold labn; rw [if_pos ⟨hk, by omega⟩])
  have G2 : Gr w' (fun k => labn lab w.heap.size w'.heap.size 1 k = 2) 3 1 u2 n2 (ints y.queue) t2 (n2 + q2) := (h.g2.fr hf (fun k hk _ e => by omega)).mono (fun k hk => LN k 2 (by omega) hk)
  have G3 : Gr w' (fun k => labn lab w.heap.size w'.heap.size 1 k = 3) 3 1 u3 n3 (ints y.set) t3 (n3 + q3) := (h.g3.fr hf (fun k hk _ e => by omega)).mono (fun k hk => LN k 3 (by omega) hk)
  have G4 : Gr w' (fun k => labn lab w.heap.size w'.heap.size 1 k = 4) 71 2 u4 n4 (prs y.table) t4 (n4 + q4) := (h.g4.fr hf (fun k hk _ e => by omega)).mono (fun k hk => LN k 4 (by omega) hk)
  have fs : Fr w' (w'.setCell ⟨W.heap.size + 1, 1, none⟩ (.slice b' (n1 + q1 + 1) cap')) (fun k => k = W.heap.size + 1) := sf_cell _
  have ne : ∀ k i, i < 5 → labn lab w.heap.size w'.heap.size 1 k = i → k < w'.heap.size → ¬ k = W.heap.size + 1 := fun k i hi e _ e2 => by
    subst e2; unfold labn at e; rw [if_neg (by omega)] at e; omega
  refine ⟨LS, fr0.trans (fs.mono (fun k e => .inr (by omega))), (fs.block _ (Array.getElem?_eq_some_iff.1 (K h.box (by omega))).1 (by omega)).trans (K h.box (by omega)), setBlk LS 1 _, ⟨by unfold labn; rw [if_neg (by omega)]; exact l5.1, by unfold labn; rw [if_neg (by omega)]; exact l5.2⟩, fun k hk => by have := h.fr.size; unfold labn; rw [if_neg (by omega)]; exact h.lo k hk, ?_, G0.fr fs (fun k hk hl => ne k 0 (by omega) hk hl), G1.fr fs (fun k hk hl => ne k 1 (by omega) hk hl), G2.fr fs (fun k hk hl => ne k 2 (by omega) hk hl), G3.fr fs (fun k hk hl => ne k 3 (by omega) hk hl), G4.fr fs (fun k hk hl => ne k 4 (by omega) hk hl)⟩
  intro k hk
  have hk2 : w'.heap.size ≤ k := Nat.le_trans fs.size hk
  unfold labn
  rw [if_neg (by omega)]
  exact h.top k (by omega)
theorem Sg.app2 (h : Sg W w lab0 lab u0 u1 u2 u3 u4 n0 n1 n2 n3 n4 y t0 t1 t2 t3 t4 q0 q1 q2 q3 q4) {b' : Option Addr} {cap' : Nat} {ys : List Value} (ho : Own w' (fun k => lab k = 2 ∨ k = w.heap.size) 3 1 (.slice b' (n2 + q2 + 1) cap') (n2 + q2 + 1) ys) (hf : Fr w w' (fun k => lab k = 2)) (hk : Kept w w' 1 t2 (n2 + q2) b') :
    w'.heap[W.heap.size + 1]? = some (lsO t0 t1 t2 t3) ∧ Sg W (w'.setCell ⟨W.heap.size + 1, 2, none⟩ (.slice b' (n2 + q2 + 1) cap')) lab0 (labn lab w.heap.size w'.heap.size 2) u0 u1 u2 u3 u4 n0 n1 n2 n3 n4 y t0 t1 (.slice b' (n2 + q2 + 1) cap') t3 t4 q0 q1 (q2 + 1) q3 q4 := by
  have lw := (Array.getElem?_eq_some_iff.1 h.ls).1
  have K : ∀ {k : Nat} {o : Obj}, w.heap[k]? = some o → lab k ≠ 2 → w'.heap[k]? = some o := fun g hk => (hf.block _ (Array.getElem?_eq_some_iff.1 g).1 hk).trans g
  have l5 := h.l5
  have LS := K h.ls (by omega)
  have G := (h.g2.app ho hf hk).inb
  have hw := hf.size
  have old : ∀ (i k : Nat), i < 5 → lab k = i → k < w.heap.size := fun i k hi e => by
    by_cases hk : k < w.heap.size
    · exact hk
    · exact absurd (by omega) (h.top k (by omega))
  have LN : ∀ k i, i < 5 → lab k = i → labn lab w.heap.size w'.heap.size 2 k = i := fun k i hi e => by
    unfold labn; rw [if_neg (by have := old i k hi e; omega)]; exact e
  have fr0 : Fr W w' (fun k => lab0 k < 5) := h.fr.trans (hf.mono (fun k e => by
    by_cases hk : k < W.heap.size
    · exact .inl (by rw [← h.lo k hk]; omega)
    · exact .inr (by omega)))
  have G0 : Gr w' (fun k => labn lab w.heap.size w'.heap.size 2 k = 0) 3 1 u0 n0 (ints y.cell) t0 (n0 + q0) := (h.g0.fr hf (fun k hk _ e => by omega)).mono (fun k hk => LN k 0 (by omega) hk)
  have G1 : Gr w' (fun k => labn lab w.heap.size w'.heap.size 2 k = 1) 3 1 u1 n1 (ints y.stack) t1 (n1 + q1) := (h.g1.fr hf (fun k hk _ e => by omega)).mono (fun k hk => LN k 1 (by omega) hk)
  have G2 : Gr w' (fun k => labn lab w.heap.size w'.heap.size 2 k = 2) 3 1 u2 n2 (ints y.queue) (.slice b' (n2 + q2 + 1) cap') (n2 + (q2 + 1)) := G.mono (fun k hk => by
    rcases hk with ⟨hk | hk, h2⟩
    · exact LN k 2 (by omega) hk
    · unfold labn; rw [if_pos ⟨hk, by omega⟩])
  have G3 : Gr w' (fun k => labn lab w.heap.size w'.heap.size 2 k = 3) 3 1 u3 n3 (ints y.set) t3 (n3 + q3) := (h.g3.fr hf (fun k hk _ e => by omega)).mono (fun k hk => LN k 3 (by omega) hk)
  have G4 : Gr w' (fun k => labn lab w.heap.size w'.heap.size 2 k = 4) 71 2 u4 n4 (prs y.table) t4 (n4 + q4) := (h.g4.fr hf (fun k hk _ e => by omega)).mono (fun k hk => LN k 4 (by omega) hk)
  have fs : Fr w' (w'.setCell ⟨W.heap.size + 1, 2, none⟩ (.slice b' (n2 + q2 + 1) cap')) (fun k => k = W.heap.size + 1) := sf_cell _
  have ne : ∀ k i, i < 5 → labn lab w.heap.size w'.heap.size 2 k = i → k < w'.heap.size → ¬ k = W.heap.size + 1 := fun k i hi e _ e2 => by
    subst e2; unfold labn at e; rw [if_neg (by omega)] at e; omega
  refine ⟨LS, fr0.trans (fs.mono (fun k e => .inr (by omega))), (fs.block _ (Array.getElem?_eq_some_iff.1 (K h.box (by omega))).1 (by omega)).trans (K h.box (by omega)), setBlk LS 2 _, ⟨by unfold labn; rw [if_neg (by omega)]; exact l5.1, by unfold labn; rw [if_neg (by omega)]; exact l5.2⟩, fun k hk => by have := h.fr.size; unfold labn; rw [if_neg (by omega)]; exact h.lo k hk, ?_, G0.fr fs (fun k hk hl => ne k 0 (by omega) hk hl), G1.fr fs (fun k hk hl => ne k 1 (by omega) hk hl), G2.fr fs (fun k hk hl => ne k 2 (by omega) hk hl), G3.fr fs (fun k hk hl => ne k 3 (by omega) hk hl), G4.fr fs (fun k hk hl => ne k 4 (by omega) hk hl)⟩
  intro k hk
  have hk2 : w'.heap.size ≤ k := Nat.le_trans fs.size hk
  unfold labn
  rw [if_neg (by omega)]
  exact h.top k (by omega)
theorem Sg.app3 (h : Sg W w lab0 lab u0 u1 u2 u3 u4 n0 n1 n2 n3 n4 y t0 t1 t2 t3 t4 q0 q1 q2 q3 q4) {b' : Option Addr} {cap' : Nat} {ys : List Value} (ho : Own w' (fun k => lab k = 3 ∨ k = w.heap.size) 3 1 (.slice b' (n3 + q3 + 1) cap') (n3 + q3 + 1) ys) (hf : Fr w w' (fun k => lab k = 3)) (hk : Kept w w' 1 t3 (n3 + q3) b') :
    w'.heap[W.heap.size + 1]? = some (lsO t0 t1 t2 t3) ∧ Sg W (w'.setCell ⟨W.heap.size + 1, 3, none⟩ (.slice b' (n3 + q3 + 1) cap')) lab0 (labn lab w.heap.size w'.heap.size 3) u0 u1 u2 u3 u4 n0 n1 n2 n3 n4 y t0 t1 t2 (.slice b' (n3 + q3 + 1) cap') t4 q0 q1 q2 (q3 + 1) q4 := by
  have lw := (Array.getElem?_eq_some_iff.1 h.ls).1
  have K : ∀ {k : Nat} {o : Obj}, w.heap[k]? = some o → lab k ≠ 3 → w'.heap[k]? = some o := fun g hk => (hf.block _ (Array.getElem?_eq_some_iff.1 g).1 hk).trans g
  have l5 := h.l5
  have LS := K h.ls (by omega)
  have G := (h.g3.app ho hf hk).inb
  have hw := hf.size
  have old : ∀ (i k : Nat), i < 5 → lab k = i → k < w.heap.size := fun i k hi e => by
    by_cases hk : k < w.heap.size
    · exact hk
    · exact absurd (by omega) (h.top k (by omega))
  have LN : ∀ k i, i < 5 → lab k = i → labn lab w.heap.size w'.heap.size 3 k = i := fun k i hi e => by
    unfold labn; rw [if_neg (by have := old i k hi e; omega)]; exact e
  have fr0 : Fr W w' (fun k => lab0 k < 5) := h.fr.trans (hf.mono (fun k e => by
    by_cases hk : k < W.heap.size
    · exact .inl (by rw [← h.lo k hk]; omega)
    · exact .inr (by omega)))
  have G0 : Gr w' (fun k => labn lab w.heap.size w'.heap.size 3 k = 0) 3 1 u0 n0 (ints y.cell) t0 (n0 + q0) := (h.g0.fr hf (fun k hk _ e => by omega)).mono (fun k hk => LN k 0 (by omega) hk)
  have G1 : Gr w' (fun k => labn lab w.heap.size w'.heap.size 3 k = 1) 3 1 u1 n1 (ints y.stack) t1 (n1 + q1) := (h.g1.fr hf (fun k hk _ e => by omega)).mono (fun k hk => LN k 1 (by omega) hk)
  have G2 : Gr w' (fun k => labn lab w.heap.size w'.heap.size 3 k = 2) 3 1 u2 n2 (ints y.queue) t2 (n2 + q2) := (h.g2.fr hf (fun k hk _ e => by omega)).mono (fun k hk => LN k 2 (by omega) hk)
  have G3 : Gr w' (fun k => labn lab w.heap.size w'.heap.size 3 k = 3) 3 1 u3 n3 (ints y.set) (.slice b' (n3 + q3 + 1) cap') (n3 + (q3 + 1)) := G.mono (fun k hk => by
    rcases hk with ⟨hk | hk, h2⟩
    · exact LN k 3 (by omega) hk
    · unfold labn; rw [if_pos ⟨hk, by omega⟩])
  have G4 : Gr w' (fun k => labn lab w.heap.size w'.heap.size 3 k = 4) 71 2 u4 n4 (prs y.table) t4 (n4 + q4) := (h.g4.fr hf (fun k hk _ e => by omega)).mono (fun k hk => LN k 4 (by omega) hk)
  have fs : Fr w' (w'.setCell ⟨W.heap.size + 1, 3, none⟩ (.slice b' (n3 + q3 + 1) cap')) (fun k => k = W.heap.size + 1) := sf_cell _
  have ne : ∀ k i, i < 5 → labn lab w.heap.size w'.heap.size 3 k = i → k < w'.heap.size → ¬ k = W.heap.size + 1 := fun k i hi e _ e2 => by
    subst e2; unfold labn at e; rw [if_neg (by omega)] at e; omega
  refine ⟨LS, fr0.trans (fs.mono (fun k e => .inr (by omega))), (fs.block _ (Array.getElem?_eq_some_iff.1 (K h.box (by omega))).1 (by omega)).trans (K h.box (by omega)), setBlk LS 3 _, ⟨by unfold labn; rw [if_neg (by omega)]; exact l5.1, by unfold labn; rw [if_neg (by omega)]; exact l5.2⟩, fun k hk => by have := h.fr.size; unfold labn; rw [if_neg (by omega)]; exact h.lo k hk, ?_, G0.fr fs (fun k hk hl => ne k 0 (by omega) hk hl), G1.fr fs (fun k hk hl => ne k 1 (by omega) hk hl), G2.fr fs (fun k hk hl => ne k 2 (by omega) hk hl), G3.fr fs (fun k hk hl => ne k 3 (by omega) hk hl), G4.fr fs (fun k hk hl => ne k 4 (by omega) hk hl)⟩
  intro k hk
  have hk2 : w'.heap.size ≤ k := Nat.le_trans fs.size hk
  unfold labn
  rw [if_neg (by omega)]
  exact h.top k (by omega)
theorem Sg.app4 (h : Sg W w lab0 lab u0 u1 u2 u3 u4 n0 n1 n2 n3 n4 y t0 t1 t2 t3 t4 q0 q1 q2 q3 q4) {b' : Option Addr} {cap' : Nat} {ys : List Value} (ho : Own w' (fun k => lab k = 4 ∨ k = w.heap.size) 71 2 (.slice b' (n4 + q4 + 1) cap') (n4 + q4 + 1) ys) (hf : Fr w w' (fun k => lab k = 4)) (hk : Kept w w' 2 t4 (n4 + q4) b') :
    w'.heap[W.heap.size + 1]? = some (lsO t0 t1 t2 t3) ∧ Sg W w' lab0 (labn lab w.heap.size w'.heap.size 4) u0 u1 u2 u3 u4 n0 n1 n2 n3 n4 y t0 t1 t2 t3 (.slice b' (n4 + q4 + 1) cap') q0 q1 q2 q3 (q4 + 1) := by
  have lw := (Array.getElem?_eq_some_iff.1 h.ls).1
  have K : ∀ {k : Nat} {o : Obj}, w.heap[k]? = some o → lab k ≠ 4 → w'.heap[k]? = some o := fun g hk => (hf.block _ (Array.getElem?_eq_some_iff.1 g).1 hk).trans g
  have l5 := h.l5
  have LS := K h.ls (by omega)
  have G := (h.g4.app ho hf hk).inb
  have hw := hf.size
  have old : ∀ (i k : Nat), i < 5 → lab k = i → k < w.heap.size := fun i k hi e => by
    by_cases hk : k < w.heap.size
    · exact hk
    · exact absurd (by omega) (h.top k (by omega))
  have LN : ∀ k i, i < 5 → lab k = i → labn lab w.heap.size w'.heap.size 4 k = i := fun k i hi e => by
    unfold labn; rw [if_neg (by have := old i k hi e; omega)]; exact e
  have fr0 : Fr W w' (fun k => lab0 k < 5) := h.fr.trans (hf.mono (fun k e => by
    by_cases hk : k < W.heap.size
    · exact .inl (by rw [← h.lo k hk]; omega)
    · exact .inr (by omega)))
  have G0 : Gr w' (fun k => labn lab w.heap.size w'.heap.size 4 k = 0) 3 1 u0 n0 (ints y.cell) t0 (n0 + q0) := (h.g0.fr hf (fun k hk _ e => by omega)).mono (fun k hk => LN k 0 (by omega) hk)
  have G1 : Gr w' (fun k => labn lab w.heap.size w'.heap.size 4 k = 1) 3 1 u1 n1 (ints y.stack) t1 (n1 + q1) := (h.g1.fr hf (fun k hk _ e => by omega)).mono (fun k hk => LN k 1 (by omega) hk)
  have G2 : Gr w' (fun k => labn lab w.heap.size w'.heap.size 4 k = 2) 3 1 u2 n2 (ints y.queue) t2 (n2 + q2) := (h.g2.fr hf (fun k hk _ e => by omega)).mono (fun k hk => LN k 2 (by omega) hk)
  have G3 : Gr w' (fun k => labn lab w.heap.size w'.heap.size 4 k = 3) 3 1 u3 n3 (ints y.set) t3 (n3 + q3) := (h.g3.fr hf (fun k hk _ e => by omega)).mono (fun k hk => LN k 3 (by omega) hk)
  have G4 : Gr w' (fun k => labn lab w.heap.size w'.heap.size 4 k = 4) 71 2 u4 n4 (prs y.table) (.slice b' (n4 + q4 + 1) cap') (n4 + (q4 + 1)) := G.mono (fun k hk => by
    rcases hk with ⟨hk | hk, h2⟩
    · exact LN k 4 (by omega) hk
    · unfold labn; rw [if_pos ⟨hk, by omega⟩])
  refine ⟨LS, fr0, K h.box (by omega), LS, ⟨by unfold labn; rw [if_neg (by omega)]; exact l5.1, by unfold labn; rw [if_neg (by omega)]; exact l5.2⟩, fun k hk => by have := h.fr.size; unfold labn; rw [if_neg (by omega)]; exact h.lo k hk, ?_, G0, G1, G2, G3, G4⟩
  intro k hk
  have hk2 : w'.heap.size ≤ k := hk
  unfold labn
  rw [if_neg (by omega)]
  exact h.top k (by omega)
end
end Go.Proofs.Ytglohochdgeonaa.Md
/-
  ModelOwn: the walk of reclaimlaw11.spoil.
-/
namespace Go.Proofs.Ytglohochdgeonaa.Md
open Go.RowKit Mr Me
set_option linter.unusedVariables false
set_option linter.unusedSimpArgs false
def fx (x : Ct) (m : Int) (c0 c1 c2 c3 c4 : Nat) : Ct := ⟨fil x.cell m c0, fil x.stack (m + 10) c1, fil x.queue (m + 20) c2, fil x.set (m + 30) c3, fil x.table (m + 50, m) c4⟩
theorem fx_zero (x : Ct) (m : Int) : fx x m 0 0 0 0 0 = x := by simp [fx, fil_zero]
theorem fx_all (x : Ct) (m : Int) : fx x m x.cell.length x.stack.length x.queue.length x.set.length x.table.length = spx x m := by simp [fx, spx, fil_all]
theorem Sf.start {W w : World} {B : Nat} {lab : Nat → Nat} {u0 u1 u2 u3 u4 : Value} {x : Ct} (h : CtOwn W B lab u0 u1 u2 u3 u4 x) (hw : w = (W.alloc (ctO u0 u1 u2 u3 u4)).alloc (lsO u0 u1 u2 u3)) :
    Sf W w (fun k => if k < W.heap.size then lab k else 5) u0 u1 u2 u3 u4 x.cell.length x.stack.length x.queue.length x.set.length x.table.length x := by
  subst hw
  have Y := ((Below.refl W.heap.size W).alloc (Nat.le_refl _) (ctO u0 u1 u2 u3 u4)).alloc (by simp) (lsO u0 u1 u2 u3)
  have K : ∀ {e : TypeId} {size n i : Nat} {v : Value} {xs : List Value}, Own W (fun k => lab k = i) e size v n xs → Own ((W.alloc (ctO u0 u1 u2 u3 u4)).alloc (lsO u0 u1 u2 u3)) (fun k => (if k < W.heap.size then lab k else 5) = i) e size v n xs := fun {e size n i v xs} h => by
    refine ((own_inb h).kept (fun k hk _ => Y.block k hk.2) (fun k hk => ?_))
    show (if k < W.heap.size then lab k else 5) = i
    rw [if_pos hk.2]; exact hk.1
  exact ⟨(Fr.refl W _).alloc _ |>.alloc _, old_at (new_at _ _ _ rfl) _, new_at _ _ _ (by simp), fun k hk => by by_cases e : k < W.heap.size; exact e; simp [e] at hk, K h.cell, K h.stack, K h.queue, K h.set, K h.table⟩
theorem sl_same {W w : World} {T T' : Nat → Prop} {size n : Nat} {v : Value} {xs ys : List Value} (h : Sl W T size v n xs) (h' : Sl w T' size v n ys) : Sl w T size v n ys := by
  obtain ⟨h1, a, cap, hv, hc, h2⟩ := h'
  refine ⟨h1, a, cap, hv, hc, ?_⟩
  rcases h2 with h2 | ⟨b, o, ha, hb, hl, hr⟩
  · exact .inl h2
  · by_cases hn : n = 0
    · exact .inl hn
    · obtain ⟨b2, o2, c2, hv2, _, hT, _⟩ := h.there (by omega)
      rw [hv2] at hv
      cases hv
      cases ha
      exact .inr ⟨b, o, rfl, hT, hl, hr⟩
set_option maxRecDepth 100000 in
set_option maxHeartbeats 32000000 in
theorem spoil_any {W : World} {B : Nat} {lab : Nat → Nat} {u0 u1 u2 u3 u4 : Value} {x : Ct} {m : Int} (hu : CtOwn W B lab u0 u1 u2 u3 u4 x) (hx : CtIn 225000000000000 x) (hm0 : 0 ≤ m) (hm1 : m ≤ 1000000) :
    Calls Try.prog 13 #[.agg #[u0, u1, u2, u3, u4], .int .i64 m] W fun e w' => e = .returned (.tuple #[]) ∧ Fr W w' (fun k => lab k < 5) ∧ CtAt w' (fun k => lab k < 5) u0 u1 u2 u3 u4 (spx x m) := by
  obtain ⟨W2, hW2⟩ : ∃ w, w = (W.alloc (ctO u0 u1 u2 u3 u4)).alloc (lsO u0 u1 u2 u3) := ⟨_, rfl⟩
  have SF := Sf.start hu hW2
  have i0 := hx.cell
  have i1 := hx.stack
  have i2 := hx.queue
  have i3 := hx.set
  have i4 := hx.table
  obtain ⟨lb, hlb⟩ : ∃ l : Nat → Nat, l = fun k => if k < W.heap.size then lab k else 5 := ⟨_, rfl⟩
  rw [← hlb] at SF
  obtain ⟨a0, c0, rfl, d0, d0'⟩ := hu.cell.form
  obtain ⟨a1, c1, rfl, d1, d1'⟩ := hu.stack.form
  obtain ⟨a2, c2, rfl, d2, d2'⟩ := hu.queue.form
  obtain ⟨a3, c3, rfl, d3, d3'⟩ := hu.set.form
  obtain ⟨a4, c4, rfl, d4, d4'⟩ := hu.table.form
  rw [← fx_zero x m] at SF
  simp only [fx_zero] at SF
  obtain ⟨n0, hn0⟩ : ∃ n, n = x.cell.length := ⟨_, rfl⟩
  obtain ⟨n1, hn1⟩ : ∃ n, n = x.stack.length := ⟨_, rfl⟩
  obtain ⟨n2, hn2⟩ : ∃ n, n = x.queue.length := ⟨_, rfl⟩
  obtain ⟨n3, hn3⟩ : ∃ n, n = x.set.length := ⟨_, rfl⟩
  obtain ⟨n4, hn4⟩ : ∃ n, n = x.table.length := ⟨_, rfl⟩
  rw [← hn0] at SF i0 d0 hW2 hu ⊢
  rw [← hn1] at SF i1 d1 hW2 hu ⊢
  rw [← hn2] at SF i2 d2 hW2 hu ⊢
  rw [← hn3] at SF i3 d3 hW2 hu ⊢
  rw [← hn4] at SF i4 d4 hW2 hu ⊢
  have SF0 : Sf W W2 lb (.slice a0 n0 c0) (.slice a1 n1 c1) (.slice a2 n2 c2) (.slice a3 n3 c3) (.slice a4 n4 c4) n0 n1 n2 n3 n4 (fx x m 0 0 0 0 0) := by rw [fx_zero]; exact SF
  clear SF
  obtain ⟨e0, e1, e2, e3, e4, el⟩ := ctO_cells SF0.box
  replace hu := Mr.hid hu
  replace hlb := Mr.hid hlb
  replace hW2 := Mr.hid hW2
  replace SF0 := Mr.hid SF0
  replace hn0 := Mr.hid hn0
  replace hn1 := Mr.hid hn1
  replace hn2 := Mr.hid hn2
  replace hn3 := Mr.hid hn3
  replace hn4 := Mr.hid hn4
  go_enter Try.func13, Try.ntmps13
  go_upto_region 2 with (fail)
  rw [show (W.alloc (.cells #[.slice a0 n0 c0, .slice a1 n1 c1, .slice a2 n2 c2, .slice a3 n3 c3, .slice a4 n4 c4] 25 (0, 0))).alloc (.cells #[.slice a0 n0 c0, .slice a1 n1 c1, .slice a2 n2 c2, .slice a3 n3 c3] 22 (0, 0)) = W2 from by rw [hW2.out]; rfl]
  clear hW2 e0 e1 e2 e3 e4 el
  go_wp2
  go_loopg [5] 4 (fun k s5 wr => ∃ j : Nat, s5 = .int .i64 (j : Int) ∧ j + k = 4 ∧ Sf W wr lb (.slice a0 n0 c0) (.slice a1 n1 c1) (.slice a2 n2 c2) (.slice a3 n3 c3) (.slice a4 n4 c4) n0 n1 n2 n3 n4 (fx x m (if 0 < j then n0 else 0) (if 1 < j then n1 else 0) (if 2 < j then n2 else 0) (if 3 < j then n3 else 0) 0))
  case atStart => exact ⟨0, rfl, rfl, by simpa using SF0.out⟩
  case round =>
    clear SF0
    obtain ⟨j, rfl, hj, hS⟩ := hrel
    obtain ⟨gO, hgO⟩ : ∃ g, g = gk := ⟨_, rfl⟩
    obtain rfl | rfl | rfl | rfl | rfl : j = 0 ∨ j = 1 ∨ j = 2 ∨ j = 3 ∨ j = 4 := by omega
    · replace hS : Sf W _ lb (.slice a0 n0 c0) (.slice a1 n1 c1) (.slice a2 n2 c2) (.slice a3 n3 c3) (.slice a4 n4 c4) n0 n1 n2 n3 n4 (fx x m 0 0 0 0 0) := hS
      obtain ⟨l0, l1, l2, l3, ll, -⟩ := lsO_cells hS.ls
      replace hS := Mr.hid hS
      go_wp2
      go_loopg [6] n0 (fun k s6 wy => ∃ i : Nat, s6 = .int .i64 (i : Int) ∧ i + k = n0 ∧ Sf W wy lb (.slice a0 n0 c0) (.slice a1 n1 c1) (.slice a2 n2 c2) (.slice a3 n3 c3) (.slice a4 n4 c4) n0 n1 n2 n3 n4 (fx x m i 0 0 0 0))
      case atStart => exact ⟨0, rfl, by omega, hS.out⟩
      case round =>
        clear hS l0 l1 l2 l3 ll
        obtain ⟨i, rfl, hi, hS⟩ := hrel
        obtain ⟨l0, l1, l2, l3, ll, -⟩ := lsO_cells hS.ls
        by_cases hlt : i < n0
        · obtain ⟨g, o, cc', hv', hcc, hg, hgl, hr, hfz⟩ := own_thaw hS.r0 hlt
          cases hv'
          have hle' : (fil x.cell (m) i).length = n0 := by rw [fil_len _ _ _ (by rw [← hn0.out]; omega), hn0.out]
          obtain ⟨v, hv⟩ : ∃ v, (fil x.cell (m) i)[i]? = some v := ⟨_, List.getElem?_eq_getElem (by omega)⟩
          have G := hr i (.int .i64 v) (by show (ints (fil x.cell (m) i))[i]? = _; simp [ints, hv])
          have G2 := hfz (o + i)
          have P := hS.put0 rfl hlt hg (m)
          have e : ({ fx x m i 0 0 0 0 with cell := (fx x m i 0 0 0 0).cell.set i (m) } : Ct) = fx x m (i + 1) 0 0 0 0 := by
            unfold fx; simp only; rw [fil_set _ _ _ (by rw [← hn0.out]; exact hlt)]
          rw [e] at P
          clear e
          clear hr hfz hle' hv
          have hlI : (i : Int) < (n0 : Int) := by omega
          have hle : (0 : Int) ≤ (i : Int) := by omega
          have wq : IntKind.i64.wrap (m + 0) = m + 0 := i64w _ (by omega) (by omega)
          replace P := Mr.hid P
          replace hS := Mr.hid hS
          go_wp2
          go_roundg (gk - 1)
          case measure => omega
          case rel => exact ⟨i + 1, by simp, by omega, P.out⟩
        · have hge : decide ((i : Int) < (n0 : Int)) = false := decide_eq_false (by omega)
          obtain rfl : i = n0 := by omega
          replace hS := Mr.hid hS
          go_wp2
          go_roundg (gO - 1)
          case measure => omega
          case rel => exact ⟨0 + 1, by simp, by omega, hS.out⟩
    · replace hS : Sf W _ lb (.slice a0 n0 c0) (.slice a1 n1 c1) (.slice a2 n2 c2) (.slice a3 n3 c3) (.slice a4 n4 c4) n0 n1 n2 n3 n4 (fx x m n0 0 0 0 0) := hS
      obtain ⟨l0, l1, l2, l3, ll, -⟩ := lsO_cells hS.ls
      replace hS := Mr.hid hS
      go_wp2
      go_loopg [6] n1 (fun k s6 wy => ∃ i : Nat, s6 = .int .i64 (i : Int) ∧ i + k = n1 ∧ Sf W wy lb (.slice a0 n0 c0) (.slice a1 n1 c1) (.slice a2 n2 c2) (.slice a3 n3 c3) (.slice a4 n4 c4) n0 n1 n2 n3 n4 (fx x m n0 i 0 0 0))
      case atStart => exact ⟨0, rfl, by omega, hS.out⟩
      case round =>
        clear hS l0 l1 l2 l3 ll
        obtain ⟨i, rfl, hi, hS⟩ := hrel
        obtain ⟨l0, l1, l2, l3, ll, -⟩ := lsO_cells hS.ls
        by_cases hlt : i < n1
        · obtain ⟨g, o, cc', hv', hcc, hg, hgl, hr, hfz⟩ := own_thaw hS.r1 hlt
          cases hv'
          have hle' : (fil x.stack (m + 10) i).length = n1 := by rw [fil_len _ _ _ (by rw [← hn1.out]; omega), hn1.out]
          obtain ⟨v, hv⟩ : ∃ v, (fil x.stack (m + 10) i)[i]? = some v := ⟨_, List.getElem?_eq_getElem (by omega)⟩
          have G := hr i (.int .i64 v) (by show (ints (fil x.stack (m + 10) i))[i]? = _; simp [ints, hv])
          have G2 := hfz (o + i)
          have P := hS.put1 rfl hlt hg (m + 10)
          have e : ({ fx x m n0 i 0 0 0 with stack := (fx x m n0 i 0 0 0).stack.set i (m + 10) } : Ct) = fx x m n0 (i + 1) 0 0 0 := by
            unfold fx; simp only; rw [fil_set _ _ _ (by rw [← hn1.out]; exact hlt)]
          rw [e] at P
          clear e
          clear hr hfz hle' hv
          have hlI : (i : Int) < (n1 : Int) := by omega
          have hle : (0 : Int) ≤ (i : Int) := by omega
          have wq : IntKind.i64.wrap (m + 10) = m + 10 := i64w _ (by omega) (by omega)
          replace P := Mr.hid P
          replace hS := Mr.hid hS
          go_wp2
          go_roundg (gk - 1)
          case measure => omega
          case rel => exact ⟨i + 1, by simp, by omega, P.out⟩
        · have hge : decide ((i : Int) < (n1 : Int)) = false := decide_eq_false (by omega)
          obtain rfl : i = n1 := by omega
          replace hS := Mr.hid hS
          go_wp2
          go_roundg (gO - 1)
          case measure => omega
          case rel => exact ⟨1 + 1, by simp, by omega, hS.out⟩
    · replace hS : Sf W _ lb (.slice a0 n0 c0) (.slice a1 n1 c1) (.slice a2 n2 c2) (.slice a3 n3 c3) (.slice a4 n4 c4) n0 n1 n2 n3 n4 (fx x m n0 n1 0 0 0) := hS
      obtain ⟨l0, l1, l2, l3, ll, -⟩ := lsO_cells hS.ls
      replace hS := Mr.hid hS
      go_wp2
      go_loopg [6] n2 (fun k s6 wy => ∃ i : Nat, s6 = .int .i64 (i : Int) ∧ i + k = n2 ∧ Sf W wy lb (.slice a0 n0 c0) (.slice a1 n1 c1) (.slice a2 n2 c2) (.slice a3 n3 c3) (.slice a4 n4 c4) n0 n1 n2 n3 n4 (fx x m n0 n1 i 0 0))
      case atStart => exact ⟨0, rfl, by omega, hS.out⟩
      case round =>
        clear hS l0 l1 l2 l3 ll
        obtain ⟨i, rfl, hi, hS⟩ := hrel
        obtain ⟨l0, l1, l2, l3, ll, -⟩ := lsO_cells hS.ls
        by_cases hlt : i < n2
        · obtain ⟨g, o, cc', hv', hcc, hg, hgl, hr, hfz⟩ := own_thaw hS.r2 hlt
          cases hv'
          have hle' : (fil x.queue (m + 20) i).length = n2 := by rw [fil_len _ _ _ (by rw [← hn2.out]; omega), hn2.out]
          obtain ⟨v, hv⟩ : ∃ v, (fil x.queue (m + 20) i)[i]? = some v := ⟨_, List.getElem?_eq_getElem (by omega)⟩
          have G := hr i (.int .i64 v) (by show (ints (fil x.queue (m + 20) i))[i]? = _; simp [ints, hv])
          have G2 := hfz (o + i)
          have P := hS.put2 rfl hlt hg (m + 20)
          have e : ({ fx x m n0 n1 i 0 0 with queue := (fx x m n0 n1 i 0 0).queue.set i (m + 20) } : Ct) = fx x m n0 n1 (i + 1) 0 0 := by
            unfold fx; simp only; rw [fil_set _ _ _ (by rw [← hn2.out]; exact hlt)]
          rw [e] at P
          clear e
          clear hr hfz hle' hv
          have hlI : (i : Int) < (n2 : Int) := by omega
          have hle : (0 : Int) ≤ (i : Int) := by omega
          have wq : IntKind.i64.wrap (m + 20) = m + 20 := i64w _ (by omega) (by omega)
          replace P := Mr.hid P
          replace hS := Mr.hid hS
          go_wp2
          go_roundg (gk - 1)
          case measure => omega
          case rel => exact ⟨i + 1, by simp, by omega, P.out⟩
        · have hge : decide ((i : Int) < (n2 : Int)) = false := decide_eq_false (by omega)
          obtain rfl : i = n2 := by omega
          replace hS := Mr.hid hS
          go_wp2
          go_roundg (gO - 1)
          case measure => omega
          case rel => exact ⟨2 + 1, by simp, by omega, hS.out⟩
    · replace hS : Sf W _ lb (.slice a0 n0 c0) (.slice a1 n1 c1) (.slice a2 n2 c2) (.slice a3 n3 c3) (.slice a4 n4 c4) n0 n1 n2 n3 n4 (fx x m n0 n1 n2 0 0) := hS
      obtain ⟨l0, l1, l2, l3, ll, -⟩ := lsO_cells hS.ls
      replace hS := Mr.hid hS
      go_wp2
      go_loopg [6] n3 (fun k s6 wy => ∃ i : Nat, s6 = .int .i64 (i : Int) ∧ i + k = n3 ∧ Sf W wy lb (.slice a0 n0 c0) (.slice a1 n1 c1) (.slice a2 n2 c2) (.slice a3 n3 c3) (.slice a4 n4 c4) n0 n1 n2 n3 n4 (fx x m n0 n1 n2 i 0))
      case atStart => exact ⟨0, rfl, by omega, hS.out⟩
      case round =>
        clear hS l0 l1 l2 l3 ll
        obtain ⟨i, rfl, hi, hS⟩ := hrel
        obtain ⟨l0, l1, l2, l3, ll, -⟩ := lsO_cells hS.ls
        by_cases hlt : i < n3
        · obtain ⟨g, o, cc', hv', hcc, hg, hgl, hr, hfz⟩ := own_thaw hS.r3 hlt
          cases hv'
          have hle' : (fil x.set (m + 30) i).length = n3 := by rw [fil_len _ _ _ (by rw [← hn3.out]; omega), hn3.out]
          obtain ⟨v, hv⟩ : ∃ v, (fil x.set (m + 30) i)[i]? = some v := ⟨_, List.getElem?_eq_getElem (by omega)⟩
          have G := hr i (.int .i64 v) (by show (ints (fil x.set (m + 30) i))[i]? = _; simp [ints, hv])
          have G2 := hfz (o + i)
          have P := hS.put3 rfl hlt hg (m + 30)
          have e : ({ fx x m n0 n1 n2 i 0 with set := (fx x m n0 n1 n2 i 0).set.set i (m + 30) } : Ct) = fx x m n0 n1 n2 (i + 1) 0 := by
            unfold fx; simp only; rw [fil_set _ _ _ (by rw [← hn3.out]; exact hlt)]
          rw [e] at P
          clear e
          clear hr hfz hle' hv
          have hlI : (i : Int) < (n3 : Int) := by omega
          have hle : (0 : Int) ≤ (i : Int) := by omega
          have wq : IntKind.i64.wrap (m + 30) = m + 30 := i64w _ (by omega) (by omega)
          replace P := Mr.hid P
          replace hS := Mr.hid hS
          go_wp2
          go_roundg (gk - 1)
          case measure => omega
          case rel => exact ⟨i + 1, by simp, by omega, P.out⟩
        · have hge : decide ((i : Int) < (n3 : Int)) = false := decide_eq_false (by omega)
          obtain rfl : i = n3 := by omega
          replace hS := Mr.hid hS
          go_wp2
          go_roundg (gO - 1)
          case measure => omega
          case rel => exact ⟨3 + 1, by simp, by omega, hS.out⟩
    · replace hS : Sf W _ lb (.slice a0 n0 c0) (.slice a1 n1 c1) (.slice a2 n2 c2) (.slice a3 n3 c3) (.slice a4 n4 c4) n0 n1 n2 n3 n4 (fx x m n0 n1 n2 n3 0) := hS
      obtain ⟨e0, e1, e2, e3, e4, el⟩ := ctO_cells hS.box
      replace hS := Mr.hid hS
      go_wp2
      go_loopg [7] n4 (fun k s7 wy => ∃ i : Nat, s7 = .int .i64 (i : Int) ∧ i + k = n4 ∧ Sf W wy lb (.slice a0 n0 c0) (.slice a1 n1 c1) (.slice a2 n2 c2) (.slice a3 n3 c3) (.slice a4 n4 c4) n0 n1 n2 n3 n4 (fx x m n0 n1 n2 n3 i))
      case atStart => exact ⟨0, rfl, by omega, hS.out⟩
      case round =>
        clear hS e0 e1 e2 e3 e4 el
        obtain ⟨i, rfl, hi, hS⟩ := hrel
        obtain ⟨e0, e1, e2, e3, e4, el⟩ := ctO_cells hS.box
        by_cases hlt : i < n4
        · obtain ⟨g, o, cc', hv', hcc, hg, hgl, hr, hfz⟩ := own_thaw hS.r4 hlt
          cases hv'
          have hle' : (fil x.table (m + 50, m) i).length = n4 := by rw [fil_len _ _ _ (by rw [← hn4.out]; omega), hn4.out]
          obtain ⟨G0, G1⟩ := prs_get (fil x.table (m + 50, m) i) i (by omega)
          replace G0 := hr (i * 2) _ G0
          replace G1 := hr (i * 2 + 1) _ G1
          rw [← Nat.add_assoc] at G1
          generalize ((fil x.table (m + 50, m) i)[i]?.getD (0, 0)).1 = v1 at G0
          generalize ((fil x.table (m + 50, m) i)[i]?.getD (0, 0)).2 = v2 at G1
          have F0 := hfz (o + i * 2)
          have F1 := hfz (o + i * 2 + 1)
          have P := hS.put4 rfl hlt hg (m + 50) m
          have e : ({ fx x m n0 n1 n2 n3 i with table := (fx x m n0 n1 n2 n3 i).table.set i (m + 50, m) } : Ct) = fx x m n0 n1 n2 n3 (i + 1) := by
            unfold fx; simp only; rw [fil_set _ _ _ (by rw [← hn4.out]; exact hlt)]
          rw [e] at P
          clear e hr hfz hle'
          have hlI : (i : Int) < (n4 : Int) := by omega
          have hle : (0 : Int) ≤ (i : Int) := by omega
          have wq : IntKind.i64.wrap (m + 50) = m + 50 := i64w _ (by omega) (by omega)
          replace P := Mr.hid P
          replace hS := Mr.hid hS
          go_wp2
          go_roundg (gk - 1)
          case measure => omega
          case rel => exact ⟨i + 1, by simp, by omega, P.out⟩
        · have hge : decide ((i : Int) < (n4 : Int)) = false := decide_eq_false (by omega)
          have hin : i = n4 := by omega
          rw [hin] at hS
          clear hin
          have eY : fx x m n0 n1 n2 n3 n4 = spx x m := by rw [hn0.out, hn1.out, hn2.out, hn3.out, hn4.out]; exact fx_all x m
          rw [eY] at hS
          have GS := Sg.first hS
          clear eY hS
          replace GS := Mr.hid GS
          go_wp2
          go_loopg [8, 9] 20 (fun k s8 s9 wy => ∃ (j : Nat) (la : Nat → Nat) (t0 t1 t2 t3 t4 : Value), s8 = t4 ∧ s9 = .int .i64 (j : Int) ∧ j + k = 20 ∧ Sg W wy lb la (.slice a0 n0 c0) (.slice a1 n1 c1) (.slice a2 n2 c2) (.slice a3 n3 c3) (.slice a4 n4 c4) n0 n1 n2 n3 n4 (spx x m) t0 t1 t2 t3 t4 j j j j j)
          case atStart => exact ⟨0, lb, _, _, _, _, _, rfl, rfl, rfl, GS.out⟩
          case round =>
            clear GS hge
            obtain ⟨j, la, t0, t1, t2, t3, s8v, hs8, rfl, hj, hG⟩ := hrel
            obtain ⟨ys4, ho4⟩ := hG.g4.own
            obtain ⟨a5, c5, rfl, hc5, hc5'⟩ := ho4.form
            subst hs8
            clear ho4
            obtain ⟨gP, hgP⟩ : ∃ g, g = gk := ⟨_, rfl⟩
            by_cases hlt : j < 20
            · have hlI : decide ((j : Int) < 20) = true := decide_eq_true (by omega)
              obtain ⟨l0, l1, l2, l3, ll, -⟩ := lsO_cells hG.ls
              replace hG := Mr.hid hG
              go_wp2
              go_loopg [10] 4 (fun k s10 wz => ∃ (p : Nat) (la : Nat → Nat) (t0 t1 t2 t3 : Value), s10 = .int .i64 (p : Int) ∧ p + k = 4 ∧ Sg W wz lb la (.slice a0 n0 c0) (.slice a1 n1 c1) (.slice a2 n2 c2) (.slice a3 n3 c3) (.slice a4 n4 c4) n0 n1 n2 n3 n4 (spx x m) t0 t1 t2 t3 (.slice a5 (n4 + j) c5) (if 0 < p then j + 1 else j) (if 1 < p then j + 1 else j) (if 2 < p then j + 1 else j) (if 3 < p then j + 1 else j) j)
              case atStart => exact ⟨0, la, _, _, _, _, rfl, rfl, by simpa using hG.out⟩
              case round =>
                clear hG l0 l1 l2 l3 ll t0 t1 t2 t3
                obtain ⟨p, la, t0, t1, t2, t3, rfl, hp, hG⟩ := hrel
                obtain rfl | rfl | rfl | rfl | rfl : p = 0 ∨ p = 1 ∨ p = 2 ∨ p = 3 ∨ p = 4 := by omega
                · replace hG : Sg W _ lb la (.slice a0 n0 c0) (.slice a1 n1 c1) (.slice a2 n2 c2) (.slice a3 n3 c3) (.slice a4 n4 c4) n0 n1 n2 n3 n4 (spx x m) t0 t1 t2 t3 (.slice a5 (n4 + j) c5) j j j j j := hG
                  obtain ⟨w1, hw1⟩ : ∃ w', w' = wr.alloc (.cells #[.int .i64 (-m)] 3 (0, 0)) := ⟨_, rfl⟩
                  have Y1 : Below wr.heap.size wr w1 := by rw [hw1]; exact (Below.refl _ _).alloc (Nat.le_refl _) _
                  have G1 : w1.heap[wr.heap.size]? = some (.cells #[.int .i64 (-m)] 3 (0, 0)) := by rw [hw1]; exact new_at _ _ _ rfl
                  have hG1 := hG.next Y1
                  obtain ⟨l0, l1, l2, l3, ll, -⟩ := lsO_cells hG.ls
                  obtain ⟨xs, hown⟩ := hG1.g0.own
                  obtain ⟨ap, cp, rfl, hcp, hcp2⟩ := hown.form
                  have hnews : ∀ j u, ([Value.int .i64 (-m)])[j]? = some u → w1.cell? ((⟨wr.heap.size, 0, none⟩ : Addr).add j) = some u := by
                    intro j u hu
                    rw [add1, Nat.zero_add, cell_blk G1]
                    simpa using hu
                  obtain ⟨ii, hinf, hz0, hz1, hz2⟩ := info_parts mp_int
                  have wn : IntKind.i64.wrap (-m) = -m := i64w _ (by omega) (by omega)
                  clear hG Y1 G1
                  replace hnews := Mr.hid hnews
                  replace hown := Mr.hid hown
                  replace hG1 := Mr.hid hG1
                  replace hw1 := Mr.hid hw1
                  go_upto_region 19 with (at_builtin; rw [show wr.alloc (.cells #[.int .i64 (-m)] 3 (0, 0)) = w1 from by rw [hw1.out]]; refine wpList_append_keep _ rfl (.tmp 77) (.tmp 80) 22 rfl (fun k => la k = 0) 3 ii _ 1 8 Try.underlying22 hinf hz0 hz1 hz2 rfl (.slice ap (n0 + j) cp) (n0 + j) xs rfl hown.out ⟨wr.heap.size, 0, none⟩ 1 1 (by omega) [.int .i64 (-m)] rfl rfl hnews.out (by simp [Value.oneCell']) (by unfold maxLen; omega) (by omega) ?_; intro b' cap' w2 ho2 hf2 hk2; obtain ⟨LS, NX⟩ := hG1.out.app0 ho2 hf2 hk2; clear ho2 hf2 hk2 l0 l1 l2 l3 ll; obtain ⟨l0, l1, l2, l3, ll, z0, z1, z2, z3⟩ := lsO_cells LS; clear LS; replace NX := Mr.hid NX)
                  clear hG1 hw1 hnews hown hinf hz0 hz1 hz2
                  go_wp2
                  go_roundg (gk - 1)
                  case measure => omega
                  case rel => exact ⟨0 + 1, _, _, _, _, _, by simp, by omega, NX.out⟩
                · replace hG : Sg W _ lb la (.slice a0 n0 c0) (.slice a1 n1 c1) (.slice a2 n2 c2) (.slice a3 n3 c3) (.slice a4 n4 c4) n0 n1 n2 n3 n4 (spx x m) t0 t1 t2 t3 (.slice a5 (n4 + j) c5) (j + 1) j j j j := hG
                  obtain ⟨w1, hw1⟩ : ∃ w', w' = wr.alloc (.cells #[.int .i64 (-m)] 3 (0, 0)) := ⟨_, rfl⟩
                  have Y1 : Below wr.heap.size wr w1 := by rw [hw1]; exact (Below.refl _ _).alloc (Nat.le_refl _) _
                  have G1 : w1.heap[wr.heap.size]? = some (.cells #[.int .i64 (-m)] 3 (0, 0)) := by rw [hw1]; exact new_at _ _ _ rfl
                  have hG1 := hG.next Y1
                  obtain ⟨l0, l1, l2, l3, ll, -⟩ := lsO_cells hG.ls
                  obtain ⟨xs, hown⟩ := hG1.g1.own
                  obtain ⟨ap, cp, rfl, hcp, hcp2⟩ := hown.form
                  have hnews : ∀ j u, ([Value.int .i64 (-m)])[j]? = some u → w1.cell? ((⟨wr.heap.size, 0, none⟩ : Addr).add j) = some u := by
                    intro j u hu
                    rw [add1, Nat.zero_add, cell_blk G1]
                    simpa using hu
                  obtain ⟨ii, hinf, hz0, hz1, hz2⟩ := info_parts mp_int
                  have wn : IntKind.i64.wrap (-m) = -m := i64w _ (by omega) (by omega)
                  clear hG Y1 G1
                  replace hnews := Mr.hid hnews
                  replace hown := Mr.hid hown
                  replace hG1 := Mr.hid hG1
                  replace hw1 := Mr.hid hw1
                  go_upto_region 19 with (at_builtin; rw [show wr.alloc (.cells #[.int .i64 (-m)] 3 (0, 0)) = w1 from by rw [hw1.out]]; refine wpList_append_keep _ rfl (.tmp 77) (.tmp 80) 22 rfl (fun k => la k = 1) 3 ii _ 1 8 Try.underlying22 hinf hz0 hz1 hz2 rfl (.slice ap (n1 + j) cp) (n1 + j) xs rfl hown.out ⟨wr.heap.size, 0, none⟩ 1 1 (by omega) [.int .i64 (-m)] rfl rfl hnews.out (by simp [Value.oneCell']) (by unfold maxLen; omega) (by omega) ?_; intro b' cap' w2 ho2 hf2 hk2; obtain ⟨LS, NX⟩ := hG1.out.app1 ho2 hf2 hk2; clear ho2 hf2 hk2 l0 l1 l2 l3 ll; obtain ⟨l0, l1, l2, l3, ll, z0, z1, z2, z3⟩ := lsO_cells LS; clear LS; replace NX := Mr.hid NX)
                  clear hG1 hw1 hnews hown hinf hz0 hz1 hz2
                  go_wp2
                  go_roundg (gk - 1)
                  case measure => omega
                  case rel => exact ⟨1 + 1, _, _, _, _, _, by simp, by omega, NX.out⟩
                · replace hG : Sg W _ lb la (.slice a0 n0 c0) (.slice a1 n1 c1) (.slice a2 n2 c2) (.slice a3 n3 c3) (.slice a4 n4 c4) n0 n1 n2 n3 n4 (spx x m) t0 t1 t2 t3 (.slice a5 (n4 + j) c5) (j + 1) (j + 1) j j j := hG
                  obtain ⟨w1, hw1⟩ : ∃ w', w' = wr.alloc (.cells #[.int .i64 (-m)] 3 (0, 0)) := ⟨_, rfl⟩
                  have Y1 : Below wr.heap.size wr w1 := by rw [hw1]; exact (Below.refl _ _).alloc (Nat.le_refl _) _
                  have G1 : w1.heap[wr.heap.size]? = some (.cells #[.int .i64 (-m)] 3 (0, 0)) := by rw [hw1]; exact new_at _ _ _ rfl
                  have hG1 := hG.next Y1
                  obtain ⟨l0, l1, l2, l3, ll, -⟩ := lsO_cells hG.ls
                  obtain ⟨xs, hown⟩ := hG1.g2.own
                  obtain ⟨ap, cp, rfl, hcp, hcp2⟩ := hown.form
                  have hnews : ∀ j u, ([Value.int .i64 (-m)])[j]? = some u → w1.cell? ((⟨wr.heap.size, 0, none⟩ : Addr).add j) = some u := by
                    intro j u hu
                    rw [add1, Nat.zero_add, cell_blk G1]
                    simpa using hu
                  obtain ⟨ii, hinf, hz0, hz1, hz2⟩ := info_parts mp_int
                  have wn : IntKind.i64.wrap (-m) = -m := i64w _ (by omega) (by omega)
                  clear hG Y1 G1
                  replace hnews := Mr.hid hnews
                  replace hown := Mr.hid hown
                  replace hG1 := Mr.hid hG1
                  replace hw1 := Mr.hid hw1
                  go_upto_region 19 with (at_builtin; rw [show wr.alloc (.cells #[.int .i64 (-m)] 3 (0, 0)) = w1 from by rw [hw1.out]]; refine wpList_append_keep _ rfl (.tmp 77) (.tmp 80) 22 rfl (fun k => la k = 2) 3 ii _ 1 8 Try.underlying22 hinf hz0 hz1 hz2 rfl (.slice ap (n2 + j) cp) (n2 + j) xs rfl hown.out ⟨wr.heap.size, 0, none⟩ 1 1 (by omega) [.int .i64 (-m)] rfl rfl hnews.out (by simp [Value.oneCell']) (by unfold maxLen; omega) (by omega) ?_; intro b' cap' w2 ho2 hf2 hk2; obtain ⟨LS, NX⟩ := hG1.out.app2 ho2 hf2 hk2; clear ho2 hf2 hk2 l0 l1 l2 l3 ll; obtain ⟨l0, l1, l2, l3, ll, z0, z1, z2, z3⟩ := lsO_cells LS; clear LS; replace NX := Mr.hid NX)
                  clear hG1 hw1 hnews hown hinf hz0 hz1 hz2
                  go_wp2
                  go_roundg (gk - 1)
                  case measure => omega
                  case rel => exact ⟨2 + 1, _, _, _, _, _, by simp, by omega, NX.out⟩
                · replace hG : Sg W _ lb la (.slice a0 n0 c0) (.slice a1 n1 c1) (.slice a2 n2 c2) (.slice a3 n3 c3) (.slice a4 n4 c4) n0 n1 n2 n3 n4 (spx x m) t0 t1 t2 t3 (.slice a5 (n4 + j) c5) (j + 1) (j + 1) (j + 1) j j := hG
                  obtain ⟨w1, hw1⟩ : ∃ w', w' = wr.alloc (.cells #[.int .i64 (-m)] 3 (0, 0)) := ⟨_, rfl⟩
                  have Y1 : Below wr.heap.size wr w1 := by rw [hw1]; exact (Below.refl _ _).alloc (Nat.le_refl _) _
                  have G1 : w1.heap[wr.heap.size]? = some (.cells #[.int .i64 (-m)] 3 (0, 0)) := by rw [hw1]; exact new_at _ _ _ rfl
                  have hG1 := hG.next Y1
                  obtain ⟨l0, l1, l2, l3, ll, -⟩ := lsO_cells hG.ls
                  obtain ⟨xs, hown⟩ := hG1.g3.own
                  obtain ⟨ap, cp, rfl, hcp, hcp2⟩ := hown.form
                  have hnews : ∀ j u, ([Value.int .i64 (-m)])[j]? = some u → w1.cell? ((⟨wr.heap.size, 0, none⟩ : Addr).add j) = some u := by
                    intro j u hu
                    rw [add1, Nat.zero_add, cell_blk G1]
                    simpa using hu
                  obtain ⟨ii, hinf, hz0, hz1, hz2⟩ := info_parts mp_int
                  have wn : IntKind.i64.wrap (-m) = -m := i64w _ (by omega) (by omega)
                  clear hG Y1 G1
                  replace hnews := Mr.hid hnews
                  replace hown := Mr.hid hown
                  replace hG1 := Mr.hid hG1
                  replace hw1 := Mr.hid hw1
                  go_upto_region 19 with (at_builtin; rw [show wr.alloc (.cells #[.int .i64 (-m)] 3 (0, 0)) = w1 from by rw [hw1.out]]; refine wpList_append_keep _ rfl (.tmp 77) (.tmp 80) 22 rfl (fun k => la k = 3) 3 ii _ 1 8 Try.underlying22 hinf hz0 hz1 hz2 rfl (.slice ap (n3 + j) cp) (n3 + j) xs rfl hown.out ⟨wr.heap.size, 0, none⟩ 1 1 (by omega) [.int .i64 (-m)] rfl rfl hnews.out (by simp [Value.oneCell']) (by unfold maxLen; omega) (by omega) ?_; intro b' cap' w2 ho2 hf2 hk2; obtain ⟨LS, NX⟩ := hG1.out.app3 ho2 hf2 hk2; clear ho2 hf2 hk2 l0 l1 l2 l3 ll; obtain ⟨l0, l1, l2, l3, ll, z0, z1, z2, z3⟩ := lsO_cells LS; clear LS; replace NX := Mr.hid NX)
                  clear hG1 hw1 hnews hown hinf hz0 hz1 hz2
                  go_wp2
                  go_roundg (gk - 1)
                  case measure => omega
                  case rel => exact ⟨3 + 1, _, _, _, _, _, by simp, by omega, NX.out⟩
                · replace hG : Sg W _ lb la (.slice a0 n0 c0) (.slice a1 n1 c1) (.slice a2 n2 c2) (.slice a3 n3 c3) (.slice a4 n4 c4) n0 n1 n2 n3 n4 (spx x m) t0 t1 t2 t3 (.slice a5 (n4 + j) c5) (j + 1) (j + 1) (j + 1) (j + 1) j := hG
                  obtain ⟨w1, hw1⟩ : ∃ w', w' = wr.alloc (.cells #[.int .i64 (-m), .int .i64 0] 71 (0, 0)) := ⟨_, rfl⟩
                  have Y1 : Below wr.heap.size wr w1 := by rw [hw1]; exact (Below.refl _ _).alloc (Nat.le_refl _) _
                  have G1 : w1.heap[wr.heap.size]? = some (.cells #[.int .i64 (-m), .int .i64 0] 71 (0, 0)) := by rw [hw1]; exact new_at _ _ _ rfl
                  have hG1 := hG.next Y1
                  obtain ⟨xs, hown⟩ := hG1.g4.own
                  have hnews : ∀ j u, ([Value.int .i64 (-m), Value.int .i64 0])[j]? = some u → w1.cell? ((⟨wr.heap.size, 0, none⟩ : Addr).add j) = some u := by
                    intro j u hu
                    rw [add1, Nat.zero_add, cell_blk G1]
                    simpa using hu
                  obtain ⟨ii, hinf, hz0, hz1, hz2⟩ := info_parts mp_pair
                  have wn : IntKind.i64.wrap (-m) = -m := i64w _ (by omega) (by omega)
                  clear hG Y1 G1
                  replace hnews := Mr.hid hnews
                  replace hown := Mr.hid hown
                  replace hG1 := Mr.hid hG1
                  replace hw1 := Mr.hid hw1
                  go_upto_region 16 with (at_builtin; rw [show wr.alloc (.cells #[.int .i64 (-m), .int .i64 0] 71 (0, 0)) = w1 from by rw [hw1.out]]; refine wpList_append_keep _ rfl (.tmp 83) (.tmp 87) 23 rfl (fun k => la k = 4) 71 ii _ 2 16 Try.underlying23 hinf hz0 hz1 hz2 rfl (.slice a5 (n4 + j) c5) (n4 + j) xs rfl hown.out ⟨wr.heap.size, 0, none⟩ 1 1 (by omega) [.int .i64 (-m), .int .i64 0] rfl rfl hnews.out (by simp [Value.oneCell']) (by unfold maxLen; omega) (by omega) ?_; intro b' cap' w2 ho2 hf2 hk2; obtain ⟨-, NX⟩ := hG1.out.app4 ho2 hf2 hk2; clear ho2 hf2 hk2; replace NX := Mr.hid NX)
                  clear hG1 hw1 hnews hown hinf hz0 hz1 hz2
                  go_wp2
                  go_roundg (gP - 1)
                  case measure => omega
                  case rel => exact ⟨j + 1, _, _, _, _, _, _, rfl, by simp, by omega, NX.out⟩
            · have hge : decide ((j : Int) < 20) = false := decide_eq_false (by omega)
              replace hG := Mr.hid hG
              go_wp2
              go_end0
              have H := hG.out
              refine ⟨rfl, H.fr.mono (fun k hk => ?_), ?_⟩
              · rw [hlb.out] at hk
                by_cases h : k < W.heap.size
                · simpa [h] using hk
                · simp [h] at hk
              · have C : ∀ {e : TypeId} {size n i : Nat} {v : Value} {xs ys : List Value} {T' : Nat → Prop}, i < 5 → Own W (fun k => lab k = i) e size v n xs → Sl wr T' size v n ys → Sl wr (fun k => lab k < 5) size v n ys := fun hi h h' => (sl_same h.sl h').mono (fun k hk => by omega)
                have U := hu.out
                have E := fun {α : Type} (n : Nat) (a : α) => List.length_replicate (n := n) (a := a)
                refine ⟨?_, ?_, ?_, ?_, ?_⟩
                · have := C (i := 0) (by omega) U.cell (by simpa [hn0.out] using H.g0.old); simpa [spx, hn0.out] using this
                · have := C (i := 1) (by omega) U.stack (by simpa [hn1.out] using H.g1.old); simpa [spx, hn1.out] using this
                · have := C (i := 2) (by omega) U.queue (by simpa [hn2.out] using H.g2.old); simpa [spx, hn2.out] using this
                · have := C (i := 3) (by omega) U.set (by simpa [hn3.out] using H.g3.old); simpa [spx, hn3.out] using this
                · have := C (i := 4) (by omega) U.table (by simpa [hn4.out] using H.g4.old); simpa [spx, hn4.out] using this
end Go.Proofs.Ytglohochdgeonaa.Md
