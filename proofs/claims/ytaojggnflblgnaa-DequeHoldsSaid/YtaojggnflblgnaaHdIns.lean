/-
  DEQUE: the document's order of points: a number put into its place; rows of numbers of one's own.
-/
import Derived.Test.YtaojggnflblgnaaHdOnce
import Derived.Deep.LoopGhost
import Derived.BigQuiet
namespace Go.Proofs.Ytaojggnflblgnaa.Hd
open Go.RowKit Mr Md
set_option linter.unusedVariables false
set_option linter.unusedSimpArgs false
set_option maxRecDepth 100000
def insAt (l : List Int) (k : Nat) (x : Int) : List Int := l.take k ++ x :: l.drop k
theorem insAt_len (l : List Int) (k : Nat) (x : Int) : (insAt l k x).length = l.length + 1 := by simp [insAt]; omega
theorem insAt_end (l : List Int) (x : Int) : insAt l l.length x = l ++ [x] := by simp [insAt]
theorem insAt_perm (l : List Int) (k : Nat) (x : Int) : (insAt l k x).Perm (l ++ [x]) := by
  unfold insAt
  have h1 : (l.take k ++ x :: l.drop k).Perm (x :: (l.take k ++ l.drop k)) := List.perm_middle
  rw [List.take_append_drop] at h1
  exact h1.trans (List.perm_append_singleton x l).symm
theorem insAt_at {l : List Int} {k : Nat} (h : k ≤ l.length) (x : Int) : (insAt l k x)[k]? = some x := by
  unfold insAt
  rw [List.getElem?_append_right (by simp; omega)]
  simp [Nat.min_eq_left h]
theorem insAt_pred {l : List Int} {k : Nat} (h : k < l.length) (x : Int) : (insAt l (k + 1) x)[k]? = l[k]? := by
  unfold insAt
  rw [List.getElem?_append_left (by simp; omega), List.getElem?_take, if_pos (by omega)]
theorem insAt_swap {l : List Int} {k : Nat} {y : Int} (hy : l[k]? = some y) (x : Int) : ((insAt l (k + 1) x).set k x).set (k + 1) y = insAt l k x := by
  obtain ⟨h, rfl⟩ := List.getElem?_eq_some_iff.1 hy
  unfold insAt
  apply List.ext_getElem?
  intro j
  rw [List.getElem?_set, List.getElem?_set]
  rcases Nat.lt_trichotomy j k with e | e | e
  · rw [if_neg (by omega), if_neg (by omega), List.getElem?_append_left (by simp; omega), List.getElem?_append_left (by simp; omega), List.getElem?_take, List.getElem?_take, if_pos (by omega), if_pos e]
  · subst e
    rw [if_neg (by omega), if_pos rfl, if_pos (by simp; omega), List.getElem?_append_right (by simp; omega)]
    simp [Nat.min_eq_left (Nat.le_of_lt h)]
  · by_cases e2 : j = k + 1
    · subst e2
      rw [if_pos rfl, if_pos (by simp; omega), List.getElem?_append_right (by simp; omega)]
      simp [Nat.min_eq_left (Nat.le_of_lt h), List.getElem?_drop]
    · rw [if_neg (by omega), if_neg (by omega), List.getElem?_append_right (by simp; omega), List.getElem?_append_right (by simp; omega)]
      have e3 : (l.take (k + 1)).length = k + 1 := by simp; omega
      have e4 : (l.take k).length = k := by simp; omega
      rw [e3, e4, show j - (k + 1) = (j - (k + 2)) + 1 from by omega, show j - k = (j - (k + 1)) + 1 from by omega, List.getElem?_cons_succ, List.getElem?_cons_succ, List.getElem?_drop, List.getElem?_drop]
      congr 1; omega
theorem insAt_up {f : Int → Int} {l : List Int} {k : Nat} {x : Int} (hl : l.Pairwise (fun a b => f a ≤ f b)) (h1 : ∀ y ∈ l.drop k, f x < f y) (h2 : ∀ q y, k = q + 1 → l[q]? = some y → f y ≤ f x) (hk : k ≤ l.length) : (insAt l k x).Pairwise (fun a b => f a ≤ f b) := by
  have hl' := hl
  rw [← List.take_append_drop k l, List.pairwise_append] at hl
  obtain ⟨a1, a2, a3⟩ := hl
  unfold insAt
  rw [List.pairwise_append, List.pairwise_cons]
  refine ⟨a1, ⟨fun y hy => Int.le_of_lt (h1 y hy), a2⟩, fun a ha b hb => ?_⟩
  have hax : f a ≤ f x := by
    cases k with
    | zero => simp at ha
    | succ q =>
      have hq : l[q]? = some (l[q]'(by omega)) := List.getElem?_eq_getElem _
      refine Int.le_trans ?_ (h2 q _ rfl hq)
      obtain ⟨i, hi⟩ := List.getElem?_of_mem ha
      rw [List.getElem?_take] at hi
      split at hi
      · obtain ⟨hil, rfl⟩ := List.getElem?_eq_some_iff.1 hi
        by_cases e : i = q
        · subst e; exact Int.le_refl _
        · exact (List.pairwise_iff_getElem.1 hl') i q hil (by omega) (by omega)
      · cases hi
  rcases List.mem_cons.1 hb with rfl | hb
  · exact hax
  · exact Int.le_trans hax (Int.le_of_lt (h1 b hb))
theorem drop_at {l : List Int} {k : Nat} {y : Int} (hy : l[k]? = some y) {z : Int} (hz : z ∈ l.drop k) : z = y ∨ z ∈ l.drop (k + 1) := by
  obtain ⟨h, rfl⟩ := List.getElem?_eq_some_iff.1 hy
  rw [List.drop_eq_getElem_cons h] at hz
  rcases List.mem_cons.1 hz with h | h
  · exact .inl h
  · exact .inr h
def pix : List Cq → Nat → List Int
  | [], _ => []
  | c :: cs, i => (if c.pt ≠ -1 then [(i : Int)] else []) ++ pix cs (i + 1)
theorem pix_app (cs ds : List Cq) : ∀ i, pix (cs ++ ds) i = pix cs i ++ pix ds (i + cs.length) := by
  induction cs with
  | nil => simp [pix]
  | cons c cs ih => intro i; simp only [List.cons_append, pix, ih, List.append_assoc, List.length_cons]; congr 3; omega
theorem pix_take (cs : List Cq) (i : Nat) (c : Cq) (h : cs[i]? = some c) : pix (cs.take (i + 1)) 0 = pix (cs.take i) 0 ++ (if c.pt ≠ -1 then [(i : Int)] else []) := by
  have hl := (List.getElem?_eq_some_iff.1 h).1
  rw [List.take_add_one, h, pix_app]; simp [pix, List.length_take]
  rw [Nat.min_eq_left (by omega)]
theorem pix_len (cs : List Cq) : ∀ i, (pix cs i).length ≤ cs.length := by
  induction cs with
  | nil => simp [pix]
  | cons c cs ih => intro i; have := ih (i + 1); simp only [pix, List.length_append, List.length_cons]; split <;> simp only [List.length_nil, List.length_cons] <;> omega
theorem mem_pix (cs : List Cq) : ∀ (n : Nat) (x : Int), x ∈ pix cs n → ∃ (i : Nat) (c : Cq), cs[i]? = some c ∧ x = ((n + i : Nat) : Int) ∧ c.pt ≠ -1 := by
  induction cs with
  | nil => simp [pix]
  | cons d cs ih =>
    intro n x hx
    rw [pix, List.mem_append] at hx
    rcases hx with hx | hx
    · by_cases h : d.pt ≠ -1
      · rw [if_pos h] at hx
        simp at hx
        exact ⟨0, d, rfl, by simpa using hx, h⟩
      · rw [if_neg h] at hx; simp at hx
    · obtain ⟨i, c, h1, h2, h3⟩ := ih (n + 1) x hx
      exact ⟨i + 1, c, by simpa using h1, by rw [h2]; congr 1; omega, h3⟩
/-- The order as one number. -/
def Cq.key (c : Cq) : Int := 2 * c.pt + rk c.op
theorem key_lt (a b : Cq) : Cq.lt a b ↔ a.key < b.key := by
  unfold Cq.lt Cq.key
  rcases rk_in a.op with h1 | h1 <;> rcases rk_in b.op with h2 | h2 <;> rw [h1, h2] <;> omega
def ptAt (cs : List Cq) (x : Int) : Int := (cs[x.toNat]?.map Cq.key).getD 0
theorem ptAt_get {cs : List Cq} {i : Nat} {c : Cq} (h : cs[i]? = some c) : ptAt cs (i : Int) = c.key := by simp [ptAt, h]
/-- What stands in a row of points: a call that counts and has one. -/
theorem pix_call {cs : List Cq} {i : Nat} {l : List Int} (hp : l.Perm (pix (cs.take i) 0)) {y : Int} (hy : y ∈ l) : ∃ (j : Nat) (d : Cq), y = (j : Int) ∧ cs[j]? = some d ∧ j < i := by
  obtain ⟨j, d, hd, h1, _⟩ := mem_pix _ 0 y (hp.mem_iff.1 hy)
  rw [List.getElem?_take] at hd
  split at hd
  · exact ⟨j, d, by simpa using h1, hd, by assumption⟩
  · cases hd
section
variable {w : World} {S : Nat → Prop} {e : TypeId} {size n : Nat}
theorem Own.put {xs : List Value} {g o cap : Nat} (h : Own w S e size (.slice (some ⟨g, o, none⟩) n cap) n xs) (hn : 0 < n) {j : Nat} (hj : j < n * size) (u : Value) : Own (w.setCell ⟨g, o + j, none⟩ u) S e size (.slice (some ⟨g, o, none⟩) n cap) n (xs.set j u) := by
  obtain ⟨h1, a, c, hv, hc, hm, h2⟩ := h
  cases hv
  refine ⟨by rw [List.length_set]; exact h1, _, _, rfl, hc, hm, .inr ?_⟩
  rcases h2 with h2 | ⟨g', o', cur, ha, hS, hg, hs, hx⟩
  · omega
  · cases ha
    refine ⟨g, o, _, rfl, hS, setBlk hg (o + j) u, by simpa using hs, ?_⟩
    apply List.ext_getElem?
    intro k
    rw [List.getElem?_take, List.getElem?_set, ← hx]
    simp only [Array.toList_setIfInBounds, List.getElem?_drop, List.getElem?_set, List.getElem?_take, List.length_take, List.length_drop, Array.length_toList]
    have : n * size ≤ cap * size := Nat.mul_le_mul_right _ hc
    by_cases hk : k < n * size
    · rw [if_pos hk]
      by_cases hjk : j = k
      · subst hjk
        rw [if_pos rfl, if_pos rfl, if_pos (by omega), if_pos (by omega)]
      · rw [if_neg (by omega), if_neg hjk, if_pos hk]
    · rw [if_neg hk, if_neg (by omega), if_neg hk]
end
/-- A row of numbers of one's own. -/
structure Nw (W w : World) (u : Value) (l : List Int) : Prop where
  bel : Below W.heap.size W w
  own : Own w (fun k => W.heap.size ≤ k) 3 1 u l.length (ints l)
theorem Nw.below {W w w' : World} {u : Value} {l : List Int} (h : Nw W w u l) (hB : Below w.heap.size w w') : Nw W w' u l := ⟨h.bel.trans (hB.mono h.bel.size), h.own.below hB⟩
theorem Nw.app {W w w1 w2 : World} {u u' : Value} {l : List Int} {x : Int} {o : Obj} (h : Nw W w u l) (h1 : w1 = w.alloc o) (ho : Own w2 (fun k => W.heap.size ≤ k ∨ k = w1.heap.size) 3 1 u' (l.length + 1) (ints l ++ [.int .i64 x])) (hf : Fr w1 w2 (fun k => W.heap.size ≤ k)) : Nw W w2 u' (l ++ [x]) := by
  have B1 : Below W.heap.size W w1 := by subst h1; exact h.bel.alloc h.bel.size _
  have e : ints l ++ [Value.int .i64 x] = ints (l ++ [x]) := by simp [ints]
  rw [e] at ho
  refine ⟨⟨hf.os.trans B1.os, hf.tape.trans B1.tape, hf.output.trans B1.output, Nat.le_trans B1.size hf.size, fun k hk => (hf.block k (Nat.lt_of_lt_of_le hk B1.size) (by omega)).trans (B1.block k hk)⟩, ?_⟩
  rw [List.length_append]
  exact ho.mono (fun k hk => by have := B1.size; omega)
/-- Two of its places written. -/
theorem Nw.put2 {W w : World} {g o n cap : Nat} {l : List Int} (h : Nw W w (.slice (some ⟨g, o, none⟩) n cap) l) (hn : l.length = n) {j k : Nat} (hj : j < n) (hk : k < n) (x y : Int) : Nw W ((w.setCell ⟨g, o + j, none⟩ (.int .i64 x)).setCell ⟨g, o + k, none⟩ (.int .i64 y)) (.slice (some ⟨g, o, none⟩) n cap) ((l.set j x).set k y) := by
  obtain ⟨g', o', cap', cur, e, _, _, hS, _⟩ := h.own.there (by omega)
  have e1 := h.own
  rw [hn] at e e1
  cases e
  have e2 := Own.put (Own.put e1 (by omega) (j := j) (by omega) (.int .i64 x)) (by omega) (j := k) (by omega) (.int .i64 y)
  refine ⟨(h.bel.setCell (p := ⟨g, _, none⟩) hS _).setCell (p := ⟨g, _, none⟩) hS _, ?_⟩
  have e3 : ((ints l).set j (.int .i64 x)).set k (.int .i64 y) = ints ((l.set j x).set k y) := by simp [ints, List.map_set]
  rw [e3] at e2
  simpa [hn] using e2
theorem Nw.cell {W w : World} {g o n cap : Nat} {l : List Int} (h : Nw W w (.slice (some ⟨g, o, none⟩) n cap) l) {k : Nat} {x : Int} (hx : l[k]? = some x) : w.cell? ⟨g, o + k, none⟩ = some (.int .i64 x) ∧ w.frozen? ⟨g, o + k, none⟩ = false ∧ g < w.heap.size := by
  have hk := (List.getElem?_eq_some_iff.1 hx).1
  obtain ⟨g', o', cap', cur, e, _, _, hS, hg, hs, hxx⟩ := h.own.there (by omega)
  cases e
  exact ⟨own_cells hg hxx k _ (by rw [ints, List.getElem?_map, hx]; rfl), by simp [World.frozen?, hg], (Array.getElem?_eq_some_iff.1 hg).1⟩
theorem Nw.len {W w : World} {a : Option Addr} {n cap : Nat} {l : List Int} (h : Nw W w (.slice a n cap) l) : l.length = n := by
  obtain ⟨_, _, e, _⟩ := h.own.form; cases e; rfl
end Go.Proofs.Ytaojggnflblgnaa.Hd
