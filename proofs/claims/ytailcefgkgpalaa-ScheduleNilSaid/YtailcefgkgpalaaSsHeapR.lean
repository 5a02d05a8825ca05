/-
  SCHEDULE: heaps in the world.
-/
import Derived.Test.YtailcefgkgpalaaSsHeapP
import Derived.Test.YtailcefgkgpalaaMdOpenC
import Derived.Test.YtailcefgkgpalaaMpMay
namespace Go.Proofs.Ytailcefgkgpalaa.Ss
open Go.RowKit Mr Md Sh
set_option linter.unusedVariables false
set_option linter.unusedSimpArgs false
def Tr.row (x : Tr) : List Value := [.string x.c, .int .i64 x.v, .int .u64 x.n]
def trs (l : List Tr) : List Value := l.flatMap Tr.row
theorem trs_len (l : List Tr) : (trs l).length = l.length * 3 := flat_len Tr.row 3 (fun _ => rfl) l
theorem trs_get {l : List Tr} {i : Nat} (h : i < l.length) : (trs l)[i * 3]? = some (.string (tr l i).c) ∧ (trs l)[i * 3 + 1]? = some (.int .i64 (tr l i).v) ∧ (trs l)[i * 3 + 2]? = some (.int .u64 (tr l i).n) := by
  have h1 := flat_get Tr.row 3 (fun _ => rfl) l i (tr l i) (tr_some h)
  exact ⟨h1 0 (by omega), h1 1 (by omega), h1 2 (by omega)⟩
theorem trs_app (l : List Tr) (x : Tr) : trs (l ++ [x]) = trs l ++ x.row := by simp [trs]
theorem trs_set : ∀ (l : List Tr) (i : Nat) (x : Tr), i < l.length → (((trs l).set (i * 3) (.string x.c)).set (i * 3 + 1) (.int .i64 x.v)).set (i * 3 + 2) (.int .u64 x.n) = trs (l.set i x) := by
  intro l
  induction l with
  | nil => intro i x h; simp at h
  | cons d l ih =>
    intro i x h
    cases i with
    | zero => simp [trs, Tr.row]
    | succ i =>
      have h2 := ih i x (by simpa using h)
      have e : ∀ y : List Tr, trs (d :: y) = d.row ++ trs y := fun y => by simp [trs]
      rw [e, List.set_cons_succ, e, ← h2]
      have st : ∀ (xs : List Value) (t : Nat) (u : Value), (d.row ++ xs).set (d.row.length + t) u = d.row ++ xs.set t u := fun xs t u => by rw [List.set_append_right _ _ (by omega)]; congr 2; omega
      have e0 : (i + 1) * 3 = d.row.length + i * 3 := by simp [Tr.row]; omega
      rw [e0, st, Nat.add_assoc, st, Nat.add_assoc, st]
theorem trs_take (l : List Tr) (n : Nat) : trs (l.take n) = (trs l).take (n * 3) := by
  induction l generalizing n with
  | nil => simp [trs]
  | cons d l ih =>
    cases n with
    | zero => simp [trs]
    | succ n =>
      have e : ∀ y : List Tr, trs (d :: y) = d.row ++ trs y := fun y => by simp [trs]
      rw [List.take_succ_cons, e, e, ih, show (n + 1) * 3 = d.row.length + n * 3 from by simp [Tr.row]; omega, List.take_length_add_append]
theorem has_put {w : World} {S : Nat → Prop} {e : TypeId} {size g n cap : Nat} {xs : List Value} (h : Has w S e size (.slice (some ⟨g, 0, none⟩) n cap) n xs) (i : Nat) (u : Value) :
    Has (w.setCell ⟨g, i, none⟩ u) S e size (.slice (some ⟨g, 0, none⟩) n cap) n (xs.set i u) := by
  rcases h.2 with ⟨hv, _⟩ | ⟨g', cap', cur, hv, hS, hg, h1, h2, h3, h4⟩
  · cases hv
  · cases hv
    refine ⟨by rw [List.length_set]; exact h.1, .inr ⟨g, cap, cur.setIfInBounds i u, rfl, hS, setBlk hg i u, h1, h2, by simpa using h3, ?_⟩⟩
    rw [Array.toList_setIfInBounds, ← h4]
    rw [List.take_set]
/-- A slice cut to its first elements. -/
theorem has_cut {w : World} {S : Nat → Prop} {e : TypeId} {size g n cap : Nat} {xs : List Value} (h : Has w S e size (.slice (some ⟨g, 0, none⟩) n cap) n xs) {m : Nat} (hm : m ≤ n) : Has w S e size (.slice (some ⟨g, 0, none⟩) m cap) m (xs.take (m * size)) := by
  rcases h.2 with ⟨hv, _⟩ | ⟨g', cap', cur, hv, hS, hg, h1, h2, h3, h4⟩
  · cases hv
  · cases hv
    refine ⟨by rw [List.length_take, h.1]; exact Nat.min_eq_left (Nat.mul_le_mul_right _ hm), .inr ⟨g, cap, cur, rfl, hS, hg, by omega, h2, h3, ?_⟩⟩
    rw [← h4, List.take_take, Nat.min_eq_left (Nat.mul_le_mul_right _ hm)]
def put3 (w : World) (g i : Nat) (x : Tr) : World := ((w.setCell ⟨g, i * 3, none⟩ (.string x.c)).setCell ⟨g, i * 3 + 1, none⟩ (.int .i64 x.v)).setCell ⟨g, i * 3 + 2, none⟩ (.int .u64 x.n)
theorem has_put3 {w : World} {S : Nat → Prop} {e : TypeId} {g cap : Nat} {l : List Tr} {n : Nat} (hn : n = l.length) (h : Has w S e 3 (.slice (some ⟨g, 0, none⟩) n cap) n (trs l)) (i : Nat) (hi : i < n) (x : Tr) :
    Has (put3 w g i x) S e 3 (.slice (some ⟨g, 0, none⟩) n cap) n (trs (l.set i x)) := by
  have := has_put (has_put (has_put h (i * 3) (.string x.c)) (i * 3 + 1) (.int .i64 x.v)) (i * 3 + 2) (.int .u64 x.n)
  rw [trs_set l i x (by omega)] at this
  exact this
theorem fr_put3 {a w : World} {S : Nat → Prop} (h : Fr a w S) (g i : Nat) (x : Tr) (hg : S g) : Fr a (put3 w g i x) S :=
  ((h.setCell ⟨g, i * 3, none⟩ _ (.inl hg)).setCell ⟨g, i * 3 + 1, none⟩ _ (.inl hg)).setCell ⟨g, i * 3 + 2, none⟩ _ (.inl hg)
/-- A heap of the program's: its box, its row. -/
structure Hh (w : World) (b : Nat) (S : Nat → Prop) (v : Value) (l : List Tr) (p : Int) : Prop where
  box : w.heap[b]? = some (.cells #[v, .int .u64 p] 30 (0, 0))
  row : Has w S 50 3 v l.length (trs l)
  nb : ¬ S b
section
variable {w w' : World} {b : Nat} {S T : Nat → Prop} {v : Value} {l : List Tr} {p : Int}
theorem Hh.lt (h : Hh w b S v l p) : b < w.heap.size := (Array.getElem?_eq_some_iff.1 h.box).1
theorem Hh.c0 (h : Hh w b S v l p) : w.cell? ⟨b, 0, none⟩ = some v := by rw [cell_blk h.box]; rfl
theorem Hh.c1 (h : Hh w b S v l p) : w.cell? ⟨b, 1, none⟩ = some (.int .u64 p) := by rw [cell_blk h.box]; rfl
theorem Hh.fz (h : Hh w b S v l p) (k : Nat) : w.frozen? ⟨b, k, none⟩ = false := by simp [World.frozen?, h.box]
theorem Hh.fr (h : Hh w b S v l p) (hf : Fr w w' T) (hb : ¬ T b) (hd : ∀ k, S k → k < w.heap.size → ¬ T k) : Hh w' b S v l p :=
  ⟨(hf.block b h.lt hb).trans h.box, h.row.fr hf hd, h.nb⟩
theorem Hh.below (h : Hh w b S v l p) (hB : Below w.heap.size w w') : Hh w' b S v l p := h.fr (T := fun _ => False) (Fr.of_below hB) (fun e => e) (fun _ _ _ e => e)
theorem Hh.there (h : Hh w b S v l p) (hl : 0 < l.length) : ∃ g cap, v = .slice (some ⟨g, 0, none⟩) l.length cap ∧ S g ∧ g < w.heap.size ∧ l.length ≤ cap ∧ cap ≤ maxLen := h.row.there hl
theorem Hh.cell {g n cap : Nat} (h : Hh w b S (.slice (some ⟨g, 0, none⟩) n cap) l p) {i : Nat} (hi : i < l.length) : w.cell? ⟨g, i * 3, none⟩ = some (.string (tr l i).c) ∧ w.cell? ⟨g, i * 3 + 1, none⟩ = some (.int .i64 (tr l i).v) ∧ w.cell? ⟨g, i * 3 + 2, none⟩ = some (.int .u64 (tr l i).n) ∧ ∀ k, w.frozen? ⟨g, k, none⟩ = false := by
  have h1 := trs_get hi
  have hc := fun j u => h.row.cells (g := g) rfl j u
  exact ⟨hc _ _ h1.1, hc _ _ h1.2.1, hc _ _ h1.2.2, fun k => h.row.frozen (g := g) rfl k⟩
theorem Hh.put {g n cap : Nat} (h : Hh w b S (.slice (some ⟨g, 0, none⟩) n cap) l p) {i : Nat} (hi : i < l.length) (x : Tr) (hg : S g) : Hh (put3 w g i x) b S (.slice (some ⟨g, 0, none⟩) n cap) (l.set i x) p := by
  have hn : n = l.length := by obtain ⟨_, _, e, _⟩ := h.row.form; cases e; rfl
  have hne : b ≠ g := fun e => h.nb (e ▸ hg)
  have hr := h.row
  rw [← hn] at hr
  refine ⟨?_, ?_, h.nb⟩
  · have hf := fr_put3 (Fr.refl w S) g i x hg
    exact (hf.block b h.lt h.nb).trans h.box
  · rw [List.length_set, ← hn]
    exact has_put3 hn hr i (by omega) x
end
end Go.Proofs.Ytailcefgkgpalaa.Ss
