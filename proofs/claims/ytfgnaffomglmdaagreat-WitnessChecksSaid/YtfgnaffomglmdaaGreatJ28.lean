import Derived.Test.YtfgnaffomglmdaaGreatJ20
import Derived.Test.YtfgnaffomglmdaaGreatJ09
import Derived.Test.YtfgnaffomglmdaaGreatJ21
import Derived.Test.YtfgnaffomglmdaaGreatJ22
import Derived.Test.YtfgnaffomglmdaaGreatJ27
/-
  Package model: no contents; labels of one object.
-/
namespace Go.Proofs.YtfgnaffomglmdaaGreat.Md
open Go.RowKit Mr
set_option linter.unusedVariables false
def labx (lab : Nat → Nat) (s i k : Nat) : Nat := if lab k = i ∨ s ≤ k then i else 5
theorem labx_in {lab : Nat → Nat} {s i k : Nat} (h : lab k = i ∨ s ≤ k) : labx lab s i k = i := if_pos h
theorem labx_lt {lab : Nat → Nat} {s i k : Nat} (h : labx lab s i k < 5) : lab k = i ∨ s ≤ k := by
  by_cases c : lab k = i ∨ s ≤ k
  · exact c
  · unfold labx at h; rw [if_neg c] at h; omega
theorem ct0_own (w : World) (B : Nat) : CtOwn w B (fun _ => 5) (.slice none 0 0) (.slice none 0 0) (.slice none 0 0) (.slice none 0 0) (.slice none 0 0) ct0 := ⟨fun k h => absurd h (by decide), Own.zero _ _ _ _ _, Own.zero _ _ _ _ _, Own.zero _ _ _ _ _, Own.zero _ _ _ _ _, Own.zero _ _ _ _ _⟩
theorem Tq.res {W w w' : World} {n : Nat} {o r : Obj} {T : Nat → Prop} (h : Tq W w n (n + 1) o r) (hF : Fr w w' T) (hT : ¬ T (n + 1)) : w'.heap[n + 1]? = some r := (hF.block _ h.2.2.2.1 hT).trans h.2.2.1
end Go.Proofs.YtfgnaffomglmdaaGreat.Md
/-
  Package model: the boxes within Do; a row of one call.
-/
namespace Go.Proofs.YtfgnaffomglmdaaGreat.Md
open Go.RowKit Mr
set_option linter.unusedVariables false
set_option linter.unusedSimpArgs false
/-- Boxes at n (what was handed in), n + 1 (the contents), n + 2 (the answer), n + 3 (the call). -/
structure Dx (W w : World) (oU oC : Obj) : Prop where
  bel : Below W.heap.size W w
  u : w.heap[W.heap.size]? = some oU
  r : w.heap[W.heap.size + 1]? = some (.cells #[.slice none 0 0, .slice none 0 0, .slice none 0 0, .slice none 0 0, .slice none 0 0] 41 (0, 0))
  a : w.heap[W.heap.size + 1 + 1]? = some (.cells #[.int .i64 0, .int .i64 0] 34 (0, 0))
  c : w.heap[W.heap.size + 1 + 1 + 1]? = some oC
theorem Dx.lt {W w : World} {oU oC : Obj} (h : Dx W w oU oC) : W.heap.size + 3 < w.heap.size := (Array.getElem?_eq_some_iff.1 h.c).1
theorem Dx.new (W : World) (oU oC : Obj) : Dx W ((((W.alloc oU).alloc (.cells #[.slice none 0 0, .slice none 0 0, .slice none 0 0, .slice none 0 0, .slice none 0 0] 41 (0, 0))).alloc (.cells #[.int .i64 0, .int .i64 0] 34 (0, 0))).alloc oC) oU oC :=
  ⟨((((Below.refl _ _).alloc (Nat.le_refl _) _).alloc (by simp) _).alloc (by simp; omega) _).alloc (by simp; omega) _, old_at (old_at (old_at (new_at W _ _ rfl) _) _) _, old_at (old_at (new_at _ _ _ (by simp)) _) _, old_at (new_at _ _ _ (by simp)) _, new_at _ _ _ (by simp)⟩
theorem Dx.below {W w w' : World} {oU oC : Obj} (h : Dx W w oU oC) (hB : Below w.heap.size w w') : Dx W w' oU oC := by
  have hl := h.lt
  exact ⟨h.bel.trans (hB.mono h.bel.size), (hB.block _ (by omega)).trans h.u, (hB.block _ (by omega)).trans h.r, (hB.block _ (by omega)).trans h.a, (hB.block _ (by omega)).trans h.c⟩
theorem Dx.fr {W w w' : World} {oU oC : Obj} {S : Nat → Prop} (h : Dx W w oU oC) (hF : Fr w w' S) (hS : ∀ k, S k → W.heap.size + 3 < k) : Dx W w' oU oC := by
  have hl := h.lt
  have q : ∀ k, k ≤ W.heap.size + 3 → ¬ S k := fun k hk e => by have := hS k e; omega
  exact ⟨h.bel.trans (hF.below (n := W.heap.size) (fun k hk => by have := hS k hk; omega) h.bel.size), (hF.block _ (by omega) (q _ (by omega))).trans h.u, (hF.block _ (by omega) (q _ (by omega))).trans h.r, (hF.block _ (by omega) (q _ (by omega))).trans h.a, (hF.block _ (by omega) (q _ (by omega))).trans h.c⟩
theorem CtOwn.kept {W W' : World} {B B' : Nat} {lab : Nat → Nat} {v0 v1 v2 v3 v4 : Value} {x : Ct} (h : CtOwn W B lab v0 v1 v2 v3 v4 x) (hb : ∀ k, B ≤ k → k < W.heap.size → W'.heap[k]? = W.heap[k]?) (hB : B' ≤ B) : CtOwn W' B' lab v0 v1 v2 v3 v4 x :=
  ⟨fun k hk => Nat.le_trans hB (h.low k hk), h.cell.kept2 (fun k hk hl => hb k (h.low k (by omega)) hl) (fun k hk _ => hk), h.stack.kept2 (fun k hk hl => hb k (h.low k (by omega)) hl) (fun k hk _ => hk), h.queue.kept2 (fun k hk hl => hb k (h.low k (by omega)) hl) (fun k hk _ => hk), h.set.kept2 (fun k hk hl => hb k (h.low k (by omega)) hl) (fun k hk _ => hk), h.table.kept2 (fun k hk hl => hb k (h.low k (by omega)) hl) (fun k hk _ => hk)⟩
/-- The two results written. -/
def set7d (w : World) (n : Nat) (v0 v1 v2 v3 v4 : Value) (k v : Int) : World := ((set5 w (n + 1) v0 v1 v2 v3 v4).setCell ⟨n + 1 + 1, 0, none⟩ (.int .i64 k)).setCell ⟨n + 1 + 1, 1, none⟩ (.int .i64 v)
theorem set7d_far (w : World) (n : Nat) (v0 v1 v2 v3 v4 : Value) (k v : Int) (b : Nat) (h1 : b ≠ n + 1) (h2 : b ≠ n + 1 + 1) : (set7d w n v0 v1 v2 v3 v4 k v).heap[b]? = w.heap[b]? := by
  unfold set7d
  rw [Below.heap_setCell _ _ _ b h2, Below.heap_setCell _ _ _ b h2, set5_far w (n + 1) v0 v1 v2 v3 v4 b h1]
theorem do_end {W w : World} {n : Nat} (v0 v1 v2 v3 v4 : Value) (k v : Int) (hB : Below W.heap.size W w) (hn : W.heap.size ≤ n) (hr : w.heap[n + 1]? = some (.cells #[.slice none 0 0, .slice none 0 0, .slice none 0 0, .slice none 0 0, .slice none 0 0] 41 (0, 0))) (ha : w.heap[n + 1 + 1]? = some (.cells #[.int .i64 0, .int .i64 0] 34 (0, 0))) :
    Below W.heap.size W (set7d w n v0 v1 v2 v3 v4 k v) ∧ (set7d w n v0 v1 v2 v3 v4 k v).heap[n + 1]? = some (.cells #[v0, v1, v2, v3, v4] 41 (0, 0)) ∧ (set7d w n v0 v1 v2 v3 v4 k v).cell? ⟨n + 1 + 1, 0, none⟩ = some (.int .i64 k) ∧ (set7d w n v0 v1 v2 v3 v4 k v).cell? ⟨n + 1 + 1, 1, none⟩ = some (.int .i64 v) := by
  have h5 := set5_five v0 v1 v2 v3 v4 hr
  have ha5 : (set5 w (n + 1) v0 v1 v2 v3 v4).heap[n + 1 + 1]? = some (.cells #[.int .i64 0, .int .i64 0] 34 (0, 0)) := (set5_far w (n + 1) v0 v1 v2 v3 v4 (n + 1 + 1) (by omega)).trans ha
  obtain ⟨_, _, _, _, _, e1, e2⟩ := ans_set ha5 k v
  refine ⟨ans_below (set5_below (b := n + 1) v0 v1 v2 v3 v4 hB (by omega)) (by omega) k v, ?_, e1, e2⟩
  unfold set7d
  rw [Below.heap_setCell _ _ _ (n + 1) (by show n + 1 ≠ n + 1 + 1; omega), Below.heap_setCell _ _ _ (n + 1) (by show n + 1 ≠ n + 1 + 1; omega)]
  exact h5
theorem cell_of {w w' : World} {b o : Nat} (h : w'.heap[b]? = w.heap[b]?) : w'.cell? ⟨b, o, none⟩ = w.cell? ⟨b, o, none⟩ := by
  unfold World.cell?
  simp only [h]
theorem do_keep {w : World} {n bW bA : Nat} {i0 i1 i2 i3 i4 a0 a1 : Value} (v0 v1 v2 v3 v4 : Value) (k v : Int) (h1 : n + 1 + 1 < bW) (h2 : n + 1 + 1 < bA) (h : w.cell? ⟨bW, 0, none⟩ = some i0 ∧ w.cell? ⟨bW, 1, none⟩ = some i1 ∧ w.cell? ⟨bW, 2, none⟩ = some i2 ∧ w.cell? ⟨bW, 3, none⟩ = some i3 ∧ w.cell? ⟨bW, 4, none⟩ = some i4 ∧ w.cell? ⟨bA, 0, none⟩ = some a0 ∧ w.cell? ⟨bA, 1, none⟩ = some a1) :
    (set7d w n v0 v1 v2 v3 v4 k v).cell? ⟨bW, 0, none⟩ = some i0 ∧ (set7d w n v0 v1 v2 v3 v4 k v).cell? ⟨bW, 1, none⟩ = some i1 ∧ (set7d w n v0 v1 v2 v3 v4 k v).cell? ⟨bW, 2, none⟩ = some i2 ∧ (set7d w n v0 v1 v2 v3 v4 k v).cell? ⟨bW, 3, none⟩ = some i3 ∧ (set7d w n v0 v1 v2 v3 v4 k v).cell? ⟨bW, 4, none⟩ = some i4 ∧ (set7d w n v0 v1 v2 v3 v4 k v).cell? ⟨bA, 0, none⟩ = some a0 ∧ (set7d w n v0 v1 v2 v3 v4 k v).cell? ⟨bA, 1, none⟩ = some a1 := by
  have eW := set7d_far w n v0 v1 v2 v3 v4 k v bW (by omega) (by omega)
  have eA := set7d_far w n v0 v1 v2 v3 v4 k v bA (by omega) (by omega)
  rw [cell_of eW, cell_of eW, cell_of eW, cell_of eW, cell_of eW, cell_of eA, cell_of eA]
  exact h
theorem do_keep5 {w : World} {n bW bA : Nat} {i0 i1 i2 i3 i4 a0 a1 : Value} (v0 v1 v2 v3 v4 : Value) (h1 : n + 1 + 1 < bW) (h2 : n + 1 + 1 < bA) (h : w.cell? ⟨bW, 0, none⟩ = some i0 ∧ w.cell? ⟨bW, 1, none⟩ = some i1 ∧ w.cell? ⟨bW, 2, none⟩ = some i2 ∧ w.cell? ⟨bW, 3, none⟩ = some i3 ∧ w.cell? ⟨bW, 4, none⟩ = some i4 ∧ w.cell? ⟨bA, 0, none⟩ = some a0 ∧ w.cell? ⟨bA, 1, none⟩ = some a1) :
    (set5 w (n + 1) v0 v1 v2 v3 v4).cell? ⟨bW, 0, none⟩ = some i0 ∧ (set5 w (n + 1) v0 v1 v2 v3 v4).cell? ⟨bW, 1, none⟩ = some i1 ∧ (set5 w (n + 1) v0 v1 v2 v3 v4).cell? ⟨bW, 2, none⟩ = some i2 ∧ (set5 w (n + 1) v0 v1 v2 v3 v4).cell? ⟨bW, 3, none⟩ = some i3 ∧ (set5 w (n + 1) v0 v1 v2 v3 v4).cell? ⟨bW, 4, none⟩ = some i4 ∧ (set5 w (n + 1) v0 v1 v2 v3 v4).cell? ⟨bA, 0, none⟩ = some a0 ∧ (set5 w (n + 1) v0 v1 v2 v3 v4).cell? ⟨bA, 1, none⟩ = some a1 := by
  have eW := set5_far w (n + 1) v0 v1 v2 v3 v4 bW (by omega)
  have eA := set5_far w (n + 1) v0 v1 v2 v3 v4 bA (by omega)
  rw [cell_of eW, cell_of eW, cell_of eW, cell_of eW, cell_of eW, cell_of eA, cell_of eA]
  exact h
def cqM (c : Cq) : Obj := .cells #[.int .i64 c.th, .int .i64 c.op, .int .i64 c.arg, .int .i64 c.data, .int .i64 c.beg, .int .i64 c.fin, .int .i64 c.pt, .int .i64 c.ak, .int .i64 c.av] 36 (0, 0)
theorem sl_call {w : World} {b : Nat} {c : Cq} (h : w.heap[b]? = some (cqM c)) : Sl w (fun _ => True) 9 (.slice (some ⟨b, 0, none⟩) 1 1) [c].length (cqs [c]) := by
  refine ⟨by simp [cqs, Cq.row], _, 1, rfl, Nat.le_refl _, .inr ⟨b, 0, rfl, trivial, (Array.getElem?_eq_some_iff.1 h).1, fun j u hu => ?_⟩⟩
  rw [Nat.zero_add, cell_blk h]
  simpa [cqs, Cq.row] using hu
end Go.Proofs.YtfgnaffomglmdaaGreat.Md
