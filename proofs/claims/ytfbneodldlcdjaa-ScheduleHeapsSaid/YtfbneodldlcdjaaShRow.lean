/-
  SCHEDULE: rows of numbers of one's own.
-/
import Derived.Test.YtfbneodldlcdjaaMoRow
import Derived.Test.YtfbneodldlcdjaaMdApp
import Derived.Test.YtfbneodldlcdjaaWordBox
import Derived.Laws.MakeOwn
import Derived.Deep.LoopGhost
import Derived.BigQuiet
import Derived.Deep.DeepCutAuto
namespace Go.Proofs.Ytfbneodldlcdjaa.Sh
open Go.RowKit Mr Md
set_option linter.unusedVariables false
set_option linter.unusedSimpArgs false
theorem parts_of {a : Option TypeInfo} {z : Option Value} {n b : Nat} (h : a.map (fun i => (i.zero, i.size, i.bytes)) = some (z, n, b)) : ∃ i, a = some i ∧ i.zero = z ∧ i.size = n ∧ i.bytes = b := by
  cases a with
  | none => simp at h
  | some i => simp at h; exact ⟨i, rfl, h.1, h.2.1, h.2.2⟩
theorem i64x (x : Int) (h1 : -9223372036854775808 ≤ x) (h2 : x ≤ 9223372036854775807) : IntKind.i64.wrap x = x := by
  simp [IntKind.wrap, IntKind.signed, IntKind.bits]; omega
theorem wt_int : (Try.prog.info? 3).map (fun i => (i.zero, i.size, i.bytes)) = some (some (.int .i64 0), 1, 8) := by kernel_rfl
/-- What a slice of one number, just made, holds. -/
theorem new1 {w w1 : World} {x : Value} (h1 : w1 = w.alloc (.cells #[x] 3 (0, 0))) : ∀ ad, some (⟨w.heap.size, 0, none⟩ : Addr) = some ad → ∀ j u, ([x])[j]? = some u → w1.cell? (ad.add j) = some u := by
  rintro ad e j u hu
  cases e
  subst h1
  rw [add1, Nat.zero_add, cell_blk (new_at w _ _ rfl)]
  simpa using hu
/-- A row of numbers of one's own. -/
structure Nw (W w : World) (u : Value) (l : List Int) : Prop where
  bel : Below W.heap.size W w
  own : Own w (fun k => W.heap.size ≤ k) 3 1 u l.length (ints l)
theorem Nw.below {W w w' : World} {u : Value} {l : List Int} (h : Nw W w u l) (hB : Below w.heap.size w w') : Nw W w' u l := ⟨h.bel.trans (hB.mono h.bel.size), h.own.below hB⟩
theorem Nw.app {W w w1 w2 : World} {u u' : Value} {l : List Int} {x : Int} {o : Obj} (h : Nw W w u l) (h1 : w1 = w.alloc o) (ho : Own w2 (fun k => W.heap.size ≤ k ∨ k = w1.heap.size) 3 1 u' (l.length + 1) (ints l ++ [.int .i64 x])) (hf : Fr w1 w2 (fun k => W.heap.size ≤ k)) : Nw W w2 u' (l ++ [x]) := by
  have B1 : Below W.heap.size W w1 := by subst h1; exact h.bel.alloc h.bel.size _
  have e : ints l ++ [Value.int .i64 x] = ints (l ++ [x]) := by simp [ints]
  rw [e] at ho
  refine ⟨⟨hf.os.trans B1.os, hf.tape.trans B1.tape, hf.output.trans B1.output, Nat.le_trans B1.size hf.size, fun k hk => (hf.block k (Nat.lt_of_lt_of_le hk B1.size) (by omega)).trans (B1.block k hk)⟩, ?_⟩
  rw [List.length_append]
  exact ho.mono (fun k hk => by have := B1.size; omega)
theorem Nw.put {W w : World} {g n cap : Nat} {l : List Int} (h : Nw W w (.slice (some ⟨g, 0, none⟩) n cap) l) (hn : l.length = n) {j : Nat} (hj : j < n) (x : Int) : Nw W (w.setCell ⟨g, j, none⟩ (.int .i64 x)) (.slice (some ⟨g, 0, none⟩) n cap) (l.set j x) := by
  obtain ⟨g', o', cap', cur, e, _, _, hS, _⟩ := h.own.there (by omega)
  have e1 := h.own
  rw [hn] at e e1
  cases e
  have e2 := e1.put (by omega) (j := j) (by omega) (.int .i64 x)
  rw [Nat.zero_add] at e2
  refine ⟨h.bel.setCell (p := ⟨g, _, none⟩) hS _, ?_⟩
  have e3 : (ints l).set j (.int .i64 x) = ints (l.set j x) := by simp [ints, List.map_set]
  rw [e3] at e2
  simpa [hn] using e2
theorem Nw.cell {W w : World} {g o n cap : Nat} {l : List Int} (h : Nw W w (.slice (some ⟨g, o, none⟩) n cap) l) {k : Nat} {x : Int} (hx : l[k]? = some x) : w.cell? ⟨g, o + k, none⟩ = some (.int .i64 x) ∧ w.frozen? ⟨g, o + k, none⟩ = false ∧ g < w.heap.size := by
  have hk := (List.getElem?_eq_some_iff.1 hx).1
  obtain ⟨g', o', cap', cur, e, _, _, hS, hg, hs, hxx⟩ := h.own.there (by omega)
  cases e
  exact ⟨own_cells hg hxx k _ (by rw [ints, List.getElem?_map, hx]; rfl), by simp [World.frozen?, hg], (Array.getElem?_eq_some_iff.1 hg).1⟩
theorem Nw.len {W w : World} {a : Option Addr} {n cap : Nat} {l : List Int} (h : Nw W w (.slice a n cap) l) : l.length = n := by
  obtain ⟨_, _, e, _⟩ := h.own.form; cases e; rfl
/-- The row is also one's own seen from an elder world. -/
theorem Nw.elder {W V w : World} {u : Value} {l : List Int} (h : Nw V w u l) (hB : Below W.heap.size W V) : Nw W w u l :=
  ⟨hB.trans (h.bel.mono hB.size), h.own.mono (fun k hk => Nat.le_trans hB.size hk)⟩
def zrow (n : Nat) : Array Value := Array.replicate n (.int .i64 0)
theorem made_z (n : Nat) : madeCells (Value.int .i64 0).cells n = zrow n := by
  apply Array.ext
  · rw [size_madeCells]; simp [zrow]
  · intro i h1 h2
    simp [madeCells, zrow, Value.cells, Nat.mod_one]
theorem make_in (W : World) (n : Nat) (hn : n ≤ 1000000) : (Instr.makeSlice 22 (.int .i64 (n : Int)) (.int .i64 (n : Int))).run Try.prog W = .ok (.slice (some ⟨W.heap.size, 0, none⟩) n n) (W.alloc (.cells (zrow n) 3 (0, 0))) := by
  obtain ⟨i0, hi, hz0, hz1, hz2⟩ := parts_of wt_int
  have h := run_make (P := Try.prog) W 22 3 i0 _ Try.underlying22 hi hz0 .i64 .i64 (n : Int) (n : Int) (by omega) (Int.le_refl _) (by rw [hz2]; omega) (by omega)
  have e : (n : Int).toNat = n := by omega
  rw [e, hz1, Nat.mul_one, made_z] at h
  exact h
theorem nw_make (W w : World) (hB : Below W.heap.size W w) (n : Nat) (hn : n ≤ maxLen) : Nw W (w.alloc (.cells (zrow n) 3 (0, 0))) (.slice (some ⟨w.heap.size, 0, none⟩) n n) (List.replicate n 0) := by
  refine ⟨hB.alloc hB.size _, ?_⟩
  rw [List.length_replicate]
  exact Own.of_has ⟨by simp [ints], .inr ⟨w.heap.size, n, zrow n, rfl, hB.size, heap_alloc_new w _, Nat.le_refl _, hn, by simp [zrow], by simp [zrow, ints]⟩⟩
end Go.Proofs.Ytfbneodldlcdjaa.Sh
