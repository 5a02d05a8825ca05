/-
  WITNESS: rows of calls, read; a row of numbers that grows beside a call's box.
-/
import Derived.Test.YtfgnaffomglmdaaWtOne
import Derived.Test.YtfgnaffomglmdaaMpRow
namespace Go.Proofs.Ytfgnaffomglmdaa.Wt
open Go.RowKit Mr Md
set_option linter.unusedVariables false
theorem parts_of {a : Option TypeInfo} {z : Option Value} {n b : Nat} (h : a.map (fun i => (i.zero, i.size, i.bytes)) = some (z, n, b)) : ∃ i, a = some i ∧ i.zero = z ∧ i.size = n ∧ i.bytes = b := by
  cases a with
  | none => simp at h
  | some i => simp at h; exact ⟨i, rfl, h.1, h.2.1, h.2.2⟩
theorem i64x (x : Int) (h1 : -9223372036854775808 ≤ x) (h2 : x ≤ 9223372036854775807) : IntKind.i64.wrap x = x := by
  simp [IntKind.wrap, IntKind.signed, IntKind.bits]; omega
theorem wt_int : (Try.prog.info? 3).map (fun i => (i.zero, i.size, i.bytes)) = some (some (.int .i64 0), 1, 8) := by kernel_rfl
/-- What a slice of one number, just made, holds. -/
theorem new1 {w w1 : World} {x : Value} (h1 : w1 = w.alloc (.cells #[x] 3 (0, 0))) : ∀ ad, some (⟨w.heap.size, 0, none⟩ : Addr) = some ad → ∀ j u, ([x])[j]? = some u → w1.cell? (ad.add j) = some u := by
  rintro ad e j u hu
  cases e
  subst h1
  rw [add1, Nat.zero_add, cell_blk (new_at w _ _ rfl)]
  simpa using hu
/-- The nine cells of a call in a row. -/
structure At9 (w : World) (b o : Nat) (c : Cq) : Prop where
  lt : b < w.heap.size
  c0 : w.cell? ⟨b, o, none⟩ = some (.int .i64 c.th)
  c1 : w.cell? ⟨b, o + 1, none⟩ = some (.int .i64 c.op)
  c2 : w.cell? ⟨b, o + 2, none⟩ = some (.int .i64 c.arg)
  c3 : w.cell? ⟨b, o + 3, none⟩ = some (.int .i64 c.data)
  c4 : w.cell? ⟨b, o + 4, none⟩ = some (.int .i64 c.beg)
  c5 : w.cell? ⟨b, o + 5, none⟩ = some (.int .i64 c.fin)
  c6 : w.cell? ⟨b, o + 6, none⟩ = some (.int .i64 c.pt)
  c7 : w.cell? ⟨b, o + 7, none⟩ = some (.int .i64 c.ak)
  c8 : w.cell? ⟨b, o + 8, none⟩ = some (.int .i64 c.av)
theorem call_at {W : World} {T : Nat → Prop} {a : Option Addr} {cap : Nat} {cs : List Cq} (h : Sl W T 9 (.slice a cs.length cap) cs.length (cqs cs)) {i : Nat} {c : Cq} (hc : cs[i]? = some c) :
    ∃ b o, a = some ⟨b, o, none⟩ ∧ At9 W b (o + i * 9) c := by
  have hi := (List.getElem?_eq_some_iff.1 hc).1
  obtain ⟨b, o, cap', hv, _, _, hl, hr⟩ := h.there (by omega)
  cases hv
  have hg := fun j (hj : j < 9) => cqs_get cs i c hc j hj
  exact ⟨b, o, rfl, hl, hr (i * 9 + 0) _ (hg 0 (by omega)), hr (i * 9 + 1) _ (hg 1 (by omega)), hr (i * 9 + 2) _ (hg 2 (by omega)), hr (i * 9 + 3) _ (hg 3 (by omega)), hr (i * 9 + 4) _ (hg 4 (by omega)), hr (i * 9 + 5) _ (hg 5 (by omega)), hr (i * 9 + 6) _ (hg 6 (by omega)), hr (i * 9 + 7) _ (hg 7 (by omega)), hr (i * 9 + 8) _ (hg 8 (by omega))⟩
theorem At9.below {w w' : World} {b o : Nat} {c : Cq} (h : At9 w b o c) (hB : Below w.heap.size w w') : At9 w' b o c :=
  ⟨Nat.lt_of_lt_of_le h.lt hB.size, (hB.cell h.lt).trans h.c0, (hB.cell h.lt).trans h.c1, (hB.cell h.lt).trans h.c2, (hB.cell h.lt).trans h.c3, (hB.cell h.lt).trans h.c4, (hB.cell h.lt).trans h.c5, (hB.cell h.lt).trans h.c6, (hB.cell h.lt).trans h.c7, (hB.cell h.lt).trans h.c8⟩
/-- A call's box at b, and a row of numbers of one's own beside it. -/
structure Ap (W w : World) (b : Nat) (c : Cq) (u : Value) (l : List Int) : Prop where
  bel : Below W.heap.size W w
  up : W.heap.size ≤ b
  box : w.heap[b]? = some (cqO c)
  own : Own w (fun k => W.heap.size ≤ k ∧ k ≠ b) 3 1 u l.length (ints l)
theorem own_kept {W W' : World} {S T : Nat → Prop} {e : TypeId} {size n : Nat} {v : Value} {xs : List Value} (h : Own W S e size v n xs) (hb : ∀ k, S k → k < W.heap.size → W'.heap[k]? = W.heap[k]? ∧ T k) : Own W' T e size v n xs := by
  obtain ⟨h1, a, cap, hv, hc, hm, h2⟩ := h
  refine ⟨h1, a, cap, hv, hc, hm, h2.imp id ?_⟩
  rintro ⟨g, o, cur, ha, hS, hg, hs, hx⟩
  have := hb g hS (Array.getElem?_eq_some_iff.1 hg).1
  exact ⟨g, o, cur, ha, this.2, this.1.trans hg, hs, hx⟩
theorem Ap.first {W w w1 : World} {u : Value} {l : List Int} (hB : Below W.heap.size W w) (ho : Own w (fun k => W.heap.size ≤ k) 3 1 u l.length (ints l)) (c : Cq) (h1 : w1 = w.alloc (cqO c)) : Ap W w1 w.heap.size c u l := by
  subst h1
  exact ⟨hB.alloc hB.size _, hB.size, new_at _ _ _ rfl, own_kept ho (fun k hk hl => ⟨Below.heap_alloc _ _ _ hl, hk, by omega⟩)⟩
theorem Ap.below {W w w' : World} {b : Nat} {c : Cq} {u : Value} {l : List Int} (h : Ap W w b c u l) (hB : Below w.heap.size w w') : Ap W w' b c u l :=
  ⟨h.bel.trans (hB.mono h.bel.size), h.up, (hB.block _ (Array.getElem?_eq_some_iff.1 h.box).1).trans h.box, h.own.below hB⟩
/-- A number put behind the row. -/
theorem Ap.app {W w w1 w2 : World} {b : Nat} {c : Cq} {u u' : Value} {l : List Int} {x : Int} {o : Obj} (h : Ap W w b c u l) (h1 : w1 = w.alloc o) (ho : Own w2 (fun k => (W.heap.size ≤ k ∧ k ≠ b) ∨ k = w1.heap.size) 3 1 u' (l.length + 1) (ints l ++ [.int .i64 x])) (hf : Fr w1 w2 (fun k => W.heap.size ≤ k ∧ k ≠ b)) : Ap W w2 b c u' (l ++ [x]) := by
  have hb := (Array.getElem?_eq_some_iff.1 h.box).1
  have hs := h.bel.size
  have B1 : Below W.heap.size W w1 := by subst h1; exact h.bel.alloc hs _
  have hb1 : w1.heap[b]? = some (cqO c) := by subst h1; exact old_at h.box _
  have hb1l := (Array.getElem?_eq_some_iff.1 hb1).1
  refine ⟨⟨hf.os.trans B1.os, hf.tape.trans B1.tape, hf.output.trans B1.output, Nat.le_trans B1.size hf.size, fun k hk => (hf.block k (Nat.lt_of_lt_of_le hk B1.size) (by omega)).trans (B1.block k hk)⟩, h.up, (hf.block b hb1l (by simp)).trans hb1, ?_⟩
  have e : ints l ++ [Value.int .i64 x] = ints (l ++ [x]) := by simp [ints]
  rw [e] at ho
  rw [List.length_append]
  exact ho.mono (fun k hk => by have := B1.size; omega)
theorem Ap.done {W w : World} {b : Nat} {c : Cq} {u : Value} {l : List Int} (h : Ap W w b c u l) : Own w (fun k => W.heap.size ≤ k) 3 1 u l.length (ints l) := h.own.mono (fun k hk => hk.1)
end Go.Proofs.Ytfgnaffomglmdaa.Wt
