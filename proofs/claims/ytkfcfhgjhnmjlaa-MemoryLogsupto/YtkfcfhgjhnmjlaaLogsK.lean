/-
  MemoryLogs: what stands beside the memory.
-/
import Derived.Test.YtkfcfhgjhnmjlaaLoMq
import Derived.Deep.RegionHeld3
import Derived.LoopN
namespace Go.Proofs.Ytkfcfhgjhnmjlaa.Me
open Go.RowKit Go.Shelf Mr
set_option linter.unusedVariables false
theorem MemP.zero {W : World} {S : Nat → Prop} {b : Nat} {t : St} (h : MemS W S b t 0) : MemP W S b t 0 (.slice none 0 0) 0 [] := by
  obtain ⟨vw, vl, va, h1⟩ := h
  exact ⟨vw, vl, va, h1, Has.nil _ _ _ _, fun _ _ _ _ _ => .inl (Nat.zero_le _)⟩
/-- What stands beside the memory: the law's boxes. -/
structure Kx (w W : World) (B1 b : Nat) (v2 : Value) (fr : Int) (bk : Bool) (S : Nat → Prop) : Prop where
  two : Boxed W w.heap.size 23 v2
  frm : Boxed W (w.heap.size + 1) 3 (.int .i64 fr)
  bck : Boxed W (w.heap.size + 1 + 1) 4 (.bool bk)
  res : Boxed W (w.heap.size + 1 + 1 + 1) 4 (.bool false)
  m : Boxed W B1 25 (.pointer (some ⟨b, 0, none⟩))
  lm : Boxed W (B1 + 1) 25 (.pointer (some ⟨b, 0, none⟩))
  lf : Boxed W (B1 + 1 + 1) 3 (.int .i64 fr)
  out : ∀ k, S k → w.heap.size + 1 + 1 + 1 < k ∧ k ≠ B1 ∧ k ≠ B1 + 1 ∧ k ≠ B1 + 1 + 1
  bel : Below w.heap.size w W
  up : w.heap.size + 1 + 1 + 1 < B1
theorem Kx.kept {w W W' : World} {B1 b : Nat} {v2 : Value} {fr : Int} {bk : Bool} {S S' : Nat → Prop} (h : Kx w W B1 b v2 fr bk S) (hk : ∀ k, k < W.heap.size → ¬ S k → (k ≤ w.heap.size + 1 + 1 + 1 ∨ k = B1 ∨ k = B1 + 1 ∨ k = B1 + 1 + 1) → W'.heap[k]? = W.heap[k]?) (hS : ∀ k, S' k → S k ∨ W.heap.size ≤ k) (hB : Below w.heap.size w W') : Kx w W' B1 b v2 fr bk S' := by
  have ns : ∀ k, (k ≤ w.heap.size + 1 + 1 + 1 ∨ k = B1 ∨ k = B1 + 1 ∨ k = B1 + 1 + 1) → ¬ S k := fun k hk' hSk => by have := h.out k hSk; omega
  have bx : ∀ {B t : Nat} {v : Value}, Boxed W B t v → (B ≤ w.heap.size + 1 + 1 + 1 ∨ B = B1 ∨ B = B1 + 1 ∨ B = B1 + 1 + 1) → Boxed W' B t v := fun {B t v} hb hB => (hk B hb.lt (ns B hB) hB).trans hb
  refine ⟨bx h.two (by omega), bx h.frm (by omega), bx h.bck (by omega), bx h.res (by omega), bx h.m (by omega), bx h.lm (by omega), bx h.lf (by omega), fun k hk' => ?_, hB, h.up⟩
  rcases hS k hk' with h1 | h1
  · exact h.out k h1
  · have := h.lf.lt
    have := h.up
    omega
theorem Kx.below {w W W' : World} {B1 b : Nat} {v2 : Value} {fr : Int} {bk : Bool} {S : Nat → Prop} (h : Kx w W B1 b v2 fr bk S) (hB : Below W.heap.size W W') : Kx w W' B1 b v2 fr bk S :=
  h.kept (fun k hk _ _ => hB.block k hk) (fun _ => .inl) (h.bel.trans (hB.mono h.bel.size))
theorem Kx.tch {w W W' : World} {B1 b : Nat} {v2 : Value} {fr : Int} {bk : Bool} {S S' : Nat → Prop} (h : Kx w W B1 b v2 fr bk S) (ht : Tch W W' S S') : Kx w W' B1 b v2 fr bk S' :=
  h.kept (fun k hk hn _ => ht.fr.block k hk hn) ht.new (h.bel.trans (ht.fr.below (fun k hk => by have := h.out k hk; omega) h.bel.size))
end Go.Proofs.Ytkfcfhgjhnmjlaa.Me
