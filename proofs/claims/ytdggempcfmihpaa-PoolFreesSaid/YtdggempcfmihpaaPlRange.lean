/-
  A RANGE OVER A FUNCTION that writes between what it hands out: at the wide fence, outside any round, a body that never leaves.
-/
import Derived.Test.YtdggempcfmihpaaMemRange
namespace Go.Proofs.Ytdggempcfmihpaa.Pl
open Go.RowKit Mr Me
attribute [local go_sem] Oper.semAt_some
set_option linter.unusedVariables false
section
variable {P : Program} {α : Type}
theorem Fr.putObj {a b : World} {S : Nat → Prop} (h : Fr a b S) (l : Nat) (o : Obj) (hl : S l ∨ a.heap.size ≤ l) : Fr a (b.putObj l o) S :=
  ⟨h.os, h.tape, h.output, by have := h.size; simpa [World.putObj] using this, fun k hk hn => (World.putObj_heap_other (by rintro rfl; rcases hl with hl | hl; exact hn hl; omega)).trans (h.block k hk hn)⟩
/-- A contract of an iterator that writes into Sit's blocks: it hands out ys one behind the other, to whom touches Sc's blocks alone; at each yield Kn is known; behind it Po. -/
def HandsW (n : Nat) (P : Program) (gf : Nat) (lb : Array Value) (encs : α → Array Value) (ys : List α) (Sit Sc : Nat → Prop) (K0 Kn Po : World → Prop) : Prop :=
  ∀ (l : Nat) (C : Nat → World → Prop) (W : World), (∀ k W1 W2, C k W1 → Fr W1 W2 Sit → C k W2) → K0 W → C 0 W →
    (∀ k x W1, ys[k]? = some x → Kn W1 → C k W1 → YieldAt Fence.wide (n - 1) P l (encs x) W1 fun e W' => e = .returned (.bool true) ∧ C (k + 1) W' ∧ Fr W1 W' Sc) →
    CallsIn Fence.wide n P gf (#[.func (.yield l) #[] #[]] ++ lb) W fun e W' => (∃ v, e = .returned v) ∧ C ys.length W' ∧ Po W'
def Keeps (B : Nat) (I : World → Prop) : Prop := ∀ W l o o', I W → B ≤ l → W.heap[l]? = some o → o.isCells = false → I (W.putObj l o')
theorem range_w {n : Nat} {g : Operand} {ps : Array Tmp} {assign body : Code} {Q : Exit → Act → World → Prop} {a : Act} {w : World} {gf : Nat} {lb : Array Value} (hg : a.eval g = .func (.func gf) #[] lb) (h1 : 1 ≤ n)
    (eg : ∀ args w, (callFunc gf args).run P w = .ok (.enter gf args) w) {encs : α → Array Value} {ys : List α} (hps : ∀ x, (encs x).size = ps.size) {Sit Sc : Nat → Prop} {K0 Kn Po : World → Prop} (hSit : ∀ k, Sit k → k < w.heap.size)
    (hseq : HandsW (n - 1) P gf lb encs ys Sit (fun k => Sc k ∨ w.heap.size ≤ k) K0 Kn Po) (hK0 : ∀ o o', K0 ((w.alloc o).alloc o')) (hKn : Keeps w.heap.size Kn) (hPo : Keeps w.heap.size Po)
    (C : Nat → World → Prop) (hC : ∀ k, Keeps w.heap.size (C k)) (hCs : ∀ k W1 W2, C k W1 → Fr W1 W2 Sit → C k W2) (h0 : C 0 w) (Ax : α → Act → Prop)
    (hassign : ∀ l x W (K : Act → World → Prop), (∀ a', Ax x a' → K a' W) →
      assign.wpIn (Fence.wide.inRound l) (n - 1 - 1) P (Exit.then K (fun _ _ _ => False)) { tmps := (ps.zip (encs x)).foldl (fun t (p, v) => t.setIfInBounds p v) a.tmps, defers := [] } W)
    (hbody : ∀ l k x a' W, ys[k]? = some x → Kn W → C k W → Ax x a' → w.heap.size ≤ W.heap.size → body.wpIn (Fence.wide.inRound l) (n - 1 - 1) P (fun e _ W' => e = .normal ∧ KeepsFrom w.heap.size W W' ∧ C (k + 1) W' ∧ Fr W W' (fun k => Sc k ∨ w.heap.size ≤ k)) a' W)
    (hdone : ∀ (D : Nat) (W : World), w.heap.size ≤ D → C ys.length W → Po W → W.heap[D]? = some (.deferred (some [])) → Q .normal { a with defers := { target := .collected D, args := #[] } :: a.defers } W) :
    (Code.rangeFunc g ps assign body).wpIn Fence.wide n P Q a w := by
  refine wpIn_rangeFunc fun fn hfn => ?_
  obtain ⟨r0, hr0⟩ : ∃ r0 : Loop, r0 = { state := .ready, pending := none, fn, tmps := a.tmps, params := ps, assign, body, defers := w.heap.size } := ⟨_, rfl⟩
  obtain ⟨W1, hW1⟩ : ∃ W1, (w.alloc (.deferred (some []))).alloc (.loop r0) = W1 := ⟨_, rfl⟩
  have hL1 : W1.heap[w.heap.size + 1]? = some (.loop r0) := by
    have := heap_alloc_new (w.alloc (.deferred (some []))) (.loop r0)
    rw [World.size_alloc] at this
    rw [← hW1]; exact this
  have hD1 : W1.heap[w.heap.size]? = some (.deferred (some [])) := by
    rw [← hW1]; exact (Below.heap_alloc _ _ _ (by simp)).trans (heap_alloc_new w _)
  have hnew : ∀ W o, C 0 W → C 0 (W.alloc o) := fun W o h => hCs 0 _ _ h ((Fr.refl _ _).alloc o)
  refine ⟨w.heap.size + 1, [{ target := .collected w.heap.size, args := #[] }], W1, { target := .fn (.func gf) lb, args := #[.func (.yield (w.heap.size + 1)) #[] #[]] }, W1, gf, #[.func (.yield (w.heap.size + 1)) #[] #[]] ++ lb, W1, ?_, ?_, fun _ _ => trivial, ?_, fun _ => h1, ?_⟩
  · rw [← hW1, hr0]; exact run_enterLoop_outer _ _ _ _ _
  · simp only [resolve, hg]
    simp [go_sem]
  · simp [invoke, go_sem, eg]
  · refine (hseq (w.heap.size + 1) (fun k W => C k W ∧ W.heap[w.heap.size + 1]? = some (.loop r0) ∧ W.heap[w.heap.size]? = some (.deferred (some []))) W1 ?_ (by rw [← hW1]; exact hK0 _ _) ⟨by rw [← hW1]; exact hnew _ _ (hnew _ _ h0), hL1, hD1⟩ ?_).mono ?_
    · rintro k Wa Wb ⟨q1, q2, q3⟩ hf
      exact ⟨hCs k _ _ q1 hf, (hf.block _ (Array.getElem?_eq_some_iff.1 q2).1 (fun e => by have := hSit _ e; omega)).trans q2, (hf.block _ (Array.getElem?_eq_some_iff.1 q3).1 (fun e => by have := hSit _ e; omega)).trans q3⟩
    · rintro k x W hx hkn ⟨hi, hl, hD⟩
      have hy := run_yield (P := P) (args := encs x) hl (by rw [hr0]; exact hps x)
      refine ⟨r0.fn, _, r0.assign, r0.body, hy, roundIn_of_wpIn trivial ?_⟩
      rw [hr0]
      refine hassign _ x W _ ?_
      intro a' hax
      have hlt := (Array.getElem?_eq_some_iff.1 hl).1
      refine ⟨_, run_beginRound hl (by rw [hr0]), ?_⟩
      have hl2 : (W.putObj (w.heap.size + 1) (.loop { r0 with state := .busy })).heap[w.heap.size + 1]? = some (.loop { r0 with state := .busy }) := World.putObj_heap_same hlt
      have hD2 : (W.putObj (w.heap.size + 1) (.loop { r0 with state := .busy })).heap[w.heap.size]? = some (.deferred (some [])) := (World.putObj_heap_other (by omega)).trans hD
      refine wpIn_mono (hbody _ k x a' _ hx (hKn _ _ _ _ hkn (by omega) hl rfl) (hC k _ _ _ _ hi (by omega) hl rfl) hax (by simp [World.putObj]; omega)) ?_
      rintro e a3 W3 ⟨rfl, hk3, hi3, hf3⟩
      have hl3 := hk3.same _ _ (by omega) hl2 rfl
      have hD3 := hk3.same _ _ (Nat.le_refl _) hD2 rfl
      have he := run_endRound (P := P) none hl3
      refine ⟨_, _, he, rfl, ⟨hC _ _ _ _ _ hi3 (by omega) hl3 rfl, ?_, (World.putObj_heap_other (by omega)).trans hD3⟩, ?_⟩
      · rw [World.putObj_heap_same (Array.getElem?_eq_some_iff.1 hl3).1, hr0]
        rfl
      · have f1 : Fr W (W.putObj (w.heap.size + 1) (.loop { r0 with state := .busy })) (fun k => Sc k ∨ w.heap.size ≤ k) := Fr.putObj (Fr.refl _ _) _ _ (.inl (.inr (by omega)))
        refine Fr.putObj (f1.trans (hf3.mono (fun k e => .inl e))) _ _ (.inl (.inr (by omega)))
    · rintro e W2 ⟨⟨v, rfl⟩, ⟨hi, hl, hD⟩, hpo⟩
      have he := run_endLoop (P := P) hl (by rw [hr0]; simp)
      refine ⟨none, _, by rw [he, hr0], hdone _ _ (Nat.le_refl _) (hC _ _ _ _ _ hi (by omega) hl rfl) (hPo _ _ _ _ hpo (by omega) hl rfl) ((World.putObj_heap_other (by omega)).trans hD)⟩
end
end Go.Proofs.Ytdggempcfmihpaa.Pl
