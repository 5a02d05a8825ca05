import Derived.Test.YtdggempcfmihpaaMemZero
/-
  A RANGE OVER A FUNCTION whose body is asked only at the entry that comes next: at the wide fence, outside any round, a body that never leaves.
-/
namespace Go.Proofs.Ytdggempcfmihpaa.Me
open Go.RowKit Go.Shelf Mr
attribute [local go_sem] Oper.semAt_some
section
variable {P : Program} {α : Type}
/-- I abides a turn of a block from B on that is no cells. -/
def Abides (B : Nat) (I : Nat → World → Prop) : Prop := ∀ k W l o o', I k W → B ≤ l → W.heap[l]? = some o → o.isCells = false → I k (W.putObj l o')
/-- A contract of an iterator: it hands out ys, one behind the other, if it may read what I says. -/
def Hands (n : Nat) (P : Program) (gf : Nat) (lb : Array Value) (encs : α → Array Value) (ys : List α) (I : Nat → World → Prop) : Prop :=
  ∀ (l : Nat) (J : Nat → World → Prop) (W : World), (∀ k W1, J k W1 → I k W1) → J 0 W →
    (∀ k x W1, ys[k]? = some x → J k W1 → YieldAt Fence.wide (n - 1) P l (encs x) W1 fun e W' => e = .returned (.bool true) ∧ J (k + 1) W') →
    CallsIn Fence.wide n P gf (#[.func (.yield l) #[] #[]] ++ lb) W fun e W' => (∃ v, e = .returned v) ∧ J ys.length W'
theorem range_next {n : Nat} {g : Operand} {ps : Array Tmp} {assign body : Code} {Q : Exit → Act → World → Prop} {a : Act} {w : World} {gf : Nat} {lb : Array Value} (hg : a.eval g = .func (.func gf) #[] lb) (h1 : 1 ≤ n)
    (eg : ∀ args w, (callFunc gf args).run P w = .ok (.enter gf args) w) {encs : α → Array Value} {ys : List α} (hps : ∀ x, (encs x).size = ps.size) (I : Nat → World → Prop) (hI : Abides w.heap.size I) (hnew : ∀ W o, I 0 W → I 0 (W.alloc o)) (h0 : I 0 w)
    (hseq : Hands (n - 1) P gf lb encs ys I) (Ax : α → Act → World → Prop) (hAx : ∀ x a', Abides w.heap.size (fun _ W => Ax x a' W))
    (hassign : ∀ l k x W (K : Act → World → Prop), ys[k]? = some x → I k W → (∀ a' W', KeepsFrom w.heap.size W W' → I k W' → Ax x a' W' → K a' W') →
      assign.wpIn (Fence.wide.inRound l) (n - 1 - 1) P (Exit.then K (fun _ _ _ => False)) { tmps := (ps.zip (encs x)).foldl (fun t (p, v) => t.setIfInBounds p v) a.tmps, defers := [] } W)
    (hbody : ∀ l k x a' W, ys[k]? = some x → I k W → Ax x a' W → body.wpIn (Fence.wide.inRound l) (n - 1 - 1) P (fun e _ W' => e = .normal ∧ KeepsFrom w.heap.size W W' ∧ I (k + 1) W') a' W)
    (hdone : ∀ (D : Nat) (W : World), w.heap.size ≤ D → I ys.length W → W.heap[D]? = some (.deferred (some [])) → Q .normal { a with defers := { target := .collected D, args := #[] } :: a.defers } W) :
    (Code.rangeFunc g ps assign body).wpIn Fence.wide n P Q a w := by
  refine wpIn_rangeFunc fun fn hfn => ?_
  obtain ⟨r0, hr0⟩ : ∃ r0 : Loop, r0 = { state := .ready, pending := none, fn, tmps := a.tmps, params := ps, assign, body, defers := w.heap.size } := ⟨_, rfl⟩
  obtain ⟨W1, hW1⟩ : ∃ W1, (w.alloc (.deferred (some []))).alloc (.loop r0) = W1 := ⟨_, rfl⟩
  have hL1 : W1.heap[w.heap.size + 1]? = some (.loop r0) := by
    have := heap_alloc_new (w.alloc (.deferred (some []))) (.loop r0)
    rw [World.size_alloc] at this
    rw [← hW1]; exact this
  have hD1 : W1.heap[w.heap.size]? = some (.deferred (some [])) := by
    rw [← hW1]; exact (Below.heap_alloc _ _ _ (by simp)).trans (heap_alloc_new w _)
  refine ⟨w.heap.size + 1, [{ target := .collected w.heap.size, args := #[] }], W1, { target := .fn (.func gf) lb, args := #[.func (.yield (w.heap.size + 1)) #[] #[]] }, W1, gf, #[.func (.yield (w.heap.size + 1)) #[] #[]] ++ lb, W1, ?_, ?_, fun _ _ => trivial, ?_, fun _ => h1, ?_⟩
  · rw [← hW1, hr0]; exact run_enterLoop_outer _ _ _ _ _
  · simp only [resolve, hg]
    simp [go_sem]
  · simp [invoke, go_sem, eg]
  · refine (hseq (w.heap.size + 1) (fun k W => I k W ∧ W.heap[w.heap.size + 1]? = some (.loop r0) ∧ W.heap[w.heap.size]? = some (.deferred (some []))) W1 (fun _ _ h => h.1) ⟨by rw [← hW1]; exact hnew _ _ (hnew _ _ h0), hL1, hD1⟩ ?_).mono ?_
    · rintro k x W hx ⟨hi, hl, hD⟩
      have hy := run_yield (P := P) (args := encs x) hl (by rw [hr0]; exact hps x)
      refine ⟨r0.fn, _, r0.assign, r0.body, hy, roundIn_of_wpIn trivial ?_⟩
      rw [hr0]
      refine hassign _ k x W _ hx hi ?_
      intro a' Wa hka hia hax
      have hl' := hka.same _ _ (by omega) hl rfl
      have hD' := hka.same _ _ (Nat.le_refl _) hD rfl
      have hlt := (Array.getElem?_eq_some_iff.1 hl').1
      refine ⟨_, run_beginRound hl' (by rw [hr0]), ?_⟩
      have hl2 : (Wa.putObj (w.heap.size + 1) (.loop { r0 with state := .busy })).heap[w.heap.size + 1]? = some (.loop { r0 with state := .busy }) := World.putObj_heap_same hlt
      have hD2 : (Wa.putObj (w.heap.size + 1) (.loop { r0 with state := .busy })).heap[w.heap.size]? = some (.deferred (some [])) := (World.putObj_heap_other (by omega)).trans hD'
      refine wpIn_mono (hbody _ k x a' _ hx (hI k _ _ _ _ hia (by omega) hl' rfl) (hAx x a' 0 _ _ _ _ hax (by omega) hl' rfl)) ?_
      rintro e a3 W3 ⟨rfl, hk3, hi3⟩
      have hl3 := hk3.same _ _ (by omega) hl2 rfl
      have hD3 := hk3.same _ _ (Nat.le_refl _) hD2 rfl
      have he := run_endRound (P := P) none hl3
      refine ⟨_, _, he, rfl, hI _ _ _ _ _ hi3 (by omega) hl3 rfl, ?_, (World.putObj_heap_other (by omega)).trans hD3⟩
      rw [World.putObj_heap_same (Array.getElem?_eq_some_iff.1 hl3).1, hr0]
      rfl
    · rintro e W2 ⟨⟨v, rfl⟩, hi, hl, hD⟩
      have he := run_endLoop (P := P) hl (by rw [hr0]; simp)
      refine ⟨none, _, by rw [he, hr0], hdone _ _ (Nat.le_refl _) (hI _ _ _ _ _ hi (by omega) hl rfl) ((World.putObj_heap_other (by omega)).trans hD)⟩
end
end Go.Proofs.Ytdggempcfmihpaa.Me
