import Derived.Test.YtjpgjhjnneeliaaGreatJ12
import Derived.LoopN
/-
  THE CACHES: putLast by its contract (made by genput.py).
-/
namespace Go.Proofs.YtjpgjhjnneeliaaGreat.Ar
open Go.RowKit Mr Me Ma Wc Wm
section
variable {W : World} {T : Nat → Prop} {ba gs cs : Nat} {c : Cf} {vca : Value} {vs : List Value} {A : Ao}
set_option maxRecDepth 100000 in
set_option maxHeartbeats 2000000 in
theorem putLast_any (h : Ar W T ba gs cs c vca vs A) (hTl : ∀ k, T k → k < W.heap.size) (i : Nat) (hi : i < A.ca.length) (hr : (A.cache i).length ≤ 100000) (slot : Int) :
    Calls Tryz.prog 139 #[.pointer (some ⟨ba, 0, none⟩), .int .i64 (i : Int), .int .i64 slot] W fun e w' => e = .returned (.tuple #[]) ∧ (∃ vs', Ar w' (fun k => (T k ∨ W.heap.size ≤ k) ∧ k < w'.heap.size) ba gs cs c vca vs' (A.keep i (A.cache i ++ [slot]))) ∧ Fr W w' T ∧ Far W w' := by
  obtain ⟨i0, hi0, hz0, hz1, hz2⟩ := info_parts info_int
  obtain ⟨gc, cc, a, n, e, c1, hvi, hh, hci⟩ := h.cache i hi
  have c8 := h.c8
  rw [e] at c8
  have hgc : vca.ownBlock = some gc := by rw [e]; rfl
  have nbc : ba ≠ gc := fun e' => not_row h.blk h.caches (by decide) (e' ▸ hgc)
  have ncb : gc ≠ ba := fun e' => nbc e'.symm
  have hgcl := (h.caches.lt gc hgc)
  have hbl := h.lt
  have gz := h.caches.frozen hgc i
  have nvb : (Value.slice a (A.cache i).length n).ownBlock ≠ some ba := not_row h.blk hh (by decide)
  have nvc : (Value.slice a (A.cache i).length n).ownBlock ≠ some gc := fun e' => has_ne hh h.caches (by decide) gc e' hgc
  have law : ∀ (w0 : World), Below W.heap.size W w0 → Has w0 (fun k => T k ∨ W.heap.size ≤ k) 3 1 (.slice a (A.cache i).length n) (A.cache i).length (ints (A.cache i)) := fun w0 B => (hh.below B).mono (fun _ => .inl)
  have hii : (i : Int) < (A.ca.length : Int) := by omega
  have fin := fun (w0 w1 : World) (g cap' : Nat) (hB : Below W.heap.size W w0) (hown : Has w1 (fun k => T k ∨ W.heap.size ≤ k) 3 1 (.slice (some ⟨g, 0, none⟩) ((A.cache i).length + 1) cap') ((A.cache i).length + 1) (ints (A.cache i) ++ [.int .i64 slot])) (hgrow : w0.grownBy w1 (Value.slice a (A.cache i).length n).ownBlock) (hat : (Value.slice a (A.cache i).length n).ownBlock = some g ∨ g = w0.heap.size) => (show (∃ vs', Ar (w1.setCell ⟨gc, i, none⟩ (.slice (some ⟨g, 0, none⟩) ((A.cache i).length + 1) cap')) (fun k => (T k ∨ W.heap.size ≤ k) ∧ k < (w1.setCell ⟨gc, i, none⟩ (.slice (some ⟨g, 0, none⟩) ((A.cache i).length + 1) cap')).heap.size) ba gs cs c vca vs' (A.keep i (A.cache i ++ [slot]))) ∧ Fr W (w1.setCell ⟨gc, i, none⟩ (.slice (some ⟨g, 0, none⟩) ((A.cache i).length + 1) cap')) T ∧ Far W (w1.setCell ⟨gc, i, none⟩ (.slice (some ⟨g, 0, none⟩) ((A.cache i).length + 1) cap')) from by
    have hs := hB.size
    have hs1 := hgrow.size
    have hk : ∀ k, k < W.heap.size → (Value.slice a (A.cache i).length n).ownBlock ≠ some k → w1.heap[k]? = W.heap[k]? := fun k hkl hne => (hgrow.block k (by omega) (fun e' => hne e'.symm)).trans (hB.block k hkl)
    refine ⟨⟨_, h.cacheSet e hvi (fun k hk => ⟨.inl hk, by have := hTl k hk; simp; omega⟩) hTl ?_ (fun k hk' => ?_) hk⟩, ?_, ?_⟩
    · have h1 : Has w1 (fun k => (T k ∨ W.heap.size ≤ k) ∧ k < (w1.setCell ⟨gc, i, none⟩ (.slice (some ⟨g, 0, none⟩) ((A.cache i).length + 1) cap')).heap.size) 3 1 (.slice (some ⟨g, 0, none⟩) ((A.cache i).length + 1) cap') ((A.cache i).length + 1) (ints (A.cache i) ++ [.int .i64 slot]) := hown.kept (fun _ _ => rfl) (fun k hk' => ⟨(hown.lt k hk').1, by simpa using (hown.lt k hk').2⟩)
      have e1 : (A.cache i ++ [slot]).length = (A.cache i).length + 1 := by simp
      have e2 : ints (A.cache i ++ [slot]) = ints (A.cache i) ++ [.int .i64 slot] := by simp [ints]
      rw [e1, e2]
      exact h1
    · simp only [Value.ownBlock, Option.some.injEq] at hk'
      subst hk'
      rcases hat with e' | e'
      · exact .inl e'
      · exact .inr (by omega)
    · exact ((Fr.of_below hB).grown hgrow (fun k hk' => .inl (hh.lt k hk').1)).setCell _ _ (.inl hgcl.1)
    · intro k xs t hkb t1 t2 t3
      have n1 : k ≠ gc := fun e' => not_row hkb h.caches t2 (e' ▸ hgc)
      rw [Below.heap_setCell _ _ _ k n1, hk k (Array.getElem?_eq_some_iff.1 hkb).1 (not_row hkb hh t3)]
      exact hkb)
  replace fin := Mr.hid fin
  clear hvi hci e
  generalize hN : A.ca.length = N at *
  generalize hM : (A.cache i).length = m at *
  replace h := Mr.hid h
  replace hh := Mr.hid hh
  go_enter Tryz.func139, Tryz.ntmps139
  refine wp_region_held_drew (S := fun w' => w'.cell? ⟨ba, 8, none⟩ = some (.slice (some ⟨gc, 0, none⟩) N cc)) (by kernel_rfl) c8 (fun hS => ?_)
  refine wpAnyH_take (i := 0) (v := .pointer (some ⟨ba, 0, none⟩)) rfl (by kernel_rfl) (by kernel_rfl) (by kernel_rfl) (fun _ _ _ h => h) (Or.inl ⟨by rfl, fun w' hw => ?y0⟩) hS ?_
  case y0 =>
    clear hS
    go_simp
  refine wpAnyH_take (i := 1) (v := .pointer (some ⟨ba, 0, none⟩)) rfl (by kernel_rfl) (by kernel_rfl) (by kernel_rfl) (fun _ _ _ h => h) (Or.inl ⟨by rfl, fun w' hw => ?y1⟩) hS ?_
  case y1 =>
    clear hS
    go_simp
  refine wpAnyH_take (i := 2) (v := .pointer (some ⟨ba, 8, none⟩)) rfl (by kernel_rfl) (by kernel_rfl) (by kernel_rfl) (fun _ _ _ h => h) (Or.inl ⟨by rfl, fun w' hw => ?y2⟩) hS ?_
  case y2 =>
    clear hS
    go_simp
  refine wpAnyH_take (i := 3) (v := .slice (some ⟨gc, 0, none⟩) N cc) rfl (by kernel_rfl) (by kernel_rfl) (by kernel_rfl) (fun _ _ _ h => h) (Or.inl ⟨by rfl, fun w' hw => ?y3⟩) hS ?_
  case y3 =>
    clear hS
    go_simp
  refine wpAnyH_take (i := 4) (v := .int .i64 (i : Int)) rfl (by kernel_rfl) (by kernel_rfl) (by kernel_rfl) (fun _ _ _ h => h) (Or.inl ⟨by rfl, fun w' hw => ?y4⟩) hS ?_
  case y4 =>
    clear hS
    go_simp
  refine wpAnyH_take (i := 5) (v := .pointer (some ⟨ba, 0, none⟩)) rfl (by kernel_rfl) (by kernel_rfl) (by kernel_rfl) (fun _ _ _ h => h) (Or.inl ⟨by rfl, fun w' hw => ?y5⟩) hS ?_
  case y5 =>
    clear hS
    go_simp
  refine wpAnyH_take (i := 6) (v := .pointer (some ⟨ba, 0, none⟩)) rfl (by kernel_rfl) (by kernel_rfl) (by kernel_rfl) (fun _ _ _ h => h) (Or.inl ⟨by rfl, fun w' hw => ?y6⟩) hS ?_
  case y6 =>
    clear hS
    go_simp
  refine wpAnyH_take (i := 7) (v := .pointer (some ⟨ba, 8, none⟩)) rfl (by kernel_rfl) (by kernel_rfl) (by kernel_rfl) (fun _ _ _ h => h) (Or.inl ⟨by rfl, fun w' hw => ?y7⟩) hS ?_
  case y7 =>
    clear hS
    go_simp
  refine wpAnyH_take (i := 8) (v := .slice (some ⟨gc, 0, none⟩) N cc) rfl (by kernel_rfl) (by kernel_rfl) (by kernel_rfl) (fun _ _ _ h => h) (Or.inl ⟨by rfl, fun w' hw => ?y8⟩) hS ?_
  case y8 =>
    clear hS
    go_simp
  refine wpAnyH_take (i := 9) (v := .int .i64 (i : Int)) rfl (by kernel_rfl) (by kernel_rfl) (by kernel_rfl) (fun _ _ _ h => h) (Or.inl ⟨by rfl, fun w' hw => ?y9⟩) hS ?_
  case y9 =>
    clear hS
    go_simp
  refine wpAnyH_take (i := 10) (v := .pointer (some ⟨gc, i, none⟩)) rfl (by kernel_rfl) (by kernel_rfl) (by kernel_rfl) (fun _ _ _ h => h) (Or.inl ⟨by rfl, fun w' hw => ?y10⟩) hS ?_
  case y10 =>
    clear hS
    go_simp
  refine wpAnyH_take (i := 12) (v := .int .i64 slot) rfl (by kernel_rfl) (by kernel_rfl) (by kernel_rfl) (fun _ _ _ h => h) (Or.inl ⟨by rfl, fun w' hw => ?y12⟩) hS ?_
  case y12 =>
    clear hS
    go_simp
  have hB2 : Below W.heap.size W (W.drew.alloc (.cells #[.int .i64 slot] 3)) := (Below.drew (Below.refl _ _)).alloc (by simp) _
  have news := newsAt W.drew (W.drew.alloc (.cells #[.int .i64 slot] 3)) #[.int .i64 slot] 3 W.heap.size (by simp) rfl
  have c1d : W.drew.cell? ⟨gc, i, none⟩ = some (.slice a m n) := c1
  have c1e : (W.drew.alloc (.cells #[.int .i64 slot] 3)).cell? ⟨gc, i, none⟩ = some (.slice a m n) := (World.cell?_alloc_past _ _ _ (by simpa using hgcl.2)).trans c1
  have hS2 : (W.drew.alloc (.cells #[.int .i64 slot] 3)).cell? ⟨ba, 8, none⟩ = some (.slice (some ⟨gc, 0, none⟩) N cc) := (World.cell?_alloc_past _ _ _ (by simpa using hbl)).trans c8
  refine wpAnyH_ready (rs := [11, 13]) (by kernel_rfl) (by simp) (AllReadyH.cons rfl (fun K hK => ?a4) (AllReadyH.cons rfl (fun K hK => ?a15) AllReadyH.nil))
  case a4 =>
    go_simp
    refine hK.out _ _ hS (fun hS => ?_)
    clear hK K
    refine wpAnyH_ready (rs := [13]) (by kernel_rfl) (by simp) (AllReadyH.cons rfl (fun K hK => ?_) AllReadyH.nil)
    go_simp
    refine hK.out _ _ hS2 (fun hS => ?_)
    clear hK K
    refine wpAnyH_ready (rs := [14]) (by kernel_rfl) (by simp) (AllReadyH.cons rfl (fun K hK => ?_) AllReadyH.nil)
    refine step_append_has _ rfl (.tmp 17) (.tmp 19) 45 rfl (fun k => T k ∨ W.heap.size ≤ k) 3 i0 _ 1 8 Tryz.underlying45 hi0 hz0 hz1 hz2 rfl (.slice a m n) m (ints (A.cache i)) (by simp [Act.eval]) (law _ hB2) ⟨W.heap.size, 0, none⟩ 1 1 [.int .i64 slot] (by simp [Act.eval]) rfl news (by simp [Value.oneCell']) (by omega) (by unfold maxLen; omega) (by omega) (.inr (by simp)) ?_
    intro g cap' w1 hown hgrow hat
    have f1 := fin.out _ w1 g cap' hB2 hown hgrow hat
    have hs1 := hgrow.size
    have hba : w1.heap[ba]? = W.heap[ba]? := (hgrow.block ba (by simp; omega) (fun e => nvb e.symm)).trans (hB2.block ba hbl)
    have hgb : w1.heap[gc]? = W.heap[gc]? := (hgrow.block gc (by have := hgcl.2; simp; omega) (fun e => nvc e.symm)).trans (hB2.block gc hgcl.2)
    have hS1 : w1.cell? ⟨ba, 8, none⟩ = some (.slice (some ⟨gc, 0, none⟩) N cc) := (World.cell?_of_block hba).trans c8
    have kc : w1.cell? ⟨gc, i, none⟩ = some (.slice a m n) := (World.cell?_of_block hgb).trans c1
    have kf : w1.frozen? ⟨gc, i, none⟩ = false := (World.frozen?_of_block hgb).trans gz
    clear hown hgrow hat hba hgb hs1
    refine hK.out _ _ hS1 (fun hS => ?_)
    clear hK K
    refine wpAnyH_take (i := 15) (v := .pointer (some ⟨gc, i, none⟩)) rfl (by kernel_rfl) (by kernel_rfl) (by kernel_rfl) (fun _ _ _ h => h) (Or.inl ⟨by rfl, fun w' hw => ?y15⟩) hS ?_
    case y15 =>
      clear hS
      go_simp
    refine wpAnyH_ready (rs := [16]) (by kernel_rfl) (by simp) (AllReadyH.cons rfl (fun K hK => ?_) AllReadyH.nil)
    replace f1 := Mr.hid f1
    go_simp
    refine hK.out _ _ ((World.cell?_setCell_far w1 ⟨gc, i, none⟩ ⟨ba, 8, none⟩ _ ncb).trans hS1) (fun _ => wpAnyH_done (by kernel_rfl) ?_ _)
    clear hK K
    clear law c1 c8 kc kf hS1 hS news
    go_wp2
    go_end0
    exact ⟨rfl, f1.out⟩
  case a15 =>
    go_simp
    refine hK.out _ _ hS2 (fun hS => ?_)
    clear hK K
    refine wpAnyH_ready (rs := [11]) (by kernel_rfl) (by simp) (AllReadyH.cons rfl (fun K hK => ?_) AllReadyH.nil)
    go_simp
    refine hK.out _ _ hS2 (fun hS => ?_)
    clear hK K
    refine wpAnyH_ready (rs := [14]) (by kernel_rfl) (by simp) (AllReadyH.cons rfl (fun K hK => ?_) AllReadyH.nil)
    refine step_append_has _ rfl (.tmp 17) (.tmp 19) 45 rfl (fun k => T k ∨ W.heap.size ≤ k) 3 i0 _ 1 8 Tryz.underlying45 hi0 hz0 hz1 hz2 rfl (.slice a m n) m (ints (A.cache i)) (by simp [Act.eval]) (law _ hB2) ⟨W.heap.size, 0, none⟩ 1 1 [.int .i64 slot] (by simp [Act.eval]) rfl news (by simp [Value.oneCell']) (by omega) (by unfold maxLen; omega) (by omega) (.inr (by simp)) ?_
    intro g cap' w1 hown hgrow hat
    have f1 := fin.out _ w1 g cap' hB2 hown hgrow hat
    have hs1 := hgrow.size
    have hba : w1.heap[ba]? = W.heap[ba]? := (hgrow.block ba (by simp; omega) (fun e => nvb e.symm)).trans (hB2.block ba hbl)
    have hgb : w1.heap[gc]? = W.heap[gc]? := (hgrow.block gc (by have := hgcl.2; simp; omega) (fun e => nvc e.symm)).trans (hB2.block gc hgcl.2)
    have hS1 : w1.cell? ⟨ba, 8, none⟩ = some (.slice (some ⟨gc, 0, none⟩) N cc) := (World.cell?_of_block hba).trans c8
    have kc : w1.cell? ⟨gc, i, none⟩ = some (.slice a m n) := (World.cell?_of_block hgb).trans c1
    have kf : w1.frozen? ⟨gc, i, none⟩ = false := (World.frozen?_of_block hgb).trans gz
    clear hown hgrow hat hba hgb hs1
    refine hK.out _ _ hS1 (fun hS => ?_)
    clear hK K
    refine wpAnyH_take (i := 15) (v := .pointer (some ⟨gc, i, none⟩)) rfl (by kernel_rfl) (by kernel_rfl) (by kernel_rfl) (fun _ _ _ h => h) (Or.inl ⟨by rfl, fun w' hw => ?y15⟩) hS ?_
    case y15 =>
      clear hS
      go_simp
    refine wpAnyH_ready (rs := [16]) (by kernel_rfl) (by simp) (AllReadyH.cons rfl (fun K hK => ?_) AllReadyH.nil)
    replace f1 := Mr.hid f1
    go_simp
    refine hK.out _ _ ((World.cell?_setCell_far w1 ⟨gc, i, none⟩ ⟨ba, 8, none⟩ _ ncb).trans hS1) (fun _ => wpAnyH_done (by kernel_rfl) ?_ _)
    clear hK K
    clear law c1 c8 kc kf hS1 hS news
    go_wp2
    go_end0
    exact ⟨rfl, f1.out⟩
end
end Go.Proofs.YtjpgjhjnneeliaaGreat.Ar
/-
  INSIDE A PART's run: the arena, the part's own block, the box of its turn, the state within the step.
-/
namespace Go.Proofs.YtjpgjhjnneeliaaGreat.Ar
open Go.RowKit Mr Me Ma Wc Wm
/-- A type that is none of the arena's own. -/
def Oth (t : TypeId) : Prop := t ≠ 101 ∧ t ≠ 103 ∧ t ≠ 45 ∧ t ≠ 3
/-- Where a part's run began, and what stays: W0 .. now: the step's; WS, T0: the world and the blocks at the run's beginning; ba .. vca: the arena; bt: the part's block. -/
structure Pl where
  W0 : World
  U0 : Nat → Prop
  S0 : Nat → Prop
  X0 : Nat → Prop
  p : Ph
  i : Nat
  now : Int
  WS : World
  T0 : Nat → Prop
  ba : Nat
  gs : Nat
  cs : Nat
  c : Cf
  vca : Value
  bt : Nat
  ty : TypeId
/-- Other objects are as they were. -/
def Pl.oth (q : Pl) (W : World) : Prop := ∀ (j : Nat) (xs : Array Value) (t : TypeId), q.T0 j → j ≠ q.bt → Oth t → q.WS.heap[j]? = some (.cells xs t (0, 0)) → W.heap[j]? = some (.cells xs t (0, 0))
/-- What a run leaves. -/
def Rn (q : Pl) (sp : Bool) (s : Ss) (A : Ao) (xs : Array Value) (W : World) : Prop :=
  ∃ T vs, (∀ k, q.T0 k → T k) ∧ (∀ k, T k → q.T0 k ∨ q.WS.heap.size ≤ k) ∧ E q.W0 q.U0 q.S0 q.X0 q.p q.i q.now T sp s W ∧ Ar W T q.ba q.gs q.cs q.c q.vca vs A ∧ W.heap[q.bt]? = some (.cells xs q.ty (0, 0)) ∧ q.T0 q.bt ∧ Oth q.ty ∧ q.oth W
structure In (q : Pl) (N : Nat) (T : Nat → Prop) (vs : List Value) (sp : Bool) (s : Ss) (A : Ao) (xs : Array Value) (l : Int) (W : World) : Prop where
  k0 : ∀ k, q.T0 k → T k
  k1 : ∀ k, T k → q.T0 k ∨ q.WS.heap.size ≤ k
  e : E q.W0 q.U0 q.S0 q.X0 q.p q.i q.now (fun j => T j ∨ j = N) sp s W
  a : Ar W T q.ba q.gs q.cs q.c q.vca vs A
  t : W.heap[q.bt]? = some (.cells xs q.ty (0, 0))
  x : W.heap[N]? = some (.cells #[.pointer (some ⟨q.p.bd, 0, none⟩), .int .i64 l] 193 (0, 0))
  tb : q.T0 q.bt
  tn : ¬ T N
  ty : Oth q.ty
  o : q.oth W
theorem oth_turn : Oth 193 := by unfold Oth; decide
section
variable {q : Pl} {N : Nat} {T : Nat → Prop} {vs : List Value} {sp : Bool} {s : Ss} {A : Ao} {xs : Array Value} {l : Int} {W w : World}
theorem Rn.start (h : Rn q sp s A xs W) (l : Int) : ∃ T vs, In q W.heap.size T vs sp s A xs l (W.alloc (.cells #[.pointer (some ⟨q.p.bd, 0, none⟩), .int .i64 l] 193)) := by
  obtain ⟨T, vs, h1, h2, h3, h4, h5, h6, h7, h8⟩ := h
  have hl := h3.tl
  have hk : ∀ k, k < W.heap.size → (W.alloc (.cells #[.pointer (some ⟨q.p.bd, 0, none⟩), .int .i64 l] 193)).heap[k]? = W.heap[k]? := fun k h => Below.heap_alloc _ _ _ h
  refine ⟨T, vs, h1, h2, ?_, h4.kept (fun k hk' => hk k (hl k hk')) (fun _ h => h), (hk _ (Array.getElem?_eq_some_iff.1 h5).1).trans h5, heap_alloc_new W _, h6, fun hn => by have := hl _ hn; omega, h7, fun j ys t hj hne ht hw => ?_⟩
  · refine h3.write ((Fr.refl W T).alloc _) (fun k hk' => ?_)
    rcases hk' with hk' | rfl
    · exact ⟨by have := hl k hk'; simp; omega, .inl hk'⟩
    · exact ⟨by simp, .inr (Nat.le_refl _)⟩
  · have := h8 j ys t hj hne ht hw
    exact (hk _ (Array.getElem?_eq_some_iff.1 this).1).trans this
theorem In.done (h : In q N T vs sp s A xs l W) : Rn q sp s A xs W :=
  ⟨T, vs, h.k0, h.k1, h.e.sub (fun _ => .inl), h.a, h.t, h.tb, h.ty, h.o⟩
theorem In.tbt (h : In q N T vs sp s A xs l W) : T q.bt := h.k0 _ h.tb
theorem In.ne (h : In q N T vs sp s A xs l W) : q.bt ≠ N := fun e => h.tn (e ▸ h.tbt)
theorem In.nba (h : In q N T vs sp s A xs l W) : q.ba ≠ q.bt ∧ q.ba ≠ N := by
  refine ⟨fun e => ?_, fun e => h.tn (e ▸ h.a.ta)⟩
  have := h.a.blk
  rw [e, h.t] at this
  simp at this
  exact h.ty.1 this.2
/-- What is written into the part's own block, or into its turn's box. -/
theorem In.wrote (h : In q N T vs sp s A xs l W) {xs' : Array Value} {l' : Int} (hf : Fr W w (fun k => k = q.bt ∨ k = N)) (hs : w.heap.size = W.heap.size) (ht : w.heap[q.bt]? = some (.cells xs' q.ty (0, 0))) (hx : w.heap[N]? = some (.cells #[.pointer (some ⟨q.p.bd, 0, none⟩), .int .i64 l'] 193 (0, 0))) : In q N T vs sp s A xs' l' w := by
  have hl := h.e.tl
  refine ⟨h.k0, h.k1, h.e.write (hf.mono (fun k hk => hk.elim (fun e => .inl (e ▸ h.tbt)) .inr)) (fun k hk => ⟨by have := hl k hk; omega, .inl hk⟩), h.a.far h.t h.ty (fun j hj hT => hf.block j (hl j (.inl hT)) (fun e => e.elim hj (fun e => h.tn (e ▸ hT)))), ht, hx, h.tb, h.tn, h.ty, fun j ys t hj hne hto hw => ?_⟩
  have := h.o j ys t hj hne hto hw
  exact (hf.block j (Array.getElem?_eq_some_iff.1 this).1 (fun e => e.elim hne (fun e => h.tn (e ▸ h.k0 j hj)))).trans this
theorem In.setT (h : In q N T vs sp s A xs l W) (j : Nat) (u : Value) : In q N T vs sp s A (xs.setIfInBounds j u) l (W.setCell ⟨q.bt, j, none⟩ u) :=
  h.wrote ((Fr.refl W _).setCell _ _ (.inl (.inl rfl))) (by simp) (setBlk h.t j u) ((Below.heap_setCell _ _ _ N (fun e => h.ne e.symm)).trans h.x)
theorem In.setN (h : In q N T vs sp s A xs l W) (l' : Int) : In q N T vs sp s A xs l' (W.setCell ⟨N, 1, none⟩ (.int .i64 l')) :=
  h.wrote ((Fr.refl W _).setCell _ _ (.inl (.inr rfl))) (by simp) ((Below.heap_setCell _ _ _ _ h.ne).trans h.t) (setBlk h.x 1 (.int .i64 l'))
theorem In.below (h : In q N T vs sp s A xs l W) (hB : Below W.heap.size W w) : In q N T vs sp s A xs l w := by
  obtain ⟨e1, e2⟩ := h.e.below hB
  refine ⟨h.k0, h.k1, e1, h.a.kept (fun k hk => e2 k (.inl hk)) (fun _ h => h), (e2 _ (.inl h.tbt)).trans h.t, (e2 _ (.inr rfl)).trans h.x, h.tb, h.tn, h.ty, fun j ys t hj hne hto hw => ?_⟩
  have := h.o j ys t hj hne hto hw
  exact (e2 j (.inl (h.k0 j hj))).trans this
theorem In.drew (h : In q N T vs sp s A xs l W) : In q N T vs sp s A xs l W.drew := h.below (Below.refl _ _).drew
/-- Behind one of the desk's calls. -/
theorem In.desk {sp' : Bool} {s' : Ss} (h : In q N T vs sp s A xs l W) (he : E q.W0 q.U0 q.S0 q.X0 q.p q.i q.now (fun j => T j ∨ j = N) sp' s' w) (hm : Sm W w (fun j => T j ∨ j = N)) : In q N T vs sp' s' A xs l w :=
  ⟨h.k0, h.k1, he, h.a.kept (fun k hk => hm k (.inl hk)) (fun _ h => h), (hm _ (.inl h.tbt)).trans h.t, (hm _ (.inr rfl)).trans h.x, h.tb, h.tn, h.ty, fun j ys t hj hne hto hw => (hm j (.inl (h.k0 j hj))).trans (h.o j ys t hj hne hto hw)⟩
/-- What its cells hold. -/
theorem In.at (h : In q N T vs sp s A xs l W) (j : Nat) (u : Value) (hu : xs[j]? = some u) : W.cell? ⟨q.bt, j, none⟩ = some u := by simp [World.cell?, h.t, hu]
theorem In.z (h : In q N T vs sp s A xs l W) (j : Nat) : W.frozen? ⟨q.bt, j, none⟩ = false := by simp [World.frozen?, h.t]
theorem In.x0 (h : In q N T vs sp s A xs l W) : W.cell? ⟨N, 0, none⟩ = some (.pointer (some ⟨q.p.bd, 0, none⟩)) := by simp [World.cell?, h.x]
theorem In.x1 (h : In q N T vs sp s A xs l W) : W.cell? ⟨N, 1, none⟩ = some (.int .i64 l) := by simp [World.cell?, h.x]
theorem In.xz (h : In q N T vs sp s A xs l W) (j : Nat) : W.frozen? ⟨N, j, none⟩ = false := by simp [World.frozen?, h.x]
theorem In.load (h : In q N T vs false s A xs l W) (hb : Me.Roomy s.lg s.ah) (ad : Nat) (hi : ad < s.ws.length) :
    Calls Tryz.prog 110 #[.pointer (some ⟨q.p.bd, 0, none⟩), .int .i64 (ad : Int)] W fun e w' => e = .returned (.int .u64 (s.ws[ad]?.getD 0)) ∧ In q N T vs true (s.loads q.i q.now ad) A xs l w' := by
  refine (h.e.load hb ad hi).mono ?_
  rintro e w' ⟨rfl, h1, h2⟩
  exact ⟨rfl, h.desk h1 h2⟩
theorem In.store (h : In q N T vs false s A xs l W) (hb : Me.Roomy s.lg s.ah) (ad : Nat) (hi : ad < s.ws.length) (x : Int) :
    Calls Tryz.prog 140 #[.pointer (some ⟨q.p.bd, 0, none⟩), .int .i64 (ad : Int), .int .u64 x] W fun e w' => e = .returned (.tuple #[]) ∧ In q N T vs true (s.stores q.i q.now ad x) A xs l w' := by
  refine (h.e.store hb ad hi x).mono ?_
  rintro e w' ⟨rfl, h1, h2⟩
  exact ⟨rfl, h.desk h1 h2⟩
theorem In.hit (h : In q N T vs false s A xs l W) (hb : Me.Roomy s.lg s.ah) (ad : Nat) (hi : ad < s.ws.length) (old x : Int) (ho : s.ws[ad]?.getD 0 = old) :
    Calls Tryz.prog 113 #[.pointer (some ⟨q.p.bd, 0, none⟩), .int .i64 (ad : Int), .int .u64 old, .int .u64 x] W fun e w' => e = .returned (.bool true) ∧ In q N T vs true (s.hits q.i q.now ad old x) A xs l w' := by
  refine (h.e.hit hb ad hi old x ho).mono ?_
  rintro e w' ⟨rfl, h1, h2⟩
  exact ⟨rfl, h.desk h1 h2⟩
theorem In.miss (h : In q N T vs false s A xs l W) (hb : Me.Roomy s.lg s.ah) (ad : Nat) (hi : ad < s.ws.length) (old x : Int) (ho : s.ws[ad]?.getD 0 ≠ old) :
    Calls Tryz.prog 113 #[.pointer (some ⟨q.p.bd, 0, none⟩), .int .i64 (ad : Int), .int .u64 old, .int .u64 x] W fun e w' => e = .returned (.bool false) ∧ In q N T vs true (s.misses q.i q.now ad old x) A xs l w' := by
  refine (h.e.miss hb ad hi old x ho).mono ?_
  rintro e w' ⟨rfl, h1, h2⟩
  exact ⟨rfl, h.desk h1 h2⟩
theorem In.shift (h : In q N T vs sp s A xs l W) (hr : s.shs.length ≤ 100000) (slot to : Int) (hs : A.has slot) (ht : 0 ≤ to ∧ to ≤ 5) :
    Calls Tryz.prog 119 #[.pointer (some ⟨q.ba, 0, none⟩), .pointer (some ⟨q.p.bd, 0, none⟩), .int .i64 slot, .int .i64 to] W fun e w' => e = .returned (.tuple #[]) ∧ In q N T vs sp (s.shifts q.i q.now slot (A.st slot).1 to) (A.put slot to q.i) xs l w' := by
  have ha : Ar W (fun j => T j ∨ j = N) q.ba q.gs q.cs q.c q.vca vs A := h.a.kept (fun _ _ => rfl) (fun _ h => .inl h)
  refine (arShift h.e ha hr slot to hs ht).mono ?_
  rintro e w' ⟨rfl, h1, h2, h3⟩
  have gT : T q.gs := h.a.tgs
  have ng : ∀ (j : Nat) (ys : Array Value) (t : TypeId), W.heap[j]? = some (.cells ys t (0, 0)) → Oth t → j ≠ q.gs := fun j ys t hj ht e => not_row hj h.a.slots ht.2.1 (by rw [e]; rfl)
  refine ⟨rfl, h.k0, h.k1, h1, ?_, (h3 _ (.inl h.tbt) (ng _ _ _ h.t h.ty)).trans h.t, (h3 _ (.inr rfl) (ng _ _ _ h.x oth_turn)).trans h.x, h.tb, h.tn, h.ty, fun j ys t hj hne hto hw => ?_⟩
  · refine ⟨h2.blk, h2.slots.kept (fun _ _ => rfl) (fun k e => ?_), h2.caches.kept (fun _ _ => rfl) (fun k e => (h.a.caches.lt k e).1), fun i v l' hv hl' => (h2.each i v l' hv hl').kept (fun _ _ => rfl) (fun k e => ((h.a.each i v l' hv hl').lt k e).1), h2.sep, h.a.ta, h2.ok, h2.five⟩
    have : k = q.gs := by simpa [Value.ownBlock] using e.symm
    rw [this]; exact gT
  · have := h.o j ys t hj hne hto hw
    exact (h3 j (.inl (h.k0 j hj)) (ng _ _ _ this hto)).trans this
theorem In.hasSlot (h : In q N T vs sp s A xs l W) (x : Int) :
    Calls Tryz.prog 57 #[.pointer (some ⟨q.ba, 0, none⟩), .int .i64 x] W fun e w' => e = .returned (.bool (decide (A.has x))) ∧ w' = W := hasSlot_any h.a x
theorem In.last (h : In q N T vs sp s A xs l W) (hi : q.i < A.ca.length) :
    Calls Tryz.prog 106 #[.pointer (some ⟨q.ba, 0, none⟩), .int .i64 (q.i : Int)] W fun e w' => e = .returned (.int .i64 (A.last q.i)) ∧ w' = W := last_any h.a q.i hi
theorem In.free (h : In q N T vs sp s A xs l W) :
    Calls Tryz.prog 93 #[.pointer (some ⟨q.ba, 0, none⟩)] W fun e w' => e = .returned (.int .i64 0) ∧ In q N T vs sp s A xs l w' := by
  refine (freeAddr_any h.a).mono ?_
  rintro e w' ⟨rfl, hB⟩
  exact ⟨rfl, h.below hB⟩
theorem In.spare (h : In q N T vs sp s A xs l W) (x : Int) (hx : A.has x) :
    Calls Tryz.prog 112 #[.pointer (some ⟨q.ba, 0, none⟩), .int .i64 x] W fun e w' => e = .returned (.int .i64 (q.c.m + x)) ∧ In q N T vs sp s A xs l w' := by
  refine (spareAddr_any h.a x hx).mono ?_
  rintro e w' ⟨rfl, hB⟩
  exact ⟨rfl, h.below hB⟩
theorem In.room (h : In q N T vs sp s A xs l W) (hi : q.i < A.ca.length) (K : Nat) (hK : q.c.a4 = K) :
    Calls Tryz.prog 138 #[.pointer (some ⟨q.ba, 0, none⟩), .int .i64 (q.i : Int)] W fun e w' => e = .returned (.bool (decide ((A.cache q.i).length < K))) ∧ In q N T vs sp s A xs l w' := by
  refine (hasRoom_any h.a q.i hi K hK).mono ?_
  rintro e w' ⟨rfl, _, hB⟩
  exact ⟨rfl, h.below hB⟩
theorem In.drop (h : In q N T vs sp s A xs l W) (hi : q.i < A.ca.length) (m : List Int) (x : Int) (hl : A.cache q.i = m ++ [x]) (hx : x ∉ m) :
    Calls Tryz.prog 107 #[.pointer (some ⟨q.ba, 0, none⟩), .int .i64 (q.i : Int), .int .i64 x] W fun e w' => e = .returned (.tuple #[]) ∧ ∃ vs', In q N T vs' sp s (A.keep q.i m) xs l w' := by
  have hl' := h.e.tl
  refine (drop_any h.a (fun k hk => hl' k (.inl hk)) q.i hi m x hl hx).mono ?_
  rintro e w' ⟨rfl, ⟨vs', ha⟩, hf, hsz, far⟩
  refine ⟨rfl, vs', h.k0, h.k1, h.e.write (hf.mono (fun _ => .inl)) (fun k hk => ⟨by have := hl' k hk; omega, .inl hk⟩), ha, far _ _ _ h.t h.ty.2.1 h.ty.2.2.1 h.ty.2.2.2, far _ _ _ h.x oth_turn.2.1 oth_turn.2.2.1 oth_turn.2.2.2, h.tb, h.tn, h.ty, fun j ys t hj hne hto hw => ?_⟩
  exact far _ _ _ (h.o j ys t hj hne hto hw) hto.2.1 hto.2.2.1 hto.2.2.2
theorem In.put (h : In q N T vs sp s A xs l W) (hi : q.i < A.ca.length) (hr : (A.cache q.i).length ≤ 100000) (hWS : q.WS.heap.size ≤ W.heap.size) (x : Int) :
    Calls Tryz.prog 139 #[.pointer (some ⟨q.ba, 0, none⟩), .int .i64 (q.i : Int), .int .i64 x] W fun e w' => e = .returned (.tuple #[]) ∧ ∃ T' vs', In q N T' vs' sp s (A.keep q.i (A.cache q.i ++ [x])) xs l w' := by
  have hl' := h.e.tl
  refine (putLast_any h.a (fun k hk => hl' k (.inl hk)) q.i hi hr x).mono ?_
  rintro e w' ⟨rfl, ⟨vs', ha⟩, hf, far⟩
  have hs := hf.size
  have hNl : N < W.heap.size := hl' N (.inr rfl)
  refine ⟨rfl, _, vs', fun k hk => ⟨.inl (h.k0 k hk), by have := hl' k (.inl (h.k0 k hk)); omega⟩, fun k hk => hk.1.elim (h.k1 k) (fun h' => .inr (by omega)), h.e.write (hf.mono (fun _ => .inl)) (fun k hk => ?_), ha, far _ _ _ h.t h.ty.2.1 h.ty.2.2.1 h.ty.2.2.2, far _ _ _ h.x oth_turn.2.1 oth_turn.2.2.1 oth_turn.2.2.2, h.tb, fun hn => ?_, h.ty, fun j ys t hj hne hto hw => ?_⟩
  · rcases hk with ⟨hk | hk, hk2⟩ | rfl
    · exact ⟨hk2, .inl (.inl hk)⟩
    · exact ⟨hk2, .inr hk⟩
    · exact ⟨by omega, .inl (.inr rfl)⟩
  · rcases hn.1 with hn | hn
    · exact h.tn hn
    · omega
  · exact far _ _ _ (h.o j ys t hj hne hto hw) hto.2.1 hto.2.2.1 hto.2.2.2
end
end Go.Proofs.YtjpgjhjnneeliaaGreat.Ar
/-
  TAKING: a turn's access, a Taking's cells.
-/
namespace Go.Proofs.YtjpgjhjnneeliaaGreat.Ar
open Go.RowKit Mr Me Ma Wc Wm
theorem access_any (W : World) (N : Nat) (l : Int) (h1 : W.cell? ⟨N, 1, none⟩ = some (.int .i64 l)) (h2 : W.frozen? ⟨N, 1, none⟩ = false) (hl : -100 ≤ l ∧ l ≤ 100) :
    Calls Tryz.prog 109 #[.pointer (some ⟨N, 0, none⟩)] W fun e w' => e = .returned (.bool (decide (1 ≤ l))) ∧ w' = W.setCell ⟨N, 1, none⟩ (.int .i64 (l - 1)) := by
  have hw : wrap64 (l - 1) = l - 1 := by unfold wrap64; omega
  have hi : IntKind.i64.wrap (l - 1) = l - 1 := i64w _ (by omega) (by omega)
  go_enter Tryz.func109, Tryz.ntmps109
  go_wp2
  go_ret
  exact ⟨rfl, rfl⟩
theorem access_yes (W : World) (N : Nat) (h1 : W.cell? ⟨N, 1, none⟩ = some (.int .i64 1)) (h2 : W.frozen? ⟨N, 1, none⟩ = false) :
    Calls Tryz.prog 109 #[.pointer (some ⟨N, 0, none⟩)] W fun e w' => e = .returned (.bool true) ∧ w' = W.setCell ⟨N, 1, none⟩ (.int .i64 0) := access_any W N 1 h1 h2 (by decide)
theorem access_no (W : World) (N : Nat) (h1 : W.cell? ⟨N, 1, none⟩ = some (.int .i64 0)) (h2 : W.frozen? ⟨N, 1, none⟩ = false) :
    Calls Tryz.prog 109 #[.pointer (some ⟨N, 0, none⟩)] W fun e w' => e = .returned (.bool false) ∧ w' = W.setCell ⟨N, 1, none⟩ (.int .i64 (-1)) := access_any W N 0 h1 h2 (by decide)
/-- A Taking's cells. -/
def tkA (q : Pl) (k : Pk) : Array Value := #[.pointer (some ⟨q.ba, 0, none⟩), .int .i64 (q.i : Int), .int .i64 k.sl, .int .i64 k.nx, .int .u64 k.hd, .int .u64 k.bh, .bool k.tk]
section
variable {q : Pl} {N : Nat} {T : Nat → Prop} {vs : List Value} {sp : Bool} {s : Ss} {A : Ao} {k : Pk} {xs : Array Value} {l : Int} {W w : World}
theorem In.acc1 (h : In q N T vs sp s A xs 1 W) : Calls Tryz.prog 109 #[.pointer (some ⟨N, 0, none⟩)] W fun e w' => e = .returned (.bool true) ∧ In q N T vs sp s A xs 0 w' := by
  refine (access_yes W N h.x1 (h.xz 1)).mono ?_
  rintro e w' ⟨rfl, rfl⟩
  exact ⟨rfl, h.setN 0⟩
theorem In.acc0 (h : In q N T vs sp s A xs 0 W) : Calls Tryz.prog 109 #[.pointer (some ⟨N, 0, none⟩)] W fun e w' => e = .returned (.bool false) ∧ In q N T vs sp s A xs (-1) w' := by
  refine (access_no W N h.x1 (h.xz 1)).mono ?_
  rintro e w' ⟨rfl, rfl⟩
  exact ⟨rfl, h.setN (-1)⟩
/-- The cells of a Taking, all at once. -/
theorem In.tk (h : In q N T vs sp s A (tkA q k) l W) : (W.cell? ⟨q.bt, 0, none⟩ = some (.pointer (some ⟨q.ba, 0, none⟩)) ∧ W.cell? ⟨q.bt, 1, none⟩ = some (.int .i64 (q.i : Int)) ∧ W.cell? ⟨q.bt, 2, none⟩ = some (.int .i64 k.sl) ∧ W.cell? ⟨q.bt, 3, none⟩ = some (.int .i64 k.nx) ∧ W.cell? ⟨q.bt, 4, none⟩ = some (.int .u64 k.hd) ∧ W.cell? ⟨q.bt, 5, none⟩ = some (.int .u64 k.bh) ∧ W.cell? ⟨q.bt, 6, none⟩ = some (.bool k.tk)) ∧ (∀ j, W.frozen? ⟨q.bt, j, none⟩ = false) ∧ W.cell? ⟨N, 0, none⟩ = some (.pointer (some ⟨q.p.bd, 0, none⟩)) ∧ W.cell? ⟨N, 1, none⟩ = some (.int .i64 l) ∧ W.frozen? ⟨N, 1, none⟩ = false :=
  ⟨⟨h.at 0 _ rfl, h.at 1 _ rfl, h.at 2 _ rfl, h.at 3 _ rfl, h.at 4 _ rfl, h.at 5 _ rfl, h.at 6 _ rfl⟩, h.z, h.x0, h.x1, h.xz 1⟩
end
end Go.Proofs.YtjpgjhjnneeliaaGreat.Ar
