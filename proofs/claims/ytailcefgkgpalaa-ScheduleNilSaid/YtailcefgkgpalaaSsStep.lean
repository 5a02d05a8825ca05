/-
  SCHEDULE: one heap alone, step by step.
-/
import Derived.Test.YtailcefgkgpalaaSsNext
import Derived.Test.YtailcefgkgpalaaSkCmp
namespace Go.Proofs.Ytailcefgkgpalaa.Ss
open Go.RowKit Mr Md Sh
set_option linter.unusedVariables false
set_option linter.unusedSimpArgs false
structure Hs (D : Int → ByteArray → Prop) (W w : World) (b : Nat) (l : List Tr) (p : Int) : Prop where
  ex : ∃ S v, Hh w b S v l p ∧ ∀ q, S q → W.heap.size ≤ q
  lo : W.heap.size ≤ b
  bel : Below W.heap.size W w
  hep : Hep l
  dom : ∀ x ∈ l, D x.k x.c
theorem fr_hs {W w w' : World} {b : Nat} {S : Nat → Prop} (hB : Below W.heap.size W w) (hf : Fr w w' (fun q => q = b ∨ S q)) (hb : W.heap.size ≤ b) (hS : ∀ q, S q → W.heap.size ≤ q) : Below W.heap.size W w' :=
  hB.trans (hf.below (fun q hq => hq.elim (fun e => by omega) (hS q)) hB.size)
theorem hs_new (D : Int → ByteArray → Prop) {W w : World} (hB : Below W.heap.size W w) : Hs D W (w.alloc (.cells #[.slice none 0 0, .int .u64 0] 30)) w.heap.size [] 0 :=
  ⟨⟨fun _ => False, .slice none 0 0, ⟨heap_alloc_new w _, Has.nil _ _ _ _, fun e => e⟩, fun _ e => e.elim⟩, hB.size, hB.alloc hB.size _, fun j _ h => by simp at h, fun x h => by simp at h⟩
theorem hs_put {D : Int → ByteArray → Prop} (hC : ∀ k c k' c', D k c → D k' c' → ∀ w, Calls Try.prog 26 #[.string c, .string c'] w fun e w' => e = .returned (.int .i64 (cmpI k k')) ∧ w' = w) {W w : World} {b : Nat} {l : List Tr} {p : Int} (h : Hs D W w b l p) (hl : l.length ≤ 10) (hp : 0 ≤ p) (hp1 : p ≤ 10) (k : Int) (c : ByteArray) (hk : D k c) (x : Int) :
    Calls Try.prog 7 #[.pointer (some ⟨b, 0, none⟩), .string c, .int .i64 x] w fun e w' => e = .returned (.tuple #[]) ∧ ∃ l', Hs D W w' b l' (p + 1) ∧ l'.Perm (l ++ [⟨k, c, x, p⟩]) := by
  obtain ⟨S, v, hh, hS⟩ := h.ex
  refine (put_any hh (by omega) h.hep hp (by omega) k c hk x hC h.dom).mono ?_
  rintro e w' ⟨rfl, v', l', g1, g2, g3, g4⟩
  refine ⟨rfl, l', ⟨⟨_, v', g1, fun q hq => hq.elim (hS q) (fun e => Nat.le_trans h.bel.size e)⟩, h.lo, fr_hs h.bel g4 h.lo hS, g3, fun y hy => ?_⟩, g2⟩
  rcases List.mem_append.1 (g2.subset hy) with hy | hy
  · exact h.dom y hy
  · simp at hy; subst hy; exact hk
theorem hs_next {D : Int → ByteArray → Prop} (hC : ∀ k c k' c', D k c → D k' c' → ∀ w, Calls Try.prog 26 #[.string c, .string c'] w fun e w' => e = .returned (.int .i64 (cmpI k k')) ∧ w' = w) {W w : World} {b : Nat} {l : List Tr} {p : Int} (h : Hs D W w b l p) (hl : l.length ≤ 10) (h0 : 0 < l.length) :
    Calls Try.prog 8 #[.pointer (some ⟨b, 0, none⟩)] w fun e w' => e = .returned (.tuple #[.string (tr l 0).c, .int .i64 (tr l 0).v, .bool true]) ∧ ∃ l', Hs D W w' b l' p ∧ l'.Perm (low l) := by
  obtain ⟨S, v, hh, hS⟩ := h.ex
  refine (next_some hh (by omega) h.hep h0 hC h.dom).mono ?_
  rintro e w' ⟨rfl, v', l', g1, g2, g3, g4⟩
  exact ⟨rfl, l', ⟨⟨_, v', g1, hS⟩, h.lo, fr_hs h.bel g4 h.lo hS, g3, fun y hy => h.dom y ((low_perm h0).subset (List.mem_cons_of_mem _ (g2.subset hy)))⟩, g2⟩
theorem hs_none {D : Int → ByteArray → Prop} {W w : World} {b : Nat} {l : List Tr} {p : Int} (h : Hs D W w b l p) (hl : l = []) :
    Calls Try.prog 8 #[.pointer (some ⟨b, 0, none⟩)] w fun e w' => e = .returned (.tuple #[.string ByteArray.empty, .int .i64 0, .bool false]) ∧ Below W.heap.size W w' := by
  subst hl
  obtain ⟨S, v, hh, hS⟩ := h.ex
  refine (next_none hh).mono ?_
  rintro e w' ⟨rfl, hB⟩
  exact ⟨rfl, h.bel.trans (hB.mono h.bel.size)⟩
theorem hs_len {D : Int → ByteArray → Prop} {W w : World} {b : Nat} {l : List Tr} {p : Int} (h : Hs D W w b l p) :
    Calls Try.prog 9 #[.pointer (some ⟨b, 0, none⟩)] w fun e w' => e = .returned (.int .i64 (l.length : Int)) ∧ w' = w := by
  obtain ⟨S, v, hh, hS⟩ := h.ex
  exact len_any hh
/-- Who comes out first, and what is left. -/
theorem next_is {l m : List Tr} {x : Tr} (hh : Hep l) (hp : l.Perm (x :: m)) (hx : ∀ y ∈ m, le x y ∧ y.n ≠ x.n) : tr l 0 = x ∧ (low l).Perm m ∧ 0 < l.length := by
  have h0 : 0 < l.length := by rw [hp.length_eq]; simp
  have e : tr l 0 = x := by
    rcases List.mem_cons.1 (hp.subset (tr_mem h0)) with h | h
    · exact h
    · obtain ⟨j, hj, ej⟩ := mem_tr (hp.symm.subset (List.mem_cons_self))
      have h1 := hh.first j hj
      rw [ej] at h1
      have h2 := hx _ h
      unfold le at h1 h2
      omega
  refine ⟨e, ?_, h0⟩
  have h1 := (low_perm h0).trans hp
  rw [e] at h1
  exact (List.perm_cons _).1 h1
end Go.Proofs.Ytailcefgkgpalaa.Ss
