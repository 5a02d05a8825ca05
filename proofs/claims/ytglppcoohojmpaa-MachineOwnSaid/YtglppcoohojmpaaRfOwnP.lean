import Derived.Test.YtglppcoohojmpaaRfSpoilt
import Derived.Test.YtglppcoohojmpaaRfLive
/-
  Runs in their boxes, with the blocks that their rows lie in.
-/
namespace Go.Proofs.Ytglppcoohojmpaa.Rf
open Go.RowKit Go.Shelf Mr Me Ma
set_option linter.unusedVariables false
def itv (lo hi : Nat) : Nat → Prop := fun k => lo ≤ k ∧ k < hi
/-- A run's rows. -/
structure Rw (W : World) (S : Nat → Prop) (v1 v2 v3 v4 : Value) (l1 : List Cl) (l2 : List Acc) (l3 : List Sf) (l4 : List Int) : Prop where
  h1 : Has W S 78 9 v1 l1.length (clc l1)
  h2 : Has W S 128 7 v2 l2.length (lgc l2)
  h3 : Has W S 130 5 v3 l3.length (sfc l3)
  h4 : Has W S 59 1 v4 l4.length (wrd l4)
/-- A run in its box. -/
structure Rx (W : World) (B : Nat) (S : Nat → Prop) (v1 v2 v3 v4 : Value) (l1 : List Cl) (l2 : List Acc) (l3 : List Sf) (l4 : List Int) : Prop where
  b : W.heap[B]? = some (.cells #[v1, v2, v3, v4] 53 (0, 0))
  r : Rw W S v1 v2 v3 v4 l1 l2 l3 l4
section
variable {W W' : World} {B : Nat} {S T : Nat → Prop} {v1 v2 v3 v4 : Value} {l1 : List Cl} {l2 : List Acc} {l3 : List Sf} {l4 : List Int}
theorem Rw.fr (h : Rw W S v1 v2 v3 v4 l1 l2 l3 l4) (hf : Fr W W' T) (hd : ∀ k, S k → k < W.heap.size → ¬ T k) : Rw W' S v1 v2 v3 v4 l1 l2 l3 l4 := ⟨h.h1.fr hf hd, h.h2.fr hf hd, h.h3.fr hf hd, h.h4.fr hf hd⟩
theorem Rw.below (h : Rw W S v1 v2 v3 v4 l1 l2 l3 l4) (hB : Below W.heap.size W W') : Rw W' S v1 v2 v3 v4 l1 l2 l3 l4 := ⟨h.h1.below hB, h.h2.below hB, h.h3.below hB, h.h4.below hB⟩
theorem Rw.mono (h : Rw W S v1 v2 v3 v4 l1 l2 l3 l4) (hd : ∀ k, S k → T k) : Rw W T v1 v2 v3 v4 l1 l2 l3 l4 := ⟨h.h1.mono hd, h.h2.mono hd, h.h3.mono hd, h.h4.mono hd⟩
theorem Rx.lt (h : Rx W B S v1 v2 v3 v4 l1 l2 l3 l4) : B < W.heap.size := (Array.getElem?_eq_some_iff.1 h.b).1
theorem Rx.fr (h : Rx W B S v1 v2 v3 v4 l1 l2 l3 l4) (hf : Fr W W' T) (hB : ¬ T B) (hd : ∀ k, S k → k < W.heap.size → ¬ T k) : Rx W' B S v1 v2 v3 v4 l1 l2 l3 l4 := ⟨(hf.block B h.lt hB).trans h.b, h.r.fr hf hd⟩
theorem Rx.below (h : Rx W B S v1 v2 v3 v4 l1 l2 l3 l4) (hB : Below W.heap.size W W') : Rx W' B S v1 v2 v3 v4 l1 l2 l3 l4 := ⟨(hB.block B h.lt).trans h.b, h.r.below hB⟩
theorem Rx.cells (h : Rx W B S v1 v2 v3 v4 l1 l2 l3 l4) : W.cell? ⟨B, 0, none⟩ = some v1 ∧ W.cell? ⟨B, 1, none⟩ = some v2 ∧ W.cell? ⟨B, 2, none⟩ = some v3 ∧ W.cell? ⟨B, 3, none⟩ = some v4 ∧ B < W.heap.size := by
  refine ⟨?_, ?_, ?_, ?_, h.lt⟩ <;> simp [World.cell?, h.b]
theorem Rw.forms (h : Rw W S v1 v2 v3 v4 l1 l2 l3 l4) : (∃ p n q, v1 = .slice p n q) ∧ (∃ p n q, v2 = .slice p n q) ∧ (∃ p n q, v3 = .slice p n q) ∧ (∃ p n q, v4 = .slice p n q) := by
  obtain ⟨a1, c1, e1, _⟩ := h.h1.form
  obtain ⟨a2, c2, e2, _⟩ := h.h2.form
  obtain ⟨a3, c3, e3, _⟩ := h.h3.form
  obtain ⟨a4, c4, e4, _⟩ := h.h4.form
  exact ⟨⟨_, _, _, e1⟩, ⟨_, _, _, e2⟩, ⟨_, _, _, e3⟩, ⟨_, _, _, e4⟩⟩
theorem Rw.box (h : Rw W S v1 v2 v3 v4 l1 l2 l3 l4) : Rx (W.alloc (.cells #[v1, v2, v3, v4] 53)) W.heap.size S v1 v2 v3 v4 l1 l2 l3 l4 := ⟨heap_alloc_new W _, h.below ((Below.refl _ _).alloc (Nat.le_refl _) _)⟩
/-- Spoil of a run in its box. -/
theorem spoil_rx {lo hi : Nat} (h : Rx W B (itv lo hi) v1 v2 (.slice none 0 0) v4 l1 l2 [] l4) (hhi : hi ≤ W.heap.size) (hB : B < lo ∨ hi ≤ B) (mark : Int) (m0 : 0 ≤ mark) (m1 : mark ≤ 10000) (b1 : l1.length ≤ 100000) (b2 : l2.length ≤ 100000) (b4 : l4.length ≤ 100000) :
    Calls Try.prog 28 #[.agg #[v1, v2, .slice none 0 0, v4], .int .i64 mark] W fun e w' => ∃ u1 u2 u3 u4, e = .returned (.agg #[u1, u2, u3, u4]) ∧ Fr W w' (itv lo hi) ∧ Rw w' (fun k => itv lo hi k ∨ W.heap.size + 2 ≤ k) u1 u2 u3 u4 (spl (mC mark) (aC mark) l1.length 70) (spl (mA mark) (aA mark) l2.length 70) (spl (aS mark) (aS mark) 0 70) (spl (mW mark) (aW mark) l4.length 70) ∧ Rx w' B (itv lo hi) v1 v2 (.slice none 0 0) v4 (spl (mC mark) (aC mark) l1.length 0) (spl (mA mark) (aA mark) l2.length 0) (spl (aS mark) (aS mark) 0 0) (spl (mW mark) (aW mark) l4.length 0) := by
  refine (Spoil_any h.r.h1 h.r.h2 h.r.h4 (fun k hk => by have := hk.2; omega) mark m0 m1 b1 b2 b4).mono ?_
  rintro e w' ⟨u1, u2, u3, u4, rfl, g1, g2, g3, g4, j1, j2, j4, hF⟩
  have e1 := spl_len (mC mark) (aC mark) l1.length 70
  have e2 := spl_len (mA mark) (aA mark) l2.length 70
  have e3 := spl_len (aS mark) (aS mark) 0 70
  have e4 := spl_len (mW mark) (aW mark) l4.length 70
  have z1 := spl_zero (mC mark) (aC mark) l1.length
  have z2 := spl_zero (mA mark) (aA mark) l2.length
  have z3 : spl (aS mark) (aS mark) 0 0 = [] := by simp [spl]
  have z4 := spl_zero (mW mark) (aW mark) l4.length
  refine ⟨u1, u2, u3, u4, rfl, hF, ⟨by rw [e1]; exact g1, by rw [e2]; exact g2, by rw [e3]; exact g3, by rw [e4]; exact g4⟩, ⟨(hF.block B h.lt (fun hk => by have := hk.1; have := hk.2; omega)).trans h.b, ⟨?_, ?_, ?_, ?_⟩⟩⟩
  · rw [z1, List.length_map, List.length_range]; exact j1
  · rw [z2, List.length_map, List.length_range]; exact j2
  · rw [z3]; exact Has.nil _ _ _ _
  · rw [z4, List.length_map, List.length_range]; exact j4
/-- Spoilt of such a run. -/
theorem spoilt_rx {u1 u2 u3 u4 : Value} {k : Nat} {mark : Int} (h : Rw W S u1 u2 u3 u4 (spl (mC mark) (aC mark) l1.length k) (spl (mA mark) (aA mark) l2.length k) (spl (aS mark) (aS mark) 0 k) (spl (mW mark) (aW mark) l4.length k)) (g : Rw W T v1 v2 (.slice none 0 0) v4 l1 l2 [] l4) (m0 : 0 ≤ mark) (m1 : mark ≤ 10000) (b1 : l1.length ≤ 100000) (b2 : l2.length ≤ 100000) (b4 : l4.length ≤ 100000) (bk : k ≤ 100) :
    Calls Try.prog 29 #[.agg #[u1, u2, u3, u4], .agg #[v1, v2, .slice none 0 0, v4], .int .i64 mark] W fun e w' => e = .returned (.bool true) ∧ Below W.heap.size W w' := by
  have e1 := spl_len (mC mark) (aC mark) l1.length k
  have e2 := spl_len (mA mark) (aA mark) l2.length k
  have e3 := spl_len (aS mark) (aS mark) 0 k
  have e4 := spl_len (mW mark) (aW mark) l4.length k
  rw [Nat.zero_add] at e3
  obtain ⟨q1, q2, q3, q4⟩ := h
  rw [e1] at q1
  rw [e2] at q2
  rw [e3] at q3
  rw [e4] at q4
  obtain ⟨_, _, x1, _⟩ := g.h1.form
  obtain ⟨_, _, x2, _⟩ := g.h2.form
  obtain ⟨_, _, x4, _⟩ := g.h4.form
  exact Spoilt_any q1 q2 q3 q4 ⟨_, _, x1⟩ ⟨_, _, x2⟩ ⟨_, _, x4⟩ m0 m1 b1 b2 b4 bk
theorem same_rx {u1 u2 u4 : Value} (h : Rw W S u1 u2 (.slice none 0 0) u4 l1 l2 [] l4) (g : Rw W T v1 v2 (.slice none 0 0) v4 l1 l2 [] l4) (b1 : l1.length ≤ 100000) (b2 : l2.length ≤ 100000) (b4 : l4.length ≤ 100000) :
    Calls Try.prog 16 #[.agg #[u1, u2, .slice none 0 0, u4], .agg #[v1, v2, .slice none 0 0, v4]] W fun e w' => e = .returned (.bool true) ∧ Below W.heap.size W w' :=
  sameR h.h1 g.h1 (by omega) h.h2 g.h2 (by omega) h.h4 g.h4 (by omega)
end
theorem live_rw {W : World} {U : Nat → Prop} {k0 k1 : Nat} {q : Ph} {P : Pm} (h : Lv W U k0 k1 q P) : Calls Try.prog 17 #[.pointer (some ⟨q.b, 0, none⟩)] W fun e w' => ∃ v1 v2 v4, e = .returned (.agg #[v1, v2, .slice none 0 0, v4]) ∧ Rw w' (itv W.heap.size w'.heap.size) v1 v2 (.slice none 0 0) v4 P.cls P.lg [] P.ws ∧ Below W.heap.size W w' := by
  refine (live_run h).mono ?_
  rintro e w' ⟨v1, v2, v4, rfl, h1, h2, h4, hB⟩
  have up : ∀ {e sz n : Nat} {v : Value} {xs : List Value}, Has w' (fun k => W.heap.size ≤ k) e sz v n xs → Has w' (itv W.heap.size w'.heap.size) e sz v n xs := fun hh => hh.kept (fun _ _ => rfl) (fun k hk => ⟨(hh.lt k hk).1, (hh.lt k hk).2⟩)
  exact ⟨v1, v2, v4, rfl, ⟨up h1, up h2, Has.nil _ _ _ _, up h4⟩, hB⟩
/-- The order of what the law makes. -/
structure Od (w B3 t3 k1 sa ta sb tb Ba Bb sp tp Bp sq tq Bq : Nat) : Prop where
  a0 : w < B3
  a1 : t3 ≤ B3
  a2 : B3 < sa
  a3 : k1 ≤ sa
  a4 : ta ≤ sb
  a5 : tb ≤ Ba
  a5' : tb ≤ Bb
  a6 : Ba < sp
  a6' : Bb < sp
  a7 : tp ≤ Bp
  a8 : Bp < sq
  a9 : tq ≤ Bq
  e0 : sa ≤ ta
  e1 : sb ≤ tb
  e2 : sp ≤ tp
  e3 : sq ≤ tq
theorem Lv.itv {W W' : World} {U : Nat → Prop} {k0 k1 lo hi : Nat} {q : Ph} {P : Pm} (h : Lv W U k0 k1 q P) (hf : Fr W W' (itv lo hi)) (hU : ∀ k, U k → k < lo) (hk : k1 ≤ lo) (hl : lo ≤ W.heap.size) : Lv W' U k0 k1 q P :=
  h.kept (fun k hk' => hf.block k (by rcases hk' with g | g; exact h.ul k g; omega) (fun g => by have := g.1; rcases hk' with g' | g'; have := hU k g'; omega; omega)) hf.size
end Go.Proofs.Ytglppcoohojmpaa.Rf
