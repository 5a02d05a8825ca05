/-
  SCHEDULE: the heap's exchange.
-/
import Derived.Test.YtailcefgkgpalaaSfAhead
import Derived.BigRegion
namespace Go.Proofs.Ytailcefgkgpalaa.Sf
open Go.RowKit Mr Md Sh
attribute [local go_sem] run_store_flt
set_option linter.unusedVariables false
set_option linter.unusedSimpArgs false
set_option maxRecDepth 100000
set_option maxHeartbeats 16000000 in
theorem exch_any {w : World} {b : Nat} {S : Nat → Prop} {v : Value} {l : List Tr} {p : Int} (h : Hh w b S v l p) (i j : Nat) (hi : i < l.length) (hj : j < l.length) (hij : i ≠ j) :
    Calls Try.prog 24 #[.pointer (some ⟨b, 0, none⟩), .int .i64 (i : Int), .int .i64 (j : Int)] w fun e w' => e = .returned (.tuple #[]) ∧ Hh w' b S v (swp l i j) p ∧ Fr w w' S := by
  obtain ⟨g, cap, rfl, hS, hgl, hcp, hcm⟩ := h.there (by omega)
  have k0 := h.c0
  have kl := h.lt
  have hne : b ≠ g := fun e => h.nb (e ▸ hS)
  have hne2 : g ≠ b := Ne.symm hne
  obtain ⟨a0, a1, a2, af⟩ := h.cell hi
  obtain ⟨b0, b1, b2, bf⟩ := h.cell hj
  have hX : Hid (Hh (put3 (put3 w g i (tr l j)) g j (tr l i)).drew b S (.slice (some ⟨g, 0, none⟩) l.length cap) (swp l i j) p ∧ Fr w (put3 (put3 w g i (tr l j)) g j (tr l i)).drew S) := by
    have h2 := (h.put hi (tr l j) hS).put (i := j) (by simpa using hj) (tr l i) hS
    exact ⟨h2.below ((Below.refl _ _).drew), (fr_put3 (fr_put3 (Fr.refl w S) g i _ hS) g j _ hS).drew⟩
  have f0 := af (i * 3)
  have f1 := af (i * 3 + 1)
  have f2 := af (i * 3 + 2)
  have f3 := af (j * 3)
  have f4 := af (j * 3 + 1)
  have f5 := af (j * 3 + 2)
  generalize tr l i = x at *
  generalize tr l j = y at *
  obtain ⟨n, hn⟩ : ∃ n, n = l.length := ⟨_, rfl⟩
  rw [← hn] at hi hj k0
  replace hn := Mr.hid hn
  replace h := Mr.hid h
  have hiI : (i : Int) < (n : Int) := by omega
  have hjI : (j : Int) < (n : Int) := by omega
  have hi0 : (0 : Int) ≤ (i : Int) := by omega
  have hj0 : (0 : Int) ≤ (j : Int) := by omega
  clear hcp hcm af bf
  unfold put3 at hX
  go_enter Try.func24, Try.ntmps24
  go_upto_region 0 with (fail)
  go_region
  go_end0
  exact ⟨rfl, hX.out.1, hX.out.2⟩
end Go.Proofs.Ytailcefgkgpalaa.Sf
