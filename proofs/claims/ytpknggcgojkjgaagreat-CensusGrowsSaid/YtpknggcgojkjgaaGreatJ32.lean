import Derived.Test.YtpknggcgojkjgaaGreatJ23
import Derived.Test.YtpknggcgojkjgaaGreatJ31
import Derived.Test.YtpknggcgojkjgaaGreatJ24
import Derived.Test.YtpknggcgojkjgaaGreatJ27
/-
  The document's First, joined.
-/
namespace Go.Proofs.YtpknggcgojkjgaaGreat.Wr
open Go.RowKit
open Wc Wm
theorem refFirst_all (a0 a1 a2 a3 a4 a5 a6 u : Int) (n : Nat) (w : World) (hok : Ok a1 a2 a5 a6) (hn : base a1 a2 a5 a6 14 = (n : Int)) (h0 : 0 ≤ u) (h1 : u ≤ a5) :
    Calls Tryz.prog 54 #[.agg #[.int .i64 a0, .int .i64 a1, .int .i64 a2, .int .i64 a3, .int .i64 a4, .int .i64 a5, .int .i64 a6], .int .i64 u] w fun e w' =>
      ∃ b : Nat, e = .returned (.slice (some ⟨b, 0, none⟩) n n) ∧ w.heap.size ≤ b ∧ Row w' b n (fstF a1 a2 a5 a6 u) ∧ Below w.heap.size w w' := by
  obtain ⟨n', m, hn', hm, g1, g2, g3, g4⟩ := sizes hok
  obtain rfl : n' = n := by omega
  obtain ⟨U, rfl⟩ := Int.eq_ofNat_of_zero_le h0
  unfold fstF
  rw [hm]
  by_cases c1 : (U : Int) < a5
  · rw [if_pos c1, if_pos c1]
    by_cases c2 : 0 < U
    · rw [if_pos (by omega)]
      exact refFirst_a a0 a1 a2 a3 a4 a5 a6 U n' m w hok hn hm g1 g2 g3 g4 c1 c2
    · obtain rfl : U = 0 := by omega
      rw [if_neg (by omega)]
      exact refFirst_b a0 a1 a2 a3 a4 a5 a6 n' m w hok hn hm g1 g2 g3 g4 (by omega)
  · rw [if_neg c1, if_neg c1]
    have o := hok
    obtain ⟨o1, o2, o3, o4, o5, o6, o7, o8⟩ := o
    rw [if_pos (by omega)]
    exact refFirst_c a0 a1 a2 a3 a4 a5 a6 U n' m w hok hn hm g1 g2 g3 g4 (by omega) (by omega)
end Go.Proofs.YtpknggcgojkjgaaGreat.Wr
/-
  CENSUS: the small configuration and its blank run.
-/
namespace Go.Proofs.YtpknggcgojkjgaaGreat.Cn
open Go.RowKit Mr Md
set_option linter.unusedVariables false
set_option linter.unusedSimpArgs false
set_option maxRecDepth 100000
def cS : Nat → Int
  | 0 => 1 | 1 => 1 | 2 => 3 | 3 => 1 | 4 => 0 | 5 => 2 | _ => 1
theorem cS_N : Wm.base 1 3 2 1 14 = ((19 : Nat) : Int) := by decide
theorem cS_bounds : bL cS = 4 ∧ bW cS = 769 ∧ cB cS = true := by decide
set_option maxHeartbeats 4000000 in
theorem small_any (w : World) : Calls Tryz.prog 26 #[] w fun r w' => r = .returned (cfgV cS) ∧ Below w.heap.size w w' := by
  have hB : Hid (Below w.heap.size w (w.alloc (cfO cS))) := (Below.refl _ w).alloc (Nat.le_refl _) _
  unfold cfO cS at hB
  go_enter Tryz.func26, Tryz.ntmps26
  go_wp2
  refine bodyPost_ret (v := cfgV cS) (by simp [results, Tryz.results26, go_sem, cfgV, cS, *]) rfl ?_
  exact ⟨rfl, hB.out⟩
theorem rowFr {w w' : World} {b n k0 : Nat} {f : Nat → Int} (h : Wr.Row w b n f) (hF : Fr w w' (fun k => k = k0)) (hn : b ≠ k0) : Wr.Row w' b n f :=
  ⟨fun k hk => (frc hF h.size hn k).trans (h.cell k hk), fun k hk => by have := hF.block b h.size hn; have h2 := h.free k hk; simp only [World.frozen?, this] at h2 ⊢; exact h2, Nat.lt_of_lt_of_le h.size hF.size⟩
set_option maxHeartbeats 8000000 in
theorem blank_any (w : World) : Calls Tryz.prog 27 #[] w fun r w' => Below w.heap.size w w' ∧ ∃ b, r = .returned (rnV (.slice none 0 0) (.slice none 0 0) (.slice none 0 0) (.slice (some ⟨b, 0, none⟩) 19 19)) ∧ w.heap.size ≤ b ∧ Wr.Row w' b 19 (Wr.fstF 1 3 2 1 0) := by
  have SM := Mr.hid small_any
  have FC := Mr.hid (fun w => Wr.refFirst_all 1 1 3 1 0 2 1 0 19 w ⟨by decide, by decide, by decide, by decide, by decide, by decide, by decide, by decide⟩ cS_N (by decide) (by decide))
  have hB : Hid (Below w.heap.size w (w.alloc (rnO (.slice none 0 0) (.slice none 0 0) (.slice none 0 0) (.slice none 0 0)))) := (Below.refl _ w).alloc (Nat.le_refl _) _
  have hb : Hid ((w.alloc (rnO (.slice none 0 0) (.slice none 0 0) (.slice none 0 0) (.slice none 0 0))).heap[w.heap.size]? = some (rnO (.slice none 0 0) (.slice none 0 0) (.slice none 0 0) (.slice none 0 0))) := heap_alloc_new _ _
  unfold cfgV cS at SM
  unfold rnO at hB hb
  go_enter Tryz.func27, Tryz.ntmps27
  go_upto_region 1 with (fail)
  generalize (w.alloc _) = wa at *
  have bl := (Array.getElem?_eq_some_iff.1 hb.out).1
  go_wp2_with (first | (go_at_call 26; refine (SM.out _).mono ?_; clear SM; rintro e1 w1 ⟨rfl, hB1⟩; replace hB1 := Mr.hid hB1) | (go_at_call 54; refine (FC.out _).mono ?_; clear FC; rintro e2 w2 ⟨b, rfl, hbl, hrow, hB2⟩; have B2 := Mr.hid (hB1.out.trans (hB2.mono hB1.out.size)); have hb2 := Mr.hid ((B2.out.block _ bl).trans hb.out); obtain ⟨q0, q1, q2, q3, ql⟩ := rnO_cells hb2.out; have zf : ∀ k, w2.frozen? ⟨w.heap.size, k, none⟩ = false := (fun k => by simp [World.frozen?, hb2.out]); replace hrow := Mr.hid hrow; replace hbl := Mr.hid hbl; clear hB2))
  have F3 : Fr w2 ((((w2.setCell ⟨w.heap.size, 0, none⟩ (.slice none 0 0)).setCell ⟨w.heap.size, 1, none⟩ (.slice none 0 0)).setCell ⟨w.heap.size, 2, none⟩ (.slice none 0 0)).setCell ⟨w.heap.size, 3, none⟩ (.slice (some ⟨b, 0, none⟩) 19 19)) (fun k => k = w.heap.size) := ((((Fr.refl w2 (fun k => k = w.heap.size)).setCell ⟨w.heap.size, 0, none⟩ _ (.inl rfl)).setCell ⟨w.heap.size, 1, none⟩ _ (.inl rfl)).setCell ⟨w.heap.size, 2, none⟩ _ (.inl rfl)).setCell ⟨w.heap.size, 3, none⟩ _ (.inl rfl)
  have h4 : ((((w2.setCell ⟨w.heap.size, 0, none⟩ (.slice none 0 0)).setCell ⟨w.heap.size, 1, none⟩ (.slice none 0 0)).setCell ⟨w.heap.size, 2, none⟩ (.slice none 0 0)).setCell ⟨w.heap.size, 3, none⟩ (.slice (some ⟨b, 0, none⟩) 19 19)).heap[w.heap.size]? = some (rnO (.slice none 0 0) (.slice none 0 0) (.slice none 0 0) (.slice (some ⟨b, 0, none⟩) 19 19)) := setBlk (setBlk (setBlk (setBlk hb2.out 0 (.slice none 0 0)) 1 (.slice none 0 0)) 2 (.slice none 0 0)) 3 (.slice (some ⟨b, 0, none⟩) 19 19)
  clear q0 q1 q2 q3 ql zf
  generalize ((((w2.setCell _ _).setCell _ _).setCell _ _).setCell _ _) = w3 at *
  obtain ⟨q0, q1, q2, q3, ql⟩ := rnO_cells h4
  have hne : b ≠ w.heap.size := by have := hbl.out; have := hB1.out.size; omega
  have hR := rowFr hrow.out F3 hne
  have BB : Below w.heap.size w w3 := by
    have h1 := hB.out.trans (B2.out.mono hB.out.size)
    exact ⟨F3.os.trans h1.os, F3.tape.trans h1.tape, F3.output.trans h1.output, Nat.le_trans h1.size F3.size, fun k hk => (F3.block k (Nat.lt_of_lt_of_le hk h1.size) (by omega)).trans (h1.block k hk)⟩
  have hbb : w.heap.size ≤ b := by have := hbl.out; have := hB1.out.size; omega
  refine bodyPost_ret (v := rnV (.slice none 0 0) (.slice none 0 0) (.slice none 0 0) (.slice (some ⟨b, 0, none⟩) 19 19)) (by clear hR BB F3 h4; simp [results, Tryz.results27, go_sem, rnV, *]) rfl ?_
  exact ⟨BB, b, rfl, hbb, hR⟩
end Go.Proofs.YtpknggcgojkjgaaGreat.Cn
