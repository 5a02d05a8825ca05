/-
  SCHEDULE: the heap's rise.
-/
import Derived.Test.YtailcefgkgpalaaSsExch
namespace Go.Proofs.Ytailcefgkgpalaa.Ss
open Go.RowKit Mr Md Sh
set_option linter.unusedVariables false
set_option linter.unusedSimpArgs false
set_option maxRecDepth 100000
set_option maxHeartbeats 8000000 in
theorem rise_any {D : Int → ByteArray → Prop} {w : World} {b : Nat} {S : Nat → Prop} {v : Value} {l : List Tr} {p : Int} (h : Hh w b S v l p) (i : Nat) (hi : i < l.length) (hlm : l.length ≤ 10000000000000) (hu : Up l i) (hC : ∀ k c k' c', D k c → D k' c' → ∀ w, Calls Try.prog 26 #[.string c, .string c'] w fun e w' => e = .returned (.int .i64 (cmpI k k')) ∧ w' = w) (hD : ∀ x ∈ l, D x.k x.c) :
    Calls Try.prog 14 #[.pointer (some ⟨b, 0, none⟩), .int .i64 (i : Int)] w fun e w' => e = .returned (.tuple #[]) ∧ ∃ l', Hh w' b S v l' p ∧ l'.Perm l ∧ Hep l' ∧ Fr w w' S := by
  obtain ⟨n, hn⟩ : ∃ n, n = l.length := ⟨_, rfl⟩
  rw [← hn] at hi hlm
  replace hn := Mr.hid hn
  replace hC := Mr.hid hC
  replace hD := Mr.hid hD
  replace h := Mr.hid h
  replace hu := Mr.hid hu
  go_enter Try.func14, Try.ntmps14
  go_wp2
  go_loopg [1] i (fun k s1 wr => ∃ (q : Nat) (l' : List Tr), s1 = .int .i64 (q : Int) ∧ q = k ∧ q < n ∧ Hh wr b S v l' p ∧ l'.Perm l ∧ Up l' q ∧ Fr w wr S)
  case atStart => exact ⟨i, l, rfl, rfl, hi, h.out, List.Perm.refl _, hu.out, Fr.refl _ _⟩
  case round =>
    clear hi hu
    obtain ⟨q, l', rfl, hq, hqn, hh, hp, hu, hf⟩ := hrel
    replace hq := Mr.hid hq
    have hl' : l'.length = n := by rw [hp.length_eq]; exact hn.out.symm
    by_cases h0 : q = 0
    · have hE : Hep l' := by rw [h0] at hu; exact hu.top
      have dl : decide ((0 : Int) < (q : Int)) = false := decide_eq_false (by omega)
      have dl2 : decide (0 < q) = false := decide_eq_false (by omega)
      have hend : Hid (∃ l', Hh wr b S v l' p ∧ l'.Perm l ∧ Hep l' ∧ Fr w wr S) := ⟨l', hh, hp, hE, hf⟩
      clear h0 hE hh hp hu hf hl'
      go_wp2
      go_end0
      exact ⟨rfl, hend.out⟩
    · obtain ⟨r, rfl⟩ : ∃ r, q = r + 1 := ⟨q - 1, by omega⟩
      have hpar : (r + 1 - 1) / 2 = r / 2 := by simp
      clear h0
      have dl : (0 : Int) < (r : Int) + 1 := by omega
      have hw1 : IntKind.i64.wrap ((r : Int) + 1 - 1) = (r : Int) := by rw [show (r : Int) + 1 - 1 = (r : Int) from by omega]; exact i64x _ (by omega) (by omega)
      have hw2 : IntKind.i64.wrap (r : Int) = (r : Int) := i64x _ (by omega) (by omega)
      have c1 : ((r + 1 : Nat) : Int) = (r : Int) + 1 := by omega
      have c2 : ((r / 2 : Nat) : Int) = (r : Int) / 2 := by omega
      by_cases ha : ahd (tr l' (r + 1)) (tr l' (r / 2))
      · have A := ahead_any hh (r + 1) (r / 2) (by omega) (by omega) hC.out (hD.out _ (hp.subset (tr_mem (by omega)))) (hD.out _ (hp.subset (tr_mem (by omega)))) true ⟨fun _ => ha, fun _ => rfl⟩
        have X := fun w1 (hB : Below wr.heap.size wr w1) => exch_any (hh.below hB) (r + 1) (r / 2) (by omega) (by omega) (by omega)
        rw [c1, c2] at A X
        have hn2 : Hid ((swp l' (r + 1) (r / 2)).Perm l) := (swp_perm (by omega) (by omega)).trans hp
        have hu2 : Hid (Up (swp l' (r + 1) (r / 2)) (r / 2)) := by
          have := hu.step (by omega) (by omega) (by rw [hpar]; exact ha)
          rw [hpar] at this
          exact this
        replace A := Mr.hid A
        replace X := Mr.hid X
        replace c1 := Mr.hid c1
        replace c2 := Mr.hid c2
        clear hp hu ha hpar hh hl'
        replace hf := Mr.hid hf
        go_upto_region 3 with (go_at_call 21; refine A.out.mono ?_; clear A; rintro e w1 ⟨rfl, hB1⟩; replace X := Mr.hid (X.out _ hB1); replace hf := Mr.hid (hf.out.trans (Fr.of_below hB1)); clear hB1)
        go_wp2_with (go_at_call 22; refine X.out.mono ?_; clear X; rintro e w2 ⟨rfl, hh2, hf2⟩; replace hh2 := Mr.hid hh2; replace hf := Mr.hid (hf.out.trans (hf2.mono (fun k hk => Or.inl hk))); clear hf2)
        go_roundg (r / 2)
        case measure => have := hq.out; omega
        case rel => exact ⟨r / 2, _, by rw [c2.out], rfl, by omega, hh2.out, hn2.out, hu2.out, hf.out⟩
      · have A := ahead_any hh (r + 1) (r / 2) (by omega) (by omega) hC.out (hD.out _ (hp.subset (tr_mem (by omega)))) (hD.out _ (hp.subset (tr_mem (by omega)))) false ⟨fun e => (by cases e), fun e => absurd e ha⟩
        rw [c1, c2] at A
        have hE : Hep l' := hu.stop (by rw [hpar]; exact ha)
        have hend : Hid (∀ w1, Below wr.heap.size wr w1 → ∃ l', Hh w1 b S v l' p ∧ l'.Perm l ∧ Hep l' ∧ Fr w w1 S) := fun w1 hB => ⟨l', hh.below hB, hp, hE, hf.trans (Fr.of_below hB)⟩
        replace A := Mr.hid A
        replace c1 := Mr.hid c1
        replace c2 := Mr.hid c2
        clear hp hu ha hpar hh hf hE hl'
        go_wp2_with (go_at_call 21; refine A.out.mono ?_; clear A; rintro e w1 ⟨rfl, hB1⟩; replace hend := Mr.hid (hend.out _ hB1); clear hB1)
        (try simp only [Exit.inBlock, Exit.then])
        refine bodyPost_ret (results_none rfl _ _ _) rfl ?_
        exact ⟨rfl, hend.out⟩
end Go.Proofs.Ytailcefgkgpalaa.Ss
