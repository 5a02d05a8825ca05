/-
  THE WALK of WordTexts.
-/
import Derived.Test.YtpmpdkpnjfidhaaDoorRefParseC
namespace Go.Proofs.YtpmpdkpnjfidhaaDoor.St
open Go.RowKit
open Go.Lib (decDigits)
open Tr Wp
set_option linter.unusedVariables false
theorem sh37 : shw 1 12884901896 = (⟨#[51, 58, 55]⟩, 0) := by
  rw [shw_in 1 12884901896 (by omega) (by omega), if_pos (by decide)]
  unfold shH
  rw [if_neg (by decide)]
  have e1 : (12884901896 : Int) / 4294967296 = ((3 : Nat) : Int) := by decide
  have e2 : (12884901896 : Int) % 4294967296 - 1 = ((7 : Nat) : Int) := by decide
  rw [e1, e2, slot_nat]
  refine congrArg (·, (0 : Int)) (ba_ext ?_)
  rw [app_list, app_list, dec_list, dec_list, Lib.decDigits_one (by decide), Lib.decDigits_one (by decide)]
  rfl
theorem shw_bad (r x : Int) (h1 : 1 ≤ r) (h2 : r ≤ 13) (h : (shw r x).2 ≠ 0) : shw r x = (⟨#[]⟩, 10) := by
  rw [shw_in r x h1 h2] at h ⊢
  rcases tKind_cases r h1 h2 with ht | ht | ht | ht | ht
  · rw [if_pos ht] at h ⊢
    unfold shH at h ⊢
    split at h
    · rename_i hb; rw [if_pos hb]
    · exact absurd rfl h
  · rw [if_neg (by omega), if_pos ht] at h ⊢
    unfold shP at h ⊢
    split at h
    · rename_i hb; rw [if_pos hb]
    · exact absurd rfl h
  · rw [if_neg (by omega), if_neg (by omega), if_pos ht] at h ⊢
    unfold shF at h ⊢
    split at h
    · rename_i hb; rw [if_pos hb]
    · exact absurd rfl h
  · rw [if_neg (by omega), if_neg (by omega), if_neg (by omega), if_neg (by omega)] at h ⊢
    exact absurd rfl h
  · rw [if_neg (by omega), if_neg (by omega), if_neg (by omega), if_pos ht] at h ⊢
    unfold shL at h ⊢
    split at h
    · rename_i hb; rw [if_pos hb]
    · split at h <;> exact absurd rfl h
theorem pr_out (r : Int) (s : ByteArray) (h1 : 1 ≤ r) (h2 : r ≤ 13) (h : ∀ x : Int, 0 ≤ x → x ≤ 18446744073709551615 → shw r x ≠ (s, 0)) : prW r s = 0 ∧ prE r s = 12 := by
  have hin := in13 r h1 h2
  cases hi : isW r s
  · unfold prW prE yW yE
    rw [hin, hi]
    exact ⟨rfl, rfl⟩
  · have he : prE r s = 0 := by unfold prE yE; rw [hin, hi]; rfl
    exact absurd (pr_shw r s he) (h _ (prW_bd r s).1 (prW_bd r s).2)
theorem kd_ne (r : Int) (h1 : 1 ≤ r) (h2 : r ≤ 13) : (kdR r == 0) = false := by
  have hin := in13 r h1 h2
  unfold kdR
  rw [if_pos hin]
  rcases tKind_cases r h1 h2 with ht | ht | ht | ht | ht <;> rw [ht] <;> rfl
set_option maxHeartbeats 4000000 in
set_option maxRecDepth 100000 in
theorem texts (r x : Int) (s : ByteArray) (w : World) (h0 : 0 ≤ x) (hx : x ≤ 18446744073709551615) (hs : s.size ≤ 281474976710656) (E : Env w) :
    Calls Tryd.prog 5 #[.int .i64 r, .int .u64 x, .string s] w fun e w' => e = .returned (.bool true) ∧ Below w.heap.size w w' := by
  have S0 := show_any 1 12884901896 w (by omega) (by omega) E
  rw [sh37] at S0
  simp only at S0
  have S1 := fun (W : World) (V : Env W) => show_any r x W h0 hx V
  have P1 := fun (W : World) (V : Env W) => parse_any r s W hs V
  replace E := hidS E
  by_cases hr : 1 ≤ r ∧ r ≤ 13
  · obtain ⟨h1, h2⟩ := hr
    have K := fun (W : World) => kind_in r W h1 h2
    have kn := kd_ne r h1 h2
    have FT := fun (W : World) => fits_any r x W h1 h2 h0 hx
    have yes : ∀ y : Int, 0 ≤ y → y ≤ 18446744073709551615 → shw r y = (s, 0) → prW r s = y ∧ prE r s = 0 := fun y y0 y1 e => by
      have := shw_pr r y y0 y1 (by rw [e])
      rw [e] at this
      exact this
    have no := pr_out r s h1 h2
    have RP : ∀ W : World, Calls Tryd.prog 21 #[.int .i64 r, .string s] W fun e w' => (∃ (y : Int) (ok : Bool), e = .returned (.tuple #[.int .u64 y, .bool ok]) ∧ ((ok = true ∧ y = prW r s ∧ prE r s = 0) ∨ (ok = false ∧ prW r s = 0 ∧ prE r s = 12))) ∧ w' = W := fun W => (rparse_any r s W hs h1 h2).mono fun e w' ⟨hP, hw⟩ => by
      refine ⟨?_, hw⟩
      rcases hP with ⟨y, y0, y1, hy, rfl⟩ | ⟨hn, y, rfl⟩
      · exact ⟨y, true, rfl, .inl ⟨rfl, (yes y y0 y1 hy).1.symm, (yes y y0 y1 hy).2⟩⟩
      · exact ⟨y, false, rfl, .inr ⟨rfl, (no hn).1, (no hn).2⟩⟩
    clear yes no
    have RS := fun (W : World) (h : (shw r x).2 = 0) => rshow_any r x W h1 h2 h0 hx h
    have SB := shw_bad r x h1 h2
    generalize prW r s = pw at *
    generalize prE r s = pe at *
    generalize kdR r = kd at *
    replace P1 := hidS P1
    replace RP := hidS RP
    by_cases hf : (shw r x).2 = 0
    · replace RS := hidS (fun W => RS W hf)
      have e2 : shw r x = ((shw r x).1, 0) := by rw [← hf]
      have fb : ((shw r x).2 == 0) = true := by rw [hf]; rfl
      rw [fb] at FT
      rw [e2] at S1
      simp only at S1
      replace S1 := hidS S1
      clear SB hf e2 fb h1 h2
      generalize (shw r x).1 = t at *
      have nq : (t.toList != t.toList) = false := by simp
      go_enter Tryd.func5, Tryd.ntmps5
      go_wp2_with (first
        | (go_at_call 15; refine S0.mono ?_; clear S0; rintro e w1 ⟨rfl, B1⟩; replace B1 := hidS B1)
        | (go_at_call 15; refine (S1.out _ (E.out.below B1.out)).mono ?_; clear S1; rintro e w2 ⟨rfl, B2⟩; replace B2 := hidS (seqB B1.out B2 (Nat.le_refl _)))
        | (go_at_call 16; refine (P1.out _ (E.out.below B2.out)).mono ?_; clear P1; rintro e w3 ⟨rfl, B3⟩; replace B3 := hidS (seqB B2.out B3 (Nat.le_refl _)))
        | (go_at_call 18; refine (K _).mono ?_; clear K; rintro e w4 ⟨rfl, hw⟩; obtain rfl := hw.symm)
        | (go_at_call 19; refine (FT _).mono ?_; clear FT; rintro e w4 ⟨rfl, hw⟩; obtain rfl := hw.symm)
        | (go_at_call 20; refine (RS.out _).mono ?_; clear RS; rintro e w5 ⟨rfl, B5⟩; replace B5 := hidS (seqB B3.out B5 (Nat.le_refl _)))
        | (go_at_call 21; refine (RP.out _).mono ?_; clear RP; rintro e w6 ⟨⟨y, ok, rfl, hpp⟩, hw⟩; obtain rfl := hw.symm; rcases hpp with ⟨rfl, rfl, rfl⟩ | ⟨rfl, rfl, rfl⟩))
      all_goals go_ret
      all_goals exact ⟨rfl, B5.out⟩
    · have e2 := SB hf
      have fb : ((shw r x).2 == 0) = false := by rw [e2]; rfl
      rw [fb] at FT
      rw [e2] at S1
      simp only at S1
      replace S1 := hidS S1
      clear SB hf e2 fb h1 h2 RS
      go_enter Tryd.func5, Tryd.ntmps5
      go_wp2_with (first
        | (go_at_call 15; refine S0.mono ?_; clear S0; rintro e w1 ⟨rfl, B1⟩; replace B1 := hidS B1)
        | (go_at_call 15; refine (S1.out _ (E.out.below B1.out)).mono ?_; clear S1; rintro e w2 ⟨rfl, B2⟩; replace B2 := hidS (seqB B1.out B2 (Nat.le_refl _)))
        | (go_at_call 16; refine (P1.out _ (E.out.below B2.out)).mono ?_; clear P1; rintro e w3 ⟨rfl, B3⟩; replace B3 := hidS (seqB B2.out B3 (Nat.le_refl _)))
        | (go_at_call 18; refine (K _).mono ?_; clear K; rintro e w4 ⟨rfl, hw⟩; obtain rfl := hw.symm)
        | (go_at_call 19; refine (FT _).mono ?_; clear FT; rintro e w4 ⟨rfl, hw⟩; obtain rfl := hw.symm)
        | (go_at_call 21; refine (RP.out _).mono ?_; clear RP; rintro e w6 ⟨⟨y, ok, rfl, hpp⟩, hw⟩; obtain rfl := hw.symm; rcases hpp with ⟨rfl, rfl, rfl⟩ | ⟨rfl, rfl, rfl⟩))
      all_goals go_ret
      all_goals exact ⟨rfl, B3.out⟩
  · have K := fun (W : World) => kind_out r W (by omega)
    have hi : inB r 1 13 = false := by simp [inB]; omega
    have p1 : prW r s = 0 := by unfold prW; rw [hi]; rfl
    have p2 : prE r s = 2 := by unfold prE; rw [hi]; rfl
    have e2 : shw r x = (⟨#[]⟩, 2) := by
      unfold shw
      rw [if_neg (by simp; omega)]
    rw [p1, p2] at P1
    rw [e2] at S1
    simp only at S1
    replace S1 := hidS S1
    replace P1 := hidS P1
    clear hr hi p1 p2 e2
    go_enter Tryd.func5, Tryd.ntmps5
    go_wp2_with (first
        | (go_at_call 15; refine S0.mono ?_; clear S0; rintro e w1 ⟨rfl, B1⟩; replace B1 := hidS B1)
        | (go_at_call 15; refine (S1.out _ (E.out.below B1.out)).mono ?_; clear S1; rintro e w2 ⟨rfl, B2⟩; replace B2 := hidS (seqB B1.out B2 (Nat.le_refl _)))
        | (go_at_call 16; refine (P1.out _ (E.out.below B2.out)).mono ?_; clear P1; rintro e w3 ⟨rfl, B3⟩; replace B3 := hidS (seqB B2.out B3 (Nat.le_refl _)))
        | (go_at_call 18; refine (K _).mono ?_; clear K; rintro e w4 ⟨rfl, hw⟩; obtain rfl := hw.symm))
    go_ret
    exact ⟨rfl, B3.out⟩
end Go.Proofs.YtpmpdkpnjfidhaaDoor.St
