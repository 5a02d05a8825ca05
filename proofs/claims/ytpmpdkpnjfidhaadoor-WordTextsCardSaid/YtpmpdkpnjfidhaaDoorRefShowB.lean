/-
  THE DOCUMENT'S Show by its contract.
-/
import Derived.Test.YtpmpdkpnjfidhaaDoorRefShow
namespace Go.Proofs.YtpmpdkpnjfidhaaDoor.St
open Go.RowKit
open Go.Lib (decDigits)
open Tr Wp
set_option linter.unusedVariables false
theorem rshow_any (r x : Int) (w : World) (h1 : 1 ≤ r) (h2 : r ≤ 13) (h0 : 0 ≤ x) (hx : x ≤ 18446744073709551615) (hf : (shw r x).2 = 0) : Calls Tryd.prog 20 #[.int .i64 r, .int .u64 x] w fun e w' => e = .returned (.string (shw r x).1) ∧ Below w.heap.size w w' := by
  have K := kind_in r w h1 h2
  have hin := in13 r h1 h2
  have hm : 0 ≤ x % 4294967296 ∧ x % 4294967296 < 4294967296 := by omega
  have hq : 0 ≤ x / 4294967296 ∧ x / 4294967296 < 4294967296 := by omega
  have e1 : x.tmod 4294967296 = x % 4294967296 := Int.tmod_eq_emod_of_nonneg h0
  have ewm : IntKind.u64.wrap (x % 4294967296) = x % 4294967296 := by rw [IntKind.wrap_u64]; omega
  have LT := fun (W : World) => linkText_any (x % 4294967296) W hm.1 hm.2
  have LM := fun (W : World) => linkMark_any x W h0 hx
  rw [shw_in r x h1 h2] at hf ⊢
  rcases tKind_cases r h1 h2 with ht | ht | ht | ht | ht
  · have hk : kdR r = 1 := by simp [kdR, hin, ht]
    rw [hk] at K
    rw [if_pos ht] at hf ⊢
    have hb : ¬ 2147483647 < x % 4294967296 := fun h => by unfold shH at hf; rw [if_pos (by simpa using h)] at hf; simp at hf
    have es : (shH x).1 = dec (x / 4294967296) ++ ⟨#[58]⟩ ++ slotT (x % 4294967296 - 1) := by unfold shH; rw [if_neg (by simpa using hb)]
    rw [es]
    have z1 := dec_size (x / 4294967296) hq.1 (by omega)
    have z2 := slotT_size (x % 4294967296 - 1) (by omega) (by omega)
    have HT := headTag_any x w h0 hx
    obtain ⟨u, hu⟩ : ∃ u : Nat, x / 4294967296 = u := ⟨(x / 4294967296).toNat, by omega⟩
    have D := digits_any u w (by omega)
    rw [hu] at HT z1 ⊢
    clear es hf hb ht hk hin LM hu
    generalize slotT (x % 4294967296 - 1) = t2 at *
    generalize dec (u : Int) = t1 at *
    generalize x % 4294967296 = m at *
    go_enter Tryd.func20, Tryd.ntmps20
    go_wp2_with (first | (go_at_call 18; refine K.mono ?_; clear K; rintro e w1 ⟨rfl, hw⟩; obtain rfl := hw.symm) | (go_at_call 42; refine HT.mono ?_; clear HT; rintro e w1 ⟨rfl, hw⟩; obtain rfl := hw.symm) | (go_at_call 28; refine D.mono ?_; clear D; rintro e w1 ⟨rfl, B1⟩) | (go_at_call 43; refine (LT _).mono ?_; clear LT; rintro e w2 ⟨rfl, B2⟩))
    go_ret
    exact ⟨rfl, seqB B1 B2 (Nat.le_refl _)⟩
  · have hk : kdR r = 2 := by simp [kdR, hin, ht]
    rw [hk] at K
    rw [if_neg (by omega), if_pos ht] at hf ⊢
    have hb : (badL x || (x / 4294967296 % 2 == 1)) = false := by cases h : (badL x || (x / 4294967296 % 2 == 1)); rfl; unfold shP at hf; rw [h] at hf; simp at hf
    have es : (shP x).1 = slotT (x % 4294967296 - 1) := by unfold shP; rw [hb]; rfl
    rw [es]
    have hmk : (x / 4294967296 % 2 == 1) = false := (Bool.or_eq_false_iff.1 hb).2
    rw [hmk] at LM
    clear es hf hb ht hk hin hmk
    generalize slotT (x % 4294967296 - 1) = t2 at *
    generalize x % 4294967296 = m at *
    go_enter Tryd.func20, Tryd.ntmps20
    go_wp2_with (first | (go_at_call 18; refine K.mono ?_; clear K; rintro e w1 ⟨rfl, hw⟩; obtain rfl := hw.symm) | (go_at_call 43; refine (LT _).mono ?_; clear LT; rintro e w2 ⟨rfl, B2⟩) | (go_at_call 41; refine (LM _).mono ?_; clear LM; rintro e w1 ⟨rfl, hw⟩; obtain rfl := hw.symm))
    go_ret
    exact ⟨rfl, B2⟩
  · have hk : kdR r = 4 := by simp [kdR, hin, ht]
    rw [hk] at K
    rw [if_neg (by omega), if_neg (by omega), if_pos ht] at hf ⊢
    have hb : ¬ 1 < x := fun h => by unfold shF at hf; rw [if_pos (by simpa using h)] at hf; simp at hf
    have es : (shF x).1 = dec x := by unfold shF; rw [if_neg (by simpa using hb)]
    rw [es]
    obtain ⟨u, rfl⟩ : ∃ u : Nat, x = u := ⟨x.toNat, by omega⟩
    have D := digits_any u w (by omega)
    clear es hf hb ht hk hin LM LT e1 ewm hm hq
    go_enter Tryd.func20, Tryd.ntmps20
    go_wp2_with (first | (go_at_call 18; refine K.mono ?_; clear K; rintro e w1 ⟨rfl, hw⟩; obtain rfl := hw.symm) | (go_at_call 28; refine D.mono ?_; clear D; rintro e w1 ⟨rfl, B1⟩))
    go_ret
    exact ⟨rfl, B1⟩
  · have hk : kdR r = 5 := by simp [kdR, hin, ht]
    rw [hk] at K
    rw [if_neg (by omega), if_neg (by omega), if_neg (by omega), if_neg (by omega)] at hf ⊢
    have es : (shV x).1 = ito (wrap64 x) := rfl
    rw [es]
    have hwb := wrap64_bd x
    have D := decimal_any (wrap64 x) w hwb.1 hwb.2
    clear es hf ht hk hin LM LT e1 ewm hm hq
    go_enter Tryd.func20, Tryd.ntmps20
    go_wp2_with (first | (go_at_call 18; refine K.mono ?_; clear K; rintro e w1 ⟨rfl, hw⟩; obtain rfl := hw.symm) | (go_at_call 44; refine D.mono ?_; clear D; rintro e w1 ⟨rfl, B1⟩))
    go_ret
    exact ⟨rfl, B1⟩
  · have hk : kdR r = 3 := by simp [kdR, hin, ht]
    rw [hk] at K
    rw [if_neg (by omega), if_neg (by omega), if_neg (by omega), if_pos ht] at hf ⊢
    have hb : badL x = false := by cases h : badL x; rfl; unfold shL at hf; rw [h] at hf; simp at hf
    have hb' : x % 4294967296 ≤ 2147483647 := by unfold badL at hb; simp at hb; omega
    have z2 := slotT_size (x % 4294967296 - 1) (by omega) (by omega)
    cases hmk : (x / 4294967296 % 2 == 1)
    · have es : (shL x).1 = slotT (x % 4294967296 - 1) := by unfold shL; rw [hb, hmk]; rfl
      rw [es]
      rw [hmk] at LM
      clear es hf hb ht hk hin hmk hb'
      generalize slotT (x % 4294967296 - 1) = t2 at *
      generalize x % 4294967296 = m at *
      go_enter Tryd.func20, Tryd.ntmps20
      go_wp2_with (first | (go_at_call 18; refine K.mono ?_; clear K; rintro e w1 ⟨rfl, hw⟩; obtain rfl := hw.symm) | (go_at_call 43; refine (LT _).mono ?_; clear LT; rintro e w2 ⟨rfl, B2⟩) | (go_at_call 41; refine (LM _).mono ?_; clear LM; rintro e w1 ⟨rfl, hw⟩; obtain rfl := hw.symm))
      go_ret
      exact ⟨rfl, B2⟩
    · have es : (shL x).1 = slotT (x % 4294967296 - 1) ++ ⟨#[42]⟩ := by unfold shL; rw [hb, hmk]; rfl
      rw [es]
      rw [hmk] at LM
      clear es hf hb ht hk hin hmk hb'
      generalize slotT (x % 4294967296 - 1) = t2 at *
      generalize x % 4294967296 = m at *
      go_enter Tryd.func20, Tryd.ntmps20
      go_wp2_with (first | (go_at_call 18; refine K.mono ?_; clear K; rintro e w1 ⟨rfl, hw⟩; obtain rfl := hw.symm) | (go_at_call 43; refine (LT _).mono ?_; clear LT; rintro e w2 ⟨rfl, B2⟩) | (go_at_call 41; refine (LM _).mono ?_; clear LM; rintro e w1 ⟨rfl, hw⟩; obtain rfl := hw.symm))
      go_ret
      exact ⟨rfl, B2⟩
end Go.Proofs.YtpmpdkpnjfidhaaDoor.St
