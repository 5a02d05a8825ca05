/-
  PLAIN FACTS for WordBack.
-/
import Derived.Test.YtpmpdkpnjfidhaaDoorStrBack
namespace Go.Proofs.YtpmpdkpnjfidhaaDoor.St
open Go.RowKit
open Tr Wp
set_option linter.unusedVariables false
theorem pl_mod (i : Int) (m : Bool) (h0 : -1 ≤ i) (h1 : i ≤ 2147483646) : 0 ≤ packLink i m ∧ packLink i m < 8589934592 ∧ packLink i m % 4294967296 ≤ 2147483647 ∧ packLink i m % 4294967296 - 1 = i ∧ (packLink i m / 4294967296 % 2 == 1) = m := by
  unfold packLink
  cases m
  · simp only [Bool.false_eq_true, if_false]
    refine ⟨by omega, by omega, by omega, by omega, ?_⟩
    simp
    omega
  · simp only [if_true]
    refine ⟨by omega, by omega, by omega, by omega, ?_⟩
    simp
    omega
theorem ph_mod (t i : Int) (h0 : -1 ≤ i) (h1 : i ≤ 2147483646) (t0 : 0 ≤ t) (t1 : t ≤ 4294967295) : 0 ≤ packHead t i ∧ packHead t i ≤ 18446744073709551615 ∧ packHead t i % 4294967296 ≤ 2147483647 ∧ packHead t i % 4294967296 - 1 = i ∧ packHead t i / 4294967296 = t := by
  unfold packHead
  omega
theorem ba_size (a b : ByteArray) : (a ++ b).size = a.size + b.size := ByteArray.size_append
theorem nmS_size (r i k : Int) : (nmS r i k).size ≤ 60 := by
  unfold nmS
  split
  · rename_i h
    simp only [named, Bool.and_eq_true, decide_eq_true_eq, beq_iff_eq] at h
    obtain ⟨⟨⟨⟨⟨h1, h2⟩, hi⟩, hk⟩, hi2⟩, hk2⟩ := h
    have ib : 0 ≤ i ∧ i ≤ 2147483646 := by simpa [inB] using hi2
    have kb : 0 ≤ k ∧ k ≤ 2147483646 := by simpa [inB] using hk2
    have z1 := tName_size r h1 h2
    have z2 : (⟨(Lib.itoa i).toArray⟩ : ByteArray).size ≤ 21 := ito_size i (by omega) (by omega)
    have z3 : (⟨(Lib.itoa k).toArray⟩ : ByteArray).size ≤ 21 := ito_size k (by omega) (by omega)
    have z4 : (⟨#[32]⟩ : ByteArray).size = 1 := rfl
    have z5 : (⟨#[46]⟩ : ByteArray).size = 1 := rfl
    unfold nameB
    split
    · omega
    · split
      · rw [ba_size, ba_size]; omega
      · rw [ba_size, ba_size, ba_size, ba_size]; omega
  · exact Nat.zero_le _
theorem shw_size (r x : Int) (h0 : 0 ≤ x) (h1 : x ≤ 18446744073709551615) : (shw r x).1.size ≤ 60 := by
  have zz : (⟨#[]⟩ : ByteArray).size = 0 := rfl
  have z4 : (⟨#[58]⟩ : ByteArray).size = 1 := rfl
  have z5 : (⟨#[42]⟩ : ByteArray).size = 1 := rfl
  have hw := wrap64_bd x
  have zv := ito_size (wrap64 x) hw.1 hw.2
  have zd := dec_size (x / 4294967296) (by omega) (by omega)
  have zx := dec_size x h0 h1
  unfold shw
  split
  · split
    · unfold shH
      split
      · exact Nat.zero_le _
      · rename_i hb
        have hb : ¬ 2147483647 < x % 4294967296 := by simpa using hb
        have := slotT_size (x % 4294967296 - 1) (by omega) (by omega)
        show (dec (x / 4294967296) ++ ⟨#[58]⟩ ++ slotT (x % 4294967296 - 1)).size ≤ 60
        rw [ba_size, ba_size]; omega
    · split
      · unfold shP
        split
        · exact Nat.zero_le _
        · rename_i hb
          simp only [badL, Bool.or_eq_true, decide_eq_true_eq, beq_iff_eq, not_or] at hb
          have := slotT_size (x % 4294967296 - 1) (by omega) (by omega)
          show (slotT (x % 4294967296 - 1)).size ≤ 60
          omega
      · split
        · unfold shF
          split
          · exact Nat.zero_le _
          · show (dec x).size ≤ 60
            omega
        · split
          · unfold shL
            split
            · exact Nat.zero_le _
            · rename_i hb
              simp only [badL, Bool.or_eq_true, decide_eq_true_eq, not_or] at hb
              have := slotT_size (x % 4294967296 - 1) (by omega) (by omega)
              split
              · show (slotT (x % 4294967296 - 1) ++ ⟨#[42]⟩).size ≤ 60
                rw [ba_size]; omega
              · show (slotT (x % 4294967296 - 1)).size ≤ 60
                omega
          · show (ito (wrap64 x)).size ≤ 60
            omega
  · exact Nat.zero_le _
theorem shw_num (g x : Int) (h : (shw g x).2 ≠ 0) : g ≠ 11 ∧ g ≠ 12 := by
  constructor
  · rintro rfl
    exact h rfl
  · rintro rfl
    exact h rfl
theorem nine : nmE 13 9 0 = 0 ∧ nmS 13 9 0 = ⟨#[108, 105, 110, 107, 32, 57]⟩ := by
  have e : named 13 9 0 = true := by decide
  unfold nmE nmS
  rw [e]
  refine ⟨rfl, ?_⟩
  show nameB 13 9 0 = _
  have e2 : Lib.itoa 9 = [57] := by rw [show Lib.itoa 9 = Lib.decDigits 9 from rfl, Lib.decDigits_one (by decide)]; rfl
  unfold nameB
  rw [e2]
  rfl
end Go.Proofs.YtpmpdkpnjfidhaaDoor.St
