import Derived.Test.YtcomelbphdjnnaaGreatDoorJ22
/-
  WHAT IS SHOWN IS PARSED BACK, what is named is read back: no Go in sight.
-/
namespace Go.Proofs.YtcomelbphdjnnaaGreatDoor.St
open Go.RowKit
open Go.Lib (decDigits itoa)
open Tr
set_option linter.unusedVariables false
theorem dec_digit (u : Int) : ∀ b ∈ (dec u).data.toList, 48 ≤ b.toNat ∧ b.toNat ≤ 57 := dec_digs u.toNat
theorem ito_dec (i : Int) (h : 0 ≤ i) : ito i = dec i := by
  unfold ito dec itoa
  rw [if_neg (by omega)]
theorem ito_digit (i : Int) (h : 0 ≤ i) : ∀ b ∈ (ito i).data.toList, 48 ≤ b.toNat ∧ b.toNat ≤ 57 := by
  rw [ito_dec i h]
  exact dec_digit i
theorem shw_in (r x : Int) (h1 : 1 ≤ r) (h2 : r ≤ 13) : shw r x = if tKind r = 0 then shH x else if tKind r = 1 then shP x else if tKind r = 2 then shF x else if tKind r = 4 then shL x else shV x := by
  unfold shw; rw [if_pos (by simp [h1, h2])]
/-! ### Names -/
theorem reg_cases (r : Int) (h1 : 1 ≤ r) (h2 : r ≤ 13) : r = 1 ∨ r = 2 ∨ r = 3 ∨ r = 4 ∨ r = 5 ∨ r = 6 ∨ r = 7 ∨ r = 8 ∨ r = 9 ∨ r = 10 ∨ r = 11 ∨ r = 12 ∨ r = 13 := by omega
end Go.Proofs.YtcomelbphdjnnaaGreatDoor.St
/-
  NUMERALS BY THEIR DIGITS: no Go in sight.
-/
namespace Go.Proofs.YtcomelbphdjnnaaGreatDoor.St
open Go.RowKit
open Go.Lib (decDigits)
open Tr
set_option linter.unusedVariables false
def val (l : List UInt8) : Nat := l.foldl (fun a c => a * 10 + (c.toNat - 48)) 0
theorem val_snoc (l : List UInt8) (c : UInt8) : val (l ++ [c]) = val l * 10 + (c.toNat - 48) := by simp [val]
theorem fold_ge (l : List UInt8) : ∀ a, a ≤ l.foldl (fun a c => a * 10 + (c.toNat - 48)) a := by
  induction l with
  | nil => intro a; exact Nat.le_refl _
  | cons c l ih => intro a; rw [List.foldl_cons]; exact Nat.le_trans (by omega) (ih _)
theorem val_take_le (l : List UInt8) (i : Nat) : val (l.take i) ≤ val l := by
  have h : val l = (l.drop i).foldl (fun a c => a * 10 + (c.toNat - 48)) (val (l.take i)) := by
    unfold val
    rw [← List.foldl_append, List.take_append_drop]
  rw [h]
  exact fold_ge _ _
theorem val_dec (u : Nat) : val (decDigits u) = u := by
  induction u using Nat.strongRecOn with
  | _ u ih =>
    by_cases h : u < 10
    · rw [Lib.decDigits_one h]
      show 0 * 10 + ((UInt8.ofNat (48 + u)).toNat - 48) = u
      rw [dig_nat u h]; omega
    · rw [decDigits, dif_neg h, val_snoc, ih (u / 10) (by omega), dig_nat (u % 10) (by omega)]
      omega
theorem dec_head (u : Nat) (hu : 0 < u) : (decDigits u).head? ≠ some 48 := by
  induction u using Nat.strongRecOn with
  | _ u ih =>
    by_cases h : u < 10
    · rw [Lib.decDigits_one h]
      intro e
      have e' : UInt8.ofNat (48 + u) = 48 := Option.some.inj e
      have := congrArg UInt8.toNat e'
      rw [dig_nat u h] at this
      have h48 : (48 : UInt8).toNat = 48 := rfl
      omega
    · rw [decDigits, dif_neg h]
      have := ih (u / 10) (by omega) (by omega)
      cases e : decDigits (u / 10) with
      | nil => exact absurd e (dec_ne _)
      | cons c r => rw [e] at this; simpa using this
theorem val_pos (l : List UInt8) (hd : ∀ b ∈ l, 48 ≤ b.toNat ∧ b.toNat ≤ 57) (hne : l ≠ []) (hz : l.head? ≠ some 48) : 0 < val l := by
  cases l with
  | nil => exact absurd rfl hne
  | cons c r =>
    have h1 := hd c List.mem_cons_self
    have h2 : c ≠ 48 := by intro e; exact hz (by rw [e]; rfl)
    have h3 : c.toNat ≠ 48 := fun e => h2 (UInt8.toNat_inj.1 (by rw [e]; rfl))
    have := val_take_le (c :: r) 1
    have e1 : val ((c :: r).take 1) = c.toNat - 48 := by simp [val]
    omega
theorem dec_val (l : List UInt8) (hd : ∀ b ∈ l, 48 ≤ b.toNat ∧ b.toNat ≤ 57) (hne : l ≠ []) (hz : l.length = 1 ∨ l.head? ≠ some 48) : decDigits (val l) = l := by
  suffices H : ∀ n (l : List UInt8), l.length = n → (∀ b ∈ l, 48 ≤ b.toNat ∧ b.toNat ≤ 57) → l ≠ [] → (l.length = 1 ∨ l.head? ≠ some 48) → decDigits (val l) = l from H _ l rfl hd hne hz
  intro n
  induction n with
  | zero => intro l h0 _ hne _; exact absurd (List.eq_nil_of_length_eq_zero h0) hne
  | succ n ih =>
    intro l hl hd hne hz
    obtain ⟨l', c, rfl⟩ : ∃ l' c, l = l' ++ [c] := ⟨l.dropLast, l.getLast hne, (List.dropLast_concat_getLast hne).symm⟩
    have hc := hd c (by simp)
    have e0 : UInt8.ofNat (48 + (c.toNat - 48)) = c := UInt8.toNat_inj.1 (by rw [dig_nat _ (by omega)]; omega)
    by_cases hn : l' = []
    · subst hn
      rw [val_snoc]
      show decDigits (0 * 10 + (c.toNat - 48)) = _
      rw [show 0 * 10 + (c.toNat - 48) = c.toNat - 48 by omega, Lib.decDigits_one (by omega), e0]
      rfl
    · have hl' : l'.length ≠ 0 := fun e => hn (List.eq_nil_of_length_eq_zero e)
      have hh : l'.head? ≠ some 48 := by
        rcases hz with hz | hz
        · simp at hz; exact absurd hz hn
        · cases l' with
          | nil => exact absurd rfl hn
          | cons x r => simpa using hz
      have hd' : ∀ b ∈ l', 48 ≤ b.toNat ∧ b.toNat ≤ 57 := fun b hb => hd b (by simp [hb])
      have hi := ih l' (by simpa using hl) hd' hn (.inr hh)
      have hp := val_pos l' hd' hn hh
      rw [val_snoc, decDigits, dif_neg (by omega)]
      rw [show (val l' * 10 + (c.toNat - 48)) / 10 = val l' by omega, show (val l' * 10 + (c.toNat - 48)) % 10 = c.toNat - 48 by omega, hi, e0]
theorem dec_len (u : Nat) (h : u < 18446744073709551616) : 0 < (decDigits u).length ∧ (decDigits u).length ≤ 20 := by
  have h1 := dec_size (u : Int) (by omega) (by omega)
  have e : (dec (u : Int)).size = (decDigits u).length := by show (decDigits (u : Int).toNat).toArray.size = _; simp
  refine ⟨?_, by omega⟩
  have := dec_ne u
  exact List.length_pos_iff.2 this
theorem dec_zero_head (u : Nat) (h : 1 < (decDigits u).length) : (decDigits u).head? ≠ some 48 := by
  by_cases h0 : u = 0
  · subst h0
    rw [Lib.decDigits_one (by omega)] at h
    simp at h
  · exact dec_head u (by omega)
/-- Digits' step. -/
theorem dec_step (u : Nat) (t : List UInt8) (h : ¬ u < 10) : decDigits u ++ t = decDigits (u / 10) ++ (UInt8.ofNat (48 + u % 10) :: t) := by
  rw [decDigits, dif_neg h]
  simp
end Go.Proofs.YtcomelbphdjnnaaGreatDoor.St
