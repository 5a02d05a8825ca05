/-
  THE DOCUMENT'S Parse by its contract: flags, plain links, numbers.
-/
import Derived.Test.YtpmpdkpnjfidhaaDoorRefShowB
import Derived.Deep.CutRange
namespace Go.Proofs.YtpmpdkpnjfidhaaDoor.St
open Go.RowKit
open Go.Lib (decDigits)
open Tr Wp
set_option linter.unusedVariables false
/-- What Parse is to answer. -/
def PsR (r : Int) (s : ByteArray) (e : Ending) : Prop := (∃ x : Int, 0 ≤ x ∧ x ≤ 18446744073709551615 ∧ shw r x = (s, 0) ∧ e = .returned (.tuple #[.int .u64 x, .bool true])) ∨ ((∀ x : Int, 0 ≤ x → x ≤ 18446744073709551615 → shw r x ≠ (s, 0)) ∧ ∃ y : Int, e = .returned (.tuple #[.int .u64 y, .bool false]))
theorem parse_flag (r : Int) (s : ByteArray) (w : World) (h1 : 1 ≤ r) (h2 : r ≤ 13) (ht : tKind r = 2) : Calls Tryd.prog 21 #[.int .i64 r, .string s] w fun e w' => PsR r s e ∧ w' = w := by
  have K := kind_in r w h1 h2
  have hin := in13 r h1 h2
  have hk : kdR r = 4 := by simp [kdR, hin, ht]
  rw [hk] at K
  have N := num_any s 1 w (by omega)
  have sh : ∀ x, shw r x = shF x := fun x => by rw [shw_in r x h1 h2, if_neg (by omega), if_neg (by omega), if_pos ht]
  have fin : ∀ e, ((∃ v : Nat, v ≤ 1 ∧ s = dec (v : Int) ∧ e = .returned (.tuple #[.int .u64 (v : Int), .bool true])) ∨ (NotNum s 1 ∧ e = .returned (.tuple #[.int .u64 0, .bool false]))) → PsR r s e := fun e h => by
    rcases h with ⟨v, hv, hs, he⟩ | ⟨hn, he⟩
    · refine .inl ⟨v, by omega, by omega, ?_, he⟩
      rw [sh]
      unfold shF
      rw [if_neg (by simp; omega), hs]
    · refine .inr ⟨fun x x0 x1 hx => ?_, _, he⟩
      rw [sh] at hx
      unfold shF at hx
      by_cases h : 1 < x
      · rw [if_pos (by simpa using h)] at hx; simp at hx
      · rw [if_neg (by simpa using h)] at hx
        have hxs : dec x = s := congrArg Prod.fst hx
        exact hn x.toNat (by omega) (by rw [← hxs]; congr 1; omega)
  replace fin := hidS fin
  clear sh hk hin ht h1 h2
  go_enter Tryd.func21, Tryd.ntmps21
  go_wp2_with (first | (go_at_call 18; refine K.mono ?_; clear K; rintro e w1 ⟨rfl, hw⟩; obtain rfl := hw.symm) | (go_at_call 30; refine N.mono ?_; clear N; rintro e w1 ⟨hw, hor⟩; obtain rfl := hw.symm; have hF := fin.out e hor; rcases hor with ⟨v, hv, hs, rfl⟩ | ⟨hn, rfl⟩ <;> replace hF := hidS hF))
  all_goals go_ret2
  all_goals exact ⟨hF.out, rfl⟩
theorem tail_ways (t : ByteArray) : t = ⟨#[45]⟩ ∨ (t ≠ ⟨#[45]⟩ ∧ ((∃ v : Nat, v ≤ 2147483646 ∧ t = dec (v : Int)) ∨ NotNum t 2147483646)) := by
  by_cases h : t = ⟨#[45]⟩
  · exact .inl h
  · refine .inr ⟨h, ?_⟩
    by_cases hv : ∃ v : Nat, v ≤ 2147483646 ∧ t = dec (v : Int)
    · exact .inl hv
    · exact .inr (fun v hv1 e => hv ⟨v, hv1, e⟩)
theorem slot_nat (v : Nat) : slotT (v : Int) = dec (v : Int) := by unfold slotT; rw [if_neg (by omega), ito_dec _ (by omega)]
theorem slot_no (t : ByteArray) (h : t ≠ ⟨#[45]⟩) (hn : NotNum t 2147483646) (i : Int) (h0 : -1 ≤ i) (h1 : i ≤ 2147483646) : slotT i ≠ t := fun e => by
  by_cases hi : i = -1
  · subst hi; exact h e.symm
  · obtain ⟨v, rfl⟩ : ∃ v : Nat, i = v := ⟨i.toNat, by omega⟩
    rw [slot_nat] at e
    exact hn v (by omega) e.symm
theorem eq_lit (t : ByteArray) : (t.toList == ([45] : List UInt8)) = decide (t = ⟨#[45]⟩) := by
  by_cases h : t = ⟨#[45]⟩
  · subst h; rw [ByteArray.toList_eq]; simp
  · have : (t.toList == ([45] : List UInt8)) = false := by
      cases e : (t.toList == ([45] : List UInt8))
      · rfl
      · exact absurd (eq_of (b := ⟨#[45]⟩) (by rw [show (⟨#[45]⟩ : ByteArray).toList = [45] by rw [ByteArray.toList_eq]]; exact e)) h
    rw [this]; simp [h]
theorem parse_plain (r : Int) (s : ByteArray) (w : World) (h1 : 1 ≤ r) (h2 : r ≤ 13) (ht : tKind r = 1) : Calls Tryd.prog 21 #[.int .i64 r, .string s] w fun e w' => PsR r s e ∧ w' = w := by
  have K := kind_in r w h1 h2
  have hin := in13 r h1 h2
  have hk : kdR r = 2 := by simp [kdR, hin, ht]
  rw [hk] at K
  have N := num_any s 2147483646 w (by omega)
  have sh : ∀ x, shw r x = shP x := fun x => by rw [shw_in r x h1 h2, if_neg (by omega), if_pos ht]
  have shi : ∀ i : Int, -1 ≤ i → i ≤ 2147483646 → shw r (i + 1) = (slotT i, 0) := fun i i0 i1 => by
    rw [sh]
    unfold shP
    have b1 : badL (i + 1) = false := by unfold badL; simp; omega
    have b2 : ((i + 1) / 4294967296 % 2 == 1) = false := by simp; omega
    rw [b1, b2]
    show (slotT ((i + 1) % 4294967296 - 1), (0 : Int)) = _
    rw [show (i + 1) % 4294967296 - 1 = i by omega]
  have shn : s ≠ ⟨#[45]⟩ → NotNum s 2147483646 → ∀ x : Int, 0 ≤ x → x ≤ 18446744073709551615 → shw r x ≠ (s, 0) := fun g1 g2 x x0 x1 hx => by
    rw [sh] at hx
    unfold shP at hx
    cases hb : (badL x || (x / 4294967296 % 2 == 1))
    · rw [hb] at hx
      have hbl := (Bool.or_eq_false_iff.1 hb).1
      unfold badL at hbl
      simp at hbl
      exact slot_no s g1 g2 (x % 4294967296 - 1) (by omega) (by omega) (congrArg Prod.fst hx)
    · rw [hb] at hx; simp at hx
  clear sh hk hin ht h1 h2
  by_cases hd : s = ⟨#[45]⟩
  · have hq : (s.toList == ([45] : List UInt8)) = true := by rw [eq_lit, hd]; simp
    have e0 := shi (-1) (by omega) (by omega)
    have hF : PsR r s (.returned (.tuple #[.int .u64 0, .bool true])) := .inl ⟨0, by omega, by omega, by rw [hd]; exact e0, rfl⟩
    replace hF := hidS hF
    clear shi shn e0 N hd
    go_enter Tryd.func21, Tryd.ntmps21
    go_wp2_with (first | (go_at_call 18; refine K.mono ?_; clear K; rintro e w1 ⟨rfl, hw⟩; obtain rfl := hw.symm))
    go_ret2
    exact ⟨hF.out, rfl⟩
  · have hq : (s.toList == ([45] : List UInt8)) = false := by rw [eq_lit]; simp [hd]
    replace shi := hidS shi
    replace shn := hidS (shn hd)
    clear hd
    go_enter Tryd.func21, Tryd.ntmps21
    go_wp2_with (first | (go_at_call 18; refine K.mono ?_; clear K; rintro e w1 ⟨rfl, hw⟩; obtain rfl := hw.symm) | (go_at_call 30; refine N.mono ?_; clear N; rintro e w1 ⟨hw, hor⟩; obtain rfl := hw.symm; rcases hor with ⟨v, hv, hs, rfl⟩ | ⟨hn, rfl⟩))
    · have ew : IntKind.u64.wrap ((v : Int) + 1) = (v : Int) + 1 := by rw [IntKind.wrap_u64]; omega
      have ev : IntKind.u64.wrap (v : Int) = (v : Int) := by rw [IntKind.wrap_u64]; omega
      go_ret2
      refine ⟨.inl ⟨(v : Int) + 1, by omega, by omega, ?_, rfl⟩, rfl⟩
      rw [shi.out v (by omega) (by omega), slot_nat, ← hs]
    · go_ret2
      exact ⟨.inr ⟨shn.out hn, _, rfl⟩, rfl⟩
end Go.Proofs.YtpmpdkpnjfidhaaDoor.St
