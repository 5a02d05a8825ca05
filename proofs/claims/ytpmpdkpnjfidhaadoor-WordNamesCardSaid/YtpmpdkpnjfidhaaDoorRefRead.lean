/-
  THE DOCUMENT'S ReadName by its contract.
-/
import Derived.Test.YtpmpdkpnjfidhaaDoorRefName
import Derived.BigQuiet
namespace Go.Proofs.YtpmpdkpnjfidhaaDoor.St
open Go.RowKit
open Go.Lib (decDigits)
open Tr Wp
set_option linter.unusedVariables false
/-- The first place of a byte in a text, or its length. -/
def fstD (s : ByteArray) (n : Nat) : Prop := n ≤ s.size ∧ (∀ j (h : j < s.size), j < n → s[j].toNat ≠ 46) ∧ (∀ h : n < s.size, s[n].toNat = 46)
/-- Where the first ':' stands in such a text. -/
theorem cut_dot (s : ByteArray) (n : Nat) (hf : fstD s n) (t : Nat) (u : List UInt8) (h : s.data.toList = decDigits t ++ 46 :: u) : n = (decDigits t).length ∧ n < s.size := by
  obtain ⟨f1, f2, f3⟩ := hf
  have hz := sz_list s
  have hlen : s.size = (decDigits t).length + 1 + u.length := by rw [hz, h]; simp; omega
  have hat : ∀ j (hj : j < s.size), s[j] = (decDigits t ++ 46 :: u)[j]'(by rw [← h, ← hz]; exact hj) := fun j hj => by rw [← at_list s j hj]; simp only [h]
  have h46 : s[(decDigits t).length]'(by omega) = 46 := by rw [hat _ (by omega), List.getElem_append_right (Nat.le_refl _)]; simp
  have hle : n ≤ (decDigits t).length := by
    rcases Nat.lt_or_ge (decDigits t).length n with hlt | hge
    · exact absurd (by rw [h46]; rfl) (f2 _ (by omega) hlt)
    · exact hge
  refine ⟨?_, by omega⟩
  rcases Nat.lt_or_ge n (decDigits t).length with hlt | hge
  · have e := f3 (by omega)
    rw [hat n (by omega), List.getElem_append_left hlt] at e
    have := dec_digs t _ (List.getElem_mem hlt)
    omega
  · omega
theorem ext_dot (s : ByteArray) (n : Nat) (hn : n < s.size) (h : s[n].toNat = 46) : s.data.toList = (s.extract 0 n).data.toList ++ 46 :: (s.extract (n + 1) s.size).data.toList := by
  have hz := sz_list s
  rw [ext_list, ext_list, List.drop_zero, hz, List.take_length]
  have e1 := at_list s n hn
  have e2 : s[n] = 46 := UInt8.toNat_inj.1 (by rw [h]; rfl)
  have := List.take_append_drop n s.data.toList
  conv => lhs; rw [← this]
  congr 1
  rw [List.drop_eq_getElem_cons (by rw [← hz]; exact hn), e1, e2]
/-- What ReadName is to answer. -/
def RdR (s : ByteArray) (e : Ending) : Prop := (∃ r i k : Int, named r i k = true ∧ s = nameB r i k ∧ e = .returned (.tuple #[.agg #[.int .i64 r, .int .i64 i, .int .i64 k], .bool true])) ∨ ((∀ r i k : Int, named r i k = true → s ≠ nameB r i k) ∧ ∃ a b c : Int, e = .returned (.tuple #[.agg #[.int .i64 a, .int .i64 b, .int .i64 c], .bool false]))
theorem named_parts (r i k : Int) (h : named r i k = true) : 1 ≤ r ∧ r ≤ 13 ∧ (0 ≤ i ∧ i ≤ 2147483646) ∧ (0 ≤ k ∧ k ≤ 2147483646) ∧ (r ≤ 6 → i = 0 ∧ k = 0) ∧ (r ≠ 9 → k = 0) := by
  have hn := h
  simp only [named, Bool.and_eq_true, decide_eq_true_eq, beq_iff_eq] at hn
  obtain ⟨⟨⟨⟨⟨h1, h2⟩, hi⟩, hk⟩, hi2⟩, hk2⟩ := hn
  refine ⟨h1, h2, by simpa [inB] using hi2, by simpa [inB] using hk2, fun h6 => ?_, fun h9 => ?_⟩
  · have := nums_low r h1 h6
    simp only [bareI, bareK, this] at hi hk
    simp at hi hk
    exact ⟨hi, hk⟩
  · by_cases h6 : r ≤ 6
    · have := nums_low r h1 h6
      simp only [bareK, this] at hk
      simpa using hk
    · have := nums_one r (by omega) h2 h9
      simp only [bareK, this] at hk
      simpa using hk
theorem itoA (i : Int) (h : 0 ≤ i) : (⟨(Lib.itoa i).toArray⟩ : ByteArray).data.toList = decDigits i.toNat := by
  have := ito_dec i h
  show (ito i).data.toList = _
  rw [this]
  show ((decDigits i.toNat).toArray).toList = _
  simp
/-- A name's bytes. -/
theorem name_low (r i k : Int) (h : named r i k = true) (h6 : r ≤ 6) : nameB r i k = tName r := by
  have := nums_low r (named_parts r i k h).1 h6
  unfold nameB; rw [if_pos this]
theorem name_mid (r i k : Int) (h : named r i k = true) (h6 : 6 < r) (h9 : r ≠ 9) : (nameB r i k).data.toList = (tName r).data.toList ++ 32 :: decDigits i.toNat := by
  obtain ⟨h1, h2, hi, hk, _⟩ := named_parts r i k h
  have := nums_one r (by omega) h2 h9
  unfold nameB
  rw [if_neg (by omega), if_pos this, app_list, app_list, itoA i hi.1]
  simp
theorem name_haz (i k : Int) (h : named 9 i k = true) : (nameB 9 i k).data.toList = (tName 9).data.toList ++ 32 :: (decDigits i.toNat ++ 46 :: decDigits k.toNat) := by
  obtain ⟨h1, h2, hi, hk, _⟩ := named_parts 9 i k h
  unfold nameB
  rw [if_neg (by decide), if_neg (by decide), app_list, app_list, app_list, app_list, itoA i hi.1, itoA k hk.1]
  simp
theorem name_long (r i k : Int) (h : named r i k = true) (h6 : 6 < r) : ∃ u : List UInt8, u ≠ [] ∧ (nameB r i k).data.toList = (tName r).data.toList ++ 32 :: u := by
  by_cases h9 : r = 9
  · subst h9
    exact ⟨_, by intro e; have := congrArg List.length e; simp at this, name_haz i k h⟩
  · exact ⟨_, dec_ne _, name_mid r i k h h6 h9⟩
/-- A text that begins with a region's name and a blank is of no other region. -/
theorem one_reg (s : ByteArray) (r : Int) (u : List UInt8) (h1 : 1 ≤ r) (h2 : r ≤ 13) (hs : s.data.toList = (tName r).data.toList ++ 32 :: u) (q i k : Int) (h : named q i k = true) (e : s = nameB q i k) : q = r := by
  have hp := (name_parts q i k h).1
  rw [← e] at hp
  have hc := (cut_at s (tName r) ⟨u.toArray⟩ 32 (by rw [hs]) (fun x hx e => by have := tName_low r h1 h2 x hx; rw [e] at this; simp at this)).1
  rw [hc] at hp
  obtain ⟨q1, q2, _⟩ := named_parts q i k h
  exact (tName_inj r q h1 h2 q1 q2 hp).symm
theorem mk_mid (r : Int) (v : Nat) (h6 : 6 < r) (h2 : r ≤ 13) (h9 : r ≠ 9) (hv : v ≤ 2147483646) : named r v 0 = true := by
  have := nums_one r (by omega) h2 h9
  simp [named, bareI, bareK, this, inB]
  omega
theorem mk_low (r : Int) (h1 : 1 ≤ r) (h6 : r ≤ 6) : named r 0 0 = true := by
  have := nums_low r h1 h6
  simp [named, bareI, bareK, this, inB]
  omega
theorem mk_haz (u v : Nat) (hu : u ≤ 2147483646) (hv : v ≤ 2147483646) : named 9 u v = true := by
  have : tNums 9 = 2 := rfl
  simp [named, bareI, bareK, this, inB]
  omega
end Go.Proofs.YtpmpdkpnjfidhaaDoor.St
