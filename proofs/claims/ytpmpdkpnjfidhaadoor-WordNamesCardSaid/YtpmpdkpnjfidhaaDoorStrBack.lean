/-
  WHAT IS SHOWN IS PARSED BACK, what is named is read back: no Go in sight.
-/
import Derived.Test.YtpmpdkpnjfidhaaDoorNumPure
namespace Go.Proofs.YtpmpdkpnjfidhaaDoor.St
open Go.RowKit
open Go.Lib (decDigits itoa)
open Tr Wp
set_option linter.unusedVariables false
theorem dec_digit (u : Int) : ∀ b ∈ (dec u).data.toList, 48 ≤ b.toNat ∧ b.toNat ≤ 57 := dec_digs u.toNat
theorem ito_dec (i : Int) (h : 0 ≤ i) : ito i = dec i := by
  unfold ito dec itoa
  rw [if_neg (by omega)]
theorem ito_digit (i : Int) (h : 0 ≤ i) : ∀ b ∈ (ito i).data.toList, 48 ≤ b.toNat ∧ b.toNat ≤ 57 := by
  rw [ito_dec i h]
  exact dec_digit i
theorem slot_byte (i : Int) (h : -1 ≤ i) : ∀ b ∈ (slotT i).data.toList, b.toNat = 45 ∨ (48 ≤ b.toNat ∧ b.toNat ≤ 57) := by
  unfold slotT
  split
  · intro b hb
    have : b = 45 := by simpa using hb
    subst this
    exact .inl rfl
  · intro b hb
    exact .inr (ito_digit i (by omega) b hb)
theorem likSl_slotT (i : Int) (h0 : -1 ≤ i) (h1 : i ≤ 2147483646) : likSl (slotT i) = i := by
  unfold slotT
  split
  · rename_i h
    subst h
    unfold likSl
    rw [ByteArray.toList_eq]
    rfl
  · rename_i h
    have hi := likI_ito i (by omega) (by omega)
    unfold likSl
    rw [if_neg, hi]
    rw [ByteArray.toList_eq]
    intro hb
    have hb : (ito i).data.toList = [45] := by simpa using hb
    have := ito_digit i (by omega) 45 (by rw [hb]; simp)
    simp at this
theorem suf_no (s : ByteArray) (h : ∀ b ∈ s.data.toList, b.toNat = 45 ∨ (48 ≤ b.toNat ∧ b.toNat ≤ 57)) : sufA s = s ∧ sufF s = false := by
  have e : Lib.hasSuffix s.data.toList [42] = false := by
    cases hc : Lib.hasSuffix s.data.toList [42]
    · rfl
    · have hm : [42] <:+ s.data.toList := List.isSuffixOf_iff_suffix.1 hc
      have := h 42 (hm.subset (by simp))
      simp at this
  refine ⟨?_, e⟩
  apply ba_ext
  show (Lib.trimSuffix s.data.toList [42]) = _
  unfold Lib.trimSuffix
  rw [e]
  rfl
theorem suf_yes (s : ByteArray) : sufA (s ++ ⟨#[42]⟩) = s ∧ sufF (s ++ ⟨#[42]⟩) = true := by
  have e0 : (s ++ ⟨#[42]⟩).data.toList = s.data.toList ++ [42] := app_list s ⟨#[42]⟩
  have e : Lib.hasSuffix (s ++ ⟨#[42]⟩).data.toList [42] = true := by
    rw [e0]
    exact List.isSuffixOf_iff_suffix.2 (List.suffix_append _ _)
  refine ⟨?_, e⟩
  apply ba_ext
  show (Lib.trimSuffix (s ++ ⟨#[42]⟩).data.toList [42]) = _
  unfold Lib.trimSuffix
  rw [e, e0]
  simp
theorem inS (i : Int) (h0 : -1 ≤ i) (h1 : i ≤ 2147483646) : inB i (-1) 2147483646 = true := by simp [inB]; omega
theorem back_P (x : Int) (h0 : 0 ≤ x) (h : (shP x).2 = 0) : likL (shP x).1 = x := by
  unfold shP at *
  split
  · rename_i hb; rw [if_pos hb] at h; cases h
  · rename_i hb
    simp only [badL, Bool.or_eq_true, decide_eq_true_eq, beq_iff_eq, not_or] at hb
    have hs := suf_no (slotT (x % 4294967296 - 1)) (slot_byte _ (by omega))
    show likL (slotT (x % 4294967296 - 1)) = x
    unfold likL
    rw [hs.1, hs.2, likSl_slotT _ (by omega) (by omega)]
    unfold linkW
    rw [if_pos (inS _ (by omega) (by omega))]
    unfold packLink
    simp only [Bool.false_eq_true, if_false]
    omega
theorem back_L (x : Int) (h0 : 0 ≤ x) (h : (shL x).2 = 0) : likL (shL x).1 = x := by
  unfold shL at *
  split
  · rename_i hb; rw [if_pos hb] at h; cases h
  · rename_i hb
    simp only [badL, Bool.or_eq_true, decide_eq_true_eq, not_or] at hb
    split
    · rename_i hm
      have hm : x / 4294967296 % 2 = 1 := by simpa using hm
      have hs := suf_yes (slotT (x % 4294967296 - 1))
      show likL (slotT (x % 4294967296 - 1) ++ ⟨#[42]⟩) = x
      unfold likL
      rw [hs.1, hs.2, likSl_slotT _ (by omega) (by omega)]
      unfold linkW
      rw [if_pos (inS _ (by omega) (by omega))]
      unfold packLink
      simp only [if_true]
      omega
    · rename_i hm
      have hm : ¬ x / 4294967296 % 2 = 1 := by simpa using hm
      have hs := suf_no (slotT (x % 4294967296 - 1)) (slot_byte _ (by omega))
      show likL (slotT (x % 4294967296 - 1)) = x
      unfold likL
      rw [hs.1, hs.2, likSl_slotT _ (by omega) (by omega)]
      unfold linkW
      rw [if_pos (inS _ (by omega) (by omega))]
      unfold packLink
      simp only [Bool.false_eq_true, if_false]
      omega
theorem back_H (x : Int) (h0 : 0 ≤ x) (h1 : x ≤ 18446744073709551615) (h : (shH x).2 = 0) : likH (shH x).1 = x := by
  unfold shH at *
  split
  · rename_i hb; rw [if_pos hb] at h; cases h
  · rename_i hb
    have hb : ¬ 2147483647 < x % 4294967296 := by simpa using hb
    have hc := cut_at ((dec (x / 4294967296) ++ ⟨#[58]⟩) ++ slotT (x % 4294967296 - 1)) (dec (x / 4294967296)) (slotT (x % 4294967296 - 1)) 58
      (by rw [app_list, app_list]; simp) (fun b hb e => by have := dec_digit _ b hb; subst e; simp at this)
    show likH ((dec (x / 4294967296) ++ ⟨#[58]⟩) ++ slotT (x % 4294967296 - 1)) = x
    unfold likH
    rw [hc.1, hc.2, likSl_slotT _ (by omega) (by omega), likI_dec _ (by omega) (by omega)]
    unfold headW
    rw [if_pos (inS _ (by omega) (by omega)), IntKind.wrap_u32]
    unfold packHead
    omega
theorem back_F (x : Int) (h0 : 0 ≤ x) (h : (shF x).2 = 0) : IntKind.u64.wrap (likI (shF x).1) = x := by
  unfold shF at *
  split
  · rename_i hb; rw [if_pos hb] at h; cases h
  · rename_i hb
    have hb : ¬ 1 < x := by simpa using hb
    show IntKind.u64.wrap (likI (dec x)) = x
    rw [likI_dec x h0 (by omega), IntKind.wrap_u64]
    omega
theorem back_V (x : Int) (h0 : 0 ≤ x) (h1 : x ≤ 18446744073709551615) : IntKind.u64.wrap (likI (shV x).1) = x := by
  have hw := wrap64_bd x
  show IntKind.u64.wrap (likI (ito (wrap64 x))) = x
  rw [likI_ito _ hw.1 hw.2, IntKind.wrap_u64]
  unfold wrap64
  omega
theorem shw_in (r x : Int) (h1 : 1 ≤ r) (h2 : r ≤ 13) : shw r x = if tKind r = 0 then shH x else if tKind r = 1 then shP x else if tKind r = 2 then shF x else if tKind r = 4 then shL x else shV x := by
  unfold shw; rw [if_pos (by simp [h1, h2])]
theorem shw_back (r x : Int) (h0 : 0 ≤ x) (h1 : x ≤ 18446744073709551615) (hr1 : 1 ≤ r) (hr2 : r ≤ 13) (h : (shw r x).2 = 0) : likW (tKind r) (shw r x).1 = x := by
  have es := shw_in r x hr1 hr2
  unfold likW
  rcases tKind_cases r hr1 hr2 with e | e | e | e | e
  · rw [e] at es ⊢
    have es : shw r x = shH x := es
    rw [es] at h ⊢
    exact back_H x h0 h1 h
  · rw [e] at es ⊢
    have es : shw r x = shP x := es
    rw [es] at h ⊢
    exact back_P x h0 h
  · rw [e] at es ⊢
    have es : shw r x = shF x := es
    rw [es] at h ⊢
    exact back_F x h0 h
  · rw [e] at es ⊢
    have es : shw r x = shV x := es
    rw [es] at h ⊢
    exact back_V x h0 h1
  · rw [e] at es ⊢
    have es : shw r x = shL x := es
    rw [es] at h ⊢
    exact back_L x h0 h
theorem shw_pr (r x : Int) (h0 : 0 ≤ x) (h1 : x ≤ 18446744073709551615) (h : (shw r x).2 = 0) : prW r (shw r x).1 = x ∧ prE r (shw r x).1 = 0 := by
  have hr : 1 ≤ r ∧ r ≤ 13 := by
    by_cases c : 1 ≤ r ∧ r ≤ 13
    · exact c
    · unfold shw at h
      rw [if_neg (by simp; omega)] at h
      cases h
  have hb := shw_back r x h0 h1 hr.1 hr.2 h
  have hin : inB r 1 13 = true := by simp [inB]; omega
  have hi : isW r (shw r x).1 = true := by
    unfold isW
    rw [hb, h]
    simp
  unfold prW prE yW yE
  rw [hin, hi, hb]
  exact ⟨rfl, rfl⟩
/-! ### Names -/
def names : List (List UInt8) := [[102, 114, 101, 101], [99, 101, 108, 108], [116, 111, 112], [104, 101, 97, 100], [116, 97, 105, 108], [114, 111, 111, 116], [98, 117, 99, 107, 101, 116], [97, 99, 116, 105, 118, 101], [104, 97, 122, 97, 114, 100], [115, 112, 97, 114, 101], [118, 97, 108, 117, 101], [100, 97, 116, 97], [108, 105, 110, 107]]
theorem reg_cases (r : Int) (h1 : 1 ≤ r) (h2 : r ≤ 13) : r = 1 ∨ r = 2 ∨ r = 3 ∨ r = 4 ∨ r = 5 ∨ r = 6 ∨ r = 7 ∨ r = 8 ∨ r = 9 ∨ r = 10 ∨ r = 11 ∨ r = 12 ∨ r = 13 := by omega
theorem tName_list (r : Int) (h1 : 1 ≤ r) (h2 : r ≤ 13) : (tName r).data.toList = names.getD (r.toNat - 1) [] := by
  rcases reg_cases r h1 h2 with rfl | rfl | rfl | rfl | rfl | rfl | rfl | rfl | rfl | rfl | rfl | rfl | rfl <;> rfl
theorem names_low : ∀ l ∈ names, ∀ b ∈ l, 97 ≤ b.toNat ∧ b.toNat ≤ 122 := by decide
theorem tName_low (r : Int) (h1 : 1 ≤ r) (h2 : r ≤ 13) : ∀ b ∈ (tName r).data.toList, 97 ≤ b.toNat ∧ b.toNat ≤ 122 := by
  rw [tName_list r h1 h2]
  rcases reg_cases r h1 h2 with rfl | rfl | rfl | rfl | rfl | rfl | rfl | rfl | rfl | rfl | rfl | rfl | rfl <;> exact names_low _ (by decide)
theorem names_inj : ∀ i : Fin 13, ∀ j : Fin 13, names.getD i.val [] = names.getD j.val [] → i = j := by decide
theorem tName_inj (r q : Int) (h1 : 1 ≤ r) (h2 : r ≤ 13) (h3 : 1 ≤ q) (h4 : q ≤ 13) (h : tName r = tName q) : r = q := by
  have h := congrArg (fun s : ByteArray => s.data.toList) h
  simp only [tName_list r h1 h2, tName_list q h3 h4] at h
  have := names_inj ⟨r.toNat - 1, by omega⟩ ⟨q.toNat - 1, by omega⟩ h
  have := congrArg Fin.val this
  simp only at this
  omega
theorem isReg_name (r q : Int) (h1 : 1 ≤ r) (h2 : r ≤ 13) (h : IsReg (tName r) q) : q = r := by
  rcases h with ⟨a, b, e⟩ | ⟨_, hn⟩
  · exact tName_inj q r a b h1 h2 e
  · have := hn r.toNat (by omega) (by omega)
    rw [show ((r.toNat : Nat) : Int) = r by omega] at this
    exact absurd rfl this
theorem likI_none : likI ⟨#[]⟩ = 0 := rfl
/-- A name's parts. -/
theorem name_parts (r i k : Int) (h : named r i k = true) : cutA (nameB r i k) 32 = tName r ∧ likA (nameB r i k) = i ∧ likB (nameB r i k) = k := by
  simp only [named, Bool.and_eq_true, decide_eq_true_eq, beq_iff_eq] at h
  obtain ⟨⟨⟨⟨⟨h1, h2⟩, hi⟩, hk⟩, hi2⟩, hk2⟩ := h
  have ib : 0 ≤ i ∧ i ≤ 2147483646 := by simpa [inB] using hi2
  have kb : 0 ≤ k ∧ k ≤ 2147483646 := by simpa [inB] using hk2
  have low := tName_low r h1 h2
  have di := ito_digit i ib.1
  have no32 : ∀ x ∈ (tName r).data.toList, x ≠ 32 := fun x hx e => by have := low x hx; subst e; simp at this
  have no46 : ∀ x ∈ (ito i).data.toList, x ≠ 46 := fun x hx e => by have := di x hx; subst e; simp at this
  have li := likI_ito i (by omega) (by omega)
  have lk := likI_ito k (by omega) (by omega)
  unfold likA likB
  rcases tNums_cases r h1 h2 with e | e | e
  · have en : nameB r i k = tName r := by unfold nameB; rw [if_pos e]
    have c := cut_no (tName r) 32 no32
    have c2 := cut_no ⟨#[]⟩ 46 (fun b hb => by simp at hb)
    rw [en, c.1, c.2, c2.1, c2.2, likI_none]
    unfold bareI at hi
    unfold bareK at hk
    rw [if_pos e] at hi
    rw [if_neg (by omega)] at hk
    exact ⟨rfl, hi.symm, hk.symm⟩
  · have en : nameB r i k = tName r ++ (⟨#[32]⟩ ++ ito i) := by unfold nameB ito; rw [if_neg (by omega), if_pos e]
    have c := cut_at (tName r ++ (⟨#[32]⟩ ++ ito i)) (tName r) (ito i) 32 (by rw [app_list, app_list]; simp) no32
    have c2 := cut_no (ito i) 46 no46
    rw [en, c.1, c.2, c2.1, c2.2, likI_none, li]
    unfold bareK at hk
    rw [if_neg (by omega)] at hk
    exact ⟨rfl, rfl, hk.symm⟩
  · have en : nameB r i k = (tName r ++ (⟨#[32]⟩ ++ ito i)) ++ (⟨#[46]⟩ ++ ito k) := by unfold nameB ito; rw [if_neg (by omega), if_neg (by omega)]
    have c := cut_at ((tName r ++ (⟨#[32]⟩ ++ ito i)) ++ (⟨#[46]⟩ ++ ito k)) (tName r) (ito i ++ (⟨#[46]⟩ ++ ito k)) 32 (by simp only [app_list]; simp) no32
    have c2 := cut_at (ito i ++ (⟨#[46]⟩ ++ ito k)) (ito i) (ito k) 46 (by simp only [app_list]; simp) no46
    rw [en, c.1, c.2, c2.1, c2.2, li, lk]
    exact ⟨rfl, rfl, rfl⟩
theorem nm_named (r i k : Int) (h : nmE r i k = 0) : named r i k = true := by
  unfold nmE at h
  split at h
  · assumption
  · cases h
end Go.Proofs.YtpmpdkpnjfidhaaDoor.St
