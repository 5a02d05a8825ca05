/-
  CONTRACTS of Show and its parts.
-/
import Derived.Test.YtpmpdkpnjfidhaaDoorStrRead
import Derived.Test.YtpmpdkpnjfidhaaDoorStrFmt
import Derived.Test.YtpmpdkpnjfidhaaDoorWordPackD
namespace Go.Proofs.YtpmpdkpnjfidhaaDoor.St
open Go.RowKit
open Tr Wp
set_option linter.unusedVariables false
def dec (u : Int) : ByteArray := ⟨(Lib.decDigits u.toNat).toArray⟩
def ito (n : Int) : ByteArray := ⟨(Lib.itoa n).toArray⟩
def slotT (i : Int) : ByteArray := if i = -1 then ⟨#[45]⟩ else ito i
def badL (x : Int) : Bool := decide (8589934592 ≤ x) || decide (2147483647 < x % 4294967296)
def shH (x : Int) : ByteArray × Int := if decide (2147483647 < x % 4294967296) then (⟨#[]⟩, 10) else ((dec (x / 4294967296) ++ ⟨#[58]⟩) ++ slotT (x % 4294967296 - 1), 0)
def shP (x : Int) : ByteArray × Int := if badL x || (x / 4294967296 % 2 == 1) then (⟨#[]⟩, 10) else (slotT (x % 4294967296 - 1), 0)
def shL (x : Int) : ByteArray × Int := if badL x then (⟨#[]⟩, 10) else if x / 4294967296 % 2 == 1 then (slotT (x % 4294967296 - 1) ++ ⟨#[42]⟩, 0) else (slotT (x % 4294967296 - 1), 0)
def shF (x : Int) : ByteArray × Int := if decide (1 < x) then (⟨#[]⟩, 10) else (dec x, 0)
def shV (x : Int) : ByteArray × Int := (ito (wrap64 x), 0)
def shw (r x : Int) : ByteArray × Int :=
  if decide (1 ≤ r) && decide (r ≤ 13) then
    if tKind r = 0 then shH x else if tKind r = 1 then shP x else if tKind r = 2 then shF x else if tKind r = 4 then shL x else shV x
  else (⟨#[]⟩, 2)
theorem dec_size (u : Int) (h0 : 0 ≤ u) (h1 : u ≤ 18446744073709551615) : (dec u).size ≤ 20 := by
  obtain ⟨n, rfl⟩ := Int.eq_ofNat_of_zero_le h0
  show (Lib.decDigits n).length ≤ 20
  rw [Lib.decDigits_length]
  exact Lib.nDigits_le20 n (by omega)
theorem ito_size (u : Int) (h0 : -9223372036854775808 ≤ u) (h1 : u ≤ 9223372036854775807) : (ito u).size ≤ 21 := Lib.itoa_length_le u h0 h1
theorem fmtI_any (u : Int) (w : World) (h0 : 0 ≤ u) (h1 : u ≤ 18446744073709551615) (E : Env w) :
    Calls Tryd.prog 49 #[.int .u64 u, .int .i64 10] w fun e w' => e = .returned (.string (dec u)) ∧ Below w.heap.size w w' := by
  obtain ⟨n, rfl⟩ := Int.eq_ofNat_of_zero_le h0
  exact fmt_any n w (by omega) E
theorem itoI_any (n : Int) (w : World) (h0 : -9223372036854775808 ≤ n) (h1 : n ≤ 9223372036854775807) (E : Env w) :
    Calls Tryd.prog 26 #[.int .i64 n] w fun e w' => e = .returned (.string (ito n)) ∧ Below w.heap.size w w' := itoa_any n w h0 h1 E
theorem slotT_size (i : Int) (h0 : -1 ≤ i) (h1 : i ≤ 2147483646) : (slotT i).size ≤ 21 := by
  unfold slotT
  split
  · decide
  · exact ito_size i (by omega) (by omega)
theorem showSlot_any (i : Int) (w : World) (h0 : -1 ≤ i) (h1 : i ≤ 2147483646) (E : Env w) :
    Calls Tryd.prog 50 #[.int .i64 i] w fun e w' => e = .returned (.string (slotT i)) ∧ Below w.heap.size w w' := by
  by_cases h : i = -1
  · subst h
    go_enter Tryd.func50, Tryd.ntmps50
    go_wp2_with fail
    go_ret
    exact ⟨rfl, Below.refl _ _⟩
  · have e1 : Hid (slotT i = ito i) := by show slotT i = ito i; unfold slotT; rw [if_neg h]
    go_enter Tryd.func50, Tryd.ntmps50
    go_wp2_with fail
    refine (itoI_any _ _ (by omega) (by omega) E).mono ?_
    rintro e w1 ⟨rfl, hb⟩
    go_wp2_with fail
    go_ret
    exact ⟨by rw [e1.out]; rfl, hb⟩
set_option maxHeartbeats 1000000 in
theorem showHead_any (x : Int) (w : World) (h0 : 0 ≤ x) (h1 : x ≤ 18446744073709551615) (E : Env w) :
    Calls Tryd.prog 33 #[.int .u64 x] w fun e w' => e = .returned (.tuple #[.string (shH x).1, .int .i64 (shH x).2]) ∧ Below w.heap.size w w' := by
  by_cases h : 2147483647 < x % 4294967296
  · have e1 : Hid (shH x = (⟨#[]⟩, 10)) := by show shH x = _; unfold shH; rw [if_pos (by simpa using h)]
    go_enter Tryd.func33, Tryd.ntmps33
    go_wp2_with (go_at_call 14; refine (unhead_bad x _ h0 h1 h).mono ?_; rintro e w' ⟨rfl, rfl⟩)
    go_ret2
    exact ⟨by rw [e1.out]; rfl, Below.refl _ _⟩
  · have e1 : Hid (shH x = ((dec (x / 4294967296) ++ ⟨#[58]⟩) ++ slotT (x % 4294967296 - 1), 0)) := by show shH x = _; unfold shH; rw [if_neg (by simpa using h)]
    have ht0 : 0 ≤ x / 4294967296 := by omega
    have ht1 : x / 4294967296 ≤ 4294967295 := by omega
    have hi0 : -1 ≤ x % 4294967296 - 1 := by omega
    have hi1 : x % 4294967296 - 1 ≤ 2147483646 := by omega
    have s1 := dec_size (x / 4294967296) (by omega) (by omega)
    have s2 := slotT_size (x % 4294967296 - 1) hi0 hi1
    have hm : x % 4294967296 ≤ 2147483647 := by omega
    go_enter Tryd.func33, Tryd.ntmps33
    go_wp2_with (go_at_call 14; refine (unhead_ok x _ h0 h1 hm).mono ?_; rintro e w' ⟨rfl, rfl⟩)
    refine (fmtI_any _ _ ht0 (by omega) E).mono ?_
    rintro e w1 ⟨rfl, B1⟩
    have V1 := E.below B1
    generalize dec (x / 4294967296) = d at *
    go_wp2_with fail
    refine (showSlot_any _ _ hi0 hi1 V1).mono ?_
    rintro e w2 ⟨rfl, B2⟩
    have B2 := seqB B1 B2 (Nat.le_refl _)
    clear B1 V1
    generalize slotT (x % 4294967296 - 1) = t at *
    go_wp2_with fail
    go_ret2
    exact ⟨by rw [e1.out]; rfl, B2⟩
set_option maxHeartbeats 1000000 in
theorem showPlain_any (x : Int) (w : World) (h0 : 0 ≤ x) (h1 : x ≤ 18446744073709551615) (E : Env w) :
    Calls Tryd.prog 34 #[.int .u64 x] w fun e w' => e = .returned (.tuple #[.string (shP x).1, .int .i64 (shP x).2]) ∧ Below w.heap.size w w' := by
  by_cases h : 8589934592 ≤ x ∨ 2147483647 < x % 4294967296
  · have e1 : Hid (shP x = (⟨#[]⟩, 10)) := by show shP x = _; unfold shP; rw [if_pos (by simp [badL]; exact .inl h)]
    go_enter Tryd.func34, Tryd.ntmps34
    go_wp2_with (go_at_call 12; refine (unlink_bad x _ h0 h1 h).mono ?_; rintro e w' ⟨rfl, rfl⟩)
    go_ret2
    exact ⟨by rw [e1.out]; rfl, Below.refl _ _⟩
  · have hx : x < 8589934592 := by omega
    have hm : x % 4294967296 ≤ 2147483647 := by omega
    have hb : badL x = false := by simp [badL]; omega
    cases hk : (x / 4294967296 % 2 == 1)
    · have e1 : Hid (shP x = (slotT (x % 4294967296 - 1), 0)) := by show shP x = _; unfold shP; rw [hb, hk]; rfl
      have hu := unlink_ok x w h0 hx hm
      rw [hk] at hu
      go_enter Tryd.func34, Tryd.ntmps34
      go_wp2_with (go_at_call 12; refine hu.mono ?_; rintro e w' ⟨rfl, rfl⟩)
      refine (showSlot_any _ _ (by omega) (by omega) E).mono ?_
      rintro e w2 ⟨rfl, B2⟩
      generalize slotT (x % 4294967296 - 1) = t at *
      go_wp2_with fail
      go_ret2
      exact ⟨by rw [e1.out]; rfl, B2⟩
    · have e1 : Hid (shP x = (⟨#[]⟩, 10)) := by show shP x = _; unfold shP; rw [hb, hk]; rfl
      have hu := unlink_ok x w h0 hx hm
      rw [hk] at hu
      go_enter Tryd.func34, Tryd.ntmps34
      go_wp2_with (go_at_call 12; refine hu.mono ?_; rintro e w' ⟨rfl, rfl⟩)
      go_ret2
      exact ⟨by rw [e1.out]; rfl, Below.refl _ _⟩
set_option maxHeartbeats 1000000 in
theorem showLink_any (x : Int) (w : World) (h0 : 0 ≤ x) (h1 : x ≤ 18446744073709551615) (E : Env w) :
    Calls Tryd.prog 36 #[.int .u64 x] w fun e w' => e = .returned (.tuple #[.string (shL x).1, .int .i64 (shL x).2]) ∧ Below w.heap.size w w' := by
  by_cases h : 8589934592 ≤ x ∨ 2147483647 < x % 4294967296
  · have e1 : Hid (shL x = (⟨#[]⟩, 10)) := by show shL x = _; unfold shL; rw [if_pos (by simp [badL]; exact h)]
    go_enter Tryd.func36, Tryd.ntmps36
    go_wp2_with (go_at_call 12; refine (unlink_bad x _ h0 h1 h).mono ?_; rintro e w' ⟨rfl, rfl⟩)
    go_ret2
    exact ⟨by rw [e1.out]; rfl, Below.refl _ _⟩
  · have hx : x < 8589934592 := by omega
    have hm : x % 4294967296 ≤ 2147483647 := by omega
    have hb : badL x = false := by simp [badL]; omega
    have s2 := slotT_size (x % 4294967296 - 1) (by omega) (by omega)
    cases hk : (x / 4294967296 % 2 == 1)
    · have e1 : Hid (shL x = (slotT (x % 4294967296 - 1), 0)) := by show shL x = _; unfold shL; rw [hb, hk]; rfl
      have hu := unlink_ok x w h0 hx hm
      rw [hk] at hu
      go_enter Tryd.func36, Tryd.ntmps36
      go_wp2_with (go_at_call 12; refine hu.mono ?_; rintro e w' ⟨rfl, rfl⟩)
      refine (showSlot_any _ _ (by omega) (by omega) E).mono ?_
      rintro e w2 ⟨rfl, B2⟩
      generalize slotT (x % 4294967296 - 1) = t at *
      go_wp2_with fail
      go_ret2
      exact ⟨by rw [e1.out]; rfl, B2⟩
    · have e1 : Hid (shL x = (slotT (x % 4294967296 - 1) ++ ⟨#[42]⟩, 0)) := by show shL x = _; unfold shL; rw [hb, hk]; rfl
      have hu := unlink_ok x w h0 hx hm
      rw [hk] at hu
      go_enter Tryd.func36, Tryd.ntmps36
      go_wp2_with (go_at_call 12; refine hu.mono ?_; rintro e w' ⟨rfl, rfl⟩)
      refine (showSlot_any _ _ (by omega) (by omega) E).mono ?_
      rintro e w2 ⟨rfl, B2⟩
      generalize slotT (x % 4294967296 - 1) = t at *
      go_wp2_with fail
      go_ret2
      exact ⟨by rw [e1.out]; rfl, B2⟩
theorem showFlag_any (x : Int) (w : World) (h0 : 0 ≤ x) (h1 : x ≤ 18446744073709551615) (E : Env w) :
    Calls Tryd.prog 35 #[.int .u64 x] w fun e w' => e = .returned (.tuple #[.string (shF x).1, .int .i64 (shF x).2]) ∧ Below w.heap.size w w' := by
  by_cases h : 1 < x
  · have e1 : Hid (shF x = (⟨#[]⟩, 10)) := by show shF x = _; unfold shF; rw [if_pos (by simpa using h)]
    go_enter Tryd.func35, Tryd.ntmps35
    go_wp2_with fail
    go_ret2
    exact ⟨by rw [e1.out]; rfl, Below.refl _ _⟩
  · have e1 : Hid (shF x = (dec x, 0)) := by show shF x = _; unfold shF; rw [if_neg (by simpa using h)]
    have hc : x ≤ 1 := by omega
    go_enter Tryd.func35, Tryd.ntmps35
    go_wp2_with fail
    refine (fmtI_any _ _ h0 h1 E).mono ?_
    rintro e w1 ⟨rfl, B1⟩
    go_wp2_with fail
    go_ret2
    exact ⟨by rw [e1.out]; rfl, B1⟩
theorem value_any (x : Int) (w : World) :
    Calls Tryd.prog 37 #[.int .u64 x] w fun e w' => e = .returned (.int .i64 (wrap64 x)) ∧ w' = w := by
  go_enter Tryd.func37, Tryd.ntmps37
  go_wp2_with fail
  go_ret
  exact ⟨rfl, rfl⟩
theorem number_any (x : Int) (w : World) :
    Calls Tryd.prog 53 #[.int .i64 x] w fun e w' => e = .returned (.int .u64 (IntKind.u64.wrap x)) ∧ w' = w := by
  go_enter Tryd.func53, Tryd.ntmps53
  go_wp2_with fail
  go_ret
  exact ⟨rfl, rfl⟩
theorem tKind_cases (r : Int) (h1 : 1 ≤ r) (h2 : r ≤ 13) : tKind r = 0 ∨ tKind r = 1 ∨ tKind r = 2 ∨ tKind r = 3 ∨ tKind r = 4 := by
  have hr : r = 1 ∨ r = 2 ∨ r = 3 ∨ r = 4 ∨ r = 5 ∨ r = 6 ∨ r = 7 ∨ r = 8 ∨ r = 9 ∨ r = 10 ∨ r = 11 ∨ r = 12 ∨ r = 13 := by omega
  rcases hr with rfl | rfl | rfl | rfl | rfl | rfl | rfl | rfl | rfl | rfl | rfl | rfl | rfl <;> decide
theorem wrap64_bd (x : Int) : -9223372036854775808 ≤ wrap64 x ∧ wrap64 x ≤ 9223372036854775807 := by
  unfold wrap64; omega
theorem show_no (r x : Int) (w : World) (h : r < 1 ∨ 13 < r) :
    Calls Tryd.prog 15 #[.int .i64 r, .int .u64 x] w fun e w' => e = .returned (.tuple #[.string ⟨#[]⟩, .int .i64 2]) ∧ Below w.heap.size w w' := by
  go_enter Tryd.func15, Tryd.ntmps15
  go_wp2_with (go_at_call 22; refine (isRegion_no _ _ h).mono ?_; rintro e w3 ⟨rfl, rfl⟩)
  go_ret2
  exact ⟨rfl, Below.refl _ _⟩
set_option maxHeartbeats 1000000 in
theorem show_yes (r x : Int) (w : World) (h1 : 1 ≤ r) (h2 : r ≤ 13) (h0 : 0 ≤ x) (hx : x ≤ 18446744073709551615) (E : Env w) :
    Calls Tryd.prog 15 #[.int .i64 r, .int .u64 x] w fun e w' => e = .returned (.tuple #[.string (shw r x).1, .int .i64 (shw r x).2]) ∧ Below w.heap.size w w' := by
  have hk := tKind_cases r h1 h2
  have hw := wrap64_bd x
  have hr : shw r x = if tKind r = 0 then shH x else if tKind r = 1 then shP x else if tKind r = 2 then shF x else if tKind r = 4 then shL x else shV x := by
    unfold shw; rw [if_pos (by simp [h1, h2])]
  have f0 : Hid (tKind r = 0 → shw r x = shH x) := by show tKind r = 0 → _; intro h; rw [hr, if_pos h]
  have f1 : Hid (tKind r = 1 → shw r x = shP x) := by show tKind r = 1 → _; intro h; rw [hr, if_neg (by omega), if_pos h]
  have f2 : Hid (tKind r = 2 → shw r x = shF x) := by show tKind r = 2 → _; intro h; rw [hr, if_neg (by omega), if_neg (by omega), if_pos h]
  have f3 : Hid (tKind r = 3 → shw r x = shV x) := by show tKind r = 3 → _; intro h; rw [hr, if_neg (by omega), if_neg (by omega), if_neg (by omega), if_neg (by omega)]
  have f4 : Hid (tKind r = 4 → shw r x = shL x) := by show tKind r = 4 → _; intro h; rw [hr, if_neg (by omega), if_neg (by omega), if_neg (by omega), if_pos h]
  clear hr
  have hf1 := fld1
  go_enter Tryd.func15, Tryd.ntmps15
  go_wp2_with (go_at_call 22; refine (isRegion_yes _ _ h1 h2).mono ?_; rintro e w3 ⟨rfl, rfl⟩)
  refine (trait_any _ _ h1 h2).mono ?_
  rintro e w1 ⟨rfl, B1⟩
  have V1 := E.below B1
  generalize tNums r = tn at *
  generalize tName r = tm at *
  generalize tKind r = tk at *
  rcases hk with rfl | rfl | rfl | rfl | rfl
  · have e1 : Hid (shw r x = shH x) := f0.out rfl
    clear f0 f1 f2 f3 f4
    go_wp2_with fail
    refine (showHead_any _ _ h0 hx V1).mono ?_
    rintro e w2 ⟨rfl, B2⟩
    have B2 := seqB B1 B2 (Nat.le_refl _)
    go_wp2_with fail
    go_ret2
    exact ⟨by rw [e1.out]; rfl, B2⟩
  · have e1 : Hid (shw r x = shP x) := f1.out rfl
    clear f0 f1 f2 f3 f4
    go_wp2_with fail
    refine (showPlain_any _ _ h0 hx V1).mono ?_
    rintro e w2 ⟨rfl, B2⟩
    have B2 := seqB B1 B2 (Nat.le_refl _)
    go_wp2_with fail
    go_ret2
    exact ⟨by rw [e1.out]; rfl, B2⟩
  · have e1 : Hid (shw r x = shF x) := f2.out rfl
    clear f0 f1 f2 f3 f4
    go_wp2_with fail
    refine (showFlag_any _ _ h0 hx V1).mono ?_
    rintro e w2 ⟨rfl, B2⟩
    have B2 := seqB B1 B2 (Nat.le_refl _)
    go_wp2_with fail
    go_ret2
    exact ⟨by rw [e1.out]; rfl, B2⟩
  · have e1 : Hid (shw r x = shV x) := f3.out rfl
    clear f0 f1 f2 f3 f4
    go_wp2_with (go_at_call 37; refine (value_any _ _).mono ?_; rintro e w3 ⟨rfl, rfl⟩)
    refine (itoI_any _ _ hw.1 hw.2 V1).mono ?_
    rintro e w2 ⟨rfl, B2⟩
    have B2 := seqB B1 B2 (Nat.le_refl _)
    go_wp2_with fail
    go_ret2
    exact ⟨by rw [e1.out]; rfl, B2⟩
  · have e1 : Hid (shw r x = shL x) := f4.out rfl
    clear f0 f1 f2 f3 f4
    go_wp2_with fail
    refine (showLink_any _ _ h0 hx V1).mono ?_
    rintro e w2 ⟨rfl, B2⟩
    have B2 := seqB B1 B2 (Nat.le_refl _)
    go_wp2_with fail
    go_ret2
    exact ⟨by rw [e1.out]; rfl, B2⟩
theorem show_any (r x : Int) (w : World) (h0 : 0 ≤ x) (hx : x ≤ 18446744073709551615) (E : Env w) :
    Calls Tryd.prog 15 #[.int .i64 r, .int .u64 x] w fun e w' => e = .returned (.tuple #[.string (shw r x).1, .int .i64 (shw r x).2]) ∧ Below w.heap.size w w' := by
  by_cases c : r < 1 ∨ 13 < r
  · have e : shw r x = (⟨#[]⟩, 2) := by
      unfold shw
      rw [if_neg]
      simp; omega
    rw [e]; exact show_no r x w c
  · exact show_yes r x w (by omega) (by omega) h0 hx E
end Go.Proofs.YtpmpdkpnjfidhaaDoor.St
