/-
  THE DOCUMENT'S Kind, Fits and Show by their contracts.
-/
import Derived.Test.YtpmpdkpnjfidhaaDoorRefNumB
namespace Go.Proofs.YtpmpdkpnjfidhaaDoor.St
open Go.RowKit
open Go.Lib (decDigits)
open Tr Wp
set_option linter.unusedVariables false
def kdR (r : Int) : Int := if inB r 1 13 = true then (if tKind r = 0 then 1 else if tKind r = 1 then 2 else if tKind r = 2 then 4 else if tKind r = 4 then 3 else 5) else 0
theorem kind_in (r : Int) (w : World) (h1 : 1 ≤ r) (h2 : r ≤ 13) : Calls Tryd.prog 18 #[.int .i64 r] w fun e w' => e = .returned (.int .i64 (kdR r)) ∧ w' = w := by
  rcases reg_cases r h1 h2 with rfl | rfl | rfl | rfl | rfl | rfl | rfl | rfl | rfl | rfl | rfl | rfl | rfl
  all_goals (clear h1 h2; go_enter Tryd.func18, Tryd.ntmps18; go_wp2; go_ret; exact ⟨rfl, rfl⟩)
theorem kind_out (r : Int) (w : World) (h : r < 1 ∨ 13 < r) : Calls Tryd.prog 18 #[.int .i64 r] w fun e w' => e = .returned (.int .i64 0) ∧ w' = w := by
  have e1 : (r == 1) = false := beq_eq_false_iff_ne.2 (by omega)
  have e2 : (r == 2) = false := beq_eq_false_iff_ne.2 (by omega)
  have e3 : (r == 3) = false := beq_eq_false_iff_ne.2 (by omega)
  have e4 : (r == 4) = false := beq_eq_false_iff_ne.2 (by omega)
  have e5 : (r == 5) = false := beq_eq_false_iff_ne.2 (by omega)
  have e6 : (r == 6) = false := beq_eq_false_iff_ne.2 (by omega)
  have e7 : (r == 7) = false := beq_eq_false_iff_ne.2 (by omega)
  have e8 : (r == 8) = false := beq_eq_false_iff_ne.2 (by omega)
  have e9 : (r == 9) = false := beq_eq_false_iff_ne.2 (by omega)
  have e10 : (r == 10) = false := beq_eq_false_iff_ne.2 (by omega)
  have e11 : (r == 11) = false := beq_eq_false_iff_ne.2 (by omega)
  have e12 : (r == 12) = false := beq_eq_false_iff_ne.2 (by omega)
  have e13 : (r == 13) = false := beq_eq_false_iff_ne.2 (by omega)
  clear h
  go_enter Tryd.func18, Tryd.ntmps18
  go_wp2
  go_ret
  exact ⟨rfl, rfl⟩
theorem isHead_any (x : Int) (w : World) (h0 : 0 ≤ x) : Calls Tryd.prog 39 #[.int .u64 x] w fun e w' => e = .returned (.bool (decide (x % 4294967296 ≤ 2147483647))) ∧ w' = w := by
  have e1 : x.tmod 4294967296 = x % 4294967296 := Int.tmod_eq_emod_of_nonneg h0
  have hm : 0 ≤ x % 4294967296 ∧ x % 4294967296 < 4294967296 := by omega
  generalize x % 4294967296 = m at *
  go_enter Tryd.func39, Tryd.ntmps39
  go_wp2
  go_ret
  exact ⟨rfl, rfl⟩
theorem isLink_any (x : Int) (w : World) (h0 : 0 ≤ x) : Calls Tryd.prog 40 #[.int .u64 x] w fun e w' => e = .returned (.bool (!badL x)) ∧ w' = w := by
  have e1 : x.tmod 4294967296 = x % 4294967296 := Int.tmod_eq_emod_of_nonneg h0
  have hm : 0 ≤ x % 4294967296 ∧ x % 4294967296 < 4294967296 := by omega
  have hb : (!badL x) = (decide (x < 8589934592) && decide (x % 4294967296 ≤ 2147483647)) := by
    unfold badL
    by_cases h1 : x < 8589934592 <;> by_cases h2 : x % 4294967296 ≤ 2147483647 <;> simp [h1, h2] <;> omega
  rw [hb]
  clear hb
  generalize x % 4294967296 = m at *
  by_cases h1 : x < 8589934592
  · have q1 : decide (x < 8589934592) = true := by simpa using h1
    go_enter Tryd.func40, Tryd.ntmps40
    go_wp2
    go_ret
    exact ⟨by simp [q1], rfl⟩
  · have q1 : decide (x < 8589934592) = false := by simpa using h1
    go_enter Tryd.func40, Tryd.ntmps40
    go_wp2
    go_ret
    exact ⟨by simp, rfl⟩
theorem linkMark_any (x : Int) (w : World) (h0 : 0 ≤ x) (h1 : x ≤ 18446744073709551615) : Calls Tryd.prog 41 #[.int .u64 x] w fun e w' => e = .returned (.bool (x / 4294967296 % 2 == 1)) ∧ w' = w := by
  have e1 : x.tdiv 4294967296 = x / 4294967296 := Int.tdiv_eq_ediv_of_nonneg h0
  have hq : 0 ≤ x / 4294967296 ∧ x / 4294967296 < 4294967296 := by omega
  have e2 : (x / 4294967296).tmod 2 = x / 4294967296 % 2 := Int.tmod_eq_emod_of_nonneg hq.1
  have hw : IntKind.u64.wrap (x / 4294967296) = x / 4294967296 := by rw [IntKind.wrap_u64]; omega
  generalize x / 4294967296 = q at *
  go_enter Tryd.func41, Tryd.ntmps41
  go_wp2
  go_ret
  exact ⟨rfl, rfl⟩
theorem headTag_any (x : Int) (w : World) (h0 : 0 ≤ x) (h1 : x ≤ 18446744073709551615) : Calls Tryd.prog 42 #[.int .u64 x] w fun e w' => e = .returned (.int .u64 (x / 4294967296)) ∧ w' = w := by
  have e1 : x.tdiv 4294967296 = x / 4294967296 := Int.tdiv_eq_ediv_of_nonneg h0
  have hw : IntKind.u64.wrap (x / 4294967296) = x / 4294967296 := by rw [IntKind.wrap_u64]; omega
  generalize x / 4294967296 = q at *
  go_enter Tryd.func42, Tryd.ntmps42
  go_wp2
  go_ret
  exact ⟨rfl, rfl⟩
theorem linkText_any (m : Int) (w : World) (h0 : 0 ≤ m) (h1 : m < 4294967296) : Calls Tryd.prog 43 #[.int .u64 m] w fun e w' => e = .returned (.string (slotT (m - 1))) ∧ Below w.heap.size w w' := by
  by_cases hz : m = 0
  · subst hz
    go_enter Tryd.func43, Tryd.ntmps43
    go_wp2
    go_ret
    exact ⟨rfl, Below.refl _ _⟩
  · have e1 : (m == 0) = false := beq_eq_false_iff_ne.2 hz
    have hw : IntKind.u64.wrap (m - 1) = m - 1 := by rw [IntKind.wrap_u64]; omega
    obtain ⟨u, hu⟩ : ∃ u : Nat, m - 1 = u := ⟨(m - 1).toNat, by omega⟩
    have D := digits_any u w (by omega)
    have hs : slotT (m - 1) = dec (u : Int) := by unfold slotT; rw [if_neg (by omega), ito_dec _ (by omega), hu]
    rw [hs]
    go_enter Tryd.func43, Tryd.ntmps43
    go_wp2_with (go_at_call 28; refine D.mono ?_; clear D; rintro e w1 ⟨rfl, B1⟩)
    go_ret
    exact ⟨rfl, B1⟩
theorem decimal_any (n : Int) (w : World) (h0 : -9223372036854775808 ≤ n) (h1 : n ≤ 9223372036854775807) : Calls Tryd.prog 44 #[.int .i64 n] w fun e w' => e = .returned (.string (ito n)) ∧ Below w.heap.size w w' := by
  by_cases hn : n < 0
  · obtain ⟨u, hu⟩ : ∃ u : Nat, -n = u := ⟨n.natAbs, by omega⟩
    have D := digits_any u w (by omega)
    have q1 : decide (n < 0) = true := by simpa using hn
    have hw : IntKind.u64.wrap n = n + 18446744073709551616 := by rw [IntKind.wrap_u64]; omega
    have hw2 : IntKind.u64.wrap (-(n + 18446744073709551616)) = (u : Int) := by rw [IntKind.wrap_u64]; omega
    have hsz := dec_size (u : Int) (by omega) (by omega)
    have hs : ito n = ⟨#[45]⟩ ++ dec (u : Int) := by
      refine ba_ext ?_
      rw [app_list, dec_list]
      show ((Lib.itoa n).toArray).toList = _
      unfold Lib.itoa
      rw [if_pos hn, show n.natAbs = u by omega]
      simp
    rw [hs]
    clear hs
    generalize dec (u : Int) = t at *
    go_enter Tryd.func44, Tryd.ntmps44
    go_wp2_with (go_at_call 28; refine D.mono ?_; clear D; rintro e w1 ⟨rfl, B1⟩)
    go_ret
    exact ⟨rfl, B1⟩
  · obtain ⟨u, rfl⟩ : ∃ u : Nat, n = u := ⟨n.toNat, by omega⟩
    have D := digits_any u w (by omega)
    have q1 : decide ((u : Int) < 0) = false := by simp
    have hw : IntKind.u64.wrap (u : Int) = (u : Int) := by rw [IntKind.wrap_u64]; omega
    have hs : ito (u : Int) = dec (u : Int) := ito_dec _ (by omega)
    rw [hs]
    go_enter Tryd.func44, Tryd.ntmps44
    go_wp2_with (go_at_call 28; refine D.mono ?_; clear D; rintro e w1 ⟨rfl, B1⟩)
    go_ret
    exact ⟨rfl, B1⟩
theorem in13 (r : Int) (h1 : 1 ≤ r) (h2 : r ≤ 13) : inB r 1 13 = true := by simp [inB]; omega
theorem fits_any (r x : Int) (w : World) (h1 : 1 ≤ r) (h2 : r ≤ 13) (h0 : 0 ≤ x) (hx : x ≤ 18446744073709551615) : Calls Tryd.prog 19 #[.int .i64 r, .int .u64 x] w fun e w' => e = .returned (.bool ((shw r x).2 == 0)) ∧ w' = w := by
  have K := kind_in r w h1 h2
  have hin := in13 r h1 h2
  rw [shw_in r x h1 h2]
  rcases tKind_cases r h1 h2 with ht | ht | ht | ht | ht
  · have hk : kdR r = 1 := by simp [kdR, hin, ht]
    rw [hk] at K
    have A := isHead_any x w h0
    have hb : ((if tKind r = 0 then shH x else if tKind r = 1 then shP x else if tKind r = 2 then shF x else if tKind r = 4 then shL x else shV x).2 == 0) = decide (x % 4294967296 ≤ 2147483647) := by
      rw [if_pos ht]
      unfold shH
      by_cases h : 2147483647 < x % 4294967296
      · rw [if_pos (by simpa using h)]; simp; omega
      · rw [if_neg (by simpa using h)]; simp; omega
    rw [hb]
    clear hb ht hk hin
    generalize decide (x % 4294967296 ≤ 2147483647) = v at *
    go_enter Tryd.func19, Tryd.ntmps19
    go_wp2_with (first | (go_at_call 18; refine K.mono ?_; rintro e w1 ⟨rfl, rfl⟩) | (go_at_call 39; refine A.mono ?_; rintro e w1 ⟨rfl, rfl⟩))
    go_ret
    exact ⟨rfl, rfl⟩
  · have hk : kdR r = 2 := by simp [kdR, hin, ht]
    rw [hk] at K
    have A := isLink_any x w h0
    have A2 := linkMark_any x w h0 hx
    have hb : ((if tKind r = 0 then shH x else if tKind r = 1 then shP x else if tKind r = 2 then shF x else if tKind r = 4 then shL x else shV x).2 == 0) = ((!badL x) && !(x / 4294967296 % 2 == 1)) := by
      rw [if_neg (by omega), if_pos ht]
      unfold shP
      cases badL x <;> cases (x / 4294967296 % 2 == 1) <;> rfl
    rw [hb]
    clear hb ht hk hin
    generalize badL x = v at *
    generalize (x / 4294967296 % 2 == 1) = v2 at *
    cases v
    · go_enter Tryd.func19, Tryd.ntmps19
      go_wp2_with (first | (go_at_call 18; refine K.mono ?_; rintro e w1 ⟨rfl, rfl⟩) | (go_at_call 40; refine A.mono ?_; rintro e w1 ⟨rfl, rfl⟩) | (go_at_call 41; refine A2.mono ?_; rintro e w1 ⟨rfl, rfl⟩))
      go_ret
      exact ⟨by simp, rfl⟩
    · go_enter Tryd.func19, Tryd.ntmps19
      go_wp2_with (first | (go_at_call 18; refine K.mono ?_; rintro e w1 ⟨rfl, rfl⟩) | (go_at_call 40; refine A.mono ?_; rintro e w1 ⟨rfl, rfl⟩))
      go_ret
      exact ⟨by simp, rfl⟩
  · have hk : kdR r = 4 := by simp [kdR, hin, ht]
    rw [hk] at K
    have hb : ((if tKind r = 0 then shH x else if tKind r = 1 then shP x else if tKind r = 2 then shF x else if tKind r = 4 then shL x else shV x).2 == 0) = decide (x < 2) := by
      rw [if_neg (by omega), if_neg (by omega), if_pos ht]
      unfold shF
      by_cases h : 1 < x
      · rw [if_pos (by simpa using h)]; simp; omega
      · rw [if_neg (by simpa using h)]; simp; omega
    rw [hb]
    clear hb ht hk hin
    go_enter Tryd.func19, Tryd.ntmps19
    go_wp2_with (first | (go_at_call 18; refine K.mono ?_; rintro e w1 ⟨rfl, rfl⟩))
    go_ret
    exact ⟨rfl, rfl⟩
  · have hk : kdR r = 5 := by simp [kdR, hin, ht]
    rw [hk] at K
    have hb : ((if tKind r = 0 then shH x else if tKind r = 1 then shP x else if tKind r = 2 then shF x else if tKind r = 4 then shL x else shV x).2 == 0) = true := by
      rw [if_neg (by omega), if_neg (by omega), if_neg (by omega), if_neg (by omega)]
      rfl
    rw [hb]
    clear hb ht hk hin
    go_enter Tryd.func19, Tryd.ntmps19
    go_wp2_with (first | (go_at_call 18; refine K.mono ?_; rintro e w1 ⟨rfl, rfl⟩))
    go_ret
    exact ⟨rfl, rfl⟩
  · have hk : kdR r = 3 := by simp [kdR, hin, ht]
    rw [hk] at K
    have A := isLink_any x w h0
    have hb : ((if tKind r = 0 then shH x else if tKind r = 1 then shP x else if tKind r = 2 then shF x else if tKind r = 4 then shL x else shV x).2 == 0) = (!badL x) := by
      rw [if_neg (by omega), if_neg (by omega), if_neg (by omega), if_pos ht]
      unfold shL
      cases badL x <;> cases (x / 4294967296 % 2 == 1) <;> rfl
    rw [hb]
    clear hb ht hk hin
    generalize badL x = v at *
    go_enter Tryd.func19, Tryd.ntmps19
    go_wp2_with (first | (go_at_call 18; refine K.mono ?_; rintro e w1 ⟨rfl, rfl⟩) | (go_at_call 40; refine A.mono ?_; rintro e w1 ⟨rfl, rfl⟩))
    go_ret
    exact ⟨rfl, rfl⟩
end Go.Proofs.YtpmpdkpnjfidhaaDoor.St
