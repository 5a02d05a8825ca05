/-
  THE DOCUMENT'S Parse by its contract: numbers, marked links.
-/
import Derived.Test.YtpmpdkpnjfidhaaDoorRefParse
namespace Go.Proofs.YtpmpdkpnjfidhaaDoor.St
open Go.RowKit
open Go.Lib (decDigits)
open Tr Wp
set_option linter.unusedVariables false
theorem ito_neg (n : Int) (h : n < 0) : (ito n).data.toList = 45 :: decDigits n.natAbs := by
  show ((Lib.itoa n).toArray).toList = _
  unfold Lib.itoa
  rw [if_pos h]
theorem minus_list (s : ByteArray) (h : 0 < s.size) (h45 : s[0].toNat = 45) : s.data.toList = 45 :: (s.extract 1 s.size).data.toList := by
  have e1 := at_list s 0 h
  have hz := sz_list s
  rw [ext_list, hz, List.take_length]
  cases hl : s.data.toList with
  | nil => rw [hl] at hz; exact absurd hz (by simp only [List.length_nil]; omega)
  | cons c t =>
    simp only [hl] at e1
    have : c = 45 := UInt8.toNat_inj.1 (by rw [show c = s[0] from e1, h45]; rfl)
    rw [this]; rfl
theorem dec_inj (u v : Nat) (h : decDigits u = decDigits v) : u = v := by rw [← val_dec u, h, val_dec]
theorem wrap64_val (x : Int) (h0 : 0 ≤ x) (h1 : x ≤ 18446744073709551615) : wrap64 x = if x ≤ 9223372036854775807 then x else x - 18446744073709551616 := by
  unfold wrap64
  split <;> omega
theorem num_fin (r : Int) (s : ByteArray) (sh : ∀ x, shw r x = (ito (wrap64 x), 0)) (h0 : s.data.toList.head? ≠ some 45) (e : Ending) (h : (∃ v : Nat, v ≤ 9223372036854775807 ∧ s = dec (v : Int) ∧ e = .returned (.tuple #[.int .u64 (v : Int), .bool true])) ∨ (NotNum s 9223372036854775807 ∧ e = .returned (.tuple #[.int .u64 0, .bool false]))) : PsR r s e := by
  rcases h with ⟨v, hv, hs, he⟩ | ⟨hn, he⟩
  · refine .inl ⟨v, by omega, by omega, ?_, he⟩
    rw [sh, wrap64_val _ (by omega) (by omega), if_pos (by omega), ito_dec _ (by omega), hs]
  · refine .inr ⟨fun x x0 x1 hx => ?_, _, he⟩
    rw [sh] at hx
    have hxs : ito (wrap64 x) = s := congrArg Prod.fst hx
    have hw := wrap64_bd x
    by_cases hneg : wrap64 x < 0
    · have e := ito_neg _ hneg
      rw [hxs] at e
      exact h0 (by rw [e]; rfl)
    · obtain ⟨v, hv⟩ : ∃ v : Nat, wrap64 x = v := ⟨(wrap64 x).toNat, by omega⟩
      rw [hv, ito_dec _ (by omega)] at hxs
      exact hn v (by omega) hxs.symm
set_option maxHeartbeats 1000000 in
theorem parse_num (r : Int) (s : ByteArray) (w : World) (hsz : s.size ≤ 281474976710656) (h1 : 1 ≤ r) (h2 : r ≤ 13) (ht : tKind r = 3) : Calls Tryd.prog 21 #[.int .i64 r, .string s] w fun e w' => PsR r s e ∧ w' = w := by
  have K := kind_in r w h1 h2
  have hin := in13 r h1 h2
  have hk : kdR r = 5 := by simp [kdR, hin, ht]
  rw [hk] at K
  have sh : ∀ x, shw r x = (ito (wrap64 x), 0) := fun x => by rw [shw_in r x h1 h2, if_neg (by omega), if_neg (by omega), if_neg (by omega), if_neg (by omega)]; rfl
  clear hk hin ht h1 h2
  by_cases hA : 0 < s.size
  · by_cases hB : s[0].toNat = 45
    · have hl := minus_list s hA hB
      have q1 : decide (0 < (s.size : Int)) = true := by simp; omega
      have q1' : decide (0 < s.size) = true := by simp; omega
      have q2 : ((s[0].toNat : Int) == 45) = true := by rw [hB]; rfl
      have N := num_any (s.extract 1 s.size) 9223372036854775808 w (by omega)
      have i1 : (1 : Int) ≤ (s.size : Int) := by omega
      have no : NotNum (s.extract 1 s.size) 9223372036854775808 → ∀ x : Int, 0 ≤ x → x ≤ 18446744073709551615 → shw r x ≠ (s, 0) := fun hn x x0 x1 hx => by
        rw [sh] at hx
        have hxs : ito (wrap64 x) = s := congrArg Prod.fst hx
        have hw := wrap64_bd x
        by_cases hneg : wrap64 x < 0
        · have e := ito_neg _ hneg
          rw [hxs, hl] at e
          exact hn (wrap64 x).natAbs (by omega) (ba_ext (by rw [dec_list]; exact (List.cons.inj e).2))
        · have e := ito_digit (wrap64 x) (by omega) 45 (by rw [hxs, hl]; simp)
          simp at e
      have zero : s.extract 1 s.size = dec ((0 : Nat) : Int) → ∀ x : Int, 0 ≤ x → x ≤ 18446744073709551615 → shw r x ≠ (s, 0) := fun hz x x0 x1 hx => by
        rw [sh] at hx
        have hxs : ito (wrap64 x) = s := congrArg Prod.fst hx
        by_cases hneg : wrap64 x < 0
        · have e := ito_neg _ hneg
          rw [hxs, hl, hz, dec_list] at e
          have := dec_inj _ _ (List.cons.inj e).2
          omega
        · have e := ito_digit (wrap64 x) (by omega) 45 (by rw [hxs, hl]; simp)
          simp at e
      have yes : ∀ v : Nat, 0 < v → v ≤ 9223372036854775808 → s.extract 1 s.size = dec (v : Int) → shw r (18446744073709551616 - (v : Int)) = (s, 0) := fun v v0 v1 hv => by
        rw [sh, wrap64_val _ (by omega) (by omega), if_neg (by omega)]
        refine congrArg (·, (0 : Int)) (ba_ext ?_)
        rw [ito_neg _ (by omega), hl, hv, dec_list]
        congr 2
        omega
      replace no := hidS no
      replace yes := hidS yes
      replace zero := hidS zero
      clear sh hl hB
      go_enter Tryd.func21, Tryd.ntmps21
      go_wp2_with (first | (go_at_call 18; refine K.mono ?_; clear K; rintro e w1 ⟨rfl, hw⟩; obtain rfl := hw.symm) | (go_at_call 30; refine N.mono ?_; clear N; rintro e w1 ⟨hw, hor⟩; obtain rfl := hw.symm; rcases hor with ⟨v, hv, hs, rfl⟩ | ⟨hn, rfl⟩))
      · go_ret2
        refine ⟨?_, rfl⟩
        by_cases hv0 : v = 0
        · subst hv0
          exact .inr ⟨zero.out hs, _, rfl⟩
        · have ew : IntKind.u64.wrap (-(v : Int)) = 18446744073709551616 - (v : Int) := by rw [IntKind.wrap_u64]; omega
          have ed : decide (0 < v) = true := by simp; omega
          refine .inl ⟨18446744073709551616 - (v : Int), by omega, by omega, yes.out v (by omega) hv hs, ?_⟩
          rw [ew, ed]
          rfl
      · go_ret2
        exact ⟨.inr ⟨no.out hn, _, rfl⟩, rfl⟩
    · have q1 : decide (0 < (s.size : Int)) = true := by simp; omega
      have q1' : decide (0 < s.size) = true := by simp; omega
      have q2 : ((s[0].toNat : Int) == 45) = false := beq_eq_false_iff_ne.2 (by omega)
      have N := num_any s 9223372036854775807 w (by omega)
      have h0 : s.data.toList.head? ≠ some 45 := fun e => hB (by
        rw [List.head?_eq_getElem?, List.getElem?_eq_getElem (by rw [← sz_list]; omega), at_list s 0 hA] at e
        rw [Option.some.inj e]; rfl)
      have fin := num_fin r s sh h0
      replace fin := hidS fin
      clear sh hB h0
      go_enter Tryd.func21, Tryd.ntmps21
      go_wp2_with (first | (go_at_call 18; refine K.mono ?_; clear K; rintro e w1 ⟨rfl, hw⟩; obtain rfl := hw.symm) | (go_at_call 30; refine N.mono ?_; clear N; rintro e w1 ⟨hw, hor⟩; obtain rfl := hw.symm; have hF := fin.out e hor; rcases hor with ⟨v, hv, hs, rfl⟩ | ⟨hn, rfl⟩ <;> replace hF := hidS hF))
      all_goals go_ret2
      all_goals exact ⟨hF.out, rfl⟩
  · have q1 : decide (0 < (s.size : Int)) = false := decide_eq_false (by omega)
    have q1' : decide (0 < s.size) = false := decide_eq_false (by omega)
    have N := num_any s 9223372036854775807 w (by omega)
    have h0 : s.data.toList.head? ≠ some 45 := fun e => by
      have hz := sz_list s
      cases hl : s.data.toList with
      | nil => rw [hl] at e; simp at e
      | cons c t => rw [hl] at hz; simp only [List.length_cons] at hz; omega
    have fin := num_fin r s sh h0
    replace fin := hidS fin
    clear sh h0
    go_enter Tryd.func21, Tryd.ntmps21
    go_wp2_with (first | (go_at_call 18; refine K.mono ?_; clear K; rintro e w1 ⟨rfl, hw⟩; obtain rfl := hw.symm) | (go_at_call 30; refine N.mono ?_; clear N; rintro e w1 ⟨hw, hor⟩; obtain rfl := hw.symm; have hF := fin.out e hor; rcases hor with ⟨v, hv, hs, rfl⟩ | ⟨hn, rfl⟩ <;> replace hF := hidS hF))
    all_goals go_ret2
    all_goals exact ⟨hF.out, rfl⟩
theorem star_list (s : ByteArray) (h : 0 < s.size) (h42 : s[s.size - 1].toNat = 42) : s.data.toList = (s.extract 0 (s.size - 1)).data.toList ++ [42] := by
  have hz := sz_list s
  have e1 := at_list s (s.size - 1) (by omega)
  rw [ext_list, List.drop_zero]
  have e2 : s[s.size - 1] = 42 := UInt8.toNat_inj.1 (by rw [h42]; rfl)
  have hne : s.data.toList ≠ [] := fun e => by rw [e] at hz; simp only [List.length_nil] at hz; omega
  have e3 := (List.dropLast_concat_getLast hne).symm
  have e4 : s.data.toList.getLast hne = 42 := by rw [List.getLast_eq_getElem, ← e2, ← e1]; congr 1
  rw [e4] at e3
  rw [List.dropLast_eq_take] at e3
  rw [show s.size - 1 = s.data.toList.length - 1 by omega]
  exact e3
theorem link_yes (r : Int) (sh : ∀ x, shw r x = shL x) (i : Int) (m : Bool) (i0 : -1 ≤ i) (i1 : i ≤ 2147483646) : shw r ((if m = true then 4294967296 else 0) + i + 1) = (if m = true then slotT i ++ ⟨#[42]⟩ else slotT i, 0) := by
  rw [sh]
  unfold shL
  cases m
  · simp only [Bool.false_eq_true, if_false]
    have b1 : badL (0 + i + 1) = false := by unfold badL; simp; omega
    have b2 : ((0 + i + 1) / 4294967296 % 2 == 1) = false := by simp; omega
    rw [b1, b2]
    show (slotT ((0 + i + 1) % 4294967296 - 1), (0 : Int)) = _
    rw [show (0 + i + 1) % 4294967296 - 1 = i by omega]
  · simp only [if_true]
    have b1 : badL (4294967296 + i + 1) = false := by unfold badL; simp; omega
    have b2 : ((4294967296 + i + 1) / 4294967296 % 2 == 1) = true := by simp; omega
    rw [b1, b2]
    show (slotT ((4294967296 + i + 1) % 4294967296 - 1) ++ ⟨#[42]⟩, (0 : Int)) = _
    rw [show (4294967296 + i + 1) % 4294967296 - 1 = i by omega]
theorem link_form (r : Int) (sh : ∀ x, shw r x = shL x) (x : Int) (x0 : 0 ≤ x) (s : ByteArray) (hx : shw r x = (s, 0)) : ∃ (i : Int) (m : Bool), -1 ≤ i ∧ i ≤ 2147483646 ∧ s = if m = true then slotT i ++ ⟨#[42]⟩ else slotT i := by
  rw [sh] at hx
  unfold shL at hx
  cases hb : badL x
  · rw [hb] at hx
    unfold badL at hb
    simp at hb
    refine ⟨x % 4294967296 - 1, (x / 4294967296 % 2 == 1), by omega, by omega, ?_⟩
    cases hm : (x / 4294967296 % 2 == 1)
    · rw [hm] at hx; exact (congrArg Prod.fst hx).symm
    · rw [hm] at hx; exact (congrArg Prod.fst hx).symm
  · rw [hb] at hx; simp at hx
theorem slot_star (i : Int) (h : -1 ≤ i) (t : List UInt8) : (slotT i).data.toList ≠ t ++ [42] := fun e => by
  have := slot_byte i h 42 (by rw [e]; simp)
  simp at this
set_option maxHeartbeats 2000000 in
theorem parse_link (r : Int) (s : ByteArray) (w : World) (hsz : s.size ≤ 281474976710656) (h1 : 1 ≤ r) (h2 : r ≤ 13) (ht : tKind r = 4) : Calls Tryd.prog 21 #[.int .i64 r, .string s] w fun e w' => PsR r s e ∧ w' = w := by
  have K := kind_in r w h1 h2
  have hin := in13 r h1 h2
  have hk : kdR r = 3 := by simp [kdR, hin, ht]
  rw [hk] at K
  have sh : ∀ x, shw r x = shL x := fun x => by rw [shw_in r x h1 h2, if_neg (by omega), if_neg (by omega), if_neg (by omega), if_pos ht]
  clear hk hin ht h1 h2
  by_cases hC : ∃ h : 0 < s.size, s[s.size - 1].toNat = 42
  · obtain ⟨hA, hB⟩ := hC
    have q1 : decide (0 < (s.size : Int)) = true := by simp; omega
    have q1' : decide (0 < s.size) = true := by simp; omega
    have q2 : ((s[s.size - 1].toNat : Int) == 42) = true := by rw [hB]; rfl
    have i1 : (1 : Int) ≤ (s.size : Int) ∧ (s.size : Int) - 1 < (s.size : Int) := by omega
    have hl := star_list s hA hB
    have N := num_any (s.extract 0 (s.size - 1)) 2147483646 w (by omega)
    have yes : ∀ i : Int, -1 ≤ i → i ≤ 2147483646 → s.extract 0 (s.size - 1) = slotT i → shw r (4294967296 + i + 1) = (s, 0) := fun i i0 i1 e => by
      have := link_yes r sh i true i0 i1
      simp only [if_true] at this
      rw [this, ← e]
      refine congrArg (·, (0 : Int)) (ba_ext ?_)
      rw [app_list, hl]
    have no : s.extract 0 (s.size - 1) ≠ ⟨#[45]⟩ → NotNum (s.extract 0 (s.size - 1)) 2147483646 → ∀ x : Int, 0 ≤ x → x ≤ 18446744073709551615 → shw r x ≠ (s, 0) := fun g1 g2 x x0 x1 hx => by
      obtain ⟨i, m, i0, i1, e⟩ := link_form r sh x x0 s hx
      cases m
      · exact slot_star i i0 _ (by rw [← hl, e]; rfl)
      · refine slot_no _ g1 g2 i i0 i1 (ba_ext ?_)
        have e2 : s.data.toList = (slotT i).data.toList ++ [42] := by rw [e]; exact app_list _ _
        rw [hl] at e2
        exact (List.append_cancel_right e2).symm
    replace yes := hidS yes
    replace no := hidS no
    clear sh hl hB
    by_cases hd : s.extract 0 (s.size - 1) = ⟨#[45]⟩
    · have hq : ((s.extract 0 (s.size - 1)).toList == ([45] : List UInt8)) = true := by rw [eq_lit, hd]; simp
      have hF : PsR r s (.returned (.tuple #[.int .u64 4294967296, .bool true])) := .inl ⟨4294967296, by omega, by omega, (by have e := yes.out (-1) (by omega) (by omega) (by rw [hd]; rfl); rw [show (4294967296 : Int) + -1 + 1 = 4294967296 from rfl] at e; exact e), rfl⟩
      replace hF := hidS hF
      clear N hd
      go_enter Tryd.func21, Tryd.ntmps21
      go_wp2_with (first | (go_at_call 18; refine K.mono ?_; clear K; rintro e w1 ⟨rfl, hw⟩; obtain rfl := hw.symm))
      go_ret2
      exact ⟨hF.out, rfl⟩
    · have hq : ((s.extract 0 (s.size - 1)).toList == ([45] : List UInt8)) = false := by rw [eq_lit]; simp [hd]
      replace no := hidS (no.out hd)
      clear hd
      go_enter Tryd.func21, Tryd.ntmps21
      go_wp2_with (first | (go_at_call 18; refine K.mono ?_; clear K; rintro e w1 ⟨rfl, hw⟩; obtain rfl := hw.symm) | (go_at_call 30; refine N.mono ?_; clear N; rintro e w1 ⟨hw, hor⟩; obtain rfl := hw.symm; rcases hor with ⟨v, hv, hs, rfl⟩ | ⟨hn, rfl⟩))
      · go_ret2
        refine ⟨.inl ⟨4294967296 + (v : Int) + 1, by omega, by omega, yes.out v (by omega) (by omega) (by rw [slot_nat]; exact hs), ?_⟩, rfl⟩
        rfl
      · go_ret2
        exact ⟨.inr ⟨no.out hn, _, rfl⟩, rfl⟩
  · have N := num_any s 2147483646 w (by omega)
    have yes : ∀ i : Int, -1 ≤ i → i ≤ 2147483646 → s = slotT i → shw r (i + 1) = (s, 0) := fun i i0 i1 e => by
      have := link_yes r sh i false i0 i1
      simp only [Bool.false_eq_true, if_false] at this
      rw [show (0 : Int) + i + 1 = i + 1 by omega] at this
      rw [this, ← e]
    have no : s ≠ ⟨#[45]⟩ → NotNum s 2147483646 → ∀ x : Int, 0 ≤ x → x ≤ 18446744073709551615 → shw r x ≠ (s, 0) := fun g1 g2 x x0 x1 hx => by
      obtain ⟨i, m, i0, i1, e⟩ := link_form r sh x x0 s hx
      cases m
      · exact slot_no _ g1 g2 i i0 i1 e.symm
      · refine hC ?_
        have e2 : s.data.toList = (slotT i).data.toList ++ [42] := by rw [e]; exact app_list _ _
        have hz := sz_list s
        have hA : 0 < s.size := by rw [hz, e2]; simp
        refine ⟨hA, ?_⟩
        have e3 := at_list s (s.size - 1) (by omega)
        rw [← e3]
        simp only [e2]
        rw [List.getElem_append_right (by rw [hz, e2]; simp)]
        simp
    replace yes := hidS yes
    replace no := hidS no
    clear sh
    have hg : (decide (0 < (s.size : Int)) = false ∧ decide (0 < s.size) = false) ∨ ∃ h : 0 < s.size, decide (0 < (s.size : Int)) = true ∧ decide (0 < s.size) = true ∧ ((s[s.size - 1].toNat : Int) == 42) = false := by
      by_cases hA : 0 < s.size
      · exact .inr ⟨hA, by simp; omega, by simp; omega, beq_eq_false_iff_ne.2 (fun e => hC ⟨hA, by omega⟩)⟩
      · exact .inl ⟨decide_eq_false (by omega), decide_eq_false (by omega)⟩
    clear hC
    by_cases hd : s = ⟨#[45]⟩
    · have hq : (s.toList == ([45] : List UInt8)) = true := by rw [eq_lit, hd]; simp
      have hF : PsR r s (.returned (.tuple #[.int .u64 0, .bool true])) := .inl ⟨0, by omega, by omega, (by have e := yes.out (-1) (by omega) (by omega) (by rw [hd]; rfl); rw [show (-1 : Int) + 1 = 0 from rfl] at e; exact e), rfl⟩
      replace hF := hidS hF
      clear N hd
      rcases hg with ⟨q1, q1'⟩ | ⟨hA, q1, q1', q2⟩
      · go_enter Tryd.func21, Tryd.ntmps21
        go_wp2_with (first | (go_at_call 18; refine K.mono ?_; clear K; rintro e w1 ⟨rfl, hw⟩; obtain rfl := hw.symm))
        go_ret2
        exact ⟨hF.out, rfl⟩
      · have i1 : (1 : Int) ≤ (s.size : Int) ∧ (s.size : Int) - 1 < (s.size : Int) := by omega
        go_enter Tryd.func21, Tryd.ntmps21
        go_wp2_with (first | (go_at_call 18; refine K.mono ?_; clear K; rintro e w1 ⟨rfl, hw⟩; obtain rfl := hw.symm))
        go_ret2
        exact ⟨hF.out, rfl⟩
    · have hq : (s.toList == ([45] : List UInt8)) = false := by rw [eq_lit]; simp [hd]
      replace no := hidS (no.out hd)
      clear hd
      rcases hg with ⟨q1, q1'⟩ | ⟨hA, q1, q1', q2⟩
      · go_enter Tryd.func21, Tryd.ntmps21
        go_wp2_with (first | (go_at_call 18; refine K.mono ?_; clear K; rintro e w1 ⟨rfl, hw⟩; obtain rfl := hw.symm) | (go_at_call 30; refine N.mono ?_; clear N; rintro e w1 ⟨hw, hor⟩; obtain rfl := hw.symm; rcases hor with ⟨v, hv, hs, rfl⟩ | ⟨hn, rfl⟩))
        · go_ret2
          exact ⟨.inl ⟨(v : Int) + 1, by omega, by omega, yes.out v (by omega) (by omega) (by rw [slot_nat]; exact hs), rfl⟩, rfl⟩
        · go_ret2
          exact ⟨.inr ⟨no.out hn, _, rfl⟩, rfl⟩
      · have i1 : (1 : Int) ≤ (s.size : Int) ∧ (s.size : Int) - 1 < (s.size : Int) := by omega
        go_enter Tryd.func21, Tryd.ntmps21
        go_wp2_with (first | (go_at_call 18; refine K.mono ?_; clear K; rintro e w1 ⟨rfl, hw⟩; obtain rfl := hw.symm) | (go_at_call 30; refine N.mono ?_; clear N; rintro e w1 ⟨hw, hor⟩; obtain rfl := hw.symm; rcases hor with ⟨v, hv, hs, rfl⟩ | ⟨hn, rfl⟩))
        · go_ret2
          exact ⟨.inl ⟨(v : Int) + 1, by omega, by omega, yes.out v (by omega) (by omega) (by rw [slot_nat]; exact hs), rfl⟩, rfl⟩
        · go_ret2
          exact ⟨.inr ⟨no.out hn, _, rfl⟩, rfl⟩
end Go.Proofs.YtpmpdkpnjfidhaaDoor.St
