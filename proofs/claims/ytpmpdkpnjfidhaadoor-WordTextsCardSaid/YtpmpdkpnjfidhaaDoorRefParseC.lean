/-
  THE DOCUMENT'S Parse by its contract: heads; all.
-/
import Derived.Test.YtpmpdkpnjfidhaaDoorRefParseB
import Derived.BigQuiet
namespace Go.Proofs.YtpmpdkpnjfidhaaDoor.St
open Go.RowKit
open Go.Lib (decDigits)
open Tr Wp
set_option linter.unusedVariables false
/-- The first place of a byte in a text, or its length. -/
def fstOf (s : ByteArray) (n : Nat) : Prop := n ≤ s.size ∧ (∀ j (h : j < s.size), j < n → s[j].toNat ≠ 58) ∧ (∀ h : n < s.size, s[n].toNat = 58)
theorem head_yes (r : Int) (sh : ∀ x, shw r x = shH x) (t : Nat) (ht : t ≤ 4294967295) (i : Int) (i0 : -1 ≤ i) (i1 : i ≤ 2147483646) : shw r ((t : Int) * 4294967296 + i + 1) = (dec (t : Int) ++ ⟨#[58]⟩ ++ slotT i, 0) := by
  rw [sh]
  unfold shH
  have e1 : ((t : Int) * 4294967296 + i + 1) % 4294967296 = i + 1 := by omega
  have e2 : ((t : Int) * 4294967296 + i + 1) / 4294967296 = t := by omega
  rw [e1, e2, if_neg (by simp; omega), show i + 1 - 1 = i by omega]
theorem head_form (r : Int) (sh : ∀ x, shw r x = shH x) (x : Int) (x0 : 0 ≤ x) (x1 : x ≤ 18446744073709551615) (s : ByteArray) (hx : shw r x = (s, 0)) : ∃ (t : Nat) (i : Int), t ≤ 4294967295 ∧ -1 ≤ i ∧ i ≤ 2147483646 ∧ s.data.toList = decDigits t ++ 58 :: (slotT i).data.toList := by
  rw [sh] at hx
  unfold shH at hx
  by_cases hb : 2147483647 < x % 4294967296
  · rw [if_pos (by simpa using hb)] at hx; simp at hx
  · rw [if_neg (by simpa using hb)] at hx
    have e : dec (x / 4294967296) ++ ⟨#[58]⟩ ++ slotT (x % 4294967296 - 1) = s := congrArg Prod.fst hx
    refine ⟨(x / 4294967296).toNat, x % 4294967296 - 1, by omega, by omega, by omega, ?_⟩
    rw [← e, app_list, app_list]
    have : (dec (x / 4294967296)).data.toList = decDigits (x / 4294967296).toNat := by
      show ((decDigits (x / 4294967296).toNat).toArray).toList = _; simp
    rw [this]
    simp
/-- Where the first ':' stands in such a text. -/
theorem cut_form (s : ByteArray) (n : Nat) (hf : fstOf s n) (t : Nat) (u : List UInt8) (h : s.data.toList = decDigits t ++ 58 :: u) : n = (decDigits t).length ∧ n < s.size := by
  obtain ⟨f1, f2, f3⟩ := hf
  have hz := sz_list s
  have hlen : s.size = (decDigits t).length + 1 + u.length := by rw [hz, h]; simp; omega
  have hat : ∀ j (hj : j < s.size), s[j] = (decDigits t ++ 58 :: u)[j]'(by rw [← h, ← hz]; exact hj) := fun j hj => by rw [← at_list s j hj]; simp only [h]
  have h58 : s[(decDigits t).length]'(by omega) = 58 := by rw [hat _ (by omega), List.getElem_append_right (Nat.le_refl _)]; simp
  have hle : n ≤ (decDigits t).length := by
    rcases Nat.lt_or_ge (decDigits t).length n with hlt | hge
    · exact absurd (by rw [h58]; rfl) (f2 _ (by omega) hlt)
    · exact hge
  refine ⟨?_, by omega⟩
  rcases Nat.lt_or_ge n (decDigits t).length with hlt | hge
  · have e := f3 (by omega)
    rw [hat n (by omega), List.getElem_append_left hlt] at e
    have := dec_digs t _ (List.getElem_mem hlt)
    omega
  · omega
theorem ext_parts (s : ByteArray) (n : Nat) (hn : n < s.size) (h : s[n].toNat = 58) : s.data.toList = (s.extract 0 n).data.toList ++ 58 :: (s.extract (n + 1) s.size).data.toList := by
  have hz := sz_list s
  rw [ext_list, ext_list, List.drop_zero, hz, List.take_length]
  have e1 := at_list s n hn
  have e2 : s[n] = 58 := UInt8.toNat_inj.1 (by rw [h]; rfl)
  have := List.take_append_drop n s.data.toList
  conv => lhs; rw [← this]
  congr 1
  rw [List.drop_eq_getElem_cons (by rw [← hz]; exact hn), e1, e2]
set_option maxHeartbeats 4000000 in
set_option maxRecDepth 100000 in
theorem parse_head (r : Int) (s : ByteArray) (w : World) (hsz : s.size ≤ 281474976710656) (h1 : 1 ≤ r) (h2 : r ≤ 13) (ht : tKind r = 0) : Calls Tryd.prog 21 #[.int .i64 r, .string s] w fun e w' => PsR r s e ∧ w' = w := by
  have K := kind_in r w h1 h2
  have hin := in13 r h1 h2
  have hk : kdR r = 1 := by simp [kdR, hin, ht]
  rw [hk] at K
  have sh : ∀ x, shw r x = shH x := fun x => by rw [shw_in r x h1 h2, if_pos ht]
  clear hk hin ht h1 h2
  replace sh := hidS sh
  go_enter Tryd.func21, Tryd.ntmps21
  go_wp2_with (first | (go_at_call 18; refine K.mono ?_; clear K; rintro e w1 ⟨rfl, hw⟩; obtain rfl := hw.symm))
  go_loopg [10] s.size (fun k s10 wy => ∃ i : Nat, s10 = .int .i64 (i : Int) ∧ i + k = s.size ∧ (∀ j (h : j < s.size), j < i → s[j].toNat ≠ 58) ∧ wy = w)
  case atStart => exact ⟨0, rfl, by omega, fun j _ hj => by omega, rfl⟩
  case round =>
    obtain ⟨i, rfl, hik, hno, rfl⟩ := hrel
    by_cases hlt : i < s.size
    · have l1 : decide ((i : Int) < (s.size : Int)) = true := decide_eq_true (by omega)
      have l2 : decide (i < s.size) = true := decide_eq_true hlt
      by_cases h58 : s[i].toNat = 58
      · have q2 : ((s[i].toNat : Int) != 58) = false := by rw [h58]; rfl
        have hf : fstOf s i := ⟨by omega, hno, fun _ => h58⟩
        have hp := ext_parts s i hlt h58
        have N := num_any (s.extract 0 i) 4294967295 wr (by omega)
        have N2 := num_any (s.extract (i + 1) s.size) 2147483646 wr (by omega)
        have no1 : NotNum (s.extract 0 i) 4294967295 → ∀ x : Int, 0 ≤ x → x ≤ 18446744073709551615 → shw r x ≠ (s, 0) := fun hn x x0 x1 hx => by
          obtain ⟨t, j, t1, j0, j1, e⟩ := head_form r sh.out x x0 x1 s hx
          obtain ⟨c1, c2⟩ := cut_form s i hf t _ e
          refine hn t t1 (ba_ext ?_)
          rw [ext_list, List.drop_zero, e, c1, dec_list]
          exact List.take_left
        have no2 : s.extract (i + 1) s.size ≠ ⟨#[45]⟩ → NotNum (s.extract (i + 1) s.size) 2147483646 → ∀ x : Int, 0 ≤ x → x ≤ 18446744073709551615 → shw r x ≠ (s, 0) := fun g1 g2 x x0 x1 hx => by
          obtain ⟨t, j, t1, j0, j1, e⟩ := head_form r sh.out x x0 x1 s hx
          obtain ⟨c1, c2⟩ := cut_form s i hf t _ e
          refine slot_no _ g1 g2 j j0 j1 (ba_ext ?_)
          rw [ext_list, sz_list s, List.take_length, e, c1]
          simp
        have yes : ∀ (t : Nat) (j : Int), t ≤ 4294967295 → -1 ≤ j → j ≤ 2147483646 → s.extract 0 i = dec (t : Int) → s.extract (i + 1) s.size = slotT j → shw r ((t : Int) * 4294967296 + j + 1) = (s, 0) := fun t j t1 j0 j1 e1 e2 => by
          rw [head_yes r sh.out t t1 j j0 j1]
          refine congrArg (·, (0 : Int)) (ba_ext ?_)
          rw [app_list, app_list, ← e1, ← e2, hp]
          simp
        replace no1 := hidS no1
        replace no2 := hidS no2
        replace yes := hidS yes
        have i1 : (i : Int) + 1 ≤ (s.size : Int) := by omega
        have i1n : i + 1 ≤ s.size := by omega
        have hne : ((i : Int) == (s.size : Int)) = false := beq_eq_false_iff_ne.2 (by omega)
        clear hf hp hno
        replace h58 := hidS h58
        by_cases hd : s.extract (i + 1) s.size = ⟨#[45]⟩
        · have hq : ((s.extract (i + 1) s.size).toList == ([45] : List UInt8)) = true := by rw [eq_lit, hd]; simp
          replace hd := hidS hd
          clear N2 no2
          go_wp2_with (first | (go_at_call 30; refine N.mono ?_; clear N; rintro e w1 ⟨hw, hor⟩; obtain rfl := hw.symm; rcases hor with ⟨t, ht, hs, rfl⟩ | ⟨hn, rfl⟩))
          · go_ret2
            refine ⟨.inl ⟨(t : Int) * 4294967296, by omega, by omega, ?_, rfl⟩, rfl⟩
            have e := yes.out t (-1) ht (by omega) (by omega) hs (by rw [hd.out]; rfl)
            rw [show (t : Int) * 4294967296 + -1 + 1 = (t : Int) * 4294967296 by omega] at e
            exact e
          · go_ret2
            exact ⟨.inr ⟨no1.out hn, _, rfl⟩, rfl⟩
        · have hq : ((s.extract (i + 1) s.size).toList == ([45] : List UInt8)) = false := by rw [eq_lit]; simp [hd]
          replace no2 := hidS (no2.out hd)
          clear hd
          go_wp2_with (first | (go_at_call 30; refine N.mono ?_; clear N; rintro e w1 ⟨hw, hor⟩; obtain rfl := hw.symm; rcases hor with ⟨t, ht, hs, rfl⟩ | ⟨hn, rfl⟩) | (go_at_call 30; refine N2.mono ?_; clear N2; rintro e w1 ⟨hw, hor⟩; obtain rfl := hw.symm; rcases hor with ⟨v, hv, hs2, rfl⟩ | ⟨hn2, rfl⟩))
          · go_ret2
            exact ⟨.inl ⟨(t : Int) * 4294967296 + (v : Int) + 1, by omega, by omega, yes.out t v ht (by omega) (by omega) hs (by rw [slot_nat]; exact hs2), rfl⟩, rfl⟩
          · go_ret2
            exact ⟨.inr ⟨no2.out hn2, _, rfl⟩, rfl⟩
          · go_ret2
            exact ⟨.inr ⟨no1.out hn, _, rfl⟩, rfl⟩
      · have q2 : ((s[i].toNat : Int) != 58) = true := bne_iff_ne.2 (by omega)
        have hno' : ∀ j (h : j < s.size), j < i + 1 → s[j].toNat ≠ 58 := fun j h hj => by
          by_cases e : j = i
          · subst e; exact h58
          · exact hno j h (by omega)
        replace hno' := hidS hno'
        clear hno
        go_wp2
        go_roundg (gk - 1)
        case measure => omega
        case rel => exact ⟨i + 1, by simp, by omega, hno'.out, rfl⟩
    · have l1 : decide ((i : Int) < (s.size : Int)) = false := decide_eq_false (by omega)
      have l2 : decide (i < s.size) = false := decide_eq_false hlt
      obtain rfl : i = s.size := by omega
      have hf : fstOf s s.size := ⟨Nat.le_refl _, fun j h hj => hno j h hj, fun h => absurd h (by omega)⟩
      have no : ∀ x : Int, 0 ≤ x → x ≤ 18446744073709551615 → shw r x ≠ (s, 0) := fun x x0 x1 hx => by
        obtain ⟨t, j, t1, j0, j1, e⟩ := head_form r sh.out x x0 x1 s hx
        have := (cut_form s _ hf t _ e).2
        omega
      have N := fun (u : ByteArray) => num_any u 4294967295 wr (by omega)
      replace no := hidS no
      clear hf hno hlt
      go_wp2_with (first | (go_at_call 30; refine (N _).mono ?_; clear N; rintro e w1 ⟨hw, hor⟩; obtain rfl := hw.symm; rcases hor with ⟨t, ht, hs, rfl⟩ | ⟨hn, rfl⟩))
      all_goals go_ret2
      all_goals exact ⟨.inr ⟨no.out, _, rfl⟩, rfl⟩
theorem rparse_any (r : Int) (s : ByteArray) (w : World) (hsz : s.size ≤ 281474976710656) (h1 : 1 ≤ r) (h2 : r ≤ 13) : Calls Tryd.prog 21 #[.int .i64 r, .string s] w fun e w' => PsR r s e ∧ w' = w := by
  rcases tKind_cases r h1 h2 with ht | ht | ht | ht | ht
  · exact parse_head r s w hsz h1 h2 ht
  · exact parse_plain r s w h1 h2 ht
  · exact parse_flag r s w h1 h2 ht
  · exact parse_num r s w hsz h1 h2 ht
  · exact parse_link r s w hsz h1 h2 ht
end Go.Proofs.YtpmpdkpnjfidhaaDoor.St
