import Derived.Test.YtcomelbphdjnnaaGreatDoorJ25
import Derived.Test.YtcomelbphdjnnaaGreatDoorJ13
import Derived.Lib.AtoiAllCases
import Derived.Lib.IndexBytes
/-
  THE DOCUMENT'S Parse by its contract: numbers, marked links.
-/
namespace Go.Proofs.YtcomelbphdjnnaaGreatDoor.St
open Go.RowKit
open Go.Lib (decDigits)
open Tr
set_option linter.unusedVariables false
theorem ito_neg (n : Int) (h : n < 0) : (ito n).data.toList = 45 :: decDigits n.natAbs := by
  show ((Lib.itoa n).toArray).toList = _
  unfold Lib.itoa
  rw [if_pos h]
theorem minus_list (s : ByteArray) (h : 0 < s.size) (h45 : s[0].toNat = 45) : s.data.toList = 45 :: (s.extract 1 s.size).data.toList := by
  have e1 := at_list s 0 h
  have hz := sz_list s
  rw [ext_list, hz, List.take_length]
  cases hl : s.data.toList with
  | nil => rw [hl] at hz; exact absurd hz (by simp only [List.length_nil]; omega)
  | cons c t =>
    simp only [hl] at e1
    have : c = 45 := UInt8.toNat_inj.1 (by rw [show c = s[0] from e1, h45]; rfl)
    rw [this]; rfl
theorem dec_inj (u v : Nat) (h : decDigits u = decDigits v) : u = v := by rw [← val_dec u, h, val_dec]
theorem wrap64_val (x : Int) (h0 : 0 ≤ x) (h1 : x ≤ 18446744073709551615) : wrap64 x = if x ≤ 9223372036854775807 then x else x - 18446744073709551616 := by
  unfold wrap64
  split <;> omega
theorem num_fin (r : Int) (s : ByteArray) (sh : ∀ x, shw r x = (ito (wrap64 x), 0)) (h0 : s.data.toList.head? ≠ some 45) (e : Ending) (h : (∃ v : Nat, v ≤ 9223372036854775807 ∧ s = dec (v : Int) ∧ e = .returned (.tuple #[.int .u64 (v : Int), .bool true])) ∨ (NotNum s 9223372036854775807 ∧ e = .returned (.tuple #[.int .u64 0, .bool false]))) : PsR r s e := by
  rcases h with ⟨v, hv, hs, he⟩ | ⟨hn, he⟩
  · refine .inl ⟨v, by omega, by omega, ?_, he⟩
    rw [sh, wrap64_val _ (by omega) (by omega), if_pos (by omega), ito_dec _ (by omega), hs]
  · refine .inr ⟨fun x x0 x1 hx => ?_, _, he⟩
    rw [sh] at hx
    have hxs : ito (wrap64 x) = s := congrArg Prod.fst hx
    have hw := wrap64_bd x
    by_cases hneg : wrap64 x < 0
    · have e := ito_neg _ hneg
      rw [hxs] at e
      exact h0 (by rw [e]; rfl)
    · obtain ⟨v, hv⟩ : ∃ v : Nat, wrap64 x = v := ⟨(wrap64 x).toNat, by omega⟩
      rw [hv, ito_dec _ (by omega)] at hxs
      exact hn v (by omega) hxs.symm
set_option maxHeartbeats 1000000 in
theorem parse_num (r : Int) (s : ByteArray) (w : World) (hsz : s.size ≤ 281474976710656) (h1 : 1 ≤ r) (h2 : r ≤ 13) (ht : tKind r = 3) : Calls Tryz.prog 56 #[.int .i64 r, .string s] w fun e w' => PsR r s e ∧ w' = w := by
  have K := kind_in r w h1 h2
  have hin := in13 r h1 h2
  have hk : kdR r = 5 := by simp [kdR, hin, ht]
  rw [hk] at K
  have sh : ∀ x, shw r x = (ito (wrap64 x), 0) := fun x => by rw [shw_in r x h1 h2, if_neg (by omega), if_neg (by omega), if_neg (by omega), if_neg (by omega)]; rfl
  clear hk hin ht h1 h2
  by_cases hA : 0 < s.size
  · by_cases hB : s[0].toNat = 45
    · have hl := minus_list s hA hB
      have q1 : decide (0 < (s.size : Int)) = true := by simp; omega
      have q1' : decide (0 < s.size) = true := by simp; omega
      have q2 : ((s[0].toNat : Int) == 45) = true := by rw [hB]; rfl
      have N := num_any (s.extract 1 s.size) 9223372036854775808 w (by omega)
      have i1 : (1 : Int) ≤ (s.size : Int) := by omega
      have no : NotNum (s.extract 1 s.size) 9223372036854775808 → ∀ x : Int, 0 ≤ x → x ≤ 18446744073709551615 → shw r x ≠ (s, 0) := fun hn x x0 x1 hx => by
        rw [sh] at hx
        have hxs : ito (wrap64 x) = s := congrArg Prod.fst hx
        have hw := wrap64_bd x
        by_cases hneg : wrap64 x < 0
        · have e := ito_neg _ hneg
          rw [hxs, hl] at e
          exact hn (wrap64 x).natAbs (by omega) (ba_ext (by rw [dec_list]; exact (List.cons.inj e).2))
        · have e := ito_digit (wrap64 x) (by omega) 45 (by rw [hxs, hl]; simp)
          simp at e
      have zero : s.extract 1 s.size = dec ((0 : Nat) : Int) → ∀ x : Int, 0 ≤ x → x ≤ 18446744073709551615 → shw r x ≠ (s, 0) := fun hz x x0 x1 hx => by
        rw [sh] at hx
        have hxs : ito (wrap64 x) = s := congrArg Prod.fst hx
        by_cases hneg : wrap64 x < 0
        · have e := ito_neg _ hneg
          rw [hxs, hl, hz, dec_list] at e
          have := dec_inj _ _ (List.cons.inj e).2
          omega
        · have e := ito_digit (wrap64 x) (by omega) 45 (by rw [hxs, hl]; simp)
          simp at e
      have yes : ∀ v : Nat, 0 < v → v ≤ 9223372036854775808 → s.extract 1 s.size = dec (v : Int) → shw r (18446744073709551616 - (v : Int)) = (s, 0) := fun v v0 v1 hv => by
        rw [sh, wrap64_val _ (by omega) (by omega), if_neg (by omega)]
        refine congrArg (·, (0 : Int)) (ba_ext ?_)
        rw [ito_neg _ (by omega), hl, hv, dec_list]
        congr 2
        omega
      replace no := hidS no
      replace yes := hidS yes
      replace zero := hidS zero
      clear sh hl hB
      go_enter Tryz.func56, Tryz.ntmps56
      go_wp2_with (first | (go_at_call 71; refine K.mono ?_; clear K; rintro e w1 ⟨rfl, hw⟩; obtain rfl := hw.symm) | (go_at_call 72; refine N.mono ?_; clear N; rintro e w1 ⟨hw, hor⟩; obtain rfl := hw.symm; rcases hor with ⟨v, hv, hs, rfl⟩ | ⟨hn, rfl⟩))
      · go_ret2
        refine ⟨?_, rfl⟩
        by_cases hv0 : v = 0
        · subst hv0
          exact .inr ⟨zero.out hs, _, rfl⟩
        · have ew : IntKind.u64.wrap (-(v : Int)) = 18446744073709551616 - (v : Int) := by rw [IntKind.wrap_u64]; omega
          have ed : decide (0 < v) = true := by simp; omega
          refine .inl ⟨18446744073709551616 - (v : Int), by omega, by omega, yes.out v (by omega) hv hs, ?_⟩
          rw [ew, ed]
          rfl
      · go_ret2
        exact ⟨.inr ⟨no.out hn, _, rfl⟩, rfl⟩
    · have q1 : decide (0 < (s.size : Int)) = true := by simp; omega
      have q1' : decide (0 < s.size) = true := by simp; omega
      have q2 : ((s[0].toNat : Int) == 45) = false := beq_eq_false_iff_ne.2 (by omega)
      have N := num_any s 9223372036854775807 w (by omega)
      have h0 : s.data.toList.head? ≠ some 45 := fun e => hB (by
        rw [List.head?_eq_getElem?, List.getElem?_eq_getElem (by rw [← sz_list]; omega), at_list s 0 hA] at e
        rw [Option.some.inj e]; rfl)
      have fin := num_fin r s sh h0
      replace fin := hidS fin
      clear sh hB h0
      go_enter Tryz.func56, Tryz.ntmps56
      go_wp2_with (first | (go_at_call 71; refine K.mono ?_; clear K; rintro e w1 ⟨rfl, hw⟩; obtain rfl := hw.symm) | (go_at_call 72; refine N.mono ?_; clear N; rintro e w1 ⟨hw, hor⟩; obtain rfl := hw.symm; have hF := fin.out e hor; rcases hor with ⟨v, hv, hs, rfl⟩ | ⟨hn, rfl⟩ <;> replace hF := hidS hF))
      all_goals go_ret2
      all_goals exact ⟨hF.out, rfl⟩
  · have q1 : decide (0 < (s.size : Int)) = false := decide_eq_false (by omega)
    have q1' : decide (0 < s.size) = false := decide_eq_false (by omega)
    have N := num_any s 9223372036854775807 w (by omega)
    have h0 : s.data.toList.head? ≠ some 45 := fun e => by
      have hz := sz_list s
      cases hl : s.data.toList with
      | nil => rw [hl] at e; simp at e
      | cons c t => rw [hl] at hz; simp only [List.length_cons] at hz; omega
    have fin := num_fin r s sh h0
    replace fin := hidS fin
    clear sh h0
    go_enter Tryz.func56, Tryz.ntmps56
    go_wp2_with (first | (go_at_call 71; refine K.mono ?_; clear K; rintro e w1 ⟨rfl, hw⟩; obtain rfl := hw.symm) | (go_at_call 72; refine N.mono ?_; clear N; rintro e w1 ⟨hw, hor⟩; obtain rfl := hw.symm; have hF := fin.out e hor; rcases hor with ⟨v, hv, hs, rfl⟩ | ⟨hn, rfl⟩ <;> replace hF := hidS hF))
    all_goals go_ret2
    all_goals exact ⟨hF.out, rfl⟩
end Go.Proofs.YtcomelbphdjnnaaGreatDoor.St
/-
  SCRIPT, pure: numerals there and back, their words; cuts at a newline.
-/
namespace Go.Proofs.YtcomelbphdjnnaaGreatDoor.Sc
open Go.RowKit
open Go.Lib (parseUint10 parseMag atoiAll decDigits itoa)
set_option linter.unusedVariables false
set_option linter.unusedSimpArgs false
theorem pu_snoc (c : UInt8) (hc : 48 ≤ c.toNat ∧ c.toNat ≤ 57) : ∀ (l : List UInt8) (acc a : Nat), parseUint10 acc l = .ok a → a * 10 + (c.toNat - 48) < 18446744073709551616 → parseUint10 acc (l ++ [c]) = .ok (a * 10 + (c.toNat - 48))
  | [], acc, a, h, hb => by
    simp only [parseUint10] at h
    injection h with h
    subst h
    show parseUint10 acc [c] = _
    simp only [parseUint10]
    rw [if_pos hc, if_neg (by omega), if_neg (by omega)]
  | x :: r, acc, a, h, hb => by
    simp only [parseUint10] at h
    show parseUint10 acc (x :: (r ++ [c])) = _
    simp only [parseUint10]
    split at h
    · rename_i h1
      rw [if_pos h1]
      split at h
      · cases h
      · rename_i h2
        rw [if_neg h2]
        split at h
        · cases h
        · rename_i h3
          rw [if_neg h3]
          exact pu_snoc c hc r _ a h hb
    · cases h
theorem dig_nat (d : Nat) (h : d < 10) : (UInt8.ofNat (48 + d)).toNat = 48 + d := by
  rw [UInt8.toNat_ofNat']; omega
theorem dec_digs (u : Nat) : ∀ b ∈ decDigits u, 48 ≤ b.toNat ∧ b.toNat ≤ 57 := by
  induction u using Nat.strongRecOn with
  | _ u ih =>
    by_cases h : u < 10
    · rw [Lib.decDigits_one h]
      intro b hb
      rw [List.mem_singleton] at hb
      subst hb
      rw [dig_nat u h]; omega
    · rw [decDigits, dif_neg h]
      intro b hb
      rcases List.mem_append.1 hb with hb | hb
      · exact ih (u / 10) (by omega) b hb
      · rw [List.mem_singleton] at hb
        subst hb
        rw [dig_nat (u % 10) (by omega)]; omega
theorem dec_ne (u : Nat) : decDigits u ≠ [] := by
  intro h
  have := congrArg List.length h
  rw [Lib.decDigits_length] at this
  have := Lib.nDigits_pos u
  simp at *
  omega
theorem pu_dec (u : Nat) (h : u < 18446744073709551616) : parseUint10 0 (decDigits u) = .ok u := by
  induction u using Nat.strongRecOn with
  | _ u ih =>
    by_cases h1 : u < 10
    · rw [Lib.decDigits_one h1]
      have := pu_snoc (UInt8.ofNat (48 + u)) (by rw [dig_nat u h1]; omega) [] 0 0 rfl (by rw [dig_nat u h1]; omega)
      rw [dig_nat u h1] at this
      rw [show u = 0 * 10 + (48 + u - 48) by omega]
      rw [show 0 * 10 + (48 + u - 48) = u by omega] at *
      simpa using this
    · rw [decDigits, dif_neg h1]
      have := pu_snoc (UInt8.ofNat (48 + u % 10)) (by rw [dig_nat (u % 10) (by omega)]; omega) _ 0 (u / 10) (ih (u / 10) (by omega) (by omega)) (by rw [dig_nat (u % 10) (by omega)]; omega)
      rw [dig_nat (u % 10) (by omega)] at this
      rw [this]
      congr 1
      omega
theorem mag_dec (u : Nat) (h : u < 18446744073709551616) : parseMag (decDigits u) = .ok u := by
  unfold parseMag
  rw [if_neg (dec_ne u)]
  exact pu_dec u h
theorem all_dec (u : Nat) (h : u < 9223372036854775808) : atoiAll (decDigits u) = .ok (u : Int) := by
  cases e : decDigits u with
  | nil => exact absurd e (dec_ne u)
  | cons c r =>
    have hd := dec_digs u c (by rw [e]; exact List.mem_cons_self)
    rw [Lib.atoiAll_plain c r (by omega) (by omega), ← e, mag_dec u (by omega)]
    simp only [Lib.signless]
    rw [if_neg (by omega)]
theorem ib_no (c : UInt8) : ∀ (l : List UInt8), (∀ b ∈ l, b ≠ c) → Lib.indexByte l c = -1
  | [], _ => rfl
  | x :: r, h => by
    have h1 := ib_no c r (fun b hb => h b (List.mem_cons_of_mem _ hb))
    have h2 : x ≠ c := h x List.mem_cons_self
    simp [Lib.indexByte, h1, h2]
theorem ib_at (c : UInt8) (r : List UInt8) : ∀ (l : List UInt8), (∀ b ∈ l, b ≠ c) → Lib.indexByte (l ++ c :: r) c = l.length
  | [], _ => by simp [Lib.indexByte]
  | x :: t, h => by
    have h1 := ib_at c r t (fun b hb => h b (List.mem_cons_of_mem _ hb))
    have h2 : x ≠ c := h x List.mem_cons_self
    rw [List.cons_append]
    simp [Lib.indexByte, h1, h2]
theorem itoa_cases (n : Int) (h : Bd n) : (∃ u : Nat, u < 9223372036854775808 ∧ n = u ∧ itoa n = decDigits u) ∨ ∃ u : Nat, 1 ≤ u ∧ u ≤ 9223372036854775808 ∧ n = -(u : Int) ∧ itoa n = 45 :: decDigits u := by
  unfold Bd at h
  by_cases h0 : 0 ≤ n
  · obtain ⟨u, rfl⟩ : ∃ u : Nat, n = u := ⟨n.toNat, by omega⟩
    exact .inl ⟨u, by omega, rfl, Lib.itoa_nonneg u⟩
  · obtain ⟨u, rfl⟩ : ∃ u : Nat, n = -(u : Int) := ⟨n.natAbs, by omega⟩
    exact .inr ⟨u, by omega, by omega, rfl, Lib.itoa_neg u (by omega)⟩
theorem itoa_bytes (n : Int) (h : Bd n) : ∀ b ∈ itoa n, (48 ≤ b.toNat ∧ b.toNat ≤ 57) ∨ b = 45 := by
  intro b hb
  rcases itoa_cases n h with ⟨u, _, _, e⟩ | ⟨u, _, _, _, e⟩
  · rw [e] at hb; exact .inl (dec_digs u b hb)
  · rw [e] at hb
    rcases List.mem_cons.1 hb with rfl | hb
    · exact .inr rfl
    · exact .inl (dec_digs u b hb)
theorem itoa_byte_ne (n : Int) (h : Bd n) (c : UInt8) (hc : c.toNat < 45) : ∀ b ∈ itoa n, b ≠ c := by
  intro b hb e
  subst e
  rcases itoa_bytes n h b hb with h | h
  · omega
  · rw [h] at hc; exact absurd hc (by decide)
theorem gw_itoa (n : Int) (h : Bd n) : Gw (itoa n) := by
  refine ⟨?_, ?_, ?_⟩
  · rcases itoa_cases n h with ⟨u, _, _, e⟩ | ⟨u, _, _, _, e⟩
    · rw [e]; exact dec_ne u
    · rw [e]; simp
  · intro c hc
    unfold bl
    rw [beq_eq_false_iff_ne.2 (itoa_byte_ne n h 32 (by decide) c hc), beq_eq_false_iff_ne.2 (itoa_byte_ne n h 9 (by decide) c hc), beq_eq_false_iff_ne.2 (itoa_byte_ne n h 13 (by decide) c hc)]
    rfl
  · intro e
    cases hl : itoa n with
    | nil => rw [hl] at e; cases e
    | cons c r =>
      rw [hl] at e
      simp at e
      exact itoa_byte_ne n h 35 (by decide) c (by rw [hl]; exact List.mem_cons_self ..) e
theorem numLike_itoa (n : Int) (h : Bd n) : numLike (itoa n) = true := by
  have key : ∀ u, ∃ c r, decDigits u = c :: r ∧ (decide (48 ≤ c.toNat) && decide (c.toNat ≤ 57)) = true ∧ c ≠ 45 := by
    intro u
    cases hd : decDigits u with
    | nil => exact absurd hd (dec_ne u)
    | cons c r =>
      have := dec_digs u c (by rw [hd]; exact List.mem_cons_self ..)
      refine ⟨c, r, rfl, by simp [this], fun e => ?_⟩
      rw [e] at this
      exact absurd this (by decide)
  unfold numLike Lib.trimPrefix Lib.hasPrefix
  rcases itoa_cases n h with ⟨u, _, _, e⟩ | ⟨u, _, _, _, e⟩
  · obtain ⟨c, r, hd, h1, h2⟩ := key u
    rw [e, hd]
    have : (([45] : List UInt8).isPrefixOf (c :: r)) = false := by simp [List.isPrefixOf]; exact fun e => h2 e.symm
    simp only [this]
    simpa using h1
  · obtain ⟨c, r, hd, h1, h2⟩ := key u
    rw [e, hd]
    have : (([45] : List UInt8).isPrefixOf (45 :: c :: r)) = true := by simp [List.isPrefixOf]
    simp only [this]
    simpa using h1
theorem all_itoa (n : Int) (h : Bd n) : atoiAll (itoa n) = .ok n := by
  rcases itoa_cases n h with ⟨u, hu, rfl, e⟩ | ⟨u, h1, h2, rfl, e⟩
  · rw [e]; exact all_dec u hu
  · rw [e, Lib.atoiAll_minus, mag_dec u (by omega)]
    unfold Lib.signed
    simp
    try omega
theorem numOk_itoa (n : Int) (h : Bd n) : numOk (itoa n) = some n := by
  unfold numOk
  rw [all_itoa n h]
  simp
theorem numV_itoa (n : Int) (h : Bd n) : numV (itoa n) = n := by unfold numV; rw [numOk_itoa n h]; rfl
theorem nrm_itoa (n : Int) (h : Bd n) : nrm (itoa n) = [48] := by unfold nrm; rw [if_pos (numLike_itoa n h)]
/-- A line, and what is behind it. -/
theorem cut_nl (a b : List UInt8) (h : ∀ x ∈ a, x ≠ 10) : Lib.cut (a ++ 10 :: b) [10] = (a, b, true) := by
  have e : Lib.index (a ++ 10 :: b) [10] = a.length := by rw [Lib.index_one]; exact ib_at 10 b a h
  unfold Lib.cut
  rw [e, if_pos (by omega)]
  simp
end Go.Proofs.YtcomelbphdjnnaaGreatDoor.Sc
