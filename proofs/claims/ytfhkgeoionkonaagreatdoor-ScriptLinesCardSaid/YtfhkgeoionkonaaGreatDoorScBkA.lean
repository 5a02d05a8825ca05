/-
  SCRIPT, pure: numerals there and back, their words; cuts at a newline.
-/
import Derived.Test.YtfhkgeoionkonaaGreatDoorScText
import Derived.Lib.AtoiAllCases
import Derived.Lib.IndexBytes
namespace Go.Proofs.YtfhkgeoionkonaaGreatDoor.Sc
open Go.RowKit
open Go.Lib (parseUint10 parseMag atoiAll decDigits itoa)
set_option linter.unusedVariables false
set_option linter.unusedSimpArgs false
theorem pu_snoc (c : UInt8) (hc : 48 ≤ c.toNat ∧ c.toNat ≤ 57) : ∀ (l : List UInt8) (acc a : Nat), parseUint10 acc l = .ok a → a * 10 + (c.toNat - 48) < 18446744073709551616 → parseUint10 acc (l ++ [c]) = .ok (a * 10 + (c.toNat - 48))
  | [], acc, a, h, hb => by
    simp only [parseUint10] at h
    injection h with h
    subst h
    show parseUint10 acc [c] = _
    simp only [parseUint10]
    rw [if_pos hc, if_neg (by omega), if_neg (by omega)]
  | x :: r, acc, a, h, hb => by
    simp only [parseUint10] at h
    show parseUint10 acc (x :: (r ++ [c])) = _
    simp only [parseUint10]
    split at h
    · rename_i h1
      rw [if_pos h1]
      split at h
      · cases h
      · rename_i h2
        rw [if_neg h2]
        split at h
        · cases h
        · rename_i h3
          rw [if_neg h3]
          exact pu_snoc c hc r _ a h hb
    · cases h
theorem dig_nat (d : Nat) (h : d < 10) : (UInt8.ofNat (48 + d)).toNat = 48 + d := by
  rw [UInt8.toNat_ofNat']; omega
theorem dec_digs (u : Nat) : ∀ b ∈ decDigits u, 48 ≤ b.toNat ∧ b.toNat ≤ 57 := by
  induction u using Nat.strongRecOn with
  | _ u ih =>
    by_cases h : u < 10
    · rw [Lib.decDigits_one h]
      intro b hb
      rw [List.mem_singleton] at hb
      subst hb
      rw [dig_nat u h]; omega
    · rw [decDigits, dif_neg h]
      intro b hb
      rcases List.mem_append.1 hb with hb | hb
      · exact ih (u / 10) (by omega) b hb
      · rw [List.mem_singleton] at hb
        subst hb
        rw [dig_nat (u % 10) (by omega)]; omega
theorem dec_ne (u : Nat) : decDigits u ≠ [] := by
  intro h
  have := congrArg List.length h
  rw [Lib.decDigits_length] at this
  have := Lib.nDigits_pos u
  simp at *
  omega
theorem pu_dec (u : Nat) (h : u < 18446744073709551616) : parseUint10 0 (decDigits u) = .ok u := by
  induction u using Nat.strongRecOn with
  | _ u ih =>
    by_cases h1 : u < 10
    · rw [Lib.decDigits_one h1]
      have := pu_snoc (UInt8.ofNat (48 + u)) (by rw [dig_nat u h1]; omega) [] 0 0 rfl (by rw [dig_nat u h1]; omega)
      rw [dig_nat u h1] at this
      rw [show u = 0 * 10 + (48 + u - 48) by omega]
      rw [show 0 * 10 + (48 + u - 48) = u by omega] at *
      simpa using this
    · rw [decDigits, dif_neg h1]
      have := pu_snoc (UInt8.ofNat (48 + u % 10)) (by rw [dig_nat (u % 10) (by omega)]; omega) _ 0 (u / 10) (ih (u / 10) (by omega) (by omega)) (by rw [dig_nat (u % 10) (by omega)]; omega)
      rw [dig_nat (u % 10) (by omega)] at this
      rw [this]
      congr 1
      omega
theorem mag_dec (u : Nat) (h : u < 18446744073709551616) : parseMag (decDigits u) = .ok u := by
  unfold parseMag
  rw [if_neg (dec_ne u)]
  exact pu_dec u h
theorem all_dec (u : Nat) (h : u < 9223372036854775808) : atoiAll (decDigits u) = .ok (u : Int) := by
  cases e : decDigits u with
  | nil => exact absurd e (dec_ne u)
  | cons c r =>
    have hd := dec_digs u c (by rw [e]; exact List.mem_cons_self)
    rw [Lib.atoiAll_plain c r (by omega) (by omega), ← e, mag_dec u (by omega)]
    simp only [Lib.signless]
    rw [if_neg (by omega)]
theorem ib_no (c : UInt8) : ∀ (l : List UInt8), (∀ b ∈ l, b ≠ c) → Lib.indexByte l c = -1
  | [], _ => rfl
  | x :: r, h => by
    have h1 := ib_no c r (fun b hb => h b (List.mem_cons_of_mem _ hb))
    have h2 : x ≠ c := h x List.mem_cons_self
    simp [Lib.indexByte, h1, h2]
theorem ib_at (c : UInt8) (r : List UInt8) : ∀ (l : List UInt8), (∀ b ∈ l, b ≠ c) → Lib.indexByte (l ++ c :: r) c = l.length
  | [], _ => by simp [Lib.indexByte]
  | x :: t, h => by
    have h1 := ib_at c r t (fun b hb => h b (List.mem_cons_of_mem _ hb))
    have h2 : x ≠ c := h x List.mem_cons_self
    rw [List.cons_append]
    simp [Lib.indexByte, h1, h2]
theorem itoa_cases (n : Int) (h : Bd n) : (∃ u : Nat, u < 9223372036854775808 ∧ n = u ∧ itoa n = decDigits u) ∨ ∃ u : Nat, 1 ≤ u ∧ u ≤ 9223372036854775808 ∧ n = -(u : Int) ∧ itoa n = 45 :: decDigits u := by
  unfold Bd at h
  by_cases h0 : 0 ≤ n
  · obtain ⟨u, rfl⟩ : ∃ u : Nat, n = u := ⟨n.toNat, by omega⟩
    exact .inl ⟨u, by omega, rfl, Lib.itoa_nonneg u⟩
  · obtain ⟨u, rfl⟩ : ∃ u : Nat, n = -(u : Int) := ⟨n.natAbs, by omega⟩
    exact .inr ⟨u, by omega, by omega, rfl, Lib.itoa_neg u (by omega)⟩
theorem itoa_bytes (n : Int) (h : Bd n) : ∀ b ∈ itoa n, (48 ≤ b.toNat ∧ b.toNat ≤ 57) ∨ b = 45 := by
  intro b hb
  rcases itoa_cases n h with ⟨u, _, _, e⟩ | ⟨u, _, _, _, e⟩
  · rw [e] at hb; exact .inl (dec_digs u b hb)
  · rw [e] at hb
    rcases List.mem_cons.1 hb with rfl | hb
    · exact .inr rfl
    · exact .inl (dec_digs u b hb)
theorem itoa_byte_ne (n : Int) (h : Bd n) (c : UInt8) (hc : c.toNat < 45) : ∀ b ∈ itoa n, b ≠ c := by
  intro b hb e
  subst e
  rcases itoa_bytes n h b hb with h | h
  · omega
  · rw [h] at hc; exact absurd hc (by decide)
theorem gw_itoa (n : Int) (h : Bd n) : Gw (itoa n) := by
  refine ⟨?_, ?_, ?_⟩
  · rcases itoa_cases n h with ⟨u, _, _, e⟩ | ⟨u, _, _, _, e⟩
    · rw [e]; exact dec_ne u
    · rw [e]; simp
  · intro c hc
    unfold bl
    rw [beq_eq_false_iff_ne.2 (itoa_byte_ne n h 32 (by decide) c hc), beq_eq_false_iff_ne.2 (itoa_byte_ne n h 9 (by decide) c hc), beq_eq_false_iff_ne.2 (itoa_byte_ne n h 13 (by decide) c hc)]
    rfl
  · intro e
    cases hl : itoa n with
    | nil => rw [hl] at e; cases e
    | cons c r =>
      rw [hl] at e
      simp at e
      exact itoa_byte_ne n h 35 (by decide) c (by rw [hl]; exact List.mem_cons_self ..) e
theorem numLike_itoa (n : Int) (h : Bd n) : numLike (itoa n) = true := by
  have key : ∀ u, ∃ c r, decDigits u = c :: r ∧ (decide (48 ≤ c.toNat) && decide (c.toNat ≤ 57)) = true ∧ c ≠ 45 := by
    intro u
    cases hd : decDigits u with
    | nil => exact absurd hd (dec_ne u)
    | cons c r =>
      have := dec_digs u c (by rw [hd]; exact List.mem_cons_self ..)
      refine ⟨c, r, rfl, by simp [this], fun e => ?_⟩
      rw [e] at this
      exact absurd this (by decide)
  unfold numLike Lib.trimPrefix Lib.hasPrefix
  rcases itoa_cases n h with ⟨u, _, _, e⟩ | ⟨u, _, _, _, e⟩
  · obtain ⟨c, r, hd, h1, h2⟩ := key u
    rw [e, hd]
    have : (([45] : List UInt8).isPrefixOf (c :: r)) = false := by simp [List.isPrefixOf]; exact fun e => h2 e.symm
    simp only [this]
    simpa using h1
  · obtain ⟨c, r, hd, h1, h2⟩ := key u
    rw [e, hd]
    have : (([45] : List UInt8).isPrefixOf (45 :: c :: r)) = true := by simp [List.isPrefixOf]
    simp only [this]
    simpa using h1
theorem all_itoa (n : Int) (h : Bd n) : atoiAll (itoa n) = .ok n := by
  rcases itoa_cases n h with ⟨u, hu, rfl, e⟩ | ⟨u, h1, h2, rfl, e⟩
  · rw [e]; exact all_dec u hu
  · rw [e, Lib.atoiAll_minus, mag_dec u (by omega)]
    unfold Lib.signed
    simp
    try omega
theorem numOk_itoa (n : Int) (h : Bd n) : numOk (itoa n) = some n := by
  unfold numOk
  rw [all_itoa n h]
  simp
theorem numV_itoa (n : Int) (h : Bd n) : numV (itoa n) = n := by unfold numV; rw [numOk_itoa n h]; rfl
theorem nrm_itoa (n : Int) (h : Bd n) : nrm (itoa n) = [48] := by unfold nrm; rw [if_pos (numLike_itoa n h)]
/-- A line, and what is behind it. -/
theorem cut_nl (a b : List UInt8) (h : ∀ x ∈ a, x ≠ 10) : Lib.cut (a ++ 10 :: b) [10] = (a, b, true) := by
  have e : Lib.index (a ++ 10 :: b) [10] = a.length := by rw [Lib.index_one]; exact ib_at 10 b a h
  unfold Lib.cut
  rw [e, if_pos (by omega)]
  simp
end Go.Proofs.YtfhkgeoionkonaaGreatDoor.Sc
