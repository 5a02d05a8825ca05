import Derived.Test.YtcomelbphdjnnaaGreatDoorJ15
import Derived.Lib.AtoiAllCases
import Derived.Lib.IndexBytes
/-
  SCRIPT, pure: what any text comes to: what is read, or the line and the number of what is wrong.
-/
namespace Go.Proofs.YtcomelbphdjnnaaGreatDoor.Sc
open Go.RowKit
set_option linter.unusedVariables false
set_option linter.unusedSimpArgs false
/-- The lines from number k on. -/
def prX : Nat → Nat → List UInt8 → Cf × List Mv → (Nat × Int) ⊕ (Cf × List Mv)
  | _, _, [], st => .inr st
  | 0, _, _ :: _, _ => .inl (0, 0)
  | f + 1, k, c :: r, st => if lnE st (words (Lib.cut (c :: r) [10]).1) = 0 then prX f (k + 1) (Lib.cut (c :: r) [10]).2.1 (lnS st (words (Lib.cut (c :: r) [10]).1)) else .inl (k, lnE st (words (Lib.cut (c :: r) [10]).1))
theorem prX_fuel : ∀ (f k : Nat) (l : List UInt8) (st : Cf × List Mv), l.length ≤ f → prX f k l st = prX l.length k l st := by
  intro f
  induction f using Nat.strongRecOn with
  | ind f ih =>
    intro k l st h
    cases l with
    | nil => cases f <;> rfl
    | cons c r =>
      cases f with
      | zero => simp at h
      | succ f =>
        have hc := (cut_len c r).1
        simp only [List.length_cons] at hc h ⊢
        simp only [prX]
        split
        · by_cases e : f = r.length
          · rw [e]
          · rw [ih f (by omega) _ _ _ (by omega), ih r.length (by omega) _ _ _ (by omega)]
        · rfl
theorem prX_cons (c : UInt8) (r : List UInt8) (k : Nat) (st : Cf × List Mv) : prX (c :: r).length k (c :: r) st = if lnE st (words (Lib.cut (c :: r) [10]).1) = 0 then prX (Lib.cut (c :: r) [10]).2.1.length (k + 1) (Lib.cut (c :: r) [10]).2.1 (lnS st (words (Lib.cut (c :: r) [10]).1)) else .inl (k, lnE st (words (Lib.cut (c :: r) [10]).1)) := by
  have hc := (cut_len c r).1
  simp only [List.length_cons] at hc
  simp only [List.length_cons, prX]
  rw [prX_fuel r.length _ _ _ (by omega)]
theorem prO_prX : ∀ (n : Nat) (l : List UInt8) (st : Cf × List Mv) (k : Nat), l.length ≤ n → prO l.length l st = (match prX l.length k l st with | .inr x => some x | .inl _ => none)
  | n, [], st, k, _ => rfl
  | 0, c :: r, st, k, h => by simp at h
  | n + 1, c :: r, st, k, h => by
    have hc := (cut_len c r).1
    rw [prX_cons]
    simp only [List.length_cons] at hc h
    simp only [List.length_cons, prO]
    split
    · rw [prO_fuel r.length _ _ (by omega)]
      exact prO_prX n _ _ _ (by omega)
    · rfl
/-- What any text comes to. -/
def parseX (l : List UInt8) : (Nat × Int) ⊕ (Cf × List Mv) :=
  if l.length ≤ 1048576 then (match prX l.length 1 l (cfZ, []) with | .inr st => if st.1 = cfZ then .inl (0, 172) else .inr st | .inl x => .inl x) else .inl (0, 3)
theorem parseO_X (l : List UInt8) : parseO l = (match parseX l with | .inr x => some x | .inl _ => none) := by
  unfold parseO parseX
  split
  · rw [prO_prX l.length l _ 1 (Nat.le_refl _)]
    cases prX l.length 1 l (cfZ, []) with
    | inl x => rfl
    | inr st => dsimp only; split <;> rfl
  · rfl
theorem parseX_inr {l : List UInt8} {st : Cf × List Mv} (h : parseX l = .inr st) : parseO l = some st := by rw [parseO_X, h]
theorem parseX_of {l : List UInt8} {st : Cf × List Mv} (h : parseO l = some st) : parseX l = .inr st := by
  rw [parseO_X] at h
  cases hx : parseX l with
  | inl x => rw [hx] at h; cases h
  | inr s => rw [hx] at h; cases h; rfl
/-- An error's number: what lines come to. -/
theorem macE_cases (ws : List (List UInt8)) : macE ws = 0 ∨ macE ws = 1 ∨ macE ws = 170 ∨ macE ws = 171 := by
  unfold macE; repeat' split
  all_goals simp
theorem entE_cases (T : Nat) (ms : List Mv) (ws : List (List UInt8)) : entE T ms ws = 0 ∨ entE T ms ws = 2 ∨ entE T ms ws = 3 ∨ entE T ms ws = 170 ∨ entE T ms ws = 171 := by
  unfold entE; repeat' split
  all_goals simp
theorem lnE_cases (st : Cf × List Mv) (ws : List (List UInt8)) : lnE st ws = 0 ∨ lnE st ws = 1 ∨ lnE st ws = 2 ∨ lnE st ws = 3 ∨ lnE st ws = 170 ∨ lnE st ws = 171 := by
  unfold lnE
  split
  · exact .inl rfl
  · split
    · have := macE_cases ws; omega
    · have := entE_cases st.1.c0.toNat st.2 ws; omega
theorem prX_inl : ∀ (n : Nat) (l : List UInt8) (st : Cf × List Mv) (k j : Nat) (e : Int), l.length ≤ n → prX l.length k l st = .inl (j, e) → k ≤ j ∧ j < k + l.length ∧ 1 ≤ e ∧ e ≤ 171
  | n, [], st, k, j, e, _, h => by simp [prX] at h
  | 0, c :: r, st, k, j, e, hn, h => by simp at hn
  | n + 1, c :: r, st, k, j, e, hn, h => by
    have hc := (cut_len c r).1
    rw [prX_cons] at h
    simp only [List.length_cons] at hc hn ⊢
    split at h
    · have := prX_inl n _ _ _ _ _ (by omega) h
      omega
    · rename_i h0
      injection h with h
      injection h with h1 h2
      have := lnE_cases st (words (Lib.cut (c :: r) [10]).1)
      omega
end Go.Proofs.YtcomelbphdjnnaaGreatDoor.Sc
/-
  SCRIPT, pure: numerals there and back, their words; cuts at a newline.
-/
namespace Go.Proofs.YtcomelbphdjnnaaGreatDoor.Sc
open Go.RowKit
open Go.Lib (parseUint10 parseMag atoiAll decDigits itoa)
set_option linter.unusedVariables false
set_option linter.unusedSimpArgs false
theorem pu_snoc (c : UInt8) (hc : 48 ≤ c.toNat ∧ c.toNat ≤ 57) : ∀ (l : List UInt8) (acc a : Nat), parseUint10 acc l = .ok a → a * 10 + (c.toNat - 48) < 18446744073709551616 → parseUint10 acc (l ++ [c]) = .ok (a * 10 + (c.toNat - 48))
  | [], acc, a, h, hb => by
    simp only [parseUint10] at h
    injection h with h
    subst h
    show parseUint10 acc [c] = _
    simp only [parseUint10]
    rw [if_pos hc, if_neg (by omega), if_neg (by omega)]
  | x :: r, acc, a, h, hb => by
    simp only [parseUint10] at h
    show parseUint10 acc (x :: (r ++ [c])) = _
    simp only [parseUint10]
    split at h
    · rename_i h1
      rw [if_pos h1]
      split at h
      · cases h
      · rename_i h2
        rw [if_neg h2]
        split at h
        · cases h
        · rename_i h3
          rw [if_neg h3]
          exact pu_snoc c hc r _ a h hb
    · cases h
theorem dig_nat (d : Nat) (h : d < 10) : (UInt8.ofNat (48 + d)).toNat = 48 + d := by
  rw [UInt8.toNat_ofNat']; omega
theorem dec_digs (u : Nat) : ∀ b ∈ decDigits u, 48 ≤ b.toNat ∧ b.toNat ≤ 57 := by
  induction u using Nat.strongRecOn with
  | _ u ih =>
    by_cases h : u < 10
    · rw [Lib.decDigits_one h]
      intro b hb
      rw [List.mem_singleton] at hb
      subst hb
      rw [dig_nat u h]; omega
    · rw [decDigits, dif_neg h]
      intro b hb
      rcases List.mem_append.1 hb with hb | hb
      · exact ih (u / 10) (by omega) b hb
      · rw [List.mem_singleton] at hb
        subst hb
        rw [dig_nat (u % 10) (by omega)]; omega
theorem dec_ne (u : Nat) : decDigits u ≠ [] := by
  intro h
  have := congrArg List.length h
  rw [Lib.decDigits_length] at this
  have := Lib.nDigits_pos u
  simp at *
  omega
theorem pu_dec (u : Nat) (h : u < 18446744073709551616) : parseUint10 0 (decDigits u) = .ok u := by
  induction u using Nat.strongRecOn with
  | _ u ih =>
    by_cases h1 : u < 10
    · rw [Lib.decDigits_one h1]
      have := pu_snoc (UInt8.ofNat (48 + u)) (by rw [dig_nat u h1]; omega) [] 0 0 rfl (by rw [dig_nat u h1]; omega)
      rw [dig_nat u h1] at this
      rw [show u = 0 * 10 + (48 + u - 48) by omega]
      rw [show 0 * 10 + (48 + u - 48) = u by omega] at *
      simpa using this
    · rw [decDigits, dif_neg h1]
      have := pu_snoc (UInt8.ofNat (48 + u % 10)) (by rw [dig_nat (u % 10) (by omega)]; omega) _ 0 (u / 10) (ih (u / 10) (by omega) (by omega)) (by rw [dig_nat (u % 10) (by omega)]; omega)
      rw [dig_nat (u % 10) (by omega)] at this
      rw [this]
      congr 1
      omega
theorem mag_dec (u : Nat) (h : u < 18446744073709551616) : parseMag (decDigits u) = .ok u := by
  unfold parseMag
  rw [if_neg (dec_ne u)]
  exact pu_dec u h
theorem all_dec (u : Nat) (h : u < 9223372036854775808) : atoiAll (decDigits u) = .ok (u : Int) := by
  cases e : decDigits u with
  | nil => exact absurd e (dec_ne u)
  | cons c r =>
    have hd := dec_digs u c (by rw [e]; exact List.mem_cons_self)
    rw [Lib.atoiAll_plain c r (by omega) (by omega), ← e, mag_dec u (by omega)]
    simp only [Lib.signless]
    rw [if_neg (by omega)]
theorem ib_no (c : UInt8) : ∀ (l : List UInt8), (∀ b ∈ l, b ≠ c) → Lib.indexByte l c = -1
  | [], _ => rfl
  | x :: r, h => by
    have h1 := ib_no c r (fun b hb => h b (List.mem_cons_of_mem _ hb))
    have h2 : x ≠ c := h x List.mem_cons_self
    simp [Lib.indexByte, h1, h2]
theorem ib_at (c : UInt8) (r : List UInt8) : ∀ (l : List UInt8), (∀ b ∈ l, b ≠ c) → Lib.indexByte (l ++ c :: r) c = l.length
  | [], _ => by simp [Lib.indexByte]
  | x :: t, h => by
    have h1 := ib_at c r t (fun b hb => h b (List.mem_cons_of_mem _ hb))
    have h2 : x ≠ c := h x List.mem_cons_self
    rw [List.cons_append]
    simp [Lib.indexByte, h1, h2]
theorem itoa_cases (n : Int) (h : Bd n) : (∃ u : Nat, u < 9223372036854775808 ∧ n = u ∧ itoa n = decDigits u) ∨ ∃ u : Nat, 1 ≤ u ∧ u ≤ 9223372036854775808 ∧ n = -(u : Int) ∧ itoa n = 45 :: decDigits u := by
  unfold Bd at h
  by_cases h0 : 0 ≤ n
  · obtain ⟨u, rfl⟩ : ∃ u : Nat, n = u := ⟨n.toNat, by omega⟩
    exact .inl ⟨u, by omega, rfl, Lib.itoa_nonneg u⟩
  · obtain ⟨u, rfl⟩ : ∃ u : Nat, n = -(u : Int) := ⟨n.natAbs, by omega⟩
    exact .inr ⟨u, by omega, by omega, rfl, Lib.itoa_neg u (by omega)⟩
theorem itoa_bytes (n : Int) (h : Bd n) : ∀ b ∈ itoa n, (48 ≤ b.toNat ∧ b.toNat ≤ 57) ∨ b = 45 := by
  intro b hb
  rcases itoa_cases n h with ⟨u, _, _, e⟩ | ⟨u, _, _, _, e⟩
  · rw [e] at hb; exact .inl (dec_digs u b hb)
  · rw [e] at hb
    rcases List.mem_cons.1 hb with rfl | hb
    · exact .inr rfl
    · exact .inl (dec_digs u b hb)
theorem itoa_byte_ne (n : Int) (h : Bd n) (c : UInt8) (hc : c.toNat < 45) : ∀ b ∈ itoa n, b ≠ c := by
  intro b hb e
  subst e
  rcases itoa_bytes n h b hb with h | h
  · omega
  · rw [h] at hc; exact absurd hc (by decide)
theorem gw_itoa (n : Int) (h : Bd n) : Gw (itoa n) := by
  refine ⟨?_, ?_, ?_⟩
  · rcases itoa_cases n h with ⟨u, _, _, e⟩ | ⟨u, _, _, _, e⟩
    · rw [e]; exact dec_ne u
    · rw [e]; simp
  · intro c hc
    unfold bl
    rw [beq_eq_false_iff_ne.2 (itoa_byte_ne n h 32 (by decide) c hc), beq_eq_false_iff_ne.2 (itoa_byte_ne n h 9 (by decide) c hc), beq_eq_false_iff_ne.2 (itoa_byte_ne n h 13 (by decide) c hc)]
    rfl
  · intro e
    cases hl : itoa n with
    | nil => rw [hl] at e; cases e
    | cons c r =>
      rw [hl] at e
      simp at e
      exact itoa_byte_ne n h 35 (by decide) c (by rw [hl]; exact List.mem_cons_self ..) e
theorem numLike_itoa (n : Int) (h : Bd n) : numLike (itoa n) = true := by
  have key : ∀ u, ∃ c r, decDigits u = c :: r ∧ (decide (48 ≤ c.toNat) && decide (c.toNat ≤ 57)) = true ∧ c ≠ 45 := by
    intro u
    cases hd : decDigits u with
    | nil => exact absurd hd (dec_ne u)
    | cons c r =>
      have := dec_digs u c (by rw [hd]; exact List.mem_cons_self ..)
      refine ⟨c, r, rfl, by simp [this], fun e => ?_⟩
      rw [e] at this
      exact absurd this (by decide)
  unfold numLike Lib.trimPrefix Lib.hasPrefix
  rcases itoa_cases n h with ⟨u, _, _, e⟩ | ⟨u, _, _, _, e⟩
  · obtain ⟨c, r, hd, h1, h2⟩ := key u
    rw [e, hd]
    have : (([45] : List UInt8).isPrefixOf (c :: r)) = false := by simp [List.isPrefixOf]; exact fun e => h2 e.symm
    simp only [this]
    simpa using h1
  · obtain ⟨c, r, hd, h1, h2⟩ := key u
    rw [e, hd]
    have : (([45] : List UInt8).isPrefixOf (45 :: c :: r)) = true := by simp [List.isPrefixOf]
    simp only [this]
    simpa using h1
theorem all_itoa (n : Int) (h : Bd n) : atoiAll (itoa n) = .ok n := by
  rcases itoa_cases n h with ⟨u, hu, rfl, e⟩ | ⟨u, h1, h2, rfl, e⟩
  · rw [e]; exact all_dec u hu
  · rw [e, Lib.atoiAll_minus, mag_dec u (by omega)]
    unfold Lib.signed
    simp
    try omega
theorem numOk_itoa (n : Int) (h : Bd n) : numOk (itoa n) = some n := by
  unfold numOk
  rw [all_itoa n h]
  simp
theorem numV_itoa (n : Int) (h : Bd n) : numV (itoa n) = n := by unfold numV; rw [numOk_itoa n h]; rfl
theorem nrm_itoa (n : Int) (h : Bd n) : nrm (itoa n) = [48] := by unfold nrm; rw [if_pos (numLike_itoa n h)]
/-- A line, and what is behind it. -/
theorem cut_nl (a b : List UInt8) (h : ∀ x ∈ a, x ≠ 10) : Lib.cut (a ++ 10 :: b) [10] = (a, b, true) := by
  have e : Lib.index (a ++ 10 :: b) [10] = a.length := by rw [Lib.index_one]; exact ib_at 10 b a h
  unfold Lib.cut
  rw [e, if_pos (by omega)]
  simp
end Go.Proofs.YtcomelbphdjnnaaGreatDoor.Sc
