/-
  NUMERALS, THERE AND BACK; cuts at a byte: no Go in sight.
-/
import Derived.Test.YtpmpdkpnjfidhaaDoorStrParse
namespace Go.Proofs.YtpmpdkpnjfidhaaDoor.St
open Go.RowKit
open Go.Lib (parseUint10 parseMag atoiAll decDigits itoa)
open Tr Wp
set_option linter.unusedVariables false
theorem pu_snoc (c : UInt8) (hc : 48 ≤ c.toNat ∧ c.toNat ≤ 57) : ∀ (l : List UInt8) (acc a : Nat), parseUint10 acc l = .ok a → a * 10 + (c.toNat - 48) < 18446744073709551616 → parseUint10 acc (l ++ [c]) = .ok (a * 10 + (c.toNat - 48))
  | [], acc, a, h, hb => by
    simp only [parseUint10] at h
    injection h with h
    subst h
    show parseUint10 acc [c] = _
    simp only [parseUint10]
    rw [if_pos hc, if_neg (by omega), if_neg (by omega)]
  | x :: r, acc, a, h, hb => by
    simp only [parseUint10] at h
    show parseUint10 acc (x :: (r ++ [c])) = _
    simp only [parseUint10]
    split at h
    · rename_i h1
      rw [if_pos h1]
      split at h
      · cases h
      · rename_i h2
        rw [if_neg h2]
        split at h
        · cases h
        · rename_i h3
          rw [if_neg h3]
          exact pu_snoc c hc r _ a h hb
    · cases h
theorem dig_nat (d : Nat) (h : d < 10) : (UInt8.ofNat (48 + d)).toNat = 48 + d := by
  rw [UInt8.toNat_ofNat']; omega
theorem dec_digs (u : Nat) : ∀ b ∈ decDigits u, 48 ≤ b.toNat ∧ b.toNat ≤ 57 := by
  induction u using Nat.strongRecOn with
  | _ u ih =>
    by_cases h : u < 10
    · rw [Lib.decDigits_one h]
      intro b hb
      rw [List.mem_singleton] at hb
      subst hb
      rw [dig_nat u h]; omega
    · rw [decDigits, dif_neg h]
      intro b hb
      rcases List.mem_append.1 hb with hb | hb
      · exact ih (u / 10) (by omega) b hb
      · rw [List.mem_singleton] at hb
        subst hb
        rw [dig_nat (u % 10) (by omega)]; omega
theorem dec_ne (u : Nat) : decDigits u ≠ [] := by
  intro h
  have := congrArg List.length h
  rw [Lib.decDigits_length] at this
  have := Lib.nDigits_pos u
  simp at *
  omega
theorem pu_dec (u : Nat) (h : u < 18446744073709551616) : parseUint10 0 (decDigits u) = .ok u := by
  induction u using Nat.strongRecOn with
  | _ u ih =>
    by_cases h1 : u < 10
    · rw [Lib.decDigits_one h1]
      have := pu_snoc (UInt8.ofNat (48 + u)) (by rw [dig_nat u h1]; omega) [] 0 0 rfl (by rw [dig_nat u h1]; omega)
      rw [dig_nat u h1] at this
      rw [show u = 0 * 10 + (48 + u - 48) by omega]
      rw [show 0 * 10 + (48 + u - 48) = u by omega] at *
      simpa using this
    · rw [decDigits, dif_neg h1]
      have := pu_snoc (UInt8.ofNat (48 + u % 10)) (by rw [dig_nat (u % 10) (by omega)]; omega) _ 0 (u / 10) (ih (u / 10) (by omega) (by omega)) (by rw [dig_nat (u % 10) (by omega)]; omega)
      rw [dig_nat (u % 10) (by omega)] at this
      rw [this]
      congr 1
      omega
theorem mag_dec (u : Nat) (h : u < 18446744073709551616) : parseMag (decDigits u) = .ok u := by
  unfold parseMag
  rw [if_neg (dec_ne u)]
  exact pu_dec u h
theorem all_dec (u : Nat) (h : u < 9223372036854775808) : atoiAll (decDigits u) = .ok (u : Int) := by
  cases e : decDigits u with
  | nil => exact absurd e (dec_ne u)
  | cons c r =>
    have hd := dec_digs u c (by rw [e]; exact List.mem_cons_self)
    rw [Lib.atoiAll_plain c r (by omega) (by omega), ← e, mag_dec u (by omega)]
    simp only [Lib.signless]
    rw [if_neg (by omega)]
theorem likI_dec (u : Int) (h0 : 0 ≤ u) (h : u < 9223372036854775808) : likI (dec u) = u := by
  unfold likI dec
  show (match atoiAll (decDigits u.toNat) with | .ok v => v | _ => 0) = u
  rw [all_dec u.toNat (by omega)]
  show (u.toNat : Int) = u
  omega
theorem likI_ito (n : Int) (h0 : -9223372036854775808 ≤ n) (h1 : n ≤ 9223372036854775807) : likI (ito n) = n := by
  by_cases hn : n < 0
  · unfold likI ito
    show (match atoiAll (itoa n) with | .ok v => v | _ => 0) = n
    unfold itoa
    rw [if_pos hn, Lib.atoiAll_minus, mag_dec n.natAbs (by omega)]
    simp only [Lib.signed]
    rw [if_neg (by omega)]
    show -(n.natAbs : Int) = n
    omega
  · have e : ito n = dec n := by
      unfold ito dec itoa
      rw [if_neg hn]
    rw [e]
    exact likI_dec n (by omega) (by omega)
theorem ba_ext {a b : ByteArray} (h : a.data.toList = b.data.toList) : a = b := by
  have h : a.data = b.data := Array.toList_inj.mp h
  cases a; cases b; simp_all
theorem ib_no (c : UInt8) : ∀ (l : List UInt8), (∀ b ∈ l, b ≠ c) → Lib.indexByte l c = -1
  | [], _ => rfl
  | x :: r, h => by
    have h1 := ib_no c r (fun b hb => h b (List.mem_cons_of_mem _ hb))
    have h2 : x ≠ c := h x List.mem_cons_self
    simp [Lib.indexByte, h1, h2]
theorem ib_at (c : UInt8) (r : List UInt8) : ∀ (l : List UInt8), (∀ b ∈ l, b ≠ c) → Lib.indexByte (l ++ c :: r) c = l.length
  | [], _ => by simp [Lib.indexByte]
  | x :: t, h => by
    have h1 := ib_at c r t (fun b hb => h b (List.mem_cons_of_mem _ hb))
    have h2 : x ≠ c := h x List.mem_cons_self
    rw [List.cons_append]
    simp [Lib.indexByte, h1, h2]
theorem app_list (a b : ByteArray) : (a ++ b).data.toList = a.data.toList ++ b.data.toList := by
  rw [ByteArray.data_append, Array.toList_append]
theorem ext_list (a : ByteArray) (i j : Nat) : (a.extract i j).data.toList = (a.data.toList.take j).drop i := by
  rw [ByteArray.data_extract, Array.toList_extract, List.extract_eq_take_drop, List.drop_take]
theorem cut_no (s : ByteArray) (c : UInt8) (h : ∀ b ∈ s.data.toList, b ≠ c) : cutA s c = s ∧ cutB s c = ⟨#[]⟩ := by
  have e := ib_no c s.data.toList h
  unfold cutA cutB
  rw [if_pos e, if_pos e]
  exact ⟨rfl, rfl⟩
theorem cut_at (s a b : ByteArray) (c : UInt8) (e : s.data.toList = a.data.toList ++ c :: b.data.toList) (h : ∀ x ∈ a.data.toList, x ≠ c) : cutA s c = a ∧ cutB s c = b := by
  have ei := ib_at c b.data.toList a.data.toList h
  rw [← e] at ei
  have hl : s.size = a.data.toList.length + 1 + b.data.toList.length := by
    have : s.data.toList.length = s.size := Array.length_toList
    rw [← this, e]
    simp
    omega
  unfold cutA cutB
  rw [ei, if_neg (by omega), if_neg (by omega)]
  constructor
  · apply ba_ext
    rw [ext_list, e]
    simp
  · apply ba_ext
    rw [ext_list, e, hl]
    rw [List.take_of_length_le (by simp; omega)]
    simp [List.drop_append, List.drop_of_length_le]
end Go.Proofs.YtpmpdkpnjfidhaaDoor.St
