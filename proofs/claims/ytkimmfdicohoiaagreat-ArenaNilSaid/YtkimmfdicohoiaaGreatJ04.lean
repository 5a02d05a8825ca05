import Derived.Laws.BitsAllLaws
import Derived.Laws.Wrap64
import Derived.OpenShut
import Derived.Test.YtkimmfdicohoiaaGreatChecked
import Derived.WalkKit
import Derived.WalkSpells
import Derived.Outline
import Derived.RowKit
/-
  PLAIN ARITHMETIC of packed words: no Go in sight.
-/
namespace Go.Proofs.YtkimmfdicohoiaaGreat.Wp
open Go Go.RowKit

/-- A link's word. -/
def packLink (i : Int) (m : Bool) : Int := i + 1 + (if m then 4294967296 else 0)
/-- A head's word. -/
def packHead (t : Int) (i : Int) : Int := t * 4294967296 + (i + 1)
def isLinkB (w : Int) : Bool := decide (w < 8589934592) && decide (w % 4294967296 ≤ 2147483647)

theorem packLink_bd (i : Int) (m : Bool) (h1 : -1 ≤ i) (h2 : i ≤ 2147483646) : 0 ≤ packLink i m ∧ packLink i m ≤ 6442450943 := by
  unfold packLink; split <;> omega

theorem or_mark (x : Int) (h1 : 0 ≤ x) (h2 : x ≤ 2147483647) : bits .or .u64 x 4294967296 = x + 4294967296 := by
  obtain ⟨n, rfl⟩ := Int.eq_ofNat_of_zero_le h1
  have := u64_or_nat n 4294967296 (by omega) (by decide)
  have e : n ||| 4294967296 = n + 4294967296 := by
    rw [Nat.or_comm, nat_join 32 4294967296 n (by decide) (by omega), Nat.add_comm]
  rw [e] at this
  rw [show (4294967296 : Int) = ((4294967296 : Nat) : Int) from rfl, this]; rfl

theorem and_low (x : Int) (h1 : 0 ≤ x) (h2 : x ≤ 18446744073709551615) : bits .and .u64 x 4294967295 = x % 4294967296 := by
  obtain ⟨n, rfl⟩ := Int.eq_ofNat_of_zero_le h1
  have := u64_and_nat n 4294967295 (by omega) (by decide)
  have e : n &&& 4294967295 = n % 4294967296 := Nat.and_two_pow_sub_one_eq_mod n 32
  rw [e] at this
  rw [show (4294967295 : Int) = ((4294967295 : Nat) : Int) from rfl, this]; omega

theorem and_mark (x : Int) (h1 : 0 ≤ x) (h2 : x ≤ 18446744073709551615) : bits .and .u64 x 4294967296 = x / 4294967296 % 2 * 4294967296 := by
  obtain ⟨n, rfl⟩ := Int.eq_ofNat_of_zero_le h1
  have := u64_and_nat n 4294967296 (by omega) (by decide)
  have e : n &&& 4294967296 = n / 4294967296 % 2 * 4294967296 := nat_bit 32 n
  rw [e] at this
  rw [show (4294967296 : Int) = ((4294967296 : Nat) : Int) from rfl, this]; omega

theorem andNot_link (x : Int) (h1 : 0 ≤ x) (h2 : x ≤ 18446744073709551615) : bits .andNot .u64 x 8589934591 = x / 8589934592 * 8589934592 := by
  obtain ⟨n, rfl⟩ := Int.eq_ofNat_of_zero_le h1
  have := u64_andNot_nat n 8589934591 (by omega) (by decide)
  have e : n &&& (18446744073709551615 - 8589934591) = n / 8589934592 * 8589934592 := by
    apply Nat.eq_of_testBit_eq
    intro i
    rw [show (8589934592 : Nat) = 2 ^ 33 from rfl, Nat.testBit_and, Nat.testBit_mul_two_pow, Nat.testBit_div_two_pow]
    rw [show (18446744073709551615 - 8589934591 : Nat) = (2 ^ 31 - 1) * 2 ^ 33 from rfl, Nat.testBit_mul_two_pow, Nat.testBit_two_pow_sub_one]
    by_cases hi : 33 ≤ i
    · simp only [hi, decide_true, Bool.true_and]
      rw [show i - 33 + 33 = i from by omega]
      by_cases h64 : i - 33 < 31
      · simp [h64]
      · have : n.testBit i = false := Nat.testBit_lt_two_pow (Nat.lt_of_lt_of_le (show n < 2 ^ 64 by omega) (Nat.pow_le_pow_right (by decide) (by omega)))
        simp [this]
    · simp [hi]
  rw [e] at this
  rw [show (8589934591 : Int) = ((8589934591 : Nat) : Int) from rfl, this]; omega

theorem or_head (t x : Int) (h0 : 0 ≤ t) (h0' : t ≤ 4294967295) (h1 : 0 ≤ x) (h2 : x ≤ 2147483647) : bits .or .u64 (t * 4294967296) x = t * 4294967296 + x := by
  obtain ⟨n, rfl⟩ := Int.eq_ofNat_of_zero_le h1
  obtain ⟨k, rfl⟩ := Int.eq_ofNat_of_zero_le h0
  have := u64_or_nat (k * 4294967296) n (by omega) (by omega)
  have e : k * 4294967296 ||| n = k * 4294967296 + n := nat_join 32 _ n (by omega) (by omega)
  rw [e] at this
  rw [show ((k : Int) * 4294967296) = ((k * 4294967296 : Nat) : Int) from by omega, this]; omega

theorem wrap64_small (x : Int) (h1 : 0 ≤ x) (h2 : x ≤ 9223372036854775807) : wrap64 x = x := by unfold wrap64; omega
theorem wrapu64_small (x : Int) (h1 : 0 ≤ x) (h2 : x ≤ 18446744073709551615) : IntKind.u64.wrap x = x := by rw [IntKind.wrap_u64]; omega
end Go.Proofs.YtkimmfdicohoiaaGreat.Wp
/-
  CONTRACTS of the packing functions of package word and of the document's answers to them.
-/
namespace Go.Proofs.YtkimmfdicohoiaaGreat.Wp
open Go.RowKit
set_option linter.unusedVariables false

theorem link_bad (i : Int) (m : Bool) (w : World) (h : i < -1 ∨ 2147483646 < i) :
    Calls Tryz.prog 132 #[.int .i64 i, .bool m] w fun e w' => e = .returned (.tuple #[.int .u64 0, .int .i64 2]) ∧ w' = w := by
  rcases h with h | h
  · go_enter Tryz.func132, Tryz.ntmps132
    go_wp2
    go_ret2
    exact ⟨rfl, rfl⟩
  · have hd : decide (i ≤ 2147483646) = false := by simp; omega
    go_enter Tryz.func132, Tryz.ntmps132
    go_wp2
    go_ret2
    exact ⟨rfl, rfl⟩
theorem link_ok (i : Int) (m : Bool) (w : World) (h1 : -1 ≤ i) (h2 : i ≤ 2147483646) :
    Calls Tryz.prog 132 #[.int .i64 i, .bool m] w fun e w' => e = .returned (.tuple #[.int .u64 (packLink i m), .int .i64 0]) ∧ w' = w := by
  have e1 := or_mark (i + 1) (by omega) (by omega)
  cases m
  · go_enter Tryz.func132, Tryz.ntmps132
    go_wp2
    go_ret2
    exact ⟨by simp [packLink], rfl⟩
  · go_enter Tryz.func132, Tryz.ntmps132
    go_wp2
    go_ret2
    exact ⟨by simp [packLink], rfl⟩
theorem slotOf_bad (x : Int) (w : World) (h0 : 0 ≤ x) (h1 : x ≤ 18446744073709551615) (h : 2147483647 < x % 4294967296) :
    Calls Tryz.prog 145 #[.int .u64 x] w fun e w' => e = .returned (.tuple #[.int .i64 0, .bool false]) ∧ w' = w := by
  have e1 := and_low x h0 h1
  go_enter Tryz.func145, Tryz.ntmps145
  go_wp2
  go_ret2
  exact ⟨rfl, rfl⟩
theorem slotOf_ok (x : Int) (w : World) (h0 : 0 ≤ x) (h1 : x ≤ 18446744073709551615) (h : x % 4294967296 ≤ 2147483647) :
    Calls Tryz.prog 145 #[.int .u64 x] w fun e w' => e = .returned (.tuple #[.int .i64 (x % 4294967296 - 1), .bool true]) ∧ w' = w := by
  have e1 := and_low x h0 h1
  have h2 : 0 ≤ x % 4294967296 := by omega
  go_enter Tryz.func145, Tryz.ntmps145
  go_wp2
  go_ret2
  exact ⟨rfl, rfl⟩
theorem mark_bit (x : Int) : (x / 4294967296 % 2 * 4294967296 != 0) = (x / 4294967296 % 2 == 1) := by
  rw [Bool.eq_iff_iff]; simp; omega
theorem unlink_bad (x : Int) (w : World) (h0 : 0 ≤ x) (h1 : x ≤ 18446744073709551615) (h : 8589934592 ≤ x ∨ 2147483647 < x % 4294967296) :
    Calls Tryz.prog 130 #[.int .u64 x] w fun e w' => e = .returned (.tuple #[.int .i64 0, .bool false, .int .i64 10]) ∧ w' = w := by
  have e2 := andNot_link x h0 h1
  by_cases hb : 2147483647 < x % 4294967296
  · go_enter Tryz.func130, Tryz.ntmps130
    go_wp2_with (go_at_call 145; refine (slotOf_bad x _ h0 h1 hb).mono ?_; rintro e w' ⟨rfl, rfl⟩)
    go_ret3
    exact ⟨rfl, rfl⟩
  · have hb' : x % 4294967296 ≤ 2147483647 := by omega
    have e3 : (x / 8589934592 * 8589934592 != 0) = true := by simp; omega
    clear h hb
    go_enter Tryz.func130, Tryz.ntmps130
    go_wp2_with (go_at_call 145; refine (slotOf_ok x _ h0 h1 hb').mono ?_; rintro e w' ⟨rfl, rfl⟩)
    go_ret3
    exact ⟨rfl, rfl⟩
theorem unlink_ok (x : Int) (w : World) (h0 : 0 ≤ x) (h1 : x < 8589934592) (h : x % 4294967296 ≤ 2147483647) :
    Calls Tryz.prog 130 #[.int .u64 x] w fun e w' => e = .returned (.tuple #[.int .i64 (x % 4294967296 - 1), .bool (x / 4294967296 % 2 == 1), .int .i64 0]) ∧ w' = w := by
  have e2 := andNot_link x h0 (by omega)
  have e3 : (x / 8589934592 * 8589934592 != 0) = false := by simp; omega
  have e4 := and_mark x h0 (by omega)
  have e5 := mark_bit x
  have h1' : x ≤ 18446744073709551615 := by omega
  go_enter Tryz.func130, Tryz.ntmps130
  go_wp2_with (go_at_call 145; refine (slotOf_ok x _ h0 h1' h).mono ?_; rintro e w' ⟨rfl, rfl⟩)
  go_ret3
  exact ⟨rfl, rfl⟩
theorem head_bad (t i : Int) (w : World) (h : i < -1 ∨ 2147483646 < i) :
    Calls Tryz.prog 129 #[.int .u32 t, .int .i64 i] w fun e w' => e = .returned (.tuple #[.int .u64 0, .int .i64 2]) ∧ w' = w := by
  rcases h with h | h
  · go_enter Tryz.func129, Tryz.ntmps129
    go_wp2
    go_ret2
    exact ⟨rfl, rfl⟩
  · have hd : decide (i ≤ 2147483646) = false := by simp; omega
    go_enter Tryz.func129, Tryz.ntmps129
    go_wp2
    go_ret2
    exact ⟨rfl, rfl⟩
theorem head_ok (t i : Int) (w : World) (h1 : -1 ≤ i) (h2 : i ≤ 2147483646) (h3 : 0 ≤ t) (h4 : t ≤ 4294967295) :
    Calls Tryz.prog 129 #[.int .u32 t, .int .i64 i] w fun e w' => e = .returned (.tuple #[.int .u64 (packHead t i), .int .i64 0]) ∧ w' = w := by
  have e1 := or_head t (i + 1) h3 h4 (by omega) (by omega)
  go_enter Tryz.func129, Tryz.ntmps129
  go_wp2
  go_ret2
  exact ⟨by simp [packHead], rfl⟩
theorem unhead_bad (x : Int) (w : World) (h0 : 0 ≤ x) (h1 : x ≤ 18446744073709551615) (h : 2147483647 < x % 4294967296) :
    Calls Tryz.prog 127 #[.int .u64 x] w fun e w' => e = .returned (.tuple #[.int .u32 0, .int .i64 0, .int .i64 10]) ∧ w' = w := by
  go_enter Tryz.func127, Tryz.ntmps127
  go_wp2_with (go_at_call 145; refine (slotOf_bad x _ h0 h1 h).mono ?_; rintro e w' ⟨rfl, rfl⟩)
  go_ret3
  exact ⟨rfl, rfl⟩
theorem unhead_ok (x : Int) (w : World) (h0 : 0 ≤ x) (h1 : x ≤ 18446744073709551615) (h : x % 4294967296 ≤ 2147483647) :
    Calls Tryz.prog 127 #[.int .u64 x] w fun e w' => e = .returned (.tuple #[.int .u32 (x / 4294967296), .int .i64 (x % 4294967296 - 1), .int .i64 0]) ∧ w' = w := by
  go_enter Tryz.func127, Tryz.ntmps127
  go_wp2_with (go_at_call 145; refine (slotOf_ok x _ h0 h1 h).mono ?_; rintro e w' ⟨rfl, rfl⟩)
  go_ret3
  exact ⟨rfl, rfl⟩
end Go.Proofs.YtkimmfdicohoiaaGreat.Wp
/-
  PLAIN: how the regions lie. No Go in sight.
-/
namespace Go.Proofs.YtkimmfdicohoiaaGreat.Wm
/-- How many of a region's things (of buckets, records, slots). -/
def items (a1 a5 a6 : Int) (r : Int) : Int := if r = 7 then a6 else if r = 8 then a1 else if r = 9 then a1 else if 10 ≤ r ∧ r ≤ 13 then a5 else 1
/-- How many words for each. -/
def each (a2 : Int) (r : Int) : Int := if r = 9 then a2 else 1
def many (a1 a2 a5 a6 : Int) (r : Int) : Int := items a1 a5 a6 r * each a2 r
/-- Where region k begins. -/
def base (a1 a2 a5 a6 : Int) : Nat → Int
  | 0 => 0
  | 1 => 0
  | (k + 2) => base a1 a2 a5 a6 (k + 1) + many a1 a2 a5 a6 ((k + 1 : Nat) : Int)
theorem base_succ (a1 a2 a5 a6 : Int) (k : Nat) (h : 1 ≤ k) : base a1 a2 a5 a6 (k + 1) = base a1 a2 a5 a6 k + many a1 a2 a5 a6 (k : Int) := by
  obtain ⟨j, rfl⟩ : ∃ j, k = j + 1 := ⟨k - 1, by omega⟩
  rfl
/-- The bounds of a configuration that may be. -/
def Ok (a1 a2 a5 a6 : Int) : Prop := 1 ≤ a1 ∧ a1 ≤ 16 ∧ 3 ≤ a2 ∧ a2 ≤ 8 ∧ 1 ≤ a5 ∧ a5 ≤ 1024 ∧ 1 ≤ a6 ∧ a6 ≤ 64
theorem items_bd {a1 a2 a5 a6 : Int} (h : Ok a1 a2 a5 a6) (r : Int) : 1 ≤ items a1 a5 a6 r ∧ items a1 a5 a6 r ≤ 1024 := by
  obtain ⟨h1, h2, h3, h4, h5, h6, h7, h8⟩ := h
  unfold items; (repeat' split) <;> omega
theorem each_bd {a1 a2 a5 a6 : Int} (h : Ok a1 a2 a5 a6) (r : Int) : 1 ≤ each a2 r ∧ each a2 r ≤ 8 := by
  obtain ⟨h1, h2, h3, h4, h5, h6, h7, h8⟩ := h
  unfold each; split <;> omega
theorem many_bd {a1 a2 a5 a6 : Int} (h : Ok a1 a2 a5 a6) (r : Int) : 1 ≤ many a1 a2 a5 a6 r ∧ many a1 a2 a5 a6 r ≤ 1024 := by
  have hh := h
  obtain ⟨h1, h2, h3, h4, h5, h6, h7, h8⟩ := h
  unfold many
  by_cases e : r = 9
  · subst e
    simp only [items, each]
    simp only [show ¬ ((9 : Int) = 7) from by decide, show ¬ ((9 : Int) = 8) from by decide, if_true, if_false]
    constructor
    · have := Int.mul_le_mul h1 h3 (by omega) (by omega); omega
    · have := Int.mul_le_mul h2 h4 (by omega) (by omega); omega
  · have e1 : each a2 r = 1 := by unfold each; rw [if_neg e]
    rw [e1]; have := items_bd hh r; omega
theorem base_bd {a1 a2 a5 a6 : Int} (h : Ok a1 a2 a5 a6) : ∀ k : Nat, 0 ≤ base a1 a2 a5 a6 k ∧ base a1 a2 a5 a6 k ≤ 1024 * (k : Int)
  | 0 => by simp [base]
  | 1 => by simp [base]
  | (k + 2) => by
    have i := base_bd h (k + 1)
    have m := many_bd h ((k + 1 : Nat) : Int)
    simp only [base]; omega
theorem base_mono {a1 a2 a5 a6 : Int} (h : Ok a1 a2 a5 a6) (j k : Nat) (h1 : 1 ≤ j) (hjk : j < k) : base a1 a2 a5 a6 j + many a1 a2 a5 a6 (j : Int) ≤ base a1 a2 a5 a6 k := by
  induction k with
  | zero => omega
  | succ k ih =>
    rw [base_succ _ _ _ _ k (by omega)]
    by_cases e : j = k
    · subst e; omega
    · have := ih (by omega); have := many_bd h (k : Int); omega
end Go.Proofs.YtkimmfdicohoiaaGreat.Wm
