import Derived.Test.YtjpgjhjnneeliaaGreatChecked
import Derived.Test.YtjpgjhjnneeliaaGreatJ06
import Derived.WalkKit
import Derived.WalkSpells
import Derived.OpenShut
import Derived.Outline
import Derived.Test.YtjpgjhjnneeliaaGreatJ07
import Derived.RowKit
/-
  CONTRACTS of the packing functions of package word and of the document's answers to them.
-/
namespace Go.Proofs.YtjpgjhjnneeliaaGreat.Wp
open Go.RowKit
set_option linter.unusedVariables false

theorem link_bad (i : Int) (m : Bool) (w : World) (h : i < -1 ∨ 2147483646 < i) :
    Calls Tryz.prog 143 #[.int .i64 i, .bool m] w fun e w' => e = .returned (.tuple #[.int .u64 0, .int .i64 2]) ∧ w' = w := by
  rcases h with h | h
  · go_enter Tryz.func143, Tryz.ntmps143
    go_wp2
    go_ret2
    exact ⟨rfl, rfl⟩
  · have hd : decide (i ≤ 2147483646) = false := by simp; omega
    go_enter Tryz.func143, Tryz.ntmps143
    go_wp2
    go_ret2
    exact ⟨rfl, rfl⟩
theorem link_ok (i : Int) (m : Bool) (w : World) (h1 : -1 ≤ i) (h2 : i ≤ 2147483646) :
    Calls Tryz.prog 143 #[.int .i64 i, .bool m] w fun e w' => e = .returned (.tuple #[.int .u64 (packLink i m), .int .i64 0]) ∧ w' = w := by
  have e1 := or_mark (i + 1) (by omega) (by omega)
  cases m
  · go_enter Tryz.func143, Tryz.ntmps143
    go_wp2
    go_ret2
    exact ⟨by simp [packLink], rfl⟩
  · go_enter Tryz.func143, Tryz.ntmps143
    go_wp2
    go_ret2
    exact ⟨by simp [packLink], rfl⟩
theorem slotOf_bad (x : Int) (w : World) (h0 : 0 ≤ x) (h1 : x ≤ 18446744073709551615) (h : 2147483647 < x % 4294967296) :
    Calls Tryz.prog 132 #[.int .u64 x] w fun e w' => e = .returned (.tuple #[.int .i64 0, .bool false]) ∧ w' = w := by
  have e1 := and_low x h0 h1
  go_enter Tryz.func132, Tryz.ntmps132
  go_wp2
  go_ret2
  exact ⟨rfl, rfl⟩
theorem slotOf_ok (x : Int) (w : World) (h0 : 0 ≤ x) (h1 : x ≤ 18446744073709551615) (h : x % 4294967296 ≤ 2147483647) :
    Calls Tryz.prog 132 #[.int .u64 x] w fun e w' => e = .returned (.tuple #[.int .i64 (x % 4294967296 - 1), .bool true]) ∧ w' = w := by
  have e1 := and_low x h0 h1
  have h2 : 0 ≤ x % 4294967296 := by omega
  go_enter Tryz.func132, Tryz.ntmps132
  go_wp2
  go_ret2
  exact ⟨rfl, rfl⟩
theorem mark_bit (x : Int) : (x / 4294967296 % 2 * 4294967296 != 0) = (x / 4294967296 % 2 == 1) := by
  rw [Bool.eq_iff_iff]; simp; omega
theorem unlink_bad (x : Int) (w : World) (h0 : 0 ≤ x) (h1 : x ≤ 18446744073709551615) (h : 8589934592 ≤ x ∨ 2147483647 < x % 4294967296) :
    Calls Tryz.prog 125 #[.int .u64 x] w fun e w' => e = .returned (.tuple #[.int .i64 0, .bool false, .int .i64 10]) ∧ w' = w := by
  have e2 := andNot_link x h0 h1
  by_cases hb : 2147483647 < x % 4294967296
  · go_enter Tryz.func125, Tryz.ntmps125
    go_wp2_with (go_at_call 132; refine (slotOf_bad x _ h0 h1 hb).mono ?_; rintro e w' ⟨rfl, rfl⟩)
    go_ret3
    exact ⟨rfl, rfl⟩
  · have hb' : x % 4294967296 ≤ 2147483647 := by omega
    have e3 : (x / 8589934592 * 8589934592 != 0) = true := by simp; omega
    clear h hb
    go_enter Tryz.func125, Tryz.ntmps125
    go_wp2_with (go_at_call 132; refine (slotOf_ok x _ h0 h1 hb').mono ?_; rintro e w' ⟨rfl, rfl⟩)
    go_ret3
    exact ⟨rfl, rfl⟩
theorem unlink_ok (x : Int) (w : World) (h0 : 0 ≤ x) (h1 : x < 8589934592) (h : x % 4294967296 ≤ 2147483647) :
    Calls Tryz.prog 125 #[.int .u64 x] w fun e w' => e = .returned (.tuple #[.int .i64 (x % 4294967296 - 1), .bool (x / 4294967296 % 2 == 1), .int .i64 0]) ∧ w' = w := by
  have e2 := andNot_link x h0 (by omega)
  have e3 : (x / 8589934592 * 8589934592 != 0) = false := by simp; omega
  have e4 := and_mark x h0 (by omega)
  have e5 := mark_bit x
  have h1' : x ≤ 18446744073709551615 := by omega
  go_enter Tryz.func125, Tryz.ntmps125
  go_wp2_with (go_at_call 132; refine (slotOf_ok x _ h0 h1' h).mono ?_; rintro e w' ⟨rfl, rfl⟩)
  go_ret3
  exact ⟨rfl, rfl⟩
theorem head_bad (t i : Int) (w : World) (h : i < -1 ∨ 2147483646 < i) :
    Calls Tryz.prog 124 #[.int .u32 t, .int .i64 i] w fun e w' => e = .returned (.tuple #[.int .u64 0, .int .i64 2]) ∧ w' = w := by
  rcases h with h | h
  · go_enter Tryz.func124, Tryz.ntmps124
    go_wp2
    go_ret2
    exact ⟨rfl, rfl⟩
  · have hd : decide (i ≤ 2147483646) = false := by simp; omega
    go_enter Tryz.func124, Tryz.ntmps124
    go_wp2
    go_ret2
    exact ⟨rfl, rfl⟩
theorem head_ok (t i : Int) (w : World) (h1 : -1 ≤ i) (h2 : i ≤ 2147483646) (h3 : 0 ≤ t) (h4 : t ≤ 4294967295) :
    Calls Tryz.prog 124 #[.int .u32 t, .int .i64 i] w fun e w' => e = .returned (.tuple #[.int .u64 (packHead t i), .int .i64 0]) ∧ w' = w := by
  have e1 := or_head t (i + 1) h3 h4 (by omega) (by omega)
  go_enter Tryz.func124, Tryz.ntmps124
  go_wp2
  go_ret2
  exact ⟨by simp [packHead], rfl⟩
theorem unhead_bad (x : Int) (w : World) (h0 : 0 ≤ x) (h1 : x ≤ 18446744073709551615) (h : 2147483647 < x % 4294967296) :
    Calls Tryz.prog 122 #[.int .u64 x] w fun e w' => e = .returned (.tuple #[.int .u32 0, .int .i64 0, .int .i64 10]) ∧ w' = w := by
  go_enter Tryz.func122, Tryz.ntmps122
  go_wp2_with (go_at_call 132; refine (slotOf_bad x _ h0 h1 h).mono ?_; rintro e w' ⟨rfl, rfl⟩)
  go_ret3
  exact ⟨rfl, rfl⟩
theorem unhead_ok (x : Int) (w : World) (h0 : 0 ≤ x) (h1 : x ≤ 18446744073709551615) (h : x % 4294967296 ≤ 2147483647) :
    Calls Tryz.prog 122 #[.int .u64 x] w fun e w' => e = .returned (.tuple #[.int .u32 (x / 4294967296), .int .i64 (x % 4294967296 - 1), .int .i64 0]) ∧ w' = w := by
  go_enter Tryz.func122, Tryz.ntmps122
  go_wp2_with (go_at_call 132; refine (slotOf_ok x _ h0 h1 h).mono ?_; rintro e w' ⟨rfl, rfl⟩)
  go_ret3
  exact ⟨rfl, rfl⟩
end Go.Proofs.YtjpgjhjnneeliaaGreat.Wp
/-
  THE ARENA's words: firstOf, nextOf, headBehind, plainLink by their contracts.
-/
namespace Go.Proofs.YtjpgjhjnneeliaaGreat.Ar
open Go.RowKit Mr Wp
theorem firstOf_any (x : Int) (w : World) (h0 : 0 ≤ x) (h1 : x ≤ 18446744073709551615) :
    Calls Tryz.prog 111 #[.int .u64 x] w fun e w' => e = .returned (.int .i64 (firstOf x)) ∧ w' = w := by
  by_cases h : x % 4294967296 ≤ 2147483647
  · have e1 : firstOf x = x % 4294967296 - 1 := by unfold firstOf; rw [if_pos h]
    rw [e1]
    have C := unhead_ok x w h0 h1 h
    go_enter Tryz.func111, Tryz.ntmps111
    go_wp2_with (go_at_call 122; refine C.mono ?_; clear C; rintro e w' ⟨rfl, hw⟩; obtain rfl := hw.symm)
    go_ret
    exact ⟨rfl, rfl⟩
  · have e1 : firstOf x = -1 := by unfold firstOf; rw [if_neg h]
    rw [e1]
    have C := unhead_bad x w h0 h1 (by omega)
    go_enter Tryz.func111, Tryz.ntmps111
    go_wp2_with (go_at_call 122; refine C.mono ?_; clear C; rintro e w' ⟨rfl, hw⟩; obtain rfl := hw.symm)
    go_ret
    exact ⟨rfl, rfl⟩
theorem nextOf_any (x : Int) (w : World) (h0 : 0 ≤ x) (h1 : x ≤ 18446744073709551615) :
    Calls Tryz.prog 115 #[.int .u64 x] w fun e w' => e = .returned (.int .i64 (nextOf x)) ∧ w' = w := by
  by_cases h : x < 8589934592 ∧ x % 4294967296 ≤ 2147483647
  · have e1 : nextOf x = x % 4294967296 - 1 := by unfold nextOf; rw [if_pos h]
    rw [e1]
    have C := unlink_ok x w h0 h.1 h.2
    go_enter Tryz.func115, Tryz.ntmps115
    go_wp2_with (go_at_call 125; refine C.mono ?_; clear C; rintro e w' ⟨rfl, hw⟩; obtain rfl := hw.symm)
    go_ret
    exact ⟨rfl, rfl⟩
  · have e1 : nextOf x = -1 := by unfold nextOf; rw [if_neg h]
    rw [e1]
    have C := unlink_bad x w h0 h1 (by omega)
    go_enter Tryz.func115, Tryz.ntmps115
    go_wp2_with (go_at_call 125; refine C.mono ?_; clear C; rintro e w' ⟨rfl, hw⟩; obtain rfl := hw.symm)
    go_ret
    exact ⟨rfl, rfl⟩
theorem plainLink_any (s : Int) (w : World) (h0 : -1 ≤ s) (h1 : s ≤ 2147483646) :
    Calls Tryz.prog 141 #[.int .i64 s] w fun e w' => e = .returned (.int .u64 (s + 1)) ∧ w' = w := by
  have C := link_ok s false w h0 h1
  have e1 : packLink s false = s + 1 := by unfold packLink; simp
  rw [e1] at C
  go_enter Tryz.func141, Tryz.ntmps141
  go_wp2_with (go_at_call 143; refine C.mono ?_; clear C; rintro e w' ⟨rfl, hw⟩; obtain rfl := hw.symm)
  go_ret
  exact ⟨rfl, rfl⟩
theorem headBehind_any (x s : Int) (w : World) (h0 : 0 ≤ x) (h1 : x ≤ 18446744073709551615) (h : x % 4294967296 ≤ 2147483647) (s0 : -1 ≤ s) (s1 : s ≤ 2147483646) :
    Calls Tryz.prog 114 #[.int .u64 x, .int .i64 s] w fun e w' => e = .returned (.int .u64 (headBehind x s)) ∧ w' = w := by
  have e1 : headBehind x s = packHead (IntKind.u32.wrap (x / 4294967296 + 1)) s := by
    unfold headBehind tagOf packHead
    rw [if_pos ⟨s0, s1⟩, if_pos h]
    rw [IntKind.wrap_u32]
  rw [e1]
  have C := unhead_ok x w h0 h1 h
  have b : 0 ≤ IntKind.u32.wrap (x / 4294967296 + 1) ∧ IntKind.u32.wrap (x / 4294967296 + 1) ≤ 4294967295 := by rw [IntKind.wrap_u32]; omega
  have H := head_ok (IntKind.u32.wrap (x / 4294967296 + 1)) s w s0 s1 b.1 b.2
  clear e1 h h0 h1
  generalize packHead (IntKind.u32.wrap (x / 4294967296 + 1)) s = y at *
  go_enter Tryz.func114, Tryz.ntmps114
  go_wp2_with (first | (go_at_call 122; refine C.mono ?_; clear C; rintro e w' ⟨rfl, hw⟩; obtain rfl := hw.symm) | (go_at_call 124; refine H.mono ?_; clear H; rintro e w' ⟨rfl, hw⟩; obtain rfl := hw.symm))
  go_ret
  exact ⟨rfl, rfl⟩
end Go.Proofs.YtjpgjhjnneeliaaGreat.Ar
/-
  PLAIN: how the regions lie. No Go in sight.
-/
namespace Go.Proofs.YtjpgjhjnneeliaaGreat.Wm
/-- How many of a region's things (of buckets, records, slots). -/
def items (a1 a5 a6 : Int) (r : Int) : Int := if r = 7 then a6 else if r = 8 then a1 else if r = 9 then a1 else if 10 ≤ r ∧ r ≤ 13 then a5 else 1
/-- How many words for each. -/
def each (a2 : Int) (r : Int) : Int := if r = 9 then a2 else 1
def many (a1 a2 a5 a6 : Int) (r : Int) : Int := items a1 a5 a6 r * each a2 r
/-- Where region k begins. -/
def base (a1 a2 a5 a6 : Int) : Nat → Int
  | 0 => 0
  | 1 => 0
  | (k + 2) => base a1 a2 a5 a6 (k + 1) + many a1 a2 a5 a6 ((k + 1 : Nat) : Int)
theorem base_succ (a1 a2 a5 a6 : Int) (k : Nat) (h : 1 ≤ k) : base a1 a2 a5 a6 (k + 1) = base a1 a2 a5 a6 k + many a1 a2 a5 a6 (k : Int) := by
  obtain ⟨j, rfl⟩ : ∃ j, k = j + 1 := ⟨k - 1, by omega⟩
  rfl
/-- The bounds of a configuration that may be. -/
def Ok (a1 a2 a5 a6 : Int) : Prop := 1 ≤ a1 ∧ a1 ≤ 16 ∧ 3 ≤ a2 ∧ a2 ≤ 8 ∧ 1 ≤ a5 ∧ a5 ≤ 1024 ∧ 1 ≤ a6 ∧ a6 ≤ 64
theorem items_bd {a1 a2 a5 a6 : Int} (h : Ok a1 a2 a5 a6) (r : Int) : 1 ≤ items a1 a5 a6 r ∧ items a1 a5 a6 r ≤ 1024 := by
  obtain ⟨h1, h2, h3, h4, h5, h6, h7, h8⟩ := h
  unfold items; (repeat' split) <;> omega
theorem each_bd {a1 a2 a5 a6 : Int} (h : Ok a1 a2 a5 a6) (r : Int) : 1 ≤ each a2 r ∧ each a2 r ≤ 8 := by
  obtain ⟨h1, h2, h3, h4, h5, h6, h7, h8⟩ := h
  unfold each; split <;> omega
theorem many_bd {a1 a2 a5 a6 : Int} (h : Ok a1 a2 a5 a6) (r : Int) : 1 ≤ many a1 a2 a5 a6 r ∧ many a1 a2 a5 a6 r ≤ 1024 := by
  have hh := h
  obtain ⟨h1, h2, h3, h4, h5, h6, h7, h8⟩ := h
  unfold many
  by_cases e : r = 9
  · subst e
    simp only [items, each]
    simp only [show ¬ ((9 : Int) = 7) from by decide, show ¬ ((9 : Int) = 8) from by decide, if_true, if_false]
    constructor
    · have := Int.mul_le_mul h1 h3 (by omega) (by omega); omega
    · have := Int.mul_le_mul h2 h4 (by omega) (by omega); omega
  · have e1 : each a2 r = 1 := by unfold each; rw [if_neg e]
    rw [e1]; have := items_bd hh r; omega
theorem base_bd {a1 a2 a5 a6 : Int} (h : Ok a1 a2 a5 a6) : ∀ k : Nat, 0 ≤ base a1 a2 a5 a6 k ∧ base a1 a2 a5 a6 k ≤ 1024 * (k : Int)
  | 0 => by simp [base]
  | 1 => by simp [base]
  | (k + 2) => by
    have i := base_bd h (k + 1)
    have m := many_bd h ((k + 1 : Nat) : Int)
    simp only [base]; omega
theorem base_mono {a1 a2 a5 a6 : Int} (h : Ok a1 a2 a5 a6) (j k : Nat) (h1 : 1 ≤ j) (hjk : j < k) : base a1 a2 a5 a6 j + many a1 a2 a5 a6 (j : Int) ≤ base a1 a2 a5 a6 k := by
  induction k with
  | zero => omega
  | succ k ih =>
    rw [base_succ _ _ _ _ k (by omega)]
    by_cases e : j = k
    · subst e; omega
    · have := ih (by omega); have := many_bd h (k : Int); omega
end Go.Proofs.YtjpgjhjnneeliaaGreat.Wm
