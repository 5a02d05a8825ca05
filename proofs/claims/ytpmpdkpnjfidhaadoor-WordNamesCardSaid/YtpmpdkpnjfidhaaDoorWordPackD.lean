/-
  CONTRACTS of the packing functions of package word and of the document's answers to them.
-/
import Derived.Test.YtpmpdkpnjfidhaaDoorChecked
import Derived.Test.YtpmpdkpnjfidhaaDoorWordPlain
import Derived.WalkKit
import Derived.WalkSpells
import Derived.OpenShut
import Derived.Outline
namespace Go.Proofs.YtpmpdkpnjfidhaaDoor.Wp
open Go.RowKit
set_option linter.unusedVariables false

theorem link_bad (i : Int) (m : Bool) (w : World) (h : i < -1 ∨ 2147483646 < i) :
    Calls Tryd.prog 11 #[.int .i64 i, .bool m] w fun e w' => e = .returned (.tuple #[.int .u64 0, .int .i64 2]) ∧ w' = w := by
  rcases h with h | h
  · go_enter Tryd.func11, Tryd.ntmps11
    go_wp2
    go_ret2
    exact ⟨rfl, rfl⟩
  · have hd : decide (i ≤ 2147483646) = false := by simp; omega
    go_enter Tryd.func11, Tryd.ntmps11
    go_wp2
    go_ret2
    exact ⟨rfl, rfl⟩
theorem link_ok (i : Int) (m : Bool) (w : World) (h1 : -1 ≤ i) (h2 : i ≤ 2147483646) :
    Calls Tryd.prog 11 #[.int .i64 i, .bool m] w fun e w' => e = .returned (.tuple #[.int .u64 (packLink i m), .int .i64 0]) ∧ w' = w := by
  have e1 := or_mark (i + 1) (by omega) (by omega)
  cases m
  · go_enter Tryd.func11, Tryd.ntmps11
    go_wp2
    go_ret2
    exact ⟨by simp [packLink], rfl⟩
  · go_enter Tryd.func11, Tryd.ntmps11
    go_wp2
    go_ret2
    exact ⟨by simp [packLink], rfl⟩
theorem slotOf_bad (x : Int) (w : World) (h0 : 0 ≤ x) (h1 : x ≤ 18446744073709551615) (h : 2147483647 < x % 4294967296) :
    Calls Tryd.prog 32 #[.int .u64 x] w fun e w' => e = .returned (.tuple #[.int .i64 0, .bool false]) ∧ w' = w := by
  have e1 := and_low x h0 h1
  go_enter Tryd.func32, Tryd.ntmps32
  go_wp2
  go_ret2
  exact ⟨rfl, rfl⟩
theorem slotOf_ok (x : Int) (w : World) (h0 : 0 ≤ x) (h1 : x ≤ 18446744073709551615) (h : x % 4294967296 ≤ 2147483647) :
    Calls Tryd.prog 32 #[.int .u64 x] w fun e w' => e = .returned (.tuple #[.int .i64 (x % 4294967296 - 1), .bool true]) ∧ w' = w := by
  have e1 := and_low x h0 h1
  have h2 : 0 ≤ x % 4294967296 := by omega
  go_enter Tryd.func32, Tryd.ntmps32
  go_wp2
  go_ret2
  exact ⟨rfl, rfl⟩
theorem mark_bit (x : Int) : (x / 4294967296 % 2 * 4294967296 != 0) = (x / 4294967296 % 2 == 1) := by
  rw [Bool.eq_iff_iff]; simp; omega
theorem unlink_bad (x : Int) (w : World) (h0 : 0 ≤ x) (h1 : x ≤ 18446744073709551615) (h : 8589934592 ≤ x ∨ 2147483647 < x % 4294967296) :
    Calls Tryd.prog 12 #[.int .u64 x] w fun e w' => e = .returned (.tuple #[.int .i64 0, .bool false, .int .i64 10]) ∧ w' = w := by
  have e2 := andNot_link x h0 h1
  by_cases hb : 2147483647 < x % 4294967296
  · go_enter Tryd.func12, Tryd.ntmps12
    go_wp2_with (go_at_call 32; refine (slotOf_bad x _ h0 h1 hb).mono ?_; rintro e w' ⟨rfl, rfl⟩)
    go_ret3
    exact ⟨rfl, rfl⟩
  · have hb' : x % 4294967296 ≤ 2147483647 := by omega
    have e3 : (x / 8589934592 * 8589934592 != 0) = true := by simp; omega
    clear h hb
    go_enter Tryd.func12, Tryd.ntmps12
    go_wp2_with (go_at_call 32; refine (slotOf_ok x _ h0 h1 hb').mono ?_; rintro e w' ⟨rfl, rfl⟩)
    go_ret3
    exact ⟨rfl, rfl⟩
theorem unlink_ok (x : Int) (w : World) (h0 : 0 ≤ x) (h1 : x < 8589934592) (h : x % 4294967296 ≤ 2147483647) :
    Calls Tryd.prog 12 #[.int .u64 x] w fun e w' => e = .returned (.tuple #[.int .i64 (x % 4294967296 - 1), .bool (x / 4294967296 % 2 == 1), .int .i64 0]) ∧ w' = w := by
  have e2 := andNot_link x h0 (by omega)
  have e3 : (x / 8589934592 * 8589934592 != 0) = false := by simp; omega
  have e4 := and_mark x h0 (by omega)
  have e5 := mark_bit x
  have h1' : x ≤ 18446744073709551615 := by omega
  go_enter Tryd.func12, Tryd.ntmps12
  go_wp2_with (go_at_call 32; refine (slotOf_ok x _ h0 h1' h).mono ?_; rintro e w' ⟨rfl, rfl⟩)
  go_ret3
  exact ⟨rfl, rfl⟩
theorem head_bad (t i : Int) (w : World) (h : i < -1 ∨ 2147483646 < i) :
    Calls Tryd.prog 13 #[.int .u32 t, .int .i64 i] w fun e w' => e = .returned (.tuple #[.int .u64 0, .int .i64 2]) ∧ w' = w := by
  rcases h with h | h
  · go_enter Tryd.func13, Tryd.ntmps13
    go_wp2
    go_ret2
    exact ⟨rfl, rfl⟩
  · have hd : decide (i ≤ 2147483646) = false := by simp; omega
    go_enter Tryd.func13, Tryd.ntmps13
    go_wp2
    go_ret2
    exact ⟨rfl, rfl⟩
theorem head_ok (t i : Int) (w : World) (h1 : -1 ≤ i) (h2 : i ≤ 2147483646) (h3 : 0 ≤ t) (h4 : t ≤ 4294967295) :
    Calls Tryd.prog 13 #[.int .u32 t, .int .i64 i] w fun e w' => e = .returned (.tuple #[.int .u64 (packHead t i), .int .i64 0]) ∧ w' = w := by
  have e1 := or_head t (i + 1) h3 h4 (by omega) (by omega)
  go_enter Tryd.func13, Tryd.ntmps13
  go_wp2
  go_ret2
  exact ⟨by simp [packHead], rfl⟩
theorem unhead_bad (x : Int) (w : World) (h0 : 0 ≤ x) (h1 : x ≤ 18446744073709551615) (h : 2147483647 < x % 4294967296) :
    Calls Tryd.prog 14 #[.int .u64 x] w fun e w' => e = .returned (.tuple #[.int .u32 0, .int .i64 0, .int .i64 10]) ∧ w' = w := by
  go_enter Tryd.func14, Tryd.ntmps14
  go_wp2_with (go_at_call 32; refine (slotOf_bad x _ h0 h1 h).mono ?_; rintro e w' ⟨rfl, rfl⟩)
  go_ret3
  exact ⟨rfl, rfl⟩
theorem unhead_ok (x : Int) (w : World) (h0 : 0 ≤ x) (h1 : x ≤ 18446744073709551615) (h : x % 4294967296 ≤ 2147483647) :
    Calls Tryd.prog 14 #[.int .u64 x] w fun e w' => e = .returned (.tuple #[.int .u32 (x / 4294967296), .int .i64 (x % 4294967296 - 1), .int .i64 0]) ∧ w' = w := by
  go_enter Tryd.func14, Tryd.ntmps14
  go_wp2_with (go_at_call 32; refine (slotOf_ok x _ h0 h1 h).mono ?_; rintro e w' ⟨rfl, rfl⟩)
  go_ret3
  exact ⟨rfl, rfl⟩
theorem awake_any (w : World) :
    Calls Tryd.prog 17 #[] w fun e w' => e = .returned (.bool true) ∧ w' = w := by
  have p1 : packLink 7 true = 4294967304 := by decide
  have p2 : packHead 3 7 = 12884901896 := by decide
  go_enter Tryd.func17, Tryd.ntmps17
  go_wp2_with (first
    | (go_at_call 11; refine (link_ok 7 true _ (by decide) (by decide)).mono ?_; rintro e w' ⟨rfl, rfl⟩)
    | (go_at_call 13; refine (head_ok 3 7 _ (by decide) (by decide) (by decide) (by decide)).mono ?_; rintro e w' ⟨rfl, rfl⟩))
  go_ret
  exact ⟨rfl, rfl⟩
end Go.Proofs.YtpmpdkpnjfidhaaDoor.Wp
