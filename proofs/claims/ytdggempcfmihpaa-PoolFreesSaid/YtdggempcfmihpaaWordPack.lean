import Derived.Test.YtdggempcfmihpaaChecked
import Derived.Test.YtdggempcfmihpaaWordPlain
import Derived.WalkKit
import Derived.WalkSpells
import Derived.OpenShut
import Derived.Outline
/-
  CONTRACTS of the packing functions of package word and of the document's answers to them.
-/
namespace Go.Proofs.Ytdggempcfmihpaa.Wp
open Go.RowKit
set_option linter.unusedVariables false

theorem slotOf_bad (x : Int) (w : World) (h0 : 0 ≤ x) (h1 : x ≤ 18446744073709551615) (h : 2147483647 < x % 4294967296) :
    Calls Try.prog 60 #[.int .u64 x] w fun e w' => e = .returned (.tuple #[.int .i64 0, .bool false]) ∧ w' = w := by
  have e1 := and_low x h0 h1
  go_enter Try.func60, Try.ntmps60
  go_wp2
  go_ret2
  exact ⟨rfl, rfl⟩
theorem slotOf_ok (x : Int) (w : World) (h0 : 0 ≤ x) (h1 : x ≤ 18446744073709551615) (h : x % 4294967296 ≤ 2147483647) :
    Calls Try.prog 60 #[.int .u64 x] w fun e w' => e = .returned (.tuple #[.int .i64 (x % 4294967296 - 1), .bool true]) ∧ w' = w := by
  have e1 := and_low x h0 h1
  have h2 : 0 ≤ x % 4294967296 := by omega
  go_enter Try.func60, Try.ntmps60
  go_wp2
  go_ret2
  exact ⟨rfl, rfl⟩
theorem mark_bit (x : Int) : (x / 4294967296 % 2 * 4294967296 != 0) = (x / 4294967296 % 2 == 1) := by
  rw [Bool.eq_iff_iff]; simp; omega
theorem unlink_bad (x : Int) (w : World) (h0 : 0 ≤ x) (h1 : x ≤ 18446744073709551615) (h : 8589934592 ≤ x ∨ 2147483647 < x % 4294967296) :
    Calls Try.prog 64 #[.int .u64 x] w fun e w' => e = .returned (.tuple #[.int .i64 0, .bool false, .int .i64 10]) ∧ w' = w := by
  have e2 := andNot_link x h0 h1
  by_cases hb : 2147483647 < x % 4294967296
  · go_enter Try.func64, Try.ntmps64
    go_wp2_with (go_at_call 60; refine (slotOf_bad x _ h0 h1 hb).mono ?_; rintro e w' ⟨rfl, rfl⟩)
    go_ret3
    exact ⟨rfl, rfl⟩
  · have hb' : x % 4294967296 ≤ 2147483647 := by omega
    have e3 : (x / 8589934592 * 8589934592 != 0) = true := by simp; omega
    clear h hb
    go_enter Try.func64, Try.ntmps64
    go_wp2_with (go_at_call 60; refine (slotOf_ok x _ h0 h1 hb').mono ?_; rintro e w' ⟨rfl, rfl⟩)
    go_ret3
    exact ⟨rfl, rfl⟩
theorem unlink_ok (x : Int) (w : World) (h0 : 0 ≤ x) (h1 : x < 8589934592) (h : x % 4294967296 ≤ 2147483647) :
    Calls Try.prog 64 #[.int .u64 x] w fun e w' => e = .returned (.tuple #[.int .i64 (x % 4294967296 - 1), .bool (x / 4294967296 % 2 == 1), .int .i64 0]) ∧ w' = w := by
  have e2 := andNot_link x h0 (by omega)
  have e3 : (x / 8589934592 * 8589934592 != 0) = false := by simp; omega
  have e4 := and_mark x h0 (by omega)
  have e5 := mark_bit x
  have h1' : x ≤ 18446744073709551615 := by omega
  go_enter Try.func64, Try.ntmps64
  go_wp2_with (go_at_call 60; refine (slotOf_ok x _ h0 h1' h).mono ?_; rintro e w' ⟨rfl, rfl⟩)
  go_ret3
  exact ⟨rfl, rfl⟩
theorem unhead_bad (x : Int) (w : World) (h0 : 0 ≤ x) (h1 : x ≤ 18446744073709551615) (h : 2147483647 < x % 4294967296) :
    Calls Try.prog 34 #[.int .u64 x] w fun e w' => e = .returned (.tuple #[.int .u32 0, .int .i64 0, .int .i64 10]) ∧ w' = w := by
  go_enter Try.func34, Try.ntmps34
  go_wp2_with (go_at_call 60; refine (slotOf_bad x _ h0 h1 h).mono ?_; rintro e w' ⟨rfl, rfl⟩)
  go_ret3
  exact ⟨rfl, rfl⟩
theorem unhead_ok (x : Int) (w : World) (h0 : 0 ≤ x) (h1 : x ≤ 18446744073709551615) (h : x % 4294967296 ≤ 2147483647) :
    Calls Try.prog 34 #[.int .u64 x] w fun e w' => e = .returned (.tuple #[.int .u32 (x / 4294967296), .int .i64 (x % 4294967296 - 1), .int .i64 0]) ∧ w' = w := by
  go_enter Try.func34, Try.ntmps34
  go_wp2_with (go_at_call 60; refine (slotOf_ok x _ h0 h1 h).mono ?_; rintro e w' ⟨rfl, rfl⟩)
  go_ret3
  exact ⟨rfl, rfl⟩
end Go.Proofs.Ytdggempcfmihpaa.Wp
