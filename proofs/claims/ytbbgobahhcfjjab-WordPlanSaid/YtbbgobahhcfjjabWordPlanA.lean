/-
  THE LAW WordPlan.
-/
import Derived.Test.YtbbgobahhcfjjabWordRefC
import Derived.Test.YtbbgobahhcfjjabWordCfgRef
import Derived.Test.YtbbgobahhcfjjabWordBox2
import Derived.WalkLawsBesides
namespace Go.Proofs.Ytbbgobahhcfjjab.Wm
open Go.RowKit
open Wc
set_option linter.unusedVariables false
theorem addrW_dich (a1 a2 a5 a6 r i k : Int) (hok : Ok a1 a2 a5 a6) : addrW a1 a2 a5 a6 r i k = -1 ∨ (0 ≤ addrW a1 a2 a5 a6 r i k ∧ 1 ≤ r ∧ r ≤ 13 ∧ inB i 0 (items a1 a5 a6 r - 1) = true ∧ inB k 0 (each a2 r - 1) = true) := by
  unfold addrW
  split
  · rename_i h
    right
    have bb := base_bd hok r.toNat
    have eb := each_bd hok r
    have h3 := inB_iff h.2.2.1
    have h4 := inB_iff h.2.2.2
    have m1 : 0 ≤ i * each a2 r := Int.mul_nonneg h3.1 (by omega)
    exact ⟨by omega, h⟩
  · left; rfl
theorem addr_no (a0 a1 a2 a3 a4 a5 a6 r i k : Int) (w : World) (hc : cfgB a0 a1 a2 a3 a4 a5 a6 = true) (h : addrW a1 a2 a5 a6 r i k = -1) :
    Calls Try.prog 11 #[.agg #[.int .i64 a0, .int .i64 a1, .int .i64 a2, .int .i64 a3, .int .i64 a4, .int .i64 a5, .int .i64 a6], .agg #[.int .i64 r, .int .i64 i, .int .i64 k]] w fun e w' =>
      e = .returned (.tuple #[.int .i64 0, .int .i64 2]) ∧ Below w.heap.size w w' := by
  have hok := ok_of hc
  by_cases c : r < 1 ∨ 13 < r
  · exact addr_reg _ _ _ _ _ _ _ _ _ _ w hc c
  have bb := base_bd hok r.toNat
  have eb := each_bd hok r
  cases c3 : inB i 0 (items a1 a5 a6 r - 1)
  · exact addr_out _ _ _ _ _ _ _ _ _ _ w hc (by omega) (by omega) (.inl c3)
  cases c4 : inB k 0 (each a2 r - 1)
  · exact addr_out _ _ _ _ _ _ _ _ _ _ w hc (by omega) (by omega) (.inr ⟨c3, c4⟩)
  exfalso
  rw [addrW_yes (by omega) (by omega) c3 c4] at h
  have h3 := inB_iff c3
  have h4 := inB_iff c4
  have m1 : 0 ≤ i * each a2 r := Int.mul_nonneg h3.1 (by omega)
  omega
theorem addr_yes (a0 a1 a2 a3 a4 a5 a6 r i k : Int) (w : World) (hc : cfgB a0 a1 a2 a3 a4 a5 a6 = true) (h1 : 1 ≤ r) (h2 : r ≤ 13) (h3 : inB i 0 (items a1 a5 a6 r - 1) = true) (h4 : inB k 0 (each a2 r - 1) = true) :
    Calls Try.prog 11 #[.agg #[.int .i64 a0, .int .i64 a1, .int .i64 a2, .int .i64 a3, .int .i64 a4, .int .i64 a5, .int .i64 a6], .agg #[.int .i64 r, .int .i64 i, .int .i64 k]] w fun e w' =>
      e = .returned (.tuple #[.int .i64 (addrW a1 a2 a5 a6 r i k), .int .i64 0]) ∧ Below w.heap.size w w' := by
  rw [addrW_yes h1 h2 h3 h4]
  exact addr_ok _ _ _ _ _ _ _ _ _ _ w hc h1 h2 h3 h4
theorem b32 : base 2 3 4 2 14 = 32 := by decide
theorem c_small : cfgB 2 2 3 1 0 4 2 = true := by decide
theorem find_at {a1 a2 a5 a6 : Int} (hok : Ok a1 a2 a5 a6) (ad : Int) (h0 : 0 ≤ ad) : ∀ n : Nat, 1 ≤ n → ad < base a1 a2 a5 a6 n → ∃ j : Nat, 1 ≤ j ∧ j < n ∧ base a1 a2 a5 a6 j ≤ ad ∧ ad < base a1 a2 a5 a6 j + many a1 a2 a5 a6 (j : Int)
  | 0, h, _ => by omega
  | 1, _, h => by simp [base] at h; omega
  | (n + 2), _, h => by
    by_cases c : ad < base a1 a2 a5 a6 (n + 1)
    · obtain ⟨j, h1, h2, h3, h4⟩ := find_at hok ad h0 (n + 1) (by omega) c
      exact ⟨j, h1, by omega, h3, h4⟩
    · exact ⟨n + 1, by omega, by omega, by omega, by simpa [base] using h⟩
set_option maxHeartbeats 2000000 in
theorem plan_bad (a0 a1 a2 a3 a4 a5 a6 r i k ad : Int) (w : World) (hc : cfgB a0 a1 a2 a3 a4 a5 a6 = false) :
    Calls Try.prog 4 #[.agg #[.int .i64 a0, .int .i64 a1, .int .i64 a2, .int .i64 a3, .int .i64 a4, .int .i64 a5, .int .i64 a6], .agg #[.int .i64 r, .int .i64 i, .int .i64 k], .int .i64 ad] w fun e w' =>
      e = .returned (.bool true) ∧ Below w.heap.size w w' := by
  have b3 := b32
  go_enter Try.func4, Try.ntmps4
  go_wp2_with fail
  refine (small_any _).mono ?_
  rintro e w1 ⟨rfl, hb⟩
  have B := Bx.twoSeq (Bx.two0 _ _ _) hb
  clear hb
  go_wp2_with fail
  refine (size_ok _ _ _ _ _ _ _ _ c_small).mono ?_
  rintro e w2 ⟨rfl, hb⟩
  replace B := Bx.twoSeq B hb
  clear hb
  have qa := Bx.twoCellA B
  go_wp2_with fail
  refine (size_bad _ _ _ _ _ _ _ _ hc).mono ?_
  rintro e w3 ⟨rfl, hb⟩
  replace B := Bx.twoSeq B hb
  clear hb qa
  have qa := Bx.twoCellA B
  have qb := Bx.twoCellB B
  go_wp2_with fail
  refine (addr_cfg _ _ _ _ _ _ _ _ _ _ _ hc).mono ?_
  rintro e w4 ⟨rfl, hb⟩
  replace B := Bx.twoSeq B hb
  clear hb qa qb
  have qa := Bx.twoCellA B
  go_wp2_with fail
  refine (at_bad _ _ _ _ _ _ _ _ _ hc).mono ?_
  rintro e w5 ⟨rfl, hb⟩
  replace B := Bx.twoSeq B hb
  clear hb qa
  have qa := Bx.twoAllocA B
  go_wp2_with fail
  refine (refConfig _ _ _ _ _ _ _ _).mono ?_
  rintro e w6 ⟨rfl, hb⟩
  have D := Bx.boxSeq (Bx.box0 _ _) hb
  have B6 := Bx.twoThru B D
  clear hb qa
  have qd := Bx.boxCell D
  go_wp2_with fail
  go_ret
  exact ⟨rfl, Bx.twoEnd B6⟩
end Go.Proofs.Ytbbgobahhcfjjab.Wm
