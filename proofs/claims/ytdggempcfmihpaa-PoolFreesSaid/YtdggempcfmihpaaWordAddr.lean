import Derived.Test.YtdggempcfmihpaaWordExt
import Derived.Test.YtdggempcfmihpaaWordCfg
import Derived.Deep.RegionHeld3
import Derived.RegionTactic
/-
  CONTRACTS of Size, Addr and At.
-/
namespace Go.Proofs.Ytdggempcfmihpaa.Wm
open Go.RowKit
open Wc
set_option linter.unusedVariables false
theorem ok_of {a0 a1 a2 a3 a4 a5 a6 : Int} (h : cfgB a0 a1 a2 a3 a4 a5 a6 = true) : Ok a1 a2 a5 a6 := by
  simp only [cfgB, inB, Bool.and_eq_true, decide_eq_true_eq] at h
  unfold Ok; omega
theorem chk_t : chkN true = 0 := rfl
theorem chk_f : chkN false = 1 := rfl
theorem size_ok (a0 a1 a2 a3 a4 a5 a6 : Int) (w : World) (hc : cfgB a0 a1 a2 a3 a4 a5 a6 = true) :
    Calls Try.prog 33 #[.agg #[.int .i64 a0, .int .i64 a1, .int .i64 a2, .int .i64 a3, .int .i64 a4, .int .i64 a5, .int .i64 a6]] w fun e w' =>
      e = .returned (.tuple #[.int .i64 (base a1 a2 a5 a6 14), .int .i64 0]) ∧ Below w.heap.size w w' := by
  have hok := ok_of hc
  have k1 := chk_t
  go_enter Try.func33, Try.ntmps33
  go_wp2_with fail
  refine (check_any _ _ _ _ _ _ _ _).mono ?_
  rintro e w1 ⟨rfl, hb1⟩
  have B1 := Bx.boxSeq (Bx.box0 _ _) hb1
  clear hb1
  have q1 := Bx.boxCell B1
  go_wp2_with fail
  refine (start_i _ _ _ _ _ _ _ _ _ hok (by decide) (by decide)).mono ?_
  rintro e w2 ⟨rfl, hb2⟩
  have B2 := Bx.boxSeq B1 hb2
  clear hb2 q1 B1
  go_wp2_with fail
  go_ret2
  exact ⟨rfl, Bx.boxEnd B2⟩
theorem size_bad (a0 a1 a2 a3 a4 a5 a6 : Int) (w : World) (hc : cfgB a0 a1 a2 a3 a4 a5 a6 = false) :
    Calls Try.prog 33 #[.agg #[.int .i64 a0, .int .i64 a1, .int .i64 a2, .int .i64 a3, .int .i64 a4, .int .i64 a5, .int .i64 a6]] w fun e w' =>
      e = .returned (.tuple #[.int .i64 0, .int .i64 1]) ∧ Below w.heap.size w w' := by
  have k1 := chk_f
  go_enter Try.func33, Try.ntmps33
  go_wp2_with fail
  refine (check_any _ _ _ _ _ _ _ _).mono ?_
  rintro e w1 ⟨rfl, hb1⟩
  have B1 := Bx.boxSeq (Bx.box0 _ _) hb1
  clear hb1
  go_wp2_with fail
  go_ret2
  exact ⟨rfl, Bx.boxEnd B1⟩
end Go.Proofs.Ytdggempcfmihpaa.Wm
