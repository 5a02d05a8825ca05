/-
  CONTRACTS of Size, Addr and At.
-/
import Derived.Test.YtbbgobahhcfjjaaWordExt
import Derived.Test.YtbbgobahhcfjjaaWordCfg
import Derived.Deep.RegionHeld3
import Derived.RegionTactic
namespace Go.Proofs.Ytbbgobahhcfjjaa.Wm
open Go.RowKit
open Wc
set_option linter.unusedVariables false
theorem ok_of {a0 a1 a2 a3 a4 a5 a6 : Int} (h : cfgB a0 a1 a2 a3 a4 a5 a6 = true) : Ok a1 a2 a5 a6 := by
  simp only [cfgB, inB, Bool.and_eq_true, decide_eq_true_eq] at h
  unfold Ok; omega
theorem chk_t : chkN true = 0 := rfl
theorem chk_f : chkN false = 1 := rfl
theorem size_ok (a0 a1 a2 a3 a4 a5 a6 : Int) (w : World) (hc : cfgB a0 a1 a2 a3 a4 a5 a6 = true) :
    Calls Try.prog 14 #[.agg #[.int .i64 a0, .int .i64 a1, .int .i64 a2, .int .i64 a3, .int .i64 a4, .int .i64 a5, .int .i64 a6]] w fun e w' =>
      e = .returned (.tuple #[.int .i64 (base a1 a2 a5 a6 14), .int .i64 0]) ∧ Below w.heap.size w w' := by
  have hok := ok_of hc
  have k1 := chk_t
  go_enter Try.func14, Try.ntmps14
  go_wp2_with fail
  refine (check_any _ _ _ _ _ _ _ _).mono ?_
  rintro e w1 ⟨rfl, hb1⟩
  have B1 := Bx.boxSeq (Bx.box0 _ _) hb1
  clear hb1
  have q1 := Bx.boxCell B1
  go_wp2_with fail
  refine (start_i _ _ _ _ _ _ _ _ _ hok (by decide) (by decide)).mono ?_
  rintro e w2 ⟨rfl, hb2⟩
  have B2 := Bx.boxSeq B1 hb2
  clear hb2 q1 B1
  go_wp2_with fail
  go_ret2
  exact ⟨rfl, Bx.boxEnd B2⟩
theorem size_bad (a0 a1 a2 a3 a4 a5 a6 : Int) (w : World) (hc : cfgB a0 a1 a2 a3 a4 a5 a6 = false) :
    Calls Try.prog 14 #[.agg #[.int .i64 a0, .int .i64 a1, .int .i64 a2, .int .i64 a3, .int .i64 a4, .int .i64 a5, .int .i64 a6]] w fun e w' =>
      e = .returned (.tuple #[.int .i64 0, .int .i64 1]) ∧ Below w.heap.size w w' := by
  have k1 := chk_f
  go_enter Try.func14, Try.ntmps14
  go_wp2_with fail
  refine (check_any _ _ _ _ _ _ _ _).mono ?_
  rintro e w1 ⟨rfl, hb1⟩
  have B1 := Bx.boxSeq (Bx.box0 _ _) hb1
  clear hb1
  go_wp2_with fail
  go_ret2
  exact ⟨rfl, Bx.boxEnd B1⟩
set_option maxHeartbeats 1000000 in
theorem at_bad (a0 a1 a2 a3 a4 a5 a6 ad : Int) (w : World) (hc : cfgB a0 a1 a2 a3 a4 a5 a6 = false) :
    Calls Try.prog 15 #[.agg #[.int .i64 a0, .int .i64 a1, .int .i64 a2, .int .i64 a3, .int .i64 a4, .int .i64 a5, .int .i64 a6], .int .i64 ad] w fun e w' =>
      e = .returned (.tuple #[.agg #[.int .i64 0, .int .i64 0, .int .i64 0], .int .i64 1]) ∧ Below w.heap.size w w' := by
  have k1 := chk_f
  go_enter Try.func15, Try.ntmps15
  go_wp2_with fail
  refine (check_any _ _ _ _ _ _ _ _).mono ?_
  rintro e w1 ⟨rfl, hb1⟩
  have B1 := Bx.twoSeq (Bx.two0 _ _ _) hb1
  clear hb1
  have q1 := Bx.twoCellB B1
  have q2 := Bx.twoFrozenB B1
  have q3 := Bx.twoSize B1
  go_wp2_with fail
  refine bodyPost_ret (v := .tuple #[.agg #[.int .i64 0, .int .i64 0, .int .i64 0], .int .i64 1]) (by simp [results, Try.results15, go_sem, q1]) rfl ⟨rfl, ?_⟩
  exact (((Bx.twoEnd B1).setCell (by simp) _).setCell (by simp) _).setCell (by simp) _
set_option maxHeartbeats 1000000 in
theorem at_ok (a0 a1 a2 a3 a4 a5 a6 ad : Int) (j : Nat) (w : World) (hc : cfgB a0 a1 a2 a3 a4 a5 a6 = true) (h1 : 1 ≤ j) (h2 : j ≤ 13) (h3 : base a1 a2 a5 a6 j ≤ ad) (h4 : ad < base a1 a2 a5 a6 j + many a1 a2 a5 a6 (j : Int)) :
    Calls Try.prog 15 #[.agg #[.int .i64 a0, .int .i64 a1, .int .i64 a2, .int .i64 a3, .int .i64 a4, .int .i64 a5, .int .i64 a6], .int .i64 ad] w fun e w' =>
      e = .returned (.tuple #[.agg #[.int .i64 (j : Int), .int .i64 ((ad - base a1 a2 a5 a6 j) / each a2 (j : Int)), .int .i64 ((ad - base a1 a2 a5 a6 j) % each a2 (j : Int))], .int .i64 0]) ∧ Below w.heap.size w w' := by
  have hok := ok_of hc
  have k1 := chk_t
  have bj := base_bd hok j
  have mj := many_bd hok (j : Int)
  go_enter Try.func15, Try.ntmps15
  go_wp2_with fail
  refine (check_any _ _ _ _ _ _ _ _).mono ?_
  rintro e w1 ⟨rfl, hb1⟩
  have B1 := Bx.twoSeq (Bx.two0 _ _ _) hb1
  clear hb1
  have hd0 : ¬ ad < 0 := by omega
  go_wp2_with fail
  go_loopw [7, 8] (fun t i w' => ∃ k : Nat, 1 ≤ k ∧ k ≤ j ∧ i = .int .i64 (k : Int) ∧ t = .int .i64 (ad - base a1 a2 a5 a6 k) ∧ Below (w.heap.size + 2) ((w.alloc (.cells #[.int .i64 a0, .int .i64 a1, .int .i64 a2, .int .i64 a3, .int .i64 a4, .int .i64 a5, .int .i64 a6] 27)).alloc (.cells #[.int .i64 0, .int .i64 0, .int .i64 0] 36)) w') (fun _ i _ => j - (intOf i).toNat)
  case atStart => exact ⟨1, by omega, h1, rfl, by simp [base], B1⟩
  case round =>
    obtain ⟨k, j1, j2, rfl, rfl, B⟩ := hrel
    have q := Bx.twoCellA B
    have bb := base_bd hok k
    have mb := many_bd hok (k : Int)
    have bs : Hid (base a1 a2 a5 a6 (k + 1) = base a1 a2 a5 a6 k + items a1 a5 a6 (k : Int) * each a2 (k : Int)) := base_succ a1 a2 a5 a6 k j1
    have ib := items_bd hok (k : Int)
    have eb := each_bd hok (k : Int)
    by_cases hlt : k < j
    · have hm := base_mono hok k j j1 hlt
      unfold many at mb hm
      go_wp2_with fail
      refine (extent_any _ _ _ _ _ _ _ _ _).mono ?_
      rintro e w2 ⟨rfl, hb2⟩
      have B2 := Bx.twoSeq B hb2
      clear hb2 q B B1
      go_wp2_with fail
      exact ⟨⟨k + 1, by omega, by omega, by go_num, by rw [bs.out]; congr 1; omega, B2⟩, by simp [intOf]; omega⟩
    · have : k = j := by omega
      subst this
      unfold many at mb h4
      go_wp2_with fail
      refine (extent_any _ _ _ _ _ _ _ _ _).mono ?_
      rintro e w2 ⟨rfl, hb2⟩
      have B2 := Bx.twoSeq B hb2
      clear hb2 q B B1
      have q1 := Bx.twoCellB B2
      have q2 := Bx.twoFrozenB B2
      have q3 := Bx.twoSize B2
      have e0 : each a2 (k : Int) ≠ 0 := by omega
      go_wp2_with fail
      go_region
      go_wp2_with fail
      refine bodyPost_ret (v := .tuple #[.agg #[.int .i64 (k : Int), .int .i64 ((ad - base a1 a2 a5 a6 k) / each a2 (k : Int)), .int .i64 ((ad - base a1 a2 a5 a6 k) % each a2 (k : Int))], .int .i64 0]) (by simp [results, Try.results15, go_sem, q1]) rfl ⟨rfl, ?_⟩
      exact ((((Bx.twoEnd B2).setCell (by simp) _).setCell (by simp) _).setCell (by simp) _).drew
set_option maxHeartbeats 1000000 in
theorem at_lo (a0 a1 a2 a3 a4 a5 a6 ad : Int) (w : World) (hc : cfgB a0 a1 a2 a3 a4 a5 a6 = true) (h : ad < 0) :
    Calls Try.prog 15 #[.agg #[.int .i64 a0, .int .i64 a1, .int .i64 a2, .int .i64 a3, .int .i64 a4, .int .i64 a5, .int .i64 a6], .int .i64 ad] w fun e w' =>
      e = .returned (.tuple #[.agg #[.int .i64 0, .int .i64 0, .int .i64 0], .int .i64 2]) ∧ Below w.heap.size w w' := by
  have k1 := chk_t
  go_enter Try.func15, Try.ntmps15
  go_wp2_with fail
  refine (check_any _ _ _ _ _ _ _ _).mono ?_
  rintro e w1 ⟨rfl, hb1⟩
  have B1 := Bx.twoSeq (Bx.two0 _ _ _) hb1
  clear hb1
  have q1 := Bx.twoCellB B1
  have q2 := Bx.twoFrozenB B1
  have q3 := Bx.twoSize B1
  go_wp2_with fail
  refine bodyPost_ret (v := .tuple #[.agg #[.int .i64 0, .int .i64 0, .int .i64 0], .int .i64 2]) (by simp [results, Try.results15, go_sem, q1]) rfl ⟨rfl, ?_⟩
  exact (((Bx.twoEnd B1).setCell (by simp) _).setCell (by simp) _).setCell (by simp) _
set_option maxHeartbeats 1000000 in
theorem at_hi (a0 a1 a2 a3 a4 a5 a6 ad : Int) (w : World) (hc : cfgB a0 a1 a2 a3 a4 a5 a6 = true) (h : base a1 a2 a5 a6 14 ≤ ad) (hmx : ad ≤ 9223372036854775807) :
    Calls Try.prog 15 #[.agg #[.int .i64 a0, .int .i64 a1, .int .i64 a2, .int .i64 a3, .int .i64 a4, .int .i64 a5, .int .i64 a6], .int .i64 ad] w fun e w' =>
      e = .returned (.tuple #[.agg #[.int .i64 0, .int .i64 0, .int .i64 0], .int .i64 2]) ∧ Below w.heap.size w w' := by
  have hok := ok_of hc
  have k1 := chk_t
  have bj := base_bd hok 14
  go_enter Try.func15, Try.ntmps15
  go_wp2_with fail
  refine (check_any _ _ _ _ _ _ _ _).mono ?_
  rintro e w1 ⟨rfl, hb1⟩
  have B1 := Bx.twoSeq (Bx.two0 _ _ _) hb1
  clear hb1
  have hd0 : ¬ ad < 0 := by omega
  go_wp2_with fail
  go_loopw [7, 8] (fun t i w' => ∃ k : Nat, 1 ≤ k ∧ k ≤ 14 ∧ i = .int .i64 (k : Int) ∧ t = .int .i64 (ad - base a1 a2 a5 a6 k) ∧ Below (w.heap.size + 2) ((w.alloc (.cells #[.int .i64 a0, .int .i64 a1, .int .i64 a2, .int .i64 a3, .int .i64 a4, .int .i64 a5, .int .i64 a6] 27)).alloc (.cells #[.int .i64 0, .int .i64 0, .int .i64 0] 36)) w') (fun _ i _ => 14 - (intOf i).toNat)
  case atStart => exact ⟨1, by omega, by omega, rfl, by simp [base], B1⟩
  case round =>
    obtain ⟨k, j1, j2, rfl, rfl, B⟩ := hrel
    have q := Bx.twoCellA B
    have bb := base_bd hok k
    have mb := many_bd hok (k : Int)
    have bs : Hid (base a1 a2 a5 a6 (k + 1) = base a1 a2 a5 a6 k + items a1 a5 a6 (k : Int) * each a2 (k : Int)) := base_succ a1 a2 a5 a6 k j1
    have ib := items_bd hok (k : Int)
    have eb := each_bd hok (k : Int)
    by_cases hlt : k < 14
    · have hm := base_mono hok k 14 j1 hlt
      unfold many at mb hm
      go_wp2_with fail
      refine (extent_any _ _ _ _ _ _ _ _ _).mono ?_
      rintro e w2 ⟨rfl, hb2⟩
      have B2 := Bx.twoSeq B hb2
      clear hb2 q B B1
      go_wp2_with fail
      exact ⟨⟨k + 1, by omega, by omega, by go_num, by rw [bs.out]; congr 1; omega, B2⟩, by simp [intOf]; omega⟩
    · have q1 := Bx.twoCellB B
      have q2 := Bx.twoFrozenB B
      have q3 := Bx.twoSize B
      go_wp2_with fail
      refine bodyPost_ret (v := .tuple #[.agg #[.int .i64 0, .int .i64 0, .int .i64 0], .int .i64 2]) (by simp [results, Try.results15, go_sem, q1]) rfl ⟨rfl, ?_⟩
      exact (((Bx.twoEnd B).setCell (by simp) _).setCell (by simp) _).setCell (by simp) _
end Go.Proofs.Ytbbgobahhcfjjaa.Wm
