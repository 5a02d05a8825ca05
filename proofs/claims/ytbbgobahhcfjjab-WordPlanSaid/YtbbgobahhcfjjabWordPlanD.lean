import Derived.Test.YtbbgobahhcfjjabWordPlanA
namespace Go.Proofs.Ytbbgobahhcfjjab.Wm
open Go.RowKit
open Wc
set_option linter.unusedVariables false
set_option maxHeartbeats 2000000 in
theorem plan_no_ok (a0 a1 a2 a3 a4 a5 a6 r i k ad : Int) (w : World) (hc : cfgB a0 a1 a2 a3 a4 a5 a6 = true) (hw : addrW a1 a2 a5 a6 r i k = -1) (j : Nat) (j1 : 1 ≤ j) (j2 : j ≤ 13) (j3 : base a1 a2 a5 a6 j ≤ ad) (j4 : ad < base a1 a2 a5 a6 j + many a1 a2 a5 a6 (j : Int)) (j5 : ad < base a1 a2 a5 a6 14) :
    Calls Try.prog 4 #[.agg #[.int .i64 a0, .int .i64 a1, .int .i64 a2, .int .i64 a3, .int .i64 a4, .int .i64 a5, .int .i64 a6], .agg #[.int .i64 r, .int .i64 i, .int .i64 k], .int .i64 ad] w fun e w' =>
      e = .returned (.bool true) ∧ Below w.heap.size w w' := by
  have hok := ok_of hc
  have b3 := b32
  have ha0 : 0 ≤ ad := by have := base_bd hok j; omega
  have hn1 : decide (ad < 0) = false := by simpa using ha0
  have hn2 : decide (base a1 a2 a5 a6 14 ≤ ad) = false := by simpa using j5
  go_enter Try.func4, Try.ntmps4
  go_wp2_with fail
  refine (small_any _).mono ?_
  rintro e w1 ⟨rfl, hb⟩
  have B := Bx.twoSeq (Bx.two0 _ _ _) hb
  clear hb
  go_wp2_with fail
  refine (size_ok _ _ _ _ _ _ _ _ c_small).mono ?_
  rintro e w2 ⟨rfl, hb⟩
  replace B := Bx.twoSeq B hb
  clear hb
  have qa := Bx.twoCellA B
  go_wp2_with fail
  refine (size_ok _ _ _ _ _ _ _ _ hc).mono ?_
  rintro e w3 ⟨rfl, hb⟩
  replace B := Bx.twoSeq B hb
  clear hb qa
  have qa := Bx.twoCellA B
  have qb := Bx.twoCellB B
  go_wp2_with fail
  refine (addr_no _ _ _ _ _ _ _ _ _ _ _ hc hw).mono ?_
  rintro e w4 ⟨rfl, hb⟩
  replace B := Bx.twoSeq B hb
  clear hb qa qb
  have qa := Bx.twoCellA B
  go_wp2_with fail
  refine (at_ok _ _ _ _ _ _ _ _ j _ hc j1 j2 j3 j4).mono ?_
  rintro e w5 ⟨rfl, hb⟩
  replace B := Bx.twoSeq B hb
  clear hb qa
  have qa := Bx.twoAllocA B
  go_wp2_with fail
  refine (refConfig _ _ _ _ _ _ _ _).mono ?_
  rintro e w6 ⟨rfl, hb⟩
  have D := Bx.boxSeq (Bx.box0 _ _) hb
  have B6 := Bx.twoThru B D
  clear hb qa
  have qa := Bx.twoCellA B6
  go_wp2_with fail
  refine (refSize _ _ _ _ _ _ _ _ hok).mono ?_
  rintro e w7 ⟨rfl, hb⟩
  replace D := Bx.boxSeq D hb
  replace B6 := Bx.twoSeq B6 hb
  clear hb qa
  have qa := Bx.twoCellA B6
  have qb := Bx.twoCellB B6
  go_wp2_with fail
  refine (refAddr _ _ _ _ _ _ _ _ _ _ _ hok).mono ?_
  rintro e w8 ⟨rfl, hb⟩
  replace D := Bx.boxSeq D hb
  replace B6 := Bx.twoSeq B6 hb
  clear hb qa qb
  have qa := Bx.twoCellA B6
  have qd := Bx.boxCell D
  go_wp2_with fail
  refine (refSize _ _ _ _ _ _ _ _ hok).mono ?_
  rintro e w9 ⟨rfl, hb⟩
  replace D := Bx.boxSeq D hb
  replace B6 := Bx.twoSeq B6 hb
  clear hb qa qd
  have qa := Bx.twoCellA B6
  have qd := Bx.boxCell D
  go_wp2_with fail
  go_region_held3 (fun W => W.cell? ⟨w.heap.size, 0, none⟩ = some (.int .i64 a0) ∧ W.cell? ⟨w.heap.size, 1, none⟩ = some (.int .i64 a1) ∧ W.cell? ⟨w.heap.size, 2, none⟩ = some (.int .i64 a2) ∧ W.cell? ⟨w.heap.size, 3, none⟩ = some (.int .i64 a3) ∧ W.cell? ⟨w.heap.size, 4, none⟩ = some (.int .i64 a4) ∧ W.cell? ⟨w.heap.size, 5, none⟩ = some (.int .i64 a5) ∧ W.cell? ⟨w.heap.size, 6, none⟩ = some (.int .i64 a6) ∧ W.cell? ⟨w5.heap.size, 0, none⟩ = some (.int .i64 (j : Int)) ∧ W.cell? ⟨w5.heap.size, 1, none⟩ = some (.int .i64 ((ad - base a1 a2 a5 a6 j) / each a2 (j : Int))) ∧ W.cell? ⟨w5.heap.size, 2, none⟩ = some (.int .i64 ((ad - base a1 a2 a5 a6 j) % each a2 (j : Int)))) (simp [*, go_sem])
    (first
      | (go_at_call 17; refine (refAt _ _ _ _ _ _ _ _ j _ hok j1 j2 j3 j4).mono ?_; rintro e w10 ⟨rfl, hb⟩; have D' := Bx.boxSeq D.drew hb; have B' := Bx.twoSeq B6.drew hb; clear hb qa qd; have qa := Bx.twoCellA B'; have qd := Bx.boxCell D'))
  go_wp2_with fail
  go_ret
  exact ⟨rfl, Bx.twoEnd B'⟩
set_option maxHeartbeats 2000000 in
theorem plan_yes_ok (a0 a1 a2 a3 a4 a5 a6 r i k ad : Int) (w : World) (hc : cfgB a0 a1 a2 a3 a4 a5 a6 = true) (hw : 0 ≤ addrW a1 a2 a5 a6 r i k) (h1 : 1 ≤ r) (h2 : r ≤ 13) (h3 : inB i 0 (items a1 a5 a6 r - 1) = true) (h4 : inB k 0 (each a2 r - 1) = true) (j : Nat) (j1 : 1 ≤ j) (j2 : j ≤ 13) (j3 : base a1 a2 a5 a6 j ≤ ad) (j4 : ad < base a1 a2 a5 a6 j + many a1 a2 a5 a6 (j : Int)) (j5 : ad < base a1 a2 a5 a6 14) :
    Calls Try.prog 4 #[.agg #[.int .i64 a0, .int .i64 a1, .int .i64 a2, .int .i64 a3, .int .i64 a4, .int .i64 a5, .int .i64 a6], .agg #[.int .i64 r, .int .i64 i, .int .i64 k], .int .i64 ad] w fun e w' =>
      e = .returned (.bool true) ∧ Below w.heap.size w w' := by
  have hok := ok_of hc
  have b3 := b32
  have hn : decide (addrW a1 a2 a5 a6 r i k < 0) = false := by simpa using hw
  have ha0 : 0 ≤ ad := by have := base_bd hok j; omega
  have hn1 : decide (ad < 0) = false := by simpa using ha0
  have hn2 : decide (base a1 a2 a5 a6 14 ≤ ad) = false := by simpa using j5
  go_enter Try.func4, Try.ntmps4
  go_wp2_with fail
  refine (small_any _).mono ?_
  rintro e w1 ⟨rfl, hb⟩
  have B := Bx.twoSeq (Bx.two0 _ _ _) hb
  clear hb
  go_wp2_with fail
  refine (size_ok _ _ _ _ _ _ _ _ c_small).mono ?_
  rintro e w2 ⟨rfl, hb⟩
  replace B := Bx.twoSeq B hb
  clear hb
  have qa := Bx.twoCellA B
  go_wp2_with fail
  refine (size_ok _ _ _ _ _ _ _ _ hc).mono ?_
  rintro e w3 ⟨rfl, hb⟩
  replace B := Bx.twoSeq B hb
  clear hb qa
  have qa := Bx.twoCellA B
  have qb := Bx.twoCellB B
  go_wp2_with fail
  refine (addr_yes _ _ _ _ _ _ _ _ _ _ _ hc h1 h2 h3 h4).mono ?_
  rintro e w4 ⟨rfl, hb⟩
  replace B := Bx.twoSeq B hb
  clear hb qa qb
  have qa := Bx.twoCellA B
  go_wp2_with fail
  refine (at_ok _ _ _ _ _ _ _ _ j _ hc j1 j2 j3 j4).mono ?_
  rintro e w5 ⟨rfl, hb⟩
  replace B := Bx.twoSeq B hb
  clear hb qa
  have qa := Bx.twoAllocA B
  go_wp2_with fail
  refine (refConfig _ _ _ _ _ _ _ _).mono ?_
  rintro e w6 ⟨rfl, hb⟩
  have D := Bx.boxSeq (Bx.box0 _ _) hb
  have B6 := Bx.twoThru B D
  clear hb qa
  have qa := Bx.twoCellA B6
  go_wp2_with fail
  refine (refSize _ _ _ _ _ _ _ _ hok).mono ?_
  rintro e w7 ⟨rfl, hb⟩
  replace D := Bx.boxSeq D hb
  replace B6 := Bx.twoSeq B6 hb
  clear hb qa
  have qa := Bx.twoCellA B6
  have qb := Bx.twoCellB B6
  go_wp2_with fail
  refine (refAddr _ _ _ _ _ _ _ _ _ _ _ hok).mono ?_
  rintro e w8 ⟨rfl, hb⟩
  replace D := Bx.boxSeq D hb
  replace B6 := Bx.twoSeq B6 hb
  clear hb qa qb
  have qa := Bx.twoCellA B6
  have qd := Bx.boxCell D
  go_wp2_with fail
  refine (refSize _ _ _ _ _ _ _ _ hok).mono ?_
  rintro e w9 ⟨rfl, hb⟩
  replace D := Bx.boxSeq D hb
  replace B6 := Bx.twoSeq B6 hb
  clear hb qa qd
  have qa := Bx.twoCellA B6
  have qd := Bx.boxCell D
  go_wp2_with fail
  go_region_held3 (fun W => W.cell? ⟨w.heap.size, 0, none⟩ = some (.int .i64 a0) ∧ W.cell? ⟨w.heap.size, 1, none⟩ = some (.int .i64 a1) ∧ W.cell? ⟨w.heap.size, 2, none⟩ = some (.int .i64 a2) ∧ W.cell? ⟨w.heap.size, 3, none⟩ = some (.int .i64 a3) ∧ W.cell? ⟨w.heap.size, 4, none⟩ = some (.int .i64 a4) ∧ W.cell? ⟨w.heap.size, 5, none⟩ = some (.int .i64 a5) ∧ W.cell? ⟨w.heap.size, 6, none⟩ = some (.int .i64 a6) ∧ W.cell? ⟨w5.heap.size, 0, none⟩ = some (.int .i64 (j : Int)) ∧ W.cell? ⟨w5.heap.size, 1, none⟩ = some (.int .i64 ((ad - base a1 a2 a5 a6 j) / each a2 (j : Int))) ∧ W.cell? ⟨w5.heap.size, 2, none⟩ = some (.int .i64 ((ad - base a1 a2 a5 a6 j) % each a2 (j : Int)))) (simp [*, go_sem])
    (first
      | (go_at_call 17; refine (refAt _ _ _ _ _ _ _ _ j _ hok j1 j2 j3 j4).mono ?_; rintro e w10 ⟨rfl, hb⟩; have D' := Bx.boxSeq D.drew hb; have B' := Bx.twoSeq B6.drew hb; clear hb qa qd; have qa := Bx.twoCellA B'; have qd := Bx.boxCell D'))
  go_wp2_with fail
  go_ret
  exact ⟨rfl, Bx.twoEnd B'⟩
end Go.Proofs.Ytbbgobahhcfjjab.Wm
