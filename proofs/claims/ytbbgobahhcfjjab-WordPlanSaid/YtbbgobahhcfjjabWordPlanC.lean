import Derived.Test.YtbbgobahhcfjjabWordPlanA
namespace Go.Proofs.Ytbbgobahhcfjjab.Wm
open Go.RowKit
open Wc
set_option linter.unusedVariables false
set_option maxHeartbeats 2000000 in
theorem plan_no_hi (a0 a1 a2 a3 a4 a5 a6 r i k ad : Int) (w : World) (hc : cfgB a0 a1 a2 a3 a4 a5 a6 = true) (hw : addrW a1 a2 a5 a6 r i k = -1) (ha : base a1 a2 a5 a6 14 ≤ ad) (hmx : ad ≤ 9223372036854775807) :
    Calls Try.prog 4 #[.agg #[.int .i64 a0, .int .i64 a1, .int .i64 a2, .int .i64 a3, .int .i64 a4, .int .i64 a5, .int .i64 a6], .agg #[.int .i64 r, .int .i64 i, .int .i64 k], .int .i64 ad] w fun e w' =>
      e = .returned (.bool true) ∧ Below w.heap.size w w' := by
  have hok := ok_of hc
  have b3 := b32
  have bb := base_bd hok 14
  have hn1 : decide (ad < 0) = false := by simp; omega
  have hn2 : decide (base a1 a2 a5 a6 14 ≤ ad) = true := by simpa using ha
  clear bb
  go_enter Try.func4, Try.ntmps4
  go_wp2_with fail
  refine (small_any _).mono ?_
  rintro e w1 ⟨rfl, hb⟩
  have B := Bx.twoSeq (Bx.two0 _ _ _) hb
  clear hb
  go_wp2_with fail
  refine (size_ok _ _ _ _ _ _ _ _ c_small).mono ?_
  rintro e w2 ⟨rfl, hb⟩
  replace B := Bx.twoSeq B hb
  clear hb
  have qa := Bx.twoCellA B
  go_wp2_with fail
  refine (size_ok _ _ _ _ _ _ _ _ hc).mono ?_
  rintro e w3 ⟨rfl, hb⟩
  replace B := Bx.twoSeq B hb
  clear hb qa
  have qa := Bx.twoCellA B
  have qb := Bx.twoCellB B
  go_wp2_with fail
  refine (addr_no _ _ _ _ _ _ _ _ _ _ _ hc hw).mono ?_
  rintro e w4 ⟨rfl, hb⟩
  replace B := Bx.twoSeq B hb
  clear hb qa qb
  have qa := Bx.twoCellA B
  go_wp2_with fail
  refine (at_hi _ _ _ _ _ _ _ _ _ hc ha hmx).mono ?_
  rintro e w5 ⟨rfl, hb⟩
  replace B := Bx.twoSeq B hb
  clear hb qa
  have qa := Bx.twoAllocA B
  go_wp2_with fail
  refine (refConfig _ _ _ _ _ _ _ _).mono ?_
  rintro e w6 ⟨rfl, hb⟩
  have D := Bx.boxSeq (Bx.box0 _ _) hb
  have B6 := Bx.twoThru B D
  clear hb qa
  have qa := Bx.twoCellA B6
  go_wp2_with fail
  refine (refSize _ _ _ _ _ _ _ _ hok).mono ?_
  rintro e w7 ⟨rfl, hb⟩
  replace D := Bx.boxSeq D hb
  replace B6 := Bx.twoSeq B6 hb
  clear hb qa
  have qa := Bx.twoCellA B6
  have qb := Bx.twoCellB B6
  go_wp2_with fail
  refine (refAddr _ _ _ _ _ _ _ _ _ _ _ hok).mono ?_
  rintro e w8 ⟨rfl, hb⟩
  replace D := Bx.boxSeq D hb
  replace B6 := Bx.twoSeq B6 hb
  clear hb qa qb
  have qa := Bx.twoCellA B6
  have qd := Bx.boxCell D
  go_wp2_with fail
  refine (refSize _ _ _ _ _ _ _ _ hok).mono ?_
  rintro e w9 ⟨rfl, hb⟩
  replace D := Bx.boxSeq D hb
  replace B6 := Bx.twoSeq B6 hb
  clear hb qa qd
  have qa := Bx.twoCellA B6
  have qd := Bx.boxCell D
  go_wp2_with fail
  go_ret
  exact ⟨rfl, Bx.twoEnd B6⟩
set_option maxHeartbeats 2000000 in
theorem plan_yes_hi (a0 a1 a2 a3 a4 a5 a6 r i k ad : Int) (w : World) (hc : cfgB a0 a1 a2 a3 a4 a5 a6 = true) (hw : 0 ≤ addrW a1 a2 a5 a6 r i k) (h1 : 1 ≤ r) (h2 : r ≤ 13) (h3 : inB i 0 (items a1 a5 a6 r - 1) = true) (h4 : inB k 0 (each a2 r - 1) = true) (ha : base a1 a2 a5 a6 14 ≤ ad) (hmx : ad ≤ 9223372036854775807) :
    Calls Try.prog 4 #[.agg #[.int .i64 a0, .int .i64 a1, .int .i64 a2, .int .i64 a3, .int .i64 a4, .int .i64 a5, .int .i64 a6], .agg #[.int .i64 r, .int .i64 i, .int .i64 k], .int .i64 ad] w fun e w' =>
      e = .returned (.bool true) ∧ Below w.heap.size w w' := by
  have hok := ok_of hc
  have b3 := b32
  have hn : decide (addrW a1 a2 a5 a6 r i k < 0) = false := by simpa using hw
  have bb := base_bd hok 14
  have hn1 : decide (ad < 0) = false := by simp; omega
  have hn2 : decide (base a1 a2 a5 a6 14 ≤ ad) = true := by simpa using ha
  clear bb
  go_enter Try.func4, Try.ntmps4
  go_wp2_with fail
  refine (small_any _).mono ?_
  rintro e w1 ⟨rfl, hb⟩
  have B := Bx.twoSeq (Bx.two0 _ _ _) hb
  clear hb
  go_wp2_with fail
  refine (size_ok _ _ _ _ _ _ _ _ c_small).mono ?_
  rintro e w2 ⟨rfl, hb⟩
  replace B := Bx.twoSeq B hb
  clear hb
  have qa := Bx.twoCellA B
  go_wp2_with fail
  refine (size_ok _ _ _ _ _ _ _ _ hc).mono ?_
  rintro e w3 ⟨rfl, hb⟩
  replace B := Bx.twoSeq B hb
  clear hb qa
  have qa := Bx.twoCellA B
  have qb := Bx.twoCellB B
  go_wp2_with fail
  refine (addr_yes _ _ _ _ _ _ _ _ _ _ _ hc h1 h2 h3 h4).mono ?_
  rintro e w4 ⟨rfl, hb⟩
  replace B := Bx.twoSeq B hb
  clear hb qa qb
  have qa := Bx.twoCellA B
  go_wp2_with fail
  refine (at_hi _ _ _ _ _ _ _ _ _ hc ha hmx).mono ?_
  rintro e w5 ⟨rfl, hb⟩
  replace B := Bx.twoSeq B hb
  clear hb qa
  have qa := Bx.twoAllocA B
  go_wp2_with fail
  refine (refConfig _ _ _ _ _ _ _ _).mono ?_
  rintro e w6 ⟨rfl, hb⟩
  have D := Bx.boxSeq (Bx.box0 _ _) hb
  have B6 := Bx.twoThru B D
  clear hb qa
  have qa := Bx.twoCellA B6
  go_wp2_with fail
  refine (refSize _ _ _ _ _ _ _ _ hok).mono ?_
  rintro e w7 ⟨rfl, hb⟩
  replace D := Bx.boxSeq D hb
  replace B6 := Bx.twoSeq B6 hb
  clear hb qa
  have qa := Bx.twoCellA B6
  have qb := Bx.twoCellB B6
  go_wp2_with fail
  refine (refAddr _ _ _ _ _ _ _ _ _ _ _ hok).mono ?_
  rintro e w8 ⟨rfl, hb⟩
  replace D := Bx.boxSeq D hb
  replace B6 := Bx.twoSeq B6 hb
  clear hb qa qb
  have qa := Bx.twoCellA B6
  have qd := Bx.boxCell D
  go_wp2_with fail
  refine (refSize _ _ _ _ _ _ _ _ hok).mono ?_
  rintro e w9 ⟨rfl, hb⟩
  replace D := Bx.boxSeq D hb
  replace B6 := Bx.twoSeq B6 hb
  clear hb qa qd
  have qa := Bx.twoCellA B6
  have qd := Bx.boxCell D
  go_wp2_with fail
  go_ret
  exact ⟨rfl, Bx.twoEnd B6⟩
end Go.Proofs.Ytbbgobahhcfjjab.Wm
