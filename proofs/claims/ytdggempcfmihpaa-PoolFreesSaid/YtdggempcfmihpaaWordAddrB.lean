import Derived.Test.YtdggempcfmihpaaWordAddr
/-
  CONTRACT of Addr.
-/
namespace Go.Proofs.Ytdggempcfmihpaa.Wm
open Go.RowKit
open Wc
set_option linter.unusedVariables false
theorem isRegion_yes (r : Int) (w : World) (h1 : 1 ≤ r) (h2 : r ≤ 13) :
    Calls Try.prog 84 #[.int .i64 r] w fun e w' => e = .returned (.bool true) ∧ w' = w := by
  have hd : decide (r < 14) = true := by simp; omega
  go_enter Try.func84, Try.ntmps84
  go_wp2
  go_ret
  exact ⟨rfl, rfl⟩
theorem i64w (x : Int) (h1 : -9223372036854775808 ≤ x) (h2 : x ≤ 9223372036854775807) : IntKind.i64.wrap x = x := by
  simp [IntKind.wrap, IntKind.signed, IntKind.bits]; omega
theorem inB_iff {n a b : Int} (h : inB n a b = true) : a ≤ n ∧ n ≤ b := by simpa [inB] using h
theorem addr_sum {a1 a2 a5 a6 r i k : Int} (hok : Ok a1 a2 a5 a6) (h2 : r ≤ 13) (h3 : inB i 0 (items a1 a5 a6 r - 1) = true) (h4 : inB k 0 (each a2 r - 1) = true) :
    IntKind.i64.wrap (IntKind.i64.wrap (base a1 a2 a5 a6 r.toNat + IntKind.i64.wrap (i * each a2 r)) + k) = base a1 a2 a5 a6 r.toNat + i * each a2 r + k := by
  have ib := items_bd hok r
  have eb := each_bd hok r
  have bb := base_bd hok r.toNat
  have h3 := inB_iff h3
  have h4 := inB_iff h4
  have m1 : 0 ≤ i * each a2 r := Int.mul_nonneg h3.1 (by omega)
  have m2 : i * each a2 r ≤ 1024 * 8 := Int.mul_le_mul (by omega) eb.2 (by omega) (by omega)
  have hr : (r.toNat : Int) ≤ 13 := by omega
  rw [i64w (i * each a2 r) (by omega) (by omega), i64w (base a1 a2 a5 a6 r.toNat + i * each a2 r) (by omega) (by omega), i64w _ (by omega) (by omega)]
theorem ret2 {a b c : Int} (h : a = b) : Ending.returned (.tuple #[.int .i64 a, .int .i64 c]) = .returned (.tuple #[.int .i64 b, .int .i64 c]) := by rw [h]
set_option maxHeartbeats 1000000 in
theorem addr_ok (a0 a1 a2 a3 a4 a5 a6 r i k : Int) (w : World) (hc : cfgB a0 a1 a2 a3 a4 a5 a6 = true) (h1 : 1 ≤ r) (h2 : r ≤ 13) (h3 : inB i 0 (items a1 a5 a6 r - 1) = true) (h4 : inB k 0 (each a2 r - 1) = true) :
    Calls Try.prog 73 #[.agg #[.int .i64 a0, .int .i64 a1, .int .i64 a2, .int .i64 a3, .int .i64 a4, .int .i64 a5, .int .i64 a6], .agg #[.int .i64 r, .int .i64 i, .int .i64 k]] w fun e w' =>
      e = .returned (.tuple #[.int .i64 (base a1 a2 a5 a6 r.toNat + i * each a2 r + k), .int .i64 0]) ∧ Below w.heap.size w w' := by
  have hok := ok_of hc
  have k1 := chk_t
  have ib := items_bd hok r
  have eb := each_bd hok r
  go_enter Try.func73, Try.ntmps73
  go_wp2_with fail
  refine (check_any _ _ _ _ _ _ _ _).mono ?_
  rintro e w1 ⟨rfl, hb1⟩
  have B1 := Bx.twoSeq (Bx.two0 _ _ _) hb1
  clear hb1
  have qa := Bx.twoCellA B1
  have qb := Bx.twoCellB B1
  go_wp2_with (go_at_call 84; refine (isRegion_yes _ _ h1 h2).mono ?_; rintro e w' ⟨rfl, rfl⟩)
  refine (extent_any _ _ _ _ _ _ _ _ _).mono ?_
  rintro e w2 ⟨rfl, hb2⟩
  have B2 := Bx.twoSeq B1 hb2
  clear hb2 qa qb B1
  have qa := Bx.twoCellA B2
  have qb := Bx.twoCellB B2
  go_wp2_with (go_at_call 70; refine (within_any _ _ _ _).mono ?_; rintro e w' ⟨rfl, rfl⟩)
  go_region_held3 (fun W => W.cell? ⟨w.heap.size, 0, none⟩ = some (.int .i64 a0) ∧ W.cell? ⟨w.heap.size, 1, none⟩ = some (.int .i64 a1) ∧ W.cell? ⟨w.heap.size, 2, none⟩ = some (.int .i64 a2) ∧ W.cell? ⟨w.heap.size, 3, none⟩ = some (.int .i64 a3) ∧ W.cell? ⟨w.heap.size, 4, none⟩ = some (.int .i64 a4) ∧ W.cell? ⟨w.heap.size, 5, none⟩ = some (.int .i64 a5) ∧ W.cell? ⟨w.heap.size, 6, none⟩ = some (.int .i64 a6) ∧ W.cell? ⟨w.heap.size + 1, 0, none⟩ = some (.int .i64 r) ∧ W.cell? ⟨w.heap.size + 1, 1, none⟩ = some (.int .i64 i) ∧ W.cell? ⟨w.heap.size + 1, 2, none⟩ = some (.int .i64 k)) (simp [*, go_sem, World.cell?_alloc_past])
    (first
      | (go_at_call 59; refine (start_i _ _ _ _ _ _ _ _ _ hok h1 (by omega)).mono ?_; rintro e w3 ⟨rfl, hb3⟩; have B3 := Bx.twoSeq B2.drew hb3; clear qa qb hb3; have qa := Bx.twoCellA B3; have qb := Bx.twoCellB B3))
  go_wp2_with fail
  go_ret2
  exact ⟨ret2 (addr_sum hok h2 h3 h4), Bx.twoEnd B3⟩
end Go.Proofs.Ytdggempcfmihpaa.Wm
