/-
  CONTRACTS of the document's Addr and At.
-/
import Derived.Test.YtbbgobahhcfjjabWordRef
namespace Go.Proofs.Ytbbgobahhcfjjab.Wm
open Go.RowKit
open Wc
set_option linter.unusedVariables false
/-- A place's address, or -1. -/
def addrW (a1 a2 a5 a6 r i k : Int) : Int :=
  if 1 ≤ r ∧ r ≤ 13 ∧ inB i 0 (items a1 a5 a6 r - 1) = true ∧ inB k 0 (each a2 r - 1) = true then base a1 a2 a5 a6 r.toNat + i * each a2 r + k else -1
theorem inB_no {n a b : Int} (h : n < a ∨ b < n) : inB n a b = false := by
  rcases h with h | h <;> simp [inB] <;> omega
theorem inB_yes {n a b : Int} (h1 : a ≤ n) (h2 : n ≤ b) : inB n a b = true := by simp [inB, h1, h2]
theorem addrW_no {a1 a2 a5 a6 r i k : Int} (h : r < 1 ∨ 13 < r ∨ inB i 0 (items a1 a5 a6 r - 1) = false ∨ inB k 0 (each a2 r - 1) = false) : addrW a1 a2 a5 a6 r i k = -1 := by
  unfold addrW
  rw [if_neg]
  rintro ⟨g1, g2, g3, g4⟩
  rcases h with h | h | h | h
  · omega
  · omega
  · rw [h] at g3; cases g3
  · rw [h] at g4; cases g4
theorem addrW_yes {a1 a2 a5 a6 r i k : Int} (h1 : 1 ≤ r) (h2 : r ≤ 13) (h3 : inB i 0 (items a1 a5 a6 r - 1) = true) (h4 : inB k 0 (each a2 r - 1) = true) : addrW a1 a2 a5 a6 r i k = base a1 a2 a5 a6 r.toNat + i * each a2 r + k := by
  unfold addrW; rw [if_pos ⟨h1, h2, h3, h4⟩]
theorem it9 (a1 a5 a6 : Int) : items a1 a5 a6 9 = a1 := by simp [items]
theorem ea9 (a2 : Int) : each a2 9 = a2 := by simp [each]
theorem ea_ne {a2 r : Int} (h : r ≠ 9) : each a2 r = 1 := by unfold each; rw [if_neg h]
theorem it_ne {a1 a2 a5 a6 r : Int} (h : r ≠ 9) : many a1 a2 a5 a6 r = items a1 a5 a6 r := by unfold many; rw [ea_ne h, Int.mul_one]
theorem sum10 {a1 a2 a5 a6 r i : Int} (hok : Ok a1 a2 a5 a6) (h2 : r ≤ 13) (i1 : 0 ≤ i) (i2 : i ≤ 1024) : IntKind.i64.wrap (base a1 a2 a5 a6 r.toNat + i) = base a1 a2 a5 a6 r.toNat + i := by
  have bb := base_bd hok r.toNat
  exact i64w _ (by omega) (by omega)
theorem ret1' {a b c : Int} (h : a = b) (h' : c = b) : Ending.returned (.int .i64 a) = .returned (.int .i64 c) := by rw [h, h']
set_option maxHeartbeats 1000000 in
theorem refAddr_lo (a0 a1 a2 a3 a4 a5 a6 r i k : Int) (w : World) (hok : Ok a1 a2 a5 a6) (h : r < 1) :
    Calls Try.prog 16 #[.agg #[.int .i64 a0, .int .i64 a1, .int .i64 a2, .int .i64 a3, .int .i64 a4, .int .i64 a5, .int .i64 a6], .agg #[.int .i64 r, .int .i64 i, .int .i64 k]] w fun e w' =>
      e = .returned (.int .i64 (-1)) ∧ Below w.heap.size w w' := by
  go_enter Try.func16, Try.ntmps16
  go_wp2
  go_ret
  exact ⟨rfl, Bx.twoEnd (Bx.two0 _ _ _)⟩
set_option maxHeartbeats 1000000 in
theorem refAddr_hi (a0 a1 a2 a3 a4 a5 a6 r i k : Int) (w : World) (hok : Ok a1 a2 a5 a6) (h : 13 < r) :
    Calls Try.prog 16 #[.agg #[.int .i64 a0, .int .i64 a1, .int .i64 a2, .int .i64 a3, .int .i64 a4, .int .i64 a5, .int .i64 a6], .agg #[.int .i64 r, .int .i64 i, .int .i64 k]] w fun e w' =>
      e = .returned (.int .i64 (-1)) ∧ Below w.heap.size w w' := by
  have h0 : ¬ r < 1 := by omega
  go_enter Try.func16, Try.ntmps16
  go_wp2
  go_ret
  exact ⟨rfl, Bx.twoEnd (Bx.two0 _ _ _)⟩
set_option maxHeartbeats 1000000 in
theorem refAddr9_a (a0 a1 a2 a3 a4 a5 a6 i k : Int) (w : World) (hok : Ok a1 a2 a5 a6) (h : i < 0) :
    Calls Try.prog 16 #[.agg #[.int .i64 a0, .int .i64 a1, .int .i64 a2, .int .i64 a3, .int .i64 a4, .int .i64 a5, .int .i64 a6], .agg #[.int .i64 9, .int .i64 i, .int .i64 k]] w fun e w' =>
      e = .returned (.int .i64 (-1)) ∧ Below w.heap.size w w' := by
  go_enter Try.func16, Try.ntmps16
  go_wp2
  go_ret
  exact ⟨rfl, Bx.twoEnd (Bx.two0 _ _ _)⟩
set_option maxHeartbeats 1000000 in
theorem refAddr9_b (a0 a1 a2 a3 a4 a5 a6 i k : Int) (w : World) (hok : Ok a1 a2 a5 a6) (h0 : 0 ≤ i) (h : a1 ≤ i) :
    Calls Try.prog 16 #[.agg #[.int .i64 a0, .int .i64 a1, .int .i64 a2, .int .i64 a3, .int .i64 a4, .int .i64 a5, .int .i64 a6], .agg #[.int .i64 9, .int .i64 i, .int .i64 k]] w fun e w' =>
      e = .returned (.int .i64 (-1)) ∧ Below w.heap.size w w' := by
  go_enter Try.func16, Try.ntmps16
  go_wp2
  go_ret
  exact ⟨rfl, Bx.twoEnd (Bx.two0 _ _ _)⟩
set_option maxHeartbeats 1000000 in
theorem refAddr9_c (a0 a1 a2 a3 a4 a5 a6 i k : Int) (w : World) (hok : Ok a1 a2 a5 a6) (h0 : 0 ≤ i) (h1 : i < a1) (h : k < 0) :
    Calls Try.prog 16 #[.agg #[.int .i64 a0, .int .i64 a1, .int .i64 a2, .int .i64 a3, .int .i64 a4, .int .i64 a5, .int .i64 a6], .agg #[.int .i64 9, .int .i64 i, .int .i64 k]] w fun e w' =>
      e = .returned (.int .i64 (-1)) ∧ Below w.heap.size w w' := by
  have hd : decide (a1 ≤ i) = false := by simpa using h1
  go_enter Try.func16, Try.ntmps16
  go_wp2
  go_ret
  exact ⟨rfl, Bx.twoEnd (Bx.two0 _ _ _)⟩
set_option maxHeartbeats 1000000 in
theorem refAddr9_d (a0 a1 a2 a3 a4 a5 a6 i k : Int) (w : World) (hok : Ok a1 a2 a5 a6) (h0 : 0 ≤ i) (h1 : i < a1) (h2 : 0 ≤ k) (h : a2 ≤ k) :
    Calls Try.prog 16 #[.agg #[.int .i64 a0, .int .i64 a1, .int .i64 a2, .int .i64 a3, .int .i64 a4, .int .i64 a5, .int .i64 a6], .agg #[.int .i64 9, .int .i64 i, .int .i64 k]] w fun e w' =>
      e = .returned (.int .i64 (-1)) ∧ Below w.heap.size w w' := by
  have hd : decide (a1 ≤ i) = false := by simpa using h1
  go_enter Try.func16, Try.ntmps16
  go_wp2
  go_ret
  exact ⟨rfl, Bx.twoEnd (Bx.two0 _ _ _)⟩
set_option maxHeartbeats 1000000 in
theorem refAddr9 (a0 a1 a2 a3 a4 a5 a6 i k : Int) (w : World) (hok : Ok a1 a2 a5 a6) (h0 : 0 ≤ i) (h1 : i < a1) (h2 : 0 ≤ k) (h3 : k < a2) :
    Calls Try.prog 16 #[.agg #[.int .i64 a0, .int .i64 a1, .int .i64 a2, .int .i64 a3, .int .i64 a4, .int .i64 a5, .int .i64 a6], .agg #[.int .i64 9, .int .i64 i, .int .i64 k]] w fun e w' =>
      e = .returned (.int .i64 (addrW a1 a2 a5 a6 9 i k)) ∧ Below w.heap.size w w' := by
  have hd : decide (a1 ≤ i) = false := by simpa using h1
  have hd2 : decide (a2 ≤ k) = false := by simpa using h3
  have hw : Hid (addrW a1 a2 a5 a6 9 i k = base a1 a2 a5 a6 (9 : Int).toNat + i * each a2 9 + k) := addrW_yes (by decide) (by decide) (by rw [it9]; exact inB_yes h0 (by omega)) (by rw [ea9]; exact inB_yes h2 (by omega))
  have hs : Hid (IntKind.i64.wrap (IntKind.i64.wrap (base a1 a2 a5 a6 (9 : Int).toNat + IntKind.i64.wrap (i * a2)) + k) = base a1 a2 a5 a6 (9 : Int).toNat + i * each a2 9 + k) := by
    have := addr_sum (r := 9) (i := i) (k := k) hok (by decide) (by rw [it9]; exact inB_yes h0 (by omega)) (by rw [ea9]; exact inB_yes h2 (by omega))
    rw [ea9] at this ⊢; exact this
  go_enter Try.func16, Try.ntmps16
  go_wp2_with fail
  go_region_held3 (fun W => W.cell? ⟨w.heap.size, 0, none⟩ = some (.int .i64 a0) ∧ W.cell? ⟨w.heap.size, 1, none⟩ = some (.int .i64 a1) ∧ W.cell? ⟨w.heap.size, 2, none⟩ = some (.int .i64 a2) ∧ W.cell? ⟨w.heap.size, 3, none⟩ = some (.int .i64 a3) ∧ W.cell? ⟨w.heap.size, 4, none⟩ = some (.int .i64 a4) ∧ W.cell? ⟨w.heap.size, 5, none⟩ = some (.int .i64 a5) ∧ W.cell? ⟨w.heap.size, 6, none⟩ = some (.int .i64 a6) ∧ W.cell? ⟨w.heap.size + 1, 0, none⟩ = some (.int .i64 9) ∧ W.cell? ⟨w.heap.size + 1, 1, none⟩ = some (.int .i64 i) ∧ W.cell? ⟨w.heap.size + 1, 2, none⟩ = some (.int .i64 k)) (simp [*, go_sem])
    (first
      | (go_at_call 25; refine (refBase_i _ _ _ _ _ _ _ _ _ hok (by omega) (by omega)).mono ?_; rintro e w3 ⟨rfl, hb3⟩; have B3 := Bx.twoSeq (Bx.two0 _ _ _).drew hb3; clear hb3; have qa := Bx.twoCellA B3; have qb := Bx.twoCellB B3))
  go_wp2_with fail
  go_ret
  exact ⟨ret1' hs.out hw.out, Bx.twoEnd B3⟩
set_option maxHeartbeats 1000000 in
theorem refAddr_k (a0 a1 a2 a3 a4 a5 a6 r i k : Int) (w : World) (hok : Ok a1 a2 a5 a6) (h1 : 1 ≤ r) (h2 : r ≤ 13) (e9 : (r == 9) = false) (hk : (k != 0) = true) :
    Calls Try.prog 16 #[.agg #[.int .i64 a0, .int .i64 a1, .int .i64 a2, .int .i64 a3, .int .i64 a4, .int .i64 a5, .int .i64 a6], .agg #[.int .i64 r, .int .i64 i, .int .i64 k]] w fun e w' =>
      e = .returned (.int .i64 (-1)) ∧ Below w.heap.size w w' := by
  have hd : decide (13 < r) = false := by simpa using h2
  go_enter Try.func16, Try.ntmps16
  go_wp2_with fail
  go_quiet (fail)
  go_wp2_with fail
  go_ret
  exact ⟨rfl, (Bx.twoEnd (Bx.two0 _ _ _)).trans (Bx.draws _ _ _)⟩
set_option maxHeartbeats 1000000 in
theorem refAddr_i (a0 a1 a2 a3 a4 a5 a6 r i k : Int) (w : World) (hok : Ok a1 a2 a5 a6) (h1 : 1 ≤ r) (h2 : r ≤ 13) (e9 : (r == 9) = false) (hk : (k != 0) = false) (hi : i < 0) :
    Calls Try.prog 16 #[.agg #[.int .i64 a0, .int .i64 a1, .int .i64 a2, .int .i64 a3, .int .i64 a4, .int .i64 a5, .int .i64 a6], .agg #[.int .i64 r, .int .i64 i, .int .i64 k]] w fun e w' =>
      e = .returned (.int .i64 (-1)) ∧ Below w.heap.size w w' := by
  have hd : decide (13 < r) = false := by simpa using h2
  go_enter Try.func16, Try.ntmps16
  go_wp2_with fail
  go_quiet (fail)
  go_wp2_with fail
  go_ret
  exact ⟨rfl, (Bx.twoEnd (Bx.two0 _ _ _)).trans (Bx.draws _ _ _)⟩
set_option maxHeartbeats 1000000 in
theorem refAddr_m (a0 a1 a2 a3 a4 a5 a6 r i k : Int) (w : World) (hok : Ok a1 a2 a5 a6) (h1 : 1 ≤ r) (h2 : r ≤ 13) (e9 : (r == 9) = false) (hk : (k != 0) = false) (hi : 0 ≤ i) (hm : many a1 a2 a5 a6 r ≤ i) :
    Calls Try.prog 16 #[.agg #[.int .i64 a0, .int .i64 a1, .int .i64 a2, .int .i64 a3, .int .i64 a4, .int .i64 a5, .int .i64 a6], .agg #[.int .i64 r, .int .i64 i, .int .i64 k]] w fun e w' =>
      e = .returned (.int .i64 (-1)) ∧ Below w.heap.size w w' := by
  have hd : decide (13 < r) = false := by simpa using h2
  have hd0 : decide (i < 0) = false := by simpa using hi
  have hdm : decide (many a1 a2 a5 a6 r ≤ i) = true := by simpa using hm
  go_enter Try.func16, Try.ntmps16
  go_wp2_with fail
  go_region_held3 (fun W => W.cell? ⟨w.heap.size, 0, none⟩ = some (.int .i64 a0) ∧ W.cell? ⟨w.heap.size, 1, none⟩ = some (.int .i64 a1) ∧ W.cell? ⟨w.heap.size, 2, none⟩ = some (.int .i64 a2) ∧ W.cell? ⟨w.heap.size, 3, none⟩ = some (.int .i64 a3) ∧ W.cell? ⟨w.heap.size, 4, none⟩ = some (.int .i64 a4) ∧ W.cell? ⟨w.heap.size, 5, none⟩ = some (.int .i64 a5) ∧ W.cell? ⟨w.heap.size, 6, none⟩ = some (.int .i64 a6) ∧ W.cell? ⟨w.heap.size + 1, 0, none⟩ = some (.int .i64 r) ∧ W.cell? ⟨w.heap.size + 1, 1, none⟩ = some (.int .i64 i) ∧ W.cell? ⟨w.heap.size + 1, 2, none⟩ = some (.int .i64 k)) (simp [*, go_sem])
    (first
      | (go_at_call 26; refine (refMany _ _ _ _ _ _ _ _ _ hok).mono ?_; rintro e w3 ⟨rfl, hb3⟩; have B3 := Bx.twoSeq (Bx.two0 _ _ _).drew hb3; clear hb3; have qa := Bx.twoCellA B3; have qb := Bx.twoCellB B3))
  go_wp2_with fail
  go_ret
  exact ⟨rfl, Bx.twoEnd B3⟩
set_option maxHeartbeats 1000000 in
theorem refAddr_y (a0 a1 a2 a3 a4 a5 a6 r i k : Int) (w : World) (hok : Ok a1 a2 a5 a6) (h1 : 1 ≤ r) (h2 : r ≤ 13) (e9 : (r == 9) = false) (hk : (k != 0) = false) (hi : 0 ≤ i) (hm : i < many a1 a2 a5 a6 r) :
    Calls Try.prog 16 #[.agg #[.int .i64 a0, .int .i64 a1, .int .i64 a2, .int .i64 a3, .int .i64 a4, .int .i64 a5, .int .i64 a6], .agg #[.int .i64 r, .int .i64 i, .int .i64 k]] w fun e w' =>
      e = .returned (.int .i64 (base a1 a2 a5 a6 r.toNat + i)) ∧ Below w.heap.size w w' := by
  have hd : decide (13 < r) = false := by simpa using h2
  have hd0 : decide (i < 0) = false := by simpa using hi
  have hdm : decide (many a1 a2 a5 a6 r ≤ i) = false := by simpa using hm
  have mb := many_bd hok r
  have hs : Hid (IntKind.i64.wrap (base a1 a2 a5 a6 r.toNat + i) = base a1 a2 a5 a6 r.toNat + i) := sum10 hok h2 hi (by omega)
  go_enter Try.func16, Try.ntmps16
  go_wp2_with fail
  go_region_held3 (fun W => W.cell? ⟨w.heap.size, 0, none⟩ = some (.int .i64 a0) ∧ W.cell? ⟨w.heap.size, 1, none⟩ = some (.int .i64 a1) ∧ W.cell? ⟨w.heap.size, 2, none⟩ = some (.int .i64 a2) ∧ W.cell? ⟨w.heap.size, 3, none⟩ = some (.int .i64 a3) ∧ W.cell? ⟨w.heap.size, 4, none⟩ = some (.int .i64 a4) ∧ W.cell? ⟨w.heap.size, 5, none⟩ = some (.int .i64 a5) ∧ W.cell? ⟨w.heap.size, 6, none⟩ = some (.int .i64 a6) ∧ W.cell? ⟨w.heap.size + 1, 0, none⟩ = some (.int .i64 r) ∧ W.cell? ⟨w.heap.size + 1, 1, none⟩ = some (.int .i64 i) ∧ W.cell? ⟨w.heap.size + 1, 2, none⟩ = some (.int .i64 k)) (simp [*, go_sem])
    (first
      | (go_at_call 26; refine (refMany _ _ _ _ _ _ _ _ _ hok).mono ?_; rintro e w3 ⟨rfl, hb3⟩; have B3 := Bx.twoSeq (Bx.two0 _ _ _).drew hb3; clear hb3; have qa := Bx.twoCellA B3; have qb := Bx.twoCellB B3))
  clear hd0 hdm
  go_wp2_with fail
  go_region_held3 (fun W => W.cell? ⟨w.heap.size, 0, none⟩ = some (.int .i64 a0) ∧ W.cell? ⟨w.heap.size, 1, none⟩ = some (.int .i64 a1) ∧ W.cell? ⟨w.heap.size, 2, none⟩ = some (.int .i64 a2) ∧ W.cell? ⟨w.heap.size, 3, none⟩ = some (.int .i64 a3) ∧ W.cell? ⟨w.heap.size, 4, none⟩ = some (.int .i64 a4) ∧ W.cell? ⟨w.heap.size, 5, none⟩ = some (.int .i64 a5) ∧ W.cell? ⟨w.heap.size, 6, none⟩ = some (.int .i64 a6) ∧ W.cell? ⟨w.heap.size + 1, 0, none⟩ = some (.int .i64 r) ∧ W.cell? ⟨w.heap.size + 1, 1, none⟩ = some (.int .i64 i) ∧ W.cell? ⟨w.heap.size + 1, 2, none⟩ = some (.int .i64 k)) (simp [*, go_sem])
    (first
      | (go_at_call 25; refine (refBase_i _ _ _ _ _ _ _ _ _ hok (by omega) (by omega)).mono ?_; rintro e w4 ⟨rfl, hb4⟩; have B4 := Bx.twoSeq B3.drew hb4; clear hb4 qa qb; have qa := Bx.twoCellA B4; have qb := Bx.twoCellB B4))
  go_wp2_with fail
  go_ret
  exact ⟨ret1 hs.out, Bx.twoEnd B4⟩
theorem refAddr (a0 a1 a2 a3 a4 a5 a6 r i k : Int) (w : World) (hok : Ok a1 a2 a5 a6) :
    Calls Try.prog 16 #[.agg #[.int .i64 a0, .int .i64 a1, .int .i64 a2, .int .i64 a3, .int .i64 a4, .int .i64 a5, .int .i64 a6], .agg #[.int .i64 r, .int .i64 i, .int .i64 k]] w fun e w' =>
      e = .returned (.int .i64 (addrW a1 a2 a5 a6 r i k)) ∧ Below w.heap.size w w' := by
  by_cases c1 : r < 1
  · rw [addrW_no (.inl c1)]; exact refAddr_lo _ _ _ _ _ _ _ _ _ _ w hok c1
  by_cases c2 : 13 < r
  · rw [addrW_no (.inr (.inl c2))]; exact refAddr_hi _ _ _ _ _ _ _ _ _ _ w hok c2
  by_cases c9 : r = 9
  · subst c9
    by_cases d1 : i < 0
    · rw [addrW_no (.inr (.inr (.inl (inB_no (.inl d1)))))]; exact refAddr9_a _ _ _ _ _ _ _ _ _ w hok d1
    by_cases d2 : a1 ≤ i
    · rw [addrW_no (.inr (.inr (.inl (inB_no (.inr (by rw [it9]; omega))))))]; exact refAddr9_b _ _ _ _ _ _ _ _ _ w hok (by omega) d2
    by_cases d3 : k < 0
    · rw [addrW_no (.inr (.inr (.inr (inB_no (.inl d3)))))]; exact refAddr9_c _ _ _ _ _ _ _ _ _ w hok (by omega) (by omega) d3
    by_cases d4 : a2 ≤ k
    · rw [addrW_no (.inr (.inr (.inr (inB_no (.inr (by rw [ea9]; omega))))))]; exact refAddr9_d _ _ _ _ _ _ _ _ _ w hok (by omega) (by omega) (by omega) d4
    exact refAddr9 _ _ _ _ _ _ _ _ _ w hok (by omega) (by omega) (by omega) (by omega)
  have e9 : (r == 9) = false := by simpa using c9
  by_cases d1 : k = 0
  · have hk : (k != 0) = false := by simpa using d1
    by_cases d2 : i < 0
    · rw [addrW_no (.inr (.inr (.inl (inB_no (.inl d2)))))]; exact refAddr_i _ _ _ _ _ _ _ _ _ _ w hok (by omega) (by omega) e9 hk d2
    by_cases d3 : many a1 a2 a5 a6 r ≤ i
    · rw [addrW_no (.inr (.inr (.inl (inB_no (.inr (by rw [← it_ne (a2 := a2) c9]; omega))))))]; exact refAddr_m _ _ _ _ _ _ _ _ _ _ w hok (by omega) (by omega) e9 hk (by omega) d3
    have e : addrW a1 a2 a5 a6 r i k = base a1 a2 a5 a6 r.toNat + i := by
      rw [addrW_yes (by omega) (by omega) (by rw [← it_ne (a2 := a2) c9]; exact inB_yes (by omega) (by omega)) (by rw [ea_ne c9, d1]; exact inB_yes (by omega) (by omega)), ea_ne c9, d1]
      omega
    rw [e]
    exact refAddr_y _ _ _ _ _ _ _ _ _ _ w hok (by omega) (by omega) e9 hk (by omega) (by omega)
  · have hk : (k != 0) = true := by simpa using d1
    rw [addrW_no (.inr (.inr (.inr (by rw [ea_ne c9]; exact inB_no (by omega)))))]
    exact refAddr_k _ _ _ _ _ _ _ _ _ _ w hok (by omega) (by omega) e9 hk
end Go.Proofs.Ytbbgobahhcfjjab.Wm
