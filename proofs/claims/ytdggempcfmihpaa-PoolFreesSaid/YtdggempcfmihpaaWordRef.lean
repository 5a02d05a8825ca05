import Derived.Test.YtdggempcfmihpaaWordAddrB
/-
  CONTRACTS of the document's answers on places: Many, Base, Size, Addr, At.
-/
namespace Go.Proofs.Ytdggempcfmihpaa.Wm
open Go.RowKit
open Wc
set_option linter.unusedVariables false
set_option maxHeartbeats 1000000 in
theorem refMany (a0 a1 a2 a3 a4 a5 a6 r : Int) (w : World) (hok : Ok a1 a2 a5 a6) :
    Calls Try.prog 54 #[.agg #[.int .i64 a0, .int .i64 a1, .int .i64 a2, .int .i64 a3, .int .i64 a4, .int .i64 a5, .int .i64 a6], .int .i64 r] w fun e w' =>
      e = .returned (.int .i64 (many a1 a2 a5 a6 r)) ∧ Below w.heap.size w w' := by
  obtain ⟨o1, o2, o3, o4, o5, o6, o7, o8⟩ := hok
  by_cases h9 : r = 9
  · subst h9
    have m1 : 0 ≤ a1 * a2 := Int.mul_nonneg (by omega) (by omega)
    have m2 : a1 * a2 ≤ 16 * 8 := Int.mul_le_mul o2 o4 (by omega) (by omega)
    go_enter Try.func54, Try.ntmps54
    go_wp2
    go_ret
    exact ⟨by simp [many, items, each], (Below.refl _ _).alloc (Nat.le_refl _) _⟩
  have e9 : (r == 9) = false := by simpa using h9
  by_cases h7 : r = 7
  · subst h7
    go_enter Try.func54, Try.ntmps54
    go_wp2
    go_ret
    exact ⟨by simp [many, items, each], (Below.refl _ _).alloc (Nat.le_refl _) _⟩
  have e7 : (r == 7) = false := by simpa using h7
  by_cases h8 : r = 8
  · subst h8
    go_enter Try.func54, Try.ntmps54
    go_wp2
    go_ret
    exact ⟨by simp [many, items, each], (Below.refl _ _).alloc (Nat.le_refl _) _⟩
  have e8 : (r == 8) = false := by simpa using h8
  by_cases h10 : r = 10
  · subst h10
    go_enter Try.func54, Try.ntmps54
    go_wp2
    go_ret
    exact ⟨by simp [many, items, each], (Below.refl _ _).alloc (Nat.le_refl _) _⟩
  have e10 : (r == 10) = false := by simpa using h10
  by_cases h11 : r = 11
  · subst h11
    go_enter Try.func54, Try.ntmps54
    go_wp2
    go_ret
    exact ⟨by simp [many, items, each], (Below.refl _ _).alloc (Nat.le_refl _) _⟩
  have e11 : (r == 11) = false := by simpa using h11
  by_cases h12 : r = 12
  · subst h12
    go_enter Try.func54, Try.ntmps54
    go_wp2
    go_ret
    exact ⟨by simp [many, items, each], (Below.refl _ _).alloc (Nat.le_refl _) _⟩
  have e12 : (r == 12) = false := by simpa using h12
  by_cases h13 : r = 13
  · subst h13
    go_enter Try.func54, Try.ntmps54
    go_wp2
    go_ret
    exact ⟨by simp [many, items, each], (Below.refl _ _).alloc (Nat.le_refl _) _⟩
  have e13 : (r == 13) = false := by simpa using h13
  have hm : many a1 a2 a5 a6 r = 1 := by unfold many items each; rw [if_neg h7, if_neg h8, if_neg h9, if_neg (by omega), if_neg h9]; rfl
  rw [hm]
  clear h7 h8 h9 h10 h11 h12 h13 hm
  go_enter Try.func54, Try.ntmps54
  go_wp2
  go_ret
  exact ⟨rfl, (Below.refl _ _).alloc (Nat.le_refl _) _⟩
set_option maxHeartbeats 1000000 in
theorem refBase (a0 a1 a2 a3 a4 a5 a6 : Int) (k : Nat) (w : World) (hok : Ok a1 a2 a5 a6) (h1 : 1 ≤ k) (h2 : k ≤ 14) :
    Calls Try.prog 24 #[.agg #[.int .i64 a0, .int .i64 a1, .int .i64 a2, .int .i64 a3, .int .i64 a4, .int .i64 a5, .int .i64 a6], .int .i64 (k : Int)] w fun e w' =>
      e = .returned (.int .i64 (base a1 a2 a5 a6 k)) ∧ Below w.heap.size w w' := by
  go_enter Try.func24, Try.ntmps24
  go_wp2
  go_loopw [5, 6] (fun t i w' => ∃ j : Nat, 1 ≤ j ∧ j ≤ k ∧ i = .int .i64 (j : Int) ∧ t = .int .i64 (base a1 a2 a5 a6 j) ∧ Below (w.heap.size + 1) (w.alloc (.cells #[.int .i64 a0, .int .i64 a1, .int .i64 a2, .int .i64 a3, .int .i64 a4, .int .i64 a5, .int .i64 a6] 23)) w') (fun _ i _ => k - (intOf i).toNat)
  case atStart => exact ⟨1, by omega, h1, rfl, rfl, Bx.box0 _ _⟩
  case round =>
    obtain ⟨j, j1, j2, rfl, rfl, B⟩ := hrel
    have q := Bx.boxCell B
    have bb := base_bd hok j
    have mb := many_bd hok (j : Int)
    have bs : Hid (base a1 a2 a5 a6 (j + 1) = base a1 a2 a5 a6 j + many a1 a2 a5 a6 (j : Int)) := base_succ a1 a2 a5 a6 j j1
    by_cases hlt : j < k
    · go_wp2_with fail
      refine (refMany _ _ _ _ _ _ _ _ _ hok).mono ?_
      rintro e w1 ⟨rfl, hb1⟩
      have B1 := Bx.boxSeq B hb1
      clear hb1 q B
      go_wp2_with fail
      exact ⟨⟨j + 1, by omega, by omega, by go_num, by rw [bs.out], B1⟩, by simp [intOf]; omega⟩
    · have : j = k := by omega
      subst this
      go_wp2_with fail
      go_ret
      exact ⟨rfl, Bx.boxEnd B⟩
theorem refBase_i (a0 a1 a2 a3 a4 a5 a6 r : Int) (w : World) (hok : Ok a1 a2 a5 a6) (h1 : 1 ≤ r) (h2 : r ≤ 14) :
    Calls Try.prog 24 #[.agg #[.int .i64 a0, .int .i64 a1, .int .i64 a2, .int .i64 a3, .int .i64 a4, .int .i64 a5, .int .i64 a6], .int .i64 r] w fun e w' =>
      e = .returned (.int .i64 (base a1 a2 a5 a6 r.toNat)) ∧ Below w.heap.size w w' := by
  obtain ⟨k, rfl⟩ := Int.eq_ofNat_of_zero_le (show 0 ≤ r by omega)
  exact refBase a0 a1 a2 a3 a4 a5 a6 k w hok (by omega) (by omega)
theorem ret1 {a b : Int} (h : a = b) : Ending.returned (.int .i64 a) = .returned (.int .i64 b) := by rw [h]
theorem size_sum {a1 a2 a5 a6 : Int} (hok : Ok a1 a2 a5 a6) : IntKind.i64.wrap (base a1 a2 a5 a6 ((13 : Int).toNat) + a5) = base a1 a2 a5 a6 14 := by
  have bb := base_bd hok 13
  have e : base a1 a2 a5 a6 14 = base a1 a2 a5 a6 13 + a5 := by
    rw [base_succ _ _ _ _ 13 (by omega)]; simp [many, items, each]
  obtain ⟨o1, o2, o3, o4, o5, o6, o7, o8⟩ := hok
  show IntKind.i64.wrap (base a1 a2 a5 a6 13 + a5) = _
  rw [e, i64w _ (by omega) (by omega)]
set_option maxHeartbeats 1000000 in
theorem refSize (a0 a1 a2 a3 a4 a5 a6 : Int) (w : World) (hok : Ok a1 a2 a5 a6) :
    Calls Try.prog 39 #[.agg #[.int .i64 a0, .int .i64 a1, .int .i64 a2, .int .i64 a3, .int .i64 a4, .int .i64 a5, .int .i64 a6]] w fun e w' =>
      e = .returned (.int .i64 (base a1 a2 a5 a6 14)) ∧ Below w.heap.size w w' := by
  go_enter Try.func39, Try.ntmps39
  go_wp2_with fail
  go_region_held3 (fun W => W.cell? ⟨w.heap.size, 0, none⟩ = some (.int .i64 a0) ∧ W.cell? ⟨w.heap.size, 1, none⟩ = some (.int .i64 a1) ∧ W.cell? ⟨w.heap.size, 2, none⟩ = some (.int .i64 a2) ∧ W.cell? ⟨w.heap.size, 3, none⟩ = some (.int .i64 a3) ∧ W.cell? ⟨w.heap.size, 4, none⟩ = some (.int .i64 a4) ∧ W.cell? ⟨w.heap.size, 5, none⟩ = some (.int .i64 a5) ∧ W.cell? ⟨w.heap.size, 6, none⟩ = some (.int .i64 a6)) (simp [*, go_sem])
    (first
      | (go_at_call 24; refine (refBase_i _ _ _ _ _ _ _ _ _ hok (by omega) (by omega)).mono ?_; rintro e w3 ⟨rfl, hb3⟩; have B3 := Bx.boxSeq (Bx.box0 _ _).drew hb3; clear hb3; have qa := Bx.boxCell B3))
  go_wp2_with fail
  go_ret
  exact ⟨ret1 (size_sum hok), Bx.boxEnd B3⟩
end Go.Proofs.Ytdggempcfmihpaa.Wm
