import Derived.Test.YtdggempcfmihpaaWordMap
import Derived.Test.YtdggempcfmihpaaWordBox
import Derived.Test.YtdggempcfmihpaaChecked
import Derived.WalkKit
import Derived.WalkSpells
import Derived.OpenShut
import Derived.Deep.QuietTactic
import Derived.BigQuiet
/-
  CONTRACTS of extent and start.
-/
namespace Go.Proofs.Ytdggempcfmihpaa.Wm
open Go.RowKit
set_option linter.unusedVariables false
set_option maxHeartbeats 1000000 in
theorem extent_any (a0 a1 a2 a3 a4 a5 a6 r : Int) (w : World) :
    Calls Try.prog 71 #[.agg #[.int .i64 a0, .int .i64 a1, .int .i64 a2, .int .i64 a3, .int .i64 a4, .int .i64 a5, .int .i64 a6], .int .i64 r] w fun e w' =>
      e = .returned (.tuple #[.int .i64 (items a1 a5 a6 r), .int .i64 (each a2 r)]) ∧ Below w.heap.size w w' := by
  by_cases h9 : r = 9
  · subst h9
    go_enter Try.func71, Try.ntmps71
    go_wp2
    go_quiet (fail)
    go_wp2
    go_ret2
    exact ⟨by simp [items, each], ((Below.refl _ _).alloc (Nat.le_refl _) _).trans (Bx.draws _ _ _)⟩
  by_cases h7 : r = 7
  · subst h7
    go_enter Try.func71, Try.ntmps71
    go_wp2
    go_ret2
    exact ⟨by simp [items, each], (Below.refl _ _).alloc (Nat.le_refl _) _⟩
  by_cases h8 : r = 8
  · subst h8
    go_enter Try.func71, Try.ntmps71
    go_wp2
    go_ret2
    exact ⟨by simp [items, each], (Below.refl _ _).alloc (Nat.le_refl _) _⟩
  have e7 : (r == 7) = false := by simpa using h7
  have e8 : (r == 8) = false := by simpa using h8
  have e9 : (r == 9) = false := by simpa using h9
  by_cases h10 : r = 10
  · subst h10
    go_enter Try.func71, Try.ntmps71
    go_wp2
    go_ret2
    exact ⟨by simp [items, each], (Below.refl _ _).alloc (Nat.le_refl _) _⟩
  have e10 : (r == 10) = false := by simpa using h10
  by_cases h11 : r = 11
  · subst h11
    go_enter Try.func71, Try.ntmps71
    go_wp2
    go_ret2
    exact ⟨by simp [items, each], (Below.refl _ _).alloc (Nat.le_refl _) _⟩
  have e11 : (r == 11) = false := by simpa using h11
  by_cases h12 : r = 12
  · subst h12
    go_enter Try.func71, Try.ntmps71
    go_wp2
    go_ret2
    exact ⟨by simp [items, each], (Below.refl _ _).alloc (Nat.le_refl _) _⟩
  have e12 : (r == 12) = false := by simpa using h12
  by_cases h13 : r = 13
  · subst h13
    go_enter Try.func71, Try.ntmps71
    go_wp2
    go_ret2
    exact ⟨by simp [items, each], (Below.refl _ _).alloc (Nat.le_refl _) _⟩
  have e13 : (r == 13) = false := by simpa using h13
  have hit : items a1 a5 a6 r = 1 := by unfold items; rw [if_neg h7, if_neg h8, if_neg h9, if_neg (by omega)]
  have hea : each a2 r = 1 := by unfold each; rw [if_neg h9]
  rw [hit, hea]
  clear h7 h8 h9 h10 h11 h12 h13 hit hea
  go_enter Try.func71, Try.ntmps71
  go_wp2
  go_ret2
  exact ⟨rfl, (Below.refl _ _).alloc (Nat.le_refl _) _⟩

set_option maxHeartbeats 1000000 in
theorem start_any (a0 a1 a2 a3 a4 a5 a6 : Int) (k : Nat) (w : World) (hok : Ok a1 a2 a5 a6) (h1 : 1 ≤ k) (h2 : k ≤ 14) :
    Calls Try.prog 59 #[.agg #[.int .i64 a0, .int .i64 a1, .int .i64 a2, .int .i64 a3, .int .i64 a4, .int .i64 a5, .int .i64 a6], .int .i64 (k : Int)] w fun e w' =>
      e = .returned (.int .i64 (base a1 a2 a5 a6 k)) ∧ Below w.heap.size w w' := by
  go_enter Try.func59, Try.ntmps59
  go_wp2
  go_loopw [5, 6] (fun t i w' => ∃ j : Nat, 1 ≤ j ∧ j ≤ k ∧ i = .int .i64 (j : Int) ∧ t = .int .i64 (base a1 a2 a5 a6 j) ∧ Below (w.heap.size + 1) (w.alloc (.cells #[.int .i64 a0, .int .i64 a1, .int .i64 a2, .int .i64 a3, .int .i64 a4, .int .i64 a5, .int .i64 a6] 23)) w') (fun _ i _ => k - (intOf i).toNat)
  case atStart => exact ⟨1, by omega, h1, rfl, rfl, Bx.box0 _ _⟩
  case round =>
    obtain ⟨j, j1, j2, rfl, rfl, B⟩ := hrel
    have q := Bx.boxCell B
    have bb := base_bd hok j
    have mb := many_bd hok (j : Int)
    have bs : Hid (base a1 a2 a5 a6 (j + 1) = base a1 a2 a5 a6 j + items a1 a5 a6 (j : Int) * each a2 (j : Int)) := base_succ a1 a2 a5 a6 j j1
    have ib := items_bd hok (j : Int)
    have eb := each_bd hok (j : Int)
    by_cases hlt : j < k
    · go_wp2_with fail
      refine (extent_any _ _ _ _ _ _ _ _ _).mono ?_
      rintro e w1 ⟨rfl, hb1⟩
      have B1 := Bx.boxSeq B hb1
      clear hb1 q B
      have mb2 : items a1 a5 a6 (j : Int) * each a2 (j : Int) ≤ 1024 := mb.2
      have mb1 : 0 ≤ items a1 a5 a6 (j : Int) * each a2 (j : Int) := by have := mb.1; unfold many at this; omega
      clear mb
      go_wp2_with fail
      exact ⟨⟨j + 1, by omega, by omega, by go_num, by rw [bs.out], B1⟩, by simp [intOf]; omega⟩
    · have : j = k := by omega
      subst this
      go_wp2_with fail
      go_ret
      exact ⟨rfl, Bx.boxEnd B⟩
theorem start_i (a0 a1 a2 a3 a4 a5 a6 r : Int) (w : World) (hok : Ok a1 a2 a5 a6) (h1 : 1 ≤ r) (h2 : r ≤ 14) :
    Calls Try.prog 59 #[.agg #[.int .i64 a0, .int .i64 a1, .int .i64 a2, .int .i64 a3, .int .i64 a4, .int .i64 a5, .int .i64 a6], .int .i64 r] w fun e w' =>
      e = .returned (.int .i64 (base a1 a2 a5 a6 r.toNat)) ∧ Below w.heap.size w w' := by
  obtain ⟨k, rfl⟩ := Int.eq_ofNat_of_zero_le (show 0 ≤ r by omega)
  exact start_any a0 a1 a2 a3 a4 a5 a6 k w hok (by omega) (by omega)
end Go.Proofs.Ytdggempcfmihpaa.Wm
