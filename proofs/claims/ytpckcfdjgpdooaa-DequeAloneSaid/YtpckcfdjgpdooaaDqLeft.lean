/-
  DEQUE: the program's check, size, cellOf, and Left.
-/
import Derived.Test.YtpckcfdjgpdooaaDqRow
import Derived.BigQuiet
namespace Go.Proofs.Ytpckcfdjgpdooaa.Dq
open Go.RowKit Mr
set_option linter.unusedVariables false
set_option linter.unusedSimpArgs false
set_option maxRecDepth 100000
def dV (th rm : Int) : Value := .agg #[.int .i64 th, .int .i64 rm]
theorem bxd_0 (w : World) (th rm : Int) : (w.alloc (.cells #[.int .i64 th, .int .i64 rm] 23)).heap[w.heap.size]? = some (.cells #[.int .i64 th, .int .i64 rm] 23 (0, 0)) := new_at _ _ _ rfl
theorem bxd_below (w : World) (th rm : Int) : Below w.heap.size w (w.alloc (.cells #[.int .i64 th, .int .i64 rm] 23)) := (Below.refl _ _).alloc (Nat.le_refl _) _
set_option maxHeartbeats 4000000 in
theorem check_any (th rm : Int) (w : World) : Calls Try.prog 19 #[dV th rm] w fun e w' => e = .returned (.int .i64 (if dqB th rm = true then 0 else 210)) ∧ Below w.heap.size w w' := by
  have B0 := Mr.hid (bxd_below w th rm)
  have b0 := bxd_0 w th rm
  have c0 := cell_blk b0 0
  have c1 := cell_blk b0 1
  clear b0
  unfold dV
  by_cases h1 : th < 1
  · have d1 : decide (th < 1) = true := decide_eq_true h1
    have hd : dqB th rm = false := by unfold dqB; rw [decide_eq_false (by omega)]; rfl
    rw [hd, if_neg (by decide)]
    go_enter Try.func19, Try.ntmps19
    go_wp2
    go_ret
    exact ⟨rfl, B0.out⟩
  have d1 : decide (th < 1) = false := decide_eq_false h1
  by_cases h2 : 16 < th
  · have d2 : decide (16 < th) = true := decide_eq_true h2
    have hd : dqB th rm = false := by unfold dqB; rw [decide_eq_false (show ¬ th ≤ 16 by omega)]; simp
    rw [hd, if_neg (by decide)]
    go_enter Try.func19, Try.ntmps19
    go_wp2
    go_ret
    exact ⟨rfl, B0.out⟩
  have d2 : decide (16 < th) = false := decide_eq_false h2
  by_cases h3 : rm < 1
  · have d3 : decide (rm < 1) = true := decide_eq_true h3
    have hd : dqB th rm = false := by unfold dqB; rw [decide_eq_false (show ¬ 1 ≤ rm by omega)]; simp
    rw [hd, if_neg (by decide)]
    go_enter Try.func19, Try.ntmps19
    go_wp2
    go_ret
    exact ⟨rfl, B0.out⟩
  have d3 : decide (rm < 1) = false := decide_eq_false h3
  by_cases h4 : 256 < rm
  · have d4 : decide (256 < rm) = true := decide_eq_true h4
    have hd : dqB th rm = false := by unfold dqB; rw [decide_eq_false (show ¬ rm ≤ 256 by omega)]; simp
    rw [hd, if_neg (by decide)]
    go_enter Try.func19, Try.ntmps19
    go_wp2
    go_ret
    exact ⟨rfl, B0.out⟩
  have d4 : decide (256 < rm) = false := decide_eq_false h4
  have hd : dqB th rm = true := by unfold dqB; rw [decide_eq_true (show 1 ≤ th by omega), decide_eq_true (show th ≤ 16 by omega), decide_eq_true (show 1 ≤ rm by omega), decide_eq_true (show rm ≤ 256 by omega)]; rfl
  rw [hd, if_pos rfl]
  go_enter Try.func19, Try.ntmps19
  go_wp2
  go_ret
  exact ⟨rfl, B0.out⟩
set_option maxHeartbeats 4000000 in
theorem rCheck_any (th rm : Int) (w : World) : Calls Try.prog 17 #[dV th rm] w fun e w' => e = .returned (.bool (dqB th rm)) ∧ Below w.heap.size w w' := by
  have B0 := Mr.hid (bxd_below w th rm)
  have b0 := bxd_0 w th rm
  have c0 := cell_blk b0 0
  have c1 := cell_blk b0 1
  clear b0
  unfold dV dqB
  by_cases h1 : 1 ≤ th
  case neg =>
    have d1 : decide (1 ≤ th) = false := decide_eq_false h1
    rw [d1]
    go_enter Try.func17, Try.ntmps17
    go_wp2
    go_ret
    exact ⟨by simp, B0.out⟩
  have d1 : decide (1 ≤ th) = true := decide_eq_true h1
  by_cases h2 : th ≤ 16
  case neg =>
    have d2 : decide (th ≤ 16) = false := decide_eq_false h2
    rw [d1, d2]
    go_enter Try.func17, Try.ntmps17
    go_wp2
    go_ret
    exact ⟨by simp, B0.out⟩
  have d2 : decide (th ≤ 16) = true := decide_eq_true h2
  by_cases h3 : 1 ≤ rm
  case neg =>
    have d3 : decide (1 ≤ rm) = false := decide_eq_false h3
    rw [d1, d2, d3]
    go_enter Try.func17, Try.ntmps17
    go_wp2
    go_ret
    exact ⟨by simp, B0.out⟩
  have d3 : decide (1 ≤ rm) = true := decide_eq_true h3
  by_cases h4 : rm ≤ 256
  case neg =>
    have d4 : decide (rm ≤ 256) = false := decide_eq_false h4
    rw [d1, d2, d3, d4]
    go_enter Try.func17, Try.ntmps17
    go_wp2
    go_ret
    exact ⟨by simp, B0.out⟩
  have d4 : decide (rm ≤ 256) = true := decide_eq_true h4
  rw [d1, d2, d3, d4]
  go_enter Try.func17, Try.ntmps17
  go_wp2
  go_ret
  exact ⟨by simp, B0.out⟩
set_option maxHeartbeats 4000000 in
theorem size_any (th rm : Int) (w : World) (h1 : 1 ≤ rm) (h2 : rm ≤ 256) : Calls Try.prog 21 #[dV th rm] w fun e w' => e = .returned (.int .i64 (2 + rm)) ∧ Below w.heap.size w w' := by
  have B0 := Mr.hid (bxd_below w th rm)
  have b0 := bxd_0 w th rm
  have c1 := cell_blk b0 1
  have hw : IntKind.i64.wrap (2 + rm) = 2 + rm := i64x _ (by omega) (by omega)
  clear b0
  unfold dV
  go_enter Try.func21, Try.ntmps21
  go_wp2
  go_ret
  exact ⟨rfl, B0.out⟩
theorem value_any (x : Int) (w : World) : Calls Try.prog 29 #[.int .u64 x] w fun e w' => e = .returned (.int .i64 (wrap64 x)) ∧ w' = w := by
  go_enter Try.func29, Try.ntmps29
  go_wp2_with fail
  go_ret
  exact ⟨rfl, rfl⟩
set_option maxHeartbeats 4000000 in
theorem cellOf_any (rm n : Nat) (w : World) (h1 : 1 ≤ rm) (h2 : rm ≤ 256) (h3 : n ≤ 1000000) : Calls Try.prog 30 #[.int .i64 (rm : Int), .int .i64 (n : Int)] w fun e w' => e = .returned (.int .i64 ((2 + n % rm : Nat) : Int)) ∧ w' = w := by
  have hr : (rm : Int) ≠ 0 := by omega
  have hm : Hid (n % rm < rm) := Nat.mod_lt _ (by omega)
  have hz : ((rm : Int) == 0) = false := by simpa using hr
  have e1 : ((n : Int)).tmod (rm : Int) = ((n % rm : Nat) : Int) := by rw [Int.tmod_eq_emod_of_nonneg (by omega)]; simp
  have e2 : ((n : Int)) % (rm : Int) = ((n % rm : Nat) : Int) := by simp
  obtain ⟨q, hq⟩ : ∃ q : Nat, q = n % rm := ⟨_, rfl⟩
  rw [← hq] at e1 e2 hm ⊢
  have hw : IntKind.i64.wrap (2 + (q : Int)) = 2 + (q : Int) := i64x _ (by omega) (by have := hm.out; omega)
  have hw0 : IntKind.i64.wrap (q : Int) = (q : Int) := i64x _ (by omega) (by have := hm.out; omega)
  replace hq := Mr.hid hq
  go_enter Try.func30, Try.ntmps30
  go_wp2
  go_ret
  exact ⟨by simp, rfl⟩
end Go.Proofs.Ytpckcfdjgpdooaa.Dq
