import Derived.Test.YtfgnaffomglmdaaGreatJ04
import Derived.Test.YtfgnaffomglmdaaGreatJ10
import Derived.Deep.RegionHeld3
/-
  Package model: Object, puts.
-/
namespace Go.Proofs.YtfgnaffomglmdaaGreat.Md
open Go.RowKit Mr
set_option linter.unusedVariables false
set_option linter.unusedSimpArgs false
set_option maxHeartbeats 4000000 in
theorem mObj (op : Int) (w : World) : Calls Tryz.prog 47 #[.int .i64 op] w fun e w' => e = .returned (.int .i64 (obj op)) ∧ w' = w := by
  by_cases h : op = 22 ∨ op = 23 ∨ op = 30 ∨ op = 31 ∨ op = 40 ∨ op = 41 ∨ op = 50 ∨ op = 51 ∨ op = 52 ∨ op = 60 ∨ op = 61 ∨ op = 62
  · rcases h with rfl | rfl | rfl | rfl | rfl | rfl | rfl | rfl | rfl | rfl | rfl | rfl
    all_goals
      go_enter Tryz.func47, Tryz.ntmps47
      go_wp2
      go_ret
      exact ⟨rfl, rfl⟩
  · have e : obj op = 0 := by
      unfold obj
      rw [if_neg (by omega), if_neg (by omega), if_neg (by omega), if_neg (by omega), if_neg (by omega)]
    rw [e]
    have d : ∀ k : Int, (k = 22 ∨ k = 23 ∨ k = 30 ∨ k = 31 ∨ k = 40 ∨ k = 41 ∨ k = 50 ∨ k = 51 ∨ k = 52 ∨ k = 60 ∨ k = 61 ∨ k = 62) → (op == k) = false := fun k hk => by
      rw [beq_eq_false_iff_ne]; rintro rfl; exact h hk
    have d0 := d 22 (by simp)
    have d1 := d 23 (by simp)
    have d2 := d 30 (by simp)
    have d3 := d 31 (by simp)
    have d4 := d 40 (by simp)
    have d5 := d 41 (by simp)
    have d6 := d 50 (by simp)
    have d7 := d 51 (by simp)
    have d8 := d 52 (by simp)
    have d9 := d 60 (by simp)
    have da := d 61 (by simp)
    have db := d 62 (by simp)
    clear d h e
    go_enter Tryz.func47, Tryz.ntmps47
    go_wp2
    go_ret
    exact ⟨rfl, rfl⟩
theorem mObject_any (op : Int) (W : World) : Calls Tryz.prog 47 #[.int .i64 op] W fun e w' => e = .returned (.int .i64 (obj op)) ∧ Below W.heap.size W w' :=
  (mObj op W).mono (by rintro e w' ⟨rfl, rfl⟩; exact ⟨rfl, Below.refl _ _⟩)
end Go.Proofs.YtfgnaffomglmdaaGreat.Md
/-
  WITNESS: what is asked of one call or of two.
-/
namespace Go.Proofs.YtfgnaffomglmdaaGreat.Wt
open Go.RowKit Mr Md
set_option linter.unusedVariables false
set_option linter.unusedSimpArgs false
set_option maxRecDepth 100000
theorem ret_bool {a b : Bool} (h : a = b) : Ending.returned (Value.bool a) = Ending.returned (Value.bool b) := by rw [h]
set_option maxHeartbeats 2000000 in
theorem ended_any (c : Cq) (w : World) : Calls Tryz.prog 34 #[c.val] w fun e w' => e = .returned (.bool (endB c)) ∧ Below w.heap.size w w' := by
  obtain ⟨th, op, arg, data, beg, fin, pt, ak, av⟩ := c
  unfold Cq.val
  go_enter Tryz.func34, Tryz.ntmps34
  go_wp2
  go_ret
  exact ⟨rfl, (Below.refl _ _).alloc (Nat.le_refl _) _⟩
set_option maxHeartbeats 2000000 in
theorem ahead_any (c d : Cq) (w : World) : Calls Tryz.prog 35 #[c.val, d.val] w fun e w' => e = .returned (.bool (ahB c d)) ∧ Below w.heap.size w w' := by
  obtain ⟨th, op, arg, data, beg, fin, pt, ak, av⟩ := c
  obtain ⟨th2, op2, arg2, data2, beg2, fin2, pt2, ak2, av2⟩ := d
  unfold Cq.val
  by_cases h : fin = -1
  · have h2 : (fin != -1) = false := by simp [h]
    go_enter Tryz.func35, Tryz.ntmps35
    go_wp2
    go_ret
    refine ⟨ret_bool ?_, (((Below.refl _ _).alloc (Nat.le_refl _) _).alloc (by simp) _).alloc (by simp; omega) _⟩
    simp [ahB, h]
  · have h2 : (fin != -1) = true := by simp [h]
    go_enter Tryz.func35, Tryz.ntmps35
    go_wp2
    go_ret
    refine ⟨ret_bool ?_, (((Below.refl _ _).alloc (Nat.le_refl _) _).alloc (by simp) _).alloc (by simp; omega) _⟩
    simp [ahB, h]
set_option maxHeartbeats 2000000 in
theorem counts_any (c : Cq) (w : World) : Calls Tryz.prog 33 #[c.val] w fun e w' => e = .returned (.bool (obj c.op != 0)) ∧ Below w.heap.size w w' := by
  obtain ⟨th, op, arg, data, beg, fin, pt, ak, av⟩ := c
  unfold Cq.val
  go_enter Tryz.func33, Tryz.ntmps33
  go_wp2_with (go_at_call 47; refine (mObj _ _).mono ?_; rintro e w' ⟨rfl, rfl⟩)
  go_ret
  exact ⟨rfl, (Below.refl _ _).alloc (Nat.le_refl _) _⟩
set_option maxHeartbeats 2000000 in
theorem rCounts_any (c : Cq) (w : World) : Calls Tryz.prog 18 #[c.val] w fun e w' => e = .returned (.bool (obj c.op != 0)) ∧ Below w.heap.size w w' := by
  obtain ⟨th, op, arg, data, beg, fin, pt, ak, av⟩ := c
  unfold Cq.val
  go_enter Tryz.func18, Tryz.ntmps18
  go_wp2_with (go_at_call 28; refine (object_any _ _).mono ?_; rintro e w' ⟨rfl, rfl⟩)
  go_ret
  exact ⟨rfl, (Below.refl _ _).alloc (Nat.le_refl _) _⟩
/-- A call's box behind what was made since. -/
theorem box9 {W w1 : World} {c : Cq} (h : Below (W.alloc (cqO c)).heap.size (W.alloc (cqO c)) w1) : w1.heap[W.heap.size]? = some (cqO c) := (h.block _ (by simp)).trans (new_at _ _ _ rfl)
theorem below_a {n : Nat} {w w' : World} (h : Below n w w') (hn : n ≤ w'.heap.size) (o : Obj) : Below n w (w'.alloc o) := h.alloc hn o
set_option maxHeartbeats 4000000 in
theorem timely_any (c : Cq) (w : World) : Calls Tryz.prog 44 #[c.val] w fun e w' => e = .returned (.bool (decide (Tim c))) ∧ Below w.heap.size w w' := by
  obtain ⟨b, hb⟩ : ∃ b, b = decide (Tim c) := ⟨_, rfl⟩
  rw [← hb]
  replace hb : Hid (b = true ↔ Tim c) := by rw [hb]; exact decide_eq_true_iff
  obtain ⟨th, op, arg, data, beg, fin, pt, ak, av⟩ := c
  unfold Cq.val
  go_enter Tryz.func44, Tryz.ntmps44
  go_wp2
  all_goals
    go_ret
    refine ⟨ret_bool ?_, ?_⟩
    · rw [Bool.eq_iff_iff, hb.out]
      clear hb
      simp only [Tim]
      simp at *
      omega
    · repeat (first | exact Below.refl _ _ | refine below_a ?_ (by simp; try omega) _)
set_option maxHeartbeats 4000000 in
theorem answered_any (c : Cq) (w : World) : Calls Tryz.prog 45 #[c.val] w fun e w' => e = .returned (.bool (decide (Anw c))) ∧ Below w.heap.size w w' := by
  obtain ⟨b, hb⟩ : ∃ b, b = decide (Anw c) := ⟨_, rfl⟩
  rw [← hb]
  replace hb : Hid (b = true ↔ Anw c) := by rw [hb]; exact decide_eq_true_iff
  obtain ⟨th, op, arg, data, beg, fin, pt, ak, av⟩ := c
  unfold Cq.val
  go_enter Tryz.func45, Tryz.ntmps45
  go_wp2
  all_goals
    go_ret
    refine ⟨ret_bool ?_, ?_⟩
    · rw [Bool.eq_iff_iff, hb.out]
      clear hb
      simp only [Anw]
      by_cases h1 : fin = -1 <;> by_cases h2 : ak = 0 <;> by_cases h3 : ak = 2 <;> first | omega | (simp_all; done) | (simp_all; omega) | (simp at *; omega) | (exfalso; have h4 := ‹((fin != -1) == (ak == 0)) = true›; rw [show (fin != -1) = true from by simpa using h1, show (ak == 0) = false from by simpa using h2] at h4; cases h4)
    · repeat (first | exact Below.refl _ _ | refine below_a ?_ (by simp; try omega) _)
set_option maxHeartbeats 4000000 in
theorem mayAlone_any (c : Cq) (w : World) : Calls Tryz.prog 29 #[c.val] w fun e w' => e = .returned (.bool (decide (Fit c))) ∧ Below w.heap.size w w' := by
  obtain ⟨b, hb⟩ : ∃ b, b = decide (Fit c) := ⟨_, rfl⟩
  rw [← hb]
  replace hb : Hid (b = true ↔ Fit c) := by rw [hb]; exact decide_eq_true_iff
  obtain ⟨b1, hb1⟩ : ∃ b, b = decide (Tim c) := ⟨_, rfl⟩
  obtain ⟨b2, hb2⟩ : ∃ b, b = decide (Anw c) := ⟨_, rfl⟩
  have T := fun w => timely_any c w
  have A := fun w => answered_any c w
  rw [← hb1] at T
  rw [← hb2] at A
  replace hb1 : Hid (b1 = true ↔ Tim c) := by rw [hb1]; exact decide_eq_true_iff
  replace hb2 : Hid (b2 = true ↔ Anw c) := by rw [hb2]; exact decide_eq_true_iff
  replace hb : Hid (b = true ↔ 0 ≤ c.th ∧ c.th < 16 ∧ b1 = true ∧ b2 = true) := by rw [hb.out, hb1.out, hb2.out]; exact Iff.rfl
  clear hb1 hb2
  obtain ⟨th, op, arg, data, beg, fin, pt, ak, av⟩ := c
  unfold Cq.val at *
  replace T := Mr.hid T
  replace A := Mr.hid A
  go_enter Tryz.func29, Tryz.ntmps29
  go_wp2_with (first
    | (go_at_call 44; refine (T.out _).mono ?_; rintro e w1 ⟨rfl, hB1⟩; obtain ⟨k0, k1, k2, k3, k4, k5, k6, k7, k8, kl⟩ := cq_cells (box9 (c := ⟨th, op, arg, data, beg, fin, pt, ak, av⟩) hB1); replace hB1 := Mr.hid (((Below.refl _ w).alloc (Nat.le_refl _) _).trans (hB1.mono (by simp))))
    | (go_at_call 45; refine (A.out _).mono ?_; rintro e w2 ⟨rfl, hB2⟩; replace hB1 := Mr.hid (hB1.out.trans (hB2.mono (by have := hB1.out.size; omega)))))
  all_goals
    go_ret
    refine ⟨ret_bool ?_, ?_⟩
    · rw [Bool.eq_iff_iff, hb.out]
      clear hb T A
      cases b1 <;> cases b2 <;> simp_all <;> omega
    · first | exact hB1.out | exact (Below.refl _ _).alloc (Nat.le_refl _) _
end Go.Proofs.YtfgnaffomglmdaaGreat.Wt
