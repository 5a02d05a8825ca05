import Derived.Test.YtpknggcgojkjgaaGreatJ24
import Derived.Test.YtpknggcgojkjgaaGreatJ13
import Derived.Test.YtpknggcgojkjgaaGreatJ19
/-
  CENSUS: the document's bounds.
-/
namespace Go.Proofs.YtpknggcgojkjgaaGreat.Cn
open Go.RowKit Mr Md
set_option linter.unusedVariables false
set_option linter.unusedSimpArgs false
set_option maxRecDepth 100000
set_option maxHeartbeats 8000000 in
theorem rlisted_any {c : Nat → Int} (h : Cfr c) (w : World) : Calls Tryz.prog 38 #[cfgV c] w fun r w' => r = .returned (.int .i64 (bL c)) ∧ Below w.heap.size w w' := by
  have hB : Hid (Below w.heap.size w (w.alloc (cfO c))) := (Below.refl _ w).alloc (Nat.le_refl _) _
  have hb : Hid ((w.alloc (cfO c)).heap[w.heap.size]? = some (cfO c)) := heap_alloc_new _ _
  have F := facts h
  have hl := h.l
  have w0 : IntKind.i64.wrap (c 1 * c 2) = bH c := i64x (bH c) (by omega) (by omega)
  have w1 : IntKind.i64.wrap (bH c + 1) = bH c + 1 := i64x _ (by omega) (by omega)
  have w2 : IntKind.i64.wrap (c 1 - 1) = c 1 - 1 := i64x _ (by omega) (by omega)
  have w3 : IntKind.i64.wrap ((c 1 - 1) * bH c) = (c 1 - 1) * bH c := i64x _ (by omega) (by omega)
  by_cases hc : c 3 < bH c + 1
  · have w4 : IntKind.i64.wrap (bH c + 1 + (c 1 - 1) * bH c) = bH c + 1 + (c 1 - 1) * bH c := i64x _ (by omega) (by omega)
    have hv : bL c = bH c + 1 + (c 1 - 1) * bH c := by unfold bL; rw [Int.max_eq_right (by omega)]
    have d1 : decide (c 3 < bH c + 1) = true := decide_eq_true hc
    rw [hv]
    clear F hl hv
    unfold cfO at hB hb
    unfold cfgV
    go_enter Tryz.func38, Tryz.ntmps38
    go_upto_region 1 with (fail)
    generalize (w.alloc _) = wa at *
    obtain ⟨k0, k1, k2, k3, k4, k5, k6, kl⟩ := cfO_cells (c := c) hb.out
    go_wp2
    go_ret
    exact ⟨rfl, hB.out⟩
  · have w4 : IntKind.i64.wrap (c 3 + (c 1 - 1) * bH c) = c 3 + (c 1 - 1) * bH c := i64x _ (by omega) (by omega)
    have hv : bL c = c 3 + (c 1 - 1) * bH c := by unfold bL; rw [Int.max_eq_left (by omega)]
    have d1 : decide (c 3 < bH c + 1) = false := decide_eq_false hc
    rw [hv]
    clear F hl hv
    unfold cfO at hB hb
    unfold cfgV
    go_enter Tryz.func38, Tryz.ntmps38
    go_upto_region 1 with (fail)
    generalize (w.alloc _) = wa at *
    obtain ⟨k0, k1, k2, k3, k4, k5, k6, kl⟩ := cfO_cells (c := c) hb.out
    go_wp2
    go_ret
    exact ⟨rfl, hB.out⟩
set_option maxHeartbeats 16000000 in
theorem rretired_any {c : Nat → Int} (h : Cfr c) (w : World) : Calls Tryz.prog 39 #[cfgV c] w fun r w' => r = .returned (.int .i64 (bR c)) ∧ Below w.heap.size w w' := by
  have LI := Mr.hid (rlisted_any h)
  have hB : Hid (Below w.heap.size w (w.alloc (cfO c))) := (Below.refl _ w).alloc (Nat.le_refl _) _
  have hb : Hid ((w.alloc (cfO c)).heap[w.heap.size]? = some (cfO c)) := heap_alloc_new _ _
  have F := facts h
  have wr0 : IntKind.i64.wrap (c 1 * bL c) = c 1 * bL c := i64x _ (by omega) (by omega)
  clear F
  unfold cfO at hB hb
  unfold cfgV at LI ⊢
  go_enter Tryz.func39, Tryz.ntmps39
  go_upto_region 1 with (fail)
  generalize (w.alloc _) = wa at *
  obtain ⟨B, hBe⟩ : ∃ B, B = w.heap.size := ⟨_, rfl⟩
  rw [← hBe] at hb hB ⊢
  have hB' : Hid (Below w.heap.size w wa) := by rw [← hBe]; exact hB.out
  replace hBe := Mr.hid hBe
  obtain ⟨k0, k1, k2, k3, k4, k5, k6, kl⟩ := cfO_cells (c := c) hb.out
  have S0 : Below wa.heap.size wa wa.drew := (Below.refl _ _).drew
  refine wp_region_held_drew (S := fun w' => Below wa.heap.size wa w') (by kernel_rfl) S0 (fun hS => ?_)
  clear S0
  try simp only [Act.put, List.getElem_toArray, List.getElem_cons_zero, List.getElem_cons_succ, List.setIfInBounds_toArray, List.set_cons_zero, List.set_cons_succ]
  refine wpAnyH_take (i := 0) (v := .pointer (some ⟨B, 1, none⟩)) rfl (by kernel_rfl) (by kernel_rfl) (by kernel_rfl) (fun _ _ _ h => h) (Or.inl ⟨by kernel_rfl, fun w' hw => ?y0⟩) hS ?_
  case y0 =>
    clear hS
    have z0 := (hw.cell (p := ⟨B, 0, none⟩) kl).trans k0
    have z1 := (hw.cell (p := ⟨B, 1, none⟩) kl).trans k1
    have z2 := (hw.cell (p := ⟨B, 2, none⟩) kl).trans k2
    have z3 := (hw.cell (p := ⟨B, 3, none⟩) kl).trans k3
    have z4 := (hw.cell (p := ⟨B, 4, none⟩) kl).trans k4
    have z5 := (hw.cell (p := ⟨B, 5, none⟩) kl).trans k5
    have z6 := (hw.cell (p := ⟨B, 6, none⟩) kl).trans k6
    clear hw
    go_simp
  try simp only [Act.put, List.getElem_toArray, List.getElem_cons_zero, List.getElem_cons_succ, List.setIfInBounds_toArray, List.set_cons_zero, List.set_cons_succ]
  refine wpAnyH_take (i := 1) (v := .int .i64 (c 1)) rfl (by kernel_rfl) (by kernel_rfl) (by kernel_rfl) (fun _ _ _ h => h) (Or.inl ⟨by kernel_rfl, fun w' hw => ?y1⟩) hS ?_
  case y1 =>
    clear hS
    have z0 := (hw.cell (p := ⟨B, 0, none⟩) kl).trans k0
    have z1 := (hw.cell (p := ⟨B, 1, none⟩) kl).trans k1
    have z2 := (hw.cell (p := ⟨B, 2, none⟩) kl).trans k2
    have z3 := (hw.cell (p := ⟨B, 3, none⟩) kl).trans k3
    have z4 := (hw.cell (p := ⟨B, 4, none⟩) kl).trans k4
    have z5 := (hw.cell (p := ⟨B, 5, none⟩) kl).trans k5
    have z6 := (hw.cell (p := ⟨B, 6, none⟩) kl).trans k6
    clear hw
    go_simp
  try simp only [Act.put, List.getElem_toArray, List.getElem_cons_zero, List.getElem_cons_succ, List.setIfInBounds_toArray, List.set_cons_zero, List.set_cons_succ]
  refine wpAnyH_take (i := 2) (v := .agg #[.int .i64 (c 0), .int .i64 (c 1), .int .i64 (c 2), .int .i64 (c 3), .int .i64 (c 4), .int .i64 (c 5), .int .i64 (c 6)]) rfl (by kernel_rfl) (by kernel_rfl) (by kernel_rfl) (fun _ _ _ h => h) (Or.inl ⟨by kernel_rfl, fun w' hw => ?y2⟩) hS ?_
  case y2 =>
    clear hS
    have z0 := (hw.cell (p := ⟨B, 0, none⟩) kl).trans k0
    have z1 := (hw.cell (p := ⟨B, 1, none⟩) kl).trans k1
    have z2 := (hw.cell (p := ⟨B, 2, none⟩) kl).trans k2
    have z3 := (hw.cell (p := ⟨B, 3, none⟩) kl).trans k3
    have z4 := (hw.cell (p := ⟨B, 4, none⟩) kl).trans k4
    have z5 := (hw.cell (p := ⟨B, 5, none⟩) kl).trans k5
    have z6 := (hw.cell (p := ⟨B, 6, none⟩) kl).trans k6
    clear hw
    go_simp
  try simp only [Act.put, List.getElem_toArray, List.getElem_cons_zero, List.getElem_cons_succ, List.setIfInBounds_toArray, List.set_cons_zero, List.set_cons_succ]
  refine wpAnyH_ready (rs := [3]) (by kernel_rfl) (by simp) ?_
  refine AllReadyH.cons rfl (fun K hK => ?_) AllReadyH.nil
  try simp only [Act.put, List.getElem_toArray, List.getElem_cons_zero, List.getElem_cons_succ, List.setIfInBounds_toArray, List.set_cons_zero, List.set_cons_succ]
  go_simp
  refine (LI.out _).mono ?_
  rintro e3 w3 ⟨rfl, hB3⟩
  refine hK.out _ _ (hS.trans (hB3.mono hS.size)) (fun hS => ?_)
  clear hK K
  try simp only [Act.put, List.getElem_toArray, List.getElem_cons_zero, List.getElem_cons_succ, List.setIfInBounds_toArray, List.set_cons_zero, List.set_cons_succ]
  refine wpAnyH_take (i := 4) (v := .int .i64 (c 1 * bL c)) rfl (by kernel_rfl) (by kernel_rfl) (by kernel_rfl) (fun _ _ _ h => h) (Or.inl ⟨by kernel_rfl, fun w' hw => ?y4⟩) hS ?_
  case y4 =>
    clear hS
    have z0 := (hw.cell (p := ⟨B, 0, none⟩) kl).trans k0
    have z1 := (hw.cell (p := ⟨B, 1, none⟩) kl).trans k1
    have z2 := (hw.cell (p := ⟨B, 2, none⟩) kl).trans k2
    have z3 := (hw.cell (p := ⟨B, 3, none⟩) kl).trans k3
    have z4 := (hw.cell (p := ⟨B, 4, none⟩) kl).trans k4
    have z5 := (hw.cell (p := ⟨B, 5, none⟩) kl).trans k5
    have z6 := (hw.cell (p := ⟨B, 6, none⟩) kl).trans k6
    clear hw
    go_simp
  try simp only [Act.put, List.getElem_toArray, List.getElem_cons_zero, List.getElem_cons_succ, List.setIfInBounds_toArray, List.set_cons_zero, List.set_cons_succ]
  refine wpAnyH_take (i := 5) (v := .int .i64 (c 1 * bL c)) rfl (by kernel_rfl) (by kernel_rfl) (by kernel_rfl) (fun _ _ _ h => h) (Or.inl ⟨by kernel_rfl, fun w' hw => ?y5⟩) hS ?_
  case y5 =>
    clear hS
    have z0 := (hw.cell (p := ⟨B, 0, none⟩) kl).trans k0
    have z1 := (hw.cell (p := ⟨B, 1, none⟩) kl).trans k1
    have z2 := (hw.cell (p := ⟨B, 2, none⟩) kl).trans k2
    have z3 := (hw.cell (p := ⟨B, 3, none⟩) kl).trans k3
    have z4 := (hw.cell (p := ⟨B, 4, none⟩) kl).trans k4
    have z5 := (hw.cell (p := ⟨B, 5, none⟩) kl).trans k5
    have z6 := (hw.cell (p := ⟨B, 6, none⟩) kl).trans k6
    clear hw
    go_simp
  try simp only [Act.put, List.getElem_toArray, List.getElem_cons_zero, List.getElem_cons_succ, List.setIfInBounds_toArray, List.set_cons_zero, List.set_cons_succ]
  refine wpAnyH_done (by kernel_rfl) ?_ _
  have BW0 : Hid (Below w.heap.size w w3) := hB'.out.trans (hS.mono hB'.out.size)
  replace k0 := (hS.cell (p := ⟨B, 0, none⟩) kl).trans k0
  replace k1 := (hS.cell (p := ⟨B, 1, none⟩) kl).trans k1
  replace k2 := (hS.cell (p := ⟨B, 2, none⟩) kl).trans k2
  replace k3 := (hS.cell (p := ⟨B, 3, none⟩) kl).trans k3
  replace k4 := (hS.cell (p := ⟨B, 4, none⟩) kl).trans k4
  replace k5 := (hS.cell (p := ⟨B, 5, none⟩) kl).trans k5
  replace k6 := (hS.cell (p := ⟨B, 6, none⟩) kl).trans k6
  replace kl := Nat.lt_of_lt_of_le kl hS.size
  clear hS
  go_wp2
  go_ret
  exact ⟨rfl, BW0.out⟩
set_option maxHeartbeats 16000000 in
theorem rsolo_any {c : Nat → Int} (h : Cfr c) (w : World) : Calls Tryz.prog 40 #[cfgV c] w fun r w' => r = .returned (.int .i64 (bSo c)) ∧ Below w.heap.size w w' := by
  have LI := Mr.hid (rlisted_any h)
  have hB : Hid (Below w.heap.size w (w.alloc (cfO c))) := (Below.refl _ w).alloc (Nat.le_refl _) _
  have hb : Hid ((w.alloc (cfO c)).heap[w.heap.size]? = some (cfO c)) := heap_alloc_new _ _
  have F := facts h
  have wr0 : IntKind.i64.wrap (c 1 * c 2) = bH c := i64x (bH c) (by omega) (by omega)
  have wr1 : IntKind.i64.wrap (56 * c 5) = 56 * c 5 := i64x _ (by omega) (by omega)
  have wr2 : IntKind.i64.wrap (c 0 + 2) = c 0 + 2 := i64x _ (by omega) (by omega)
  have wr3 : IntKind.i64.wrap (3 * c 1) = 3 * c 1 := i64x _ (by omega) (by omega)
  have wr4 : IntKind.i64.wrap (3 * c 1 + bH c) = 3 * c 1 + bH c := i64x _ (by omega) (by omega)
  have wr5 : IntKind.i64.wrap (3 * bL c) = 3 * bL c := i64x _ (by omega) (by omega)
  have wr6 : IntKind.i64.wrap (3 * c 1 + bH c + 3 * bL c) = bS c := i64x (bS c) (by omega) (by omega)
  have wr7 : IntKind.i64.wrap (bS c + 3) = bS c + 3 := i64x _ (by omega) (by omega)
  have wr8 : IntKind.i64.wrap ((c 0 + 2) * (bS c + 3)) = (c 0 + 2) * (bS c + 3) := i64x _ (by omega) (by omega)
  have wr9 : IntKind.i64.wrap (56 * c 5 + (c 0 + 2) * (bS c + 3)) = 56 * c 5 + (c 0 + 2) * (bS c + 3) := i64x _ (by omega) (by omega)
  have wr10 : IntKind.i64.wrap (3 * c 4) = 3 * c 4 := i64x _ (by omega) (by omega)
  have wr11 : IntKind.i64.wrap (56 * c 5 + (c 0 + 2) * (bS c + 3) + 3 * c 4) = 56 * c 5 + (c 0 + 2) * (bS c + 3) + 3 * c 4 := i64x _ (by omega) (by omega)
  have wr12 : IntKind.i64.wrap (2 * c 1) = 2 * c 1 := i64x _ (by omega) (by omega)
  have wr13 : IntKind.i64.wrap (56 * c 5 + (c 0 + 2) * (bS c + 3) + 3 * c 4 + 2 * c 1) = 56 * c 5 + (c 0 + 2) * (bS c + 3) + 3 * c 4 + 2 * c 1 := i64x _ (by omega) (by omega)
  have wr14 : IntKind.i64.wrap (56 * c 5 + (c 0 + 2) * (bS c + 3) + 3 * c 4 + 2 * c 1 + c 2) = 56 * c 5 + (c 0 + 2) * (bS c + 3) + 3 * c 4 + 2 * c 1 + c 2 := i64x _ (by omega) (by omega)
  have wr15 : IntKind.i64.wrap (56 * c 5 + (c 0 + 2) * (bS c + 3) + 3 * c 4 + 2 * c 1 + c 2 + 100) = 56 * c 5 + (c 0 + 2) * (bS c + 3) + 3 * c 4 + 2 * c 1 + c 2 + 100 := i64x _ (by omega) (by omega)
  clear F
  unfold cfO at hB hb
  unfold cfgV at LI ⊢
  go_enter Tryz.func40, Tryz.ntmps40
  go_upto_region 1 with (fail)
  generalize (w.alloc _) = wa at *
  obtain ⟨B, hBe⟩ : ∃ B, B = w.heap.size := ⟨_, rfl⟩
  rw [← hBe] at hb hB ⊢
  have hB' : Hid (Below w.heap.size w wa) := by rw [← hBe]; exact hB.out
  replace hBe := Mr.hid hBe
  obtain ⟨k0, k1, k2, k3, k4, k5, k6, kl⟩ := cfO_cells (c := c) hb.out
  go_upto_region 2 with (fail)
  have S0 : Below wa.heap.size wa wa.drew := (Below.refl _ _).drew
  refine wp_region_held_drew (S := fun w' => Below wa.heap.size wa w') (by kernel_rfl) S0 (fun hS => ?_)
  clear S0
  try simp only [Act.put, List.getElem_toArray, List.getElem_cons_zero, List.getElem_cons_succ, List.setIfInBounds_toArray, List.set_cons_zero, List.set_cons_succ]
  refine wpAnyH_take (i := 0) (v := .pointer (some ⟨B, 5, none⟩)) rfl (by kernel_rfl) (by kernel_rfl) (by kernel_rfl) (fun _ _ _ h => h) (Or.inl ⟨by kernel_rfl, fun w' hw => ?y0⟩) hS ?_
  case y0 =>
    clear hS
    have z0 := (hw.cell (p := ⟨B, 0, none⟩) kl).trans k0
    have z1 := (hw.cell (p := ⟨B, 1, none⟩) kl).trans k1
    have z2 := (hw.cell (p := ⟨B, 2, none⟩) kl).trans k2
    have z3 := (hw.cell (p := ⟨B, 3, none⟩) kl).trans k3
    have z4 := (hw.cell (p := ⟨B, 4, none⟩) kl).trans k4
    have z5 := (hw.cell (p := ⟨B, 5, none⟩) kl).trans k5
    have z6 := (hw.cell (p := ⟨B, 6, none⟩) kl).trans k6
    clear hw
    go_simp
  try simp only [Act.put, List.getElem_toArray, List.getElem_cons_zero, List.getElem_cons_succ, List.setIfInBounds_toArray, List.set_cons_zero, List.set_cons_succ]
  refine wpAnyH_take (i := 1) (v := .int .i64 (c 5)) rfl (by kernel_rfl) (by kernel_rfl) (by kernel_rfl) (fun _ _ _ h => h) (Or.inl ⟨by kernel_rfl, fun w' hw => ?y1⟩) hS ?_
  case y1 =>
    clear hS
    have z0 := (hw.cell (p := ⟨B, 0, none⟩) kl).trans k0
    have z1 := (hw.cell (p := ⟨B, 1, none⟩) kl).trans k1
    have z2 := (hw.cell (p := ⟨B, 2, none⟩) kl).trans k2
    have z3 := (hw.cell (p := ⟨B, 3, none⟩) kl).trans k3
    have z4 := (hw.cell (p := ⟨B, 4, none⟩) kl).trans k4
    have z5 := (hw.cell (p := ⟨B, 5, none⟩) kl).trans k5
    have z6 := (hw.cell (p := ⟨B, 6, none⟩) kl).trans k6
    clear hw
    go_simp
  try simp only [Act.put, List.getElem_toArray, List.getElem_cons_zero, List.getElem_cons_succ, List.setIfInBounds_toArray, List.set_cons_zero, List.set_cons_succ]
  refine wpAnyH_take (i := 2) (v := .int .i64 (56 * c 5)) rfl (by kernel_rfl) (by kernel_rfl) (by kernel_rfl) (fun _ _ _ h => h) (Or.inl ⟨by kernel_rfl, fun w' hw => ?y2⟩) hS ?_
  case y2 =>
    clear hS
    have z0 := (hw.cell (p := ⟨B, 0, none⟩) kl).trans k0
    have z1 := (hw.cell (p := ⟨B, 1, none⟩) kl).trans k1
    have z2 := (hw.cell (p := ⟨B, 2, none⟩) kl).trans k2
    have z3 := (hw.cell (p := ⟨B, 3, none⟩) kl).trans k3
    have z4 := (hw.cell (p := ⟨B, 4, none⟩) kl).trans k4
    have z5 := (hw.cell (p := ⟨B, 5, none⟩) kl).trans k5
    have z6 := (hw.cell (p := ⟨B, 6, none⟩) kl).trans k6
    clear hw
    go_simp
  try simp only [Act.put, List.getElem_toArray, List.getElem_cons_zero, List.getElem_cons_succ, List.setIfInBounds_toArray, List.set_cons_zero, List.set_cons_succ]
  refine wpAnyH_take (i := 3) (v := .pointer (some ⟨B, 0, none⟩)) rfl (by kernel_rfl) (by kernel_rfl) (by kernel_rfl) (fun _ _ _ h => h) (Or.inl ⟨by kernel_rfl, fun w' hw => ?y3⟩) hS ?_
  case y3 =>
    clear hS
    have z0 := (hw.cell (p := ⟨B, 0, none⟩) kl).trans k0
    have z1 := (hw.cell (p := ⟨B, 1, none⟩) kl).trans k1
    have z2 := (hw.cell (p := ⟨B, 2, none⟩) kl).trans k2
    have z3 := (hw.cell (p := ⟨B, 3, none⟩) kl).trans k3
    have z4 := (hw.cell (p := ⟨B, 4, none⟩) kl).trans k4
    have z5 := (hw.cell (p := ⟨B, 5, none⟩) kl).trans k5
    have z6 := (hw.cell (p := ⟨B, 6, none⟩) kl).trans k6
    clear hw
    go_simp
  try simp only [Act.put, List.getElem_toArray, List.getElem_cons_zero, List.getElem_cons_succ, List.setIfInBounds_toArray, List.set_cons_zero, List.set_cons_succ]
  refine wpAnyH_take (i := 4) (v := .int .i64 (c 0)) rfl (by kernel_rfl) (by kernel_rfl) (by kernel_rfl) (fun _ _ _ h => h) (Or.inl ⟨by kernel_rfl, fun w' hw => ?y4⟩) hS ?_
  case y4 =>
    clear hS
    have z0 := (hw.cell (p := ⟨B, 0, none⟩) kl).trans k0
    have z1 := (hw.cell (p := ⟨B, 1, none⟩) kl).trans k1
    have z2 := (hw.cell (p := ⟨B, 2, none⟩) kl).trans k2
    have z3 := (hw.cell (p := ⟨B, 3, none⟩) kl).trans k3
    have z4 := (hw.cell (p := ⟨B, 4, none⟩) kl).trans k4
    have z5 := (hw.cell (p := ⟨B, 5, none⟩) kl).trans k5
    have z6 := (hw.cell (p := ⟨B, 6, none⟩) kl).trans k6
    clear hw
    go_simp
  try simp only [Act.put, List.getElem_toArray, List.getElem_cons_zero, List.getElem_cons_succ, List.setIfInBounds_toArray, List.set_cons_zero, List.set_cons_succ]
  refine wpAnyH_take (i := 5) (v := .int .i64 (c 0 + 2)) rfl (by kernel_rfl) (by kernel_rfl) (by kernel_rfl) (fun _ _ _ h => h) (Or.inl ⟨by kernel_rfl, fun w' hw => ?y5⟩) hS ?_
  case y5 =>
    clear hS
    have z0 := (hw.cell (p := ⟨B, 0, none⟩) kl).trans k0
    have z1 := (hw.cell (p := ⟨B, 1, none⟩) kl).trans k1
    have z2 := (hw.cell (p := ⟨B, 2, none⟩) kl).trans k2
    have z3 := (hw.cell (p := ⟨B, 3, none⟩) kl).trans k3
    have z4 := (hw.cell (p := ⟨B, 4, none⟩) kl).trans k4
    have z5 := (hw.cell (p := ⟨B, 5, none⟩) kl).trans k5
    have z6 := (hw.cell (p := ⟨B, 6, none⟩) kl).trans k6
    clear hw
    go_simp
  try simp only [Act.put, List.getElem_toArray, List.getElem_cons_zero, List.getElem_cons_succ, List.setIfInBounds_toArray, List.set_cons_zero, List.set_cons_succ]
  refine wpAnyH_take (i := 6) (v := .pointer (some ⟨B, 1, none⟩)) rfl (by kernel_rfl) (by kernel_rfl) (by kernel_rfl) (fun _ _ _ h => h) (Or.inl ⟨by kernel_rfl, fun w' hw => ?y6⟩) hS ?_
  case y6 =>
    clear hS
    have z0 := (hw.cell (p := ⟨B, 0, none⟩) kl).trans k0
    have z1 := (hw.cell (p := ⟨B, 1, none⟩) kl).trans k1
    have z2 := (hw.cell (p := ⟨B, 2, none⟩) kl).trans k2
    have z3 := (hw.cell (p := ⟨B, 3, none⟩) kl).trans k3
    have z4 := (hw.cell (p := ⟨B, 4, none⟩) kl).trans k4
    have z5 := (hw.cell (p := ⟨B, 5, none⟩) kl).trans k5
    have z6 := (hw.cell (p := ⟨B, 6, none⟩) kl).trans k6
    clear hw
    go_simp
  try simp only [Act.put, List.getElem_toArray, List.getElem_cons_zero, List.getElem_cons_succ, List.setIfInBounds_toArray, List.set_cons_zero, List.set_cons_succ]
  refine wpAnyH_take (i := 7) (v := .int .i64 (c 1)) rfl (by kernel_rfl) (by kernel_rfl) (by kernel_rfl) (fun _ _ _ h => h) (Or.inl ⟨by kernel_rfl, fun w' hw => ?y7⟩) hS ?_
  case y7 =>
    clear hS
    have z0 := (hw.cell (p := ⟨B, 0, none⟩) kl).trans k0
    have z1 := (hw.cell (p := ⟨B, 1, none⟩) kl).trans k1
    have z2 := (hw.cell (p := ⟨B, 2, none⟩) kl).trans k2
    have z3 := (hw.cell (p := ⟨B, 3, none⟩) kl).trans k3
    have z4 := (hw.cell (p := ⟨B, 4, none⟩) kl).trans k4
    have z5 := (hw.cell (p := ⟨B, 5, none⟩) kl).trans k5
    have z6 := (hw.cell (p := ⟨B, 6, none⟩) kl).trans k6
    clear hw
    go_simp
  try simp only [Act.put, List.getElem_toArray, List.getElem_cons_zero, List.getElem_cons_succ, List.setIfInBounds_toArray, List.set_cons_zero, List.set_cons_succ]
  refine wpAnyH_take (i := 8) (v := .int .i64 (3 * c 1)) rfl (by kernel_rfl) (by kernel_rfl) (by kernel_rfl) (fun _ _ _ h => h) (Or.inl ⟨by kernel_rfl, fun w' hw => ?y8⟩) hS ?_
  case y8 =>
    clear hS
    have z0 := (hw.cell (p := ⟨B, 0, none⟩) kl).trans k0
    have z1 := (hw.cell (p := ⟨B, 1, none⟩) kl).trans k1
    have z2 := (hw.cell (p := ⟨B, 2, none⟩) kl).trans k2
    have z3 := (hw.cell (p := ⟨B, 3, none⟩) kl).trans k3
    have z4 := (hw.cell (p := ⟨B, 4, none⟩) kl).trans k4
    have z5 := (hw.cell (p := ⟨B, 5, none⟩) kl).trans k5
    have z6 := (hw.cell (p := ⟨B, 6, none⟩) kl).trans k6
    clear hw
    go_simp
  try simp only [Act.put, List.getElem_toArray, List.getElem_cons_zero, List.getElem_cons_succ, List.setIfInBounds_toArray, List.set_cons_zero, List.set_cons_succ]
  refine wpAnyH_take (i := 9) (v := .int .i64 (bH c)) rfl (by kernel_rfl) (by kernel_rfl) (by kernel_rfl) (fun _ _ _ h => h) (Or.inl ⟨by kernel_rfl, fun w' hw => ?y9⟩) hS ?_
  case y9 =>
    clear hS
    have z0 := (hw.cell (p := ⟨B, 0, none⟩) kl).trans k0
    have z1 := (hw.cell (p := ⟨B, 1, none⟩) kl).trans k1
    have z2 := (hw.cell (p := ⟨B, 2, none⟩) kl).trans k2
    have z3 := (hw.cell (p := ⟨B, 3, none⟩) kl).trans k3
    have z4 := (hw.cell (p := ⟨B, 4, none⟩) kl).trans k4
    have z5 := (hw.cell (p := ⟨B, 5, none⟩) kl).trans k5
    have z6 := (hw.cell (p := ⟨B, 6, none⟩) kl).trans k6
    clear hw
    go_simp
  try simp only [Act.put, List.getElem_toArray, List.getElem_cons_zero, List.getElem_cons_succ, List.setIfInBounds_toArray, List.set_cons_zero, List.set_cons_succ]
  refine wpAnyH_take (i := 10) (v := .int .i64 (3 * c 1 + bH c)) rfl (by kernel_rfl) (by kernel_rfl) (by kernel_rfl) (fun _ _ _ h => h) (Or.inl ⟨by kernel_rfl, fun w' hw => ?y10⟩) hS ?_
  case y10 =>
    clear hS
    have z0 := (hw.cell (p := ⟨B, 0, none⟩) kl).trans k0
    have z1 := (hw.cell (p := ⟨B, 1, none⟩) kl).trans k1
    have z2 := (hw.cell (p := ⟨B, 2, none⟩) kl).trans k2
    have z3 := (hw.cell (p := ⟨B, 3, none⟩) kl).trans k3
    have z4 := (hw.cell (p := ⟨B, 4, none⟩) kl).trans k4
    have z5 := (hw.cell (p := ⟨B, 5, none⟩) kl).trans k5
    have z6 := (hw.cell (p := ⟨B, 6, none⟩) kl).trans k6
    clear hw
    go_simp
  try simp only [Act.put, List.getElem_toArray, List.getElem_cons_zero, List.getElem_cons_succ, List.setIfInBounds_toArray, List.set_cons_zero, List.set_cons_succ]
  refine wpAnyH_take (i := 11) (v := .agg #[.int .i64 (c 0), .int .i64 (c 1), .int .i64 (c 2), .int .i64 (c 3), .int .i64 (c 4), .int .i64 (c 5), .int .i64 (c 6)]) rfl (by kernel_rfl) (by kernel_rfl) (by kernel_rfl) (fun _ _ _ h => h) (Or.inl ⟨by kernel_rfl, fun w' hw => ?y11⟩) hS ?_
  case y11 =>
    clear hS
    have z0 := (hw.cell (p := ⟨B, 0, none⟩) kl).trans k0
    have z1 := (hw.cell (p := ⟨B, 1, none⟩) kl).trans k1
    have z2 := (hw.cell (p := ⟨B, 2, none⟩) kl).trans k2
    have z3 := (hw.cell (p := ⟨B, 3, none⟩) kl).trans k3
    have z4 := (hw.cell (p := ⟨B, 4, none⟩) kl).trans k4
    have z5 := (hw.cell (p := ⟨B, 5, none⟩) kl).trans k5
    have z6 := (hw.cell (p := ⟨B, 6, none⟩) kl).trans k6
    clear hw
    go_simp
  try simp only [Act.put, List.getElem_toArray, List.getElem_cons_zero, List.getElem_cons_succ, List.setIfInBounds_toArray, List.set_cons_zero, List.set_cons_succ]
  refine wpAnyH_take (i := 18) (v := .pointer (some ⟨B, 4, none⟩)) rfl (by kernel_rfl) (by kernel_rfl) (by kernel_rfl) (fun _ _ _ h => h) (Or.inl ⟨by kernel_rfl, fun w' hw => ?y18⟩) hS ?_
  case y18 =>
    clear hS
    have z0 := (hw.cell (p := ⟨B, 0, none⟩) kl).trans k0
    have z1 := (hw.cell (p := ⟨B, 1, none⟩) kl).trans k1
    have z2 := (hw.cell (p := ⟨B, 2, none⟩) kl).trans k2
    have z3 := (hw.cell (p := ⟨B, 3, none⟩) kl).trans k3
    have z4 := (hw.cell (p := ⟨B, 4, none⟩) kl).trans k4
    have z5 := (hw.cell (p := ⟨B, 5, none⟩) kl).trans k5
    have z6 := (hw.cell (p := ⟨B, 6, none⟩) kl).trans k6
    clear hw
    go_simp
  try simp only [Act.put, List.getElem_toArray, List.getElem_cons_zero, List.getElem_cons_succ, List.setIfInBounds_toArray, List.set_cons_zero, List.set_cons_succ]
  refine wpAnyH_take (i := 19) (v := .int .i64 (c 4)) rfl (by kernel_rfl) (by kernel_rfl) (by kernel_rfl) (fun _ _ _ h => h) (Or.inl ⟨by kernel_rfl, fun w' hw => ?y19⟩) hS ?_
  case y19 =>
    clear hS
    have z0 := (hw.cell (p := ⟨B, 0, none⟩) kl).trans k0
    have z1 := (hw.cell (p := ⟨B, 1, none⟩) kl).trans k1
    have z2 := (hw.cell (p := ⟨B, 2, none⟩) kl).trans k2
    have z3 := (hw.cell (p := ⟨B, 3, none⟩) kl).trans k3
    have z4 := (hw.cell (p := ⟨B, 4, none⟩) kl).trans k4
    have z5 := (hw.cell (p := ⟨B, 5, none⟩) kl).trans k5
    have z6 := (hw.cell (p := ⟨B, 6, none⟩) kl).trans k6
    clear hw
    go_simp
  try simp only [Act.put, List.getElem_toArray, List.getElem_cons_zero, List.getElem_cons_succ, List.setIfInBounds_toArray, List.set_cons_zero, List.set_cons_succ]
  refine wpAnyH_take (i := 20) (v := .int .i64 (3 * c 4)) rfl (by kernel_rfl) (by kernel_rfl) (by kernel_rfl) (fun _ _ _ h => h) (Or.inl ⟨by kernel_rfl, fun w' hw => ?y20⟩) hS ?_
  case y20 =>
    clear hS
    have z0 := (hw.cell (p := ⟨B, 0, none⟩) kl).trans k0
    have z1 := (hw.cell (p := ⟨B, 1, none⟩) kl).trans k1
    have z2 := (hw.cell (p := ⟨B, 2, none⟩) kl).trans k2
    have z3 := (hw.cell (p := ⟨B, 3, none⟩) kl).trans k3
    have z4 := (hw.cell (p := ⟨B, 4, none⟩) kl).trans k4
    have z5 := (hw.cell (p := ⟨B, 5, none⟩) kl).trans k5
    have z6 := (hw.cell (p := ⟨B, 6, none⟩) kl).trans k6
    clear hw
    go_simp
  try simp only [Act.put, List.getElem_toArray, List.getElem_cons_zero, List.getElem_cons_succ, List.setIfInBounds_toArray, List.set_cons_zero, List.set_cons_succ]
  refine wpAnyH_take (i := 22) (v := .pointer (some ⟨B, 1, none⟩)) rfl (by kernel_rfl) (by kernel_rfl) (by kernel_rfl) (fun _ _ _ h => h) (Or.inl ⟨by kernel_rfl, fun w' hw => ?y22⟩) hS ?_
  case y22 =>
    clear hS
    have z0 := (hw.cell (p := ⟨B, 0, none⟩) kl).trans k0
    have z1 := (hw.cell (p := ⟨B, 1, none⟩) kl).trans k1
    have z2 := (hw.cell (p := ⟨B, 2, none⟩) kl).trans k2
    have z3 := (hw.cell (p := ⟨B, 3, none⟩) kl).trans k3
    have z4 := (hw.cell (p := ⟨B, 4, none⟩) kl).trans k4
    have z5 := (hw.cell (p := ⟨B, 5, none⟩) kl).trans k5
    have z6 := (hw.cell (p := ⟨B, 6, none⟩) kl).trans k6
    clear hw
    go_simp
  try simp only [Act.put, List.getElem_toArray, List.getElem_cons_zero, List.getElem_cons_succ, List.setIfInBounds_toArray, List.set_cons_zero, List.set_cons_succ]
  refine wpAnyH_take (i := 23) (v := .int .i64 (c 1)) rfl (by kernel_rfl) (by kernel_rfl) (by kernel_rfl) (fun _ _ _ h => h) (Or.inl ⟨by kernel_rfl, fun w' hw => ?y23⟩) hS ?_
  case y23 =>
    clear hS
    have z0 := (hw.cell (p := ⟨B, 0, none⟩) kl).trans k0
    have z1 := (hw.cell (p := ⟨B, 1, none⟩) kl).trans k1
    have z2 := (hw.cell (p := ⟨B, 2, none⟩) kl).trans k2
    have z3 := (hw.cell (p := ⟨B, 3, none⟩) kl).trans k3
    have z4 := (hw.cell (p := ⟨B, 4, none⟩) kl).trans k4
    have z5 := (hw.cell (p := ⟨B, 5, none⟩) kl).trans k5
    have z6 := (hw.cell (p := ⟨B, 6, none⟩) kl).trans k6
    clear hw
    go_simp
  try simp only [Act.put, List.getElem_toArray, List.getElem_cons_zero, List.getElem_cons_succ, List.setIfInBounds_toArray, List.set_cons_zero, List.set_cons_succ]
  refine wpAnyH_take (i := 24) (v := .int .i64 (2 * c 1)) rfl (by kernel_rfl) (by kernel_rfl) (by kernel_rfl) (fun _ _ _ h => h) (Or.inl ⟨by kernel_rfl, fun w' hw => ?y24⟩) hS ?_
  case y24 =>
    clear hS
    have z0 := (hw.cell (p := ⟨B, 0, none⟩) kl).trans k0
    have z1 := (hw.cell (p := ⟨B, 1, none⟩) kl).trans k1
    have z2 := (hw.cell (p := ⟨B, 2, none⟩) kl).trans k2
    have z3 := (hw.cell (p := ⟨B, 3, none⟩) kl).trans k3
    have z4 := (hw.cell (p := ⟨B, 4, none⟩) kl).trans k4
    have z5 := (hw.cell (p := ⟨B, 5, none⟩) kl).trans k5
    have z6 := (hw.cell (p := ⟨B, 6, none⟩) kl).trans k6
    clear hw
    go_simp
  try simp only [Act.put, List.getElem_toArray, List.getElem_cons_zero, List.getElem_cons_succ, List.setIfInBounds_toArray, List.set_cons_zero, List.set_cons_succ]
  refine wpAnyH_take (i := 26) (v := .pointer (some ⟨B, 2, none⟩)) rfl (by kernel_rfl) (by kernel_rfl) (by kernel_rfl) (fun _ _ _ h => h) (Or.inl ⟨by kernel_rfl, fun w' hw => ?y26⟩) hS ?_
  case y26 =>
    clear hS
    have z0 := (hw.cell (p := ⟨B, 0, none⟩) kl).trans k0
    have z1 := (hw.cell (p := ⟨B, 1, none⟩) kl).trans k1
    have z2 := (hw.cell (p := ⟨B, 2, none⟩) kl).trans k2
    have z3 := (hw.cell (p := ⟨B, 3, none⟩) kl).trans k3
    have z4 := (hw.cell (p := ⟨B, 4, none⟩) kl).trans k4
    have z5 := (hw.cell (p := ⟨B, 5, none⟩) kl).trans k5
    have z6 := (hw.cell (p := ⟨B, 6, none⟩) kl).trans k6
    clear hw
    go_simp
  try simp only [Act.put, List.getElem_toArray, List.getElem_cons_zero, List.getElem_cons_succ, List.setIfInBounds_toArray, List.set_cons_zero, List.set_cons_succ]
  refine wpAnyH_take (i := 27) (v := .int .i64 (c 2)) rfl (by kernel_rfl) (by kernel_rfl) (by kernel_rfl) (fun _ _ _ h => h) (Or.inl ⟨by kernel_rfl, fun w' hw => ?y27⟩) hS ?_
  case y27 =>
    clear hS
    have z0 := (hw.cell (p := ⟨B, 0, none⟩) kl).trans k0
    have z1 := (hw.cell (p := ⟨B, 1, none⟩) kl).trans k1
    have z2 := (hw.cell (p := ⟨B, 2, none⟩) kl).trans k2
    have z3 := (hw.cell (p := ⟨B, 3, none⟩) kl).trans k3
    have z4 := (hw.cell (p := ⟨B, 4, none⟩) kl).trans k4
    have z5 := (hw.cell (p := ⟨B, 5, none⟩) kl).trans k5
    have z6 := (hw.cell (p := ⟨B, 6, none⟩) kl).trans k6
    clear hw
    go_simp
  try simp only [Act.put, List.getElem_toArray, List.getElem_cons_zero, List.getElem_cons_succ, List.setIfInBounds_toArray, List.set_cons_zero, List.set_cons_succ]
  refine wpAnyH_ready (rs := [12]) (by kernel_rfl) (by simp) ?_
  refine AllReadyH.cons rfl (fun K hK => ?_) AllReadyH.nil
  try simp only [Act.put, List.getElem_toArray, List.getElem_cons_zero, List.getElem_cons_succ, List.setIfInBounds_toArray, List.set_cons_zero, List.set_cons_succ]
  go_simp
  refine (LI.out _).mono ?_
  rintro e12 w12 ⟨rfl, hB12⟩
  refine hK.out _ _ (hS.trans (hB12.mono hS.size)) (fun hS => ?_)
  clear hK K
  try simp only [Act.put, List.getElem_toArray, List.getElem_cons_zero, List.getElem_cons_succ, List.setIfInBounds_toArray, List.set_cons_zero, List.set_cons_succ]
  refine wpAnyH_take (i := 13) (v := .int .i64 (3 * bL c)) rfl (by kernel_rfl) (by kernel_rfl) (by kernel_rfl) (fun _ _ _ h => h) (Or.inl ⟨by kernel_rfl, fun w' hw => ?y13⟩) hS ?_
  case y13 =>
    clear hS
    have z0 := (hw.cell (p := ⟨B, 0, none⟩) kl).trans k0
    have z1 := (hw.cell (p := ⟨B, 1, none⟩) kl).trans k1
    have z2 := (hw.cell (p := ⟨B, 2, none⟩) kl).trans k2
    have z3 := (hw.cell (p := ⟨B, 3, none⟩) kl).trans k3
    have z4 := (hw.cell (p := ⟨B, 4, none⟩) kl).trans k4
    have z5 := (hw.cell (p := ⟨B, 5, none⟩) kl).trans k5
    have z6 := (hw.cell (p := ⟨B, 6, none⟩) kl).trans k6
    clear hw
    go_simp
  try simp only [Act.put, List.getElem_toArray, List.getElem_cons_zero, List.getElem_cons_succ, List.setIfInBounds_toArray, List.set_cons_zero, List.set_cons_succ]
  refine wpAnyH_take (i := 14) (v := .int .i64 (bS c)) rfl (by kernel_rfl) (by kernel_rfl) (by kernel_rfl) (fun _ _ _ h => h) (Or.inl ⟨by kernel_rfl, fun w' hw => ?y14⟩) hS ?_
  case y14 =>
    clear hS
    have z0 := (hw.cell (p := ⟨B, 0, none⟩) kl).trans k0
    have z1 := (hw.cell (p := ⟨B, 1, none⟩) kl).trans k1
    have z2 := (hw.cell (p := ⟨B, 2, none⟩) kl).trans k2
    have z3 := (hw.cell (p := ⟨B, 3, none⟩) kl).trans k3
    have z4 := (hw.cell (p := ⟨B, 4, none⟩) kl).trans k4
    have z5 := (hw.cell (p := ⟨B, 5, none⟩) kl).trans k5
    have z6 := (hw.cell (p := ⟨B, 6, none⟩) kl).trans k6
    clear hw
    go_simp
  try simp only [Act.put, List.getElem_toArray, List.getElem_cons_zero, List.getElem_cons_succ, List.setIfInBounds_toArray, List.set_cons_zero, List.set_cons_succ]
  refine wpAnyH_take (i := 15) (v := .int .i64 (bS c + 3)) rfl (by kernel_rfl) (by kernel_rfl) (by kernel_rfl) (fun _ _ _ h => h) (Or.inl ⟨by kernel_rfl, fun w' hw => ?y15⟩) hS ?_
  case y15 =>
    clear hS
    have z0 := (hw.cell (p := ⟨B, 0, none⟩) kl).trans k0
    have z1 := (hw.cell (p := ⟨B, 1, none⟩) kl).trans k1
    have z2 := (hw.cell (p := ⟨B, 2, none⟩) kl).trans k2
    have z3 := (hw.cell (p := ⟨B, 3, none⟩) kl).trans k3
    have z4 := (hw.cell (p := ⟨B, 4, none⟩) kl).trans k4
    have z5 := (hw.cell (p := ⟨B, 5, none⟩) kl).trans k5
    have z6 := (hw.cell (p := ⟨B, 6, none⟩) kl).trans k6
    clear hw
    go_simp
  try simp only [Act.put, List.getElem_toArray, List.getElem_cons_zero, List.getElem_cons_succ, List.setIfInBounds_toArray, List.set_cons_zero, List.set_cons_succ]
  refine wpAnyH_take (i := 16) (v := .int .i64 ((c 0 + 2) * (bS c + 3))) rfl (by kernel_rfl) (by kernel_rfl) (by kernel_rfl) (fun _ _ _ h => h) (Or.inl ⟨by kernel_rfl, fun w' hw => ?y16⟩) hS ?_
  case y16 =>
    clear hS
    have z0 := (hw.cell (p := ⟨B, 0, none⟩) kl).trans k0
    have z1 := (hw.cell (p := ⟨B, 1, none⟩) kl).trans k1
    have z2 := (hw.cell (p := ⟨B, 2, none⟩) kl).trans k2
    have z3 := (hw.cell (p := ⟨B, 3, none⟩) kl).trans k3
    have z4 := (hw.cell (p := ⟨B, 4, none⟩) kl).trans k4
    have z5 := (hw.cell (p := ⟨B, 5, none⟩) kl).trans k5
    have z6 := (hw.cell (p := ⟨B, 6, none⟩) kl).trans k6
    clear hw
    go_simp
  try simp only [Act.put, List.getElem_toArray, List.getElem_cons_zero, List.getElem_cons_succ, List.setIfInBounds_toArray, List.set_cons_zero, List.set_cons_succ]
  refine wpAnyH_take (i := 17) (v := .int .i64 (56 * c 5 + (c 0 + 2) * (bS c + 3))) rfl (by kernel_rfl) (by kernel_rfl) (by kernel_rfl) (fun _ _ _ h => h) (Or.inl ⟨by kernel_rfl, fun w' hw => ?y17⟩) hS ?_
  case y17 =>
    clear hS
    have z0 := (hw.cell (p := ⟨B, 0, none⟩) kl).trans k0
    have z1 := (hw.cell (p := ⟨B, 1, none⟩) kl).trans k1
    have z2 := (hw.cell (p := ⟨B, 2, none⟩) kl).trans k2
    have z3 := (hw.cell (p := ⟨B, 3, none⟩) kl).trans k3
    have z4 := (hw.cell (p := ⟨B, 4, none⟩) kl).trans k4
    have z5 := (hw.cell (p := ⟨B, 5, none⟩) kl).trans k5
    have z6 := (hw.cell (p := ⟨B, 6, none⟩) kl).trans k6
    clear hw
    go_simp
  try simp only [Act.put, List.getElem_toArray, List.getElem_cons_zero, List.getElem_cons_succ, List.setIfInBounds_toArray, List.set_cons_zero, List.set_cons_succ]
  refine wpAnyH_take (i := 21) (v := .int .i64 (56 * c 5 + (c 0 + 2) * (bS c + 3) + 3 * c 4)) rfl (by kernel_rfl) (by kernel_rfl) (by kernel_rfl) (fun _ _ _ h => h) (Or.inl ⟨by kernel_rfl, fun w' hw => ?y21⟩) hS ?_
  case y21 =>
    clear hS
    have z0 := (hw.cell (p := ⟨B, 0, none⟩) kl).trans k0
    have z1 := (hw.cell (p := ⟨B, 1, none⟩) kl).trans k1
    have z2 := (hw.cell (p := ⟨B, 2, none⟩) kl).trans k2
    have z3 := (hw.cell (p := ⟨B, 3, none⟩) kl).trans k3
    have z4 := (hw.cell (p := ⟨B, 4, none⟩) kl).trans k4
    have z5 := (hw.cell (p := ⟨B, 5, none⟩) kl).trans k5
    have z6 := (hw.cell (p := ⟨B, 6, none⟩) kl).trans k6
    clear hw
    go_simp
  try simp only [Act.put, List.getElem_toArray, List.getElem_cons_zero, List.getElem_cons_succ, List.setIfInBounds_toArray, List.set_cons_zero, List.set_cons_succ]
  refine wpAnyH_take (i := 25) (v := .int .i64 (56 * c 5 + (c 0 + 2) * (bS c + 3) + 3 * c 4 + 2 * c 1)) rfl (by kernel_rfl) (by kernel_rfl) (by kernel_rfl) (fun _ _ _ h => h) (Or.inl ⟨by kernel_rfl, fun w' hw => ?y25⟩) hS ?_
  case y25 =>
    clear hS
    have z0 := (hw.cell (p := ⟨B, 0, none⟩) kl).trans k0
    have z1 := (hw.cell (p := ⟨B, 1, none⟩) kl).trans k1
    have z2 := (hw.cell (p := ⟨B, 2, none⟩) kl).trans k2
    have z3 := (hw.cell (p := ⟨B, 3, none⟩) kl).trans k3
    have z4 := (hw.cell (p := ⟨B, 4, none⟩) kl).trans k4
    have z5 := (hw.cell (p := ⟨B, 5, none⟩) kl).trans k5
    have z6 := (hw.cell (p := ⟨B, 6, none⟩) kl).trans k6
    clear hw
    go_simp
  try simp only [Act.put, List.getElem_toArray, List.getElem_cons_zero, List.getElem_cons_succ, List.setIfInBounds_toArray, List.set_cons_zero, List.set_cons_succ]
  refine wpAnyH_take (i := 28) (v := .int .i64 (56 * c 5 + (c 0 + 2) * (bS c + 3) + 3 * c 4 + 2 * c 1 + c 2)) rfl (by kernel_rfl) (by kernel_rfl) (by kernel_rfl) (fun _ _ _ h => h) (Or.inl ⟨by kernel_rfl, fun w' hw => ?y28⟩) hS ?_
  case y28 =>
    clear hS
    have z0 := (hw.cell (p := ⟨B, 0, none⟩) kl).trans k0
    have z1 := (hw.cell (p := ⟨B, 1, none⟩) kl).trans k1
    have z2 := (hw.cell (p := ⟨B, 2, none⟩) kl).trans k2
    have z3 := (hw.cell (p := ⟨B, 3, none⟩) kl).trans k3
    have z4 := (hw.cell (p := ⟨B, 4, none⟩) kl).trans k4
    have z5 := (hw.cell (p := ⟨B, 5, none⟩) kl).trans k5
    have z6 := (hw.cell (p := ⟨B, 6, none⟩) kl).trans k6
    clear hw
    go_simp
  try simp only [Act.put, List.getElem_toArray, List.getElem_cons_zero, List.getElem_cons_succ, List.setIfInBounds_toArray, List.set_cons_zero, List.set_cons_succ]
  refine wpAnyH_take (i := 29) (v := .int .i64 (56 * c 5 + (c 0 + 2) * (bS c + 3) + 3 * c 4 + 2 * c 1 + c 2 + 100)) rfl (by kernel_rfl) (by kernel_rfl) (by kernel_rfl) (fun _ _ _ h => h) (Or.inl ⟨by kernel_rfl, fun w' hw => ?y29⟩) hS ?_
  case y29 =>
    clear hS
    have z0 := (hw.cell (p := ⟨B, 0, none⟩) kl).trans k0
    have z1 := (hw.cell (p := ⟨B, 1, none⟩) kl).trans k1
    have z2 := (hw.cell (p := ⟨B, 2, none⟩) kl).trans k2
    have z3 := (hw.cell (p := ⟨B, 3, none⟩) kl).trans k3
    have z4 := (hw.cell (p := ⟨B, 4, none⟩) kl).trans k4
    have z5 := (hw.cell (p := ⟨B, 5, none⟩) kl).trans k5
    have z6 := (hw.cell (p := ⟨B, 6, none⟩) kl).trans k6
    clear hw
    go_simp
  try simp only [Act.put, List.getElem_toArray, List.getElem_cons_zero, List.getElem_cons_succ, List.setIfInBounds_toArray, List.set_cons_zero, List.set_cons_succ]
  refine wpAnyH_take (i := 30) (v := .int .i64 (56 * c 5 + (c 0 + 2) * (bS c + 3) + 3 * c 4 + 2 * c 1 + c 2 + 100)) rfl (by kernel_rfl) (by kernel_rfl) (by kernel_rfl) (fun _ _ _ h => h) (Or.inl ⟨by kernel_rfl, fun w' hw => ?y30⟩) hS ?_
  case y30 =>
    clear hS
    have z0 := (hw.cell (p := ⟨B, 0, none⟩) kl).trans k0
    have z1 := (hw.cell (p := ⟨B, 1, none⟩) kl).trans k1
    have z2 := (hw.cell (p := ⟨B, 2, none⟩) kl).trans k2
    have z3 := (hw.cell (p := ⟨B, 3, none⟩) kl).trans k3
    have z4 := (hw.cell (p := ⟨B, 4, none⟩) kl).trans k4
    have z5 := (hw.cell (p := ⟨B, 5, none⟩) kl).trans k5
    have z6 := (hw.cell (p := ⟨B, 6, none⟩) kl).trans k6
    clear hw
    go_simp
  try simp only [Act.put, List.getElem_toArray, List.getElem_cons_zero, List.getElem_cons_succ, List.setIfInBounds_toArray, List.set_cons_zero, List.set_cons_succ]
  refine wpAnyH_done (by kernel_rfl) ?_ _
  have BW0 : Hid (Below w.heap.size w w12) := hB'.out.trans (hS.mono hB'.out.size)
  replace k0 := (hS.cell (p := ⟨B, 0, none⟩) kl).trans k0
  replace k1 := (hS.cell (p := ⟨B, 1, none⟩) kl).trans k1
  replace k2 := (hS.cell (p := ⟨B, 2, none⟩) kl).trans k2
  replace k3 := (hS.cell (p := ⟨B, 3, none⟩) kl).trans k3
  replace k4 := (hS.cell (p := ⟨B, 4, none⟩) kl).trans k4
  replace k5 := (hS.cell (p := ⟨B, 5, none⟩) kl).trans k5
  replace k6 := (hS.cell (p := ⟨B, 6, none⟩) kl).trans k6
  replace kl := Nat.lt_of_lt_of_le kl hS.size
  clear hS
  go_wp2
  go_ret
  exact ⟨rfl, BW0.out⟩
set_option maxHeartbeats 16000000 in
theorem rwindow_any {c : Nat → Int} (h : Cfr c) (w : World) : Calls Tryz.prog 41 #[cfgV c] w fun r w' => r = .returned (.int .i64 (bW c)) ∧ Below w.heap.size w w' := by
  have RE := Mr.hid (rretired_any h)
  have LI := Mr.hid (rlisted_any h)
  have hB : Hid (Below w.heap.size w (w.alloc (cfO c))) := (Below.refl _ w).alloc (Nat.le_refl _) _
  have hb : Hid ((w.alloc (cfO c)).heap[w.heap.size]? = some (cfO c)) := heap_alloc_new _ _
  have F := facts h
  have wr0 : IntKind.i64.wrap (c 1 * c 2) = bH c := i64x (bH c) (by omega) (by omega)
  have wr1 : IntKind.i64.wrap (8 * c 0) = 8 * c 0 := i64x _ (by omega) (by omega)
  have wr2 : IntKind.i64.wrap (8 * c 0 + 1) = 8 * c 0 + 1 := i64x _ (by omega) (by omega)
  have wr3 : IntKind.i64.wrap (c 0 * c 4) = c 0 * c 4 := i64x _ (by omega) (by omega)
  have wr4 : IntKind.i64.wrap (8 * c 0 + 1 + c 0 * c 4) = 8 * c 0 + 1 + c 0 * c 4 := i64x _ (by omega) (by omega)
  have wr5 : IntKind.i64.wrap (8 * c 0 + 1 + c 0 * c 4 + bR c) = bV c := i64x (bV c) (by omega) (by omega)
  have wr6 : IntKind.i64.wrap (bV c + 6) = bV c + 6 := i64x _ (by omega) (by omega)
  have wr7 : IntKind.i64.wrap (c 5 + c 0) = c 5 + c 0 := i64x _ (by omega) (by omega)
  have wr8 : IntKind.i64.wrap (7 * (c 5 + c 0)) = 7 * (c 5 + c 0) := i64x _ (by omega) (by omega)
  have wr9 : IntKind.i64.wrap (7 * (c 5 + c 0) + 12) = 7 * (c 5 + c 0) + 12 := i64x _ (by omega) (by omega)
  have wr10 : IntKind.i64.wrap ((bV c + 6) * (7 * (c 5 + c 0) + 12)) = (bV c + 6) * (7 * (c 5 + c 0) + 12) := i64x _ (by omega) (by omega)
  have wr11 : IntKind.i64.wrap (c 0 + 2) = c 0 + 2 := i64x _ (by omega) (by omega)
  have wr12 : IntKind.i64.wrap (3 * c 1) = 3 * c 1 := i64x _ (by omega) (by omega)
  have wr13 : IntKind.i64.wrap (3 * c 1 + bH c) = 3 * c 1 + bH c := i64x _ (by omega) (by omega)
  have wr14 : IntKind.i64.wrap (3 * bL c) = 3 * bL c := i64x _ (by omega) (by omega)
  have wr15 : IntKind.i64.wrap (3 * c 1 + bH c + 3 * bL c) = bS c := i64x (bS c) (by omega) (by omega)
  have wr16 : IntKind.i64.wrap ((c 0 + 2) * bS c) = (c 0 + 2) * bS c := i64x _ (by omega) (by omega)
  have wr17 : IntKind.i64.wrap (3 * bV c) = 3 * bV c := i64x _ (by omega) (by omega)
  have wr18 : IntKind.i64.wrap (3 * c 4) = 3 * c 4 := i64x _ (by omega) (by omega)
  have wr19 : IntKind.i64.wrap (2 * c 1) = 2 * c 1 := i64x _ (by omega) (by omega)
  have wr20 : IntKind.i64.wrap ((bV c + 6) * (7 * (c 5 + c 0) + 12) + (c 0 + 2) * bS c) = (bV c + 6) * (7 * (c 5 + c 0) + 12) + (c 0 + 2) * bS c := i64x _ (by omega) (by omega)
  have wr21 : IntKind.i64.wrap ((bV c + 6) * (7 * (c 5 + c 0) + 12) + (c 0 + 2) * bS c + 3 * bV c) = (bV c + 6) * (7 * (c 5 + c 0) + 12) + (c 0 + 2) * bS c + 3 * bV c := i64x _ (by omega) (by omega)
  have wr22 : IntKind.i64.wrap ((bV c + 6) * (7 * (c 5 + c 0) + 12) + (c 0 + 2) * bS c + 3 * bV c + 3 * c 4) = (bV c + 6) * (7 * (c 5 + c 0) + 12) + (c 0 + 2) * bS c + 3 * bV c + 3 * c 4 := i64x _ (by omega) (by omega)
  have wr23 : IntKind.i64.wrap ((bV c + 6) * (7 * (c 5 + c 0) + 12) + (c 0 + 2) * bS c + 3 * bV c + 3 * c 4 + 2 * c 1) = (bV c + 6) * (7 * (c 5 + c 0) + 12) + (c 0 + 2) * bS c + 3 * bV c + 3 * c 4 + 2 * c 1 := i64x _ (by omega) (by omega)
  have wr24 : IntKind.i64.wrap ((bV c + 6) * (7 * (c 5 + c 0) + 12) + (c 0 + 2) * bS c + 3 * bV c + 3 * c 4 + 2 * c 1 + c 2) = (bV c + 6) * (7 * (c 5 + c 0) + 12) + (c 0 + 2) * bS c + 3 * bV c + 3 * c 4 + 2 * c 1 + c 2 := i64x _ (by omega) (by omega)
  have wr25 : IntKind.i64.wrap ((bV c + 6) * (7 * (c 5 + c 0) + 12) + (c 0 + 2) * bS c + 3 * bV c + 3 * c 4 + 2 * c 1 + c 2 + 43) = (bV c + 6) * (7 * (c 5 + c 0) + 12) + (c 0 + 2) * bS c + 3 * bV c + 3 * c 4 + 2 * c 1 + c 2 + 43 := i64x _ (by omega) (by omega)
  have wr26 : IntKind.i64.wrap (c 0 * ((bV c + 6) * (7 * (c 5 + c 0) + 12) + (c 0 + 2) * bS c + 3 * bV c + 3 * c 4 + 2 * c 1 + c 2 + 43)) = c 0 * ((bV c + 6) * (7 * (c 5 + c 0) + 12) + (c 0 + 2) * bS c + 3 * bV c + 3 * c 4 + 2 * c 1 + c 2 + 43) := i64x _ (by omega) (by omega)
  have wr27 : IntKind.i64.wrap (c 0 * ((bV c + 6) * (7 * (c 5 + c 0) + 12) + (c 0 + 2) * bS c + 3 * bV c + 3 * c 4 + 2 * c 1 + c 2 + 43) + 1) = c 0 * ((bV c + 6) * (7 * (c 5 + c 0) + 12) + (c 0 + 2) * bS c + 3 * bV c + 3 * c 4 + 2 * c 1 + c 2 + 43) + 1 := i64x _ (by omega) (by omega)
  clear F
  unfold cfO at hB hb
  unfold cfgV at RE LI ⊢
  go_enter Tryz.func41, Tryz.ntmps41
  go_upto_region 1 with (fail)
  generalize (w.alloc _) = wa at *
  obtain ⟨B, hBe⟩ : ∃ B, B = w.heap.size := ⟨_, rfl⟩
  rw [← hBe] at hb hB ⊢
  have hB' : Hid (Below w.heap.size w wa) := by rw [← hBe]; exact hB.out
  replace hBe := Mr.hid hBe
  obtain ⟨k0, k1, k2, k3, k4, k5, k6, kl⟩ := cfO_cells (c := c) hb.out
  go_upto_region 2 with (fail)
  have S0 : Below wa.heap.size wa wa.drew := (Below.refl _ _).drew
  refine wp_region_held_drew (S := fun w' => Below wa.heap.size wa w') (by kernel_rfl) S0 (fun hS => ?_)
  clear S0
  try simp only [Act.put, List.getElem_toArray, List.getElem_cons_zero, List.getElem_cons_succ, List.setIfInBounds_toArray, List.set_cons_zero, List.set_cons_succ]
  refine wpAnyH_take (i := 0) (v := .pointer (some ⟨B, 0, none⟩)) rfl (by kernel_rfl) (by kernel_rfl) (by kernel_rfl) (fun _ _ _ h => h) (Or.inl ⟨by kernel_rfl, fun w' hw => ?y0⟩) hS ?_
  case y0 =>
    clear hS
    have z0 := (hw.cell (p := ⟨B, 0, none⟩) kl).trans k0
    have z1 := (hw.cell (p := ⟨B, 1, none⟩) kl).trans k1
    have z2 := (hw.cell (p := ⟨B, 2, none⟩) kl).trans k2
    have z3 := (hw.cell (p := ⟨B, 3, none⟩) kl).trans k3
    have z4 := (hw.cell (p := ⟨B, 4, none⟩) kl).trans k4
    have z5 := (hw.cell (p := ⟨B, 5, none⟩) kl).trans k5
    have z6 := (hw.cell (p := ⟨B, 6, none⟩) kl).trans k6
    clear hw
    go_simp
  try simp only [Act.put, List.getElem_toArray, List.getElem_cons_zero, List.getElem_cons_succ, List.setIfInBounds_toArray, List.set_cons_zero, List.set_cons_succ]
  refine wpAnyH_take (i := 1) (v := .int .i64 (c 0)) rfl (by kernel_rfl) (by kernel_rfl) (by kernel_rfl) (fun _ _ _ h => h) (Or.inl ⟨by kernel_rfl, fun w' hw => ?y1⟩) hS ?_
  case y1 =>
    clear hS
    have z0 := (hw.cell (p := ⟨B, 0, none⟩) kl).trans k0
    have z1 := (hw.cell (p := ⟨B, 1, none⟩) kl).trans k1
    have z2 := (hw.cell (p := ⟨B, 2, none⟩) kl).trans k2
    have z3 := (hw.cell (p := ⟨B, 3, none⟩) kl).trans k3
    have z4 := (hw.cell (p := ⟨B, 4, none⟩) kl).trans k4
    have z5 := (hw.cell (p := ⟨B, 5, none⟩) kl).trans k5
    have z6 := (hw.cell (p := ⟨B, 6, none⟩) kl).trans k6
    clear hw
    go_simp
  try simp only [Act.put, List.getElem_toArray, List.getElem_cons_zero, List.getElem_cons_succ, List.setIfInBounds_toArray, List.set_cons_zero, List.set_cons_succ]
  refine wpAnyH_take (i := 2) (v := .int .i64 (8 * c 0)) rfl (by kernel_rfl) (by kernel_rfl) (by kernel_rfl) (fun _ _ _ h => h) (Or.inl ⟨by kernel_rfl, fun w' hw => ?y2⟩) hS ?_
  case y2 =>
    clear hS
    have z0 := (hw.cell (p := ⟨B, 0, none⟩) kl).trans k0
    have z1 := (hw.cell (p := ⟨B, 1, none⟩) kl).trans k1
    have z2 := (hw.cell (p := ⟨B, 2, none⟩) kl).trans k2
    have z3 := (hw.cell (p := ⟨B, 3, none⟩) kl).trans k3
    have z4 := (hw.cell (p := ⟨B, 4, none⟩) kl).trans k4
    have z5 := (hw.cell (p := ⟨B, 5, none⟩) kl).trans k5
    have z6 := (hw.cell (p := ⟨B, 6, none⟩) kl).trans k6
    clear hw
    go_simp
  try simp only [Act.put, List.getElem_toArray, List.getElem_cons_zero, List.getElem_cons_succ, List.setIfInBounds_toArray, List.set_cons_zero, List.set_cons_succ]
  refine wpAnyH_take (i := 3) (v := .int .i64 (8 * c 0 + 1)) rfl (by kernel_rfl) (by kernel_rfl) (by kernel_rfl) (fun _ _ _ h => h) (Or.inl ⟨by kernel_rfl, fun w' hw => ?y3⟩) hS ?_
  case y3 =>
    clear hS
    have z0 := (hw.cell (p := ⟨B, 0, none⟩) kl).trans k0
    have z1 := (hw.cell (p := ⟨B, 1, none⟩) kl).trans k1
    have z2 := (hw.cell (p := ⟨B, 2, none⟩) kl).trans k2
    have z3 := (hw.cell (p := ⟨B, 3, none⟩) kl).trans k3
    have z4 := (hw.cell (p := ⟨B, 4, none⟩) kl).trans k4
    have z5 := (hw.cell (p := ⟨B, 5, none⟩) kl).trans k5
    have z6 := (hw.cell (p := ⟨B, 6, none⟩) kl).trans k6
    clear hw
    go_simp
  try simp only [Act.put, List.getElem_toArray, List.getElem_cons_zero, List.getElem_cons_succ, List.setIfInBounds_toArray, List.set_cons_zero, List.set_cons_succ]
  refine wpAnyH_take (i := 4) (v := .pointer (some ⟨B, 0, none⟩)) rfl (by kernel_rfl) (by kernel_rfl) (by kernel_rfl) (fun _ _ _ h => h) (Or.inl ⟨by kernel_rfl, fun w' hw => ?y4⟩) hS ?_
  case y4 =>
    clear hS
    have z0 := (hw.cell (p := ⟨B, 0, none⟩) kl).trans k0
    have z1 := (hw.cell (p := ⟨B, 1, none⟩) kl).trans k1
    have z2 := (hw.cell (p := ⟨B, 2, none⟩) kl).trans k2
    have z3 := (hw.cell (p := ⟨B, 3, none⟩) kl).trans k3
    have z4 := (hw.cell (p := ⟨B, 4, none⟩) kl).trans k4
    have z5 := (hw.cell (p := ⟨B, 5, none⟩) kl).trans k5
    have z6 := (hw.cell (p := ⟨B, 6, none⟩) kl).trans k6
    clear hw
    go_simp
  try simp only [Act.put, List.getElem_toArray, List.getElem_cons_zero, List.getElem_cons_succ, List.setIfInBounds_toArray, List.set_cons_zero, List.set_cons_succ]
  refine wpAnyH_take (i := 5) (v := .int .i64 (c 0)) rfl (by kernel_rfl) (by kernel_rfl) (by kernel_rfl) (fun _ _ _ h => h) (Or.inl ⟨by kernel_rfl, fun w' hw => ?y5⟩) hS ?_
  case y5 =>
    clear hS
    have z0 := (hw.cell (p := ⟨B, 0, none⟩) kl).trans k0
    have z1 := (hw.cell (p := ⟨B, 1, none⟩) kl).trans k1
    have z2 := (hw.cell (p := ⟨B, 2, none⟩) kl).trans k2
    have z3 := (hw.cell (p := ⟨B, 3, none⟩) kl).trans k3
    have z4 := (hw.cell (p := ⟨B, 4, none⟩) kl).trans k4
    have z5 := (hw.cell (p := ⟨B, 5, none⟩) kl).trans k5
    have z6 := (hw.cell (p := ⟨B, 6, none⟩) kl).trans k6
    clear hw
    go_simp
  try simp only [Act.put, List.getElem_toArray, List.getElem_cons_zero, List.getElem_cons_succ, List.setIfInBounds_toArray, List.set_cons_zero, List.set_cons_succ]
  refine wpAnyH_take (i := 6) (v := .pointer (some ⟨B, 4, none⟩)) rfl (by kernel_rfl) (by kernel_rfl) (by kernel_rfl) (fun _ _ _ h => h) (Or.inl ⟨by kernel_rfl, fun w' hw => ?y6⟩) hS ?_
  case y6 =>
    clear hS
    have z0 := (hw.cell (p := ⟨B, 0, none⟩) kl).trans k0
    have z1 := (hw.cell (p := ⟨B, 1, none⟩) kl).trans k1
    have z2 := (hw.cell (p := ⟨B, 2, none⟩) kl).trans k2
    have z3 := (hw.cell (p := ⟨B, 3, none⟩) kl).trans k3
    have z4 := (hw.cell (p := ⟨B, 4, none⟩) kl).trans k4
    have z5 := (hw.cell (p := ⟨B, 5, none⟩) kl).trans k5
    have z6 := (hw.cell (p := ⟨B, 6, none⟩) kl).trans k6
    clear hw
    go_simp
  try simp only [Act.put, List.getElem_toArray, List.getElem_cons_zero, List.getElem_cons_succ, List.setIfInBounds_toArray, List.set_cons_zero, List.set_cons_succ]
  refine wpAnyH_take (i := 7) (v := .int .i64 (c 4)) rfl (by kernel_rfl) (by kernel_rfl) (by kernel_rfl) (fun _ _ _ h => h) (Or.inl ⟨by kernel_rfl, fun w' hw => ?y7⟩) hS ?_
  case y7 =>
    clear hS
    have z0 := (hw.cell (p := ⟨B, 0, none⟩) kl).trans k0
    have z1 := (hw.cell (p := ⟨B, 1, none⟩) kl).trans k1
    have z2 := (hw.cell (p := ⟨B, 2, none⟩) kl).trans k2
    have z3 := (hw.cell (p := ⟨B, 3, none⟩) kl).trans k3
    have z4 := (hw.cell (p := ⟨B, 4, none⟩) kl).trans k4
    have z5 := (hw.cell (p := ⟨B, 5, none⟩) kl).trans k5
    have z6 := (hw.cell (p := ⟨B, 6, none⟩) kl).trans k6
    clear hw
    go_simp
  try simp only [Act.put, List.getElem_toArray, List.getElem_cons_zero, List.getElem_cons_succ, List.setIfInBounds_toArray, List.set_cons_zero, List.set_cons_succ]
  refine wpAnyH_take (i := 8) (v := .int .i64 (c 0 * c 4)) rfl (by kernel_rfl) (by kernel_rfl) (by kernel_rfl) (fun _ _ _ h => h) (Or.inl ⟨by kernel_rfl, fun w' hw => ?y8⟩) hS ?_
  case y8 =>
    clear hS
    have z0 := (hw.cell (p := ⟨B, 0, none⟩) kl).trans k0
    have z1 := (hw.cell (p := ⟨B, 1, none⟩) kl).trans k1
    have z2 := (hw.cell (p := ⟨B, 2, none⟩) kl).trans k2
    have z3 := (hw.cell (p := ⟨B, 3, none⟩) kl).trans k3
    have z4 := (hw.cell (p := ⟨B, 4, none⟩) kl).trans k4
    have z5 := (hw.cell (p := ⟨B, 5, none⟩) kl).trans k5
    have z6 := (hw.cell (p := ⟨B, 6, none⟩) kl).trans k6
    clear hw
    go_simp
  try simp only [Act.put, List.getElem_toArray, List.getElem_cons_zero, List.getElem_cons_succ, List.setIfInBounds_toArray, List.set_cons_zero, List.set_cons_succ]
  refine wpAnyH_take (i := 9) (v := .int .i64 (8 * c 0 + 1 + c 0 * c 4)) rfl (by kernel_rfl) (by kernel_rfl) (by kernel_rfl) (fun _ _ _ h => h) (Or.inl ⟨by kernel_rfl, fun w' hw => ?y9⟩) hS ?_
  case y9 =>
    clear hS
    have z0 := (hw.cell (p := ⟨B, 0, none⟩) kl).trans k0
    have z1 := (hw.cell (p := ⟨B, 1, none⟩) kl).trans k1
    have z2 := (hw.cell (p := ⟨B, 2, none⟩) kl).trans k2
    have z3 := (hw.cell (p := ⟨B, 3, none⟩) kl).trans k3
    have z4 := (hw.cell (p := ⟨B, 4, none⟩) kl).trans k4
    have z5 := (hw.cell (p := ⟨B, 5, none⟩) kl).trans k5
    have z6 := (hw.cell (p := ⟨B, 6, none⟩) kl).trans k6
    clear hw
    go_simp
  try simp only [Act.put, List.getElem_toArray, List.getElem_cons_zero, List.getElem_cons_succ, List.setIfInBounds_toArray, List.set_cons_zero, List.set_cons_succ]
  refine wpAnyH_take (i := 10) (v := .agg #[.int .i64 (c 0), .int .i64 (c 1), .int .i64 (c 2), .int .i64 (c 3), .int .i64 (c 4), .int .i64 (c 5), .int .i64 (c 6)]) rfl (by kernel_rfl) (by kernel_rfl) (by kernel_rfl) (fun _ _ _ h => h) (Or.inl ⟨by kernel_rfl, fun w' hw => ?y10⟩) hS ?_
  case y10 =>
    clear hS
    have z0 := (hw.cell (p := ⟨B, 0, none⟩) kl).trans k0
    have z1 := (hw.cell (p := ⟨B, 1, none⟩) kl).trans k1
    have z2 := (hw.cell (p := ⟨B, 2, none⟩) kl).trans k2
    have z3 := (hw.cell (p := ⟨B, 3, none⟩) kl).trans k3
    have z4 := (hw.cell (p := ⟨B, 4, none⟩) kl).trans k4
    have z5 := (hw.cell (p := ⟨B, 5, none⟩) kl).trans k5
    have z6 := (hw.cell (p := ⟨B, 6, none⟩) kl).trans k6
    clear hw
    go_simp
  try simp only [Act.put, List.getElem_toArray, List.getElem_cons_zero, List.getElem_cons_succ, List.setIfInBounds_toArray, List.set_cons_zero, List.set_cons_succ]
  refine wpAnyH_ready (rs := [11]) (by kernel_rfl) (by simp) ?_
  refine AllReadyH.cons rfl (fun K hK => ?_) AllReadyH.nil
  try simp only [Act.put, List.getElem_toArray, List.getElem_cons_zero, List.getElem_cons_succ, List.setIfInBounds_toArray, List.set_cons_zero, List.set_cons_succ]
  go_simp
  refine (RE.out _).mono ?_
  rintro e11 w11 ⟨rfl, hB11⟩
  refine hK.out _ _ (hS.trans (hB11.mono hS.size)) (fun hS => ?_)
  clear hK K
  try simp only [Act.put, List.getElem_toArray, List.getElem_cons_zero, List.getElem_cons_succ, List.setIfInBounds_toArray, List.set_cons_zero, List.set_cons_succ]
  refine wpAnyH_take (i := 12) (v := .int .i64 (bV c)) rfl (by kernel_rfl) (by kernel_rfl) (by kernel_rfl) (fun _ _ _ h => h) (Or.inl ⟨by kernel_rfl, fun w' hw => ?y12⟩) hS ?_
  case y12 =>
    clear hS
    have z0 := (hw.cell (p := ⟨B, 0, none⟩) kl).trans k0
    have z1 := (hw.cell (p := ⟨B, 1, none⟩) kl).trans k1
    have z2 := (hw.cell (p := ⟨B, 2, none⟩) kl).trans k2
    have z3 := (hw.cell (p := ⟨B, 3, none⟩) kl).trans k3
    have z4 := (hw.cell (p := ⟨B, 4, none⟩) kl).trans k4
    have z5 := (hw.cell (p := ⟨B, 5, none⟩) kl).trans k5
    have z6 := (hw.cell (p := ⟨B, 6, none⟩) kl).trans k6
    clear hw
    go_simp
  try simp only [Act.put, List.getElem_toArray, List.getElem_cons_zero, List.getElem_cons_succ, List.setIfInBounds_toArray, List.set_cons_zero, List.set_cons_succ]
  refine wpAnyH_take (i := 13) (v := .int .i64 (bV c)) rfl (by kernel_rfl) (by kernel_rfl) (by kernel_rfl) (fun _ _ _ h => h) (Or.inl ⟨by kernel_rfl, fun w' hw => ?y13⟩) hS ?_
  case y13 =>
    clear hS
    have z0 := (hw.cell (p := ⟨B, 0, none⟩) kl).trans k0
    have z1 := (hw.cell (p := ⟨B, 1, none⟩) kl).trans k1
    have z2 := (hw.cell (p := ⟨B, 2, none⟩) kl).trans k2
    have z3 := (hw.cell (p := ⟨B, 3, none⟩) kl).trans k3
    have z4 := (hw.cell (p := ⟨B, 4, none⟩) kl).trans k4
    have z5 := (hw.cell (p := ⟨B, 5, none⟩) kl).trans k5
    have z6 := (hw.cell (p := ⟨B, 6, none⟩) kl).trans k6
    clear hw
    go_simp
  try simp only [Act.put, List.getElem_toArray, List.getElem_cons_zero, List.getElem_cons_succ, List.setIfInBounds_toArray, List.set_cons_zero, List.set_cons_succ]
  refine wpAnyH_done (by kernel_rfl) ?_ _
  have BW0 : Hid (Below w.heap.size w w11) := hB'.out.trans (hS.mono hB'.out.size)
  replace k0 := (hS.cell (p := ⟨B, 0, none⟩) kl).trans k0
  replace k1 := (hS.cell (p := ⟨B, 1, none⟩) kl).trans k1
  replace k2 := (hS.cell (p := ⟨B, 2, none⟩) kl).trans k2
  replace k3 := (hS.cell (p := ⟨B, 3, none⟩) kl).trans k3
  replace k4 := (hS.cell (p := ⟨B, 4, none⟩) kl).trans k4
  replace k5 := (hS.cell (p := ⟨B, 5, none⟩) kl).trans k5
  replace k6 := (hS.cell (p := ⟨B, 6, none⟩) kl).trans k6
  replace kl := Nat.lt_of_lt_of_le kl hS.size
  clear hS
  go_upto_region 3 with (fail)
  have S0 : Below w11.heap.size w11 w11.drew := (Below.refl _ _).drew
  refine wp_region_held_drew (S := fun w' => Below w11.heap.size w11 w') (by kernel_rfl) S0 (fun hS => ?_)
  clear S0
  try simp only [Act.put, List.getElem_toArray, List.getElem_cons_zero, List.getElem_cons_succ, List.setIfInBounds_toArray, List.set_cons_zero, List.set_cons_succ]
  refine wpAnyH_take (i := 0) (v := .int .i64 (bV c)) rfl (by kernel_rfl) (by kernel_rfl) (by kernel_rfl) (fun _ _ _ h => h) (Or.inl ⟨by kernel_rfl, fun w' hw => ?y0⟩) hS ?_
  case y0 =>
    clear hS
    have z0 := (hw.cell (p := ⟨B, 0, none⟩) kl).trans k0
    have z1 := (hw.cell (p := ⟨B, 1, none⟩) kl).trans k1
    have z2 := (hw.cell (p := ⟨B, 2, none⟩) kl).trans k2
    have z3 := (hw.cell (p := ⟨B, 3, none⟩) kl).trans k3
    have z4 := (hw.cell (p := ⟨B, 4, none⟩) kl).trans k4
    have z5 := (hw.cell (p := ⟨B, 5, none⟩) kl).trans k5
    have z6 := (hw.cell (p := ⟨B, 6, none⟩) kl).trans k6
    clear hw
    go_simp
  try simp only [Act.put, List.getElem_toArray, List.getElem_cons_zero, List.getElem_cons_succ, List.setIfInBounds_toArray, List.set_cons_zero, List.set_cons_succ]
  refine wpAnyH_take (i := 1) (v := .int .i64 (bV c + 6)) rfl (by kernel_rfl) (by kernel_rfl) (by kernel_rfl) (fun _ _ _ h => h) (Or.inl ⟨by kernel_rfl, fun w' hw => ?y1⟩) hS ?_
  case y1 =>
    clear hS
    have z0 := (hw.cell (p := ⟨B, 0, none⟩) kl).trans k0
    have z1 := (hw.cell (p := ⟨B, 1, none⟩) kl).trans k1
    have z2 := (hw.cell (p := ⟨B, 2, none⟩) kl).trans k2
    have z3 := (hw.cell (p := ⟨B, 3, none⟩) kl).trans k3
    have z4 := (hw.cell (p := ⟨B, 4, none⟩) kl).trans k4
    have z5 := (hw.cell (p := ⟨B, 5, none⟩) kl).trans k5
    have z6 := (hw.cell (p := ⟨B, 6, none⟩) kl).trans k6
    clear hw
    go_simp
  try simp only [Act.put, List.getElem_toArray, List.getElem_cons_zero, List.getElem_cons_succ, List.setIfInBounds_toArray, List.set_cons_zero, List.set_cons_succ]
  refine wpAnyH_take (i := 2) (v := .pointer (some ⟨B, 5, none⟩)) rfl (by kernel_rfl) (by kernel_rfl) (by kernel_rfl) (fun _ _ _ h => h) (Or.inl ⟨by kernel_rfl, fun w' hw => ?y2⟩) hS ?_
  case y2 =>
    clear hS
    have z0 := (hw.cell (p := ⟨B, 0, none⟩) kl).trans k0
    have z1 := (hw.cell (p := ⟨B, 1, none⟩) kl).trans k1
    have z2 := (hw.cell (p := ⟨B, 2, none⟩) kl).trans k2
    have z3 := (hw.cell (p := ⟨B, 3, none⟩) kl).trans k3
    have z4 := (hw.cell (p := ⟨B, 4, none⟩) kl).trans k4
    have z5 := (hw.cell (p := ⟨B, 5, none⟩) kl).trans k5
    have z6 := (hw.cell (p := ⟨B, 6, none⟩) kl).trans k6
    clear hw
    go_simp
  try simp only [Act.put, List.getElem_toArray, List.getElem_cons_zero, List.getElem_cons_succ, List.setIfInBounds_toArray, List.set_cons_zero, List.set_cons_succ]
  refine wpAnyH_take (i := 3) (v := .int .i64 (c 5)) rfl (by kernel_rfl) (by kernel_rfl) (by kernel_rfl) (fun _ _ _ h => h) (Or.inl ⟨by kernel_rfl, fun w' hw => ?y3⟩) hS ?_
  case y3 =>
    clear hS
    have z0 := (hw.cell (p := ⟨B, 0, none⟩) kl).trans k0
    have z1 := (hw.cell (p := ⟨B, 1, none⟩) kl).trans k1
    have z2 := (hw.cell (p := ⟨B, 2, none⟩) kl).trans k2
    have z3 := (hw.cell (p := ⟨B, 3, none⟩) kl).trans k3
    have z4 := (hw.cell (p := ⟨B, 4, none⟩) kl).trans k4
    have z5 := (hw.cell (p := ⟨B, 5, none⟩) kl).trans k5
    have z6 := (hw.cell (p := ⟨B, 6, none⟩) kl).trans k6
    clear hw
    go_simp
  try simp only [Act.put, List.getElem_toArray, List.getElem_cons_zero, List.getElem_cons_succ, List.setIfInBounds_toArray, List.set_cons_zero, List.set_cons_succ]
  refine wpAnyH_take (i := 4) (v := .pointer (some ⟨B, 0, none⟩)) rfl (by kernel_rfl) (by kernel_rfl) (by kernel_rfl) (fun _ _ _ h => h) (Or.inl ⟨by kernel_rfl, fun w' hw => ?y4⟩) hS ?_
  case y4 =>
    clear hS
    have z0 := (hw.cell (p := ⟨B, 0, none⟩) kl).trans k0
    have z1 := (hw.cell (p := ⟨B, 1, none⟩) kl).trans k1
    have z2 := (hw.cell (p := ⟨B, 2, none⟩) kl).trans k2
    have z3 := (hw.cell (p := ⟨B, 3, none⟩) kl).trans k3
    have z4 := (hw.cell (p := ⟨B, 4, none⟩) kl).trans k4
    have z5 := (hw.cell (p := ⟨B, 5, none⟩) kl).trans k5
    have z6 := (hw.cell (p := ⟨B, 6, none⟩) kl).trans k6
    clear hw
    go_simp
  try simp only [Act.put, List.getElem_toArray, List.getElem_cons_zero, List.getElem_cons_succ, List.setIfInBounds_toArray, List.set_cons_zero, List.set_cons_succ]
  refine wpAnyH_take (i := 5) (v := .int .i64 (c 0)) rfl (by kernel_rfl) (by kernel_rfl) (by kernel_rfl) (fun _ _ _ h => h) (Or.inl ⟨by kernel_rfl, fun w' hw => ?y5⟩) hS ?_
  case y5 =>
    clear hS
    have z0 := (hw.cell (p := ⟨B, 0, none⟩) kl).trans k0
    have z1 := (hw.cell (p := ⟨B, 1, none⟩) kl).trans k1
    have z2 := (hw.cell (p := ⟨B, 2, none⟩) kl).trans k2
    have z3 := (hw.cell (p := ⟨B, 3, none⟩) kl).trans k3
    have z4 := (hw.cell (p := ⟨B, 4, none⟩) kl).trans k4
    have z5 := (hw.cell (p := ⟨B, 5, none⟩) kl).trans k5
    have z6 := (hw.cell (p := ⟨B, 6, none⟩) kl).trans k6
    clear hw
    go_simp
  try simp only [Act.put, List.getElem_toArray, List.getElem_cons_zero, List.getElem_cons_succ, List.setIfInBounds_toArray, List.set_cons_zero, List.set_cons_succ]
  refine wpAnyH_take (i := 6) (v := .int .i64 (c 5 + c 0)) rfl (by kernel_rfl) (by kernel_rfl) (by kernel_rfl) (fun _ _ _ h => h) (Or.inl ⟨by kernel_rfl, fun w' hw => ?y6⟩) hS ?_
  case y6 =>
    clear hS
    have z0 := (hw.cell (p := ⟨B, 0, none⟩) kl).trans k0
    have z1 := (hw.cell (p := ⟨B, 1, none⟩) kl).trans k1
    have z2 := (hw.cell (p := ⟨B, 2, none⟩) kl).trans k2
    have z3 := (hw.cell (p := ⟨B, 3, none⟩) kl).trans k3
    have z4 := (hw.cell (p := ⟨B, 4, none⟩) kl).trans k4
    have z5 := (hw.cell (p := ⟨B, 5, none⟩) kl).trans k5
    have z6 := (hw.cell (p := ⟨B, 6, none⟩) kl).trans k6
    clear hw
    go_simp
  try simp only [Act.put, List.getElem_toArray, List.getElem_cons_zero, List.getElem_cons_succ, List.setIfInBounds_toArray, List.set_cons_zero, List.set_cons_succ]
  refine wpAnyH_take (i := 7) (v := .int .i64 (7 * (c 5 + c 0))) rfl (by kernel_rfl) (by kernel_rfl) (by kernel_rfl) (fun _ _ _ h => h) (Or.inl ⟨by kernel_rfl, fun w' hw => ?y7⟩) hS ?_
  case y7 =>
    clear hS
    have z0 := (hw.cell (p := ⟨B, 0, none⟩) kl).trans k0
    have z1 := (hw.cell (p := ⟨B, 1, none⟩) kl).trans k1
    have z2 := (hw.cell (p := ⟨B, 2, none⟩) kl).trans k2
    have z3 := (hw.cell (p := ⟨B, 3, none⟩) kl).trans k3
    have z4 := (hw.cell (p := ⟨B, 4, none⟩) kl).trans k4
    have z5 := (hw.cell (p := ⟨B, 5, none⟩) kl).trans k5
    have z6 := (hw.cell (p := ⟨B, 6, none⟩) kl).trans k6
    clear hw
    go_simp
  try simp only [Act.put, List.getElem_toArray, List.getElem_cons_zero, List.getElem_cons_succ, List.setIfInBounds_toArray, List.set_cons_zero, List.set_cons_succ]
  refine wpAnyH_take (i := 8) (v := .int .i64 (7 * (c 5 + c 0) + 12)) rfl (by kernel_rfl) (by kernel_rfl) (by kernel_rfl) (fun _ _ _ h => h) (Or.inl ⟨by kernel_rfl, fun w' hw => ?y8⟩) hS ?_
  case y8 =>
    clear hS
    have z0 := (hw.cell (p := ⟨B, 0, none⟩) kl).trans k0
    have z1 := (hw.cell (p := ⟨B, 1, none⟩) kl).trans k1
    have z2 := (hw.cell (p := ⟨B, 2, none⟩) kl).trans k2
    have z3 := (hw.cell (p := ⟨B, 3, none⟩) kl).trans k3
    have z4 := (hw.cell (p := ⟨B, 4, none⟩) kl).trans k4
    have z5 := (hw.cell (p := ⟨B, 5, none⟩) kl).trans k5
    have z6 := (hw.cell (p := ⟨B, 6, none⟩) kl).trans k6
    clear hw
    go_simp
  try simp only [Act.put, List.getElem_toArray, List.getElem_cons_zero, List.getElem_cons_succ, List.setIfInBounds_toArray, List.set_cons_zero, List.set_cons_succ]
  refine wpAnyH_take (i := 9) (v := .int .i64 ((bV c + 6) * (7 * (c 5 + c 0) + 12))) rfl (by kernel_rfl) (by kernel_rfl) (by kernel_rfl) (fun _ _ _ h => h) (Or.inl ⟨by kernel_rfl, fun w' hw => ?y9⟩) hS ?_
  case y9 =>
    clear hS
    have z0 := (hw.cell (p := ⟨B, 0, none⟩) kl).trans k0
    have z1 := (hw.cell (p := ⟨B, 1, none⟩) kl).trans k1
    have z2 := (hw.cell (p := ⟨B, 2, none⟩) kl).trans k2
    have z3 := (hw.cell (p := ⟨B, 3, none⟩) kl).trans k3
    have z4 := (hw.cell (p := ⟨B, 4, none⟩) kl).trans k4
    have z5 := (hw.cell (p := ⟨B, 5, none⟩) kl).trans k5
    have z6 := (hw.cell (p := ⟨B, 6, none⟩) kl).trans k6
    clear hw
    go_simp
  try simp only [Act.put, List.getElem_toArray, List.getElem_cons_zero, List.getElem_cons_succ, List.setIfInBounds_toArray, List.set_cons_zero, List.set_cons_succ]
  refine wpAnyH_take (i := 10) (v := .pointer (some ⟨B, 0, none⟩)) rfl (by kernel_rfl) (by kernel_rfl) (by kernel_rfl) (fun _ _ _ h => h) (Or.inl ⟨by kernel_rfl, fun w' hw => ?y10⟩) hS ?_
  case y10 =>
    clear hS
    have z0 := (hw.cell (p := ⟨B, 0, none⟩) kl).trans k0
    have z1 := (hw.cell (p := ⟨B, 1, none⟩) kl).trans k1
    have z2 := (hw.cell (p := ⟨B, 2, none⟩) kl).trans k2
    have z3 := (hw.cell (p := ⟨B, 3, none⟩) kl).trans k3
    have z4 := (hw.cell (p := ⟨B, 4, none⟩) kl).trans k4
    have z5 := (hw.cell (p := ⟨B, 5, none⟩) kl).trans k5
    have z6 := (hw.cell (p := ⟨B, 6, none⟩) kl).trans k6
    clear hw
    go_simp
  try simp only [Act.put, List.getElem_toArray, List.getElem_cons_zero, List.getElem_cons_succ, List.setIfInBounds_toArray, List.set_cons_zero, List.set_cons_succ]
  refine wpAnyH_take (i := 11) (v := .int .i64 (c 0)) rfl (by kernel_rfl) (by kernel_rfl) (by kernel_rfl) (fun _ _ _ h => h) (Or.inl ⟨by kernel_rfl, fun w' hw => ?y11⟩) hS ?_
  case y11 =>
    clear hS
    have z0 := (hw.cell (p := ⟨B, 0, none⟩) kl).trans k0
    have z1 := (hw.cell (p := ⟨B, 1, none⟩) kl).trans k1
    have z2 := (hw.cell (p := ⟨B, 2, none⟩) kl).trans k2
    have z3 := (hw.cell (p := ⟨B, 3, none⟩) kl).trans k3
    have z4 := (hw.cell (p := ⟨B, 4, none⟩) kl).trans k4
    have z5 := (hw.cell (p := ⟨B, 5, none⟩) kl).trans k5
    have z6 := (hw.cell (p := ⟨B, 6, none⟩) kl).trans k6
    clear hw
    go_simp
  try simp only [Act.put, List.getElem_toArray, List.getElem_cons_zero, List.getElem_cons_succ, List.setIfInBounds_toArray, List.set_cons_zero, List.set_cons_succ]
  refine wpAnyH_take (i := 12) (v := .int .i64 (c 0 + 2)) rfl (by kernel_rfl) (by kernel_rfl) (by kernel_rfl) (fun _ _ _ h => h) (Or.inl ⟨by kernel_rfl, fun w' hw => ?y12⟩) hS ?_
  case y12 =>
    clear hS
    have z0 := (hw.cell (p := ⟨B, 0, none⟩) kl).trans k0
    have z1 := (hw.cell (p := ⟨B, 1, none⟩) kl).trans k1
    have z2 := (hw.cell (p := ⟨B, 2, none⟩) kl).trans k2
    have z3 := (hw.cell (p := ⟨B, 3, none⟩) kl).trans k3
    have z4 := (hw.cell (p := ⟨B, 4, none⟩) kl).trans k4
    have z5 := (hw.cell (p := ⟨B, 5, none⟩) kl).trans k5
    have z6 := (hw.cell (p := ⟨B, 6, none⟩) kl).trans k6
    clear hw
    go_simp
  try simp only [Act.put, List.getElem_toArray, List.getElem_cons_zero, List.getElem_cons_succ, List.setIfInBounds_toArray, List.set_cons_zero, List.set_cons_succ]
  refine wpAnyH_take (i := 13) (v := .pointer (some ⟨B, 1, none⟩)) rfl (by kernel_rfl) (by kernel_rfl) (by kernel_rfl) (fun _ _ _ h => h) (Or.inl ⟨by kernel_rfl, fun w' hw => ?y13⟩) hS ?_
  case y13 =>
    clear hS
    have z0 := (hw.cell (p := ⟨B, 0, none⟩) kl).trans k0
    have z1 := (hw.cell (p := ⟨B, 1, none⟩) kl).trans k1
    have z2 := (hw.cell (p := ⟨B, 2, none⟩) kl).trans k2
    have z3 := (hw.cell (p := ⟨B, 3, none⟩) kl).trans k3
    have z4 := (hw.cell (p := ⟨B, 4, none⟩) kl).trans k4
    have z5 := (hw.cell (p := ⟨B, 5, none⟩) kl).trans k5
    have z6 := (hw.cell (p := ⟨B, 6, none⟩) kl).trans k6
    clear hw
    go_simp
  try simp only [Act.put, List.getElem_toArray, List.getElem_cons_zero, List.getElem_cons_succ, List.setIfInBounds_toArray, List.set_cons_zero, List.set_cons_succ]
  refine wpAnyH_take (i := 14) (v := .int .i64 (c 1)) rfl (by kernel_rfl) (by kernel_rfl) (by kernel_rfl) (fun _ _ _ h => h) (Or.inl ⟨by kernel_rfl, fun w' hw => ?y14⟩) hS ?_
  case y14 =>
    clear hS
    have z0 := (hw.cell (p := ⟨B, 0, none⟩) kl).trans k0
    have z1 := (hw.cell (p := ⟨B, 1, none⟩) kl).trans k1
    have z2 := (hw.cell (p := ⟨B, 2, none⟩) kl).trans k2
    have z3 := (hw.cell (p := ⟨B, 3, none⟩) kl).trans k3
    have z4 := (hw.cell (p := ⟨B, 4, none⟩) kl).trans k4
    have z5 := (hw.cell (p := ⟨B, 5, none⟩) kl).trans k5
    have z6 := (hw.cell (p := ⟨B, 6, none⟩) kl).trans k6
    clear hw
    go_simp
  try simp only [Act.put, List.getElem_toArray, List.getElem_cons_zero, List.getElem_cons_succ, List.setIfInBounds_toArray, List.set_cons_zero, List.set_cons_succ]
  refine wpAnyH_take (i := 15) (v := .int .i64 (3 * c 1)) rfl (by kernel_rfl) (by kernel_rfl) (by kernel_rfl) (fun _ _ _ h => h) (Or.inl ⟨by kernel_rfl, fun w' hw => ?y15⟩) hS ?_
  case y15 =>
    clear hS
    have z0 := (hw.cell (p := ⟨B, 0, none⟩) kl).trans k0
    have z1 := (hw.cell (p := ⟨B, 1, none⟩) kl).trans k1
    have z2 := (hw.cell (p := ⟨B, 2, none⟩) kl).trans k2
    have z3 := (hw.cell (p := ⟨B, 3, none⟩) kl).trans k3
    have z4 := (hw.cell (p := ⟨B, 4, none⟩) kl).trans k4
    have z5 := (hw.cell (p := ⟨B, 5, none⟩) kl).trans k5
    have z6 := (hw.cell (p := ⟨B, 6, none⟩) kl).trans k6
    clear hw
    go_simp
  try simp only [Act.put, List.getElem_toArray, List.getElem_cons_zero, List.getElem_cons_succ, List.setIfInBounds_toArray, List.set_cons_zero, List.set_cons_succ]
  refine wpAnyH_take (i := 16) (v := .int .i64 (bH c)) rfl (by kernel_rfl) (by kernel_rfl) (by kernel_rfl) (fun _ _ _ h => h) (Or.inl ⟨by kernel_rfl, fun w' hw => ?y16⟩) hS ?_
  case y16 =>
    clear hS
    have z0 := (hw.cell (p := ⟨B, 0, none⟩) kl).trans k0
    have z1 := (hw.cell (p := ⟨B, 1, none⟩) kl).trans k1
    have z2 := (hw.cell (p := ⟨B, 2, none⟩) kl).trans k2
    have z3 := (hw.cell (p := ⟨B, 3, none⟩) kl).trans k3
    have z4 := (hw.cell (p := ⟨B, 4, none⟩) kl).trans k4
    have z5 := (hw.cell (p := ⟨B, 5, none⟩) kl).trans k5
    have z6 := (hw.cell (p := ⟨B, 6, none⟩) kl).trans k6
    clear hw
    go_simp
  try simp only [Act.put, List.getElem_toArray, List.getElem_cons_zero, List.getElem_cons_succ, List.setIfInBounds_toArray, List.set_cons_zero, List.set_cons_succ]
  refine wpAnyH_take (i := 17) (v := .int .i64 (3 * c 1 + bH c)) rfl (by kernel_rfl) (by kernel_rfl) (by kernel_rfl) (fun _ _ _ h => h) (Or.inl ⟨by kernel_rfl, fun w' hw => ?y17⟩) hS ?_
  case y17 =>
    clear hS
    have z0 := (hw.cell (p := ⟨B, 0, none⟩) kl).trans k0
    have z1 := (hw.cell (p := ⟨B, 1, none⟩) kl).trans k1
    have z2 := (hw.cell (p := ⟨B, 2, none⟩) kl).trans k2
    have z3 := (hw.cell (p := ⟨B, 3, none⟩) kl).trans k3
    have z4 := (hw.cell (p := ⟨B, 4, none⟩) kl).trans k4
    have z5 := (hw.cell (p := ⟨B, 5, none⟩) kl).trans k5
    have z6 := (hw.cell (p := ⟨B, 6, none⟩) kl).trans k6
    clear hw
    go_simp
  try simp only [Act.put, List.getElem_toArray, List.getElem_cons_zero, List.getElem_cons_succ, List.setIfInBounds_toArray, List.set_cons_zero, List.set_cons_succ]
  refine wpAnyH_take (i := 18) (v := .agg #[.int .i64 (c 0), .int .i64 (c 1), .int .i64 (c 2), .int .i64 (c 3), .int .i64 (c 4), .int .i64 (c 5), .int .i64 (c 6)]) rfl (by kernel_rfl) (by kernel_rfl) (by kernel_rfl) (fun _ _ _ h => h) (Or.inl ⟨by kernel_rfl, fun w' hw => ?y18⟩) hS ?_
  case y18 =>
    clear hS
    have z0 := (hw.cell (p := ⟨B, 0, none⟩) kl).trans k0
    have z1 := (hw.cell (p := ⟨B, 1, none⟩) kl).trans k1
    have z2 := (hw.cell (p := ⟨B, 2, none⟩) kl).trans k2
    have z3 := (hw.cell (p := ⟨B, 3, none⟩) kl).trans k3
    have z4 := (hw.cell (p := ⟨B, 4, none⟩) kl).trans k4
    have z5 := (hw.cell (p := ⟨B, 5, none⟩) kl).trans k5
    have z6 := (hw.cell (p := ⟨B, 6, none⟩) kl).trans k6
    clear hw
    go_simp
  try simp only [Act.put, List.getElem_toArray, List.getElem_cons_zero, List.getElem_cons_succ, List.setIfInBounds_toArray, List.set_cons_zero, List.set_cons_succ]
  refine wpAnyH_take (i := 24) (v := .int .i64 (bV c)) rfl (by kernel_rfl) (by kernel_rfl) (by kernel_rfl) (fun _ _ _ h => h) (Or.inl ⟨by kernel_rfl, fun w' hw => ?y24⟩) hS ?_
  case y24 =>
    clear hS
    have z0 := (hw.cell (p := ⟨B, 0, none⟩) kl).trans k0
    have z1 := (hw.cell (p := ⟨B, 1, none⟩) kl).trans k1
    have z2 := (hw.cell (p := ⟨B, 2, none⟩) kl).trans k2
    have z3 := (hw.cell (p := ⟨B, 3, none⟩) kl).trans k3
    have z4 := (hw.cell (p := ⟨B, 4, none⟩) kl).trans k4
    have z5 := (hw.cell (p := ⟨B, 5, none⟩) kl).trans k5
    have z6 := (hw.cell (p := ⟨B, 6, none⟩) kl).trans k6
    clear hw
    go_simp
  try simp only [Act.put, List.getElem_toArray, List.getElem_cons_zero, List.getElem_cons_succ, List.setIfInBounds_toArray, List.set_cons_zero, List.set_cons_succ]
  refine wpAnyH_take (i := 25) (v := .int .i64 (3 * bV c)) rfl (by kernel_rfl) (by kernel_rfl) (by kernel_rfl) (fun _ _ _ h => h) (Or.inl ⟨by kernel_rfl, fun w' hw => ?y25⟩) hS ?_
  case y25 =>
    clear hS
    have z0 := (hw.cell (p := ⟨B, 0, none⟩) kl).trans k0
    have z1 := (hw.cell (p := ⟨B, 1, none⟩) kl).trans k1
    have z2 := (hw.cell (p := ⟨B, 2, none⟩) kl).trans k2
    have z3 := (hw.cell (p := ⟨B, 3, none⟩) kl).trans k3
    have z4 := (hw.cell (p := ⟨B, 4, none⟩) kl).trans k4
    have z5 := (hw.cell (p := ⟨B, 5, none⟩) kl).trans k5
    have z6 := (hw.cell (p := ⟨B, 6, none⟩) kl).trans k6
    clear hw
    go_simp
  try simp only [Act.put, List.getElem_toArray, List.getElem_cons_zero, List.getElem_cons_succ, List.setIfInBounds_toArray, List.set_cons_zero, List.set_cons_succ]
  refine wpAnyH_take (i := 27) (v := .pointer (some ⟨B, 4, none⟩)) rfl (by kernel_rfl) (by kernel_rfl) (by kernel_rfl) (fun _ _ _ h => h) (Or.inl ⟨by kernel_rfl, fun w' hw => ?y27⟩) hS ?_
  case y27 =>
    clear hS
    have z0 := (hw.cell (p := ⟨B, 0, none⟩) kl).trans k0
    have z1 := (hw.cell (p := ⟨B, 1, none⟩) kl).trans k1
    have z2 := (hw.cell (p := ⟨B, 2, none⟩) kl).trans k2
    have z3 := (hw.cell (p := ⟨B, 3, none⟩) kl).trans k3
    have z4 := (hw.cell (p := ⟨B, 4, none⟩) kl).trans k4
    have z5 := (hw.cell (p := ⟨B, 5, none⟩) kl).trans k5
    have z6 := (hw.cell (p := ⟨B, 6, none⟩) kl).trans k6
    clear hw
    go_simp
  try simp only [Act.put, List.getElem_toArray, List.getElem_cons_zero, List.getElem_cons_succ, List.setIfInBounds_toArray, List.set_cons_zero, List.set_cons_succ]
  refine wpAnyH_take (i := 28) (v := .int .i64 (c 4)) rfl (by kernel_rfl) (by kernel_rfl) (by kernel_rfl) (fun _ _ _ h => h) (Or.inl ⟨by kernel_rfl, fun w' hw => ?y28⟩) hS ?_
  case y28 =>
    clear hS
    have z0 := (hw.cell (p := ⟨B, 0, none⟩) kl).trans k0
    have z1 := (hw.cell (p := ⟨B, 1, none⟩) kl).trans k1
    have z2 := (hw.cell (p := ⟨B, 2, none⟩) kl).trans k2
    have z3 := (hw.cell (p := ⟨B, 3, none⟩) kl).trans k3
    have z4 := (hw.cell (p := ⟨B, 4, none⟩) kl).trans k4
    have z5 := (hw.cell (p := ⟨B, 5, none⟩) kl).trans k5
    have z6 := (hw.cell (p := ⟨B, 6, none⟩) kl).trans k6
    clear hw
    go_simp
  try simp only [Act.put, List.getElem_toArray, List.getElem_cons_zero, List.getElem_cons_succ, List.setIfInBounds_toArray, List.set_cons_zero, List.set_cons_succ]
  refine wpAnyH_take (i := 29) (v := .int .i64 (3 * c 4)) rfl (by kernel_rfl) (by kernel_rfl) (by kernel_rfl) (fun _ _ _ h => h) (Or.inl ⟨by kernel_rfl, fun w' hw => ?y29⟩) hS ?_
  case y29 =>
    clear hS
    have z0 := (hw.cell (p := ⟨B, 0, none⟩) kl).trans k0
    have z1 := (hw.cell (p := ⟨B, 1, none⟩) kl).trans k1
    have z2 := (hw.cell (p := ⟨B, 2, none⟩) kl).trans k2
    have z3 := (hw.cell (p := ⟨B, 3, none⟩) kl).trans k3
    have z4 := (hw.cell (p := ⟨B, 4, none⟩) kl).trans k4
    have z5 := (hw.cell (p := ⟨B, 5, none⟩) kl).trans k5
    have z6 := (hw.cell (p := ⟨B, 6, none⟩) kl).trans k6
    clear hw
    go_simp
  try simp only [Act.put, List.getElem_toArray, List.getElem_cons_zero, List.getElem_cons_succ, List.setIfInBounds_toArray, List.set_cons_zero, List.set_cons_succ]
  refine wpAnyH_take (i := 31) (v := .pointer (some ⟨B, 1, none⟩)) rfl (by kernel_rfl) (by kernel_rfl) (by kernel_rfl) (fun _ _ _ h => h) (Or.inl ⟨by kernel_rfl, fun w' hw => ?y31⟩) hS ?_
  case y31 =>
    clear hS
    have z0 := (hw.cell (p := ⟨B, 0, none⟩) kl).trans k0
    have z1 := (hw.cell (p := ⟨B, 1, none⟩) kl).trans k1
    have z2 := (hw.cell (p := ⟨B, 2, none⟩) kl).trans k2
    have z3 := (hw.cell (p := ⟨B, 3, none⟩) kl).trans k3
    have z4 := (hw.cell (p := ⟨B, 4, none⟩) kl).trans k4
    have z5 := (hw.cell (p := ⟨B, 5, none⟩) kl).trans k5
    have z6 := (hw.cell (p := ⟨B, 6, none⟩) kl).trans k6
    clear hw
    go_simp
  try simp only [Act.put, List.getElem_toArray, List.getElem_cons_zero, List.getElem_cons_succ, List.setIfInBounds_toArray, List.set_cons_zero, List.set_cons_succ]
  refine wpAnyH_take (i := 32) (v := .int .i64 (c 1)) rfl (by kernel_rfl) (by kernel_rfl) (by kernel_rfl) (fun _ _ _ h => h) (Or.inl ⟨by kernel_rfl, fun w' hw => ?y32⟩) hS ?_
  case y32 =>
    clear hS
    have z0 := (hw.cell (p := ⟨B, 0, none⟩) kl).trans k0
    have z1 := (hw.cell (p := ⟨B, 1, none⟩) kl).trans k1
    have z2 := (hw.cell (p := ⟨B, 2, none⟩) kl).trans k2
    have z3 := (hw.cell (p := ⟨B, 3, none⟩) kl).trans k3
    have z4 := (hw.cell (p := ⟨B, 4, none⟩) kl).trans k4
    have z5 := (hw.cell (p := ⟨B, 5, none⟩) kl).trans k5
    have z6 := (hw.cell (p := ⟨B, 6, none⟩) kl).trans k6
    clear hw
    go_simp
  try simp only [Act.put, List.getElem_toArray, List.getElem_cons_zero, List.getElem_cons_succ, List.setIfInBounds_toArray, List.set_cons_zero, List.set_cons_succ]
  refine wpAnyH_take (i := 33) (v := .int .i64 (2 * c 1)) rfl (by kernel_rfl) (by kernel_rfl) (by kernel_rfl) (fun _ _ _ h => h) (Or.inl ⟨by kernel_rfl, fun w' hw => ?y33⟩) hS ?_
  case y33 =>
    clear hS
    have z0 := (hw.cell (p := ⟨B, 0, none⟩) kl).trans k0
    have z1 := (hw.cell (p := ⟨B, 1, none⟩) kl).trans k1
    have z2 := (hw.cell (p := ⟨B, 2, none⟩) kl).trans k2
    have z3 := (hw.cell (p := ⟨B, 3, none⟩) kl).trans k3
    have z4 := (hw.cell (p := ⟨B, 4, none⟩) kl).trans k4
    have z5 := (hw.cell (p := ⟨B, 5, none⟩) kl).trans k5
    have z6 := (hw.cell (p := ⟨B, 6, none⟩) kl).trans k6
    clear hw
    go_simp
  try simp only [Act.put, List.getElem_toArray, List.getElem_cons_zero, List.getElem_cons_succ, List.setIfInBounds_toArray, List.set_cons_zero, List.set_cons_succ]
  refine wpAnyH_take (i := 35) (v := .pointer (some ⟨B, 2, none⟩)) rfl (by kernel_rfl) (by kernel_rfl) (by kernel_rfl) (fun _ _ _ h => h) (Or.inl ⟨by kernel_rfl, fun w' hw => ?y35⟩) hS ?_
  case y35 =>
    clear hS
    have z0 := (hw.cell (p := ⟨B, 0, none⟩) kl).trans k0
    have z1 := (hw.cell (p := ⟨B, 1, none⟩) kl).trans k1
    have z2 := (hw.cell (p := ⟨B, 2, none⟩) kl).trans k2
    have z3 := (hw.cell (p := ⟨B, 3, none⟩) kl).trans k3
    have z4 := (hw.cell (p := ⟨B, 4, none⟩) kl).trans k4
    have z5 := (hw.cell (p := ⟨B, 5, none⟩) kl).trans k5
    have z6 := (hw.cell (p := ⟨B, 6, none⟩) kl).trans k6
    clear hw
    go_simp
  try simp only [Act.put, List.getElem_toArray, List.getElem_cons_zero, List.getElem_cons_succ, List.setIfInBounds_toArray, List.set_cons_zero, List.set_cons_succ]
  refine wpAnyH_take (i := 36) (v := .int .i64 (c 2)) rfl (by kernel_rfl) (by kernel_rfl) (by kernel_rfl) (fun _ _ _ h => h) (Or.inl ⟨by kernel_rfl, fun w' hw => ?y36⟩) hS ?_
  case y36 =>
    clear hS
    have z0 := (hw.cell (p := ⟨B, 0, none⟩) kl).trans k0
    have z1 := (hw.cell (p := ⟨B, 1, none⟩) kl).trans k1
    have z2 := (hw.cell (p := ⟨B, 2, none⟩) kl).trans k2
    have z3 := (hw.cell (p := ⟨B, 3, none⟩) kl).trans k3
    have z4 := (hw.cell (p := ⟨B, 4, none⟩) kl).trans k4
    have z5 := (hw.cell (p := ⟨B, 5, none⟩) kl).trans k5
    have z6 := (hw.cell (p := ⟨B, 6, none⟩) kl).trans k6
    clear hw
    go_simp
  try simp only [Act.put, List.getElem_toArray, List.getElem_cons_zero, List.getElem_cons_succ, List.setIfInBounds_toArray, List.set_cons_zero, List.set_cons_succ]
  refine wpAnyH_ready (rs := [19]) (by kernel_rfl) (by simp) ?_
  refine AllReadyH.cons rfl (fun K hK => ?_) AllReadyH.nil
  try simp only [Act.put, List.getElem_toArray, List.getElem_cons_zero, List.getElem_cons_succ, List.setIfInBounds_toArray, List.set_cons_zero, List.set_cons_succ]
  go_simp
  refine (LI.out _).mono ?_
  rintro e19 w19 ⟨rfl, hB19⟩
  refine hK.out _ _ (hS.trans (hB19.mono hS.size)) (fun hS => ?_)
  clear hK K
  try simp only [Act.put, List.getElem_toArray, List.getElem_cons_zero, List.getElem_cons_succ, List.setIfInBounds_toArray, List.set_cons_zero, List.set_cons_succ]
  refine wpAnyH_take (i := 20) (v := .int .i64 (3 * bL c)) rfl (by kernel_rfl) (by kernel_rfl) (by kernel_rfl) (fun _ _ _ h => h) (Or.inl ⟨by kernel_rfl, fun w' hw => ?y20⟩) hS ?_
  case y20 =>
    clear hS
    have z0 := (hw.cell (p := ⟨B, 0, none⟩) kl).trans k0
    have z1 := (hw.cell (p := ⟨B, 1, none⟩) kl).trans k1
    have z2 := (hw.cell (p := ⟨B, 2, none⟩) kl).trans k2
    have z3 := (hw.cell (p := ⟨B, 3, none⟩) kl).trans k3
    have z4 := (hw.cell (p := ⟨B, 4, none⟩) kl).trans k4
    have z5 := (hw.cell (p := ⟨B, 5, none⟩) kl).trans k5
    have z6 := (hw.cell (p := ⟨B, 6, none⟩) kl).trans k6
    clear hw
    go_simp
  try simp only [Act.put, List.getElem_toArray, List.getElem_cons_zero, List.getElem_cons_succ, List.setIfInBounds_toArray, List.set_cons_zero, List.set_cons_succ]
  refine wpAnyH_take (i := 21) (v := .int .i64 (bS c)) rfl (by kernel_rfl) (by kernel_rfl) (by kernel_rfl) (fun _ _ _ h => h) (Or.inl ⟨by kernel_rfl, fun w' hw => ?y21⟩) hS ?_
  case y21 =>
    clear hS
    have z0 := (hw.cell (p := ⟨B, 0, none⟩) kl).trans k0
    have z1 := (hw.cell (p := ⟨B, 1, none⟩) kl).trans k1
    have z2 := (hw.cell (p := ⟨B, 2, none⟩) kl).trans k2
    have z3 := (hw.cell (p := ⟨B, 3, none⟩) kl).trans k3
    have z4 := (hw.cell (p := ⟨B, 4, none⟩) kl).trans k4
    have z5 := (hw.cell (p := ⟨B, 5, none⟩) kl).trans k5
    have z6 := (hw.cell (p := ⟨B, 6, none⟩) kl).trans k6
    clear hw
    go_simp
  try simp only [Act.put, List.getElem_toArray, List.getElem_cons_zero, List.getElem_cons_succ, List.setIfInBounds_toArray, List.set_cons_zero, List.set_cons_succ]
  refine wpAnyH_take (i := 22) (v := .int .i64 ((c 0 + 2) * bS c)) rfl (by kernel_rfl) (by kernel_rfl) (by kernel_rfl) (fun _ _ _ h => h) (Or.inl ⟨by kernel_rfl, fun w' hw => ?y22⟩) hS ?_
  case y22 =>
    clear hS
    have z0 := (hw.cell (p := ⟨B, 0, none⟩) kl).trans k0
    have z1 := (hw.cell (p := ⟨B, 1, none⟩) kl).trans k1
    have z2 := (hw.cell (p := ⟨B, 2, none⟩) kl).trans k2
    have z3 := (hw.cell (p := ⟨B, 3, none⟩) kl).trans k3
    have z4 := (hw.cell (p := ⟨B, 4, none⟩) kl).trans k4
    have z5 := (hw.cell (p := ⟨B, 5, none⟩) kl).trans k5
    have z6 := (hw.cell (p := ⟨B, 6, none⟩) kl).trans k6
    clear hw
    go_simp
  try simp only [Act.put, List.getElem_toArray, List.getElem_cons_zero, List.getElem_cons_succ, List.setIfInBounds_toArray, List.set_cons_zero, List.set_cons_succ]
  refine wpAnyH_take (i := 23) (v := .int .i64 ((bV c + 6) * (7 * (c 5 + c 0) + 12) + (c 0 + 2) * bS c)) rfl (by kernel_rfl) (by kernel_rfl) (by kernel_rfl) (fun _ _ _ h => h) (Or.inl ⟨by kernel_rfl, fun w' hw => ?y23⟩) hS ?_
  case y23 =>
    clear hS
    have z0 := (hw.cell (p := ⟨B, 0, none⟩) kl).trans k0
    have z1 := (hw.cell (p := ⟨B, 1, none⟩) kl).trans k1
    have z2 := (hw.cell (p := ⟨B, 2, none⟩) kl).trans k2
    have z3 := (hw.cell (p := ⟨B, 3, none⟩) kl).trans k3
    have z4 := (hw.cell (p := ⟨B, 4, none⟩) kl).trans k4
    have z5 := (hw.cell (p := ⟨B, 5, none⟩) kl).trans k5
    have z6 := (hw.cell (p := ⟨B, 6, none⟩) kl).trans k6
    clear hw
    go_simp
  try simp only [Act.put, List.getElem_toArray, List.getElem_cons_zero, List.getElem_cons_succ, List.setIfInBounds_toArray, List.set_cons_zero, List.set_cons_succ]
  refine wpAnyH_take (i := 26) (v := .int .i64 ((bV c + 6) * (7 * (c 5 + c 0) + 12) + (c 0 + 2) * bS c + 3 * bV c)) rfl (by kernel_rfl) (by kernel_rfl) (by kernel_rfl) (fun _ _ _ h => h) (Or.inl ⟨by kernel_rfl, fun w' hw => ?y26⟩) hS ?_
  case y26 =>
    clear hS
    have z0 := (hw.cell (p := ⟨B, 0, none⟩) kl).trans k0
    have z1 := (hw.cell (p := ⟨B, 1, none⟩) kl).trans k1
    have z2 := (hw.cell (p := ⟨B, 2, none⟩) kl).trans k2
    have z3 := (hw.cell (p := ⟨B, 3, none⟩) kl).trans k3
    have z4 := (hw.cell (p := ⟨B, 4, none⟩) kl).trans k4
    have z5 := (hw.cell (p := ⟨B, 5, none⟩) kl).trans k5
    have z6 := (hw.cell (p := ⟨B, 6, none⟩) kl).trans k6
    clear hw
    go_simp
  try simp only [Act.put, List.getElem_toArray, List.getElem_cons_zero, List.getElem_cons_succ, List.setIfInBounds_toArray, List.set_cons_zero, List.set_cons_succ]
  refine wpAnyH_take (i := 30) (v := .int .i64 ((bV c + 6) * (7 * (c 5 + c 0) + 12) + (c 0 + 2) * bS c + 3 * bV c + 3 * c 4)) rfl (by kernel_rfl) (by kernel_rfl) (by kernel_rfl) (fun _ _ _ h => h) (Or.inl ⟨by kernel_rfl, fun w' hw => ?y30⟩) hS ?_
  case y30 =>
    clear hS
    have z0 := (hw.cell (p := ⟨B, 0, none⟩) kl).trans k0
    have z1 := (hw.cell (p := ⟨B, 1, none⟩) kl).trans k1
    have z2 := (hw.cell (p := ⟨B, 2, none⟩) kl).trans k2
    have z3 := (hw.cell (p := ⟨B, 3, none⟩) kl).trans k3
    have z4 := (hw.cell (p := ⟨B, 4, none⟩) kl).trans k4
    have z5 := (hw.cell (p := ⟨B, 5, none⟩) kl).trans k5
    have z6 := (hw.cell (p := ⟨B, 6, none⟩) kl).trans k6
    clear hw
    go_simp
  try simp only [Act.put, List.getElem_toArray, List.getElem_cons_zero, List.getElem_cons_succ, List.setIfInBounds_toArray, List.set_cons_zero, List.set_cons_succ]
  refine wpAnyH_take (i := 34) (v := .int .i64 ((bV c + 6) * (7 * (c 5 + c 0) + 12) + (c 0 + 2) * bS c + 3 * bV c + 3 * c 4 + 2 * c 1)) rfl (by kernel_rfl) (by kernel_rfl) (by kernel_rfl) (fun _ _ _ h => h) (Or.inl ⟨by kernel_rfl, fun w' hw => ?y34⟩) hS ?_
  case y34 =>
    clear hS
    have z0 := (hw.cell (p := ⟨B, 0, none⟩) kl).trans k0
    have z1 := (hw.cell (p := ⟨B, 1, none⟩) kl).trans k1
    have z2 := (hw.cell (p := ⟨B, 2, none⟩) kl).trans k2
    have z3 := (hw.cell (p := ⟨B, 3, none⟩) kl).trans k3
    have z4 := (hw.cell (p := ⟨B, 4, none⟩) kl).trans k4
    have z5 := (hw.cell (p := ⟨B, 5, none⟩) kl).trans k5
    have z6 := (hw.cell (p := ⟨B, 6, none⟩) kl).trans k6
    clear hw
    go_simp
  try simp only [Act.put, List.getElem_toArray, List.getElem_cons_zero, List.getElem_cons_succ, List.setIfInBounds_toArray, List.set_cons_zero, List.set_cons_succ]
  refine wpAnyH_take (i := 37) (v := .int .i64 ((bV c + 6) * (7 * (c 5 + c 0) + 12) + (c 0 + 2) * bS c + 3 * bV c + 3 * c 4 + 2 * c 1 + c 2)) rfl (by kernel_rfl) (by kernel_rfl) (by kernel_rfl) (fun _ _ _ h => h) (Or.inl ⟨by kernel_rfl, fun w' hw => ?y37⟩) hS ?_
  case y37 =>
    clear hS
    have z0 := (hw.cell (p := ⟨B, 0, none⟩) kl).trans k0
    have z1 := (hw.cell (p := ⟨B, 1, none⟩) kl).trans k1
    have z2 := (hw.cell (p := ⟨B, 2, none⟩) kl).trans k2
    have z3 := (hw.cell (p := ⟨B, 3, none⟩) kl).trans k3
    have z4 := (hw.cell (p := ⟨B, 4, none⟩) kl).trans k4
    have z5 := (hw.cell (p := ⟨B, 5, none⟩) kl).trans k5
    have z6 := (hw.cell (p := ⟨B, 6, none⟩) kl).trans k6
    clear hw
    go_simp
  try simp only [Act.put, List.getElem_toArray, List.getElem_cons_zero, List.getElem_cons_succ, List.setIfInBounds_toArray, List.set_cons_zero, List.set_cons_succ]
  refine wpAnyH_take (i := 38) (v := .int .i64 ((bV c + 6) * (7 * (c 5 + c 0) + 12) + (c 0 + 2) * bS c + 3 * bV c + 3 * c 4 + 2 * c 1 + c 2 + 43)) rfl (by kernel_rfl) (by kernel_rfl) (by kernel_rfl) (fun _ _ _ h => h) (Or.inl ⟨by kernel_rfl, fun w' hw => ?y38⟩) hS ?_
  case y38 =>
    clear hS
    have z0 := (hw.cell (p := ⟨B, 0, none⟩) kl).trans k0
    have z1 := (hw.cell (p := ⟨B, 1, none⟩) kl).trans k1
    have z2 := (hw.cell (p := ⟨B, 2, none⟩) kl).trans k2
    have z3 := (hw.cell (p := ⟨B, 3, none⟩) kl).trans k3
    have z4 := (hw.cell (p := ⟨B, 4, none⟩) kl).trans k4
    have z5 := (hw.cell (p := ⟨B, 5, none⟩) kl).trans k5
    have z6 := (hw.cell (p := ⟨B, 6, none⟩) kl).trans k6
    clear hw
    go_simp
  try simp only [Act.put, List.getElem_toArray, List.getElem_cons_zero, List.getElem_cons_succ, List.setIfInBounds_toArray, List.set_cons_zero, List.set_cons_succ]
  refine wpAnyH_take (i := 39) (v := .int .i64 ((bV c + 6) * (7 * (c 5 + c 0) + 12) + (c 0 + 2) * bS c + 3 * bV c + 3 * c 4 + 2 * c 1 + c 2 + 43)) rfl (by kernel_rfl) (by kernel_rfl) (by kernel_rfl) (fun _ _ _ h => h) (Or.inl ⟨by kernel_rfl, fun w' hw => ?y39⟩) hS ?_
  case y39 =>
    clear hS
    have z0 := (hw.cell (p := ⟨B, 0, none⟩) kl).trans k0
    have z1 := (hw.cell (p := ⟨B, 1, none⟩) kl).trans k1
    have z2 := (hw.cell (p := ⟨B, 2, none⟩) kl).trans k2
    have z3 := (hw.cell (p := ⟨B, 3, none⟩) kl).trans k3
    have z4 := (hw.cell (p := ⟨B, 4, none⟩) kl).trans k4
    have z5 := (hw.cell (p := ⟨B, 5, none⟩) kl).trans k5
    have z6 := (hw.cell (p := ⟨B, 6, none⟩) kl).trans k6
    clear hw
    go_simp
  try simp only [Act.put, List.getElem_toArray, List.getElem_cons_zero, List.getElem_cons_succ, List.setIfInBounds_toArray, List.set_cons_zero, List.set_cons_succ]
  refine wpAnyH_done (by kernel_rfl) ?_ _
  have BW1 : Hid (Below w.heap.size w w19) := BW0.out.trans (hS.mono BW0.out.size)
  replace k0 := (hS.cell (p := ⟨B, 0, none⟩) kl).trans k0
  replace k1 := (hS.cell (p := ⟨B, 1, none⟩) kl).trans k1
  replace k2 := (hS.cell (p := ⟨B, 2, none⟩) kl).trans k2
  replace k3 := (hS.cell (p := ⟨B, 3, none⟩) kl).trans k3
  replace k4 := (hS.cell (p := ⟨B, 4, none⟩) kl).trans k4
  replace k5 := (hS.cell (p := ⟨B, 5, none⟩) kl).trans k5
  replace k6 := (hS.cell (p := ⟨B, 6, none⟩) kl).trans k6
  replace kl := Nat.lt_of_lt_of_le kl hS.size
  clear hS
  go_wp2
  go_ret
  exact ⟨rfl, BW1.out⟩
end Go.Proofs.YtpknggcgojkjgaaGreat.Cn
/-
  CENSUS: the finder in the world; some of its monitors.
-/
namespace Go.Proofs.YtpknggcgojkjgaaGreat.Cn
open Go.RowKit Mr Md
set_option linter.unusedVariables false
set_option linter.unusedSimpArgs false
set_option maxRecDepth 100000
/-- A fault. -/
structure Fl where
  kd : Int
  mv : Int
  slot : Int
def Fl.row (f : Fl) : List Value := [.int .i64 f.kd, .int .i64 f.mv, .int .i64 f.slot]
def fls (l : List Fl) : List Value := l.flatMap Fl.row
theorem fls_length (l : List Fl) : (fls l).length = l.length * 3 := by
  induction l with
  | nil => rfl
  | cons x l ih => simp only [fls, List.flatMap_cons, List.length_append] at ih ⊢; simp [Fl.row] at ih ⊢; omega
/-- What a finder has that changes: hazards' cells, the last moves, the touched access, the first fault's number, the slice of faults. -/
structure Fg where
  hz : Nat → Value
  tch : Fl
  fst : Int
  fv : Value
structure Fc where
  c : Nat → Int
  used : Int
  v0 : Value
  v1 : Value
  v2 : Value
  v3 : Value
  ev : Value
  bs : Nat
  lv : Value
def ff (K : Fc) (s : Fg) (k : Nat) : Value :=
  if k < 7 then .int .i64 (K.c k) else if k = 7 then .int .i64 K.used else if k = 8 then K.v0 else if k = 9 then K.v1 else if k = 10 then K.v2 else if k = 11 then K.v3 else if k = 12 then K.ev else if k = 13 then .pointer (some ⟨K.bs, 0, none⟩) else if k < 270 then s.hz (k - 14) else if k = 270 then K.lv else if k = 271 then .int .i64 s.tch.kd else if k = 272 then .int .i64 s.tch.mv else if k = 273 then .int .i64 s.tch.slot else if k = 274 then .int .i64 s.fst else s.fv
section
variable {w : World} {bf : Nat} {K : Fc} {s : Fg}
theorem fb_10 (h : Box w bf 276 (ff K s)) : w.cell? ⟨bf, 10, none⟩ = some K.v2 := h.cell 10 (by omega)
theorem fb_13 (h : Box w bf 276 (ff K s)) : w.cell? ⟨bf, 13, none⟩ = some (.pointer (some ⟨K.bs, 0, none⟩)) := h.cell 13 (by omega)
theorem fb_270 (h : Box w bf 276 (ff K s)) : w.cell? ⟨bf, 270, none⟩ = some K.lv := h.cell 270 (by omega)
theorem fb_271 (h : Box w bf 276 (ff K s)) : w.cell? ⟨bf, 271, none⟩ = some (.int .i64 s.tch.kd) := h.cell 271 (by omega)
theorem fb_272 (h : Box w bf 276 (ff K s)) : w.cell? ⟨bf, 272, none⟩ = some (.int .i64 s.tch.mv) := h.cell 272 (by omega)
theorem fb_273 (h : Box w bf 276 (ff K s)) : w.cell? ⟨bf, 273, none⟩ = some (.int .i64 s.tch.slot) := h.cell 273 (by omega)
theorem fb_274 (h : Box w bf 276 (ff K s)) : w.cell? ⟨bf, 274, none⟩ = some (.int .i64 s.fst) := h.cell 274 (by omega)
theorem fb_275 (h : Box w bf 276 (ff K s)) : w.cell? ⟨bf, 275, none⟩ = some s.fv := h.cell 275 (by omega)
theorem ff_hi {k : Nat} (h : 271 ≤ k) (s' : Fg) : k < 276 → ff K s k = (if k = 271 then .int .i64 s.tch.kd else if k = 272 then .int .i64 s.tch.mv else if k = 273 then .int .i64 s.tch.slot else if k = 274 then .int .i64 s.fst else s.fv) := by
  intro _
  unfold ff
  rw [if_neg (by omega), if_neg (by omega), if_neg (by omega), if_neg (by omega), if_neg (by omega), if_neg (by omega), if_neg (by omega), if_neg (by omega), if_neg (by omega), if_neg (by omega)]
theorem ff_lo {k : Nat} (h : k ≤ 270) (s' : Fg) (hz : s'.hz = s.hz) : ff K s k = ff K s' k := by
  unfold ff
  by_cases e : k < 270
  · simp only [hz, e, if_true]
  · have : k = 270 := by omega
    subst this; simp
theorem ff_set {s' : Fg} (hz : s'.hz = s.hz) (f : Nat → Value) (hlo : ∀ k, k ≤ 270 → f k = ff K s k) (h1 : f 271 = .int .i64 s'.tch.kd) (h2 : f 272 = .int .i64 s'.tch.mv) (h3 : f 273 = .int .i64 s'.tch.slot) (h4 : f 274 = .int .i64 s'.fst) (h5 : f 275 = s'.fv) : ∀ k, k < 276 → f k = ff K s' k := by
  intro k hk
  by_cases e : k ≤ 270
  · rw [hlo k e]; exact ff_lo e s' hz
  · have : k = 271 ∨ k = 272 ∨ k = 273 ∨ k = 274 ∨ k = 275 := by omega
    rcases this with rfl | rfl | rfl | rfl | rfl
    · exact h1
    · exact h2
    · exact h3
    · exact h4
    · exact h5
end
theorem ne_new' {w : World} {b n : Nat} {f : Nat → Value} (h : Box w b n f) : w.heap.size ≠ b := Nat.ne_of_gt h.lt
set_option maxHeartbeats 4000000 in
theorem fopen_any {w : World} {bf nf : Nat} {K : Fc} {s : Fg} (h : Box w bf 276 (ff K s)) {a : Option Addr} {cap : Nat} (hf : s.fv = .slice a nf cap) (e : Ev) :
    Calls Tryz.prog 66 #[.pointer (some ⟨bf, 0, none⟩), e.val] w fun r w' => r = .returned (.bool true) ∧ Box w' bf 276 (ff K { s with tch := ⟨0, 0, 0⟩, fst := (nf : Int) }) ∧ Fr w w' (fun k => k = bf) := by
  have A := Mr.hid (h.below ((Below.refl _ w).alloc (Nat.le_refl _) (evO e)))
  have F : Hid (Fr w (w.alloc (evO e)) (fun k => k = bf)) := (Fr.refl _ _).alloc _
  have nb := ne_new' h
  have nb' := Ne.symm nb
  clear h
  obtain ⟨kd, mv, th, nm⟩ := e
  unfold Ev.val
  unfold evO at A F
  replace hf := Mr.hid hf
  go_enter Tryz.func66, Tryz.ntmps66
  go_upto_region 1 with (fail)
  generalize (w.alloc _) = wa at *
  generalize w.heap.size = B at *
  have al := A.out.lt
  have c5 := fb_275 A.out
  rw [hf.out] at c5
  have c1 := fb_271 A.out
  have c2 := fb_272 A.out
  have c3 := fb_273 A.out
  have c4 := fb_274 A.out
  have f1 := A.out.live 271
  have f2 := A.out.live 272
  have f3 := A.out.live 273
  have f4 := A.out.live 274
  have A2 : Hid (Box ((((wa.setCell ⟨bf, 271, none⟩ (.int .i64 0)).setCell ⟨bf, 272, none⟩ (.int .i64 0)).setCell ⟨bf, 273, none⟩ (.int .i64 0)).setCell ⟨bf, 274, none⟩ (.int .i64 (nf : Int))) bf 276 (ff K { s with tch := ⟨0, 0, 0⟩, fst := (nf : Int) })) :=
    by
      refine Box.congr ((((A.out.set 271 (by omega) _).set 272 (by omega) _).set 273 (by omega) _).set 274 (by omega) _) (ff_set (K := K) (s := s) (s' := { s with tch := ⟨0, 0, 0⟩, fst := (nf : Int) }) rfl _ (fun k hk => ?_) rfl rfl rfl rfl rfl)
      unfold setF
      rw [if_neg (by omega), if_neg (by omega), if_neg (by omega), if_neg (by omega)]
  have F2 : Hid (Fr wa ((((wa.setCell ⟨bf, 271, none⟩ (.int .i64 0)).setCell ⟨bf, 272, none⟩ (.int .i64 0)).setCell ⟨bf, 273, none⟩ (.int .i64 0)).setCell ⟨bf, 274, none⟩ (.int .i64 (nf : Int))) (fun k => k = bf)) := ((((Fr.refl wa (fun k => k = bf)).setCell ⟨bf, 271, none⟩ _ (.inl rfl)).setCell ⟨bf, 272, none⟩ _ (.inl rfl)).setCell ⟨bf, 273, none⟩ _ (.inl rfl)).setCell ⟨bf, 274, none⟩ _ (.inl rfl)
  go_wp2
  go_ret
  exact ⟨rfl, A2.out, F.out.trans (F2.out.mono (fun k hk => .inl hk))⟩
set_option maxHeartbeats 4000000 in
theorem fclose_any {w : World} {bf : Nat} {K : Fc} {s : Fg} (h : Box w bf 276 (ff K s)) (ht : s.tch.kd = 0) (e : Ev) :
    Calls Tryz.prog 72 #[.pointer (some ⟨bf, 0, none⟩), e.val] w fun r w' => r = .returned (.bool true) ∧ Box w' bf 276 (ff K s) ∧ Fr w w' (fun k => k = bf) := by
  have A := Mr.hid (h.below ((Below.refl _ w).alloc (Nat.le_refl _) (evO e)))
  have F : Hid (Fr w (w.alloc (evO e)) (fun k => k = bf)) := (Fr.refl _ _).alloc _
  have nb := ne_new' h
  clear h
  obtain ⟨kd, mv, th, nm⟩ := e
  unfold Ev.val
  unfold evO at A F
  replace ht := Mr.hid ht
  go_enter Tryz.func72, Tryz.ntmps72
  go_upto_region 1 with (fail)
  generalize (w.alloc _) = wa at *
  generalize w.heap.size = B at *
  have al := A.out.lt
  have c1 := fb_271 A.out
  rw [ht.out] at c1
  go_quiet (fail)
  go_wp2
  go_ret
  exact ⟨rfl, A.out, ⟨F.out.os, F.out.tape, F.out.output, F.out.size, F.out.block⟩⟩
end Go.Proofs.YtpknggcgojkjgaaGreat.Cn
