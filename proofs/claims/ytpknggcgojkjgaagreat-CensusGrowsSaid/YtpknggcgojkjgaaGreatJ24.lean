import Derived.Test.YtpknggcgojkjgaaGreatJ23
/-
  CENSUS: the bounds.
-/
namespace Go.Proofs.YtpknggcgojkjgaaGreat.Cn
open Go.RowKit Mr Md
set_option linter.unusedVariables false
set_option linter.unusedSimpArgs false
set_option maxRecDepth 100000
/-- A configuration that may be. -/
structure Cfr (c : Nat → Int) : Prop where
  l0 : 1 ≤ c 0
  u0 : c 0 ≤ 16
  l1 : 1 ≤ c 1
  u1 : c 1 ≤ 16
  l2 : 3 ≤ c 2
  u2 : c 2 ≤ 8
  l3 : 1 ≤ c 3
  u3 : c 3 ≤ 1024
  l4 : 0 ≤ c 4
  u4 : c 4 ≤ 64
  l5 : 1 ≤ c 5
  u5 : c 5 ≤ 1024
theorem i64x (x : Int) (h1 : -9223372036854775808 ≤ x) (h2 : x ≤ 9223372036854775807) : IntKind.i64.wrap x = x := by
  simp [IntKind.wrap, IntKind.signed, IntKind.bits]; omega
theorem mul_le2 {a b A B : Int} (h0 : 0 ≤ a) (h1 : a ≤ A) (h2 : 0 ≤ b) (h3 : b ≤ B) : 0 ≤ a * b ∧ a * b ≤ A * B := ⟨Int.mul_nonneg h0 h2, Int.mul_le_mul h1 h3 h2 (Int.le_trans h0 h1)⟩
def bH (c : Nat → Int) : Int := c 1 * c 2
def bL (c : Nat → Int) : Int := max (c 3) (bH c + 1) + (c 1 - 1) * bH c
def bR (c : Nat → Int) : Int := c 1 * bL c
def bS (c : Nat → Int) : Int := 3 * c 1 + bH c + 3 * bL c
theorem Cfr.h {c : Nat → Int} (h : Cfr c) : 0 ≤ bH c ∧ bH c ≤ 128 := by
  have := mul_le2 (a := c 1) (b := c 2) (A := 16) (B := 8) (by have := h.l1; omega) h.u1 (by have := h.l2; omega) h.u2
  unfold bH; omega
theorem Cfr.l {c : Nat → Int} (h : Cfr c) : 0 ≤ (c 1 - 1) * bH c ∧ (c 1 - 1) * bH c ≤ 1920 ∧ 0 ≤ bL c ∧ bL c ≤ 3000 := by
  have h1 := h.h
  have := mul_le2 (a := c 1 - 1) (b := bH c) (A := 15) (B := 128) (by have := h.l1; omega) (by have := h.u1; omega) h1.1 h1.2
  have h3 := h.u3
  have h4 := h.l3
  unfold bL
  omega
set_option maxHeartbeats 4000000 in
theorem hazards_any {c : Nat → Int} (h : Cfr c) (w : World) : Calls Tryz.prog 74 #[cfgV c] w fun r w' => r = .returned (.int .i64 (bH c)) ∧ Below w.heap.size w w' := by
  have hw : IntKind.i64.wrap (c 1 * c 2) = c 1 * c 2 := i64x _ (by have := h.h; unfold bH at this; omega) (by have := h.h; unfold bH at this; omega)
  have hB : Hid (Below w.heap.size w (w.alloc (cfO c))) := (Below.refl _ w).alloc (Nat.le_refl _) _
  unfold cfO at hB
  unfold cfgV
  go_enter Tryz.func74, Tryz.ntmps74
  go_wp2
  go_ret
  exact ⟨rfl, hB.out⟩
set_option maxHeartbeats 8000000 in
theorem listed_any {c : Nat → Int} (h : Cfr c) (w : World) : Calls Tryz.prog 34 #[cfgV c] w fun r w' => r = .returned (.int .i64 (bL c)) ∧ Below w.heap.size w w' := by
  have HZ := Mr.hid (hazards_any h)
  have hB : Hid (Below w.heap.size w (w.alloc (cfO c))) := (Below.refl _ w).alloc (Nat.le_refl _) _
  have hb : Hid ((w.alloc (cfO c)).heap[w.heap.size]? = some (cfO c)) := heap_alloc_new _ _
  have w1 : IntKind.i64.wrap (bH c + 1) = bH c + 1 := i64x _ (by have := h.h; omega) (by have := h.h; omega)
  have w2 : IntKind.i64.wrap (c 1 - 1) = c 1 - 1 := i64x _ (by have := h.l1; omega) (by have := h.u1; omega)
  have w3 : IntKind.i64.wrap ((c 1 - 1) * bH c) = (c 1 - 1) * bH c := i64x _ (by have := h.l; omega) (by have := h.l; omega)
  have w4 : IntKind.i64.wrap (max (c 3) (bH c + 1) + (c 1 - 1) * bH c) = bL c := i64x _ (by have := h.l.2.2; unfold bL at this; omega) (by have := h.l.2.2; unfold bL at this; omega)
  unfold cfO at hB hb
  unfold cfgV at HZ ⊢
  go_enter Tryz.func34, Tryz.ntmps34
  go_upto_region 1 with (fail)
  generalize (w.alloc _) = wa at *
  obtain ⟨B, hBe⟩ : ∃ B, B = w.heap.size := ⟨_, rfl⟩
  rw [← hBe] at hb hB ⊢
  replace hBe := Mr.hid hBe
  obtain ⟨k0, k1, k2, k3, k4, k5, k6, kl⟩ := cfO_cells (c := c) hb.out
  have S0 : Below wa.heap.size wa wa.drew := (Below.refl _ _).drew
  refine wp_region_held_drew (S := fun w' => Below wa.heap.size wa w') (by kernel_rfl) S0 (fun hS => ?_)
  try simp only [Act.put, List.getElem_toArray, List.getElem_cons_zero, List.getElem_cons_succ, List.setIfInBounds_toArray, List.set_cons_zero, List.set_cons_succ]
  refine wpAnyH_take (i := 0) (v := .pointer (some ⟨B, 3, none⟩)) rfl (by kernel_rfl) (by kernel_rfl) (by kernel_rfl) (fun _ _ _ h => h) (Or.inl ⟨by kernel_rfl, fun w' hw => ?y0⟩) hS ?_
  case y0 =>
    clear hS
    have z0 := (hw.cell (p := ⟨B, 0, none⟩) kl).trans k0
    have z1 := (hw.cell (p := ⟨B, 1, none⟩) kl).trans k1
    have z2 := (hw.cell (p := ⟨B, 2, none⟩) kl).trans k2
    have z3 := (hw.cell (p := ⟨B, 3, none⟩) kl).trans k3
    have z4 := (hw.cell (p := ⟨B, 4, none⟩) kl).trans k4
    have z5 := (hw.cell (p := ⟨B, 5, none⟩) kl).trans k5
    have z6 := (hw.cell (p := ⟨B, 6, none⟩) kl).trans k6
    clear hw
    go_simp
  try simp only [Act.put, List.getElem_toArray, List.getElem_cons_zero, List.getElem_cons_succ, List.setIfInBounds_toArray, List.set_cons_zero, List.set_cons_succ]
  refine wpAnyH_take (i := 1) (v := .int .i64 (c 3)) rfl (by kernel_rfl) (by kernel_rfl) (by kernel_rfl) (fun _ _ _ h => h) (Or.inl ⟨by kernel_rfl, fun w' hw => ?y1⟩) hS ?_
  case y1 =>
    clear hS
    have z0 := (hw.cell (p := ⟨B, 0, none⟩) kl).trans k0
    have z1 := (hw.cell (p := ⟨B, 1, none⟩) kl).trans k1
    have z2 := (hw.cell (p := ⟨B, 2, none⟩) kl).trans k2
    have z3 := (hw.cell (p := ⟨B, 3, none⟩) kl).trans k3
    have z4 := (hw.cell (p := ⟨B, 4, none⟩) kl).trans k4
    have z5 := (hw.cell (p := ⟨B, 5, none⟩) kl).trans k5
    have z6 := (hw.cell (p := ⟨B, 6, none⟩) kl).trans k6
    clear hw
    go_simp
  try simp only [Act.put, List.getElem_toArray, List.getElem_cons_zero, List.getElem_cons_succ, List.setIfInBounds_toArray, List.set_cons_zero, List.set_cons_succ]
  refine wpAnyH_take (i := 2) (v := .agg #[.int .i64 (c 0), .int .i64 (c 1), .int .i64 (c 2), .int .i64 (c 3), .int .i64 (c 4), .int .i64 (c 5), .int .i64 (c 6)]) rfl (by kernel_rfl) (by kernel_rfl) (by kernel_rfl) (fun _ _ _ h => h) (Or.inl ⟨by kernel_rfl, fun w' hw => ?y2⟩) hS ?_
  case y2 =>
    clear hS
    have z0 := (hw.cell (p := ⟨B, 0, none⟩) kl).trans k0
    have z1 := (hw.cell (p := ⟨B, 1, none⟩) kl).trans k1
    have z2 := (hw.cell (p := ⟨B, 2, none⟩) kl).trans k2
    have z3 := (hw.cell (p := ⟨B, 3, none⟩) kl).trans k3
    have z4 := (hw.cell (p := ⟨B, 4, none⟩) kl).trans k4
    have z5 := (hw.cell (p := ⟨B, 5, none⟩) kl).trans k5
    have z6 := (hw.cell (p := ⟨B, 6, none⟩) kl).trans k6
    clear hw
    go_simp
  try simp only [Act.put, List.getElem_toArray, List.getElem_cons_zero, List.getElem_cons_succ, List.setIfInBounds_toArray, List.set_cons_zero, List.set_cons_succ]
  refine wpAnyH_take (i := 6) (v := .pointer (some ⟨B, 1, none⟩)) rfl (by kernel_rfl) (by kernel_rfl) (by kernel_rfl) (fun _ _ _ h => h) (Or.inl ⟨by kernel_rfl, fun w' hw => ?y6⟩) hS ?_
  case y6 =>
    clear hS
    have z0 := (hw.cell (p := ⟨B, 0, none⟩) kl).trans k0
    have z1 := (hw.cell (p := ⟨B, 1, none⟩) kl).trans k1
    have z2 := (hw.cell (p := ⟨B, 2, none⟩) kl).trans k2
    have z3 := (hw.cell (p := ⟨B, 3, none⟩) kl).trans k3
    have z4 := (hw.cell (p := ⟨B, 4, none⟩) kl).trans k4
    have z5 := (hw.cell (p := ⟨B, 5, none⟩) kl).trans k5
    have z6 := (hw.cell (p := ⟨B, 6, none⟩) kl).trans k6
    clear hw
    go_simp
  try simp only [Act.put, List.getElem_toArray, List.getElem_cons_zero, List.getElem_cons_succ, List.setIfInBounds_toArray, List.set_cons_zero, List.set_cons_succ]
  refine wpAnyH_take (i := 7) (v := .int .i64 (c 1)) rfl (by kernel_rfl) (by kernel_rfl) (by kernel_rfl) (fun _ _ _ h => h) (Or.inl ⟨by kernel_rfl, fun w' hw => ?y7⟩) hS ?_
  case y7 =>
    clear hS
    have z0 := (hw.cell (p := ⟨B, 0, none⟩) kl).trans k0
    have z1 := (hw.cell (p := ⟨B, 1, none⟩) kl).trans k1
    have z2 := (hw.cell (p := ⟨B, 2, none⟩) kl).trans k2
    have z3 := (hw.cell (p := ⟨B, 3, none⟩) kl).trans k3
    have z4 := (hw.cell (p := ⟨B, 4, none⟩) kl).trans k4
    have z5 := (hw.cell (p := ⟨B, 5, none⟩) kl).trans k5
    have z6 := (hw.cell (p := ⟨B, 6, none⟩) kl).trans k6
    clear hw
    go_simp
  try simp only [Act.put, List.getElem_toArray, List.getElem_cons_zero, List.getElem_cons_succ, List.setIfInBounds_toArray, List.set_cons_zero, List.set_cons_succ]
  refine wpAnyH_take (i := 8) (v := .int .i64 (c 1 - 1)) rfl (by kernel_rfl) (by kernel_rfl) (by kernel_rfl) (fun _ _ _ h => h) (Or.inl ⟨by kernel_rfl, fun w' hw => ?y8⟩) hS ?_
  case y8 =>
    clear hS
    have z0 := (hw.cell (p := ⟨B, 0, none⟩) kl).trans k0
    have z1 := (hw.cell (p := ⟨B, 1, none⟩) kl).trans k1
    have z2 := (hw.cell (p := ⟨B, 2, none⟩) kl).trans k2
    have z3 := (hw.cell (p := ⟨B, 3, none⟩) kl).trans k3
    have z4 := (hw.cell (p := ⟨B, 4, none⟩) kl).trans k4
    have z5 := (hw.cell (p := ⟨B, 5, none⟩) kl).trans k5
    have z6 := (hw.cell (p := ⟨B, 6, none⟩) kl).trans k6
    clear hw
    go_simp
  try simp only [Act.put, List.getElem_toArray, List.getElem_cons_zero, List.getElem_cons_succ, List.setIfInBounds_toArray, List.set_cons_zero, List.set_cons_succ]
  refine wpAnyH_take (i := 9) (v := .agg #[.int .i64 (c 0), .int .i64 (c 1), .int .i64 (c 2), .int .i64 (c 3), .int .i64 (c 4), .int .i64 (c 5), .int .i64 (c 6)]) rfl (by kernel_rfl) (by kernel_rfl) (by kernel_rfl) (fun _ _ _ h => h) (Or.inl ⟨by kernel_rfl, fun w' hw => ?y9⟩) hS ?_
  case y9 =>
    clear hS
    have z0 := (hw.cell (p := ⟨B, 0, none⟩) kl).trans k0
    have z1 := (hw.cell (p := ⟨B, 1, none⟩) kl).trans k1
    have z2 := (hw.cell (p := ⟨B, 2, none⟩) kl).trans k2
    have z3 := (hw.cell (p := ⟨B, 3, none⟩) kl).trans k3
    have z4 := (hw.cell (p := ⟨B, 4, none⟩) kl).trans k4
    have z5 := (hw.cell (p := ⟨B, 5, none⟩) kl).trans k5
    have z6 := (hw.cell (p := ⟨B, 6, none⟩) kl).trans k6
    clear hw
    go_simp
  try simp only [Act.put, List.getElem_toArray, List.getElem_cons_zero, List.getElem_cons_succ, List.setIfInBounds_toArray, List.set_cons_zero, List.set_cons_succ]
  refine wpAnyH_ready (rs := [3]) (by kernel_rfl) (by simp) ?_
  refine AllReadyH.cons rfl (fun K hK => ?_) AllReadyH.nil
  try simp only [Act.put, List.getElem_toArray, List.getElem_cons_zero, List.getElem_cons_succ, List.setIfInBounds_toArray, List.set_cons_zero, List.set_cons_succ]
  go_simp
  refine (HZ.out _).mono ?_
  rintro e3 w3 ⟨rfl, hB3⟩
  refine hK.out _ _ (hS.trans (hB3.mono hS.size)) (fun hS => ?_)
  clear hK K
  try simp only [Act.put, List.getElem_toArray, List.getElem_cons_zero, List.getElem_cons_succ, List.setIfInBounds_toArray, List.set_cons_zero, List.set_cons_succ]
  refine wpAnyH_take (i := 4) (v := .int .i64 (bH c + 1)) rfl (by kernel_rfl) (by kernel_rfl) (by kernel_rfl) (fun _ _ _ h => h) (Or.inl ⟨by kernel_rfl, fun w' hw => ?y4⟩) hS ?_
  case y4 =>
    clear hS
    have z0 := (hw.cell (p := ⟨B, 0, none⟩) kl).trans k0
    have z1 := (hw.cell (p := ⟨B, 1, none⟩) kl).trans k1
    have z2 := (hw.cell (p := ⟨B, 2, none⟩) kl).trans k2
    have z3 := (hw.cell (p := ⟨B, 3, none⟩) kl).trans k3
    have z4 := (hw.cell (p := ⟨B, 4, none⟩) kl).trans k4
    have z5 := (hw.cell (p := ⟨B, 5, none⟩) kl).trans k5
    have z6 := (hw.cell (p := ⟨B, 6, none⟩) kl).trans k6
    clear hw
    go_simp
  try simp only [Act.put, List.getElem_toArray, List.getElem_cons_zero, List.getElem_cons_succ, List.setIfInBounds_toArray, List.set_cons_zero, List.set_cons_succ]
  refine wpAnyH_take (i := 5) (v := .int .i64 (max (c 3) (bH c + 1))) rfl (by kernel_rfl) (by kernel_rfl) (by kernel_rfl) (fun _ _ _ h => h) (Or.inl ⟨by kernel_rfl, fun w' hw => ?y5⟩) hS ?_
  case y5 =>
    clear hS
    have z0 := (hw.cell (p := ⟨B, 0, none⟩) kl).trans k0
    have z1 := (hw.cell (p := ⟨B, 1, none⟩) kl).trans k1
    have z2 := (hw.cell (p := ⟨B, 2, none⟩) kl).trans k2
    have z3 := (hw.cell (p := ⟨B, 3, none⟩) kl).trans k3
    have z4 := (hw.cell (p := ⟨B, 4, none⟩) kl).trans k4
    have z5 := (hw.cell (p := ⟨B, 5, none⟩) kl).trans k5
    have z6 := (hw.cell (p := ⟨B, 6, none⟩) kl).trans k6
    clear hw
    go_simp
  try simp only [Act.put, List.getElem_toArray, List.getElem_cons_zero, List.getElem_cons_succ, List.setIfInBounds_toArray, List.set_cons_zero, List.set_cons_succ]
  refine wpAnyH_ready (rs := [10]) (by kernel_rfl) (by simp) ?_
  refine AllReadyH.cons rfl (fun K hK => ?_) AllReadyH.nil
  try simp only [Act.put, List.getElem_toArray, List.getElem_cons_zero, List.getElem_cons_succ, List.setIfInBounds_toArray, List.set_cons_zero, List.set_cons_succ]
  go_simp
  refine (HZ.out _).mono ?_
  rintro e10 w10 ⟨rfl, hB10⟩
  refine hK.out _ _ (hS.trans (hB10.mono hS.size)) (fun hS => ?_)
  clear hK K
  try simp only [Act.put, List.getElem_toArray, List.getElem_cons_zero, List.getElem_cons_succ, List.setIfInBounds_toArray, List.set_cons_zero, List.set_cons_succ]
  refine wpAnyH_take (i := 11) (v := .int .i64 ((c 1 - 1) * bH c)) rfl (by kernel_rfl) (by kernel_rfl) (by kernel_rfl) (fun _ _ _ h => h) (Or.inl ⟨by kernel_rfl, fun w' hw => ?y11⟩) hS ?_
  case y11 =>
    clear hS
    have z0 := (hw.cell (p := ⟨B, 0, none⟩) kl).trans k0
    have z1 := (hw.cell (p := ⟨B, 1, none⟩) kl).trans k1
    have z2 := (hw.cell (p := ⟨B, 2, none⟩) kl).trans k2
    have z3 := (hw.cell (p := ⟨B, 3, none⟩) kl).trans k3
    have z4 := (hw.cell (p := ⟨B, 4, none⟩) kl).trans k4
    have z5 := (hw.cell (p := ⟨B, 5, none⟩) kl).trans k5
    have z6 := (hw.cell (p := ⟨B, 6, none⟩) kl).trans k6
    clear hw
    go_simp
  try simp only [Act.put, List.getElem_toArray, List.getElem_cons_zero, List.getElem_cons_succ, List.setIfInBounds_toArray, List.set_cons_zero, List.set_cons_succ]
  refine wpAnyH_take (i := 12) (v := .int .i64 (bL c)) rfl (by kernel_rfl) (by kernel_rfl) (by kernel_rfl) (fun _ _ _ h => h) (Or.inl ⟨by kernel_rfl, fun w' hw => ?y12⟩) hS ?_
  case y12 =>
    clear hS
    have z0 := (hw.cell (p := ⟨B, 0, none⟩) kl).trans k0
    have z1 := (hw.cell (p := ⟨B, 1, none⟩) kl).trans k1
    have z2 := (hw.cell (p := ⟨B, 2, none⟩) kl).trans k2
    have z3 := (hw.cell (p := ⟨B, 3, none⟩) kl).trans k3
    have z4 := (hw.cell (p := ⟨B, 4, none⟩) kl).trans k4
    have z5 := (hw.cell (p := ⟨B, 5, none⟩) kl).trans k5
    have z6 := (hw.cell (p := ⟨B, 6, none⟩) kl).trans k6
    clear hw
    go_simp
  try simp only [Act.put, List.getElem_toArray, List.getElem_cons_zero, List.getElem_cons_succ, List.setIfInBounds_toArray, List.set_cons_zero, List.set_cons_succ]
  refine wpAnyH_take (i := 13) (v := .int .i64 (bL c)) rfl (by kernel_rfl) (by kernel_rfl) (by kernel_rfl) (fun _ _ _ h => h) (Or.inl ⟨by kernel_rfl, fun w' hw => ?y13⟩) hS ?_
  case y13 =>
    clear hS
    have z0 := (hw.cell (p := ⟨B, 0, none⟩) kl).trans k0
    have z1 := (hw.cell (p := ⟨B, 1, none⟩) kl).trans k1
    have z2 := (hw.cell (p := ⟨B, 2, none⟩) kl).trans k2
    have z3 := (hw.cell (p := ⟨B, 3, none⟩) kl).trans k3
    have z4 := (hw.cell (p := ⟨B, 4, none⟩) kl).trans k4
    have z5 := (hw.cell (p := ⟨B, 5, none⟩) kl).trans k5
    have z6 := (hw.cell (p := ⟨B, 6, none⟩) kl).trans k6
    clear hw
    go_simp
  try simp only [Act.put, List.getElem_toArray, List.getElem_cons_zero, List.getElem_cons_succ, List.setIfInBounds_toArray, List.set_cons_zero, List.set_cons_succ]
  refine wpAnyH_done (by kernel_rfl) ?_ _
  have BW : Hid (Below w.heap.size w w10) := by
    have h1 := hB.out
    rw [hBe.out] at h1
    exact h1.trans (hS.mono h1.size)
  clear hS k0 k1 k2 k3 k4 k5 k6
  go_wp2
  go_ret
  exact ⟨rfl, BW.out⟩
def bV (c : Nat → Int) : Int := 8 * c 0 + 1 + c 0 * c 4 + bR c
def bSo (c : Nat → Int) : Int := 56 * c 5 + (c 0 + 2) * (bS c + 3) + 3 * c 4 + 2 * c 1 + c 2 + 100
def bW (c : Nat → Int) : Int := c 0 * ((bV c + 6) * (7 * (c 5 + c 0) + 12) + (c 0 + 2) * bS c + 3 * bV c + 3 * c 4 + 2 * c 1 + c 2 + 43) + 1
theorem facts {c : Nat → Int} (h : Cfr c) : (1 ≤ c 0 ∧ c 0 ≤ 16) ∧ (1 ≤ c 1 ∧ c 1 ≤ 16) ∧ (3 ≤ c 2 ∧ c 2 ≤ 8) ∧ (1 ≤ c 3 ∧ c 3 ≤ 1024) ∧ (0 ≤ c 4 ∧ c 4 ≤ 64) ∧ (1 ≤ c 5 ∧ c 5 ≤ 1024) ∧ (0 ≤ bH c ∧ bH c ≤ 128) ∧ (0 ≤ bL c ∧ bL c ≤ 3000) ∧ (0 ≤ c 1 * bL c ∧ c 1 * bL c ≤ 48000) ∧ (0 ≤ bS c ∧ bS c ≤ 9200) ∧ (0 ≤ c 0 * c 4 ∧ c 0 * c 4 ≤ 1024) ∧ (0 ≤ bV c ∧ bV c ≤ 50000) ∧ (0 ≤ (c 0 + 2) * (bS c + 3) ∧ (c 0 + 2) * (bS c + 3) ≤ 200000) ∧ (0 ≤ (c 0 + 2) * bS c ∧ (c 0 + 2) * bS c ≤ 200000) ∧ (0 ≤ (bV c + 6) * (7 * (c 5 + c 0) + 12) ∧ (bV c + 6) * (7 * (c 5 + c 0) + 12) ≤ 1000000000) ∧ (0 ≤ c 0 * ((bV c + 6) * (7 * (c 5 + c 0) + 12) + (c 0 + 2) * bS c + 3 * bV c + 3 * c 4 + 2 * c 1 + c 2 + 43) ∧ c 0 * ((bV c + 6) * (7 * (c 5 + c 0) + 12) + (c 0 + 2) * bS c + 3 * bV c + 3 * c 4 + 2 * c 1 + c 2 + 43) ≤ 100000000000) := by
  obtain ⟨l0, u0, l1, u1, l2, u2, l3, u3, l4, u4, l5, u5⟩ := id h
  have hh := h.h
  have hl := h.l.2.2
  have m1 := mul_le2 (a := c 1) (b := bL c) (A := 16) (B := 3000) (by omega) u1 hl.1 hl.2
  have m2 : 0 ≤ bS c ∧ bS c ≤ 9200 := by unfold bS; omega
  have m3 := mul_le2 (a := c 0) (b := c 4) (A := 16) (B := 64) (by omega) u0 l4 u4
  have m4 : 0 ≤ bV c ∧ bV c ≤ 50000 := by unfold bV bR; omega
  have m5 := mul_le2 (a := c 0 + 2) (b := bS c + 3) (A := 18) (B := 9203) (by omega) (by omega) (by omega) (by omega)
  have m6 := mul_le2 (a := c 0 + 2) (b := bS c) (A := 18) (B := 9200) (by omega) (by omega) (by omega) (by omega)
  have m7 := mul_le2 (a := bV c + 6) (b := 7 * (c 5 + c 0) + 12) (A := 50006) (B := 7292) (by omega) (by omega) (by omega) (by omega)
  have m8 := mul_le2 (a := c 0) (b := (bV c + 6) * (7 * (c 5 + c 0) + 12) + (c 0 + 2) * bS c + 3 * bV c + 3 * c 4 + 2 * c 1 + c 2 + 43) (A := 16) (B := 1000000000) (by omega) u0 (by omega) (by omega)
  refine ⟨⟨l0, u0⟩, ⟨l1, u1⟩, ⟨l2, u2⟩, ⟨l3, u3⟩, ⟨l4, u4⟩, ⟨l5, u5⟩, hh, hl, ⟨m1.1, by omega⟩, m2, ⟨m3.1, by omega⟩, m4, ⟨m5.1, by omega⟩, ⟨m6.1, by omega⟩, ⟨m7.1, by omega⟩, ⟨m8.1, by omega⟩⟩
set_option maxHeartbeats 16000000 in
theorem retired_any {c : Nat → Int} (h : Cfr c) (w : World) : Calls Tryz.prog 35 #[cfgV c] w fun r w' => r = .returned (.int .i64 (bR c)) ∧ Below w.heap.size w w' := by
  have LI := Mr.hid (listed_any h)
  have hB : Hid (Below w.heap.size w (w.alloc (cfO c))) := (Below.refl _ w).alloc (Nat.le_refl _) _
  have hb : Hid ((w.alloc (cfO c)).heap[w.heap.size]? = some (cfO c)) := heap_alloc_new _ _
  have F := facts h
  have wr0 : IntKind.i64.wrap (c 1 * bL c) = c 1 * bL c := i64x _ (by omega) (by omega)
  clear F
  unfold cfO at hB hb
  unfold cfgV at LI ⊢
  go_enter Tryz.func35, Tryz.ntmps35
  go_upto_region 1 with (fail)
  generalize (w.alloc _) = wa at *
  obtain ⟨B, hBe⟩ : ∃ B, B = w.heap.size := ⟨_, rfl⟩
  rw [← hBe] at hb hB ⊢
  have hB' : Hid (Below w.heap.size w wa) := by rw [← hBe]; exact hB.out
  replace hBe := Mr.hid hBe
  obtain ⟨k0, k1, k2, k3, k4, k5, k6, kl⟩ := cfO_cells (c := c) hb.out
  have S0 : Below wa.heap.size wa wa.drew := (Below.refl _ _).drew
  refine wp_region_held_drew (S := fun w' => Below wa.heap.size wa w') (by kernel_rfl) S0 (fun hS => ?_)
  clear S0
  try simp only [Act.put, List.getElem_toArray, List.getElem_cons_zero, List.getElem_cons_succ, List.setIfInBounds_toArray, List.set_cons_zero, List.set_cons_succ]
  refine wpAnyH_take (i := 0) (v := .pointer (some ⟨B, 1, none⟩)) rfl (by kernel_rfl) (by kernel_rfl) (by kernel_rfl) (fun _ _ _ h => h) (Or.inl ⟨by kernel_rfl, fun w' hw => ?y0⟩) hS ?_
  case y0 =>
    clear hS
    have z0 := (hw.cell (p := ⟨B, 0, none⟩) kl).trans k0
    have z1 := (hw.cell (p := ⟨B, 1, none⟩) kl).trans k1
    have z2 := (hw.cell (p := ⟨B, 2, none⟩) kl).trans k2
    have z3 := (hw.cell (p := ⟨B, 3, none⟩) kl).trans k3
    have z4 := (hw.cell (p := ⟨B, 4, none⟩) kl).trans k4
    have z5 := (hw.cell (p := ⟨B, 5, none⟩) kl).trans k5
    have z6 := (hw.cell (p := ⟨B, 6, none⟩) kl).trans k6
    clear hw
    go_simp
  try simp only [Act.put, List.getElem_toArray, List.getElem_cons_zero, List.getElem_cons_succ, List.setIfInBounds_toArray, List.set_cons_zero, List.set_cons_succ]
  refine wpAnyH_take (i := 1) (v := .int .i64 (c 1)) rfl (by kernel_rfl) (by kernel_rfl) (by kernel_rfl) (fun _ _ _ h => h) (Or.inl ⟨by kernel_rfl, fun w' hw => ?y1⟩) hS ?_
  case y1 =>
    clear hS
    have z0 := (hw.cell (p := ⟨B, 0, none⟩) kl).trans k0
    have z1 := (hw.cell (p := ⟨B, 1, none⟩) kl).trans k1
    have z2 := (hw.cell (p := ⟨B, 2, none⟩) kl).trans k2
    have z3 := (hw.cell (p := ⟨B, 3, none⟩) kl).trans k3
    have z4 := (hw.cell (p := ⟨B, 4, none⟩) kl).trans k4
    have z5 := (hw.cell (p := ⟨B, 5, none⟩) kl).trans k5
    have z6 := (hw.cell (p := ⟨B, 6, none⟩) kl).trans k6
    clear hw
    go_simp
  try simp only [Act.put, List.getElem_toArray, List.getElem_cons_zero, List.getElem_cons_succ, List.setIfInBounds_toArray, List.set_cons_zero, List.set_cons_succ]
  refine wpAnyH_take (i := 2) (v := .agg #[.int .i64 (c 0), .int .i64 (c 1), .int .i64 (c 2), .int .i64 (c 3), .int .i64 (c 4), .int .i64 (c 5), .int .i64 (c 6)]) rfl (by kernel_rfl) (by kernel_rfl) (by kernel_rfl) (fun _ _ _ h => h) (Or.inl ⟨by kernel_rfl, fun w' hw => ?y2⟩) hS ?_
  case y2 =>
    clear hS
    have z0 := (hw.cell (p := ⟨B, 0, none⟩) kl).trans k0
    have z1 := (hw.cell (p := ⟨B, 1, none⟩) kl).trans k1
    have z2 := (hw.cell (p := ⟨B, 2, none⟩) kl).trans k2
    have z3 := (hw.cell (p := ⟨B, 3, none⟩) kl).trans k3
    have z4 := (hw.cell (p := ⟨B, 4, none⟩) kl).trans k4
    have z5 := (hw.cell (p := ⟨B, 5, none⟩) kl).trans k5
    have z6 := (hw.cell (p := ⟨B, 6, none⟩) kl).trans k6
    clear hw
    go_simp
  try simp only [Act.put, List.getElem_toArray, List.getElem_cons_zero, List.getElem_cons_succ, List.setIfInBounds_toArray, List.set_cons_zero, List.set_cons_succ]
  refine wpAnyH_ready (rs := [3]) (by kernel_rfl) (by simp) ?_
  refine AllReadyH.cons rfl (fun K hK => ?_) AllReadyH.nil
  try simp only [Act.put, List.getElem_toArray, List.getElem_cons_zero, List.getElem_cons_succ, List.setIfInBounds_toArray, List.set_cons_zero, List.set_cons_succ]
  go_simp
  refine (LI.out _).mono ?_
  rintro e3 w3 ⟨rfl, hB3⟩
  refine hK.out _ _ (hS.trans (hB3.mono hS.size)) (fun hS => ?_)
  clear hK K
  try simp only [Act.put, List.getElem_toArray, List.getElem_cons_zero, List.getElem_cons_succ, List.setIfInBounds_toArray, List.set_cons_zero, List.set_cons_succ]
  refine wpAnyH_take (i := 4) (v := .int .i64 (c 1 * bL c)) rfl (by kernel_rfl) (by kernel_rfl) (by kernel_rfl) (fun _ _ _ h => h) (Or.inl ⟨by kernel_rfl, fun w' hw => ?y4⟩) hS ?_
  case y4 =>
    clear hS
    have z0 := (hw.cell (p := ⟨B, 0, none⟩) kl).trans k0
    have z1 := (hw.cell (p := ⟨B, 1, none⟩) kl).trans k1
    have z2 := (hw.cell (p := ⟨B, 2, none⟩) kl).trans k2
    have z3 := (hw.cell (p := ⟨B, 3, none⟩) kl).trans k3
    have z4 := (hw.cell (p := ⟨B, 4, none⟩) kl).trans k4
    have z5 := (hw.cell (p := ⟨B, 5, none⟩) kl).trans k5
    have z6 := (hw.cell (p := ⟨B, 6, none⟩) kl).trans k6
    clear hw
    go_simp
  try simp only [Act.put, List.getElem_toArray, List.getElem_cons_zero, List.getElem_cons_succ, List.setIfInBounds_toArray, List.set_cons_zero, List.set_cons_succ]
  refine wpAnyH_take (i := 5) (v := .int .i64 (c 1 * bL c)) rfl (by kernel_rfl) (by kernel_rfl) (by kernel_rfl) (fun _ _ _ h => h) (Or.inl ⟨by kernel_rfl, fun w' hw => ?y5⟩) hS ?_
  case y5 =>
    clear hS
    have z0 := (hw.cell (p := ⟨B, 0, none⟩) kl).trans k0
    have z1 := (hw.cell (p := ⟨B, 1, none⟩) kl).trans k1
    have z2 := (hw.cell (p := ⟨B, 2, none⟩) kl).trans k2
    have z3 := (hw.cell (p := ⟨B, 3, none⟩) kl).trans k3
    have z4 := (hw.cell (p := ⟨B, 4, none⟩) kl).trans k4
    have z5 := (hw.cell (p := ⟨B, 5, none⟩) kl).trans k5
    have z6 := (hw.cell (p := ⟨B, 6, none⟩) kl).trans k6
    clear hw
    go_simp
  try simp only [Act.put, List.getElem_toArray, List.getElem_cons_zero, List.getElem_cons_succ, List.setIfInBounds_toArray, List.set_cons_zero, List.set_cons_succ]
  refine wpAnyH_done (by kernel_rfl) ?_ _
  have BW0 : Hid (Below w.heap.size w w3) := hB'.out.trans (hS.mono hB'.out.size)
  replace k0 := (hS.cell (p := ⟨B, 0, none⟩) kl).trans k0
  replace k1 := (hS.cell (p := ⟨B, 1, none⟩) kl).trans k1
  replace k2 := (hS.cell (p := ⟨B, 2, none⟩) kl).trans k2
  replace k3 := (hS.cell (p := ⟨B, 3, none⟩) kl).trans k3
  replace k4 := (hS.cell (p := ⟨B, 4, none⟩) kl).trans k4
  replace k5 := (hS.cell (p := ⟨B, 5, none⟩) kl).trans k5
  replace k6 := (hS.cell (p := ⟨B, 6, none⟩) kl).trans k6
  replace kl := Nat.lt_of_lt_of_le kl hS.size
  clear hS
  go_wp2
  go_ret
  exact ⟨rfl, BW0.out⟩
set_option maxHeartbeats 16000000 in
theorem scan_any {c : Nat → Int} (h : Cfr c) (w : World) : Calls Tryz.prog 75 #[cfgV c] w fun r w' => r = .returned (.int .i64 (bS c)) ∧ Below w.heap.size w w' := by
  have LI := Mr.hid (listed_any h)
  have HZ := Mr.hid (hazards_any h)
  have hB : Hid (Below w.heap.size w (w.alloc (cfO c))) := (Below.refl _ w).alloc (Nat.le_refl _) _
  have hb : Hid ((w.alloc (cfO c)).heap[w.heap.size]? = some (cfO c)) := heap_alloc_new _ _
  have F := facts h
  have wr0 : IntKind.i64.wrap (3 * c 1) = 3 * c 1 := i64x _ (by omega) (by omega)
  have wr1 : IntKind.i64.wrap (3 * c 1 + bH c) = 3 * c 1 + bH c := i64x _ (by omega) (by omega)
  have wr2 : IntKind.i64.wrap (3 * bL c) = 3 * bL c := i64x _ (by omega) (by omega)
  have wr3 : IntKind.i64.wrap (3 * c 1 + bH c + 3 * bL c) = 3 * c 1 + bH c + 3 * bL c := i64x _ (by omega) (by omega)
  clear F
  unfold cfO at hB hb
  unfold cfgV at LI HZ ⊢
  go_enter Tryz.func75, Tryz.ntmps75
  go_upto_region 1 with (fail)
  generalize (w.alloc _) = wa at *
  obtain ⟨B, hBe⟩ : ∃ B, B = w.heap.size := ⟨_, rfl⟩
  rw [← hBe] at hb hB ⊢
  have hB' : Hid (Below w.heap.size w wa) := by rw [← hBe]; exact hB.out
  replace hBe := Mr.hid hBe
  obtain ⟨k0, k1, k2, k3, k4, k5, k6, kl⟩ := cfO_cells (c := c) hb.out
  have S0 : Below wa.heap.size wa wa.drew := (Below.refl _ _).drew
  refine wp_region_held_drew (S := fun w' => Below wa.heap.size wa w') (by kernel_rfl) S0 (fun hS => ?_)
  clear S0
  try simp only [Act.put, List.getElem_toArray, List.getElem_cons_zero, List.getElem_cons_succ, List.setIfInBounds_toArray, List.set_cons_zero, List.set_cons_succ]
  refine wpAnyH_take (i := 0) (v := .pointer (some ⟨B, 1, none⟩)) rfl (by kernel_rfl) (by kernel_rfl) (by kernel_rfl) (fun _ _ _ h => h) (Or.inl ⟨by kernel_rfl, fun w' hw => ?y0⟩) hS ?_
  case y0 =>
    clear hS
    have z0 := (hw.cell (p := ⟨B, 0, none⟩) kl).trans k0
    have z1 := (hw.cell (p := ⟨B, 1, none⟩) kl).trans k1
    have z2 := (hw.cell (p := ⟨B, 2, none⟩) kl).trans k2
    have z3 := (hw.cell (p := ⟨B, 3, none⟩) kl).trans k3
    have z4 := (hw.cell (p := ⟨B, 4, none⟩) kl).trans k4
    have z5 := (hw.cell (p := ⟨B, 5, none⟩) kl).trans k5
    have z6 := (hw.cell (p := ⟨B, 6, none⟩) kl).trans k6
    clear hw
    go_simp
  try simp only [Act.put, List.getElem_toArray, List.getElem_cons_zero, List.getElem_cons_succ, List.setIfInBounds_toArray, List.set_cons_zero, List.set_cons_succ]
  refine wpAnyH_take (i := 1) (v := .int .i64 (c 1)) rfl (by kernel_rfl) (by kernel_rfl) (by kernel_rfl) (fun _ _ _ h => h) (Or.inl ⟨by kernel_rfl, fun w' hw => ?y1⟩) hS ?_
  case y1 =>
    clear hS
    have z0 := (hw.cell (p := ⟨B, 0, none⟩) kl).trans k0
    have z1 := (hw.cell (p := ⟨B, 1, none⟩) kl).trans k1
    have z2 := (hw.cell (p := ⟨B, 2, none⟩) kl).trans k2
    have z3 := (hw.cell (p := ⟨B, 3, none⟩) kl).trans k3
    have z4 := (hw.cell (p := ⟨B, 4, none⟩) kl).trans k4
    have z5 := (hw.cell (p := ⟨B, 5, none⟩) kl).trans k5
    have z6 := (hw.cell (p := ⟨B, 6, none⟩) kl).trans k6
    clear hw
    go_simp
  try simp only [Act.put, List.getElem_toArray, List.getElem_cons_zero, List.getElem_cons_succ, List.setIfInBounds_toArray, List.set_cons_zero, List.set_cons_succ]
  refine wpAnyH_take (i := 2) (v := .int .i64 (3 * c 1)) rfl (by kernel_rfl) (by kernel_rfl) (by kernel_rfl) (fun _ _ _ h => h) (Or.inl ⟨by kernel_rfl, fun w' hw => ?y2⟩) hS ?_
  case y2 =>
    clear hS
    have z0 := (hw.cell (p := ⟨B, 0, none⟩) kl).trans k0
    have z1 := (hw.cell (p := ⟨B, 1, none⟩) kl).trans k1
    have z2 := (hw.cell (p := ⟨B, 2, none⟩) kl).trans k2
    have z3 := (hw.cell (p := ⟨B, 3, none⟩) kl).trans k3
    have z4 := (hw.cell (p := ⟨B, 4, none⟩) kl).trans k4
    have z5 := (hw.cell (p := ⟨B, 5, none⟩) kl).trans k5
    have z6 := (hw.cell (p := ⟨B, 6, none⟩) kl).trans k6
    clear hw
    go_simp
  try simp only [Act.put, List.getElem_toArray, List.getElem_cons_zero, List.getElem_cons_succ, List.setIfInBounds_toArray, List.set_cons_zero, List.set_cons_succ]
  refine wpAnyH_take (i := 3) (v := .agg #[.int .i64 (c 0), .int .i64 (c 1), .int .i64 (c 2), .int .i64 (c 3), .int .i64 (c 4), .int .i64 (c 5), .int .i64 (c 6)]) rfl (by kernel_rfl) (by kernel_rfl) (by kernel_rfl) (fun _ _ _ h => h) (Or.inl ⟨by kernel_rfl, fun w' hw => ?y3⟩) hS ?_
  case y3 =>
    clear hS
    have z0 := (hw.cell (p := ⟨B, 0, none⟩) kl).trans k0
    have z1 := (hw.cell (p := ⟨B, 1, none⟩) kl).trans k1
    have z2 := (hw.cell (p := ⟨B, 2, none⟩) kl).trans k2
    have z3 := (hw.cell (p := ⟨B, 3, none⟩) kl).trans k3
    have z4 := (hw.cell (p := ⟨B, 4, none⟩) kl).trans k4
    have z5 := (hw.cell (p := ⟨B, 5, none⟩) kl).trans k5
    have z6 := (hw.cell (p := ⟨B, 6, none⟩) kl).trans k6
    clear hw
    go_simp
  try simp only [Act.put, List.getElem_toArray, List.getElem_cons_zero, List.getElem_cons_succ, List.setIfInBounds_toArray, List.set_cons_zero, List.set_cons_succ]
  refine wpAnyH_take (i := 6) (v := .agg #[.int .i64 (c 0), .int .i64 (c 1), .int .i64 (c 2), .int .i64 (c 3), .int .i64 (c 4), .int .i64 (c 5), .int .i64 (c 6)]) rfl (by kernel_rfl) (by kernel_rfl) (by kernel_rfl) (fun _ _ _ h => h) (Or.inl ⟨by kernel_rfl, fun w' hw => ?y6⟩) hS ?_
  case y6 =>
    clear hS
    have z0 := (hw.cell (p := ⟨B, 0, none⟩) kl).trans k0
    have z1 := (hw.cell (p := ⟨B, 1, none⟩) kl).trans k1
    have z2 := (hw.cell (p := ⟨B, 2, none⟩) kl).trans k2
    have z3 := (hw.cell (p := ⟨B, 3, none⟩) kl).trans k3
    have z4 := (hw.cell (p := ⟨B, 4, none⟩) kl).trans k4
    have z5 := (hw.cell (p := ⟨B, 5, none⟩) kl).trans k5
    have z6 := (hw.cell (p := ⟨B, 6, none⟩) kl).trans k6
    clear hw
    go_simp
  try simp only [Act.put, List.getElem_toArray, List.getElem_cons_zero, List.getElem_cons_succ, List.setIfInBounds_toArray, List.set_cons_zero, List.set_cons_succ]
  refine wpAnyH_ready (rs := [4]) (by kernel_rfl) (by simp) ?_
  refine AllReadyH.cons rfl (fun K hK => ?_) AllReadyH.nil
  try simp only [Act.put, List.getElem_toArray, List.getElem_cons_zero, List.getElem_cons_succ, List.setIfInBounds_toArray, List.set_cons_zero, List.set_cons_succ]
  go_simp
  refine (HZ.out _).mono ?_
  rintro e4 w4 ⟨rfl, hB4⟩
  refine hK.out _ _ (hS.trans (hB4.mono hS.size)) (fun hS => ?_)
  clear hK K
  try simp only [Act.put, List.getElem_toArray, List.getElem_cons_zero, List.getElem_cons_succ, List.setIfInBounds_toArray, List.set_cons_zero, List.set_cons_succ]
  refine wpAnyH_take (i := 5) (v := .int .i64 (3 * c 1 + bH c)) rfl (by kernel_rfl) (by kernel_rfl) (by kernel_rfl) (fun _ _ _ h => h) (Or.inl ⟨by kernel_rfl, fun w' hw => ?y5⟩) hS ?_
  case y5 =>
    clear hS
    have z0 := (hw.cell (p := ⟨B, 0, none⟩) kl).trans k0
    have z1 := (hw.cell (p := ⟨B, 1, none⟩) kl).trans k1
    have z2 := (hw.cell (p := ⟨B, 2, none⟩) kl).trans k2
    have z3 := (hw.cell (p := ⟨B, 3, none⟩) kl).trans k3
    have z4 := (hw.cell (p := ⟨B, 4, none⟩) kl).trans k4
    have z5 := (hw.cell (p := ⟨B, 5, none⟩) kl).trans k5
    have z6 := (hw.cell (p := ⟨B, 6, none⟩) kl).trans k6
    clear hw
    go_simp
  try simp only [Act.put, List.getElem_toArray, List.getElem_cons_zero, List.getElem_cons_succ, List.setIfInBounds_toArray, List.set_cons_zero, List.set_cons_succ]
  refine wpAnyH_ready (rs := [7]) (by kernel_rfl) (by simp) ?_
  refine AllReadyH.cons rfl (fun K hK => ?_) AllReadyH.nil
  try simp only [Act.put, List.getElem_toArray, List.getElem_cons_zero, List.getElem_cons_succ, List.setIfInBounds_toArray, List.set_cons_zero, List.set_cons_succ]
  go_simp
  refine (LI.out _).mono ?_
  rintro e7 w7 ⟨rfl, hB7⟩
  refine hK.out _ _ (hS.trans (hB7.mono hS.size)) (fun hS => ?_)
  clear hK K
  try simp only [Act.put, List.getElem_toArray, List.getElem_cons_zero, List.getElem_cons_succ, List.setIfInBounds_toArray, List.set_cons_zero, List.set_cons_succ]
  refine wpAnyH_take (i := 8) (v := .int .i64 (3 * bL c)) rfl (by kernel_rfl) (by kernel_rfl) (by kernel_rfl) (fun _ _ _ h => h) (Or.inl ⟨by kernel_rfl, fun w' hw => ?y8⟩) hS ?_
  case y8 =>
    clear hS
    have z0 := (hw.cell (p := ⟨B, 0, none⟩) kl).trans k0
    have z1 := (hw.cell (p := ⟨B, 1, none⟩) kl).trans k1
    have z2 := (hw.cell (p := ⟨B, 2, none⟩) kl).trans k2
    have z3 := (hw.cell (p := ⟨B, 3, none⟩) kl).trans k3
    have z4 := (hw.cell (p := ⟨B, 4, none⟩) kl).trans k4
    have z5 := (hw.cell (p := ⟨B, 5, none⟩) kl).trans k5
    have z6 := (hw.cell (p := ⟨B, 6, none⟩) kl).trans k6
    clear hw
    go_simp
  try simp only [Act.put, List.getElem_toArray, List.getElem_cons_zero, List.getElem_cons_succ, List.setIfInBounds_toArray, List.set_cons_zero, List.set_cons_succ]
  refine wpAnyH_take (i := 9) (v := .int .i64 (3 * c 1 + bH c + 3 * bL c)) rfl (by kernel_rfl) (by kernel_rfl) (by kernel_rfl) (fun _ _ _ h => h) (Or.inl ⟨by kernel_rfl, fun w' hw => ?y9⟩) hS ?_
  case y9 =>
    clear hS
    have z0 := (hw.cell (p := ⟨B, 0, none⟩) kl).trans k0
    have z1 := (hw.cell (p := ⟨B, 1, none⟩) kl).trans k1
    have z2 := (hw.cell (p := ⟨B, 2, none⟩) kl).trans k2
    have z3 := (hw.cell (p := ⟨B, 3, none⟩) kl).trans k3
    have z4 := (hw.cell (p := ⟨B, 4, none⟩) kl).trans k4
    have z5 := (hw.cell (p := ⟨B, 5, none⟩) kl).trans k5
    have z6 := (hw.cell (p := ⟨B, 6, none⟩) kl).trans k6
    clear hw
    go_simp
  try simp only [Act.put, List.getElem_toArray, List.getElem_cons_zero, List.getElem_cons_succ, List.setIfInBounds_toArray, List.set_cons_zero, List.set_cons_succ]
  refine wpAnyH_take (i := 10) (v := .int .i64 (3 * c 1 + bH c + 3 * bL c)) rfl (by kernel_rfl) (by kernel_rfl) (by kernel_rfl) (fun _ _ _ h => h) (Or.inl ⟨by kernel_rfl, fun w' hw => ?y10⟩) hS ?_
  case y10 =>
    clear hS
    have z0 := (hw.cell (p := ⟨B, 0, none⟩) kl).trans k0
    have z1 := (hw.cell (p := ⟨B, 1, none⟩) kl).trans k1
    have z2 := (hw.cell (p := ⟨B, 2, none⟩) kl).trans k2
    have z3 := (hw.cell (p := ⟨B, 3, none⟩) kl).trans k3
    have z4 := (hw.cell (p := ⟨B, 4, none⟩) kl).trans k4
    have z5 := (hw.cell (p := ⟨B, 5, none⟩) kl).trans k5
    have z6 := (hw.cell (p := ⟨B, 6, none⟩) kl).trans k6
    clear hw
    go_simp
  try simp only [Act.put, List.getElem_toArray, List.getElem_cons_zero, List.getElem_cons_succ, List.setIfInBounds_toArray, List.set_cons_zero, List.set_cons_succ]
  refine wpAnyH_done (by kernel_rfl) ?_ _
  have BW0 : Hid (Below w.heap.size w w7) := hB'.out.trans (hS.mono hB'.out.size)
  replace k0 := (hS.cell (p := ⟨B, 0, none⟩) kl).trans k0
  replace k1 := (hS.cell (p := ⟨B, 1, none⟩) kl).trans k1
  replace k2 := (hS.cell (p := ⟨B, 2, none⟩) kl).trans k2
  replace k3 := (hS.cell (p := ⟨B, 3, none⟩) kl).trans k3
  replace k4 := (hS.cell (p := ⟨B, 4, none⟩) kl).trans k4
  replace k5 := (hS.cell (p := ⟨B, 5, none⟩) kl).trans k5
  replace k6 := (hS.cell (p := ⟨B, 6, none⟩) kl).trans k6
  replace kl := Nat.lt_of_lt_of_le kl hS.size
  clear hS
  go_wp2
  go_ret
  exact ⟨rfl, BW0.out⟩
set_option maxHeartbeats 16000000 in
theorem solo_any {c : Nat → Int} (h : Cfr c) (w : World) : Calls Tryz.prog 36 #[cfgV c] w fun r w' => r = .returned (.int .i64 (bSo c)) ∧ Below w.heap.size w w' := by
  have SC := Mr.hid (scan_any h)
  have hB : Hid (Below w.heap.size w (w.alloc (cfO c))) := (Below.refl _ w).alloc (Nat.le_refl _) _
  have hb : Hid ((w.alloc (cfO c)).heap[w.heap.size]? = some (cfO c)) := heap_alloc_new _ _
  have F := facts h
  have wr0 : IntKind.i64.wrap (56 * c 5) = 56 * c 5 := i64x _ (by omega) (by omega)
  have wr1 : IntKind.i64.wrap (c 0 + 2) = c 0 + 2 := i64x _ (by omega) (by omega)
  have wr2 : IntKind.i64.wrap (bS c + 3) = bS c + 3 := i64x _ (by omega) (by omega)
  have wr3 : IntKind.i64.wrap ((c 0 + 2) * (bS c + 3)) = (c 0 + 2) * (bS c + 3) := i64x _ (by omega) (by omega)
  have wr4 : IntKind.i64.wrap (56 * c 5 + (c 0 + 2) * (bS c + 3)) = 56 * c 5 + (c 0 + 2) * (bS c + 3) := i64x _ (by omega) (by omega)
  have wr5 : IntKind.i64.wrap (3 * c 4) = 3 * c 4 := i64x _ (by omega) (by omega)
  have wr6 : IntKind.i64.wrap (56 * c 5 + (c 0 + 2) * (bS c + 3) + 3 * c 4) = 56 * c 5 + (c 0 + 2) * (bS c + 3) + 3 * c 4 := i64x _ (by omega) (by omega)
  have wr7 : IntKind.i64.wrap (2 * c 1) = 2 * c 1 := i64x _ (by omega) (by omega)
  have wr8 : IntKind.i64.wrap (56 * c 5 + (c 0 + 2) * (bS c + 3) + 3 * c 4 + 2 * c 1) = 56 * c 5 + (c 0 + 2) * (bS c + 3) + 3 * c 4 + 2 * c 1 := i64x _ (by omega) (by omega)
  have wr9 : IntKind.i64.wrap (56 * c 5 + (c 0 + 2) * (bS c + 3) + 3 * c 4 + 2 * c 1 + c 2) = 56 * c 5 + (c 0 + 2) * (bS c + 3) + 3 * c 4 + 2 * c 1 + c 2 := i64x _ (by omega) (by omega)
  have wr10 : IntKind.i64.wrap (56 * c 5 + (c 0 + 2) * (bS c + 3) + 3 * c 4 + 2 * c 1 + c 2 + 100) = 56 * c 5 + (c 0 + 2) * (bS c + 3) + 3 * c 4 + 2 * c 1 + c 2 + 100 := i64x _ (by omega) (by omega)
  clear F
  unfold cfO at hB hb
  unfold cfgV at SC ⊢
  go_enter Tryz.func36, Tryz.ntmps36
  go_upto_region 1 with (fail)
  generalize (w.alloc _) = wa at *
  obtain ⟨B, hBe⟩ : ∃ B, B = w.heap.size := ⟨_, rfl⟩
  rw [← hBe] at hb hB ⊢
  have hB' : Hid (Below w.heap.size w wa) := by rw [← hBe]; exact hB.out
  replace hBe := Mr.hid hBe
  obtain ⟨k0, k1, k2, k3, k4, k5, k6, kl⟩ := cfO_cells (c := c) hb.out
  have S0 : Below wa.heap.size wa wa.drew := (Below.refl _ _).drew
  refine wp_region_held_drew (S := fun w' => Below wa.heap.size wa w') (by kernel_rfl) S0 (fun hS => ?_)
  clear S0
  try simp only [Act.put, List.getElem_toArray, List.getElem_cons_zero, List.getElem_cons_succ, List.setIfInBounds_toArray, List.set_cons_zero, List.set_cons_succ]
  refine wpAnyH_take (i := 0) (v := .pointer (some ⟨B, 5, none⟩)) rfl (by kernel_rfl) (by kernel_rfl) (by kernel_rfl) (fun _ _ _ h => h) (Or.inl ⟨by kernel_rfl, fun w' hw => ?y0⟩) hS ?_
  case y0 =>
    clear hS
    have z0 := (hw.cell (p := ⟨B, 0, none⟩) kl).trans k0
    have z1 := (hw.cell (p := ⟨B, 1, none⟩) kl).trans k1
    have z2 := (hw.cell (p := ⟨B, 2, none⟩) kl).trans k2
    have z3 := (hw.cell (p := ⟨B, 3, none⟩) kl).trans k3
    have z4 := (hw.cell (p := ⟨B, 4, none⟩) kl).trans k4
    have z5 := (hw.cell (p := ⟨B, 5, none⟩) kl).trans k5
    have z6 := (hw.cell (p := ⟨B, 6, none⟩) kl).trans k6
    clear hw
    go_simp
  try simp only [Act.put, List.getElem_toArray, List.getElem_cons_zero, List.getElem_cons_succ, List.setIfInBounds_toArray, List.set_cons_zero, List.set_cons_succ]
  refine wpAnyH_take (i := 1) (v := .int .i64 (c 5)) rfl (by kernel_rfl) (by kernel_rfl) (by kernel_rfl) (fun _ _ _ h => h) (Or.inl ⟨by kernel_rfl, fun w' hw => ?y1⟩) hS ?_
  case y1 =>
    clear hS
    have z0 := (hw.cell (p := ⟨B, 0, none⟩) kl).trans k0
    have z1 := (hw.cell (p := ⟨B, 1, none⟩) kl).trans k1
    have z2 := (hw.cell (p := ⟨B, 2, none⟩) kl).trans k2
    have z3 := (hw.cell (p := ⟨B, 3, none⟩) kl).trans k3
    have z4 := (hw.cell (p := ⟨B, 4, none⟩) kl).trans k4
    have z5 := (hw.cell (p := ⟨B, 5, none⟩) kl).trans k5
    have z6 := (hw.cell (p := ⟨B, 6, none⟩) kl).trans k6
    clear hw
    go_simp
  try simp only [Act.put, List.getElem_toArray, List.getElem_cons_zero, List.getElem_cons_succ, List.setIfInBounds_toArray, List.set_cons_zero, List.set_cons_succ]
  refine wpAnyH_take (i := 2) (v := .int .i64 (56 * c 5)) rfl (by kernel_rfl) (by kernel_rfl) (by kernel_rfl) (fun _ _ _ h => h) (Or.inl ⟨by kernel_rfl, fun w' hw => ?y2⟩) hS ?_
  case y2 =>
    clear hS
    have z0 := (hw.cell (p := ⟨B, 0, none⟩) kl).trans k0
    have z1 := (hw.cell (p := ⟨B, 1, none⟩) kl).trans k1
    have z2 := (hw.cell (p := ⟨B, 2, none⟩) kl).trans k2
    have z3 := (hw.cell (p := ⟨B, 3, none⟩) kl).trans k3
    have z4 := (hw.cell (p := ⟨B, 4, none⟩) kl).trans k4
    have z5 := (hw.cell (p := ⟨B, 5, none⟩) kl).trans k5
    have z6 := (hw.cell (p := ⟨B, 6, none⟩) kl).trans k6
    clear hw
    go_simp
  try simp only [Act.put, List.getElem_toArray, List.getElem_cons_zero, List.getElem_cons_succ, List.setIfInBounds_toArray, List.set_cons_zero, List.set_cons_succ]
  refine wpAnyH_take (i := 3) (v := .pointer (some ⟨B, 0, none⟩)) rfl (by kernel_rfl) (by kernel_rfl) (by kernel_rfl) (fun _ _ _ h => h) (Or.inl ⟨by kernel_rfl, fun w' hw => ?y3⟩) hS ?_
  case y3 =>
    clear hS
    have z0 := (hw.cell (p := ⟨B, 0, none⟩) kl).trans k0
    have z1 := (hw.cell (p := ⟨B, 1, none⟩) kl).trans k1
    have z2 := (hw.cell (p := ⟨B, 2, none⟩) kl).trans k2
    have z3 := (hw.cell (p := ⟨B, 3, none⟩) kl).trans k3
    have z4 := (hw.cell (p := ⟨B, 4, none⟩) kl).trans k4
    have z5 := (hw.cell (p := ⟨B, 5, none⟩) kl).trans k5
    have z6 := (hw.cell (p := ⟨B, 6, none⟩) kl).trans k6
    clear hw
    go_simp
  try simp only [Act.put, List.getElem_toArray, List.getElem_cons_zero, List.getElem_cons_succ, List.setIfInBounds_toArray, List.set_cons_zero, List.set_cons_succ]
  refine wpAnyH_take (i := 4) (v := .int .i64 (c 0)) rfl (by kernel_rfl) (by kernel_rfl) (by kernel_rfl) (fun _ _ _ h => h) (Or.inl ⟨by kernel_rfl, fun w' hw => ?y4⟩) hS ?_
  case y4 =>
    clear hS
    have z0 := (hw.cell (p := ⟨B, 0, none⟩) kl).trans k0
    have z1 := (hw.cell (p := ⟨B, 1, none⟩) kl).trans k1
    have z2 := (hw.cell (p := ⟨B, 2, none⟩) kl).trans k2
    have z3 := (hw.cell (p := ⟨B, 3, none⟩) kl).trans k3
    have z4 := (hw.cell (p := ⟨B, 4, none⟩) kl).trans k4
    have z5 := (hw.cell (p := ⟨B, 5, none⟩) kl).trans k5
    have z6 := (hw.cell (p := ⟨B, 6, none⟩) kl).trans k6
    clear hw
    go_simp
  try simp only [Act.put, List.getElem_toArray, List.getElem_cons_zero, List.getElem_cons_succ, List.setIfInBounds_toArray, List.set_cons_zero, List.set_cons_succ]
  refine wpAnyH_take (i := 5) (v := .int .i64 (c 0 + 2)) rfl (by kernel_rfl) (by kernel_rfl) (by kernel_rfl) (fun _ _ _ h => h) (Or.inl ⟨by kernel_rfl, fun w' hw => ?y5⟩) hS ?_
  case y5 =>
    clear hS
    have z0 := (hw.cell (p := ⟨B, 0, none⟩) kl).trans k0
    have z1 := (hw.cell (p := ⟨B, 1, none⟩) kl).trans k1
    have z2 := (hw.cell (p := ⟨B, 2, none⟩) kl).trans k2
    have z3 := (hw.cell (p := ⟨B, 3, none⟩) kl).trans k3
    have z4 := (hw.cell (p := ⟨B, 4, none⟩) kl).trans k4
    have z5 := (hw.cell (p := ⟨B, 5, none⟩) kl).trans k5
    have z6 := (hw.cell (p := ⟨B, 6, none⟩) kl).trans k6
    clear hw
    go_simp
  try simp only [Act.put, List.getElem_toArray, List.getElem_cons_zero, List.getElem_cons_succ, List.setIfInBounds_toArray, List.set_cons_zero, List.set_cons_succ]
  refine wpAnyH_take (i := 6) (v := .agg #[.int .i64 (c 0), .int .i64 (c 1), .int .i64 (c 2), .int .i64 (c 3), .int .i64 (c 4), .int .i64 (c 5), .int .i64 (c 6)]) rfl (by kernel_rfl) (by kernel_rfl) (by kernel_rfl) (fun _ _ _ h => h) (Or.inl ⟨by kernel_rfl, fun w' hw => ?y6⟩) hS ?_
  case y6 =>
    clear hS
    have z0 := (hw.cell (p := ⟨B, 0, none⟩) kl).trans k0
    have z1 := (hw.cell (p := ⟨B, 1, none⟩) kl).trans k1
    have z2 := (hw.cell (p := ⟨B, 2, none⟩) kl).trans k2
    have z3 := (hw.cell (p := ⟨B, 3, none⟩) kl).trans k3
    have z4 := (hw.cell (p := ⟨B, 4, none⟩) kl).trans k4
    have z5 := (hw.cell (p := ⟨B, 5, none⟩) kl).trans k5
    have z6 := (hw.cell (p := ⟨B, 6, none⟩) kl).trans k6
    clear hw
    go_simp
  try simp only [Act.put, List.getElem_toArray, List.getElem_cons_zero, List.getElem_cons_succ, List.setIfInBounds_toArray, List.set_cons_zero, List.set_cons_succ]
  refine wpAnyH_take (i := 11) (v := .pointer (some ⟨B, 4, none⟩)) rfl (by kernel_rfl) (by kernel_rfl) (by kernel_rfl) (fun _ _ _ h => h) (Or.inl ⟨by kernel_rfl, fun w' hw => ?y11⟩) hS ?_
  case y11 =>
    clear hS
    have z0 := (hw.cell (p := ⟨B, 0, none⟩) kl).trans k0
    have z1 := (hw.cell (p := ⟨B, 1, none⟩) kl).trans k1
    have z2 := (hw.cell (p := ⟨B, 2, none⟩) kl).trans k2
    have z3 := (hw.cell (p := ⟨B, 3, none⟩) kl).trans k3
    have z4 := (hw.cell (p := ⟨B, 4, none⟩) kl).trans k4
    have z5 := (hw.cell (p := ⟨B, 5, none⟩) kl).trans k5
    have z6 := (hw.cell (p := ⟨B, 6, none⟩) kl).trans k6
    clear hw
    go_simp
  try simp only [Act.put, List.getElem_toArray, List.getElem_cons_zero, List.getElem_cons_succ, List.setIfInBounds_toArray, List.set_cons_zero, List.set_cons_succ]
  refine wpAnyH_take (i := 12) (v := .int .i64 (c 4)) rfl (by kernel_rfl) (by kernel_rfl) (by kernel_rfl) (fun _ _ _ h => h) (Or.inl ⟨by kernel_rfl, fun w' hw => ?y12⟩) hS ?_
  case y12 =>
    clear hS
    have z0 := (hw.cell (p := ⟨B, 0, none⟩) kl).trans k0
    have z1 := (hw.cell (p := ⟨B, 1, none⟩) kl).trans k1
    have z2 := (hw.cell (p := ⟨B, 2, none⟩) kl).trans k2
    have z3 := (hw.cell (p := ⟨B, 3, none⟩) kl).trans k3
    have z4 := (hw.cell (p := ⟨B, 4, none⟩) kl).trans k4
    have z5 := (hw.cell (p := ⟨B, 5, none⟩) kl).trans k5
    have z6 := (hw.cell (p := ⟨B, 6, none⟩) kl).trans k6
    clear hw
    go_simp
  try simp only [Act.put, List.getElem_toArray, List.getElem_cons_zero, List.getElem_cons_succ, List.setIfInBounds_toArray, List.set_cons_zero, List.set_cons_succ]
  refine wpAnyH_take (i := 13) (v := .int .i64 (3 * c 4)) rfl (by kernel_rfl) (by kernel_rfl) (by kernel_rfl) (fun _ _ _ h => h) (Or.inl ⟨by kernel_rfl, fun w' hw => ?y13⟩) hS ?_
  case y13 =>
    clear hS
    have z0 := (hw.cell (p := ⟨B, 0, none⟩) kl).trans k0
    have z1 := (hw.cell (p := ⟨B, 1, none⟩) kl).trans k1
    have z2 := (hw.cell (p := ⟨B, 2, none⟩) kl).trans k2
    have z3 := (hw.cell (p := ⟨B, 3, none⟩) kl).trans k3
    have z4 := (hw.cell (p := ⟨B, 4, none⟩) kl).trans k4
    have z5 := (hw.cell (p := ⟨B, 5, none⟩) kl).trans k5
    have z6 := (hw.cell (p := ⟨B, 6, none⟩) kl).trans k6
    clear hw
    go_simp
  try simp only [Act.put, List.getElem_toArray, List.getElem_cons_zero, List.getElem_cons_succ, List.setIfInBounds_toArray, List.set_cons_zero, List.set_cons_succ]
  refine wpAnyH_take (i := 15) (v := .pointer (some ⟨B, 1, none⟩)) rfl (by kernel_rfl) (by kernel_rfl) (by kernel_rfl) (fun _ _ _ h => h) (Or.inl ⟨by kernel_rfl, fun w' hw => ?y15⟩) hS ?_
  case y15 =>
    clear hS
    have z0 := (hw.cell (p := ⟨B, 0, none⟩) kl).trans k0
    have z1 := (hw.cell (p := ⟨B, 1, none⟩) kl).trans k1
    have z2 := (hw.cell (p := ⟨B, 2, none⟩) kl).trans k2
    have z3 := (hw.cell (p := ⟨B, 3, none⟩) kl).trans k3
    have z4 := (hw.cell (p := ⟨B, 4, none⟩) kl).trans k4
    have z5 := (hw.cell (p := ⟨B, 5, none⟩) kl).trans k5
    have z6 := (hw.cell (p := ⟨B, 6, none⟩) kl).trans k6
    clear hw
    go_simp
  try simp only [Act.put, List.getElem_toArray, List.getElem_cons_zero, List.getElem_cons_succ, List.setIfInBounds_toArray, List.set_cons_zero, List.set_cons_succ]
  refine wpAnyH_take (i := 16) (v := .int .i64 (c 1)) rfl (by kernel_rfl) (by kernel_rfl) (by kernel_rfl) (fun _ _ _ h => h) (Or.inl ⟨by kernel_rfl, fun w' hw => ?y16⟩) hS ?_
  case y16 =>
    clear hS
    have z0 := (hw.cell (p := ⟨B, 0, none⟩) kl).trans k0
    have z1 := (hw.cell (p := ⟨B, 1, none⟩) kl).trans k1
    have z2 := (hw.cell (p := ⟨B, 2, none⟩) kl).trans k2
    have z3 := (hw.cell (p := ⟨B, 3, none⟩) kl).trans k3
    have z4 := (hw.cell (p := ⟨B, 4, none⟩) kl).trans k4
    have z5 := (hw.cell (p := ⟨B, 5, none⟩) kl).trans k5
    have z6 := (hw.cell (p := ⟨B, 6, none⟩) kl).trans k6
    clear hw
    go_simp
  try simp only [Act.put, List.getElem_toArray, List.getElem_cons_zero, List.getElem_cons_succ, List.setIfInBounds_toArray, List.set_cons_zero, List.set_cons_succ]
  refine wpAnyH_take (i := 17) (v := .int .i64 (2 * c 1)) rfl (by kernel_rfl) (by kernel_rfl) (by kernel_rfl) (fun _ _ _ h => h) (Or.inl ⟨by kernel_rfl, fun w' hw => ?y17⟩) hS ?_
  case y17 =>
    clear hS
    have z0 := (hw.cell (p := ⟨B, 0, none⟩) kl).trans k0
    have z1 := (hw.cell (p := ⟨B, 1, none⟩) kl).trans k1
    have z2 := (hw.cell (p := ⟨B, 2, none⟩) kl).trans k2
    have z3 := (hw.cell (p := ⟨B, 3, none⟩) kl).trans k3
    have z4 := (hw.cell (p := ⟨B, 4, none⟩) kl).trans k4
    have z5 := (hw.cell (p := ⟨B, 5, none⟩) kl).trans k5
    have z6 := (hw.cell (p := ⟨B, 6, none⟩) kl).trans k6
    clear hw
    go_simp
  try simp only [Act.put, List.getElem_toArray, List.getElem_cons_zero, List.getElem_cons_succ, List.setIfInBounds_toArray, List.set_cons_zero, List.set_cons_succ]
  refine wpAnyH_take (i := 19) (v := .pointer (some ⟨B, 2, none⟩)) rfl (by kernel_rfl) (by kernel_rfl) (by kernel_rfl) (fun _ _ _ h => h) (Or.inl ⟨by kernel_rfl, fun w' hw => ?y19⟩) hS ?_
  case y19 =>
    clear hS
    have z0 := (hw.cell (p := ⟨B, 0, none⟩) kl).trans k0
    have z1 := (hw.cell (p := ⟨B, 1, none⟩) kl).trans k1
    have z2 := (hw.cell (p := ⟨B, 2, none⟩) kl).trans k2
    have z3 := (hw.cell (p := ⟨B, 3, none⟩) kl).trans k3
    have z4 := (hw.cell (p := ⟨B, 4, none⟩) kl).trans k4
    have z5 := (hw.cell (p := ⟨B, 5, none⟩) kl).trans k5
    have z6 := (hw.cell (p := ⟨B, 6, none⟩) kl).trans k6
    clear hw
    go_simp
  try simp only [Act.put, List.getElem_toArray, List.getElem_cons_zero, List.getElem_cons_succ, List.setIfInBounds_toArray, List.set_cons_zero, List.set_cons_succ]
  refine wpAnyH_take (i := 20) (v := .int .i64 (c 2)) rfl (by kernel_rfl) (by kernel_rfl) (by kernel_rfl) (fun _ _ _ h => h) (Or.inl ⟨by kernel_rfl, fun w' hw => ?y20⟩) hS ?_
  case y20 =>
    clear hS
    have z0 := (hw.cell (p := ⟨B, 0, none⟩) kl).trans k0
    have z1 := (hw.cell (p := ⟨B, 1, none⟩) kl).trans k1
    have z2 := (hw.cell (p := ⟨B, 2, none⟩) kl).trans k2
    have z3 := (hw.cell (p := ⟨B, 3, none⟩) kl).trans k3
    have z4 := (hw.cell (p := ⟨B, 4, none⟩) kl).trans k4
    have z5 := (hw.cell (p := ⟨B, 5, none⟩) kl).trans k5
    have z6 := (hw.cell (p := ⟨B, 6, none⟩) kl).trans k6
    clear hw
    go_simp
  try simp only [Act.put, List.getElem_toArray, List.getElem_cons_zero, List.getElem_cons_succ, List.setIfInBounds_toArray, List.set_cons_zero, List.set_cons_succ]
  refine wpAnyH_ready (rs := [7]) (by kernel_rfl) (by simp) ?_
  refine AllReadyH.cons rfl (fun K hK => ?_) AllReadyH.nil
  try simp only [Act.put, List.getElem_toArray, List.getElem_cons_zero, List.getElem_cons_succ, List.setIfInBounds_toArray, List.set_cons_zero, List.set_cons_succ]
  go_simp
  refine (SC.out _).mono ?_
  rintro e7 w7 ⟨rfl, hB7⟩
  refine hK.out _ _ (hS.trans (hB7.mono hS.size)) (fun hS => ?_)
  clear hK K
  try simp only [Act.put, List.getElem_toArray, List.getElem_cons_zero, List.getElem_cons_succ, List.setIfInBounds_toArray, List.set_cons_zero, List.set_cons_succ]
  refine wpAnyH_take (i := 8) (v := .int .i64 (bS c + 3)) rfl (by kernel_rfl) (by kernel_rfl) (by kernel_rfl) (fun _ _ _ h => h) (Or.inl ⟨by kernel_rfl, fun w' hw => ?y8⟩) hS ?_
  case y8 =>
    clear hS
    have z0 := (hw.cell (p := ⟨B, 0, none⟩) kl).trans k0
    have z1 := (hw.cell (p := ⟨B, 1, none⟩) kl).trans k1
    have z2 := (hw.cell (p := ⟨B, 2, none⟩) kl).trans k2
    have z3 := (hw.cell (p := ⟨B, 3, none⟩) kl).trans k3
    have z4 := (hw.cell (p := ⟨B, 4, none⟩) kl).trans k4
    have z5 := (hw.cell (p := ⟨B, 5, none⟩) kl).trans k5
    have z6 := (hw.cell (p := ⟨B, 6, none⟩) kl).trans k6
    clear hw
    go_simp
  try simp only [Act.put, List.getElem_toArray, List.getElem_cons_zero, List.getElem_cons_succ, List.setIfInBounds_toArray, List.set_cons_zero, List.set_cons_succ]
  refine wpAnyH_take (i := 9) (v := .int .i64 ((c 0 + 2) * (bS c + 3))) rfl (by kernel_rfl) (by kernel_rfl) (by kernel_rfl) (fun _ _ _ h => h) (Or.inl ⟨by kernel_rfl, fun w' hw => ?y9⟩) hS ?_
  case y9 =>
    clear hS
    have z0 := (hw.cell (p := ⟨B, 0, none⟩) kl).trans k0
    have z1 := (hw.cell (p := ⟨B, 1, none⟩) kl).trans k1
    have z2 := (hw.cell (p := ⟨B, 2, none⟩) kl).trans k2
    have z3 := (hw.cell (p := ⟨B, 3, none⟩) kl).trans k3
    have z4 := (hw.cell (p := ⟨B, 4, none⟩) kl).trans k4
    have z5 := (hw.cell (p := ⟨B, 5, none⟩) kl).trans k5
    have z6 := (hw.cell (p := ⟨B, 6, none⟩) kl).trans k6
    clear hw
    go_simp
  try simp only [Act.put, List.getElem_toArray, List.getElem_cons_zero, List.getElem_cons_succ, List.setIfInBounds_toArray, List.set_cons_zero, List.set_cons_succ]
  refine wpAnyH_take (i := 10) (v := .int .i64 (56 * c 5 + (c 0 + 2) * (bS c + 3))) rfl (by kernel_rfl) (by kernel_rfl) (by kernel_rfl) (fun _ _ _ h => h) (Or.inl ⟨by kernel_rfl, fun w' hw => ?y10⟩) hS ?_
  case y10 =>
    clear hS
    have z0 := (hw.cell (p := ⟨B, 0, none⟩) kl).trans k0
    have z1 := (hw.cell (p := ⟨B, 1, none⟩) kl).trans k1
    have z2 := (hw.cell (p := ⟨B, 2, none⟩) kl).trans k2
    have z3 := (hw.cell (p := ⟨B, 3, none⟩) kl).trans k3
    have z4 := (hw.cell (p := ⟨B, 4, none⟩) kl).trans k4
    have z5 := (hw.cell (p := ⟨B, 5, none⟩) kl).trans k5
    have z6 := (hw.cell (p := ⟨B, 6, none⟩) kl).trans k6
    clear hw
    go_simp
  try simp only [Act.put, List.getElem_toArray, List.getElem_cons_zero, List.getElem_cons_succ, List.setIfInBounds_toArray, List.set_cons_zero, List.set_cons_succ]
  refine wpAnyH_take (i := 14) (v := .int .i64 (56 * c 5 + (c 0 + 2) * (bS c + 3) + 3 * c 4)) rfl (by kernel_rfl) (by kernel_rfl) (by kernel_rfl) (fun _ _ _ h => h) (Or.inl ⟨by kernel_rfl, fun w' hw => ?y14⟩) hS ?_
  case y14 =>
    clear hS
    have z0 := (hw.cell (p := ⟨B, 0, none⟩) kl).trans k0
    have z1 := (hw.cell (p := ⟨B, 1, none⟩) kl).trans k1
    have z2 := (hw.cell (p := ⟨B, 2, none⟩) kl).trans k2
    have z3 := (hw.cell (p := ⟨B, 3, none⟩) kl).trans k3
    have z4 := (hw.cell (p := ⟨B, 4, none⟩) kl).trans k4
    have z5 := (hw.cell (p := ⟨B, 5, none⟩) kl).trans k5
    have z6 := (hw.cell (p := ⟨B, 6, none⟩) kl).trans k6
    clear hw
    go_simp
  try simp only [Act.put, List.getElem_toArray, List.getElem_cons_zero, List.getElem_cons_succ, List.setIfInBounds_toArray, List.set_cons_zero, List.set_cons_succ]
  refine wpAnyH_take (i := 18) (v := .int .i64 (56 * c 5 + (c 0 + 2) * (bS c + 3) + 3 * c 4 + 2 * c 1)) rfl (by kernel_rfl) (by kernel_rfl) (by kernel_rfl) (fun _ _ _ h => h) (Or.inl ⟨by kernel_rfl, fun w' hw => ?y18⟩) hS ?_
  case y18 =>
    clear hS
    have z0 := (hw.cell (p := ⟨B, 0, none⟩) kl).trans k0
    have z1 := (hw.cell (p := ⟨B, 1, none⟩) kl).trans k1
    have z2 := (hw.cell (p := ⟨B, 2, none⟩) kl).trans k2
    have z3 := (hw.cell (p := ⟨B, 3, none⟩) kl).trans k3
    have z4 := (hw.cell (p := ⟨B, 4, none⟩) kl).trans k4
    have z5 := (hw.cell (p := ⟨B, 5, none⟩) kl).trans k5
    have z6 := (hw.cell (p := ⟨B, 6, none⟩) kl).trans k6
    clear hw
    go_simp
  try simp only [Act.put, List.getElem_toArray, List.getElem_cons_zero, List.getElem_cons_succ, List.setIfInBounds_toArray, List.set_cons_zero, List.set_cons_succ]
  refine wpAnyH_take (i := 21) (v := .int .i64 (56 * c 5 + (c 0 + 2) * (bS c + 3) + 3 * c 4 + 2 * c 1 + c 2)) rfl (by kernel_rfl) (by kernel_rfl) (by kernel_rfl) (fun _ _ _ h => h) (Or.inl ⟨by kernel_rfl, fun w' hw => ?y21⟩) hS ?_
  case y21 =>
    clear hS
    have z0 := (hw.cell (p := ⟨B, 0, none⟩) kl).trans k0
    have z1 := (hw.cell (p := ⟨B, 1, none⟩) kl).trans k1
    have z2 := (hw.cell (p := ⟨B, 2, none⟩) kl).trans k2
    have z3 := (hw.cell (p := ⟨B, 3, none⟩) kl).trans k3
    have z4 := (hw.cell (p := ⟨B, 4, none⟩) kl).trans k4
    have z5 := (hw.cell (p := ⟨B, 5, none⟩) kl).trans k5
    have z6 := (hw.cell (p := ⟨B, 6, none⟩) kl).trans k6
    clear hw
    go_simp
  try simp only [Act.put, List.getElem_toArray, List.getElem_cons_zero, List.getElem_cons_succ, List.setIfInBounds_toArray, List.set_cons_zero, List.set_cons_succ]
  refine wpAnyH_take (i := 22) (v := .int .i64 (56 * c 5 + (c 0 + 2) * (bS c + 3) + 3 * c 4 + 2 * c 1 + c 2 + 100)) rfl (by kernel_rfl) (by kernel_rfl) (by kernel_rfl) (fun _ _ _ h => h) (Or.inl ⟨by kernel_rfl, fun w' hw => ?y22⟩) hS ?_
  case y22 =>
    clear hS
    have z0 := (hw.cell (p := ⟨B, 0, none⟩) kl).trans k0
    have z1 := (hw.cell (p := ⟨B, 1, none⟩) kl).trans k1
    have z2 := (hw.cell (p := ⟨B, 2, none⟩) kl).trans k2
    have z3 := (hw.cell (p := ⟨B, 3, none⟩) kl).trans k3
    have z4 := (hw.cell (p := ⟨B, 4, none⟩) kl).trans k4
    have z5 := (hw.cell (p := ⟨B, 5, none⟩) kl).trans k5
    have z6 := (hw.cell (p := ⟨B, 6, none⟩) kl).trans k6
    clear hw
    go_simp
  try simp only [Act.put, List.getElem_toArray, List.getElem_cons_zero, List.getElem_cons_succ, List.setIfInBounds_toArray, List.set_cons_zero, List.set_cons_succ]
  refine wpAnyH_take (i := 23) (v := .int .i64 (56 * c 5 + (c 0 + 2) * (bS c + 3) + 3 * c 4 + 2 * c 1 + c 2 + 100)) rfl (by kernel_rfl) (by kernel_rfl) (by kernel_rfl) (fun _ _ _ h => h) (Or.inl ⟨by kernel_rfl, fun w' hw => ?y23⟩) hS ?_
  case y23 =>
    clear hS
    have z0 := (hw.cell (p := ⟨B, 0, none⟩) kl).trans k0
    have z1 := (hw.cell (p := ⟨B, 1, none⟩) kl).trans k1
    have z2 := (hw.cell (p := ⟨B, 2, none⟩) kl).trans k2
    have z3 := (hw.cell (p := ⟨B, 3, none⟩) kl).trans k3
    have z4 := (hw.cell (p := ⟨B, 4, none⟩) kl).trans k4
    have z5 := (hw.cell (p := ⟨B, 5, none⟩) kl).trans k5
    have z6 := (hw.cell (p := ⟨B, 6, none⟩) kl).trans k6
    clear hw
    go_simp
  try simp only [Act.put, List.getElem_toArray, List.getElem_cons_zero, List.getElem_cons_succ, List.setIfInBounds_toArray, List.set_cons_zero, List.set_cons_succ]
  refine wpAnyH_done (by kernel_rfl) ?_ _
  have BW0 : Hid (Below w.heap.size w w7) := hB'.out.trans (hS.mono hB'.out.size)
  replace k0 := (hS.cell (p := ⟨B, 0, none⟩) kl).trans k0
  replace k1 := (hS.cell (p := ⟨B, 1, none⟩) kl).trans k1
  replace k2 := (hS.cell (p := ⟨B, 2, none⟩) kl).trans k2
  replace k3 := (hS.cell (p := ⟨B, 3, none⟩) kl).trans k3
  replace k4 := (hS.cell (p := ⟨B, 4, none⟩) kl).trans k4
  replace k5 := (hS.cell (p := ⟨B, 5, none⟩) kl).trans k5
  replace k6 := (hS.cell (p := ⟨B, 6, none⟩) kl).trans k6
  replace kl := Nat.lt_of_lt_of_le kl hS.size
  clear hS
  go_wp2
  go_ret
  exact ⟨rfl, BW0.out⟩
set_option maxHeartbeats 16000000 in
theorem window_any {c : Nat → Int} (h : Cfr c) (w : World) : Calls Tryz.prog 37 #[cfgV c] w fun r w' => r = .returned (.int .i64 (bW c)) ∧ Below w.heap.size w w' := by
  have RE := Mr.hid (retired_any h)
  have SC := Mr.hid (scan_any h)
  have hB : Hid (Below w.heap.size w (w.alloc (cfO c))) := (Below.refl _ w).alloc (Nat.le_refl _) _
  have hb : Hid ((w.alloc (cfO c)).heap[w.heap.size]? = some (cfO c)) := heap_alloc_new _ _
  have F := facts h
  have wr0 : IntKind.i64.wrap (8 * c 0) = 8 * c 0 := i64x _ (by omega) (by omega)
  have wr1 : IntKind.i64.wrap (8 * c 0 + 1) = 8 * c 0 + 1 := i64x _ (by omega) (by omega)
  have wr2 : IntKind.i64.wrap (c 0 * c 4) = c 0 * c 4 := i64x _ (by omega) (by omega)
  have wr3 : IntKind.i64.wrap (8 * c 0 + 1 + c 0 * c 4) = 8 * c 0 + 1 + c 0 * c 4 := i64x _ (by omega) (by omega)
  have wr4 : IntKind.i64.wrap (8 * c 0 + 1 + c 0 * c 4 + bR c) = bV c := i64x (bV c) (by omega) (by omega)
  have wr5 : IntKind.i64.wrap (bV c + 6) = bV c + 6 := i64x _ (by omega) (by omega)
  have wr6 : IntKind.i64.wrap (c 5 + c 0) = c 5 + c 0 := i64x _ (by omega) (by omega)
  have wr7 : IntKind.i64.wrap (7 * (c 5 + c 0)) = 7 * (c 5 + c 0) := i64x _ (by omega) (by omega)
  have wr8 : IntKind.i64.wrap (7 * (c 5 + c 0) + 12) = 7 * (c 5 + c 0) + 12 := i64x _ (by omega) (by omega)
  have wr9 : IntKind.i64.wrap ((bV c + 6) * (7 * (c 5 + c 0) + 12)) = (bV c + 6) * (7 * (c 5 + c 0) + 12) := i64x _ (by omega) (by omega)
  have wr10 : IntKind.i64.wrap (c 0 + 2) = c 0 + 2 := i64x _ (by omega) (by omega)
  have wr11 : IntKind.i64.wrap ((c 0 + 2) * bS c) = (c 0 + 2) * bS c := i64x _ (by omega) (by omega)
  have wr12 : IntKind.i64.wrap (3 * bV c) = 3 * bV c := i64x _ (by omega) (by omega)
  have wr13 : IntKind.i64.wrap (3 * c 4) = 3 * c 4 := i64x _ (by omega) (by omega)
  have wr14 : IntKind.i64.wrap (2 * c 1) = 2 * c 1 := i64x _ (by omega) (by omega)
  have wr15 : IntKind.i64.wrap ((bV c + 6) * (7 * (c 5 + c 0) + 12) + (c 0 + 2) * bS c) = (bV c + 6) * (7 * (c 5 + c 0) + 12) + (c 0 + 2) * bS c := i64x _ (by omega) (by omega)
  have wr16 : IntKind.i64.wrap ((bV c + 6) * (7 * (c 5 + c 0) + 12) + (c 0 + 2) * bS c + 3 * bV c) = (bV c + 6) * (7 * (c 5 + c 0) + 12) + (c 0 + 2) * bS c + 3 * bV c := i64x _ (by omega) (by omega)
  have wr17 : IntKind.i64.wrap ((bV c + 6) * (7 * (c 5 + c 0) + 12) + (c 0 + 2) * bS c + 3 * bV c + 3 * c 4) = (bV c + 6) * (7 * (c 5 + c 0) + 12) + (c 0 + 2) * bS c + 3 * bV c + 3 * c 4 := i64x _ (by omega) (by omega)
  have wr18 : IntKind.i64.wrap ((bV c + 6) * (7 * (c 5 + c 0) + 12) + (c 0 + 2) * bS c + 3 * bV c + 3 * c 4 + 2 * c 1) = (bV c + 6) * (7 * (c 5 + c 0) + 12) + (c 0 + 2) * bS c + 3 * bV c + 3 * c 4 + 2 * c 1 := i64x _ (by omega) (by omega)
  have wr19 : IntKind.i64.wrap ((bV c + 6) * (7 * (c 5 + c 0) + 12) + (c 0 + 2) * bS c + 3 * bV c + 3 * c 4 + 2 * c 1 + c 2) = (bV c + 6) * (7 * (c 5 + c 0) + 12) + (c 0 + 2) * bS c + 3 * bV c + 3 * c 4 + 2 * c 1 + c 2 := i64x _ (by omega) (by omega)
  have wr20 : IntKind.i64.wrap ((bV c + 6) * (7 * (c 5 + c 0) + 12) + (c 0 + 2) * bS c + 3 * bV c + 3 * c 4 + 2 * c 1 + c 2 + 43) = (bV c + 6) * (7 * (c 5 + c 0) + 12) + (c 0 + 2) * bS c + 3 * bV c + 3 * c 4 + 2 * c 1 + c 2 + 43 := i64x _ (by omega) (by omega)
  have wr21 : IntKind.i64.wrap (c 0 * ((bV c + 6) * (7 * (c 5 + c 0) + 12) + (c 0 + 2) * bS c + 3 * bV c + 3 * c 4 + 2 * c 1 + c 2 + 43)) = c 0 * ((bV c + 6) * (7 * (c 5 + c 0) + 12) + (c 0 + 2) * bS c + 3 * bV c + 3 * c 4 + 2 * c 1 + c 2 + 43) := i64x _ (by omega) (by omega)
  have wr22 : IntKind.i64.wrap (c 0 * ((bV c + 6) * (7 * (c 5 + c 0) + 12) + (c 0 + 2) * bS c + 3 * bV c + 3 * c 4 + 2 * c 1 + c 2 + 43) + 1) = c 0 * ((bV c + 6) * (7 * (c 5 + c 0) + 12) + (c 0 + 2) * bS c + 3 * bV c + 3 * c 4 + 2 * c 1 + c 2 + 43) + 1 := i64x _ (by omega) (by omega)
  clear F
  unfold cfO at hB hb
  unfold cfgV at RE SC ⊢
  go_enter Tryz.func37, Tryz.ntmps37
  go_upto_region 1 with (fail)
  generalize (w.alloc _) = wa at *
  obtain ⟨B, hBe⟩ : ∃ B, B = w.heap.size := ⟨_, rfl⟩
  rw [← hBe] at hb hB ⊢
  have hB' : Hid (Below w.heap.size w wa) := by rw [← hBe]; exact hB.out
  replace hBe := Mr.hid hBe
  obtain ⟨k0, k1, k2, k3, k4, k5, k6, kl⟩ := cfO_cells (c := c) hb.out
  have S0 : Below wa.heap.size wa wa.drew := (Below.refl _ _).drew
  refine wp_region_held_drew (S := fun w' => Below wa.heap.size wa w') (by kernel_rfl) S0 (fun hS => ?_)
  clear S0
  try simp only [Act.put, List.getElem_toArray, List.getElem_cons_zero, List.getElem_cons_succ, List.setIfInBounds_toArray, List.set_cons_zero, List.set_cons_succ]
  refine wpAnyH_take (i := 0) (v := .pointer (some ⟨B, 0, none⟩)) rfl (by kernel_rfl) (by kernel_rfl) (by kernel_rfl) (fun _ _ _ h => h) (Or.inl ⟨by kernel_rfl, fun w' hw => ?y0⟩) hS ?_
  case y0 =>
    clear hS
    have z0 := (hw.cell (p := ⟨B, 0, none⟩) kl).trans k0
    have z1 := (hw.cell (p := ⟨B, 1, none⟩) kl).trans k1
    have z2 := (hw.cell (p := ⟨B, 2, none⟩) kl).trans k2
    have z3 := (hw.cell (p := ⟨B, 3, none⟩) kl).trans k3
    have z4 := (hw.cell (p := ⟨B, 4, none⟩) kl).trans k4
    have z5 := (hw.cell (p := ⟨B, 5, none⟩) kl).trans k5
    have z6 := (hw.cell (p := ⟨B, 6, none⟩) kl).trans k6
    clear hw
    go_simp
  try simp only [Act.put, List.getElem_toArray, List.getElem_cons_zero, List.getElem_cons_succ, List.setIfInBounds_toArray, List.set_cons_zero, List.set_cons_succ]
  refine wpAnyH_take (i := 1) (v := .int .i64 (c 0)) rfl (by kernel_rfl) (by kernel_rfl) (by kernel_rfl) (fun _ _ _ h => h) (Or.inl ⟨by kernel_rfl, fun w' hw => ?y1⟩) hS ?_
  case y1 =>
    clear hS
    have z0 := (hw.cell (p := ⟨B, 0, none⟩) kl).trans k0
    have z1 := (hw.cell (p := ⟨B, 1, none⟩) kl).trans k1
    have z2 := (hw.cell (p := ⟨B, 2, none⟩) kl).trans k2
    have z3 := (hw.cell (p := ⟨B, 3, none⟩) kl).trans k3
    have z4 := (hw.cell (p := ⟨B, 4, none⟩) kl).trans k4
    have z5 := (hw.cell (p := ⟨B, 5, none⟩) kl).trans k5
    have z6 := (hw.cell (p := ⟨B, 6, none⟩) kl).trans k6
    clear hw
    go_simp
  try simp only [Act.put, List.getElem_toArray, List.getElem_cons_zero, List.getElem_cons_succ, List.setIfInBounds_toArray, List.set_cons_zero, List.set_cons_succ]
  refine wpAnyH_take (i := 2) (v := .int .i64 (8 * c 0)) rfl (by kernel_rfl) (by kernel_rfl) (by kernel_rfl) (fun _ _ _ h => h) (Or.inl ⟨by kernel_rfl, fun w' hw => ?y2⟩) hS ?_
  case y2 =>
    clear hS
    have z0 := (hw.cell (p := ⟨B, 0, none⟩) kl).trans k0
    have z1 := (hw.cell (p := ⟨B, 1, none⟩) kl).trans k1
    have z2 := (hw.cell (p := ⟨B, 2, none⟩) kl).trans k2
    have z3 := (hw.cell (p := ⟨B, 3, none⟩) kl).trans k3
    have z4 := (hw.cell (p := ⟨B, 4, none⟩) kl).trans k4
    have z5 := (hw.cell (p := ⟨B, 5, none⟩) kl).trans k5
    have z6 := (hw.cell (p := ⟨B, 6, none⟩) kl).trans k6
    clear hw
    go_simp
  try simp only [Act.put, List.getElem_toArray, List.getElem_cons_zero, List.getElem_cons_succ, List.setIfInBounds_toArray, List.set_cons_zero, List.set_cons_succ]
  refine wpAnyH_take (i := 3) (v := .int .i64 (8 * c 0 + 1)) rfl (by kernel_rfl) (by kernel_rfl) (by kernel_rfl) (fun _ _ _ h => h) (Or.inl ⟨by kernel_rfl, fun w' hw => ?y3⟩) hS ?_
  case y3 =>
    clear hS
    have z0 := (hw.cell (p := ⟨B, 0, none⟩) kl).trans k0
    have z1 := (hw.cell (p := ⟨B, 1, none⟩) kl).trans k1
    have z2 := (hw.cell (p := ⟨B, 2, none⟩) kl).trans k2
    have z3 := (hw.cell (p := ⟨B, 3, none⟩) kl).trans k3
    have z4 := (hw.cell (p := ⟨B, 4, none⟩) kl).trans k4
    have z5 := (hw.cell (p := ⟨B, 5, none⟩) kl).trans k5
    have z6 := (hw.cell (p := ⟨B, 6, none⟩) kl).trans k6
    clear hw
    go_simp
  try simp only [Act.put, List.getElem_toArray, List.getElem_cons_zero, List.getElem_cons_succ, List.setIfInBounds_toArray, List.set_cons_zero, List.set_cons_succ]
  refine wpAnyH_take (i := 4) (v := .pointer (some ⟨B, 0, none⟩)) rfl (by kernel_rfl) (by kernel_rfl) (by kernel_rfl) (fun _ _ _ h => h) (Or.inl ⟨by kernel_rfl, fun w' hw => ?y4⟩) hS ?_
  case y4 =>
    clear hS
    have z0 := (hw.cell (p := ⟨B, 0, none⟩) kl).trans k0
    have z1 := (hw.cell (p := ⟨B, 1, none⟩) kl).trans k1
    have z2 := (hw.cell (p := ⟨B, 2, none⟩) kl).trans k2
    have z3 := (hw.cell (p := ⟨B, 3, none⟩) kl).trans k3
    have z4 := (hw.cell (p := ⟨B, 4, none⟩) kl).trans k4
    have z5 := (hw.cell (p := ⟨B, 5, none⟩) kl).trans k5
    have z6 := (hw.cell (p := ⟨B, 6, none⟩) kl).trans k6
    clear hw
    go_simp
  try simp only [Act.put, List.getElem_toArray, List.getElem_cons_zero, List.getElem_cons_succ, List.setIfInBounds_toArray, List.set_cons_zero, List.set_cons_succ]
  refine wpAnyH_take (i := 5) (v := .int .i64 (c 0)) rfl (by kernel_rfl) (by kernel_rfl) (by kernel_rfl) (fun _ _ _ h => h) (Or.inl ⟨by kernel_rfl, fun w' hw => ?y5⟩) hS ?_
  case y5 =>
    clear hS
    have z0 := (hw.cell (p := ⟨B, 0, none⟩) kl).trans k0
    have z1 := (hw.cell (p := ⟨B, 1, none⟩) kl).trans k1
    have z2 := (hw.cell (p := ⟨B, 2, none⟩) kl).trans k2
    have z3 := (hw.cell (p := ⟨B, 3, none⟩) kl).trans k3
    have z4 := (hw.cell (p := ⟨B, 4, none⟩) kl).trans k4
    have z5 := (hw.cell (p := ⟨B, 5, none⟩) kl).trans k5
    have z6 := (hw.cell (p := ⟨B, 6, none⟩) kl).trans k6
    clear hw
    go_simp
  try simp only [Act.put, List.getElem_toArray, List.getElem_cons_zero, List.getElem_cons_succ, List.setIfInBounds_toArray, List.set_cons_zero, List.set_cons_succ]
  refine wpAnyH_take (i := 6) (v := .pointer (some ⟨B, 4, none⟩)) rfl (by kernel_rfl) (by kernel_rfl) (by kernel_rfl) (fun _ _ _ h => h) (Or.inl ⟨by kernel_rfl, fun w' hw => ?y6⟩) hS ?_
  case y6 =>
    clear hS
    have z0 := (hw.cell (p := ⟨B, 0, none⟩) kl).trans k0
    have z1 := (hw.cell (p := ⟨B, 1, none⟩) kl).trans k1
    have z2 := (hw.cell (p := ⟨B, 2, none⟩) kl).trans k2
    have z3 := (hw.cell (p := ⟨B, 3, none⟩) kl).trans k3
    have z4 := (hw.cell (p := ⟨B, 4, none⟩) kl).trans k4
    have z5 := (hw.cell (p := ⟨B, 5, none⟩) kl).trans k5
    have z6 := (hw.cell (p := ⟨B, 6, none⟩) kl).trans k6
    clear hw
    go_simp
  try simp only [Act.put, List.getElem_toArray, List.getElem_cons_zero, List.getElem_cons_succ, List.setIfInBounds_toArray, List.set_cons_zero, List.set_cons_succ]
  refine wpAnyH_take (i := 7) (v := .int .i64 (c 4)) rfl (by kernel_rfl) (by kernel_rfl) (by kernel_rfl) (fun _ _ _ h => h) (Or.inl ⟨by kernel_rfl, fun w' hw => ?y7⟩) hS ?_
  case y7 =>
    clear hS
    have z0 := (hw.cell (p := ⟨B, 0, none⟩) kl).trans k0
    have z1 := (hw.cell (p := ⟨B, 1, none⟩) kl).trans k1
    have z2 := (hw.cell (p := ⟨B, 2, none⟩) kl).trans k2
    have z3 := (hw.cell (p := ⟨B, 3, none⟩) kl).trans k3
    have z4 := (hw.cell (p := ⟨B, 4, none⟩) kl).trans k4
    have z5 := (hw.cell (p := ⟨B, 5, none⟩) kl).trans k5
    have z6 := (hw.cell (p := ⟨B, 6, none⟩) kl).trans k6
    clear hw
    go_simp
  try simp only [Act.put, List.getElem_toArray, List.getElem_cons_zero, List.getElem_cons_succ, List.setIfInBounds_toArray, List.set_cons_zero, List.set_cons_succ]
  refine wpAnyH_take (i := 8) (v := .int .i64 (c 0 * c 4)) rfl (by kernel_rfl) (by kernel_rfl) (by kernel_rfl) (fun _ _ _ h => h) (Or.inl ⟨by kernel_rfl, fun w' hw => ?y8⟩) hS ?_
  case y8 =>
    clear hS
    have z0 := (hw.cell (p := ⟨B, 0, none⟩) kl).trans k0
    have z1 := (hw.cell (p := ⟨B, 1, none⟩) kl).trans k1
    have z2 := (hw.cell (p := ⟨B, 2, none⟩) kl).trans k2
    have z3 := (hw.cell (p := ⟨B, 3, none⟩) kl).trans k3
    have z4 := (hw.cell (p := ⟨B, 4, none⟩) kl).trans k4
    have z5 := (hw.cell (p := ⟨B, 5, none⟩) kl).trans k5
    have z6 := (hw.cell (p := ⟨B, 6, none⟩) kl).trans k6
    clear hw
    go_simp
  try simp only [Act.put, List.getElem_toArray, List.getElem_cons_zero, List.getElem_cons_succ, List.setIfInBounds_toArray, List.set_cons_zero, List.set_cons_succ]
  refine wpAnyH_take (i := 9) (v := .int .i64 (8 * c 0 + 1 + c 0 * c 4)) rfl (by kernel_rfl) (by kernel_rfl) (by kernel_rfl) (fun _ _ _ h => h) (Or.inl ⟨by kernel_rfl, fun w' hw => ?y9⟩) hS ?_
  case y9 =>
    clear hS
    have z0 := (hw.cell (p := ⟨B, 0, none⟩) kl).trans k0
    have z1 := (hw.cell (p := ⟨B, 1, none⟩) kl).trans k1
    have z2 := (hw.cell (p := ⟨B, 2, none⟩) kl).trans k2
    have z3 := (hw.cell (p := ⟨B, 3, none⟩) kl).trans k3
    have z4 := (hw.cell (p := ⟨B, 4, none⟩) kl).trans k4
    have z5 := (hw.cell (p := ⟨B, 5, none⟩) kl).trans k5
    have z6 := (hw.cell (p := ⟨B, 6, none⟩) kl).trans k6
    clear hw
    go_simp
  try simp only [Act.put, List.getElem_toArray, List.getElem_cons_zero, List.getElem_cons_succ, List.setIfInBounds_toArray, List.set_cons_zero, List.set_cons_succ]
  refine wpAnyH_take (i := 10) (v := .agg #[.int .i64 (c 0), .int .i64 (c 1), .int .i64 (c 2), .int .i64 (c 3), .int .i64 (c 4), .int .i64 (c 5), .int .i64 (c 6)]) rfl (by kernel_rfl) (by kernel_rfl) (by kernel_rfl) (fun _ _ _ h => h) (Or.inl ⟨by kernel_rfl, fun w' hw => ?y10⟩) hS ?_
  case y10 =>
    clear hS
    have z0 := (hw.cell (p := ⟨B, 0, none⟩) kl).trans k0
    have z1 := (hw.cell (p := ⟨B, 1, none⟩) kl).trans k1
    have z2 := (hw.cell (p := ⟨B, 2, none⟩) kl).trans k2
    have z3 := (hw.cell (p := ⟨B, 3, none⟩) kl).trans k3
    have z4 := (hw.cell (p := ⟨B, 4, none⟩) kl).trans k4
    have z5 := (hw.cell (p := ⟨B, 5, none⟩) kl).trans k5
    have z6 := (hw.cell (p := ⟨B, 6, none⟩) kl).trans k6
    clear hw
    go_simp
  try simp only [Act.put, List.getElem_toArray, List.getElem_cons_zero, List.getElem_cons_succ, List.setIfInBounds_toArray, List.set_cons_zero, List.set_cons_succ]
  refine wpAnyH_ready (rs := [11]) (by kernel_rfl) (by simp) ?_
  refine AllReadyH.cons rfl (fun K hK => ?_) AllReadyH.nil
  try simp only [Act.put, List.getElem_toArray, List.getElem_cons_zero, List.getElem_cons_succ, List.setIfInBounds_toArray, List.set_cons_zero, List.set_cons_succ]
  go_simp
  refine (RE.out _).mono ?_
  rintro e11 w11 ⟨rfl, hB11⟩
  refine hK.out _ _ (hS.trans (hB11.mono hS.size)) (fun hS => ?_)
  clear hK K
  try simp only [Act.put, List.getElem_toArray, List.getElem_cons_zero, List.getElem_cons_succ, List.setIfInBounds_toArray, List.set_cons_zero, List.set_cons_succ]
  refine wpAnyH_take (i := 12) (v := .int .i64 (bV c)) rfl (by kernel_rfl) (by kernel_rfl) (by kernel_rfl) (fun _ _ _ h => h) (Or.inl ⟨by kernel_rfl, fun w' hw => ?y12⟩) hS ?_
  case y12 =>
    clear hS
    have z0 := (hw.cell (p := ⟨B, 0, none⟩) kl).trans k0
    have z1 := (hw.cell (p := ⟨B, 1, none⟩) kl).trans k1
    have z2 := (hw.cell (p := ⟨B, 2, none⟩) kl).trans k2
    have z3 := (hw.cell (p := ⟨B, 3, none⟩) kl).trans k3
    have z4 := (hw.cell (p := ⟨B, 4, none⟩) kl).trans k4
    have z5 := (hw.cell (p := ⟨B, 5, none⟩) kl).trans k5
    have z6 := (hw.cell (p := ⟨B, 6, none⟩) kl).trans k6
    clear hw
    go_simp
  try simp only [Act.put, List.getElem_toArray, List.getElem_cons_zero, List.getElem_cons_succ, List.setIfInBounds_toArray, List.set_cons_zero, List.set_cons_succ]
  refine wpAnyH_take (i := 13) (v := .int .i64 (bV c)) rfl (by kernel_rfl) (by kernel_rfl) (by kernel_rfl) (fun _ _ _ h => h) (Or.inl ⟨by kernel_rfl, fun w' hw => ?y13⟩) hS ?_
  case y13 =>
    clear hS
    have z0 := (hw.cell (p := ⟨B, 0, none⟩) kl).trans k0
    have z1 := (hw.cell (p := ⟨B, 1, none⟩) kl).trans k1
    have z2 := (hw.cell (p := ⟨B, 2, none⟩) kl).trans k2
    have z3 := (hw.cell (p := ⟨B, 3, none⟩) kl).trans k3
    have z4 := (hw.cell (p := ⟨B, 4, none⟩) kl).trans k4
    have z5 := (hw.cell (p := ⟨B, 5, none⟩) kl).trans k5
    have z6 := (hw.cell (p := ⟨B, 6, none⟩) kl).trans k6
    clear hw
    go_simp
  try simp only [Act.put, List.getElem_toArray, List.getElem_cons_zero, List.getElem_cons_succ, List.setIfInBounds_toArray, List.set_cons_zero, List.set_cons_succ]
  refine wpAnyH_done (by kernel_rfl) ?_ _
  have BW0 : Hid (Below w.heap.size w w11) := hB'.out.trans (hS.mono hB'.out.size)
  replace k0 := (hS.cell (p := ⟨B, 0, none⟩) kl).trans k0
  replace k1 := (hS.cell (p := ⟨B, 1, none⟩) kl).trans k1
  replace k2 := (hS.cell (p := ⟨B, 2, none⟩) kl).trans k2
  replace k3 := (hS.cell (p := ⟨B, 3, none⟩) kl).trans k3
  replace k4 := (hS.cell (p := ⟨B, 4, none⟩) kl).trans k4
  replace k5 := (hS.cell (p := ⟨B, 5, none⟩) kl).trans k5
  replace k6 := (hS.cell (p := ⟨B, 6, none⟩) kl).trans k6
  replace kl := Nat.lt_of_lt_of_le kl hS.size
  clear hS
  go_upto_region 3 with (fail)
  have S0 : Below w11.heap.size w11 w11.drew := (Below.refl _ _).drew
  refine wp_region_held_drew (S := fun w' => Below w11.heap.size w11 w') (by kernel_rfl) S0 (fun hS => ?_)
  clear S0
  try simp only [Act.put, List.getElem_toArray, List.getElem_cons_zero, List.getElem_cons_succ, List.setIfInBounds_toArray, List.set_cons_zero, List.set_cons_succ]
  refine wpAnyH_take (i := 0) (v := .pointer (some ⟨B, 0, none⟩)) rfl (by kernel_rfl) (by kernel_rfl) (by kernel_rfl) (fun _ _ _ h => h) (Or.inl ⟨by kernel_rfl, fun w' hw => ?y0⟩) hS ?_
  case y0 =>
    clear hS
    have z0 := (hw.cell (p := ⟨B, 0, none⟩) kl).trans k0
    have z1 := (hw.cell (p := ⟨B, 1, none⟩) kl).trans k1
    have z2 := (hw.cell (p := ⟨B, 2, none⟩) kl).trans k2
    have z3 := (hw.cell (p := ⟨B, 3, none⟩) kl).trans k3
    have z4 := (hw.cell (p := ⟨B, 4, none⟩) kl).trans k4
    have z5 := (hw.cell (p := ⟨B, 5, none⟩) kl).trans k5
    have z6 := (hw.cell (p := ⟨B, 6, none⟩) kl).trans k6
    clear hw
    go_simp
  try simp only [Act.put, List.getElem_toArray, List.getElem_cons_zero, List.getElem_cons_succ, List.setIfInBounds_toArray, List.set_cons_zero, List.set_cons_succ]
  refine wpAnyH_take (i := 1) (v := .int .i64 (c 0)) rfl (by kernel_rfl) (by kernel_rfl) (by kernel_rfl) (fun _ _ _ h => h) (Or.inl ⟨by kernel_rfl, fun w' hw => ?y1⟩) hS ?_
  case y1 =>
    clear hS
    have z0 := (hw.cell (p := ⟨B, 0, none⟩) kl).trans k0
    have z1 := (hw.cell (p := ⟨B, 1, none⟩) kl).trans k1
    have z2 := (hw.cell (p := ⟨B, 2, none⟩) kl).trans k2
    have z3 := (hw.cell (p := ⟨B, 3, none⟩) kl).trans k3
    have z4 := (hw.cell (p := ⟨B, 4, none⟩) kl).trans k4
    have z5 := (hw.cell (p := ⟨B, 5, none⟩) kl).trans k5
    have z6 := (hw.cell (p := ⟨B, 6, none⟩) kl).trans k6
    clear hw
    go_simp
  try simp only [Act.put, List.getElem_toArray, List.getElem_cons_zero, List.getElem_cons_succ, List.setIfInBounds_toArray, List.set_cons_zero, List.set_cons_succ]
  refine wpAnyH_take (i := 2) (v := .int .i64 (c 0 + 2)) rfl (by kernel_rfl) (by kernel_rfl) (by kernel_rfl) (fun _ _ _ h => h) (Or.inl ⟨by kernel_rfl, fun w' hw => ?y2⟩) hS ?_
  case y2 =>
    clear hS
    have z0 := (hw.cell (p := ⟨B, 0, none⟩) kl).trans k0
    have z1 := (hw.cell (p := ⟨B, 1, none⟩) kl).trans k1
    have z2 := (hw.cell (p := ⟨B, 2, none⟩) kl).trans k2
    have z3 := (hw.cell (p := ⟨B, 3, none⟩) kl).trans k3
    have z4 := (hw.cell (p := ⟨B, 4, none⟩) kl).trans k4
    have z5 := (hw.cell (p := ⟨B, 5, none⟩) kl).trans k5
    have z6 := (hw.cell (p := ⟨B, 6, none⟩) kl).trans k6
    clear hw
    go_simp
  try simp only [Act.put, List.getElem_toArray, List.getElem_cons_zero, List.getElem_cons_succ, List.setIfInBounds_toArray, List.set_cons_zero, List.set_cons_succ]
  refine wpAnyH_take (i := 3) (v := .agg #[.int .i64 (c 0), .int .i64 (c 1), .int .i64 (c 2), .int .i64 (c 3), .int .i64 (c 4), .int .i64 (c 5), .int .i64 (c 6)]) rfl (by kernel_rfl) (by kernel_rfl) (by kernel_rfl) (fun _ _ _ h => h) (Or.inl ⟨by kernel_rfl, fun w' hw => ?y3⟩) hS ?_
  case y3 =>
    clear hS
    have z0 := (hw.cell (p := ⟨B, 0, none⟩) kl).trans k0
    have z1 := (hw.cell (p := ⟨B, 1, none⟩) kl).trans k1
    have z2 := (hw.cell (p := ⟨B, 2, none⟩) kl).trans k2
    have z3 := (hw.cell (p := ⟨B, 3, none⟩) kl).trans k3
    have z4 := (hw.cell (p := ⟨B, 4, none⟩) kl).trans k4
    have z5 := (hw.cell (p := ⟨B, 5, none⟩) kl).trans k5
    have z6 := (hw.cell (p := ⟨B, 6, none⟩) kl).trans k6
    clear hw
    go_simp
  try simp only [Act.put, List.getElem_toArray, List.getElem_cons_zero, List.getElem_cons_succ, List.setIfInBounds_toArray, List.set_cons_zero, List.set_cons_succ]
  refine wpAnyH_ready (rs := [4]) (by kernel_rfl) (by simp) ?_
  refine AllReadyH.cons rfl (fun K hK => ?_) AllReadyH.nil
  try simp only [Act.put, List.getElem_toArray, List.getElem_cons_zero, List.getElem_cons_succ, List.setIfInBounds_toArray, List.set_cons_zero, List.set_cons_succ]
  go_simp
  refine (SC.out _).mono ?_
  rintro e4 w4 ⟨rfl, hB4⟩
  refine hK.out _ _ (hS.trans (hB4.mono hS.size)) (fun hS => ?_)
  clear hK K
  try simp only [Act.put, List.getElem_toArray, List.getElem_cons_zero, List.getElem_cons_succ, List.setIfInBounds_toArray, List.set_cons_zero, List.set_cons_succ]
  refine wpAnyH_take (i := 5) (v := .int .i64 ((c 0 + 2) * bS c)) rfl (by kernel_rfl) (by kernel_rfl) (by kernel_rfl) (fun _ _ _ h => h) (Or.inl ⟨by kernel_rfl, fun w' hw => ?y5⟩) hS ?_
  case y5 =>
    clear hS
    have z0 := (hw.cell (p := ⟨B, 0, none⟩) kl).trans k0
    have z1 := (hw.cell (p := ⟨B, 1, none⟩) kl).trans k1
    have z2 := (hw.cell (p := ⟨B, 2, none⟩) kl).trans k2
    have z3 := (hw.cell (p := ⟨B, 3, none⟩) kl).trans k3
    have z4 := (hw.cell (p := ⟨B, 4, none⟩) kl).trans k4
    have z5 := (hw.cell (p := ⟨B, 5, none⟩) kl).trans k5
    have z6 := (hw.cell (p := ⟨B, 6, none⟩) kl).trans k6
    clear hw
    go_simp
  try simp only [Act.put, List.getElem_toArray, List.getElem_cons_zero, List.getElem_cons_succ, List.setIfInBounds_toArray, List.set_cons_zero, List.set_cons_succ]
  refine wpAnyH_take (i := 6) (v := .int .i64 ((c 0 + 2) * bS c)) rfl (by kernel_rfl) (by kernel_rfl) (by kernel_rfl) (fun _ _ _ h => h) (Or.inl ⟨by kernel_rfl, fun w' hw => ?y6⟩) hS ?_
  case y6 =>
    clear hS
    have z0 := (hw.cell (p := ⟨B, 0, none⟩) kl).trans k0
    have z1 := (hw.cell (p := ⟨B, 1, none⟩) kl).trans k1
    have z2 := (hw.cell (p := ⟨B, 2, none⟩) kl).trans k2
    have z3 := (hw.cell (p := ⟨B, 3, none⟩) kl).trans k3
    have z4 := (hw.cell (p := ⟨B, 4, none⟩) kl).trans k4
    have z5 := (hw.cell (p := ⟨B, 5, none⟩) kl).trans k5
    have z6 := (hw.cell (p := ⟨B, 6, none⟩) kl).trans k6
    clear hw
    go_simp
  try simp only [Act.put, List.getElem_toArray, List.getElem_cons_zero, List.getElem_cons_succ, List.setIfInBounds_toArray, List.set_cons_zero, List.set_cons_succ]
  refine wpAnyH_done (by kernel_rfl) ?_ _
  have BW1 : Hid (Below w.heap.size w w4) := BW0.out.trans (hS.mono BW0.out.size)
  replace k0 := (hS.cell (p := ⟨B, 0, none⟩) kl).trans k0
  replace k1 := (hS.cell (p := ⟨B, 1, none⟩) kl).trans k1
  replace k2 := (hS.cell (p := ⟨B, 2, none⟩) kl).trans k2
  replace k3 := (hS.cell (p := ⟨B, 3, none⟩) kl).trans k3
  replace k4 := (hS.cell (p := ⟨B, 4, none⟩) kl).trans k4
  replace k5 := (hS.cell (p := ⟨B, 5, none⟩) kl).trans k5
  replace k6 := (hS.cell (p := ⟨B, 6, none⟩) kl).trans k6
  replace kl := Nat.lt_of_lt_of_le kl hS.size
  clear hS
  go_wp2
  go_ret
  exact ⟨rfl, BW1.out⟩
end Go.Proofs.YtpknggcgojkjgaaGreat.Cn
/-
  CENSUS: Listed, Retired, Solo, Window.
-/
namespace Go.Proofs.YtpknggcgojkjgaaGreat.Cn
open Go.RowKit Mr Md
set_option linter.unusedVariables false
set_option linter.unusedSimpArgs false
set_option maxRecDepth 100000
def cB (c : Nat → Int) : Bool := Wc.cfgB (c 0) (c 1) (c 2) (c 3) (c 4) (c 5) (c 6)
theorem cB_cfr {c : Nat → Int} (h : cB c = true) : Cfr c := by
  unfold cB Wc.cfgB Wc.inB at h
  simp only [Bool.and_eq_true, decide_eq_true_eq] at h
  obtain ⟨⟨⟨⟨⟨⟨⟨a, b⟩, d, e⟩, f, g⟩, i, j⟩, k, l⟩, m, n⟩, o, p⟩ := h
  exact ⟨a, b, d, e, f, g, i, j, k, l, m, n⟩
set_option maxHeartbeats 8000000 in
theorem bound_listed (c : Nat → Int) (w : World) : Calls Tryz.prog 33 #[cfgV c, .func (.func 34) #[] #[]] w fun r w' => r = .returned (.tuple #[.int .i64 (if cB c then bL c else 0), .int .i64 (Wc.chkN (cB c))]) ∧ Below w.heap.size w w' := by
  have CK := Mr.hid (fun w => Wc.check_any (c 0) (c 1) (c 2) (c 3) (c 4) (c 5) (c 6) w)
  have hB : Hid (Below w.heap.size w (w.alloc (cfO c))) := (Below.refl _ w).alloc (Nat.le_refl _) _
  have hb : Hid ((w.alloc (cfO c)).heap[w.heap.size]? = some (cfO c)) := heap_alloc_new _ _
  by_cases hc : cB c = true
  · have LI := Mr.hid (fun w => listed_any (cB_cfr hc) w)
    unfold cB at hc
    simp only [hc] at CK
    unfold cfgV at LI ⊢
    unfold cB
    rw [hc, if_pos rfl]
    have hk : Wc.chkN true = 0 := rfl
    rw [hk] at CK ⊢
    unfold cfO at hB hb
    replace hc := Mr.hid hc
    go_enter Tryz.func33, Tryz.ntmps33
    go_upto_region 1 with (fail)
    generalize (w.alloc _) = wa at *
    obtain ⟨k0, k1, k2, k3, k4, k5, k6, kl⟩ := cfO_cells (c := c) hb.out
    go_upto_region 2 with (go_at_call 73; refine (CK.out _).mono ?_; clear CK; rintro e wb ⟨rfl, hBb⟩; have kc := fun (k : Nat) => hBb.cell (p := ⟨w.heap.size, k, none⟩) kl; have q0 := (kc 0).trans k0; have q1 := (kc 1).trans k1; have q2 := (kc 2).trans k2; have q3 := (kc 3).trans k3; have q4 := (kc 4).trans k4; have q5 := (kc 5).trans k5; have q6 := (kc 6).trans k6; clear kc; have B2 := Mr.hid (hB.out.trans (hBb.mono hB.out.size)); clear hBb k0 k1 k2 k3 k4 k5 k6)
    go_wp2_with (go_at_call 34; refine (LI.out _).mono ?_; clear LI; rintro e w4 ⟨rfl, hB4⟩; have B3 := Mr.hid (B2.out.trans (hB4.mono B2.out.size)); clear hB4)
    go_ret2
    exact ⟨rfl, B3.out⟩
  · have hc' : cB c = false := by simpa using hc
    clear hc
    rw [hc', if_neg (by simp)]
    unfold cB at hc'
    simp only [hc'] at CK
    have hk : Wc.chkN false = 1 := rfl
    rw [hk] at CK ⊢
    unfold cfgV
    unfold cfO at hB hb
    replace hc' := Mr.hid hc'
    go_enter Tryz.func33, Tryz.ntmps33
    go_upto_region 1 with (fail)
    generalize (w.alloc _) = wa at *
    obtain ⟨k0, k1, k2, k3, k4, k5, k6, kl⟩ := cfO_cells (c := c) hb.out
    go_wp2_with (go_at_call 73; refine (CK.out _).mono ?_; clear CK; rintro e wb ⟨rfl, hBb⟩; have B2 := Mr.hid (hB.out.trans (hBb.mono hB.out.size)); clear hBb k0 k1 k2 k3 k4 k5 k6)
    go_ret2
    exact ⟨rfl, B2.out⟩
set_option maxHeartbeats 8000000 in
theorem Listed_any (c : Nat → Int) (w : World) : Calls Tryz.prog 11 #[cfgV c] w fun r w' => r = .returned (.tuple #[.int .i64 (if cB c then bL c else 0), .int .i64 (Wc.chkN (cB c))]) ∧ Below w.heap.size w w' := by
  have BO := Mr.hid (fun w => bound_listed c w)
  have hB : Hid (Below w.heap.size w (w.alloc (cfO c))) := (Below.refl _ w).alloc (Nat.le_refl _) _
  have hb : Hid ((w.alloc (cfO c)).heap[w.heap.size]? = some (cfO c)) := heap_alloc_new _ _
  unfold cfgV at BO ⊢
  unfold cfO at hB hb
  generalize (if cB c then bL c else 0) = r1 at *
  generalize Wc.chkN (cB c) = r2 at *
  go_enter Tryz.func11, Tryz.ntmps11
  go_upto_region 1 with (fail)
  generalize (w.alloc _) = wa at *
  obtain ⟨k0, k1, k2, k3, k4, k5, k6, kl⟩ := cfO_cells (c := c) hb.out
  go_wp2_with (go_at_call 33; refine (BO.out _).mono ?_; clear BO; rintro e wb ⟨rfl, hBb⟩; have B2 := Mr.hid (hB.out.trans (hBb.mono hB.out.size)); clear hBb k0 k1 k2 k3 k4 k5 k6)
  go_ret2
  exact ⟨rfl, B2.out⟩
set_option maxHeartbeats 8000000 in
theorem bound_retired (c : Nat → Int) (w : World) : Calls Tryz.prog 33 #[cfgV c, .func (.func 35) #[] #[]] w fun r w' => r = .returned (.tuple #[.int .i64 (if cB c then bR c else 0), .int .i64 (Wc.chkN (cB c))]) ∧ Below w.heap.size w w' := by
  have CK := Mr.hid (fun w => Wc.check_any (c 0) (c 1) (c 2) (c 3) (c 4) (c 5) (c 6) w)
  have hB : Hid (Below w.heap.size w (w.alloc (cfO c))) := (Below.refl _ w).alloc (Nat.le_refl _) _
  have hb : Hid ((w.alloc (cfO c)).heap[w.heap.size]? = some (cfO c)) := heap_alloc_new _ _
  by_cases hc : cB c = true
  · have LI := Mr.hid (fun w => retired_any (cB_cfr hc) w)
    unfold cB at hc
    simp only [hc] at CK
    unfold cfgV at LI ⊢
    unfold cB
    rw [hc, if_pos rfl]
    have hk : Wc.chkN true = 0 := rfl
    rw [hk] at CK ⊢
    unfold cfO at hB hb
    replace hc := Mr.hid hc
    go_enter Tryz.func33, Tryz.ntmps33
    go_upto_region 1 with (fail)
    generalize (w.alloc _) = wa at *
    obtain ⟨k0, k1, k2, k3, k4, k5, k6, kl⟩ := cfO_cells (c := c) hb.out
    go_upto_region 2 with (go_at_call 73; refine (CK.out _).mono ?_; clear CK; rintro e wb ⟨rfl, hBb⟩; have kc := fun (k : Nat) => hBb.cell (p := ⟨w.heap.size, k, none⟩) kl; have q0 := (kc 0).trans k0; have q1 := (kc 1).trans k1; have q2 := (kc 2).trans k2; have q3 := (kc 3).trans k3; have q4 := (kc 4).trans k4; have q5 := (kc 5).trans k5; have q6 := (kc 6).trans k6; clear kc; have B2 := Mr.hid (hB.out.trans (hBb.mono hB.out.size)); clear hBb k0 k1 k2 k3 k4 k5 k6)
    go_wp2_with (go_at_call 35; refine (LI.out _).mono ?_; clear LI; rintro e w4 ⟨rfl, hB4⟩; have B3 := Mr.hid (B2.out.trans (hB4.mono B2.out.size)); clear hB4)
    go_ret2
    exact ⟨rfl, B3.out⟩
  · have hc' : cB c = false := by simpa using hc
    clear hc
    rw [hc', if_neg (by simp)]
    unfold cB at hc'
    simp only [hc'] at CK
    have hk : Wc.chkN false = 1 := rfl
    rw [hk] at CK ⊢
    unfold cfgV
    unfold cfO at hB hb
    replace hc' := Mr.hid hc'
    go_enter Tryz.func33, Tryz.ntmps33
    go_upto_region 1 with (fail)
    generalize (w.alloc _) = wa at *
    obtain ⟨k0, k1, k2, k3, k4, k5, k6, kl⟩ := cfO_cells (c := c) hb.out
    go_wp2_with (go_at_call 73; refine (CK.out _).mono ?_; clear CK; rintro e wb ⟨rfl, hBb⟩; have B2 := Mr.hid (hB.out.trans (hBb.mono hB.out.size)); clear hBb k0 k1 k2 k3 k4 k5 k6)
    go_ret2
    exact ⟨rfl, B2.out⟩
set_option maxHeartbeats 8000000 in
theorem Retired_any (c : Nat → Int) (w : World) : Calls Tryz.prog 12 #[cfgV c] w fun r w' => r = .returned (.tuple #[.int .i64 (if cB c then bR c else 0), .int .i64 (Wc.chkN (cB c))]) ∧ Below w.heap.size w w' := by
  have BO := Mr.hid (fun w => bound_retired c w)
  have hB : Hid (Below w.heap.size w (w.alloc (cfO c))) := (Below.refl _ w).alloc (Nat.le_refl _) _
  have hb : Hid ((w.alloc (cfO c)).heap[w.heap.size]? = some (cfO c)) := heap_alloc_new _ _
  unfold cfgV at BO ⊢
  unfold cfO at hB hb
  generalize (if cB c then bR c else 0) = r1 at *
  generalize Wc.chkN (cB c) = r2 at *
  go_enter Tryz.func12, Tryz.ntmps12
  go_upto_region 1 with (fail)
  generalize (w.alloc _) = wa at *
  obtain ⟨k0, k1, k2, k3, k4, k5, k6, kl⟩ := cfO_cells (c := c) hb.out
  go_wp2_with (go_at_call 33; refine (BO.out _).mono ?_; clear BO; rintro e wb ⟨rfl, hBb⟩; have B2 := Mr.hid (hB.out.trans (hBb.mono hB.out.size)); clear hBb k0 k1 k2 k3 k4 k5 k6)
  go_ret2
  exact ⟨rfl, B2.out⟩
set_option maxHeartbeats 8000000 in
theorem bound_solo (c : Nat → Int) (w : World) : Calls Tryz.prog 33 #[cfgV c, .func (.func 36) #[] #[]] w fun r w' => r = .returned (.tuple #[.int .i64 (if cB c then bSo c else 0), .int .i64 (Wc.chkN (cB c))]) ∧ Below w.heap.size w w' := by
  have CK := Mr.hid (fun w => Wc.check_any (c 0) (c 1) (c 2) (c 3) (c 4) (c 5) (c 6) w)
  have hB : Hid (Below w.heap.size w (w.alloc (cfO c))) := (Below.refl _ w).alloc (Nat.le_refl _) _
  have hb : Hid ((w.alloc (cfO c)).heap[w.heap.size]? = some (cfO c)) := heap_alloc_new _ _
  by_cases hc : cB c = true
  · have LI := Mr.hid (fun w => solo_any (cB_cfr hc) w)
    unfold cB at hc
    simp only [hc] at CK
    unfold cfgV at LI ⊢
    unfold cB
    rw [hc, if_pos rfl]
    have hk : Wc.chkN true = 0 := rfl
    rw [hk] at CK ⊢
    unfold cfO at hB hb
    replace hc := Mr.hid hc
    go_enter Tryz.func33, Tryz.ntmps33
    go_upto_region 1 with (fail)
    generalize (w.alloc _) = wa at *
    obtain ⟨k0, k1, k2, k3, k4, k5, k6, kl⟩ := cfO_cells (c := c) hb.out
    go_upto_region 2 with (go_at_call 73; refine (CK.out _).mono ?_; clear CK; rintro e wb ⟨rfl, hBb⟩; have kc := fun (k : Nat) => hBb.cell (p := ⟨w.heap.size, k, none⟩) kl; have q0 := (kc 0).trans k0; have q1 := (kc 1).trans k1; have q2 := (kc 2).trans k2; have q3 := (kc 3).trans k3; have q4 := (kc 4).trans k4; have q5 := (kc 5).trans k5; have q6 := (kc 6).trans k6; clear kc; have B2 := Mr.hid (hB.out.trans (hBb.mono hB.out.size)); clear hBb k0 k1 k2 k3 k4 k5 k6)
    go_wp2_with (go_at_call 36; refine (LI.out _).mono ?_; clear LI; rintro e w4 ⟨rfl, hB4⟩; have B3 := Mr.hid (B2.out.trans (hB4.mono B2.out.size)); clear hB4)
    go_ret2
    exact ⟨rfl, B3.out⟩
  · have hc' : cB c = false := by simpa using hc
    clear hc
    rw [hc', if_neg (by simp)]
    unfold cB at hc'
    simp only [hc'] at CK
    have hk : Wc.chkN false = 1 := rfl
    rw [hk] at CK ⊢
    unfold cfgV
    unfold cfO at hB hb
    replace hc' := Mr.hid hc'
    go_enter Tryz.func33, Tryz.ntmps33
    go_upto_region 1 with (fail)
    generalize (w.alloc _) = wa at *
    obtain ⟨k0, k1, k2, k3, k4, k5, k6, kl⟩ := cfO_cells (c := c) hb.out
    go_wp2_with (go_at_call 73; refine (CK.out _).mono ?_; clear CK; rintro e wb ⟨rfl, hBb⟩; have B2 := Mr.hid (hB.out.trans (hBb.mono hB.out.size)); clear hBb k0 k1 k2 k3 k4 k5 k6)
    go_ret2
    exact ⟨rfl, B2.out⟩
set_option maxHeartbeats 8000000 in
theorem Solo_any (c : Nat → Int) (w : World) : Calls Tryz.prog 13 #[cfgV c] w fun r w' => r = .returned (.tuple #[.int .i64 (if cB c then bSo c else 0), .int .i64 (Wc.chkN (cB c))]) ∧ Below w.heap.size w w' := by
  have BO := Mr.hid (fun w => bound_solo c w)
  have hB : Hid (Below w.heap.size w (w.alloc (cfO c))) := (Below.refl _ w).alloc (Nat.le_refl _) _
  have hb : Hid ((w.alloc (cfO c)).heap[w.heap.size]? = some (cfO c)) := heap_alloc_new _ _
  unfold cfgV at BO ⊢
  unfold cfO at hB hb
  generalize (if cB c then bSo c else 0) = r1 at *
  generalize Wc.chkN (cB c) = r2 at *
  go_enter Tryz.func13, Tryz.ntmps13
  go_upto_region 1 with (fail)
  generalize (w.alloc _) = wa at *
  obtain ⟨k0, k1, k2, k3, k4, k5, k6, kl⟩ := cfO_cells (c := c) hb.out
  go_wp2_with (go_at_call 33; refine (BO.out _).mono ?_; clear BO; rintro e wb ⟨rfl, hBb⟩; have B2 := Mr.hid (hB.out.trans (hBb.mono hB.out.size)); clear hBb k0 k1 k2 k3 k4 k5 k6)
  go_ret2
  exact ⟨rfl, B2.out⟩
set_option maxHeartbeats 8000000 in
theorem bound_window (c : Nat → Int) (w : World) : Calls Tryz.prog 33 #[cfgV c, .func (.func 37) #[] #[]] w fun r w' => r = .returned (.tuple #[.int .i64 (if cB c then bW c else 0), .int .i64 (Wc.chkN (cB c))]) ∧ Below w.heap.size w w' := by
  have CK := Mr.hid (fun w => Wc.check_any (c 0) (c 1) (c 2) (c 3) (c 4) (c 5) (c 6) w)
  have hB : Hid (Below w.heap.size w (w.alloc (cfO c))) := (Below.refl _ w).alloc (Nat.le_refl _) _
  have hb : Hid ((w.alloc (cfO c)).heap[w.heap.size]? = some (cfO c)) := heap_alloc_new _ _
  by_cases hc : cB c = true
  · have LI := Mr.hid (fun w => window_any (cB_cfr hc) w)
    unfold cB at hc
    simp only [hc] at CK
    unfold cfgV at LI ⊢
    unfold cB
    rw [hc, if_pos rfl]
    have hk : Wc.chkN true = 0 := rfl
    rw [hk] at CK ⊢
    unfold cfO at hB hb
    replace hc := Mr.hid hc
    go_enter Tryz.func33, Tryz.ntmps33
    go_upto_region 1 with (fail)
    generalize (w.alloc _) = wa at *
    obtain ⟨k0, k1, k2, k3, k4, k5, k6, kl⟩ := cfO_cells (c := c) hb.out
    go_upto_region 2 with (go_at_call 73; refine (CK.out _).mono ?_; clear CK; rintro e wb ⟨rfl, hBb⟩; have kc := fun (k : Nat) => hBb.cell (p := ⟨w.heap.size, k, none⟩) kl; have q0 := (kc 0).trans k0; have q1 := (kc 1).trans k1; have q2 := (kc 2).trans k2; have q3 := (kc 3).trans k3; have q4 := (kc 4).trans k4; have q5 := (kc 5).trans k5; have q6 := (kc 6).trans k6; clear kc; have B2 := Mr.hid (hB.out.trans (hBb.mono hB.out.size)); clear hBb k0 k1 k2 k3 k4 k5 k6)
    go_wp2_with (go_at_call 37; refine (LI.out _).mono ?_; clear LI; rintro e w4 ⟨rfl, hB4⟩; have B3 := Mr.hid (B2.out.trans (hB4.mono B2.out.size)); clear hB4)
    go_ret2
    exact ⟨rfl, B3.out⟩
  · have hc' : cB c = false := by simpa using hc
    clear hc
    rw [hc', if_neg (by simp)]
    unfold cB at hc'
    simp only [hc'] at CK
    have hk : Wc.chkN false = 1 := rfl
    rw [hk] at CK ⊢
    unfold cfgV
    unfold cfO at hB hb
    replace hc' := Mr.hid hc'
    go_enter Tryz.func33, Tryz.ntmps33
    go_upto_region 1 with (fail)
    generalize (w.alloc _) = wa at *
    obtain ⟨k0, k1, k2, k3, k4, k5, k6, kl⟩ := cfO_cells (c := c) hb.out
    go_wp2_with (go_at_call 73; refine (CK.out _).mono ?_; clear CK; rintro e wb ⟨rfl, hBb⟩; have B2 := Mr.hid (hB.out.trans (hBb.mono hB.out.size)); clear hBb k0 k1 k2 k3 k4 k5 k6)
    go_ret2
    exact ⟨rfl, B2.out⟩
set_option maxHeartbeats 8000000 in
theorem Window_any (c : Nat → Int) (w : World) : Calls Tryz.prog 14 #[cfgV c] w fun r w' => r = .returned (.tuple #[.int .i64 (if cB c then bW c else 0), .int .i64 (Wc.chkN (cB c))]) ∧ Below w.heap.size w w' := by
  have BO := Mr.hid (fun w => bound_window c w)
  have hB : Hid (Below w.heap.size w (w.alloc (cfO c))) := (Below.refl _ w).alloc (Nat.le_refl _) _
  have hb : Hid ((w.alloc (cfO c)).heap[w.heap.size]? = some (cfO c)) := heap_alloc_new _ _
  unfold cfgV at BO ⊢
  unfold cfO at hB hb
  generalize (if cB c then bW c else 0) = r1 at *
  generalize Wc.chkN (cB c) = r2 at *
  go_enter Tryz.func14, Tryz.ntmps14
  go_upto_region 1 with (fail)
  generalize (w.alloc _) = wa at *
  obtain ⟨k0, k1, k2, k3, k4, k5, k6, kl⟩ := cfO_cells (c := c) hb.out
  go_wp2_with (go_at_call 33; refine (BO.out _).mono ?_; clear BO; rintro e wb ⟨rfl, hBb⟩; have B2 := Mr.hid (hB.out.trans (hBb.mono hB.out.size)); clear hBb k0 k1 k2 k3 k4 k5 k6)
  go_ret2
  exact ⟨rfl, B2.out⟩
end Go.Proofs.YtpknggcgojkjgaaGreat.Cn
