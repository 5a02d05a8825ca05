import Derived.Test.YtpknggcgojkjgaaGreatJ24
import Derived.Test.YtpknggcgojkjgaaGreatJ33
import Derived.Test.YtpknggcgojkjgaaGreatJ36
/-
  CENSUS: CensusGrows.
-/
namespace Go.Proofs.YtpknggcgojkjgaaGreat.Cn
open Go.RowKit Mr Md
set_option linter.unusedVariables false
set_option linter.unusedSimpArgs false
set_option maxRecDepth 100000
/-- d is c with one number raised. -/
def Rz (c d : Nat → Int) : Prop := ∀ i, i < 7 → d i = c i ∨ d i = wrap64 (c i + 1)
theorem rz_up {c d : Nat → Int} (h : Rz c d) (hc : Cfr c) (h6 : 0 ≤ c 6 ∧ c 6 ≤ 1000000) : ∀ i, i < 7 → c i ≤ d i := by
  intro i hi
  have hb : 0 ≤ c i ∧ c i ≤ 1000000 := by
    obtain ⟨l0, u0, l1, u1, l2, u2, l3, u3, l4, u4, l5, u5⟩ := hc
    have : i = 0 ∨ i = 1 ∨ i = 2 ∨ i = 3 ∨ i = 4 ∨ i = 5 ∨ i = 6 := by omega
    rcases this with rfl | rfl | rfl | rfl | rfl | rfl | rfl <;> omega
  rcases h i hi with e | e
  · omega
  · have : wrap64 (c i + 1) = c i + 1 := by unfold wrap64; omega
    omega
theorem mul_up {a b A B : Int} (h0 : 0 ≤ a) (h1 : a ≤ A) (h2 : 0 ≤ b) (h3 : b ≤ B) : a * b ≤ A * B := (mul_le2 h0 h1 h2 h3).2
/-- No bound falls. -/
theorem grows {c d : Nat → Int} (hc : Cfr c) (hd : Cfr d) (h : ∀ i, i < 7 → c i ≤ d i) : bL c ≤ bL d ∧ bR c ≤ bR d ∧ bSo c ≤ bSo d ∧ bW c ≤ bW d := by
  have g0 := h 0 (by omega)
  have g1 := h 1 (by omega)
  have g2 := h 2 (by omega)
  have g3 := h 3 (by omega)
  have g4 := h 4 (by omega)
  have g5 := h 5 (by omega)
  obtain ⟨⟨l0, u0⟩, ⟨l1, u1⟩, ⟨l2, u2⟩, ⟨l3, u3⟩, ⟨l4, u4⟩, ⟨l5, u5⟩, ⟨hH, _⟩, ⟨hL, _⟩, ⟨m1, _⟩, ⟨hS, _⟩, ⟨m2, _⟩, ⟨hV, _⟩, ⟨m3, _⟩, ⟨m4, _⟩, ⟨m5, _⟩, ⟨m6, _⟩⟩ := facts hc
  have eH : bH c ≤ bH d := mul_up (by omega) g1 (by omega) g2
  have e1 : (c 1 - 1) * bH c ≤ (d 1 - 1) * bH d := mul_up (by omega) (by omega) hH eH
  have eL : bL c ≤ bL d := by unfold bL; omega
  have eR : bR c ≤ bR d := mul_up (by omega) g1 hL eL
  have eS : bS c ≤ bS d := by unfold bS; omega
  have e2 : c 0 * c 4 ≤ d 0 * d 4 := mul_up (by omega) g0 l4 g4
  have eV : bV c ≤ bV d := by unfold bV; omega
  have e3 : (c 0 + 2) * (bS c + 3) ≤ (d 0 + 2) * (bS d + 3) := mul_up (by omega) (by omega) (by omega) (by omega)
  have eSo : bSo c ≤ bSo d := by unfold bSo; omega
  have e4 : (c 0 + 2) * bS c ≤ (d 0 + 2) * bS d := mul_up (by omega) (by omega) hS eS
  have e5 : (bV c + 6) * (7 * (c 5 + c 0) + 12) ≤ (bV d + 6) * (7 * (d 5 + d 0) + 12) := mul_up (by omega) (by omega) (by omega) (by omega)
  have eW : bW c ≤ bW d := by
    unfold bW
    have := mul_up (a := c 0) (A := d 0) (b := (bV c + 6) * (7 * (c 5 + c 0) + 12) + (c 0 + 2) * bS c + 3 * bV c + 3 * c 4 + 2 * c 1 + c 2 + 43) (B := (bV d + 6) * (7 * (d 5 + d 0) + 12) + (d 0 + 2) * bS d + 3 * bV d + 3 * d 4 + 2 * d 1 + d 2 + 43) (by omega) g0 (by omega) (by omega)
    omega
  exact ⟨eL, eR, eSo, eW⟩
theorem low_bL {c : Nat → Int} (hc : Cfr c) : c 3 ≤ bL c ∧ c 1 * c 2 < bL c := by
  have h1 := hc.l
  have e : bH c = c 1 * c 2 := rfl
  unfold bL
  omega
theorem six {c : Nat → Int} (h : cB c = true) : 0 ≤ c 6 ∧ c 6 ≤ 1000000 := by
  unfold cB Wc.cfgB Wc.inB at h
  simp only [Bool.and_eq_true, decide_eq_true_eq] at h
  omega
/-- The two boxes. -/
structure Gb (w wx : World) (B1 B2 : Nat) (c d : Nat → Int) : Prop where
  bel : Below w.heap.size w wx
  one : wx.heap[B1]? = some (cfO c)
  two : wx.heap[B2]? = some (cfO d)
theorem Gb.below {w wx w' : World} {B1 B2 : Nat} {c d : Nat → Int} (h : Gb w wx B1 B2 c d) (hB : Below wx.heap.size wx w') : Gb w w' B1 B2 c d :=
  ⟨h.bel.trans (hB.mono h.bel.size), (hB.block _ (Array.getElem?_eq_some_iff.1 h.one).1).trans h.one, (hB.block _ (Array.getElem?_eq_some_iff.1 h.two).1).trans h.two⟩
def upc (c : Nat → Int) (j : Nat) (v : Int) : Nat → Int := fun i => if i = j then v else c i
theorem rz_upc (c : Nat → Int) (j : Nat) : Rz c (upc c j (wrap64 (c j + 1))) := by
  intro i hi
  unfold upc
  by_cases e : i = j
  · subst e; simp
  · simp [e]
theorem Gb.put {w wx : World} {B1 B2 : Nat} {c d : Nat → Int} (h : Gb w wx B1 B2 c d) (hw : w.heap.size ≤ B2) (hne : B1 ≠ B2) (j : Nat) (hj : j < 7) (v : Int) : Gb w (wx.setCell ⟨B2, j, none⟩ (.int .i64 v)) B1 B2 c (upc d j v) := by
  refine ⟨h.bel.setCell (p := ⟨B2, j, none⟩) hw _, (Below.heap_setCell wx ⟨B2, j, none⟩ _ B1 hne).trans h.one, ?_⟩
  have h2 := h.two
  unfold cfO at h2 ⊢
  rw [setBlk h2]
  have : j = 0 ∨ j = 1 ∨ j = 2 ∨ j = 3 ∨ j = 4 ∨ j = 5 ∨ j = 6 := by omega
  rcases this with rfl | rfl | rfl | rfl | rfl | rfl | rfl <;> simp [upc]
set_option maxHeartbeats 32000000 in
theorem walk_grows (c : Nat → Int) (j : Int) (w : World) : Calls Tryz.prog 3 #[cfgV c, .int .i64 j] w fun r w' => r = .returned (.bool true) ∧ Below w.heap.size w w' := by
  have hB : Hid (Below w.heap.size w (w.alloc (cfO c))) := (Below.refl _ w).alloc (Nat.le_refl _) _
  have hb : Hid ((w.alloc (cfO c)).heap[w.heap.size]? = some (cfO c)) := heap_alloc_new _ _
  have AW := Mr.hid awake_any
  unfold cfgV
  unfold cfO at hB hb
  go_enter Tryz.func3, Tryz.ntmps3
  go_upto_region 1 with (fail)
  generalize (w.alloc _) = wa at *
  go_upto_region 3 with (go_at_call 9; refine (AW.out _).mono ?_; clear AW; rintro e w1 ⟨rfl, hB1⟩)
  have b1 : w1.heap[w.heap.size]? = some (cfO c) := (hB1.block _ (Array.getElem?_eq_some_iff.1 hb.out).1).trans hb.out
  have G0 : Hid (Gb w (w1.alloc (cfO c)) w.heap.size w1.heap.size c c) := ⟨(hB.out.trans (hB1.mono hB.out.size)).alloc (Nat.le_trans hB.out.size hB1.size) _, old_at b1 _, heap_alloc_new _ _⟩
  have hlt : w.heap.size < w1.heap.size := (Array.getElem?_eq_some_iff.1 b1).1
  obtain ⟨k0, k1, k2, k3, k4, k5, k6, kl⟩ := cfO_cells b1
  unfold cfO at G0
  go_cut [5] (fun s5 wy => s5 = .pointer (some ⟨w1.heap.size, 0, none⟩) ∧ Gb w wy w.heap.size w1.heap.size c c)
  case first =>
    go_wp2
    go_meet
    case rel => exact ⟨rfl, G0.out⟩
  case rest =>
    clear k0 k1 k2 k3 k4 k5 k6 kl b1 hB1 hb hB G0
    obtain ⟨rfl, G0⟩ := hcut
    replace G0 := Mr.hid G0
    generalize w1.heap.size = B2 at *
    generalize wc = wx at *
    obtain ⟨q0, q1, q2, q3, q4, q5, q6, ql⟩ := cfO_cells G0.out.two
    go_step
    go_step
    go_cut [] (fun wy => ∃ d, Rz c d ∧ Gb w wy w.heap.size B2 c d)
    case first =>
      have hw : w.heap.size ≤ B2 := by omega
      have hne : w.heap.size ≠ B2 := by omega
      have P := fun i (hi : i < 7) => G0.out.put hw hne i hi (wrap64 (c i + 1))
      have z0 := G0.out.two
      have fz : ∀ k, wx.frozen? ⟨B2, k, none⟩ = false := fun k => by simp [World.frozen?, z0, cfO]
      have f0 := fz 0
      have f1 := fz 1
      have f2 := fz 2
      have f3 := fz 3
      have f4 := fz 4
      have f5 := fz 5
      have f6 := fz 6
      clear fz z0
      replace P := Mr.hid P
      replace G0 := Mr.hid G0
      by_cases j0 : j = 0
      · have t0 : (j == 0) = true := by simp [j0]
        replace j0 := Mr.hid j0
        go_wp2
        go_meet
        case rel => exact ⟨_, rz_upc c 0, P.out 0 (by omega)⟩
      have t0 : (j == 0) = false := by simp [j0]
      replace j0 := Mr.hid j0
      by_cases j1 : j = 1
      · have t1 : (j == 1) = true := by simp [j1]
        replace j1 := Mr.hid j1
        go_wp2
        go_meet
        case rel => exact ⟨_, rz_upc c 1, P.out 1 (by omega)⟩
      have t1 : (j == 1) = false := by simp [j1]
      replace j1 := Mr.hid j1
      by_cases j2 : j = 2
      · have t2 : (j == 2) = true := by simp [j2]
        replace j2 := Mr.hid j2
        go_wp2
        go_meet
        case rel => exact ⟨_, rz_upc c 2, P.out 2 (by omega)⟩
      have t2 : (j == 2) = false := by simp [j2]
      replace j2 := Mr.hid j2
      by_cases j3 : j = 3
      · have t3 : (j == 3) = true := by simp [j3]
        replace j3 := Mr.hid j3
        go_wp2
        go_meet
        case rel => exact ⟨_, rz_upc c 3, P.out 3 (by omega)⟩
      have t3 : (j == 3) = false := by simp [j3]
      replace j3 := Mr.hid j3
      by_cases j4 : j = 4
      · have t4 : (j == 4) = true := by simp [j4]
        replace j4 := Mr.hid j4
        go_wp2
        go_meet
        case rel => exact ⟨_, rz_upc c 4, P.out 4 (by omega)⟩
      have t4 : (j == 4) = false := by simp [j4]
      replace j4 := Mr.hid j4
      by_cases j5 : j = 5
      · have t5 : (j == 5) = true := by simp [j5]
        replace j5 := Mr.hid j5
        go_wp2
        go_meet
        case rel => exact ⟨_, rz_upc c 5, P.out 5 (by omega)⟩
      have t5 : (j == 5) = false := by simp [j5]
      replace j5 := Mr.hid j5
      go_wp2
      go_meet
      case rel => exact ⟨_, rz_upc c 6, P.out 6 (by omega)⟩
    case rest =>
      clear q0 q1 q2 q3 q4 q5 q6 ql G0
      obtain ⟨d, hR, G⟩ := hcut
      obtain ⟨k0, k1, k2, k3, k4, k5, k6, kl⟩ := cfO_cells G.one
      obtain ⟨q0, q1, q2, q3, q4, q5, q6, ql⟩ := cfO_cells G.two
      replace G := Mr.hid G
      cases hc : cB c with
      | false =>
        have CKc := Mr.hid (fun w => Wc.refConfig (c 0) (c 1) (c 2) (c 3) (c 4) (c 5) (c 6) w)
        unfold cB at hc
        rw [hc] at CKc
        replace hc := Mr.hid hc
        go_wp2_with (first | (go_at_call 10; refine (CKc.out _).mono ?_; clear CKc; rintro e w1 ⟨rfl, hB1⟩; clear k0 k1 k2 k3 k4 k5 k6 kl q0 q1 q2 q3 q4 q5 q6 ql; replace G := Mr.hid (G.out.below hB1); clear hB1; obtain ⟨k0, k1, k2, k3, k4, k5, k6, kl⟩ := cfO_cells G.out.one; obtain ⟨q0, q1, q2, q3, q4, q5, q6, ql⟩ := cfO_cells G.out.two))
        go_ret
        exact ⟨rfl, G.out.bel⟩
      | true =>
        cases hd : cB d with
        | false =>
          have CKc := Mr.hid (fun w => Wc.refConfig (c 0) (c 1) (c 2) (c 3) (c 4) (c 5) (c 6) w)
          have CKd := Mr.hid (fun w => Wc.refConfig (d 0) (d 1) (d 2) (d 3) (d 4) (d 5) (d 6) w)
          unfold cB at hc hd
          rw [hc] at CKc
          rw [hd] at CKd
          replace hc := Mr.hid hc
          replace hd := Mr.hid hd
          go_wp2_with (first | (go_at_call 10; refine (CKc.out _).mono ?_; clear CKc; rintro e w1 ⟨rfl, hB1⟩; clear k0 k1 k2 k3 k4 k5 k6 kl q0 q1 q2 q3 q4 q5 q6 ql; replace G := Mr.hid (G.out.below hB1); clear hB1; obtain ⟨k0, k1, k2, k3, k4, k5, k6, kl⟩ := cfO_cells G.out.one; obtain ⟨q0, q1, q2, q3, q4, q5, q6, ql⟩ := cfO_cells G.out.two) | (go_at_call 10; refine (CKd.out _).mono ?_; clear CKd; rintro e w1 ⟨rfl, hB1⟩; clear k0 k1 k2 k3 k4 k5 k6 kl q0 q1 q2 q3 q4 q5 q6 ql; replace G := Mr.hid (G.out.below hB1); clear hB1; obtain ⟨k0, k1, k2, k3, k4, k5, k6, kl⟩ := cfO_cells G.out.one; obtain ⟨q0, q1, q2, q3, q4, q5, q6, ql⟩ := cfO_cells G.out.two))
          go_ret
          exact ⟨rfl, G.out.bel⟩
        | true =>
          have hup := rz_up hR (cB_cfr hc) (six hc)
          obtain ⟨eL, eR, eS, eW⟩ := grows (cB_cfr hc) (cB_cfr hd) hup
          obtain ⟨o1, o2⟩ := low_bL (cB_cfr hc)
          have fc := cB_cfr hc
          obtain ⟨m1, m2⟩ := mul_le2 (a := c 1) (b := c 2) (A := 16) (B := 8) (by have := fc.l1; omega) fc.u1 (by have := fc.l2; omega) fc.u2
          have hk : Wc.chkN true = 0 := rfl
          have LAc := fun w => Listed_any c w
          rw [hc, hk] at LAc
          simp only [if_true] at LAc
          unfold cfgV at LAc
          have RAc := fun w => Retired_any c w
          rw [hc, hk] at RAc
          simp only [if_true] at RAc
          unfold cfgV at RAc
          have SAc := fun w => Solo_any c w
          rw [hc, hk] at SAc
          simp only [if_true] at SAc
          unfold cfgV at SAc
          have WAc := fun w => Window_any c w
          rw [hc, hk] at WAc
          simp only [if_true] at WAc
          unfold cfgV at WAc
          have LAd := fun w => Listed_any d w
          rw [hd, hk] at LAd
          simp only [if_true] at LAd
          unfold cfgV at LAd
          have RAd := fun w => Retired_any d w
          rw [hd, hk] at RAd
          simp only [if_true] at RAd
          unfold cfgV at RAd
          have SAd := fun w => Solo_any d w
          rw [hd, hk] at SAd
          simp only [if_true] at SAd
          unfold cfgV at SAd
          have WAd := fun w => Window_any d w
          rw [hd, hk] at WAd
          simp only [if_true] at WAd
          unfold cfgV at WAd
          have CKc := Mr.hid (fun w => Wc.refConfig (c 0) (c 1) (c 2) (c 3) (c 4) (c 5) (c 6) w)
          have CKd := Mr.hid (fun w => Wc.refConfig (d 0) (d 1) (d 2) (d 3) (d 4) (d 5) (d 6) w)
          unfold cB at hc hd
          rw [hc] at CKc
          rw [hd] at CKd
          replace hc := Mr.hid hc
          replace hd := Mr.hid hd
          replace fc := Mr.hid fc
          replace hup := Mr.hid hup
          clear hk
          replace LAc := Mr.hid LAc
          replace RAc := Mr.hid RAc
          replace SAc := Mr.hid SAc
          replace WAc := Mr.hid WAc
          replace LAd := Mr.hid LAd
          replace RAd := Mr.hid RAd
          replace SAd := Mr.hid SAd
          replace WAd := Mr.hid WAd
          generalize bL c = vLc at *
          generalize bR c = vRc at *
          generalize bSo c = vSc at *
          generalize bW c = vWc at *
          generalize bL d = vLd at *
          generalize bR d = vRd at *
          generalize bSo d = vSd at *
          generalize bW d = vWd at *
          have n1 : decide (vLd < vLc) = false := decide_eq_false (by omega)
          have n2 : decide (vLc < c 3) = false := decide_eq_false (by omega)
          have n3 : decide (vLc ≤ c 1 * c 2) = false := decide_eq_false (by omega)
          have n4 : decide (vRd < vRc) = false := decide_eq_false (by omega)
          have n5 : decide (vSd < vSc) = false := decide_eq_false (by omega)
          have n6 : decide (vWc ≤ vWd) = true := decide_eq_true (by omega)
          have n7 : IntKind.i64.wrap (c 1 * c 2) = c 1 * c 2 := by simp [IntKind.wrap, IntKind.signed, IntKind.bits]; omega
          replace eL := Mr.hid eL
          replace eR := Mr.hid eR
          replace eS := Mr.hid eS
          replace eW := Mr.hid eW
          replace o1 := Mr.hid o1
          replace o2 := Mr.hid o2
          go_wp2_with (first | (go_at_call 10; refine (CKc.out _).mono ?_; clear CKc; rintro e w1 ⟨rfl, hB1⟩; clear k0 k1 k2 k3 k4 k5 k6 kl q0 q1 q2 q3 q4 q5 q6 ql; replace G := Mr.hid (G.out.below hB1); clear hB1; obtain ⟨k0, k1, k2, k3, k4, k5, k6, kl⟩ := cfO_cells G.out.one; obtain ⟨q0, q1, q2, q3, q4, q5, q6, ql⟩ := cfO_cells G.out.two) | (go_at_call 10; refine (CKd.out _).mono ?_; clear CKd; rintro e w1 ⟨rfl, hB1⟩; clear k0 k1 k2 k3 k4 k5 k6 kl q0 q1 q2 q3 q4 q5 q6 ql; replace G := Mr.hid (G.out.below hB1); clear hB1; obtain ⟨k0, k1, k2, k3, k4, k5, k6, kl⟩ := cfO_cells G.out.one; obtain ⟨q0, q1, q2, q3, q4, q5, q6, ql⟩ := cfO_cells G.out.two) | (go_at_call 11; refine (LAc.out _).mono ?_; clear LAc; rintro e w1 ⟨rfl, hB1⟩; clear k0 k1 k2 k3 k4 k5 k6 kl q0 q1 q2 q3 q4 q5 q6 ql; replace G := Mr.hid (G.out.below hB1); clear hB1; obtain ⟨k0, k1, k2, k3, k4, k5, k6, kl⟩ := cfO_cells G.out.one; obtain ⟨q0, q1, q2, q3, q4, q5, q6, ql⟩ := cfO_cells G.out.two) | (go_at_call 11; refine (LAd.out _).mono ?_; clear LAd; rintro e w1 ⟨rfl, hB1⟩; clear k0 k1 k2 k3 k4 k5 k6 kl q0 q1 q2 q3 q4 q5 q6 ql; replace G := Mr.hid (G.out.below hB1); clear hB1; obtain ⟨k0, k1, k2, k3, k4, k5, k6, kl⟩ := cfO_cells G.out.one; obtain ⟨q0, q1, q2, q3, q4, q5, q6, ql⟩ := cfO_cells G.out.two) | (go_at_call 12; refine (RAc.out _).mono ?_; clear RAc; rintro e w1 ⟨rfl, hB1⟩; clear k0 k1 k2 k3 k4 k5 k6 kl q0 q1 q2 q3 q4 q5 q6 ql; replace G := Mr.hid (G.out.below hB1); clear hB1; obtain ⟨k0, k1, k2, k3, k4, k5, k6, kl⟩ := cfO_cells G.out.one; obtain ⟨q0, q1, q2, q3, q4, q5, q6, ql⟩ := cfO_cells G.out.two) | (go_at_call 12; refine (RAd.out _).mono ?_; clear RAd; rintro e w1 ⟨rfl, hB1⟩; clear k0 k1 k2 k3 k4 k5 k6 kl q0 q1 q2 q3 q4 q5 q6 ql; replace G := Mr.hid (G.out.below hB1); clear hB1; obtain ⟨k0, k1, k2, k3, k4, k5, k6, kl⟩ := cfO_cells G.out.one; obtain ⟨q0, q1, q2, q3, q4, q5, q6, ql⟩ := cfO_cells G.out.two) | (go_at_call 13; refine (SAc.out _).mono ?_; clear SAc; rintro e w1 ⟨rfl, hB1⟩; clear k0 k1 k2 k3 k4 k5 k6 kl q0 q1 q2 q3 q4 q5 q6 ql; replace G := Mr.hid (G.out.below hB1); clear hB1; obtain ⟨k0, k1, k2, k3, k4, k5, k6, kl⟩ := cfO_cells G.out.one; obtain ⟨q0, q1, q2, q3, q4, q5, q6, ql⟩ := cfO_cells G.out.two) | (go_at_call 13; refine (SAd.out _).mono ?_; clear SAd; rintro e w1 ⟨rfl, hB1⟩; clear k0 k1 k2 k3 k4 k5 k6 kl q0 q1 q2 q3 q4 q5 q6 ql; replace G := Mr.hid (G.out.below hB1); clear hB1; obtain ⟨k0, k1, k2, k3, k4, k5, k6, kl⟩ := cfO_cells G.out.one; obtain ⟨q0, q1, q2, q3, q4, q5, q6, ql⟩ := cfO_cells G.out.two) | (go_at_call 14; refine (WAc.out _).mono ?_; clear WAc; rintro e w1 ⟨rfl, hB1⟩; clear k0 k1 k2 k3 k4 k5 k6 kl q0 q1 q2 q3 q4 q5 q6 ql; replace G := Mr.hid (G.out.below hB1); clear hB1; obtain ⟨k0, k1, k2, k3, k4, k5, k6, kl⟩ := cfO_cells G.out.one; obtain ⟨q0, q1, q2, q3, q4, q5, q6, ql⟩ := cfO_cells G.out.two) | (go_at_call 14; refine (WAd.out _).mono ?_; clear WAd; rintro e w1 ⟨rfl, hB1⟩; clear k0 k1 k2 k3 k4 k5 k6 kl q0 q1 q2 q3 q4 q5 q6 ql; replace G := Mr.hid (G.out.below hB1); clear hB1; obtain ⟨k0, k1, k2, k3, k4, k5, k6, kl⟩ := cfO_cells G.out.one; obtain ⟨q0, q1, q2, q3, q4, q5, q6, ql⟩ := cfO_cells G.out.two))
          go_ret
          exact ⟨rfl, G.out.bel⟩
theorem grows_law (a0 a1 a2 a3 a4 a5 a6 j : Int) (w : World) {P Q : Prop} (_h : P) (_h2 : Q) : Calls Tryz.prog 3 #[.agg #[.int .i64 a0, .int .i64 a1, .int .i64 a2, .int .i64 a3, .int .i64 a4, .int .i64 a5, .int .i64 a6], .int .i64 j] w fun r w' => r = .returned (.bool true) ∧ Below w.heap.size w w' := walk_grows (fun i => match i with | 0 => a0 | 1 => a1 | 2 => a2 | 3 => a3 | 4 => a4 | 5 => a5 | _ => a6) j w
end Go.Proofs.YtpknggcgojkjgaaGreat.Cn
