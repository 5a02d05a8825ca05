import Derived.Test.YtegbcocbopgghacJ11
import Derived.Test.YtegbcocbopgghacJ04
/-
  Package model: cmp.Compare, rising, byKey, May by their contracts.
-/
namespace Go.Proofs.Ytegbcocbopgghac.Md
open Go.RowKit Mr
set_option linter.unusedVariables false
set_option linter.unusedSimpArgs false
/-- What cmp.Compare tells. -/
def cmpI (x y : Int) : Int := if x < y then -1 else if y < x then 1 else 0
theorem cmpI_lt {x y : Int} (h : x < y) : cmpI x y = -1 := if_pos h
theorem cmpI_gt {x y : Int} (h : y < x) : cmpI x y = 1 := by unfold cmpI; rw [if_neg (by omega), if_pos h]
theorem cmpI_eq (x : Int) : cmpI x x = 0 := by unfold cmpI; rw [if_neg (by omega), if_neg (by omega)]
theorem cmpI_neg (x y : Int) : decide (cmpI x y < 0) = decide (x < y) := by
  rcases Int.lt_trichotomy x y with h | rfl | h
  · rw [cmpI_lt h]; simp [h]
  · rw [cmpI_eq]; simp
  · rw [cmpI_gt h]; simp; omega
theorem cmpI_pos (x y : Int) : decide (0 ≤ cmpI x y) = decide (y ≤ x) := by
  rcases Int.lt_trichotomy x y with h | rfl | h
  · rw [cmpI_lt h]; simp; omega
  · rw [cmpI_eq]; simp
  · rw [cmpI_gt h]; simp; omega
theorem cmpI_zero (x y : Int) : (cmpI x y == 0) = (x == y) := by
  rcases Int.lt_trichotomy x y with h | rfl | h
  · rw [cmpI_lt h]; simp; omega
  · rw [cmpI_eq]; simp
  · rw [cmpI_gt h]; simp; omega
set_option maxHeartbeats 1000000 in
theorem compare_any (x y : Int) (w : World) : Calls Try.prog 34 #[.int .i64 x, .int .i64 y] w fun e w' => e = .returned (.int .i64 (cmpI x y)) ∧ w' = w := by
  rcases Int.lt_trichotomy x y with h | rfl | h
  · rw [cmpI_lt h]
    go_enter Try.func34, Try.ntmps34
    go_wp2
    go_ret
    exact ⟨rfl, rfl⟩
  · rw [cmpI_eq]
    go_enter Try.func34, Try.ntmps34
    go_wp2
    go_ret
    exact ⟨rfl, rfl⟩
  · rw [cmpI_gt h]
    have h' : ¬ x < y := by omega
    go_enter Try.func34, Try.ntmps34
    go_wp2
    go_ret
    exact ⟨rfl, rfl⟩
set_option maxHeartbeats 1000000 in
theorem byKey_any (a1 a2 b1 b2 : Int) (w : World) : Calls Try.prog 36 #[.agg #[.int .i64 a1, .int .i64 a2], .agg #[.int .i64 b1, .int .i64 b2]] w fun e w' => e = .returned (.int .i64 (cmpI a1 b1)) ∧ Below w.heap.size w w' := by
  go_enter Try.func36, Try.ntmps36
  go_wp2_with (go_at_call 34; refine (compare_any _ _ _).mono ?_; rintro e w' ⟨rfl, rfl⟩)
  go_ret
  exact ⟨rfl, ((Below.refl _ _).alloc (Nat.le_refl _) _).alloc (by simp) _⟩
/-- The value of a function that is named. -/
theorem ris_iff {l : List Int} (b : Bool) (hb : b = true ↔ Ris l) {i : Nat} (hi : i + 1 < l.length) (h : ¬ l[i]?.getD 0 < l[i + 1]?.getD 0) : b = false := by
  cases hbb : b with
  | false => rfl
  | true => exact absurd (hb.1 hbb i hi) h
set_option maxRecDepth 100000 in
set_option maxHeartbeats 4000000 in
theorem risingI_any {w : World} {S : Nat → Prop} {u : Value} {l : List Int} (hu : Sl w S 1 u l.length (ints l)) (hsm : l.length * 8 ≤ 281474976710656) (b : Bool) (hb : b = true ↔ Ris l) :
    Calls Try.prog 33 #[u, .func (.func 34) #[] #[]] w fun e w' => e = .returned (.bool b) ∧ Below w.heap.size w w' := by
  obtain ⟨au, cu, rfl, hcu⟩ := hu.form
  obtain ⟨n, hn⟩ : ∃ n, n = l.length := ⟨_, rfl⟩
  rw [← hn] at hu hsm hcu ⊢
  replace hn := Mr.hid hn
  replace hu := Mr.hid hu
  replace hb := Mr.hid hb
  go_enter Try.func33, Try.ntmps33
  go_wp2
  go_loopg [5] n (fun k s wr => ∃ i : Nat, s = .int .i64 ((i : Int) + 1) ∧ i + k = n ∧ Below w.heap.size w wr ∧ ∀ j, j + 1 < i + 1 → l[j]?.getD 0 < l[j + 1]?.getD 0)
  case atStart => exact ⟨0, rfl, by omega, Below.refl _ _, fun j hj => by omega⟩
  case round =>
    obtain ⟨i, rfl, hi, B, ht⟩ := hrel
    by_cases hlt : i + 1 < n
    · obtain ⟨gu, ou, cu', hgu, _, _, hul, ru⟩ := (hu.out.below B).there (by omega)
      cases hgu
      have k1 := ru (i + 1) _ (ints_get l (i + 1) (by have := hn.out; omega))
      have k2 := ru i _ (ints_get l i (by have := hn.out; omega))
      have hli : ((i : Int) + 1) < (n : Int) := by omega
      have ewr : IntKind.i64.wrap ((i : Int) + 1 - 1) = (i : Int) := by rw [show (i : Int) + 1 - 1 = (i : Int) from by omega]; exact i64w _ (by omega) (by omega)
      have e1 : ((i : Int) + 1).toNat = i + 1 := by omega
      by_cases hq : l[i]?.getD 0 < l[i + 1]?.getD 0
      · have st := ris_step (l := l) (i := i + 1) ht (by omega) (by simpa using hq)
        generalize l[i]?.getD 0 = q1 at *
        generalize l[i + 1]?.getD 0 = q2 at *
        have C := fun w => compare_any q1 q2 w
        rw [cmpI_lt hq] at C
        clear ru ht hq
        replace st := Mr.hid st
        replace B := Mr.hid B
        replace C := Mr.hid C
        go_wp2
        go_quiet ((go_at_call 34; exact Calls.quiet_of_same (C.out _)))
        have hBq := Bx.draws w.heap.size wr nq
        have hB := B.out.trans hBq
        clear hBq k1 k2 hul B C
        generalize wr.drewN nq = W6 at *
        replace hB := Mr.hid hB
        go_wp2
        go_roundg (gk - 1)
        case measure => omega
        case rel => exact ⟨i + 1, by simp, by omega, hB.out, st.out⟩
      · have hbf := ris_iff b hb.out (i := i) (by have := hn.out; omega) hq
        subst hbf
        generalize l[i]?.getD 0 = q1 at *
        generalize l[i + 1]?.getD 0 = q2 at *
        have C := fun w => compare_any q1 q2 w
        have hq2 := cmpI_pos q1 q2
        rw [decide_eq_true (show q2 ≤ q1 by omega)] at hq2
        generalize cmpI q1 q2 = r at *
        have hq3 : 0 ≤ r := of_decide_eq_true hq2
        clear ru ht hq
        replace B := Mr.hid B
        replace C := Mr.hid C
        go_wp2
        go_quiet ((go_at_call 34; exact Calls.quiet_of_same (C.out _)))
        have hBq := Bx.draws w.heap.size wr nq
        have hB := B.out.trans hBq
        clear hBq k1 k2 hul B C
        generalize wr.drewN nq = W6 at *
        replace hB := Mr.hid hB
        go_wp2
        go_ret
        exact ⟨rfl, hB.out⟩
    · have hbt : b = true := hb.out.2 (fun j hj => ht j (by have := hn.out; omega))
      subst hbt
      have dl : decide (((i : Int) + 1) < (n : Int)) = false := decide_eq_false (by omega)
      clear ht
      replace B := Mr.hid B
      go_wp2
      go_ret
      exact ⟨rfl, B.out⟩
set_option maxRecDepth 100000 in
set_option maxHeartbeats 4000000 in
theorem risingP_any {w : World} {S : Nat → Prop} {u : Value} {t : List (Int × Int)} (hu : Sl w S 2 u t.length (prs t)) (hsm : t.length * 16 ≤ 281474976710656) (b : Bool) (hb : b = true ↔ Ris (t.map Prod.fst)) :
    Calls Try.prog 35 #[u, .func (.func 36) #[] #[]] w fun e w' => e = .returned (.bool b) ∧ Below w.heap.size w w' := by
  obtain ⟨au, cu, rfl, hcu⟩ := hu.form
  obtain ⟨n, hn⟩ : ∃ n, n = t.length := ⟨_, rfl⟩
  rw [← hn] at hu hsm hcu ⊢
  obtain ⟨l, hl⟩ : ∃ l, l = t.map Prod.fst := ⟨_, rfl⟩
  rw [← hl] at hb
  have hll : l.length = n := by rw [hl, List.length_map]; exact hn.symm
  have hkey : ∀ i : Nat, (l[i]?.getD 0 : Int) = (t[i]?.getD (0, 0)).1 := fun i => by rw [hl]; exact key_get t i
  clear hl
  replace hkey := Mr.hid hkey
  replace hll := Mr.hid hll
  replace hn := Mr.hid hn
  replace hu := Mr.hid hu
  replace hb := Mr.hid hb
  go_enter Try.func35, Try.ntmps35
  go_wp2
  go_loopg [5] n (fun k s wr => ∃ i : Nat, s = .int .i64 ((i : Int) + 1) ∧ i + k = n ∧ Below w.heap.size w wr ∧ ∀ j, j + 1 < i + 1 → l[j]?.getD 0 < l[j + 1]?.getD 0)
  case atStart => exact ⟨0, rfl, by omega, Below.refl _ _, fun j hj => by omega⟩
  case round =>
    obtain ⟨i, rfl, hi, B, ht⟩ := hrel
    by_cases hlt : i + 1 < n
    · obtain ⟨gu, ou, cu', hgu, _, _, hul, ru⟩ := (hu.out.below B).there (by omega)
      cases hgu
      have k1 := ru _ _ (prs_get t (i + 1) (by have := hn.out; omega)).1
      have k2 := ru _ _ (prs_get t i (by have := hn.out; omega)).1
      have k3 := ru _ _ (prs_get t (i + 1) (by have := hn.out; omega)).2
      have k4 := ru _ _ (prs_get t i (by have := hn.out; omega)).2
      rw [← hkey.out] at k1 k2
      rw [← Nat.add_assoc] at k3 k4
      generalize (t[i + 1]?.getD (0, 0)).2 = r2 at *
      generalize (t[i]?.getD (0, 0)).2 = r1 at *
      have hli : ((i : Int) + 1) < (n : Int) := by omega
      have ewr : IntKind.i64.wrap ((i : Int) + 1 - 1) = (i : Int) := by rw [show (i : Int) + 1 - 1 = (i : Int) from by omega]; exact i64w _ (by omega) (by omega)
      have e1 : ((i : Int) + 1).toNat = i + 1 := by omega
      have ew2 : IntKind.i64.wrap (i : Int) = (i : Int) := i64w _ (by omega) (by omega)
      have q0 : (0 : Int) ≤ (i : Int) := by omega
      have q3 : (i : Int) < (n : Int) := by omega
      have q4 : (0 : Int) ≤ (i : Int) + 1 := by omega
      by_cases hq : l[i]?.getD 0 < l[i + 1]?.getD 0
      · have st := ris_step (l := l) (i := i + 1) ht (by omega) (by simpa using hq)
        generalize l[i]?.getD 0 = q1 at *
        generalize l[i + 1]?.getD 0 = q2 at *
        have C := fun w => byKey_any q1 r1 q2 r2 w
        rw [cmpI_lt hq] at C
        clear ru ht hq
        replace st := Mr.hid st
        replace B := Mr.hid B
        replace C := Mr.hid C
        go_wp2
        have KK : Hid (∀ w', Below wr.heap.size wr w' → w'.cell? ⟨gu, ou + (i + 1) * 2, none⟩ = some (.int .i64 q2) ∧ w'.cell? ⟨gu, ou + i * 2, none⟩ = some (.int .i64 q1) ∧ w'.cell? ⟨gu, ou + (i + 1) * 2 + 1, none⟩ = some (.int .i64 r2) ∧ w'.cell? ⟨gu, ou + i * 2 + 1, none⟩ = some (.int .i64 r1)) := fun w' hB => ⟨(hB.cell (p := ⟨gu, _, none⟩) hul).trans k1, (hB.cell (p := ⟨gu, _, none⟩) hul).trans k2, (hB.cell (p := ⟨gu, _, none⟩) hul).trans k3, (hB.cell (p := ⟨gu, _, none⟩) hul).trans k4⟩
        go_region_held3 (fun w' => w'.cell? ⟨gu, ou + (i + 1) * 2, none⟩ = some (.int .i64 q2) ∧ w'.cell? ⟨gu, ou + i * 2, none⟩ = some (.int .i64 q1) ∧ w'.cell? ⟨gu, ou + (i + 1) * 2 + 1, none⟩ = some (.int .i64 r2) ∧ w'.cell? ⟨gu, ou + i * 2 + 1, none⟩ = some (.int .i64 r1)) (first | exact KK.out _ (by assumption) | go_keep) (first | (go_at_call 36; refine (C.out _).mono ?_; rintro e w6 ⟨rfl, hB6⟩; replace hB6 : Below wr.heap.size wr w6 := ⟨hB6.os, hB6.tape, hB6.output, hB6.size, hB6.block⟩))
        have hB := B.out.trans (hB6.mono B.out.size)
        clear k1 k2 k3 k4 hul B C KK hB6
        replace hB := Mr.hid hB
        go_wp2
        go_roundg (gk - 1)
        case measure => omega
        case rel => exact ⟨i + 1, by simp, by omega, hB.out, st.out⟩
      · have hbf := ris_iff b hb.out (i := i) (by have := hll.out; omega) hq
        subst hbf
        generalize l[i]?.getD 0 = q1 at *
        generalize l[i + 1]?.getD 0 = q2 at *
        have C := fun w => byKey_any q1 r1 q2 r2 w
        have hq2 := cmpI_pos q1 q2
        rw [decide_eq_true (show q2 ≤ q1 by omega)] at hq2
        generalize cmpI q1 q2 = r at *
        have hq3 : 0 ≤ r := of_decide_eq_true hq2
        clear ru ht hq
        replace B := Mr.hid B
        replace C := Mr.hid C
        go_wp2
        have KK : Hid (∀ w', Below wr.heap.size wr w' → w'.cell? ⟨gu, ou + (i + 1) * 2, none⟩ = some (.int .i64 q2) ∧ w'.cell? ⟨gu, ou + i * 2, none⟩ = some (.int .i64 q1) ∧ w'.cell? ⟨gu, ou + (i + 1) * 2 + 1, none⟩ = some (.int .i64 r2) ∧ w'.cell? ⟨gu, ou + i * 2 + 1, none⟩ = some (.int .i64 r1)) := fun w' hB => ⟨(hB.cell (p := ⟨gu, _, none⟩) hul).trans k1, (hB.cell (p := ⟨gu, _, none⟩) hul).trans k2, (hB.cell (p := ⟨gu, _, none⟩) hul).trans k3, (hB.cell (p := ⟨gu, _, none⟩) hul).trans k4⟩
        go_region_held3 (fun w' => w'.cell? ⟨gu, ou + (i + 1) * 2, none⟩ = some (.int .i64 q2) ∧ w'.cell? ⟨gu, ou + i * 2, none⟩ = some (.int .i64 q1) ∧ w'.cell? ⟨gu, ou + (i + 1) * 2 + 1, none⟩ = some (.int .i64 r2) ∧ w'.cell? ⟨gu, ou + i * 2 + 1, none⟩ = some (.int .i64 r1)) (first | exact KK.out _ (by assumption) | go_keep) (first | (go_at_call 36; refine (C.out _).mono ?_; rintro e w6 ⟨rfl, hB6⟩; replace hB6 : Below wr.heap.size wr w6 := ⟨hB6.os, hB6.tape, hB6.output, hB6.size, hB6.block⟩))
        have hB := B.out.trans (hB6.mono B.out.size)
        clear k1 k2 k3 k4 hul B C KK hB6
        replace hB := Mr.hid hB
        go_wp2
        go_ret
        exact ⟨rfl, hB.out⟩
    · have hbt : b = true := hb.out.2 (fun j hj => ht j (by have := hll.out; omega))
      subst hbt
      have dl : decide (((i : Int) + 1) < (n : Int)) = false := decide_eq_false (by omega)
      clear ht
      replace B := Mr.hid B
      go_wp2
      go_ret
      exact ⟨rfl, B.out⟩
set_option maxRecDepth 100000 in
set_option maxHeartbeats 8000000 in
theorem mMay_any {W : World} {S : Nat → Prop} {u0 u1 u2 u3 u4 : Value} {x : Ct} (hu : CtAt W S u0 u1 u2 u3 u4 x) (hsx : CtSm x) (b : Bool) (hb : b = true ↔ May x) :
    Calls Try.prog 21 #[.agg #[u0, u1, u2, u3, u4]] W fun e w' => e = .returned (.bool b) ∧ Below W.heap.size W w' := by
  obtain ⟨a0, c0, rfl, _⟩ := hu.cell.form
  obtain ⟨a1, c1, rfl, _⟩ := hu.stack.form
  obtain ⟨a2, c2, rfl, _⟩ := hu.queue.form
  obtain ⟨a3, c3, rfl, _⟩ := hu.set.form
  obtain ⟨a4, c4, rfl, _⟩ := hu.table.form
  have BX := fun w' (hB : Below (W.heap.size + 1) (W.alloc (ctO (.slice a0 x.cell.length c0) (.slice a1 x.stack.length c1) (.slice a2 x.queue.length c2) (.slice a3 x.set.length c3) (.slice a4 x.table.length c4))) w') => ctO_cells ((hB.block _ (by omega)).trans (new_at W _ _ rfl))
  have TW := fun w' (hB : Below (W.heap.size + 1) (W.alloc (ctO (.slice a0 x.cell.length c0) (.slice a1 x.stack.length c1) (.slice a2 x.queue.length c2) (.slice a3 x.set.length c3) (.slice a4 x.table.length c4))) w') => (((Below.refl W.heap.size W).alloc (Nat.le_refl _) _).trans (hB.mono (by omega)) : Below W.heap.size W w')
  have hB0 := Below.refl (W.heap.size + 1) (W.alloc (ctO (.slice a0 x.cell.length c0) (.slice a1 x.stack.length c1) (.slice a2 x.queue.length c2) (.slice a3 x.set.length c3) (.slice a4 x.table.length c4)))
  obtain ⟨y0, y1, y2, y3, y4, y5⟩ := BX _ hB0
  obtain ⟨b3, hb3⟩ : ∃ b3 : Bool, b3 = true ↔ Ris x.set := by
    by_cases h : Ris x.set
    · exact ⟨true, by simp [h]⟩
    · exact ⟨false, by simp [h]⟩
  obtain ⟨b4, hb4⟩ : ∃ b4 : Bool, b4 = true ↔ Ris (x.table.map Prod.fst) := by
    by_cases h : Ris (x.table.map Prod.fst)
    · exact ⟨true, by simp [h]⟩
    · exact ⟨false, by simp [h]⟩
  have C3 := fun w' (hB : Below W.heap.size W w') => risingI_any (hu.below hB).set hsx.set b3 hb3
  have C4 := fun w' (hB : Below W.heap.size W w') => risingP_any (hu.below hB).table hsx.table b4 hb4
  have hb' : b = (decide (x.cell.length ≤ 1) && b3 && b4) := by
    rw [Bool.eq_iff_iff, hb]
    unfold May
    rw [← hb3, ← hb4]
    simp [and_assoc]
  subst hb'
  clear hb hb3 hb4 hu
  generalize x.cell.length = n0 at *
  generalize x.stack.length = n1 at *
  generalize x.queue.length = n2 at *
  generalize x.set.length = n3 at *
  generalize x.table.length = n4 at *
  unfold ctO at y0 y1 y2 y3 y4 BX TW hB0
  replace BX := Mr.hid BX
  replace TW := Mr.hid TW
  replace C3 := Mr.hid C3
  replace C4 := Mr.hid C4
  replace hB0 := Mr.hid hB0
  clear hsx
  by_cases h0 : n0 ≤ 1
  · have d0 : decide ((n0 : Int) ≤ 1) = true := decide_eq_true (by omega)
    have d1 : decide (n0 ≤ 1) = true := decide_eq_true h0
    rw [d1]
    cases b3 with
    | false =>
      go_enter Try.func21, Try.ntmps21
      go_wp2_with (first | (go_at_call 33; refine (C3.out _ (TW.out _ hB0.out)).mono ?_; rintro e w1 ⟨rfl, hB1⟩; replace hB1 := Mr.hid (hB0.out.trans (hB1.mono (by simp))); clear y0 y1 y2 y3 y4 y5; obtain ⟨y0, y1, y2, y3, y4, y5⟩ := BX.out _ hB1.out) | (go_at_call 35; refine (C4.out _ (TW.out _ hB1.out)).mono ?_; rintro e w2 ⟨rfl, hB2⟩; replace hB2 := Mr.hid (hB1.out.trans (hB2.mono (by omega)))))
      go_ret
      exact ⟨rfl, TW.out _ hB1.out⟩
    | true =>
      go_enter Try.func21, Try.ntmps21
      go_wp2_with (first | (go_at_call 33; refine (C3.out _ (TW.out _ hB0.out)).mono ?_; rintro e w1 ⟨rfl, hB1⟩; replace hB1 := Mr.hid (hB0.out.trans (hB1.mono (by simp))); clear y0 y1 y2 y3 y4 y5; obtain ⟨y0, y1, y2, y3, y4, y5⟩ := BX.out _ hB1.out) | (go_at_call 35; refine (C4.out _ (TW.out _ hB1.out)).mono ?_; rintro e w2 ⟨rfl, hB2⟩; replace hB2 := Mr.hid (hB1.out.trans (hB2.mono (by omega)))))
      go_ret
      exact ⟨by simp, TW.out _ hB2.out⟩
  · have d0 : decide ((n0 : Int) ≤ 1) = false := decide_eq_false (by omega)
    have d1 : decide (n0 ≤ 1) = false := decide_eq_false h0
    rw [d1]
    go_enter Try.func21, Try.ntmps21
    go_wp2
    go_ret
    exact ⟨rfl, TW.out _ hB0.out⟩
end Go.Proofs.Ytegbcocbopgghac.Md
/-
  Package model: Object, puts.
-/
namespace Go.Proofs.Ytegbcocbopgghac.Md
open Go.RowKit Mr
set_option linter.unusedVariables false
set_option linter.unusedSimpArgs false
set_option maxHeartbeats 4000000 in
theorem mObj (op : Int) (w : World) : Calls Try.prog 22 #[.int .i64 op] w fun e w' => e = .returned (.int .i64 (obj op)) ∧ w' = w := by
  by_cases h : op = 22 ∨ op = 23 ∨ op = 30 ∨ op = 31 ∨ op = 40 ∨ op = 41 ∨ op = 50 ∨ op = 51 ∨ op = 52 ∨ op = 60 ∨ op = 61 ∨ op = 62
  · rcases h with rfl | rfl | rfl | rfl | rfl | rfl | rfl | rfl | rfl | rfl | rfl | rfl
    all_goals
      go_enter Try.func22, Try.ntmps22
      go_wp2
      go_ret
      exact ⟨rfl, rfl⟩
  · have e : obj op = 0 := by
      unfold obj
      rw [if_neg (by omega), if_neg (by omega), if_neg (by omega), if_neg (by omega), if_neg (by omega)]
    rw [e]
    have d : ∀ k : Int, (k = 22 ∨ k = 23 ∨ k = 30 ∨ k = 31 ∨ k = 40 ∨ k = 41 ∨ k = 50 ∨ k = 51 ∨ k = 52 ∨ k = 60 ∨ k = 61 ∨ k = 62) → (op == k) = false := fun k hk => by
      rw [beq_eq_false_iff_ne]; rintro rfl; exact h hk
    have d0 := d 22 (by simp)
    have d1 := d 23 (by simp)
    have d2 := d 30 (by simp)
    have d3 := d 31 (by simp)
    have d4 := d 40 (by simp)
    have d5 := d 41 (by simp)
    have d6 := d 50 (by simp)
    have d7 := d 51 (by simp)
    have d8 := d 52 (by simp)
    have d9 := d 60 (by simp)
    have da := d 61 (by simp)
    have db := d 62 (by simp)
    clear d h e
    go_enter Try.func22, Try.ntmps22
    go_wp2
    go_ret
    exact ⟨rfl, rfl⟩
theorem mObject_any (op : Int) (W : World) : Calls Try.prog 22 #[.int .i64 op] W fun e w' => e = .returned (.int .i64 (obj op)) ∧ Below W.heap.size W w' :=
  (mObj op W).mono (by rintro e w' ⟨rfl, rfl⟩; exact ⟨rfl, Below.refl _ _⟩)
end Go.Proofs.Ytegbcocbopgghac.Md
