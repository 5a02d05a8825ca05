import Derived.Test.YtfgnaffomglmdaaGreatJ12
import Derived.Test.YtfgnaffomglmdaaGreatJ04
import Derived.Test.YtfgnaffomglmdaaGreatJ11
import Derived.Test.YtfgnaffomglmdaaGreatJ19
import Derived.Test.YtfgnaffomglmdaaGreatJ09
/-
  Package model: cmp.Compare, rising, byKey, May by their contracts.
-/
namespace Go.Proofs.YtfgnaffomglmdaaGreat.Md
open Go.RowKit Mr
set_option linter.unusedVariables false
set_option linter.unusedSimpArgs false
/-- What cmp.Compare tells. -/
def cmpI (x y : Int) : Int := if x < y then -1 else if y < x then 1 else 0
theorem cmpI_lt {x y : Int} (h : x < y) : cmpI x y = -1 := if_pos h
theorem cmpI_gt {x y : Int} (h : y < x) : cmpI x y = 1 := by unfold cmpI; rw [if_neg (by omega), if_pos h]
theorem cmpI_eq (x : Int) : cmpI x x = 0 := by unfold cmpI; rw [if_neg (by omega), if_neg (by omega)]
theorem cmpI_neg (x y : Int) : decide (cmpI x y < 0) = decide (x < y) := by
  rcases Int.lt_trichotomy x y with h | rfl | h
  · rw [cmpI_lt h]; simp [h]
  · rw [cmpI_eq]; simp
  · rw [cmpI_gt h]; simp; omega
theorem cmpI_pos (x y : Int) : decide (0 ≤ cmpI x y) = decide (y ≤ x) := by
  rcases Int.lt_trichotomy x y with h | rfl | h
  · rw [cmpI_lt h]; simp; omega
  · rw [cmpI_eq]; simp
  · rw [cmpI_gt h]; simp; omega
theorem cmpI_zero (x y : Int) : (cmpI x y == 0) = (x == y) := by
  rcases Int.lt_trichotomy x y with h | rfl | h
  · rw [cmpI_lt h]; simp; omega
  · rw [cmpI_eq]; simp
  · rw [cmpI_gt h]; simp; omega
set_option maxHeartbeats 1000000 in
theorem compare_any (x y : Int) (w : World) : Calls Tryz.prog 63 #[.int .i64 x, .int .i64 y] w fun e w' => e = .returned (.int .i64 (cmpI x y)) ∧ w' = w := by
  rcases Int.lt_trichotomy x y with h | rfl | h
  · rw [cmpI_lt h]
    go_enter Tryz.func63, Tryz.ntmps63
    go_wp2
    go_ret
    exact ⟨rfl, rfl⟩
  · rw [cmpI_eq]
    go_enter Tryz.func63, Tryz.ntmps63
    go_wp2
    go_ret
    exact ⟨rfl, rfl⟩
  · rw [cmpI_gt h]
    have h' : ¬ x < y := by omega
    go_enter Tryz.func63, Tryz.ntmps63
    go_wp2
    go_ret
    exact ⟨rfl, rfl⟩
set_option maxHeartbeats 1000000 in
theorem byKey_any (a1 a2 b1 b2 : Int) (w : World) : Calls Tryz.prog 65 #[.agg #[.int .i64 a1, .int .i64 a2], .agg #[.int .i64 b1, .int .i64 b2]] w fun e w' => e = .returned (.int .i64 (cmpI a1 b1)) ∧ Below w.heap.size w w' := by
  go_enter Tryz.func65, Tryz.ntmps65
  go_wp2_with (go_at_call 63; refine (compare_any _ _ _).mono ?_; rintro e w' ⟨rfl, rfl⟩)
  go_ret
  exact ⟨rfl, ((Below.refl _ _).alloc (Nat.le_refl _) _).alloc (by simp) _⟩
/-- The value of a function that is named. -/
theorem ris_iff {l : List Int} (b : Bool) (hb : b = true ↔ Ris l) {i : Nat} (hi : i + 1 < l.length) (h : ¬ l[i]?.getD 0 < l[i + 1]?.getD 0) : b = false := by
  cases hbb : b with
  | false => rfl
  | true => exact absurd (hb.1 hbb i hi) h
set_option maxRecDepth 100000 in
set_option maxHeartbeats 4000000 in
theorem risingI_any {w : World} {S : Nat → Prop} {u : Value} {l : List Int} (hu : Sl w S 1 u l.length (ints l)) (hsm : l.length * 8 ≤ 281474976710656) (b : Bool) (hb : b = true ↔ Ris l) :
    Calls Tryz.prog 62 #[u, .func (.func 63) #[] #[]] w fun e w' => e = .returned (.bool b) ∧ Below w.heap.size w w' := by
  obtain ⟨au, cu, rfl, hcu⟩ := hu.form
  obtain ⟨n, hn⟩ : ∃ n, n = l.length := ⟨_, rfl⟩
  rw [← hn] at hu hsm hcu ⊢
  replace hn := Mr.hid hn
  replace hu := Mr.hid hu
  replace hb := Mr.hid hb
  go_enter Tryz.func62, Tryz.ntmps62
  go_wp2
  go_loopg [5] n (fun k s wr => ∃ i : Nat, s = .int .i64 ((i : Int) + 1) ∧ i + k = n ∧ Below w.heap.size w wr ∧ ∀ j, j + 1 < i + 1 → l[j]?.getD 0 < l[j + 1]?.getD 0)
  case atStart => exact ⟨0, rfl, by omega, Below.refl _ _, fun j hj => by omega⟩
  case round =>
    obtain ⟨i, rfl, hi, B, ht⟩ := hrel
    by_cases hlt : i + 1 < n
    · obtain ⟨gu, ou, cu', hgu, _, _, hul, ru⟩ := (hu.out.below B).there (by omega)
      cases hgu
      have k1 := ru (i + 1) _ (ints_get l (i + 1) (by have := hn.out; omega))
      have k2 := ru i _ (ints_get l i (by have := hn.out; omega))
      have hli : ((i : Int) + 1) < (n : Int) := by omega
      have ewr : IntKind.i64.wrap ((i : Int) + 1 - 1) = (i : Int) := by rw [show (i : Int) + 1 - 1 = (i : Int) from by omega]; exact i64w _ (by omega) (by omega)
      have e1 : ((i : Int) + 1).toNat = i + 1 := by omega
      by_cases hq : l[i]?.getD 0 < l[i + 1]?.getD 0
      · have st := ris_step (l := l) (i := i + 1) ht (by omega) (by simpa using hq)
        generalize l[i]?.getD 0 = q1 at *
        generalize l[i + 1]?.getD 0 = q2 at *
        have C := fun w => compare_any q1 q2 w
        rw [cmpI_lt hq] at C
        clear ru ht hq
        replace st := Mr.hid st
        replace B := Mr.hid B
        replace C := Mr.hid C
        go_wp2
        go_quiet ((go_at_call 63; exact Calls.quiet_of_same (C.out _)))
        have hBq := Bx.draws w.heap.size wr nq
        have hB := B.out.trans hBq
        clear hBq k1 k2 hul B C
        generalize wr.drewN nq = W6 at *
        replace hB := Mr.hid hB
        go_wp2
        go_roundg (gk - 1)
        case measure => omega
        case rel => exact ⟨i + 1, by simp, by omega, hB.out, st.out⟩
      · have hbf := ris_iff b hb.out (i := i) (by have := hn.out; omega) hq
        subst hbf
        generalize l[i]?.getD 0 = q1 at *
        generalize l[i + 1]?.getD 0 = q2 at *
        have C := fun w => compare_any q1 q2 w
        have hq2 := cmpI_pos q1 q2
        rw [decide_eq_true (show q2 ≤ q1 by omega)] at hq2
        generalize cmpI q1 q2 = r at *
        have hq3 : 0 ≤ r := of_decide_eq_true hq2
        clear ru ht hq
        replace B := Mr.hid B
        replace C := Mr.hid C
        go_wp2
        go_quiet ((go_at_call 63; exact Calls.quiet_of_same (C.out _)))
        have hBq := Bx.draws w.heap.size wr nq
        have hB := B.out.trans hBq
        clear hBq k1 k2 hul B C
        generalize wr.drewN nq = W6 at *
        replace hB := Mr.hid hB
        go_wp2
        go_ret
        exact ⟨rfl, hB.out⟩
    · have hbt : b = true := hb.out.2 (fun j hj => ht j (by have := hn.out; omega))
      subst hbt
      have dl : decide (((i : Int) + 1) < (n : Int)) = false := decide_eq_false (by omega)
      clear ht
      replace B := Mr.hid B
      go_wp2
      go_ret
      exact ⟨rfl, B.out⟩
set_option maxRecDepth 100000 in
set_option maxHeartbeats 4000000 in
theorem risingP_any {w : World} {S : Nat → Prop} {u : Value} {t : List (Int × Int)} (hu : Sl w S 2 u t.length (prs t)) (hsm : t.length * 16 ≤ 281474976710656) (b : Bool) (hb : b = true ↔ Ris (t.map Prod.fst)) :
    Calls Tryz.prog 64 #[u, .func (.func 65) #[] #[]] w fun e w' => e = .returned (.bool b) ∧ Below w.heap.size w w' := by
  obtain ⟨au, cu, rfl, hcu⟩ := hu.form
  obtain ⟨n, hn⟩ : ∃ n, n = t.length := ⟨_, rfl⟩
  rw [← hn] at hu hsm hcu ⊢
  obtain ⟨l, hl⟩ : ∃ l, l = t.map Prod.fst := ⟨_, rfl⟩
  rw [← hl] at hb
  have hll : l.length = n := by rw [hl, List.length_map]; exact hn.symm
  have hkey : ∀ i : Nat, (l[i]?.getD 0 : Int) = (t[i]?.getD (0, 0)).1 := fun i => by rw [hl]; exact key_get t i
  clear hl
  replace hkey := Mr.hid hkey
  replace hll := Mr.hid hll
  replace hn := Mr.hid hn
  replace hu := Mr.hid hu
  replace hb := Mr.hid hb
  go_enter Tryz.func64, Tryz.ntmps64
  go_wp2
  go_loopg [5] n (fun k s wr => ∃ i : Nat, s = .int .i64 ((i : Int) + 1) ∧ i + k = n ∧ Below w.heap.size w wr ∧ ∀ j, j + 1 < i + 1 → l[j]?.getD 0 < l[j + 1]?.getD 0)
  case atStart => exact ⟨0, rfl, by omega, Below.refl _ _, fun j hj => by omega⟩
  case round =>
    obtain ⟨i, rfl, hi, B, ht⟩ := hrel
    by_cases hlt : i + 1 < n
    · obtain ⟨gu, ou, cu', hgu, _, _, hul, ru⟩ := (hu.out.below B).there (by omega)
      cases hgu
      have k1 := ru _ _ (prs_get t (i + 1) (by have := hn.out; omega)).1
      have k2 := ru _ _ (prs_get t i (by have := hn.out; omega)).1
      have k3 := ru _ _ (prs_get t (i + 1) (by have := hn.out; omega)).2
      have k4 := ru _ _ (prs_get t i (by have := hn.out; omega)).2
      rw [← hkey.out] at k1 k2
      rw [← Nat.add_assoc] at k3 k4
      generalize (t[i + 1]?.getD (0, 0)).2 = r2 at *
      generalize (t[i]?.getD (0, 0)).2 = r1 at *
      have hli : ((i : Int) + 1) < (n : Int) := by omega
      have ewr : IntKind.i64.wrap ((i : Int) + 1 - 1) = (i : Int) := by rw [show (i : Int) + 1 - 1 = (i : Int) from by omega]; exact i64w _ (by omega) (by omega)
      have e1 : ((i : Int) + 1).toNat = i + 1 := by omega
      have ew2 : IntKind.i64.wrap (i : Int) = (i : Int) := i64w _ (by omega) (by omega)
      have q0 : (0 : Int) ≤ (i : Int) := by omega
      have q3 : (i : Int) < (n : Int) := by omega
      have q4 : (0 : Int) ≤ (i : Int) + 1 := by omega
      by_cases hq : l[i]?.getD 0 < l[i + 1]?.getD 0
      · have st := ris_step (l := l) (i := i + 1) ht (by omega) (by simpa using hq)
        generalize l[i]?.getD 0 = q1 at *
        generalize l[i + 1]?.getD 0 = q2 at *
        have C := fun w => byKey_any q1 r1 q2 r2 w
        rw [cmpI_lt hq] at C
        clear ru ht hq
        replace st := Mr.hid st
        replace B := Mr.hid B
        replace C := Mr.hid C
        go_wp2
        have KK : Hid (∀ w', Below wr.heap.size wr w' → w'.cell? ⟨gu, ou + (i + 1) * 2, none⟩ = some (.int .i64 q2) ∧ w'.cell? ⟨gu, ou + i * 2, none⟩ = some (.int .i64 q1) ∧ w'.cell? ⟨gu, ou + (i + 1) * 2 + 1, none⟩ = some (.int .i64 r2) ∧ w'.cell? ⟨gu, ou + i * 2 + 1, none⟩ = some (.int .i64 r1)) := fun w' hB => ⟨(hB.cell (p := ⟨gu, _, none⟩) hul).trans k1, (hB.cell (p := ⟨gu, _, none⟩) hul).trans k2, (hB.cell (p := ⟨gu, _, none⟩) hul).trans k3, (hB.cell (p := ⟨gu, _, none⟩) hul).trans k4⟩
        go_region_held3 (fun w' => w'.cell? ⟨gu, ou + (i + 1) * 2, none⟩ = some (.int .i64 q2) ∧ w'.cell? ⟨gu, ou + i * 2, none⟩ = some (.int .i64 q1) ∧ w'.cell? ⟨gu, ou + (i + 1) * 2 + 1, none⟩ = some (.int .i64 r2) ∧ w'.cell? ⟨gu, ou + i * 2 + 1, none⟩ = some (.int .i64 r1)) (first | exact KK.out _ (by assumption) | go_keep) (first | (go_at_call 65; refine (C.out _).mono ?_; rintro e w6 ⟨rfl, hB6⟩; replace hB6 : Below wr.heap.size wr w6 := ⟨hB6.os, hB6.tape, hB6.output, hB6.size, hB6.block⟩))
        have hB := B.out.trans (hB6.mono B.out.size)
        clear k1 k2 k3 k4 hul B C KK hB6
        replace hB := Mr.hid hB
        go_wp2
        go_roundg (gk - 1)
        case measure => omega
        case rel => exact ⟨i + 1, by simp, by omega, hB.out, st.out⟩
      · have hbf := ris_iff b hb.out (i := i) (by have := hll.out; omega) hq
        subst hbf
        generalize l[i]?.getD 0 = q1 at *
        generalize l[i + 1]?.getD 0 = q2 at *
        have C := fun w => byKey_any q1 r1 q2 r2 w
        have hq2 := cmpI_pos q1 q2
        rw [decide_eq_true (show q2 ≤ q1 by omega)] at hq2
        generalize cmpI q1 q2 = r at *
        have hq3 : 0 ≤ r := of_decide_eq_true hq2
        clear ru ht hq
        replace B := Mr.hid B
        replace C := Mr.hid C
        go_wp2
        have KK : Hid (∀ w', Below wr.heap.size wr w' → w'.cell? ⟨gu, ou + (i + 1) * 2, none⟩ = some (.int .i64 q2) ∧ w'.cell? ⟨gu, ou + i * 2, none⟩ = some (.int .i64 q1) ∧ w'.cell? ⟨gu, ou + (i + 1) * 2 + 1, none⟩ = some (.int .i64 r2) ∧ w'.cell? ⟨gu, ou + i * 2 + 1, none⟩ = some (.int .i64 r1)) := fun w' hB => ⟨(hB.cell (p := ⟨gu, _, none⟩) hul).trans k1, (hB.cell (p := ⟨gu, _, none⟩) hul).trans k2, (hB.cell (p := ⟨gu, _, none⟩) hul).trans k3, (hB.cell (p := ⟨gu, _, none⟩) hul).trans k4⟩
        go_region_held3 (fun w' => w'.cell? ⟨gu, ou + (i + 1) * 2, none⟩ = some (.int .i64 q2) ∧ w'.cell? ⟨gu, ou + i * 2, none⟩ = some (.int .i64 q1) ∧ w'.cell? ⟨gu, ou + (i + 1) * 2 + 1, none⟩ = some (.int .i64 r2) ∧ w'.cell? ⟨gu, ou + i * 2 + 1, none⟩ = some (.int .i64 r1)) (first | exact KK.out _ (by assumption) | go_keep) (first | (go_at_call 65; refine (C.out _).mono ?_; rintro e w6 ⟨rfl, hB6⟩; replace hB6 : Below wr.heap.size wr w6 := ⟨hB6.os, hB6.tape, hB6.output, hB6.size, hB6.block⟩))
        have hB := B.out.trans (hB6.mono B.out.size)
        clear k1 k2 k3 k4 hul B C KK hB6
        replace hB := Mr.hid hB
        go_wp2
        go_ret
        exact ⟨rfl, hB.out⟩
    · have hbt : b = true := hb.out.2 (fun j hj => ht j (by have := hll.out; omega))
      subst hbt
      have dl : decide (((i : Int) + 1) < (n : Int)) = false := decide_eq_false (by omega)
      clear ht
      replace B := Mr.hid B
      go_wp2
      go_ret
      exact ⟨rfl, B.out⟩
set_option maxRecDepth 100000 in
set_option maxHeartbeats 8000000 in
theorem mMay_any {W : World} {S : Nat → Prop} {u0 u1 u2 u3 u4 : Value} {x : Ct} (hu : CtAt W S u0 u1 u2 u3 u4 x) (hsx : CtSm x) (b : Bool) (hb : b = true ↔ May x) :
    Calls Tryz.prog 48 #[.agg #[u0, u1, u2, u3, u4]] W fun e w' => e = .returned (.bool b) ∧ Below W.heap.size W w' := by
  obtain ⟨a0, c0, rfl, _⟩ := hu.cell.form
  obtain ⟨a1, c1, rfl, _⟩ := hu.stack.form
  obtain ⟨a2, c2, rfl, _⟩ := hu.queue.form
  obtain ⟨a3, c3, rfl, _⟩ := hu.set.form
  obtain ⟨a4, c4, rfl, _⟩ := hu.table.form
  have BX := fun w' (hB : Below (W.heap.size + 1) (W.alloc (ctO (.slice a0 x.cell.length c0) (.slice a1 x.stack.length c1) (.slice a2 x.queue.length c2) (.slice a3 x.set.length c3) (.slice a4 x.table.length c4))) w') => ctO_cells ((hB.block _ (by omega)).trans (new_at W _ _ rfl))
  have TW := fun w' (hB : Below (W.heap.size + 1) (W.alloc (ctO (.slice a0 x.cell.length c0) (.slice a1 x.stack.length c1) (.slice a2 x.queue.length c2) (.slice a3 x.set.length c3) (.slice a4 x.table.length c4))) w') => (((Below.refl W.heap.size W).alloc (Nat.le_refl _) _).trans (hB.mono (by omega)) : Below W.heap.size W w')
  have hB0 := Below.refl (W.heap.size + 1) (W.alloc (ctO (.slice a0 x.cell.length c0) (.slice a1 x.stack.length c1) (.slice a2 x.queue.length c2) (.slice a3 x.set.length c3) (.slice a4 x.table.length c4)))
  obtain ⟨y0, y1, y2, y3, y4, y5⟩ := BX _ hB0
  obtain ⟨b3, hb3⟩ : ∃ b3 : Bool, b3 = true ↔ Ris x.set := by
    by_cases h : Ris x.set
    · exact ⟨true, by simp [h]⟩
    · exact ⟨false, by simp [h]⟩
  obtain ⟨b4, hb4⟩ : ∃ b4 : Bool, b4 = true ↔ Ris (x.table.map Prod.fst) := by
    by_cases h : Ris (x.table.map Prod.fst)
    · exact ⟨true, by simp [h]⟩
    · exact ⟨false, by simp [h]⟩
  have C3 := fun w' (hB : Below W.heap.size W w') => risingI_any (hu.below hB).set hsx.set b3 hb3
  have C4 := fun w' (hB : Below W.heap.size W w') => risingP_any (hu.below hB).table hsx.table b4 hb4
  have hb' : b = (decide (x.cell.length ≤ 1) && b3 && b4) := by
    rw [Bool.eq_iff_iff, hb]
    unfold May
    rw [← hb3, ← hb4]
    simp [and_assoc]
  subst hb'
  clear hb hb3 hb4 hu
  generalize x.cell.length = n0 at *
  generalize x.stack.length = n1 at *
  generalize x.queue.length = n2 at *
  generalize x.set.length = n3 at *
  generalize x.table.length = n4 at *
  unfold ctO at y0 y1 y2 y3 y4 BX TW hB0
  replace BX := Mr.hid BX
  replace TW := Mr.hid TW
  replace C3 := Mr.hid C3
  replace C4 := Mr.hid C4
  replace hB0 := Mr.hid hB0
  clear hsx
  by_cases h0 : n0 ≤ 1
  · have d0 : decide ((n0 : Int) ≤ 1) = true := decide_eq_true (by omega)
    have d1 : decide (n0 ≤ 1) = true := decide_eq_true h0
    rw [d1]
    cases b3 with
    | false =>
      go_enter Tryz.func48, Tryz.ntmps48
      go_wp2_with (first | (go_at_call 62; refine (C3.out _ (TW.out _ hB0.out)).mono ?_; rintro e w1 ⟨rfl, hB1⟩; replace hB1 := Mr.hid (hB0.out.trans (hB1.mono (by simp))); clear y0 y1 y2 y3 y4 y5; obtain ⟨y0, y1, y2, y3, y4, y5⟩ := BX.out _ hB1.out) | (go_at_call 64; refine (C4.out _ (TW.out _ hB1.out)).mono ?_; rintro e w2 ⟨rfl, hB2⟩; replace hB2 := Mr.hid (hB1.out.trans (hB2.mono (by omega)))))
      go_ret
      exact ⟨rfl, TW.out _ hB1.out⟩
    | true =>
      go_enter Tryz.func48, Tryz.ntmps48
      go_wp2_with (first | (go_at_call 62; refine (C3.out _ (TW.out _ hB0.out)).mono ?_; rintro e w1 ⟨rfl, hB1⟩; replace hB1 := Mr.hid (hB0.out.trans (hB1.mono (by simp))); clear y0 y1 y2 y3 y4 y5; obtain ⟨y0, y1, y2, y3, y4, y5⟩ := BX.out _ hB1.out) | (go_at_call 64; refine (C4.out _ (TW.out _ hB1.out)).mono ?_; rintro e w2 ⟨rfl, hB2⟩; replace hB2 := Mr.hid (hB1.out.trans (hB2.mono (by omega)))))
      go_ret
      exact ⟨by simp, TW.out _ hB2.out⟩
  · have d0 : decide ((n0 : Int) ≤ 1) = false := decide_eq_false (by omega)
    have d1 : decide (n0 ≤ 1) = false := decide_eq_false h0
    rw [d1]
    go_enter Tryz.func48, Tryz.ntmps48
    go_wp2
    go_ret
    exact ⟨rfl, TW.out _ hB0.out⟩
end Go.Proofs.YtfgnaffomglmdaaGreat.Md
/-
  Package model: refused.
-/
namespace Go.Proofs.YtfgnaffomglmdaaGreat.Md
open Go.RowKit Mr
set_option linter.unusedVariables false
set_option linter.unusedSimpArgs false
def bads (cs : List Cq) : Bool := cs.any (fun c => obj c.op == 0)
theorem bads_yes {cs : List Cq} {i : Nat} {c : Cq} (h : cs[i]? = some c) (ho : obj c.op = 0) : bads cs = true := by
  unfold bads
  rw [List.any_eq_true]
  exact ⟨c, List.mem_of_getElem? h, by simp [ho]⟩
theorem bads_no {cs : List Cq} (h : ∀ (j : Nat) (c : Cq), cs[j]? = some c → obj c.op ≠ 0) : bads cs = false := by
  unfold bads
  rw [List.any_eq_false]
  intro c hc
  obtain ⟨j, hj, e⟩ := List.getElem_of_mem hc
  have := h j c (by rw [List.getElem?_eq_getElem hj, e])
  simpa using this
set_option maxRecDepth 100000 in
set_option maxHeartbeats 8000000 in
theorem refused_any {W : World} {S : Nat → Prop} {u0 u1 u2 u3 u4 : Value} {x : Ct} (hu : CtAt W S u0 u1 u2 u3 u4 x) (hsx : CtSm x) {T : Nat → Prop} {uc : Value} {cs : List Cq} (hc : Sl W T 9 uc cs.length (cqs cs)) (hsm : cs.length * 72 ≤ 281474976710656) (b : Bool) (hb : b = true ↔ May x) (r : Int) (hr : r = if b then (if bads cs then 110 else 0) else 111) :
    Calls Tryz.prog 36 #[.agg #[u0, u1, u2, u3, u4], uc] W fun e w' => e = .returned (.int .i64 r) ∧ Below W.heap.size W w' := by
  obtain ⟨a0, c0, rfl, _⟩ := hu.cell.form
  obtain ⟨a1, c1, rfl, _⟩ := hu.stack.form
  obtain ⟨a2, c2, rfl, _⟩ := hu.queue.form
  obtain ⟨a3, c3, rfl, _⟩ := hu.set.form
  obtain ⟨a4, c4, rfl, _⟩ := hu.table.form
  obtain ⟨ac, cc, rfl, hcc⟩ := hc.form
  have CM := fun w' (hB : Below W.heap.size W w') => mMay_any (hu.below hB) hsx b hb
  have hB0 := Below.refl (W.heap.size + 1) (W.alloc (ctO (.slice a0 x.cell.length c0) (.slice a1 x.stack.length c1) (.slice a2 x.queue.length c2) (.slice a3 x.set.length c3) (.slice a4 x.table.length c4)))
  have TW := fun w' (hB : Below (W.heap.size + 1) (W.alloc (ctO (.slice a0 x.cell.length c0) (.slice a1 x.stack.length c1) (.slice a2 x.queue.length c2) (.slice a3 x.set.length c3) (.slice a4 x.table.length c4))) w') => (((Below.refl W.heap.size W).alloc (Nat.le_refl _) _).trans (hB.mono (by omega)) : Below W.heap.size W w')
  obtain ⟨y0, y1, y2, y3, y4, y5⟩ := ctO_cells (new_at W (ctO (.slice a0 x.cell.length c0) (.slice a1 x.stack.length c1) (.slice a2 x.queue.length c2) (.slice a3 x.set.length c3) (.slice a4 x.table.length c4)) _ rfl)
  unfold ctO at hB0 TW y0 y1 y2 y3 y4 y5
  obtain ⟨n, hn⟩ : ∃ n, n = cs.length := ⟨_, rfl⟩
  rw [← hn] at hc hsm hcc ⊢
  replace hn := Mr.hid hn
  replace hc := Mr.hid hc
  replace CM := Mr.hid CM
  replace TW := Mr.hid TW
  replace hB0 := Mr.hid hB0
  clear hu hsx hb
  cases b with
  | false =>
    simp only [Bool.false_eq_true, if_false] at hr
    subst hr
    go_enter Tryz.func36, Tryz.ntmps36
    go_wp2_with (first | (go_at_call 48; refine (CM.out _ (TW.out _ hB0.out)).mono ?_; rintro e w1 ⟨rfl, hB1⟩; replace hB1 := Mr.hid (hB0.out.trans (hB1.mono (by simp)))))
    go_ret
    exact ⟨rfl, TW.out _ hB1.out⟩
  | true =>
    simp only [if_true] at hr
    replace hr := Mr.hid hr
    go_enter Tryz.func36, Tryz.ntmps36
    go_wp2_with (first | (go_at_call 48; refine (CM.out _ (TW.out _ hB0.out)).mono ?_; rintro e w1 ⟨rfl, hB1⟩; replace hB1 := Mr.hid (hB0.out.trans (hB1.mono (by simp))); clear y0 y1 y2 y3 y4 y5))
    have HB1 := Mr.hid (TW.out _ hB1.out)
    clear hB1 hB0 TW CM
    go_loopg [12] n (fun k s wr => ∃ i : Nat, s = .int .i64 (i : Int) ∧ i + k = n ∧ Below W.heap.size W wr ∧ ∀ (j : Nat) (c : Cq), j < i → cs[j]? = some c → obj c.op ≠ 0)
    case atStart => exact ⟨0, rfl, by omega, HB1.out, fun j c hj => by omega⟩
    case round =>
      clear HB1
      obtain ⟨i, rfl, hi, B, hok⟩ := hrel
      by_cases hlt : i < n
      · obtain ⟨c, hci⟩ : ∃ c, cs[i]? = some c := ⟨cs[i]'(by have := hn.out; omega), List.getElem?_eq_getElem _⟩
        obtain ⟨bc, oc, cc', hcv, _, _, hcl, hcr⟩ := (hc.out.below B).there (by omega)
        cases hcv
        have hg := fun j (hj : j < 9) => cqs_get cs i c hci j hj
        have g0 : wr.cell? ⟨bc, oc + i * 9, none⟩ = some (.int .i64 c.th) := hcr (i * 9 + 0) _ (hg 0 (by omega))
        have g1 : wr.cell? ⟨bc, oc + i * 9 + 1, none⟩ = some (.int .i64 c.op) := hcr (i * 9 + 1) _ (hg 1 (by omega))
        have g2 : wr.cell? ⟨bc, oc + i * 9 + 2, none⟩ = some (.int .i64 c.arg) := hcr (i * 9 + 2) _ (hg 2 (by omega))
        have g3 : wr.cell? ⟨bc, oc + i * 9 + 3, none⟩ = some (.int .i64 c.data) := hcr (i * 9 + 3) _ (hg 3 (by omega))
        have g4 : wr.cell? ⟨bc, oc + i * 9 + 4, none⟩ = some (.int .i64 c.beg) := hcr (i * 9 + 4) _ (hg 4 (by omega))
        have g5 : wr.cell? ⟨bc, oc + i * 9 + 5, none⟩ = some (.int .i64 c.fin) := hcr (i * 9 + 5) _ (hg 5 (by omega))
        have g6 : wr.cell? ⟨bc, oc + i * 9 + 6, none⟩ = some (.int .i64 c.pt) := hcr (i * 9 + 6) _ (hg 6 (by omega))
        have g7 : wr.cell? ⟨bc, oc + i * 9 + 7, none⟩ = some (.int .i64 c.ak) := hcr (i * 9 + 7) _ (hg 7 (by omega))
        have g8 : wr.cell? ⟨bc, oc + i * 9 + 8, none⟩ = some (.int .i64 c.av) := hcr (i * 9 + 8) _ (hg 8 (by omega))
        have hlI : (i : Int) < (n : Int) := by omega
        have BA := Mr.hid (B.alloc B.size (.cells #[.int .i64 c.th, .int .i64 c.op, .int .i64 c.arg, .int .i64 c.data, .int .i64 c.beg, .int .i64 c.fin, .int .i64 c.pt, .int .i64 c.ak, .int .i64 c.av] 36 (0, 0)))
        clear hg hcr
        by_cases ho : obj c.op = 0
        · have hbd := bads_yes hci ho
          have hr2 := hr.out
          rw [hbd] at hr2
          simp only [if_true] at hr2
          subst hr2
          have CO := fun w => mObj c.op w
          rw [ho] at CO
          replace CO := Mr.hid CO
          replace ho := Mr.hid ho
          clear hr hok hbd B
          go_wp2_with (go_at_call 47; refine (CO.out _).mono ?_; rintro e w2 ⟨rfl, rfl⟩)
          go_ret
          exact ⟨rfl, BA.out⟩
        · have CO := fun w => mObj c.op w
          have ho1 : (obj c.op == 0) = false := by simpa using ho
          have hok2 : ∀ (j : Nat) (d : Cq), j < i + 1 → cs[j]? = some d → obj d.op ≠ 0 := fun j d hj hd => by
            by_cases e : j = i
            · subst e; rw [hci] at hd; cases hd; exact ho
            · exact hok j d (by omega) hd
          generalize obj c.op = oo at *
          replace CO := Mr.hid CO
          replace ho := Mr.hid ho
          replace hok2 := Mr.hid hok2
          clear hok B
          go_wp2_with (go_at_call 47; refine (CO.out _).mono ?_; rintro e w2 ⟨rfl, rfl⟩)
          go_roundg (gk - 1)
          case measure => omega
          case rel => exact ⟨i + 1, by simp, by omega, BA.out, hok2.out⟩
      · have hbd := bads_no (cs := cs) (fun j c hc => hok j c (by have := (List.getElem?_eq_some_iff.1 hc).1; have := hn.out; omega) hc)
        have hr2 := hr.out
        rw [hbd] at hr2
        simp only [Bool.false_eq_true, if_false] at hr2
        subst hr2
        replace B := Mr.hid B
        clear hr hok hbd
        go_wp2
        go_ret
        exact ⟨rfl, B.out⟩
end Go.Proofs.YtfgnaffomglmdaaGreat.Md
