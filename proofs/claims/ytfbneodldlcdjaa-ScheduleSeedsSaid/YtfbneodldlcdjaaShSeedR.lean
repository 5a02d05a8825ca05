/-
  SCHEDULE: Seeded: who is refused; the document's Seeded.
-/
import Derived.Test.YtfbneodldlcdjaaShSeed
namespace Go.Proofs.Ytfbneodldlcdjaa.Sh
open Go.RowKit Mr Md
set_option linter.unusedVariables false
set_option linter.unusedSimpArgs false
set_option maxRecDepth 100000
set_option maxHeartbeats 4000000 in
theorem seeded_no {W : World} {T : Nat → Prop} {v : Value} {ws : List Int} (hv : Sl W T 1 v ws.length (ints ws)) (sd : Int) {s e : Int} (h : Sr ws s e) :
    Calls Try.prog 10 #[.int .u64 sd, v, .int .i64 s] W fun r w' => r = .returned (.tuple #[.slice none 0 0, .int .i64 e]) ∧ Below W.heap.size W w' := by
  obtain ⟨a, c, rfl, hc⟩ := hv.form
  cases h with
  | many h =>
    have h' : (16 : Int) < (ws.length : Int) := by omega
    replace hv := Mr.hid hv
    clear hc
    go_enter Try.func10, Try.ntmps10
    go_wp2
    go_ret2
    exact ⟨rfl, Below.refl _ _⟩
  | long h h1 =>
    have h' : (ws.length : Int) ≤ 16 := by omega
    replace hv := Mr.hid hv
    clear hc
    go_enter Try.func10, Try.ntmps10
    go_wp2
    go_ret2
    exact ⟨rfl, Below.refl _ _⟩
  | bad h h1 h2 =>
    have h' : (ws.length : Int) ≤ 16 := by omega
    have K := Mr.hid (sums_bad hv h h2)
    replace hv := Mr.hid hv
    replace h2 := Mr.hid h2
    clear hc
    go_enter Try.func10, Try.ntmps10
    go_wp2_with (go_at_call 14; refine K.out.mono ?_; clear K; rintro e V ⟨rfl, hB⟩; replace hB := Mr.hid hB)
    go_ret2
    exact ⟨rfl, hB.out⟩
  | none h h1 h2 h3 =>
    have h' : (ws.length : Int) ≤ 16 := by omega
    have K := Mr.hid (sums_ok hv h h2 false (decide_eq_false (by omega)))
    replace hv := Mr.hid hv
    replace h2 := Mr.hid h2
    replace h3 := Mr.hid h3
    clear hc
    go_enter Try.func10, Try.ntmps10
    go_wp2_with (go_at_call 14; refine K.out.mono ?_; clear K; rintro e V ⟨u, rfl, hu⟩; have hB := Mr.hid hu.bel; clear hu)
    go_ret2
    exact ⟨rfl, hB.out⟩
  | low h h1 h2 h3 =>
    have h' : (ws.length : Int) ≤ 16 := by omega
    have K := Mr.hid (sums_ok hv h h2 true (decide_eq_true (by omega)))
    replace hv := Mr.hid hv
    replace h2 := Mr.hid h2
    replace h3 := Mr.hid h3
    have h1' : s ≤ 65536 := by omega
    clear hc
    go_enter Try.func10, Try.ntmps10
    go_wp2_with (go_at_call 14; refine K.out.mono ?_; clear K; rintro e V ⟨u, rfl, hu⟩; have hB := Mr.hid hu.bel; clear hu)
    go_ret2
    exact ⟨rfl, hB.out⟩
set_option maxHeartbeats 4000000 in
theorem rr_two {x t : Int} (h : 0 < t) (h1 : t ≤ 1048576) : wrap64 (x % t) = x % t := by
  have h2 := Int.emod_lt_of_pos x h
  have h3 := Int.emod_nonneg x (by omega : t ≠ 0)
  generalize x % t = y at *
  unfold wrap64
  omega
set_option maxHeartbeats 4000000 in
theorem rseeded_two {W : World} {T : Nat → Prop} {v : Value} {ws : List Int} (hv : Sl W T 1 v ws.length (ints ws)) (sd : Int) {s : Int} (hn : ws.length ≤ 16) (h1 : s ≤ 65536) (hok : okW ws) (h3 : ws.sum = 0 ∨ (s < 0 ∧ 0 < ws.sum)) :
    Calls Try.prog 11 #[.int .u64 sd, v, .int .i64 s] W fun r w' => r = .returned (.tuple #[.slice none 0 0, .int .i64 2]) ∧ Below W.heap.size W w' := by
  obtain ⟨a, c, rfl, hc⟩ := hv.form
  obtain ⟨n, hnn⟩ : ∃ n, n = ws.length := ⟨_, rfl⟩
  rw [← hnn] at hv hn ⊢
  have h' : (n : Int) ≤ 16 := by omega
  replace hnn := Mr.hid hnn
  replace hv := Mr.hid hv
  clear hc
  replace hok := Mr.hid hok
  replace h3 := Mr.hid h3
  go_enter Try.func11, Try.ntmps11
  go_wp2
  go_loopg [8, 9] n (fun k s8 s9 wr => ∃ i : Nat, s8 = .int .i64 (ws.take i).sum ∧ okW (ws.take i) ∧ s9 = .int .i64 (i : Int) ∧ i + k = n ∧ W = wr)
  case atStart => exact ⟨0, by simp, (by intro x hx; simp at hx), rfl, by omega, rfl⟩
  case round =>
    obtain ⟨i, rfl, hki, rfl, hi, rfl⟩ := hrel
    by_cases hlt : i < n
    · obtain ⟨x, hx⟩ : ∃ x, ws[i]? = some x := ⟨ws[i]'(by have := hnn.out; omega), List.getElem?_eq_getElem _⟩
      have hv2 := hv.out
      rw [hnn.out] at hv2
      obtain ⟨g, o, c', e, kx, kg⟩ := sl_cell hv2 hx
      rw [← hnn.out] at e
      cases e
      have ht := sum_bd _ hki
      have htl : (ws.take i).length ≤ 16 := by rw [List.length_take]; omega
      have hsum : Hid ((ws.take (i + 1)).sum = (ws.take i).sum + x) := sum_take hx
      clear hv2
      have hlI : (i : Int) < (n : Int) := by omega
      have hw1 : IntKind.i64.wrap ((i : Int) + 1) = (i : Int) + 1 := i64x _ (by omega) (by omega)
      obtain ⟨sm, hsm⟩ : ∃ sm, sm = (ws.take i).sum := ⟨_, rfl⟩
      rw [← hsm] at ht hsum ⊢
      replace hsm := Mr.hid hsm
      obtain ⟨hx0, hx1⟩ := hok.out.get hx
      have d1 : decide (x < 0) = false := decide_eq_false (by omega)
      have d2 : decide (65536 < x) = false := decide_eq_false (by omega)
      have hki2 : Hid (okW (ws.take (i + 1))) := by
        intro y hy
        rw [List.take_add_one, hx] at hy
        simp at hy
        rcases hy with hy | hy
        · exact hki y hy
        · subst hy; omega
      have hw2 : IntKind.i64.wrap (sm + x) = sm + x := i64x _ (by omega) (by omega)
      replace hx := Mr.hid hx
      replace hki := Mr.hid hki
      replace ht := Mr.hid ht
      go_wp2
      go_roundg (gk - 1)
      case measure => omega
      case rel => exact ⟨i + 1, by rw [hsum.out], hki2.out, by simp, by omega, rfl⟩
    · have hin : i = ws.length := by have := hnn.out; omega
      rw [hin, List.take_length]
      have dl : decide ((ws.length : Int) < (n : Int)) = false := decide_eq_false (by have := hnn.out; omega)
      have dl2 : decide (ws.length < n) = false := decide_eq_false (by have := hnn.out; omega)
      clear hin hi hlt hki
      rcases h3.out with h4 | ⟨h4, h5⟩
      · have z : (ws.sum == 0) = true := by simp [h4]
        clear h3
        replace h4 := Mr.hid h4
        go_wp2
        go_ret2
        exact ⟨rfl, Below.refl _ _⟩
      · have z : (ws.sum == 0) = false := by simp; omega
        clear h3
        have z2 : decide (s < 0) = true := decide_eq_true h4
        replace h5 := Mr.hid h5
        go_wp2
        go_ret2
        exact ⟨rfl, Below.refl _ _⟩
set_option maxHeartbeats 4000000 in
theorem rseeded_bad {W : World} {T : Nat → Prop} {v : Value} {ws : List Int} (hv : Sl W T 1 v ws.length (ints ws)) (sd : Int) {s : Int} (hn : ws.length ≤ 16) (h1 : s ≤ 65536) (hok : ¬ okW ws) :
    Calls Try.prog 11 #[.int .u64 sd, v, .int .i64 s] W fun r w' => r = .returned (.tuple #[.slice none 0 0, .int .i64 2]) ∧ Below W.heap.size W w' := by
  obtain ⟨a, c, rfl, hc⟩ := hv.form
  obtain ⟨n, hnn⟩ : ∃ n, n = ws.length := ⟨_, rfl⟩
  rw [← hnn] at hv hn ⊢
  have h' : (n : Int) ≤ 16 := by omega
  replace hnn := Mr.hid hnn
  replace hv := Mr.hid hv
  clear hc
  replace hok := Mr.hid hok
  go_enter Try.func11, Try.ntmps11
  go_wp2
  go_loopg [8, 9] n (fun k s8 s9 wr => ∃ i : Nat, s8 = .int .i64 (ws.take i).sum ∧ okW (ws.take i) ∧ s9 = .int .i64 (i : Int) ∧ i + k = n ∧ W = wr)
  case atStart => exact ⟨0, by simp, (by intro x hx; simp at hx), rfl, by omega, rfl⟩
  case round =>
    obtain ⟨i, rfl, hki, rfl, hi, rfl⟩ := hrel
    by_cases hlt : i < n
    · obtain ⟨x, hx⟩ : ∃ x, ws[i]? = some x := ⟨ws[i]'(by have := hnn.out; omega), List.getElem?_eq_getElem _⟩
      have hv2 := hv.out
      rw [hnn.out] at hv2
      obtain ⟨g, o, c', e, kx, kg⟩ := sl_cell hv2 hx
      rw [← hnn.out] at e
      cases e
      have ht := sum_bd _ hki
      have htl : (ws.take i).length ≤ 16 := by rw [List.length_take]; omega
      have hsum : Hid ((ws.take (i + 1)).sum = (ws.take i).sum + x) := sum_take hx
      clear hv2
      have hlI : (i : Int) < (n : Int) := by omega
      have hw1 : IntKind.i64.wrap ((i : Int) + 1) = (i : Int) + 1 := i64x _ (by omega) (by omega)
      obtain ⟨sm, hsm⟩ : ∃ sm, sm = (ws.take i).sum := ⟨_, rfl⟩
      rw [← hsm] at ht hsum ⊢
      replace hsm := Mr.hid hsm
      by_cases hb0 : x < 0
      · have d1 : decide (x < 0) = true := decide_eq_true hb0
        clear hki hx htl ht hsum
        go_wp2
        go_ret2
        exact ⟨rfl, Below.refl _ _⟩
      · have d1 : decide (x < 0) = false := decide_eq_false hb0
        by_cases hb1 : 65536 < x
        · have d2 : decide (65536 < x) = true := decide_eq_true hb1
          clear hki hx htl ht hsum
          go_wp2
          go_ret2
          exact ⟨rfl, Below.refl _ _⟩
        · have d2 : decide (65536 < x) = false := decide_eq_false hb1
          have hki2 : Hid (okW (ws.take (i + 1))) := by
            intro y hy
            rw [List.take_add_one, hx] at hy
            simp at hy
            rcases hy with hy | hy
            · exact hki y hy
            · subst hy; omega
          have hw2 : IntKind.i64.wrap (sm + x) = sm + x := i64x _ (by omega) (by omega)
          replace hx := Mr.hid hx
          replace hki := Mr.hid hki
          replace ht := Mr.hid ht
          go_wp2
          go_roundg (gk - 1)
          case measure => omega
          case rel => exact ⟨i + 1, by rw [hsum.out], hki2.out, by simp, by omega, rfl⟩
    · have hin : i = ws.length := by have := hnn.out; omega
      rw [hin, List.take_length] at hki
      exact absurd hki hok.out
set_option maxHeartbeats 4000000 in
theorem rseeded_no {W : World} {T : Nat → Prop} {v : Value} {ws : List Int} (hv : Sl W T 1 v ws.length (ints ws)) (sd : Int) {s e : Int} (h : Sr ws s e) :
    Calls Try.prog 11 #[.int .u64 sd, v, .int .i64 s] W fun r w' => r = .returned (.tuple #[.slice none 0 0, .int .i64 e]) ∧ Below W.heap.size W w' := by
  cases h with
  | many h =>
    obtain ⟨a, c, rfl, hc⟩ := hv.form
    have h' : (16 : Int) < (ws.length : Int) := by omega
    replace hv := Mr.hid hv
    clear hc
    go_enter Try.func11, Try.ntmps11
    go_wp2
    go_ret2
    exact ⟨rfl, Below.refl _ _⟩
  | long h h1 =>
    obtain ⟨a, c, rfl, hc⟩ := hv.form
    have h' : (ws.length : Int) ≤ 16 := by omega
    replace hv := Mr.hid hv
    clear hc
    go_enter Try.func11, Try.ntmps11
    go_wp2
    go_ret2
    exact ⟨rfl, Below.refl _ _⟩
  | bad h h1 h2 => exact rseeded_bad hv sd h h1 h2
  | none h h1 h2 h3 => exact rseeded_two hv sd h h1 h2 (.inl h3)
  | low h h1 h2 h3 => exact rseeded_two hv sd h (by omega) h2 (.inr ⟨h1, h3⟩)
set_option maxHeartbeats 8000000 in
theorem rseeded_ok {W : World} {T : Nat → Prop} {v : Value} {ws : List Int} (hv : Sl W T 1 v ws.length (ints ws)) (hn : ws.length ≤ 16) (hok : okW ws) (hs : 0 < ws.sum) (s : Int) (hs0 : 0 ≤ s) (hs1 : s ≤ 18446744073709551615) (m : Nat) (hm : m ≤ 65536) :
    Calls Try.prog 11 #[.int .u64 s, v, .int .i64 (m : Int)] W fun r w' => ∃ u, r = .returned (.tuple #[u, .int .i64 0]) ∧ Nw W w' u (sdl ws s m) := by
  obtain ⟨i0, hi0, hz0, hz1, hz2⟩ := parts_of wt_int
  obtain ⟨a, c, rfl, hc⟩ := hv.form
  have hm0 : (0 : Int) ≤ (m : Int) := by omega
  have hm1 : (m : Int) ≤ 65536 := by omega
  have hbd := sum_bd ws hok
  have hbd1 : ws.sum ≤ 1048576 := by omega
  have hws := wrap_id (x := ws.sum) (by omega) hbd1
  have hz : (ws.sum == 0) = false := by simp; omega
  have hzz : ¬ ws.sum = 0 := by omega
  obtain ⟨n, hnn⟩ : ∃ n, n = ws.length := ⟨_, rfl⟩
  rw [← hnn] at hv hn ⊢
  have h' : (n : Int) ≤ 16 := by omega
  replace hnn := Mr.hid hnn
  replace hv := Mr.hid hv
  clear hc
  replace hok := Mr.hid hok
  replace hbd := Mr.hid hbd
  go_enter Try.func11, Try.ntmps11
  go_wp2
  go_loopg [8, 9] n (fun k s8 s9 wr => ∃ i : Nat, s8 = .int .i64 (ws.take i).sum ∧ okW (ws.take i) ∧ s9 = .int .i64 (i : Int) ∧ i + k = n ∧ W = wr)
  case atStart => exact ⟨0, by simp, (by intro x hx; simp at hx), rfl, by omega, rfl⟩
  case round =>
    obtain ⟨i, rfl, hki, rfl, hi, rfl⟩ := hrel
    by_cases hlt : i < n
    · obtain ⟨x, hx⟩ : ∃ x, ws[i]? = some x := ⟨ws[i]'(by have := hnn.out; omega), List.getElem?_eq_getElem _⟩
      have hv2 := hv.out
      rw [hnn.out] at hv2
      obtain ⟨g, o, c', e, kx, kg⟩ := sl_cell hv2 hx
      rw [← hnn.out] at e
      cases e
      have ht := sum_bd _ hki
      have htl : (ws.take i).length ≤ 16 := by rw [List.length_take]; omega
      have hsum : Hid ((ws.take (i + 1)).sum = (ws.take i).sum + x) := sum_take hx
      clear hv2
      have hlI : (i : Int) < (n : Int) := by omega
      have hw1 : IntKind.i64.wrap ((i : Int) + 1) = (i : Int) + 1 := i64x _ (by omega) (by omega)
      obtain ⟨sm, hsm⟩ : ∃ sm, sm = (ws.take i).sum := ⟨_, rfl⟩
      rw [← hsm] at ht hsum ⊢
      replace hsm := Mr.hid hsm
      obtain ⟨hx0, hx1⟩ := hok.out.get hx
      have d1 : decide (x < 0) = false := decide_eq_false (by omega)
      have d2 : decide (65536 < x) = false := decide_eq_false (by omega)
      have hki2 : Hid (okW (ws.take (i + 1))) := by
        intro y hy
        rw [List.take_add_one, hx] at hy
        simp at hy
        rcases hy with hy | hy
        · exact hki y hy
        · subst hy; omega
      have hw2 : IntKind.i64.wrap (sm + x) = sm + x := i64x _ (by omega) (by omega)
      replace hx := Mr.hid hx
      replace hki := Mr.hid hki
      replace ht := Mr.hid ht
      go_wp2
      go_roundg (gk - 1)
      case measure => omega
      case rel => exact ⟨i + 1, by rw [hsum.out], hki2.out, by simp, by omega, rfl⟩
    · have hin : i = ws.length := by have := hnn.out; omega
      rw [hin, List.take_length]
      have dl : decide ((ws.length : Int) < (n : Int)) = false := decide_eq_false (by have := hnn.out; omega)
      have dl2 : decide (ws.length < n) = false := decide_eq_false (by have := hnn.out; omega)
      clear hin hi hlt hki
      go_wp2
      clear dl dl2
      go_loopg [10, 11, 12] m (fun k s10 s11 s12 wr => ∃ i : Nat, s11 = .int .u64 (st s i) ∧ s12 = .int .i64 (i : Int) ∧ i + k = m ∧ Nw W wr s10 (sdl ws s i))
      case atStart => exact ⟨0, rfl, rfl, by omega, ⟨Below.refl _ _, by simpa [sdl, ints] using Own.zero _ _ _ _ _⟩⟩
      case round =>
        obtain ⟨i, rfl, rfl, hi, hA⟩ := hrel
        by_cases hlt : i < m
        · have hlI : (i : Int) < (m : Int) := by omega
          have hw1 : IntKind.i64.wrap ((i : Int) + 1) = (i : Int) + 1 := i64x _ (by omega) (by omega)
          have hnb := nxt_bd (st s i)
          obtain ⟨rr, hrr⟩ : ∃ rr, rr = st s (i + 1) / 8589934592 % ws.sum := ⟨_, rfl⟩
          have hP := pkf_pk hs s i
          rw [← hrr] at hP
          have hr := rr_eq (x := nxt (st s i) / 8589934592) hs hbd1 (Int.ediv_nonneg hnb.1 (by omega))
          rw [show nxt (st s i) / 8589934592 % ws.sum = rr from hrr.symm] at hr
          have hrb : 0 ≤ rr ∧ rr ≤ 1048576 := by
            have h2 := Int.emod_lt_of_pos (st s (i + 1) / 8589934592) hs
            have h3 := Int.emod_nonneg (st s (i + 1) / 8589934592) (by omega : ws.sum ≠ 0)
            rw [← hrr] at h2 h3
            omega
          obtain ⟨pv, hpv⟩ : ∃ pv, pv = pkf ws s i := ⟨_, rfl⟩
          rw [← hpv] at hP
          obtain ⟨u, cu, rfl, hcu, hcm⟩ := hA.own.form
          have hll : (sdl ws s i).length ≤ 65536 := by rw [sdl_len]; omega
          have hns : nxt (st s i) = st s (i + 1) := rfl
          obtain ⟨sn, hsn⟩ : ∃ sn, sn = st s (i + 1) := ⟨_, rfl⟩
          rw [hns, ← hsn] at hr hnb
          have hfold : IntKind.u64.wrap (IntKind.u64.wrap (st s i * 6364136223846793005) + 1442695040888963407) = sn := hsn.symm
          have hr2 := Mr.hid (rr_two (x := sn / 8589934592) hs hbd1)
          rw [show sn / 8589934592 % ws.sum = rr from by rw [hsn]; exact hrr.symm] at hr2
          replace hr2 := Mr.hid (show wrap64 (sn / 8589934592 % ws.sum) = rr from by rw [show sn / 8589934592 % ws.sum = rr from by rw [hsn]; exact hrr.symm]; exact hr2.out)
          replace hsn := Mr.hid hsn
          replace hpv := Mr.hid hpv
          replace hrr := Mr.hid hrr
          replace hP := Mr.hid hP
          replace hr := Mr.hid hr
          replace hA := Mr.hid hA
          replace hns := Mr.hid hns
          replace hfold := Mr.hid hfold
          go_upto_region 18 with (fail)
          rw [hfold.out]
          go_upto_region 19 with (fail)
          rw [hr2.out]
          go_upto_region 20 with (fail)
          go_loopg [13, 14] pv (fun k s13 s14 wr' => ∃ t : Nat, s13 = .int .i64 (rr - (ws.take t).sum) ∧ s14 = .int .i64 (t : Int) ∧ t + k = pv ∧ wr = wr')
          case atStart => exact ⟨0, by simp, rfl, by omega, rfl⟩
          case round =>
            obtain ⟨t, rfl, rfl, ht, rfl⟩ := hrel
            obtain ⟨x, hx⟩ : ∃ x, ws[t]? = some x := ⟨ws[t]'(by have := hP.out.lt; omega), List.getElem?_eq_getElem _⟩
            have hv2 := hv.out
            rw [hnn.out] at hv2
            obtain ⟨g, o, c', e, kx, kg⟩ := sl_cell (hv2.below hA.out.bel) hx
            rw [← hnn.out] at e
            cases e
            clear hv2
            have htn : (t : Int) < (n : Int) := by have := hP.out.lt; have := hnn.out; omega
            have hsum := sum_take hx
            have hb1 := take_bd hok.out (by have := hnn.out; omega) t
            have hxb := hok.out.get hx
            obtain ⟨sm, hsm⟩ : ∃ sm, sm = (ws.take t).sum := ⟨_, rfl⟩
            rw [← hsm] at hsum hb1 ⊢
            by_cases htp : t = pv
            · have hd : ¬ x ≤ rr - sm := by have := hP.out.hi; rw [← htp, hsum] at this; omega
              have d1 : decide (x ≤ rr - sm) = false := decide_eq_false hd
              have htp' := Mr.hid htp
              replace hsm := Mr.hid hsm
              replace hsum := Mr.hid hsum
              replace hx := Mr.hid hx
              clear htp hd ht
              go_wp2_with (at_builtin; refine wpList_append_mine _ rfl (.tmp 81) (.tmp 83) 22 rfl (fun k => W.heap.size ≤ k) 3 i0 _ 1 8 Try.underlying22 hi0 hz0 hz1 hz2 rfl _ (sdl ws s i).length (ints (sdl ws s i)) rfl (hA.out.own.below ((Below.refl _ _).alloc (Nat.le_refl _) _)) (some ⟨wr.heap.size, 0, none⟩) 1 1 [.int .i64 (t : Int)] rfl rfl (fun e => by cases e) (new1 rfl) (by simp [Value.oneCell']) (by unfold maxLen; omega) (by omega) ?_; intro b9 cap9 w9 hown hfr; have hX := Mr.hid (hA.out.app rfl hown hfr); clear hown hfr hA)
              rw [show sdl ws s i ++ [(t : Int)] = sdl ws s (i + 1) from by rw [sdl_succ, htp'.out, hpv.out]] at hX
              go_roundg (m - (i + 1))
              case measure => omega
              case rel => exact ⟨i + 1, by rw [hsn.out], by simp, by omega, hX.out⟩
            · have hd : x ≤ rr - sm := by have := hP.out.lo t (by omega); rw [hsum] at this; omega
              have d1 : decide (x ≤ rr - sm) = true := decide_eq_true hd
              have hw3 : IntKind.i64.wrap (rr - sm - x) = rr - sm - x := i64x _ (by omega) (by omega)
              have hw4 : IntKind.i64.wrap ((t : Int) + 1) = (t : Int) + 1 := i64x _ (by omega) (by omega)
              have hsum2 : Hid (rr - sm - x = rr - (ws.take (t + 1)).sum) := by show rr - sm - x = rr - (ws.take (t + 1)).sum; rw [hsum]; omega
              replace hsm := Mr.hid hsm
              replace hsum := Mr.hid hsum
              replace hx := Mr.hid hx
              replace hd := Mr.hid hd
              go_wp2
              go_roundg (gk - 1)
              case measure => omega
              case rel => exact ⟨t + 1, by rw [hsum2.out], by simp, by omega, rfl⟩
        · have hin : i = m := by omega
          rw [hin] at hA
          have dl : decide ((i : Int) < (m : Int)) = false := decide_eq_false (by omega)
          have dl2 : decide (i < m) = false := decide_eq_false (by omega)
          obtain ⟨u, cu, rfl, hcu, hcm⟩ := hA.own.form
          replace hA := Mr.hid hA
          clear hin hi
          go_wp2
          go_ret2
          exact ⟨_, rfl, hA.out⟩
end Go.Proofs.Ytfbneodldlcdjaa.Sh
