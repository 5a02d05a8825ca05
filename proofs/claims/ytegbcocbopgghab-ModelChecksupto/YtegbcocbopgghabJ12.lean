import Derived.Test.YtegbcocbopgghabJ11
import Derived.Test.YtegbcocbopgghabJ03
import Derived.Test.YtegbcocbopgghabJ04
/-
  Package model: slices.Equal at int and at Pair; Same.
-/
namespace Go.Proofs.Ytegbcocbopgghab.Md
open Go.RowKit Mr
set_option linter.unusedVariables false
set_option linter.unusedSimpArgs false
set_option maxRecDepth 100000 in
set_option maxHeartbeats 4000000 in
theorem equalI_any {w : World} {S T : Nat → Prop} {u v : Value} {l m : List Int} (hu : Sl w S 1 u l.length (ints l)) (hv : Sl w T 1 v m.length (ints m)) (hsm : l.length * 8 ≤ 281474976710656) (hsm2 : m.length * 8 ≤ 281474976710656) :
    Calls Try.prog 31 #[u, v] w fun e w' => e = .returned (.bool (l == m)) ∧ Below w.heap.size w w' := by
  obtain ⟨au, cu, rfl, hcu⟩ := hu.form
  obtain ⟨av, cv, rfl, hcv⟩ := hv.form
  by_cases hlen : l.length = m.length
  · obtain ⟨n, hn⟩ : ∃ n, n = l.length := ⟨_, rfl⟩
    have hm : m.length = n := by omega
    rw [← hn] at hcu hsm
    rw [hm] at hcv
    have dl : ((n : Int) != (n : Int)) = false := by simp
    rw [← hn, hm]
    have hn' : l.length = n := hn.symm
    rw [hn'] at hu
    rw [hm] at hv
    clear hlen hsm2
    replace hn' := Mr.hid hn'
    replace hm := Mr.hid hm
    replace hu := Mr.hid hu
    replace hv := Mr.hid hv
    clear hn
    go_enter Try.func31, Try.ntmps31
    go_wp2
    go_loopg [5, 13] n (fun k s5 s wr => ∃ i : Nat, s = .int .i64 (i : Int) ∧ i + k = n ∧ Below w.heap.size w wr ∧ l.take i = m.take i)
    case atStart => exact ⟨0, rfl, by omega, Below.refl _ _, by simp⟩
    case round =>
      obtain ⟨i, rfl, hi, B, ht⟩ := hrel
      by_cases hlt : i < n
      · obtain ⟨gu, ou, cu', hgu, _, _, _, ru⟩ := (hu.out.below B).there (by omega)
        obtain ⟨gv, ov, cv', hgv, _, _, _, rv⟩ := (hv.out.below B).there (by omega)
        cases hgu
        cases hgv
        have hli : (i : Int) < (n : Int) := by omega
        have c1 := ru i _ (ints_get l i (by have := hn'.out; omega))
        have c2 := rv i _ (ints_get m i (by have := hm.out; omega))
        by_cases he : l[i]?.getD 0 = m[i]?.getD 0
        · have ht' := take_step 0 l m i (by have := hn'.out; omega) (by have := hm.out; omega) ht he
          rw [← he] at c2
          generalize l[i]?.getD 0 = y at *
          clear he ru rv ht
          have hB := Mr.hid B
          replace ht' := Mr.hid ht'
          clear B
          go_wp2
          go_quiet (fail)
          have hBq := Bx.draws wr.heap.size wr nq
          replace hB := hB.out.trans (hBq.mono hB.out.size)
          clear hBq c1 c2
          generalize wr.drewN nq = W6 at *
          replace hB := Mr.hid hB
          go_wp2
          go_roundg (gk - 1)
          case measure => omega
          case rel => exact ⟨i + 1, by simp, by omega, hB.out, ht'.out⟩
        · have hne := ne_step 0 l m i he
          replace hne := Mr.hid hne
          generalize l[i]?.getD 0 = y at *
          generalize m[i]?.getD 0 = z at *
          have d1 : (y != z) = true := by simpa using he
          have d2 : (y == z) = false := by simpa using he
          clear ru rv ht
          have hB := Mr.hid B
          clear B
          go_wp2
          go_quiet (fail)
          have hBq := Bx.draws wr.heap.size wr nq
          replace hB := hB.out.trans (hBq.mono hB.out.size)
          clear hBq c1 c2
          generalize wr.drewN nq = W6 at *
          replace hB := Mr.hid hB
          go_wp2
          go_ret
          exact ⟨by rw [hne.out]; rfl, hB.out⟩
      · obtain rfl : i = n := by omega
        have ha := all_eq l m i hn'.out hm.out ht
        replace ha := Mr.hid ha
        have hB := Mr.hid B
        clear B ht
        go_wp2
        go_ret
        exact ⟨by rw [ha.out]; rfl, hB.out⟩
  · rw [len_ne l m hlen]
    generalize l.length = n1 at *
    generalize m.length = n2 at *
    have d1 : ((n1 : Int) != (n2 : Int)) = true := by simp; omega
    clear hu hv
    go_enter Try.func31, Try.ntmps31
    go_wp2
    go_ret
    exact ⟨rfl, Below.refl _ _⟩
set_option maxRecDepth 100000 in
set_option maxHeartbeats 4000000 in
theorem equalP_any {w : World} {S T : Nat → Prop} {u v : Value} {l m : List (Int × Int)} (hu : Sl w S 2 u l.length (prs l)) (hv : Sl w T 2 v m.length (prs m)) (hsm : l.length * 16 ≤ 281474976710656) (hsm2 : m.length * 16 ≤ 281474976710656) :
    Calls Try.prog 32 #[u, v] w fun e w' => e = .returned (.bool (decide (l = m))) ∧ Below w.heap.size w w' := by
  obtain ⟨au, cu, rfl, hcu⟩ := hu.form
  obtain ⟨av, cv, rfl, hcv⟩ := hv.form
  by_cases hlen : l.length = m.length
  · obtain ⟨n, hn⟩ : ∃ n, n = l.length := ⟨_, rfl⟩
    have hm : m.length = n := by omega
    rw [← hn] at hcu hsm
    rw [hm] at hcv
    have dl : ((n : Int) != (n : Int)) = false := by simp
    rw [← hn, hm]
    have hn' : l.length = n := hn.symm
    rw [hn'] at hu
    rw [hm] at hv
    clear hlen hsm2
    replace hn' := Mr.hid hn'
    replace hm := Mr.hid hm
    replace hu := Mr.hid hu
    replace hv := Mr.hid hv
    clear hn
    go_enter Try.func32, Try.ntmps32
    go_wp2
    go_loopg [5, 13] n (fun k s5 s wr => ∃ i : Nat, s = .int .i64 (i : Int) ∧ i + k = n ∧ Below w.heap.size w wr ∧ l.take i = m.take i)
    case atStart => exact ⟨0, rfl, by omega, Below.refl _ _, by simp⟩
    case round =>
      obtain ⟨i, rfl, hi, B, ht⟩ := hrel
      by_cases hlt : i < n
      · obtain ⟨gu, ou, cu', hgu, _, _, _, ru⟩ := (hu.out.below B).there (by omega)
        obtain ⟨gv, ov, cv', hgv, _, _, _, rv⟩ := (hv.out.below B).there (by omega)
        cases hgu
        cases hgv
        have hli : (i : Int) < (n : Int) := by omega
        have c1 := ru _ _ (prs_get l i (by have := hn'.out; omega)).1
        have c3 := ru _ _ (prs_get l i (by have := hn'.out; omega)).2
        have c2 := rv _ _ (prs_get m i (by have := hm.out; omega)).1
        have c4 := rv _ _ (prs_get m i (by have := hm.out; omega)).2
        rw [← Nat.add_assoc] at c3 c4
        by_cases he : l[i]?.getD (0, 0) = m[i]?.getD (0, 0)
        · have ht' := take_step (0, 0) l m i (by have := hn'.out; omega) (by have := hm.out; omega) ht he
          rw [← he] at c2 c4
          generalize (l[i]?.getD (0, 0)).1 = y at *
          generalize (l[i]?.getD (0, 0)).2 = y' at *
          clear he ru rv ht
          have hB := Mr.hid B
          replace ht' := Mr.hid ht'
          clear B
          go_wp2
          go_quiet (fail)
          have hBq := Bx.draws wr.heap.size wr nq
          replace hB := hB.out.trans (hBq.mono hB.out.size)
          clear hBq c1 c2 c3 c4
          generalize wr.drewN nq = W6 at *
          replace hB := Mr.hid hB
          go_wp2
          go_roundg (gk - 1)
          case measure => omega
          case rel => exact ⟨i + 1, by simp, by omega, hB.out, ht'.out⟩
        · have hne := ne_step' (0, 0) l m i he
          replace hne := Mr.hid hne
          rcases hp : l[i]?.getD (0, 0) with ⟨y, y'⟩
          rcases hq : m[i]?.getD (0, 0) with ⟨z, z'⟩
          rw [hp] at he c1 c3
          rw [hq] at he c2 c4
          clear hp hq
          by_cases hy : y = z
          · have hy' : ¬ y' = z' := fun e => he (by rw [hy, e])
            subst hy
            have d1 : (y' == z') = false := by simpa using hy'
            clear he
            clear ru rv ht
            have hB := Mr.hid B
            clear B
            go_wp2
            go_quiet (fail)
            have hBq := Bx.draws wr.heap.size wr nq
            replace hB := hB.out.trans (hBq.mono hB.out.size)
            clear hBq c1 c2 c3 c4
            generalize wr.drewN nq = W6 at *
            replace hB := Mr.hid hB
            go_wp2
            go_ret
            exact ⟨by rw [hne.out]; rfl, hB.out⟩
          · have d1 : (y == z) = false := by simpa using hy
            clear he
            clear ru rv ht
            have hB := Mr.hid B
            clear B
            go_wp2
            go_quiet (fail)
            have hBq := Bx.draws wr.heap.size wr nq
            replace hB := hB.out.trans (hBq.mono hB.out.size)
            clear hBq c1 c2 c3 c4
            generalize wr.drewN nq = W6 at *
            replace hB := Mr.hid hB
            go_wp2
            go_ret
            exact ⟨by rw [hne.out]; rfl, hB.out⟩
      · obtain rfl : i = n := by omega
        have ha := all_eq' l m i hn'.out hm.out ht
        replace ha := Mr.hid ha
        have hB := Mr.hid B
        clear B ht
        go_wp2
        go_ret
        exact ⟨by rw [ha.out]; rfl, hB.out⟩
  · rw [len_ne' l m hlen]
    generalize l.length = n1 at *
    generalize m.length = n2 at *
    have d1 : ((n1 : Int) != (n2 : Int)) = true := by simp; omega
    clear hu hv
    go_enter Try.func32, Try.ntmps32
    go_wp2
    go_ret
    exact ⟨rfl, Below.refl _ _⟩
set_option maxRecDepth 100000 in
set_option maxHeartbeats 8000000 in
theorem mSame_any {W : World} {S : Nat → Prop} {u0 u1 u2 u3 u4 : Value} {x : Ct} (hu : CtAt W S u0 u1 u2 u3 u4 x) {T : Nat → Prop} {v0 v1 v2 v3 v4 : Value} {y : Ct} (hv : CtAt W T v0 v1 v2 v3 v4 y) (hsx : CtSm x) (hsy : CtSm y) :
    Calls Try.prog 12 #[.agg #[u0, u1, u2, u3, u4], .agg #[v0, v1, v2, v3, v4]] W fun e w' => e = .returned (.bool (ctB x y)) ∧ Below W.heap.size W w' := by
  obtain ⟨a0, c0, rfl, _⟩ := hu.cell.form
  obtain ⟨b0, d0, rfl, _⟩ := hv.cell.form
  obtain ⟨a1, c1, rfl, _⟩ := hu.stack.form
  obtain ⟨b1, d1, rfl, _⟩ := hv.stack.form
  obtain ⟨a2, c2, rfl, _⟩ := hu.queue.form
  obtain ⟨b2, d2, rfl, _⟩ := hv.queue.form
  obtain ⟨a3, c3, rfl, _⟩ := hu.set.form
  obtain ⟨b3, d3, rfl, _⟩ := hv.set.form
  obtain ⟨a4, c4, rfl, _⟩ := hu.table.form
  obtain ⟨b4, d4, rfl, _⟩ := hv.table.form
  have C0 := fun w' (hB : Below W.heap.size W w') => equalI_any (hu.below hB).cell (hv.below hB).cell hsx.cell hsy.cell
  have C1 := fun w' (hB : Below W.heap.size W w') => equalI_any (hu.below hB).stack (hv.below hB).stack hsx.stack hsy.stack
  have C2 := fun w' (hB : Below W.heap.size W w') => equalI_any (hu.below hB).queue (hv.below hB).queue hsx.queue hsy.queue
  have C3 := fun w' (hB : Below W.heap.size W w') => equalI_any (hu.below hB).set (hv.below hB).set hsx.set hsy.set
  have C4 := fun w' (hB : Below W.heap.size W w') => equalP_any (hu.below hB).table (hv.below hB).table hsx.table hsy.table
  have BX := fun w' (hB : Below (W.heap.size + 2) ((W.alloc (ctO (.slice a0 x.cell.length c0) (.slice a1 x.stack.length c1) (.slice a2 x.queue.length c2) (.slice a3 x.set.length c3) (.slice a4 x.table.length c4))).alloc (ctO (.slice b0 y.cell.length d0) (.slice b1 y.stack.length d1) (.slice b2 y.queue.length d2) (.slice b3 y.set.length d3) (.slice b4 y.table.length d4))) w') => (⟨ctO_cells ((hB.block _ (by omega)).trans (old_at (new_at W _ _ rfl) _)), ctO_cells ((hB.block (W.heap.size + 1) (by omega)).trans (new_at _ _ _ (by simp)))⟩ : _ ∧ _)
  have TW := fun w' (hB : Below (W.heap.size + 2) ((W.alloc (ctO (.slice a0 x.cell.length c0) (.slice a1 x.stack.length c1) (.slice a2 x.queue.length c2) (.slice a3 x.set.length c3) (.slice a4 x.table.length c4))).alloc (ctO (.slice b0 y.cell.length d0) (.slice b1 y.stack.length d1) (.slice b2 y.queue.length d2) (.slice b3 y.set.length d3) (.slice b4 y.table.length d4))) w') => ((((Below.refl W.heap.size W).alloc (Nat.le_refl _) _).alloc (by simp) _).trans (hB.mono (by omega)) : Below W.heap.size W w')
  have SZ := fun w' (hB : Below (W.heap.size + 2) ((W.alloc (ctO (.slice a0 x.cell.length c0) (.slice a1 x.stack.length c1) (.slice a2 x.queue.length c2) (.slice a3 x.set.length c3) (.slice a4 x.table.length c4))).alloc (ctO (.slice b0 y.cell.length d0) (.slice b1 y.stack.length d1) (.slice b2 y.queue.length d2) (.slice b3 y.set.length d3) (.slice b4 y.table.length d4))) w') => (by have := hB.size; simp at this; omega : W.heap.size + 2 ≤ w'.heap.size)
  have hB0 := Below.refl (W.heap.size + 2) ((W.alloc (ctO (.slice a0 x.cell.length c0) (.slice a1 x.stack.length c1) (.slice a2 x.queue.length c2) (.slice a3 x.set.length c3) (.slice a4 x.table.length c4))).alloc (ctO (.slice b0 y.cell.length d0) (.slice b1 y.stack.length d1) (.slice b2 y.queue.length d2) (.slice b3 y.set.length d3) (.slice b4 y.table.length d4)))
  obtain ⟨⟨y0, y1, y2, y3, y4, y5⟩, ⟨z0, z1, z2, z3, z4, z5⟩⟩ := BX _ hB0
  clear hu hv hsx hsy
  have eb : ctB x y = ((x.cell == y.cell) && (x.stack == y.stack) && (x.queue == y.queue) && (x.set == y.set) && decide (x.table = y.table)) := rfl
  rw [eb]
  clear eb
  generalize (x.cell == y.cell) = q0 at *
  generalize (x.stack == y.stack) = q1 at *
  generalize (x.queue == y.queue) = q2 at *
  generalize (x.set == y.set) = q3 at *
  generalize decide (x.table = y.table) = q4 at *
  generalize x.cell.length = n0 at *
  generalize y.cell.length = m0 at *
  generalize x.stack.length = n1 at *
  generalize y.stack.length = m1 at *
  generalize x.queue.length = n2 at *
  generalize y.queue.length = m2 at *
  generalize x.set.length = n3 at *
  generalize y.set.length = m3 at *
  generalize x.table.length = n4 at *
  generalize y.table.length = m4 at *
  unfold ctO at y0 y1 y2 y3 y4 y5 z0 z1 z2 z3 z4 z5 BX TW SZ hB0
  replace BX := Mr.hid BX
  replace TW := Mr.hid TW
  replace SZ := Mr.hid SZ
  replace C0 := Mr.hid C0
  replace C1 := Mr.hid C1
  replace C2 := Mr.hid C2
  replace C3 := Mr.hid C3
  replace C4 := Mr.hid C4
  replace hB0 := Mr.hid hB0
  cases q0 with
  | false =>
    have t0 : Hid True := trivial
    go_enter Try.func12, Try.ntmps12
    go_wp2_with (first | (clear t0; go_at_call 31; refine (C0.out _ (TW.out _ hB0.out)).mono ?_; rintro e w1 ⟨rfl, hB1⟩; replace hB1 := Mr.hid (hB0.out.trans (hB1.mono (SZ.out _ hB0.out))); clear y0 y1 y2 y3 y4 y5 z0 z1 z2 z3 z4 z5; obtain ⟨⟨y0, y1, y2, y3, y4, y5⟩, ⟨z0, z1, z2, z3, z4, z5⟩⟩ := BX.out _ hB1.out))
    go_ret
    exact ⟨by simp, TW.out _ hB1.out⟩
  | true =>
    cases q1 with
    | false =>
      have t0 : Hid True := trivial
      have t1 : Hid True := trivial
      go_enter Try.func12, Try.ntmps12
      go_wp2_with (first | (clear t0; go_at_call 31; refine (C0.out _ (TW.out _ hB0.out)).mono ?_; rintro e w1 ⟨rfl, hB1⟩; replace hB1 := Mr.hid (hB0.out.trans (hB1.mono (SZ.out _ hB0.out))); clear y0 y1 y2 y3 y4 y5 z0 z1 z2 z3 z4 z5; obtain ⟨⟨y0, y1, y2, y3, y4, y5⟩, ⟨z0, z1, z2, z3, z4, z5⟩⟩ := BX.out _ hB1.out) | (clear t1; go_at_call 31; refine (C1.out _ (TW.out _ hB1.out)).mono ?_; rintro e w2 ⟨rfl, hB2⟩; replace hB2 := Mr.hid (hB1.out.trans (hB2.mono (SZ.out _ hB1.out))); clear y0 y1 y2 y3 y4 y5 z0 z1 z2 z3 z4 z5; obtain ⟨⟨y0, y1, y2, y3, y4, y5⟩, ⟨z0, z1, z2, z3, z4, z5⟩⟩ := BX.out _ hB2.out))
      go_ret
      exact ⟨by simp, TW.out _ hB2.out⟩
    | true =>
      cases q2 with
      | false =>
        have t0 : Hid True := trivial
        have t1 : Hid True := trivial
        have t2 : Hid True := trivial
        go_enter Try.func12, Try.ntmps12
        go_wp2_with (first | (clear t0; go_at_call 31; refine (C0.out _ (TW.out _ hB0.out)).mono ?_; rintro e w1 ⟨rfl, hB1⟩; replace hB1 := Mr.hid (hB0.out.trans (hB1.mono (SZ.out _ hB0.out))); clear y0 y1 y2 y3 y4 y5 z0 z1 z2 z3 z4 z5; obtain ⟨⟨y0, y1, y2, y3, y4, y5⟩, ⟨z0, z1, z2, z3, z4, z5⟩⟩ := BX.out _ hB1.out) | (clear t1; go_at_call 31; refine (C1.out _ (TW.out _ hB1.out)).mono ?_; rintro e w2 ⟨rfl, hB2⟩; replace hB2 := Mr.hid (hB1.out.trans (hB2.mono (SZ.out _ hB1.out))); clear y0 y1 y2 y3 y4 y5 z0 z1 z2 z3 z4 z5; obtain ⟨⟨y0, y1, y2, y3, y4, y5⟩, ⟨z0, z1, z2, z3, z4, z5⟩⟩ := BX.out _ hB2.out) | (clear t2; go_at_call 31; refine (C2.out _ (TW.out _ hB2.out)).mono ?_; rintro e w3 ⟨rfl, hB3⟩; replace hB3 := Mr.hid (hB2.out.trans (hB3.mono (SZ.out _ hB2.out))); clear y0 y1 y2 y3 y4 y5 z0 z1 z2 z3 z4 z5; obtain ⟨⟨y0, y1, y2, y3, y4, y5⟩, ⟨z0, z1, z2, z3, z4, z5⟩⟩ := BX.out _ hB3.out))
        go_ret
        exact ⟨by simp, TW.out _ hB3.out⟩
      | true =>
        cases q3 with
        | false =>
          have t0 : Hid True := trivial
          have t1 : Hid True := trivial
          have t2 : Hid True := trivial
          have t3 : Hid True := trivial
          go_enter Try.func12, Try.ntmps12
          go_wp2_with (first | (clear t0; go_at_call 31; refine (C0.out _ (TW.out _ hB0.out)).mono ?_; rintro e w1 ⟨rfl, hB1⟩; replace hB1 := Mr.hid (hB0.out.trans (hB1.mono (SZ.out _ hB0.out))); clear y0 y1 y2 y3 y4 y5 z0 z1 z2 z3 z4 z5; obtain ⟨⟨y0, y1, y2, y3, y4, y5⟩, ⟨z0, z1, z2, z3, z4, z5⟩⟩ := BX.out _ hB1.out) | (clear t1; go_at_call 31; refine (C1.out _ (TW.out _ hB1.out)).mono ?_; rintro e w2 ⟨rfl, hB2⟩; replace hB2 := Mr.hid (hB1.out.trans (hB2.mono (SZ.out _ hB1.out))); clear y0 y1 y2 y3 y4 y5 z0 z1 z2 z3 z4 z5; obtain ⟨⟨y0, y1, y2, y3, y4, y5⟩, ⟨z0, z1, z2, z3, z4, z5⟩⟩ := BX.out _ hB2.out) | (clear t2; go_at_call 31; refine (C2.out _ (TW.out _ hB2.out)).mono ?_; rintro e w3 ⟨rfl, hB3⟩; replace hB3 := Mr.hid (hB2.out.trans (hB3.mono (SZ.out _ hB2.out))); clear y0 y1 y2 y3 y4 y5 z0 z1 z2 z3 z4 z5; obtain ⟨⟨y0, y1, y2, y3, y4, y5⟩, ⟨z0, z1, z2, z3, z4, z5⟩⟩ := BX.out _ hB3.out) | (clear t3; go_at_call 31; refine (C3.out _ (TW.out _ hB3.out)).mono ?_; rintro e w4 ⟨rfl, hB4⟩; replace hB4 := Mr.hid (hB3.out.trans (hB4.mono (SZ.out _ hB3.out))); clear y0 y1 y2 y3 y4 y5 z0 z1 z2 z3 z4 z5; obtain ⟨⟨y0, y1, y2, y3, y4, y5⟩, ⟨z0, z1, z2, z3, z4, z5⟩⟩ := BX.out _ hB4.out))
          go_ret
          exact ⟨by simp, TW.out _ hB4.out⟩
        | true =>
          have t0 : Hid True := trivial
          have t1 : Hid True := trivial
          have t2 : Hid True := trivial
          have t3 : Hid True := trivial
          have t4 : Hid True := trivial
          go_enter Try.func12, Try.ntmps12
          go_wp2_with (first | (clear t0; go_at_call 31; refine (C0.out _ (TW.out _ hB0.out)).mono ?_; rintro e w1 ⟨rfl, hB1⟩; replace hB1 := Mr.hid (hB0.out.trans (hB1.mono (SZ.out _ hB0.out))); clear y0 y1 y2 y3 y4 y5 z0 z1 z2 z3 z4 z5; obtain ⟨⟨y0, y1, y2, y3, y4, y5⟩, ⟨z0, z1, z2, z3, z4, z5⟩⟩ := BX.out _ hB1.out) | (clear t1; go_at_call 31; refine (C1.out _ (TW.out _ hB1.out)).mono ?_; rintro e w2 ⟨rfl, hB2⟩; replace hB2 := Mr.hid (hB1.out.trans (hB2.mono (SZ.out _ hB1.out))); clear y0 y1 y2 y3 y4 y5 z0 z1 z2 z3 z4 z5; obtain ⟨⟨y0, y1, y2, y3, y4, y5⟩, ⟨z0, z1, z2, z3, z4, z5⟩⟩ := BX.out _ hB2.out) | (clear t2; go_at_call 31; refine (C2.out _ (TW.out _ hB2.out)).mono ?_; rintro e w3 ⟨rfl, hB3⟩; replace hB3 := Mr.hid (hB2.out.trans (hB3.mono (SZ.out _ hB2.out))); clear y0 y1 y2 y3 y4 y5 z0 z1 z2 z3 z4 z5; obtain ⟨⟨y0, y1, y2, y3, y4, y5⟩, ⟨z0, z1, z2, z3, z4, z5⟩⟩ := BX.out _ hB3.out) | (clear t3; go_at_call 31; refine (C3.out _ (TW.out _ hB3.out)).mono ?_; rintro e w4 ⟨rfl, hB4⟩; replace hB4 := Mr.hid (hB3.out.trans (hB4.mono (SZ.out _ hB3.out))); clear y0 y1 y2 y3 y4 y5 z0 z1 z2 z3 z4 z5; obtain ⟨⟨y0, y1, y2, y3, y4, y5⟩, ⟨z0, z1, z2, z3, z4, z5⟩⟩ := BX.out _ hB4.out) | (clear t4; go_at_call 32; refine (C4.out _ (TW.out _ hB4.out)).mono ?_; rintro e w5 ⟨rfl, hB5⟩; replace hB5 := Mr.hid (hB4.out.trans (hB5.mono (SZ.out _ hB4.out))); clear y0 y1 y2 y3 y4 y5 z0 z1 z2 z3 z4 z5; obtain ⟨⟨y0, y1, y2, y3, y4, y5⟩, ⟨z0, z1, z2, z3, z4, z5⟩⟩ := BX.out _ hB5.out))
          go_ret
          exact ⟨by simp, TW.out _ hB5.out⟩
end Go.Proofs.Ytegbcocbopgghab.Md
/-
  Package model: Object, puts.
-/
namespace Go.Proofs.Ytegbcocbopgghab.Md
open Go.RowKit Mr
set_option linter.unusedVariables false
set_option linter.unusedSimpArgs false
set_option maxHeartbeats 4000000 in
theorem mObj (op : Int) (w : World) : Calls Try.prog 15 #[.int .i64 op] w fun e w' => e = .returned (.int .i64 (obj op)) ∧ w' = w := by
  by_cases h : op = 22 ∨ op = 23 ∨ op = 30 ∨ op = 31 ∨ op = 40 ∨ op = 41 ∨ op = 50 ∨ op = 51 ∨ op = 52 ∨ op = 60 ∨ op = 61 ∨ op = 62
  · rcases h with rfl | rfl | rfl | rfl | rfl | rfl | rfl | rfl | rfl | rfl | rfl | rfl
    all_goals
      go_enter Try.func15, Try.ntmps15
      go_wp2
      go_ret
      exact ⟨rfl, rfl⟩
  · have e : obj op = 0 := by
      unfold obj
      rw [if_neg (by omega), if_neg (by omega), if_neg (by omega), if_neg (by omega), if_neg (by omega)]
    rw [e]
    have d : ∀ k : Int, (k = 22 ∨ k = 23 ∨ k = 30 ∨ k = 31 ∨ k = 40 ∨ k = 41 ∨ k = 50 ∨ k = 51 ∨ k = 52 ∨ k = 60 ∨ k = 61 ∨ k = 62) → (op == k) = false := fun k hk => by
      rw [beq_eq_false_iff_ne]; rintro rfl; exact h hk
    have d0 := d 22 (by simp)
    have d1 := d 23 (by simp)
    have d2 := d 30 (by simp)
    have d3 := d 31 (by simp)
    have d4 := d 40 (by simp)
    have d5 := d 41 (by simp)
    have d6 := d 50 (by simp)
    have d7 := d 51 (by simp)
    have d8 := d 52 (by simp)
    have d9 := d 60 (by simp)
    have da := d 61 (by simp)
    have db := d 62 (by simp)
    clear d h e
    go_enter Try.func15, Try.ntmps15
    go_wp2
    go_ret
    exact ⟨rfl, rfl⟩
theorem mObject_any (op : Int) (W : World) : Calls Try.prog 15 #[.int .i64 op] W fun e w' => e = .returned (.int .i64 (obj op)) ∧ Below W.heap.size W w' :=
  (mObj op W).mono (by rintro e w' ⟨rfl, rfl⟩; exact ⟨rfl, Below.refl _ _⟩)
end Go.Proofs.Ytegbcocbopgghab.Md
