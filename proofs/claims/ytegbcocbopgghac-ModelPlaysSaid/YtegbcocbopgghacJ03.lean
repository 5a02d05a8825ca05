import Derived.Test.YtegbcocbopgghacJ01
import Derived.Test.YtegbcocbopgghacJ02
import Derived.Deep.RegionHeld3
import Derived.BigQuiet
import Derived.Deep.LoopGhost
/-
  reclaimmodel's SameInts and Same, of any lists and contents.
-/
namespace Go.Proofs.Ytegbcocbopgghac.Md
open Go.RowKit Mr
set_option linter.unusedVariables false
set_option linter.unusedSimpArgs false
/-- Alike. -/
def ctB (x y : Ct) : Bool := (x.cell == y.cell) && (x.stack == y.stack) && (x.queue == y.queue) && (x.set == y.set) && decide (x.table = y.table)
theorem take_step {α : Type} [DecidableEq α] (d : α) (l m : List α) (i : Nat) (h1 : i < l.length) (h2 : i < m.length) (h : l.take i = m.take i) (he : l[i]?.getD d = m[i]?.getD d) : l.take (i + 1) = m.take (i + 1) := by
  rw [List.take_add_one, List.take_add_one, h]
  rw [List.getElem?_eq_getElem h1, List.getElem?_eq_getElem h2] at he ⊢
  simp only [Option.getD_some] at he
  rw [he]
theorem ne_step {α : Type} [DecidableEq α] (d : α) (l m : List α) (i : Nat) (he : l[i]?.getD d ≠ m[i]?.getD d) : (l == m) = false := by
  rw [beq_eq_false_iff_ne]
  rintro rfl
  exact he rfl
theorem len_ne {α : Type} [DecidableEq α] (l m : List α) (h : l.length ≠ m.length) : (l == m) = false := by
  rw [beq_eq_false_iff_ne]
  rintro rfl
  exact h rfl
theorem ne_step' {α : Type} [DecidableEq α] (d : α) (l m : List α) (i : Nat) (he : l[i]?.getD d ≠ m[i]?.getD d) : decide (l = m) = false := by
  rw [decide_eq_false_iff_not]
  rintro rfl
  exact he rfl
theorem len_ne' {α : Type} [DecidableEq α] (l m : List α) (h : l.length ≠ m.length) : decide (l = m) = false := by
  rw [decide_eq_false_iff_not]
  rintro rfl
  exact h rfl
theorem all_eq' {α : Type} [DecidableEq α] (l m : List α) (n : Nat) (h1 : l.length = n) (h2 : m.length = n) (h : l.take n = m.take n) : decide (l = m) = true := by
  rw [List.take_of_length_le (by omega), List.take_of_length_le (by omega)] at h
  rw [h]; simp
theorem all_eq {α : Type} [DecidableEq α] (l m : List α) (n : Nat) (h1 : l.length = n) (h2 : m.length = n) (h : l.take n = m.take n) : (l == m) = true := by
  rw [List.take_of_length_le (by omega), List.take_of_length_le (by omega)] at h
  rw [h]; simp
set_option maxRecDepth 100000 in
set_option maxHeartbeats 4000000 in
theorem sameInts_any {w : World} {S T : Nat → Prop} {u v : Value} {l m : List Int} (hu : Sl w S 1 u l.length (ints l)) (hv : Sl w T 1 v m.length (ints m)) (hsm : l.length * 8 ≤ 281474976710656) (hsm2 : m.length * 8 ≤ 281474976710656) :
    Calls Try.prog 31 #[u, v] w fun e w' => e = .returned (.bool (l == m)) ∧ Below w.heap.size w w' := by
  obtain ⟨au, cu, rfl, hcu⟩ := hu.form
  obtain ⟨av, cv, rfl, hcv⟩ := hv.form
  by_cases hlen : l.length = m.length
  · obtain ⟨n, hn⟩ : ∃ n, n = l.length := ⟨_, rfl⟩
    have hm : m.length = n := by omega
    rw [← hn] at hcu hsm
    rw [hm] at hcv
    have dl : ((n : Int) != (n : Int)) = false := by simp
    rw [← hn, hm]
    have hn' : l.length = n := hn.symm
    rw [hn'] at hu
    rw [hm] at hv
    clear hlen hsm2
    replace hn' := Mr.hid hn'
    replace hm := Mr.hid hm
    replace hu := Mr.hid hu
    replace hv := Mr.hid hv
    clear hn
    go_enter Try.func31, Try.ntmps31
    go_wp2
    go_loopg [5] n (fun k s wr => ∃ i : Nat, s = .int .i64 (i : Int) ∧ i + k = n ∧ Below w.heap.size w wr ∧ l.take i = m.take i)
    case atStart => exact ⟨0, rfl, by omega, Below.refl _ _, by simp⟩
    case round =>
      obtain ⟨i, rfl, hi, B, ht⟩ := hrel
      by_cases hlt : i < n
      · obtain ⟨gu, ou, cu', hgu, _, _, _, ru⟩ := (hu.out.below B).there (by omega)
        obtain ⟨gv, ov, cv', hgv, _, _, _, rv⟩ := (hv.out.below B).there (by omega)
        cases hgu
        cases hgv
        have c1 := ru i _ (ints_get l i (by have := hn'.out; omega))
        have c2 := rv i _ (ints_get m i (by have := hm.out; omega))
        have hli : (i : Int) < (n : Int) := by omega
        by_cases he : l[i]?.getD 0 = m[i]?.getD 0
        · have ht' := take_step 0 l m i (by have := hn'.out; omega) (by have := hm.out; omega) ht he
          rw [← he] at c2
          generalize l[i]?.getD 0 = y at *
          clear he ru rv ht
          have hB := Mr.hid B
          replace ht' := Mr.hid ht'
          clear B
          go_wp2
          go_quiet (fail)
          have hBq := Bx.draws wr.heap.size wr nq
          replace hB := hB.out.trans (hBq.mono hB.out.size)
          clear hBq c1 c2
          generalize wr.drewN nq = W6 at *
          replace hB := Mr.hid hB
          go_wp2
          go_roundg (gk - 1)
          case measure => omega
          case rel => exact ⟨i + 1, by simp, by omega, hB.out, ht'.out⟩
        · have hne := ne_step 0 l m i he
          replace hne := Mr.hid hne
          generalize l[i]?.getD 0 = y at *
          generalize m[i]?.getD 0 = z at *
          have d1 : (y != z) = true := by simpa using he
          have d2 : (y == z) = false := by simpa using he
          clear ru rv ht
          have hB := Mr.hid B
          clear B
          go_wp2
          go_quiet (fail)
          have hBq := Bx.draws wr.heap.size wr nq
          replace hB := hB.out.trans (hBq.mono hB.out.size)
          clear hBq c1 c2
          generalize wr.drewN nq = W6 at *
          replace hB := Mr.hid hB
          go_wp2
          go_ret
          exact ⟨by rw [hne.out]; rfl, hB.out⟩
      · obtain rfl : i = n := by omega
        have ha := all_eq l m i hn'.out hm.out ht
        replace ha := Mr.hid ha
        have hB := Mr.hid B
        clear B ht
        go_wp2
        go_ret
        exact ⟨by rw [ha.out]; rfl, hB.out⟩
  · rw [len_ne l m hlen]
    generalize l.length = n1 at *
    generalize m.length = n2 at *
    have d1 : ((n1 : Int) != (n2 : Int)) = true := by simp; omega
    clear hu hv
    go_enter Try.func31, Try.ntmps31
    go_wp2
    go_ret
    exact ⟨rfl, Below.refl _ _⟩
set_option maxRecDepth 100000 in
set_option maxHeartbeats 8000000 in
theorem same_any {w : World} {S T : Nat → Prop} {u0 u1 u2 u3 u4 v0 v1 v2 v3 v4 : Value} {x y : Ct} (hu : CtAt w S u0 u1 u2 u3 u4 x) (hv : CtAt w T v0 v1 v2 v3 v4 y) (hsx : CtSm x) (hsy : CtSm y) :
    Calls Try.prog 17 #[.agg #[u0, u1, u2, u3, u4], .agg #[v0, v1, v2, v3, v4]] w fun e w' => e = .returned (.bool (ctB x y)) ∧ Below w.heap.size w w' := by
  obtain ⟨a0, c0, rfl, _⟩ := hu.cell.form
  obtain ⟨b0, d0, rfl, _⟩ := hv.cell.form
  obtain ⟨a1, c1, rfl, _⟩ := hu.stack.form
  obtain ⟨b1, d1, rfl, _⟩ := hv.stack.form
  obtain ⟨a2, c2, rfl, _⟩ := hu.queue.form
  obtain ⟨b2, d2, rfl, _⟩ := hv.queue.form
  obtain ⟨a3, c3, rfl, _⟩ := hu.set.form
  obtain ⟨b3, d3, rfl, _⟩ := hv.set.form
  obtain ⟨a4, c4, rfl, _⟩ := hu.table.form
  obtain ⟨b4, d4, rfl, _⟩ := hv.table.form
  have C0 := fun w' (hB : Below w.heap.size w w') => sameInts_any (hu.below hB).cell (hv.below hB).cell hsx.cell hsy.cell
  have C1 := fun w' (hB : Below w.heap.size w w') => sameInts_any (hu.below hB).stack (hv.below hB).stack hsx.stack hsy.stack
  have C2 := fun w' (hB : Below w.heap.size w w') => sameInts_any (hu.below hB).queue (hv.below hB).queue hsx.queue hsy.queue
  have C3 := fun w' (hB : Below w.heap.size w w') => sameInts_any (hu.below hB).set (hv.below hB).set hsx.set hsy.set
  have tu := fun w' (hB : Below w.heap.size w w') => (hu.below hB).table
  have tv := fun w' (hB : Below w.heap.size w w') => (hv.below hB).table
  have sx := hsx.table
  have sy := hsy.table
  have uO : ∀ w', Below (w.heap.size + 2) ((w.alloc (ctO (.slice a0 x.cell.length c0) (.slice a1 x.stack.length c1) (.slice a2 x.queue.length c2) (.slice a3 x.set.length c3) (.slice a4 x.table.length c4))).alloc (ctO (.slice b0 y.cell.length d0) (.slice b1 y.stack.length d1) (.slice b2 y.queue.length d2) (.slice b3 y.set.length d3) (.slice b4 y.table.length d4))) w' → w'.heap[w.heap.size]? = some (ctO (.slice a0 x.cell.length c0) (.slice a1 x.stack.length c1) (.slice a2 x.queue.length c2) (.slice a3 x.set.length c3) (.slice a4 x.table.length c4)) ∧ w'.heap[w.heap.size + 1]? = some (ctO (.slice b0 y.cell.length d0) (.slice b1 y.stack.length d1) (.slice b2 y.queue.length d2) (.slice b3 y.set.length d3) (.slice b4 y.table.length d4)) := fun w' hB => ⟨(hB.block _ (by omega)).trans (old_at (new_at w _ _ rfl) _), (hB.block _ (by omega)).trans (new_at _ _ _ (by simp))⟩
  have BX := fun w' hB => (show _ ∧ _ ∧ True from ⟨ctO_cells (uO w' hB).1, ctO_cells (uO w' hB).2, trivial⟩)
  have TW : ∀ w', Below (w.heap.size + 2) ((w.alloc (ctO (.slice a0 x.cell.length c0) (.slice a1 x.stack.length c1) (.slice a2 x.queue.length c2) (.slice a3 x.set.length c3) (.slice a4 x.table.length c4))).alloc (ctO (.slice b0 y.cell.length d0) (.slice b1 y.stack.length d1) (.slice b2 y.queue.length d2) (.slice b3 y.set.length d3) (.slice b4 y.table.length d4))) w' → Below w.heap.size w w' := fun w' hB => (((Below.refl w.heap.size w).alloc (Nat.le_refl _) _).alloc (by simp) _).trans (hB.mono (by omega))
  have SZ : ∀ w', Below (w.heap.size + 2) ((w.alloc (ctO (.slice a0 x.cell.length c0) (.slice a1 x.stack.length c1) (.slice a2 x.queue.length c2) (.slice a3 x.set.length c3) (.slice a4 x.table.length c4))).alloc (ctO (.slice b0 y.cell.length d0) (.slice b1 y.stack.length d1) (.slice b2 y.queue.length d2) (.slice b3 y.set.length d3) (.slice b4 y.table.length d4))) w' → w.heap.size + 2 ≤ w'.heap.size := fun w' hB => by have := hB.size; simp at this; omega
  have hB0 := Below.refl (w.heap.size + 2) ((w.alloc (ctO (.slice a0 x.cell.length c0) (.slice a1 x.stack.length c1) (.slice a2 x.queue.length c2) (.slice a3 x.set.length c3) (.slice a4 x.table.length c4))).alloc (ctO (.slice b0 y.cell.length d0) (.slice b1 y.stack.length d1) (.slice b2 y.queue.length d2) (.slice b3 y.set.length d3) (.slice b4 y.table.length d4)))
  have PX := fun i h => prs_get x.table i h
  have PY := fun i h => prs_get y.table i h
  clear uO hu hv hsx hsy
  obtain ⟨⟨y0, y1, y2, y3, y4, y5⟩, ⟨z0, z1, z2, z3, z4, z5⟩, -⟩ := BX _ hB0
  unfold ctB
  generalize hx4 : x.table = X4 at *
  generalize hy4 : y.table = Y4 at *
  clear hx4 hy4
  generalize (x.cell == y.cell) = e0 at *
  generalize x.cell.length = n0 at *
  generalize y.cell.length = m0 at *
  generalize (x.stack == y.stack) = e1 at *
  generalize x.stack.length = n1 at *
  generalize y.stack.length = m1 at *
  generalize (x.queue == y.queue) = e2 at *
  generalize x.queue.length = n2 at *
  generalize y.queue.length = m2 at *
  generalize (x.set == y.set) = e3 at *
  generalize x.set.length = n3 at *
  generalize y.set.length = m3 at *
  unfold ctO at y0 y1 y2 y3 y4 z0 z1 z2 z3 z4 BX TW hB0 SZ
  replace C0 := Mr.hid C0
  replace C1 := Mr.hid C1
  replace C2 := Mr.hid C2
  replace C3 := Mr.hid C3
  replace tu := Mr.hid tu
  replace tv := Mr.hid tv
  replace BX := Mr.hid BX
  replace TW := Mr.hid TW
  replace PX := Mr.hid PX
  replace PY := Mr.hid PY
  replace SZ := Mr.hid SZ
  replace hB0 := Mr.hid hB0
  cases e0 with
  | false =>
    simp only [Bool.false_and, Bool.true_and]
    go_enter Try.func17, Try.ntmps17
    go_wp2_with (first | (go_at_call 31; refine (C0.out _ (TW.out _ hB0.out)).mono ?_; clear C0; rintro e w1 ⟨rfl, hB1⟩; replace hB1 := Mr.hid (hB0.out.trans (hB1.mono (SZ.out _ hB0.out))); clear y0 y1 y2 y3 y4 y5 z0 z1 z2 z3 z4 z5; obtain ⟨⟨y0, y1, y2, y3, y4, y5⟩, ⟨z0, z1, z2, z3, z4, z5⟩, -⟩ := BX.out w1 hB1.out))
    go_ret
    exact ⟨rfl, TW.out _ hB1.out⟩
  | true =>
    cases e1 with
    | false =>
      simp only [Bool.false_and, Bool.true_and]
      go_enter Try.func17, Try.ntmps17
      go_wp2_with (first | (go_at_call 31; refine (C0.out _ (TW.out _ hB0.out)).mono ?_; clear C0; rintro e w1 ⟨rfl, hB1⟩; replace hB1 := Mr.hid (hB0.out.trans (hB1.mono (SZ.out _ hB0.out))); clear y0 y1 y2 y3 y4 y5 z0 z1 z2 z3 z4 z5; obtain ⟨⟨y0, y1, y2, y3, y4, y5⟩, ⟨z0, z1, z2, z3, z4, z5⟩, -⟩ := BX.out w1 hB1.out) | (go_at_call 31; refine (C1.out _ (TW.out _ hB1.out)).mono ?_; clear C1; rintro e w2 ⟨rfl, hB2⟩; replace hB2 := Mr.hid (hB1.out.trans (hB2.mono (SZ.out _ hB1.out))); clear y0 y1 y2 y3 y4 y5 z0 z1 z2 z3 z4 z5; obtain ⟨⟨y0, y1, y2, y3, y4, y5⟩, ⟨z0, z1, z2, z3, z4, z5⟩, -⟩ := BX.out w2 hB2.out))
      go_ret
      exact ⟨rfl, TW.out _ hB2.out⟩
    | true =>
      cases e2 with
      | false =>
        simp only [Bool.false_and, Bool.true_and]
        go_enter Try.func17, Try.ntmps17
        go_wp2_with (first | (go_at_call 31; refine (C0.out _ (TW.out _ hB0.out)).mono ?_; clear C0; rintro e w1 ⟨rfl, hB1⟩; replace hB1 := Mr.hid (hB0.out.trans (hB1.mono (SZ.out _ hB0.out))); clear y0 y1 y2 y3 y4 y5 z0 z1 z2 z3 z4 z5; obtain ⟨⟨y0, y1, y2, y3, y4, y5⟩, ⟨z0, z1, z2, z3, z4, z5⟩, -⟩ := BX.out w1 hB1.out) | (go_at_call 31; refine (C1.out _ (TW.out _ hB1.out)).mono ?_; clear C1; rintro e w2 ⟨rfl, hB2⟩; replace hB2 := Mr.hid (hB1.out.trans (hB2.mono (SZ.out _ hB1.out))); clear y0 y1 y2 y3 y4 y5 z0 z1 z2 z3 z4 z5; obtain ⟨⟨y0, y1, y2, y3, y4, y5⟩, ⟨z0, z1, z2, z3, z4, z5⟩, -⟩ := BX.out w2 hB2.out) | (go_at_call 31; refine (C2.out _ (TW.out _ hB2.out)).mono ?_; clear C2; rintro e w3 ⟨rfl, hB3⟩; replace hB3 := Mr.hid (hB2.out.trans (hB3.mono (SZ.out _ hB2.out))); clear y0 y1 y2 y3 y4 y5 z0 z1 z2 z3 z4 z5; obtain ⟨⟨y0, y1, y2, y3, y4, y5⟩, ⟨z0, z1, z2, z3, z4, z5⟩, -⟩ := BX.out w3 hB3.out))
        go_ret
        exact ⟨rfl, TW.out _ hB3.out⟩
      | true =>
        cases e3 with
        | false =>
          simp only [Bool.false_and, Bool.true_and]
          go_enter Try.func17, Try.ntmps17
          go_wp2_with (first | (go_at_call 31; refine (C0.out _ (TW.out _ hB0.out)).mono ?_; clear C0; rintro e w1 ⟨rfl, hB1⟩; replace hB1 := Mr.hid (hB0.out.trans (hB1.mono (SZ.out _ hB0.out))); clear y0 y1 y2 y3 y4 y5 z0 z1 z2 z3 z4 z5; obtain ⟨⟨y0, y1, y2, y3, y4, y5⟩, ⟨z0, z1, z2, z3, z4, z5⟩, -⟩ := BX.out w1 hB1.out) | (go_at_call 31; refine (C1.out _ (TW.out _ hB1.out)).mono ?_; clear C1; rintro e w2 ⟨rfl, hB2⟩; replace hB2 := Mr.hid (hB1.out.trans (hB2.mono (SZ.out _ hB1.out))); clear y0 y1 y2 y3 y4 y5 z0 z1 z2 z3 z4 z5; obtain ⟨⟨y0, y1, y2, y3, y4, y5⟩, ⟨z0, z1, z2, z3, z4, z5⟩, -⟩ := BX.out w2 hB2.out) | (go_at_call 31; refine (C2.out _ (TW.out _ hB2.out)).mono ?_; clear C2; rintro e w3 ⟨rfl, hB3⟩; replace hB3 := Mr.hid (hB2.out.trans (hB3.mono (SZ.out _ hB2.out))); clear y0 y1 y2 y3 y4 y5 z0 z1 z2 z3 z4 z5; obtain ⟨⟨y0, y1, y2, y3, y4, y5⟩, ⟨z0, z1, z2, z3, z4, z5⟩, -⟩ := BX.out w3 hB3.out) | (go_at_call 31; refine (C3.out _ (TW.out _ hB3.out)).mono ?_; clear C3; rintro e w4 ⟨rfl, hB4⟩; replace hB4 := Mr.hid (hB3.out.trans (hB4.mono (SZ.out _ hB3.out))); clear y0 y1 y2 y3 y4 y5 z0 z1 z2 z3 z4 z5; obtain ⟨⟨y0, y1, y2, y3, y4, y5⟩, ⟨z0, z1, z2, z3, z4, z5⟩, -⟩ := BX.out w4 hB4.out))
          go_ret
          exact ⟨rfl, TW.out _ hB4.out⟩
        | true =>
          simp only [Bool.true_and]
          generalize hn4 : X4.length = n4 at *
          generalize hm4 : Y4.length = m4 at *
          by_cases hnm : n4 = m4
          · subst hnm
            have dl : ((n4 : Int) != (n4 : Int)) = false := by simp
            replace hn4 := Mr.hid hn4
            replace hm4 := Mr.hid hm4
            go_enter Try.func17, Try.ntmps17
            go_wp2_with (first | (go_at_call 31; refine (C0.out _ (TW.out _ hB0.out)).mono ?_; clear C0; rintro e w1 ⟨rfl, hB1⟩; replace hB1 := Mr.hid (hB0.out.trans (hB1.mono (SZ.out _ hB0.out))); clear y0 y1 y2 y3 y4 y5 z0 z1 z2 z3 z4 z5; obtain ⟨⟨y0, y1, y2, y3, y4, y5⟩, ⟨z0, z1, z2, z3, z4, z5⟩, -⟩ := BX.out w1 hB1.out) | (go_at_call 31; refine (C1.out _ (TW.out _ hB1.out)).mono ?_; clear C1; rintro e w2 ⟨rfl, hB2⟩; replace hB2 := Mr.hid (hB1.out.trans (hB2.mono (SZ.out _ hB1.out))); clear y0 y1 y2 y3 y4 y5 z0 z1 z2 z3 z4 z5; obtain ⟨⟨y0, y1, y2, y3, y4, y5⟩, ⟨z0, z1, z2, z3, z4, z5⟩, -⟩ := BX.out w2 hB2.out) | (go_at_call 31; refine (C2.out _ (TW.out _ hB2.out)).mono ?_; clear C2; rintro e w3 ⟨rfl, hB3⟩; replace hB3 := Mr.hid (hB2.out.trans (hB3.mono (SZ.out _ hB2.out))); clear y0 y1 y2 y3 y4 y5 z0 z1 z2 z3 z4 z5; obtain ⟨⟨y0, y1, y2, y3, y4, y5⟩, ⟨z0, z1, z2, z3, z4, z5⟩, -⟩ := BX.out w3 hB3.out) | (go_at_call 31; refine (C3.out _ (TW.out _ hB3.out)).mono ?_; clear C3; rintro e w4 ⟨rfl, hB4⟩; replace hB4 := Mr.hid (hB3.out.trans (hB4.mono (SZ.out _ hB3.out))); clear y0 y1 y2 y3 y4 y5 z0 z1 z2 z3 z4 z5; obtain ⟨⟨y0, y1, y2, y3, y4, y5⟩, ⟨z0, z1, z2, z3, z4, z5⟩, -⟩ := BX.out w4 hB4.out))
            clear y0 y1 y2 y3 y4 y5 z0 z1 z2 z3 z4 z5 hB0 hB1 hB2 hB3
            go_loopg [5] n4 (fun k s wr => ∃ i : Nat, s = .int .i64 (i : Int) ∧ i + k = n4 ∧ Below w4.heap.size w4 wr ∧ X4.take i = Y4.take i)
            case atStart => exact ⟨0, rfl, by omega, Below.refl _ _, by simp⟩
            case round =>
              obtain ⟨i, rfl, hi, B, ht⟩ := hrel
              have B' := hB4.out.trans (B.mono (SZ.out _ hB4.out))
              obtain ⟨⟨-, -, -, -, y4, y5⟩, ⟨-, -, -, -, z4, z5⟩, -⟩ := BX.out wr B'
              have BT := TW.out _ B'
              by_cases hlt : i < n4
              · have hu := tu.out wr BT
                have hv := tv.out wr BT
                obtain ⟨gu, ou, cu', hgu, _, _, hul, ru⟩ := hu.there (by omega)
                obtain ⟨gv, ov, cv', hgv, _, _, hvl, rv⟩ := hv.there (by omega)
                cases hgu
                cases hgv
                have hl1 : i < X4.length := by have := hn4.out; omega
                have hl2 : i < Y4.length := by have := hm4.out; omega
                obtain ⟨p1, p2⟩ := prs_get X4 i hl1
                obtain ⟨p3, p4⟩ := prs_get Y4 i hl2
                have k1 := ru _ _ p1
                have k2 := ru _ _ p2
                have k3 := rv _ _ p3
                have k4 := rv _ _ p4
                have stp := take_step (0, 0) X4 Y4 i hl1 hl2 ht
                have nst := ne_step' (0, 0) X4 Y4 i
                rcases hq : X4[i]?.getD (0, 0) with ⟨q1, q2⟩
                rcases hr : Y4[i]?.getD (0, 0) with ⟨r1, r2⟩
                rw [hq] at k1 k2 stp nst
                rw [hr] at k3 k4 stp nst
                simp only at k1 k2 k3 k4
                rw [← Nat.add_assoc] at k2 k4
                have hli : (i : Int) < (n4 : Int) := by omega
                have hB := Mr.hid B
                clear B B' hu hv p1 p2 p3 p4 hq hr ru rv ht hl1 hl2
                by_cases hk : q1 = r1
                · subst hk
                  by_cases hw : q2 = r2
                  · subst hw
                    have st := stp rfl
                    clear stp nst
                    replace st := Mr.hid st
                    go_wp2
                    go_quiet (fail)
                    have hBq := Bx.draws wr.heap.size wr nq
                    replace hB := hB.out.trans (hBq.mono hB.out.size)
                    clear hBq y4 y5 z4 z5 k1 k2 k3 k4 hul hvl BT
                    generalize wr.drewN nq = W6 at *
                    replace hB := Mr.hid hB
                    go_wp2
                    go_roundg (gk - 1)
                    case measure => omega
                    case rel => exact ⟨i + 1, by simp, by omega, hB.out, st.out⟩
                  · have ne := nst (fun e => hw (by injection e))
                    have d1 : (q2 != r2) = true := by simpa using hw
                    have d2 : (q2 == r2) = false := by simpa using hw
                    clear stp nst
                    replace ne := Mr.hid ne
                    replace BT := Mr.hid BT
                    go_wp2
                    go_quiet (fail)
                    have hBq := Bx.draws w.heap.size wr nq
                    have hE := BT.out.trans hBq
                    clear hBq y4 y5 z4 z5 k1 k2 k3 k4 hul hvl BT
                    generalize wr.drewN nq = W6 at *
                    replace hE := Mr.hid hE
                    go_wp2
                    go_ret
                    exact ⟨by rw [ne.out]; rfl, hE.out⟩
                · have ne := nst (fun e => hk (by injection e))
                  have d1 : (q1 != r1) = true := by simpa using hk
                  have d2 : (q1 == r1) = false := by simpa using hk
                  clear stp nst
                  replace ne := Mr.hid ne
                  replace BT := Mr.hid BT
                  go_wp2
                  go_quiet (fail)
                  have hBq := Bx.draws w.heap.size wr nq
                  have hE := BT.out.trans hBq
                  clear hBq y4 y5 z4 z5 k1 k2 k3 k4 hul hvl BT
                  generalize wr.drewN nq = W6 at *
                  replace hE := Mr.hid hE
                  go_wp2
                  go_ret
                  exact ⟨by rw [ne.out]; rfl, hE.out⟩
              · obtain rfl : i = n4 := by omega
                have ha := all_eq' X4 Y4 i hn4.out hm4.out ht
                replace ha := Mr.hid ha
                replace BT := Mr.hid BT
                clear B B' ht
                go_wp2
                go_ret
                exact ⟨by rw [ha.out]; rfl, BT.out⟩
          · rw [len_ne' X4 Y4 (by omega)]
            have d1 : ((n4 : Int) != (m4 : Int)) = true := by simp; omega
            replace hn4 := Mr.hid hn4
            replace hm4 := Mr.hid hm4
            go_enter Try.func17, Try.ntmps17
            go_wp2_with (first | (go_at_call 31; refine (C0.out _ (TW.out _ hB0.out)).mono ?_; clear C0; rintro e w1 ⟨rfl, hB1⟩; replace hB1 := Mr.hid (hB0.out.trans (hB1.mono (SZ.out _ hB0.out))); clear y0 y1 y2 y3 y4 y5 z0 z1 z2 z3 z4 z5; obtain ⟨⟨y0, y1, y2, y3, y4, y5⟩, ⟨z0, z1, z2, z3, z4, z5⟩, -⟩ := BX.out w1 hB1.out) | (go_at_call 31; refine (C1.out _ (TW.out _ hB1.out)).mono ?_; clear C1; rintro e w2 ⟨rfl, hB2⟩; replace hB2 := Mr.hid (hB1.out.trans (hB2.mono (SZ.out _ hB1.out))); clear y0 y1 y2 y3 y4 y5 z0 z1 z2 z3 z4 z5; obtain ⟨⟨y0, y1, y2, y3, y4, y5⟩, ⟨z0, z1, z2, z3, z4, z5⟩, -⟩ := BX.out w2 hB2.out) | (go_at_call 31; refine (C2.out _ (TW.out _ hB2.out)).mono ?_; clear C2; rintro e w3 ⟨rfl, hB3⟩; replace hB3 := Mr.hid (hB2.out.trans (hB3.mono (SZ.out _ hB2.out))); clear y0 y1 y2 y3 y4 y5 z0 z1 z2 z3 z4 z5; obtain ⟨⟨y0, y1, y2, y3, y4, y5⟩, ⟨z0, z1, z2, z3, z4, z5⟩, -⟩ := BX.out w3 hB3.out) | (go_at_call 31; refine (C3.out _ (TW.out _ hB3.out)).mono ?_; clear C3; rintro e w4 ⟨rfl, hB4⟩; replace hB4 := Mr.hid (hB3.out.trans (hB4.mono (SZ.out _ hB3.out))); clear y0 y1 y2 y3 y4 y5 z0 z1 z2 z3 z4 z5; obtain ⟨⟨y0, y1, y2, y3, y4, y5⟩, ⟨z0, z1, z2, z3, z4, z5⟩, -⟩ := BX.out w4 hB4.out))
            go_ret
            exact ⟨rfl, TW.out _ hB4.out⟩
end Go.Proofs.Ytegbcocbopgghac.Md
/-
  reclaimmodel.May, of any contents.
-/
namespace Go.Proofs.Ytegbcocbopgghac.Md
open Go.RowKit Mr
set_option linter.unusedVariables false
set_option linter.unusedSimpArgs false
/-- Strictly rising, none twice. -/
def Ris (l : List Int) : Prop := ∀ j, j + 1 < l.length → l[j]?.getD 0 < l[j + 1]?.getD 0
/-- Contents that may be. -/
def May (x : Ct) : Prop := x.cell.length ≤ 1 ∧ Ris x.set ∧ Ris (x.table.map Prod.fst)
theorem ris_step {l : List Int} {i : Nat} (h : ∀ j, j + 1 < i → l[j]?.getD 0 < l[j + 1]?.getD 0) (hi : 0 < i) (hs : l[i - 1]?.getD 0 < l[i]?.getD 0) : ∀ j, j + 1 < i + 1 → l[j]?.getD 0 < l[j + 1]?.getD 0 := fun j hj => by
  by_cases e : j + 1 = i
  · subst e; simpa using hs
  · exact h j (by omega)
theorem key_get (l : List (Int × Int)) (i : Nat) : (l.map Prod.fst)[i]?.getD 0 = (l[i]?.getD (0, 0)).1 := by
  rw [List.getElem?_map]
  cases l[i]? <;> rfl
theorem i64w (x : Int) (h1 : -9223372036854775808 ≤ x) (h2 : x ≤ 9223372036854775807) : IntKind.i64.wrap x = x := by
  simp [IntKind.wrap, IntKind.signed, IntKind.bits]; omega
set_option maxRecDepth 100000 in
set_option maxHeartbeats 8000000 in
theorem may_any {w : World} {S : Nat → Prop} {u0 u1 u2 u3 u4 : Value} {x : Ct} (hu : CtAt w S u0 u1 u2 u3 u4 x) (hsx : CtSm x) (b : Bool) (hb : b = true ↔ May x) :
    Calls Try.prog 18 #[.agg #[u0, u1, u2, u3, u4]] w fun e w' => e = .returned (.bool b) ∧ Below w.heap.size w w' := by
  obtain ⟨a0, c0, rfl, _⟩ := hu.cell.form
  obtain ⟨a1, c1, rfl, _⟩ := hu.stack.form
  obtain ⟨a2, c2, rfl, _⟩ := hu.queue.form
  obtain ⟨a3, c3, rfl, _⟩ := hu.set.form
  obtain ⟨a4, c4, rfl, _⟩ := hu.table.form
  have ts := fun w' (hB : Below w.heap.size w w') => (hu.below hB).set
  have tt := fun w' (hB : Below w.heap.size w w') => (hu.below hB).table
  have s3 := hsx.set
  have s4 := hsx.table
  have BX := fun w' (hB : Below (w.heap.size + 1) (w.alloc (ctO (.slice a0 x.cell.length c0) (.slice a1 x.stack.length c1) (.slice a2 x.queue.length c2) (.slice a3 x.set.length c3) (.slice a4 x.table.length c4))) w') => ctO_cells ((hB.block _ (by omega)).trans (new_at w _ _ rfl))
  have TW := fun w' (hB : Below (w.heap.size + 1) (w.alloc (ctO (.slice a0 x.cell.length c0) (.slice a1 x.stack.length c1) (.slice a2 x.queue.length c2) (.slice a3 x.set.length c3) (.slice a4 x.table.length c4))) w') => (((Below.refl w.heap.size w).alloc (Nat.le_refl _) _).trans (hB.mono (by omega)) : Below w.heap.size w w')
  have hB0 := Below.refl (w.heap.size + 1) (w.alloc (ctO (.slice a0 x.cell.length c0) (.slice a1 x.stack.length c1) (.slice a2 x.queue.length c2) (.slice a3 x.set.length c3) (.slice a4 x.table.length c4)))
  obtain ⟨y0, y1, y2, y3, y4, y5⟩ := BX _ hB0
  clear hu hsx
  obtain ⟨n0, hn0⟩ : ∃ n, n = x.cell.length := ⟨_, rfl⟩
  obtain ⟨n3, hn3⟩ : ∃ n, n = x.set.length := ⟨_, rfl⟩
  obtain ⟨n4, hn4⟩ : ∃ n, n = x.table.length := ⟨_, rfl⟩
  generalize x.stack.length = n1 at *
  generalize x.queue.length = n2 at *
  rw [← hn3] at s3
  rw [← hn4] at s4
  simp only [← hn0, ← hn3, ← hn4] at y0 y1 y2 y3 y4 BX TW hB0 ts tt ⊢
  unfold ctO at y0 y1 y2 y3 y4 BX TW hB0
  replace ts := Mr.hid ts
  replace tt := Mr.hid tt
  replace BX := Mr.hid BX
  replace TW := Mr.hid TW
  replace hb := Mr.hid hb
  replace hn0 := Mr.hid hn0
  replace hn3 := Mr.hid hn3
  replace hn4 := Mr.hid hn4
  by_cases h0 : n0 ≤ 1
  · have d0 : decide ((1 : Int) < (n0 : Int)) = false := decide_eq_false (by omega)
    replace hB0 := Mr.hid hB0
    go_enter Try.func18, Try.ntmps18
    go_wp2
    clear y0 y1 y2 y3 y4 y5
    go_loopg [3] n3 (fun k s wr => ∃ i : Nat, s = .int .i64 ((i : Int) + 1) ∧ i + k = n3 ∧ Below (w.heap.size + 1) (w.alloc (.cells #[.slice a0 n0 c0, .slice a1 n1 c1, .slice a2 n2 c2, .slice a3 n3 c3, .slice a4 n4 c4] 25 (0, 0))) wr ∧ ∀ j, j + 1 < i + 1 → x.set[j]?.getD 0 < x.set[j + 1]?.getD 0)
    case atStart => exact ⟨0, rfl, by omega, hB0.out, fun j hj => by omega⟩
    case round =>
      obtain ⟨i, rfl, hi, B, ht⟩ := hrel
      have BT := TW.out _ B
      obtain ⟨y0, y1, y2, y3, y4, y5⟩ := BX.out wr B
      by_cases hlt : i + 1 < n3
      · have hu := ts.out wr BT
        obtain ⟨gu, ou, cu', hgu, _, _, hul, ru⟩ := hu.there (by omega)
        cases hgu
        have k1 := ru (i + 1) _ (ints_get x.set (i + 1) (by have := hn3.out; omega))
        have k2 := ru i _ (ints_get x.set i (by have := hn3.out; omega))
        have hli : ((i : Int) + 1) < (n3 : Int) := by omega
        have ewr : IntKind.i64.wrap ((i : Int) + 1 - 1) = (i : Int) := by rw [show (i : Int) + 1 - 1 = (i : Int) from by omega]; exact i64w _ (by omega) (by omega)
        have e1 : ((i : Int) + 1).toNat = i + 1 := by omega
        by_cases hq : x.set[i]?.getD 0 < x.set[i + 1]?.getD 0
        · have st := ris_step (l := x.set) (i := i + 1) ht (by omega) (by simpa using hq)
          generalize x.set[i]?.getD 0 = q1 at *
          generalize x.set[i + 1]?.getD 0 = q2 at *
          have d1 : decide (q2 ≤ q1) = false := decide_eq_false (by omega)
          clear hu ru ht hq
          replace st := Mr.hid st
          replace B := Mr.hid B
          replace BT := Mr.hid BT
          go_wp2
          go_quiet (fail)
          have hBq := Bx.draws wr.heap.size wr nq
          have hB := B.out.trans (hBq.mono (by omega))
          clear hBq y0 y1 y2 y3 y4 y5 k1 k2 hul BT B
          generalize wr.drewN nq = W6 at *
          replace hB := Mr.hid hB
          go_wp2
          go_roundg (gk - 1)
          case measure => omega
          case rel => exact ⟨i + 1, by simp, by omega, hB.out, st.out⟩
        · have hbf : b = false := by
            cases hbb : b with
            | false => rfl
            | true => exact absurd ((hb.out.1 hbb).2.1 i (by have := hn3.out; omega)) hq
          subst hbf
          generalize x.set[i]?.getD 0 = q1 at *
          generalize x.set[i + 1]?.getD 0 = q2 at *
          have d1 : decide (q2 ≤ q1) = true := decide_eq_true (by omega)
          clear hu ru ht hq
          replace B := Mr.hid B
          replace BT := Mr.hid BT
          go_wp2
          go_quiet (fail)
          have hBq := Bx.draws w.heap.size wr nq
          have hB := BT.out.trans hBq
          clear hBq y0 y1 y2 y3 y4 y5 k1 k2 hul BT B
          generalize wr.drewN nq = W6 at *
          replace hB := Mr.hid hB
          go_wp2
          go_ret
          exact ⟨rfl, hB.out⟩
      · have hS : Ris x.set := fun j hj => ht j (by have := hn3.out; omega)
        have dl : decide (((i : Int) + 1) < (n3 : Int)) = false := decide_eq_false (by omega)
        clear ht
        replace hS := Mr.hid hS
        replace B := Mr.hid B
        clear BT
        go_wp2
        clear y0 y1 y2 y3 y4 y5 dl
        go_loopg [4] n4 (fun k s wr => ∃ i : Nat, s = .int .i64 ((i : Int) + 1) ∧ i + k = n4 ∧ Below (w.heap.size + 1) (w.alloc (.cells #[.slice a0 n0 c0, .slice a1 n1 c1, .slice a2 n2 c2, .slice a3 n3 c3, .slice a4 n4 c4] 25 (0, 0))) wr ∧ ∀ j, j + 1 < i + 1 → (x.table.map Prod.fst)[j]?.getD 0 < (x.table.map Prod.fst)[j + 1]?.getD 0)
        case atStart => exact ⟨0, rfl, by omega, B.out, fun j hj => by omega⟩
        case round =>
          obtain ⟨m, rfl, hm, B2, ht⟩ := hrel
          have BT := TW.out _ B2
          obtain ⟨y0, y1, y2, y3, y4, y5⟩ := BX.out _ B2
          by_cases hlt2 : m + 1 < n4
          · have hu := tt.out _ BT
            obtain ⟨gu, ou, cu', hgu, _, _, hul, ru⟩ := hu.there (by omega)
            cases hgu
            have k1 := ru _ _ (prs_get x.table (m + 1) (by have := hn4.out; omega)).1
            have k2 := ru _ _ (prs_get x.table m (by have := hn4.out; omega)).1
            have hli : ((m : Int) + 1) < (n4 : Int) := by omega
            have ewr : IntKind.i64.wrap ((m : Int) + 1 - 1) = (m : Int) := by rw [show (m : Int) + 1 - 1 = (m : Int) from by omega]; exact i64w _ (by omega) (by omega)
            have e1 : ((m : Int) + 1).toNat = m + 1 := by omega
            rw [← key_get] at k1 k2
            by_cases hq : (x.table.map Prod.fst)[m]?.getD 0 < (x.table.map Prod.fst)[m + 1]?.getD 0
            · have st := ris_step (l := x.table.map Prod.fst) (i := m + 1) ht (by omega) (by simpa using hq)
              generalize (x.table.map Prod.fst)[m]?.getD 0 = q1 at *
              generalize (x.table.map Prod.fst)[m + 1]?.getD 0 = q2 at *
              have d1 : decide (q2 ≤ q1) = false := decide_eq_false (by omega)
              clear hu ru ht hq
              replace st := Mr.hid st
              replace B2 := Mr.hid B2
              replace BT := Mr.hid BT
              go_wp2
              go_quiet (fail)
              have hBq := Bx.draws wr.heap.size wr nq
              have hB := B2.out.trans (hBq.mono (by omega))
              clear hBq y0 y1 y2 y3 y4 y5 k1 k2 hul BT B2
              generalize wr.drewN nq = W6 at *
              replace hB := Mr.hid hB
              go_wp2
              go_roundg (gk - 1)
              case measure => omega
              case rel => exact ⟨m + 1, by simp, by omega, hB.out, st.out⟩
            · have hbf : b = false := by
                cases hbb : b with
                | false => rfl
                | true => exact absurd ((hb.out.1 hbb).2.2 m (by rw [List.length_map]; have := hn4.out; omega)) hq
              subst hbf
              generalize (x.table.map Prod.fst)[m]?.getD 0 = q1 at *
              generalize (x.table.map Prod.fst)[m + 1]?.getD 0 = q2 at *
              have d1 : decide (q2 ≤ q1) = true := decide_eq_true (by omega)
              clear hu ru ht hq
              replace B2 := Mr.hid B2
              replace BT := Mr.hid BT
              go_wp2
              go_quiet (fail)
              have hBq := Bx.draws w.heap.size wr nq
              have hB := BT.out.trans hBq
              clear hBq y0 y1 y2 y3 y4 y5 k1 k2 hul BT B2
              generalize wr.drewN nq = W6 at *
              replace hB := Mr.hid hB
              go_wp2
              go_ret
              exact ⟨rfl, hB.out⟩
          · have hbt : b = true := hb.out.2 ⟨by have := hn0.out; omega, hS.out, fun j hj => ht j (by rw [List.length_map] at hj; have := hn4.out; omega)⟩
            subst hbt
            have dl : decide (((m : Int) + 1) < (n4 : Int)) = false := decide_eq_false (by omega)
            clear ht
            replace BT := Mr.hid BT
            clear B2
            go_wp2
            go_ret
            exact ⟨rfl, BT.out⟩
  · have d0 : decide ((1 : Int) < (n0 : Int)) = true := decide_eq_true (by omega)
    have hbf : b = false := by
      cases hbb : b with
      | false => rfl
      | true => exact absurd (hn0.out ▸ (hb.out.1 hbb).1) h0
    subst hbf
    have hE := Mr.hid (TW.out _ hB0)
    clear hB0
    go_enter Try.func18, Try.ntmps18
    go_wp2
    go_ret
    exact ⟨rfl, hE.out⟩
end Go.Proofs.Ytegbcocbopgghac.Md
