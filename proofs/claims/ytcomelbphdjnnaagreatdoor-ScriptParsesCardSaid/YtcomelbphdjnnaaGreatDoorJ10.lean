import Derived.Test.YtcomelbphdjnnaaGreatDoorJ09
/-
  SCRIPT: stepsAhead, nextLine.
-/
namespace Go.Proofs.YtcomelbphdjnnaaGreatDoor.Sc
open Go.RowKit Mr
set_option linter.unusedVariables false
set_option linter.unusedSimpArgs false
set_option maxRecDepth 100000
theorem neq_mv (a b c d a' b' c' d' : Int) (W : World) : (binOp .neq 42 (.agg #[.int .i64 a, .int .i64 b, .int .i64 c, .int .i64 d]) (.agg #[.int .i64 a', .int .i64 b', .int .i64 c', .int .i64 d'])).run Tryz.prog W = .ok (.bool (!(decide (a = a') && decide (b = b') && decide (c = c') && decide (d = d')))) W := by
  by_cases h1 : a = a' <;> by_cases h2 : b = b' <;> by_cases h3 : c = c' <;> by_cases h4 : d = d' <;> simp [go_sem, h1, h2, h3, h4]
theorem stepsOf_drop (t : Int) : ∀ (i : Nat) (l : List Mv), (∀ j, j < i → ∀ m, l[j]? = some m → m = stp t) → i ≤ l.length → stepsOf t l = i + stepsOf t (l.drop i)
  | 0, l, _, _ => by simp
  | i + 1, [], _, h => by simp at h
  | i + 1, m :: r, h, hl => by
    have h0 := h 0 (by omega) m rfl
    have := stepsOf_drop t i r (fun j hj m' hm' => h (j + 1) (by omega) m' (by simpa using hm')) (by simpa using hl)
    simp only [stepsOf, h0, if_true, List.drop_succ_cons]
    omega
set_option maxHeartbeats 8000000 in
theorem stepsAhead_any (m : Mv) (r : List Mv) (a : Option Addr) (n c : Nat) (w : World) (hM : MvAt w a n (m :: r)) (hn : n ≤ 1000000000000) :
    Calls Tryz.prog 45 #[.slice a n c] w fun e w' => e = .returned (.int .i64 (stepsOf m.th (m :: r) : Int)) ∧ Below w.heap.size w w' := by
  have hl := hM.1
  obtain ⟨g, o, rfl, hg, hc⟩ := hM.2.resolve_left (by simp)
  obtain ⟨c0, -, -, -⟩ := hc 0 (by simp)
  simp only [Nat.zero_mul, Nat.add_zero, List.getElem?_cons_zero, Option.getD_some] at c0
  have hp : 0 < n := by rw [hl]; simp
  have hpI : (0 : Int) < (n : Int) := by omega
  generalize hms : m :: r = ms at *
  generalize m.th = t at *
  replace hc := Mr.hid hc
  replace hl := Mr.hid hl
  replace hM := Mr.hid hM
  clear hms
  have So : Hid (∀ w, Calls Tryz.prog 60 #[.int .i64 t] w fun e w' => e = .returned (.agg #[.int .i64 t, .int .i64 0, .int .i64 0, .int .i64 0]) ∧ Below w.heap.size w w') := fun w => stepOf_any t w
  go_enter Tryz.func45, Tryz.ntmps45
  go_upto_region 3 with (go_at_call 60; refine (So.out _).mono ?_; clear So; rintro e w1 ⟨rfl, B1⟩)
  replace B1 := Mr.hid B1
  go_loopg [13] n (fun gk s13 wr => ∃ i : Nat, s13 = .int .i64 (i : Int) ∧ i + gk = n ∧ Below (w1.heap.size + 1) (w1.alloc (.cells #[.int .i64 t, .int .i64 0, .int .i64 0, .int .i64 0] 42)) wr ∧ ∀ j, j < i → ∀ x, ms[j]? = some x → x = stp t)
  case atStart => exact ⟨0, rfl, by omega, by simpa using Below.refl _ _, fun j hj => by omega⟩
  case round =>
    obtain ⟨i, rfl, hi, B, hall⟩ := hrel
    have hs : w1.heap.size + 1 ≤ wr.heap.size := by have := B.size; simpa using this
    have hst : wr.heap[w1.heap.size]? = some (.cells #[.int .i64 t, .int .i64 0, .int .i64 0, .int .i64 0] 42 (0, 0)) := (B.block _ (by omega)).trans (new_at _ _ _ rfl)
    have BB : Hid (Below w.heap.size w wr) := (B1.out.alloc B1.out.size _).trans (B.mono (by have := B1.out.size; omega))
    by_cases hlt : i < n
    · have hli : i < ms.length := by have := hl.out; omega
      obtain ⟨x, hx⟩ : ∃ x, ms[i]? = some x := ⟨ms[i], List.getElem?_eq_getElem hli⟩
      obtain ⟨d0, d1, d2, d3⟩ := hc.out i hli
      rw [hx] at d0 d1 d2 d3
      simp only [Option.getD_some] at d0 d1 d2 d3
      obtain ⟨th, op, ar, da⟩ := x
      dsimp only at d0 d1 d2 d3
      have q0 : wr.cell? ⟨g, o + i * 4, none⟩ = some (.int .i64 th) := (BB.out.cell (p := ⟨g, _, none⟩) hg).trans d0
      have q1 : wr.cell? ⟨g, o + i * 4 + 1, none⟩ = some (.int .i64 op) := (BB.out.cell (p := ⟨g, _, none⟩) hg).trans d1
      have q2 : wr.cell? ⟨g, o + i * 4 + 2, none⟩ = some (.int .i64 ar) := (BB.out.cell (p := ⟨g, _, none⟩) hg).trans d2
      have q3 : wr.cell? ⟨g, o + i * 4 + 3, none⟩ = some (.int .i64 da) := (BB.out.cell (p := ⟨g, _, none⟩) hg).trans d3
      have e0 : wr.cell? ⟨w1.heap.size, 0, none⟩ = some (.int .i64 t) := cell_blk hst 0
      have e1 : wr.cell? ⟨w1.heap.size, 1, none⟩ = some (.int .i64 0) := cell_blk hst 1
      have e2 : wr.cell? ⟨w1.heap.size, 2, none⟩ = some (.int .i64 0) := cell_blk hst 2
      have e3 : wr.cell? ⟨w1.heap.size, 3, none⟩ = some (.int .i64 0) := cell_blk hst 3
      have hgw : g < wr.heap.size := Nat.lt_of_lt_of_le hg BB.out.size
      have hw1s : w1.heap.size < wr.heap.size := by omega
      have hlI : (i : Int) < (n : Int) := by omega
      have dl : decide ((i : Int) < (n : Int)) = true := by simpa using hlI
      have hw : IntKind.i64.wrap ((i : Int) + 1) = (i : Int) + 1 := i64x _ (by omega) (by omega)
      have hi' := Mr.hid hi
      have hall' := Mr.hid hall
      have hx' := Mr.hid hx
      have B' := Mr.hid B
      clear d0 d1 d2 d3 hst B hall hx hi hli hlt
      by_cases hq : (decide (th = t) && decide (op = 0) && decide (ar = 0) && decide (da = 0)) = true
      · have hnq : ∀ W, (binOp .neq 42 (.agg #[.int .i64 th, .int .i64 op, .int .i64 ar, .int .i64 da]) (.agg #[.int .i64 t, .int .i64 0, .int .i64 0, .int .i64 0])).run Tryz.prog W = .ok (.bool false) W := fun W => by rw [neq_mv, hq]; rfl
        have hq' : Hid ((⟨th, op, ar, da⟩ : Mv) = stp t) := by
          simp at hq
          obtain ⟨⟨⟨rfl, rfl⟩, rfl⟩, rfl⟩ := hq
          exact rfl
        clear hq
        go_wp2
        go_roundg (gk - 1)
        case measure => have := hi'.out; omega
        case rel =>
          refine ⟨i + 1, by simp, by have := hi'.out; omega, B'.out.alloc (by omega) _, fun j hj x hx => ?_⟩
          by_cases e : j = i
          · rw [e, hx'.out] at hx
            cases hx
            exact hq'.out
          · exact hall'.out j (by omega) x hx
      · rw [Bool.not_eq_true] at hq
        have hnq : ∀ W, (binOp .neq 42 (.agg #[.int .i64 th, .int .i64 op, .int .i64 ar, .int .i64 da]) (.agg #[.int .i64 t, .int .i64 0, .int .i64 0, .int .i64 0])).run Tryz.prog W = .ok (.bool true) W := fun W => by rw [neq_mv, hq]; rfl
        have hq' : Hid (stepsOf t ms = i) := by
          show _ = _
          have h1 := stepsOf_drop t i ms hall'.out (by have := hi'.out; have := hl.out; omega)
          have h2 : ms.drop i = ⟨th, op, ar, da⟩ :: ms.drop (i + 1) := by
            obtain ⟨h3, h4⟩ := List.getElem?_eq_some_iff.1 hx'.out
            rw [List.drop_eq_getElem_cons h3, h4]
          rw [h2] at h1
          have h5 : ¬ ((⟨th, op, ar, da⟩ : Mv) = stp t) := by
            intro e
            unfold stp at e
            injection e with a1 a2 a3 a4
            simp [a1, a2, a3, a4] at hq
          simp only [stepsOf, h5, if_false] at h1
          omega
        clear hq
        go_wp2
        go_ret
        refine ⟨by rw [hq'.out]; rfl, BB.out.alloc (by have := B1.out.size; omega) _⟩
    · have hq' : Hid (stepsOf t ms = n) := by
        show _ = _
        have h1 := stepsOf_drop t i ms hall (by have := hl.out; omega)
        have h2 : ms.drop i = [] := List.drop_eq_nil_of_le (by have := hl.out; omega)
        rw [h2] at h1
        simp only [stepsOf] at h1
        omega
      have dl : decide ((i : Int) < (n : Int)) = false := decide_eq_false (by omega)
      have hlI : ¬ (i : Int) < (n : Int) := by omega
      clear hst B hall hi hlt
      go_wp2
      go_ret
      exact ⟨by rw [hq'.out]; rfl, BB.out⟩
end Go.Proofs.YtcomelbphdjnnaaGreatDoor.Sc
/-
  SCRIPT: nextLine.
-/
namespace Go.Proofs.YtcomelbphdjnnaaGreatDoor.Sc
open Go.RowKit Mr
set_option linter.unusedVariables false
set_option linter.unusedSimpArgs false
set_option maxRecDepth 100000
theorem fStep_ok : zer fStep ≤ 1 ∧ (∀ x ∈ fStep, x.toNat < 128) := by
  refine ⟨by decide, ?_⟩
  have : fStep.all (fun x => decide (x.toNat < 128)) = true := by decide
  intro x hx
  simpa using List.all_eq_true.1 this x hx
theorem fSteps_ok : zer fSteps ≤ 2 ∧ (∀ x ∈ fSteps, x.toNat < 128) := by
  refine ⟨by decide, ?_⟩
  have : fSteps.all (fun x => decide (x.toNat < 128)) = true := by decide
  intro x hx
  simpa using List.all_eq_true.1 this x hx
/-- What nextLine answers: a line, and what is behind the first k moves. -/
def NxB (g : Nat) (w : World) (ms : List Mv) (n : Nat) (T : ByteArray) (k : Nat) (e : Ending) (w' : World) : Prop :=
  ∃ o' c', e = .returned (.tuple #[.string T, .slice (some ⟨g, o', none⟩) (n - k) c']) ∧ MvAt w' (some ⟨g, o', none⟩) (n - k) (ms.drop k) ∧ n - k ≤ c' ∧ Below w.heap.size w w'
set_option maxHeartbeats 8000000 in
theorem next_0 (m : Mv) (r : List Mv) (g o n c : Nat) (w : World) (E : Env w) (hM : MvAt w (some ⟨g, o, none⟩) n (m :: r)) (hm : MvB m) (hn : n ≤ 1000000000000) (hc : n ≤ c) (hst : stepsOf m.th (m :: r) = 0) :
    Calls Tryz.prog 29 #[.slice (some ⟨g, o, none⟩) n c] w (NxB g w (m :: r) n ⟨(callLn m).toArray⟩ 1) := by
  have hl := hM.1
  have hsa := Mr.hid (stepsAhead_any m r (some ⟨g, o, none⟩) n c)
  obtain ⟨g', o', e', hg, hcl⟩ := hM.2.resolve_left (by simp)
  cases e'
  obtain ⟨c0, c1, c2, c3⟩ := hcl 0 (by simp)
  simp only [Nat.zero_mul, Nat.add_zero, List.getElem?_cons_zero, Option.getD_some] at c0 c1 c2 c3
  have hp : 0 < n := by rw [hl]; simp
  have hpI : (0 : Int) < (n : Int) := by omega
  have hsl := stepsOf_le m.th (m :: r)
  rw [← hl] at hsl
  rw [hst] at hsa hsl
  replace hM := Mr.hid hM
  replace E := Mr.hid E
  have hm' := Mr.hid hm
  clear hl hcl hst hm
  have C := Mr.hid (fun W (hE : Env W) => callLine_any m W hE hm'.out)
  unfold mvV at C
  generalize (⟨(callLn m).toArray⟩ : ByteArray) = T at *
  obtain ⟨th, op, ar, da⟩ := m
  dsimp only at *
  go_enter Tryz.func29, Tryz.ntmps29
  go_upto_region 1 with fail
  go_region_held3 (fun W => W.cell? ⟨g, o, none⟩ = some (.int .i64 th)) (simp [*, go_sem])
    (first | (go_at_call 45; refine (hsa.out _ (hM.out.below (Below.refl _ _).drew) hn).mono ?_; clear hsa; rintro e w1 ⟨rfl, B1⟩; have q0 := (B1.cell (p := ⟨g, o, none⟩) hg).trans c0))
  have BB : Hid (Below w.heap.size w w1) := ((Below.refl _ _).drew).trans (B1.mono (Nat.le_refl _))
  have e0 : w1.cell? ⟨g, o, none⟩ = some (.int .i64 th) := (BB.out.cell (p := ⟨g, _, none⟩) hg).trans c0
  have e1 : w1.cell? ⟨g, o + 1, none⟩ = some (.int .i64 op) := (BB.out.cell (p := ⟨g, _, none⟩) hg).trans c1
  have e2 : w1.cell? ⟨g, o + 2, none⟩ = some (.int .i64 ar) := (BB.out.cell (p := ⟨g, _, none⟩) hg).trans c2
  have e3 : w1.cell? ⟨g, o + 3, none⟩ = some (.int .i64 da) := (BB.out.cell (p := ⟨g, _, none⟩) hg).trans c3
  have hg1 : g < w1.heap.size := Nat.lt_of_lt_of_le hg BB.out.size
  have hE1 : Hid (Env w1) := E.out.below BB.out
  have hM1 : Hid (MvAt w1 (some ⟨g, o, none⟩) n (⟨th, op, ar, da⟩ :: r)) := hM.out.below BB.out
  have hcI : (1 : Int) ≤ (n : Int) := by omega
  have hcJ : (n : Int) ≤ (c : Int) := by omega
  clear B1 q0 c0 c1 c2 c3 hM E hpI
  by_cases hc1 : c = 1
  · subst hc1
    obtain rfl : n = 1 := by omega
    go_upto_region 4 with fail
    go_region_held3 (fun W => W.cell? ⟨g, o, none⟩ = some (.int .i64 th) ∧ W.cell? ⟨g, o + 1, none⟩ = some (.int .i64 op) ∧ W.cell? ⟨g, o + 2, none⟩ = some (.int .i64 ar) ∧ W.cell? ⟨g, o + 3, none⟩ = some (.int .i64 da)) (simp [*, go_sem])
      (first | (go_at_call 46; refine (C.out _ (hE1.out.below (Below.refl _ _).drew)).mono ?_; clear C; rintro e w2 ⟨rfl, B2⟩; have q0 := (B2.cell (p := ⟨g, o, none⟩) hg1).trans e0; have q1 := (B2.cell (p := ⟨g, o + 1, none⟩) hg1).trans e1; have q2 := (B2.cell (p := ⟨g, o + 2, none⟩) hg1).trans e2; have q3 := (B2.cell (p := ⟨g, o + 3, none⟩) hg1).trans e3; have BE : Hid (Below w1.heap.size w1 w2) := ((Below.refl _ _).drew).trans B2))
    all_goals (go_wp2; go_ret2; exact ⟨o, 0, (by first | rfl | (rw [show n - 1 = 0 from by omega]; rfl)), (hM1.out.below BE.out).drop 1 (by omega) _ (fun h => absurd h (by omega)), by omega, BB.out.trans (BE.out.mono BB.out.size)⟩)
  · have hc2 : ¬ (c : Int) = 1 := by omega
    go_upto_region 4 with fail
    go_region_held3 (fun W => W.cell? ⟨g, o, none⟩ = some (.int .i64 th) ∧ W.cell? ⟨g, o + 1, none⟩ = some (.int .i64 op) ∧ W.cell? ⟨g, o + 2, none⟩ = some (.int .i64 ar) ∧ W.cell? ⟨g, o + 3, none⟩ = some (.int .i64 da)) (simp [*, go_sem])
      (first | (go_at_call 46; refine (C.out _ (hE1.out.below (Below.refl _ _).drew)).mono ?_; clear C; rintro e w2 ⟨rfl, B2⟩; have q0 := (B2.cell (p := ⟨g, o, none⟩) hg1).trans e0; have q1 := (B2.cell (p := ⟨g, o + 1, none⟩) hg1).trans e1; have q2 := (B2.cell (p := ⟨g, o + 2, none⟩) hg1).trans e2; have q3 := (B2.cell (p := ⟨g, o + 3, none⟩) hg1).trans e3; have BE : Hid (Below w1.heap.size w1 w2) := ((Below.refl _ _).drew).trans B2))
    all_goals (go_wp2; go_ret2; exact ⟨_, _, rfl, (hM1.out.below BE.out).drop 1 (by omega) _ (fun _ => by simp only [Option.map_some, add1]), by omega, BB.out.trans (BE.out.mono BB.out.size)⟩)
set_option maxHeartbeats 8000000 in
theorem next_1 (m : Mv) (r : List Mv) (g o n c : Nat) (w : World) (E : Env w) (hM : MvAt w (some ⟨g, o, none⟩) n (m :: r)) (hm : MvB m) (hn : n ≤ 1000000000000) (hc : n ≤ c) (hst : stepsOf m.th (m :: r) = 1) :
    Calls Tryz.prog 29 #[.slice (some ⟨g, o, none⟩) n c] w (NxB g w (m :: r) n ⟨(fil fStep [m.th] ++ [10]).toArray⟩ 1) := by
  have hl := hM.1
  have hsa := Mr.hid (stepsAhead_any m r (some ⟨g, o, none⟩) n c)
  obtain ⟨g', o', e', hg, hcl⟩ := hM.2.resolve_left (by simp)
  cases e'
  obtain ⟨c0, c1, c2, c3⟩ := hcl 0 (by simp)
  simp only [Nat.zero_mul, Nat.add_zero, List.getElem?_cons_zero, Option.getD_some] at c0 c1 c2 c3
  have hp : 0 < n := by rw [hl]; simp
  have hpI : (0 : Int) < (n : Int) := by omega
  have hsl := stepsOf_le m.th (m :: r)
  rw [← hl] at hsl
  rw [hst] at hsa hsl
  replace hM := Mr.hid hM
  replace E := Mr.hid E
  have hm' := Mr.hid hm
  clear hl hcl hst hm
  have C : Hid (∀ W (a : Option Addr), Env W → Left W.heap.size W a 1 1 [m.th] → Calls Tryz.prog 28 #[.string ⟨#[48, 32, 46]⟩, .slice a 1 1] W fun e w' => e = .returned (.string ⟨(fil fStep [m.th] ++ [10]).toArray⟩) ∧ Below W.heap.size W w') := fun W a hE hL => filled_any ⟨#[48, 32, 46]⟩ a 1 1 [m.th] W hE hL (by simp; exact hm'.out.1) fStep_ok.1 fStep_ok.2 (by decide)
  generalize (⟨(fil fStep [m.th] ++ [10]).toArray⟩ : ByteArray) = T at *
  obtain ⟨th, op, ar, da⟩ := m
  dsimp only at *
  go_enter Tryz.func29, Tryz.ntmps29
  go_upto_region 1 with fail
  go_region_held3 (fun W => W.cell? ⟨g, o, none⟩ = some (.int .i64 th)) (simp [*, go_sem])
    (first | (go_at_call 45; refine (hsa.out _ (hM.out.below (Below.refl _ _).drew) hn).mono ?_; clear hsa; rintro e w1 ⟨rfl, B1⟩; have q0 := (B1.cell (p := ⟨g, o, none⟩) hg).trans c0))
  have BB : Hid (Below w.heap.size w w1) := ((Below.refl _ _).drew).trans (B1.mono (Nat.le_refl _))
  have e0 : w1.cell? ⟨g, o, none⟩ = some (.int .i64 th) := (BB.out.cell (p := ⟨g, _, none⟩) hg).trans c0
  have e1 : w1.cell? ⟨g, o + 1, none⟩ = some (.int .i64 op) := (BB.out.cell (p := ⟨g, _, none⟩) hg).trans c1
  have e2 : w1.cell? ⟨g, o + 2, none⟩ = some (.int .i64 ar) := (BB.out.cell (p := ⟨g, _, none⟩) hg).trans c2
  have e3 : w1.cell? ⟨g, o + 3, none⟩ = some (.int .i64 da) := (BB.out.cell (p := ⟨g, _, none⟩) hg).trans c3
  have hg1 : g < w1.heap.size := Nat.lt_of_lt_of_le hg BB.out.size
  have hE1 : Hid (Env w1) := E.out.below BB.out
  have hM1 : Hid (MvAt w1 (some ⟨g, o, none⟩) n (⟨th, op, ar, da⟩ :: r)) := hM.out.below BB.out
  have hcI : (1 : Int) ≤ (n : Int) := by omega
  have hcJ : (n : Int) ≤ (c : Int) := by omega
  clear B1 q0 c0 c1 c2 c3 hM E hpI
  by_cases hc1 : c = 1
  · subst hc1
    obtain rfl : n = 1 := by omega
    go_upto_region 6 with fail
    go_region_held3 (fun W => W.cell? ⟨g, o, none⟩ = some (.int .i64 th)) (simp [*, go_sem])
      (first | (go_at_call 28; refine (C.out _ _ (hE1.out.below (((Below.refl _ _).drew).alloc (Nat.le_refl _) _)) (left_new [th] (new_at _ _ _ rfl) rfl)).mono ?_; clear C; rintro e w2 ⟨rfl, B2⟩; have BE : Hid (Below w1.heap.size w1 w2) := (((Below.refl _ _).drew).alloc (Nat.le_refl _) _).trans (B2.mono (by simp)); have q0 := (BE.out.cell (p := ⟨g, o, none⟩) hg1).trans e0))
    all_goals (go_wp2; go_ret2; exact ⟨o, 0, (by first | rfl | (rw [show n - 1 = 0 from by omega]; rfl)), (hM1.out.below BE.out).drop 1 (by omega) _ (fun h => absurd h (by omega)), by omega, BB.out.trans (BE.out.mono BB.out.size)⟩)
  · have hc2 : ¬ (c : Int) = 1 := by omega
    go_upto_region 6 with fail
    go_region_held3 (fun W => W.cell? ⟨g, o, none⟩ = some (.int .i64 th)) (simp [*, go_sem])
      (first | (go_at_call 28; refine (C.out _ _ (hE1.out.below (((Below.refl _ _).drew).alloc (Nat.le_refl _) _)) (left_new [th] (new_at _ _ _ rfl) rfl)).mono ?_; clear C; rintro e w2 ⟨rfl, B2⟩; have BE : Hid (Below w1.heap.size w1 w2) := (((Below.refl _ _).drew).alloc (Nat.le_refl _) _).trans (B2.mono (by simp)); have q0 := (BE.out.cell (p := ⟨g, o, none⟩) hg1).trans e0))
    all_goals (go_wp2; go_ret2; exact ⟨_, _, rfl, (hM1.out.below BE.out).drop 1 (by omega) _ (fun _ => by simp only [Option.map_some, add1]), by omega, BB.out.trans (BE.out.mono BB.out.size)⟩)
set_option maxHeartbeats 8000000 in
theorem next_n (m : Mv) (r : List Mv) (g o n c : Nat) (w : World) (E : Env w) (hM : MvAt w (some ⟨g, o, none⟩) n (m :: r)) (hm : MvB m) (hn : n ≤ 1000000000000) (hc : n ≤ c) (st : Nat) (hs2 : 2 ≤ st) (hst : stepsOf m.th (m :: r) = st) :
    Calls Tryz.prog 29 #[.slice (some ⟨g, o, none⟩) n c] w (NxB g w (m :: r) n ⟨(fil fSteps [m.th, (st : Int)] ++ [10]).toArray⟩ st) := by
  have hl := hM.1
  have hsa := Mr.hid (stepsAhead_any m r (some ⟨g, o, none⟩) n c)
  obtain ⟨g', o', e', hg, hcl⟩ := hM.2.resolve_left (by simp)
  cases e'
  obtain ⟨c0, c1, c2, c3⟩ := hcl 0 (by simp)
  simp only [Nat.zero_mul, Nat.add_zero, List.getElem?_cons_zero, Option.getD_some] at c0 c1 c2 c3
  have hp : 0 < n := by rw [hl]; simp
  have hpI : (0 : Int) < (n : Int) := by omega
  have hsl := stepsOf_le m.th (m :: r)
  rw [← hl] at hsl
  rw [hst] at hsa hsl
  replace hM := Mr.hid hM
  replace E := Mr.hid E
  have hm' := Mr.hid hm
  clear hl hcl hst hm
  have C : Hid (∀ W (a : Option Addr), Env W → Left W.heap.size W a 2 2 [m.th, (st : Int)] → Calls Tryz.prog 28 #[.string ⟨#[48, 32, 46, 32, 48]⟩, .slice a 2 2] W fun e w' => e = .returned (.string ⟨(fil fSteps [m.th, (st : Int)] ++ [10]).toArray⟩) ∧ Below W.heap.size W w') := fun W a hE hL => filled_any ⟨#[48, 32, 46, 32, 48]⟩ a 2 2 [m.th, (st : Int)] W hE hL (by simp; exact ⟨hm'.out.1, by unfold Bd; omega⟩) fSteps_ok.1 fSteps_ok.2 (by decide)
  generalize (⟨(fil fSteps [m.th, (st : Int)] ++ [10]).toArray⟩ : ByteArray) = T at *
  have s1 : ((st : Int) == 0) = false := beq_eq_false_iff_ne.2 (by omega)
  have s2 : ((st : Int) == 1) = false := beq_eq_false_iff_ne.2 (by omega)
  have s3 : ¬ st = 0 := by omega
  have s4 : ¬ st = 1 := by omega
  have s5 : (st : Int) ≤ (n : Int) := by omega
  obtain ⟨th, op, ar, da⟩ := m
  dsimp only at *
  go_enter Tryz.func29, Tryz.ntmps29
  go_upto_region 1 with fail
  go_region_held3 (fun W => W.cell? ⟨g, o, none⟩ = some (.int .i64 th)) (simp [*, go_sem])
    (first | (go_at_call 45; refine (hsa.out _ (hM.out.below (Below.refl _ _).drew) hn).mono ?_; clear hsa; rintro e w1 ⟨rfl, B1⟩; have q0 := (B1.cell (p := ⟨g, o, none⟩) hg).trans c0))
  have BB : Hid (Below w.heap.size w w1) := ((Below.refl _ _).drew).trans (B1.mono (Nat.le_refl _))
  have e0 : w1.cell? ⟨g, o, none⟩ = some (.int .i64 th) := (BB.out.cell (p := ⟨g, _, none⟩) hg).trans c0
  have e1 : w1.cell? ⟨g, o + 1, none⟩ = some (.int .i64 op) := (BB.out.cell (p := ⟨g, _, none⟩) hg).trans c1
  have e2 : w1.cell? ⟨g, o + 2, none⟩ = some (.int .i64 ar) := (BB.out.cell (p := ⟨g, _, none⟩) hg).trans c2
  have e3 : w1.cell? ⟨g, o + 3, none⟩ = some (.int .i64 da) := (BB.out.cell (p := ⟨g, _, none⟩) hg).trans c3
  have hg1 : g < w1.heap.size := Nat.lt_of_lt_of_le hg BB.out.size
  have hE1 : Hid (Env w1) := E.out.below BB.out
  have hM1 : Hid (MvAt w1 (some ⟨g, o, none⟩) n (⟨th, op, ar, da⟩ :: r)) := hM.out.below BB.out
  have hcI : (1 : Int) ≤ (n : Int) := by omega
  have hcJ : (n : Int) ≤ (c : Int) := by omega
  clear B1 q0 c0 c1 c2 c3 hM E hpI
  by_cases hc1 : c = st
  · replace hc1 := hc1.symm; subst hc1
    go_upto_region 7 with fail
    go_region_held3 (fun W => W.cell? ⟨g, o, none⟩ = some (.int .i64 th)) (simp [*, go_sem])
      (first | (go_at_call 28; refine (C.out _ _ (hE1.out.below (((Below.refl _ _).drew).alloc (Nat.le_refl _) _)) (left_new [th, (st : Int)] (new_at _ _ _ rfl) rfl)).mono ?_; clear C; rintro e w2 ⟨rfl, B2⟩; have BE : Hid (Below w1.heap.size w1 w2) := (((Below.refl _ _).drew).alloc (Nat.le_refl _) _).trans (B2.mono (by simp)); have q0 := (BE.out.cell (p := ⟨g, o, none⟩) hg1).trans e0))
    all_goals (go_wp2; go_ret2; exact ⟨o, 0, (by first | rfl | (rw [show n - st = 0 from by omega]; rfl)), (hM1.out.below BE.out).drop st (by omega) _ (fun h => absurd h (by omega)), by omega, BB.out.trans (BE.out.mono BB.out.size)⟩)
  · have hc2 : ¬ (c : Int) = st := by omega
    go_upto_region 7 with fail
    go_region_held3 (fun W => W.cell? ⟨g, o, none⟩ = some (.int .i64 th)) (simp [*, go_sem])
      (first | (go_at_call 28; refine (C.out _ _ (hE1.out.below (((Below.refl _ _).drew).alloc (Nat.le_refl _) _)) (left_new [th, (st : Int)] (new_at _ _ _ rfl) rfl)).mono ?_; clear C; rintro e w2 ⟨rfl, B2⟩; have BE : Hid (Below w1.heap.size w1 w2) := (((Below.refl _ _).drew).alloc (Nat.le_refl _) _).trans (B2.mono (by simp)); have q0 := (BE.out.cell (p := ⟨g, o, none⟩) hg1).trans e0))
    all_goals (go_wp2; go_ret2; exact ⟨_, _, rfl, (hM1.out.below BE.out).drop st (by omega) _ (fun _ => by simp only [Option.map_some, add1]), by omega, BB.out.trans (BE.out.mono BB.out.size)⟩)
theorem nextLine_any (m : Mv) (r : List Mv) (g o n c : Nat) (w : World) (E : Env w) (hM : MvAt w (some ⟨g, o, none⟩) n (m :: r)) (hm : MvB m) (hn : n ≤ 1000000000000) (hc : n ≤ c) :
    Calls Tryz.prog 29 #[.slice (some ⟨g, o, none⟩) n c] w (NxB g w (m :: r) n ⟨(lineOf m r).1.toArray⟩ (lineOf m r).2) := by
  unfold lineOf
  by_cases h0 : stepsOf m.th (m :: r) = 0
  · rw [if_pos h0]; exact next_0 m r g o n c w E hM hm hn hc h0
  · rw [if_neg h0]
    by_cases h1 : stepsOf m.th (m :: r) = 1
    · rw [if_pos h1]; exact next_1 m r g o n c w E hM hm hn hc h1
    · rw [if_neg h1]; exact next_n m r g o n c w E hM hm hn hc _ (by omega) rfl
end Go.Proofs.YtcomelbphdjnnaaGreatDoor.Sc
