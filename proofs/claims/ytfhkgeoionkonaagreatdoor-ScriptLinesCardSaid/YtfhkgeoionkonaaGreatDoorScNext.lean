/-
  SCRIPT: stepsAhead, nextLine.
-/
import Derived.Test.YtfhkgeoionkonaaGreatDoorScCall
namespace Go.Proofs.YtfhkgeoionkonaaGreatDoor.Sc
open Go.RowKit Mr
set_option linter.unusedVariables false
set_option linter.unusedSimpArgs false
set_option maxRecDepth 100000
theorem neq_mv (a b c d a' b' c' d' : Int) (W : World) : (binOp .neq 38 (.agg #[.int .i64 a, .int .i64 b, .int .i64 c, .int .i64 d]) (.agg #[.int .i64 a', .int .i64 b', .int .i64 c', .int .i64 d'])).run Tryz.prog W = .ok (.bool (!(decide (a = a') && decide (b = b') && decide (c = c') && decide (d = d')))) W := by
  by_cases h1 : a = a' <;> by_cases h2 : b = b' <;> by_cases h3 : c = c' <;> by_cases h4 : d = d' <;> simp [go_sem, h1, h2, h3, h4]
theorem stepsOf_drop (t : Int) : ∀ (i : Nat) (l : List Mv), (∀ j, j < i → ∀ m, l[j]? = some m → m = stp t) → i ≤ l.length → stepsOf t l = i + stepsOf t (l.drop i)
  | 0, l, _, _ => by simp
  | i + 1, [], _, h => by simp at h
  | i + 1, m :: r, h, hl => by
    have h0 := h 0 (by omega) m rfl
    have := stepsOf_drop t i r (fun j hj m' hm' => h (j + 1) (by omega) m' (by simpa using hm')) (by simpa using hl)
    simp only [stepsOf, h0, if_true, List.drop_succ_cons]
    omega
set_option maxHeartbeats 8000000 in
theorem stepsAhead_any (m : Mv) (r : List Mv) (a : Option Addr) (n c : Nat) (w : World) (hM : MvAt w a n (m :: r)) (hn : n ≤ 1000000000000) :
    Calls Tryz.prog 50 #[.slice a n c] w fun e w' => e = .returned (.int .i64 (stepsOf m.th (m :: r) : Int)) ∧ Below w.heap.size w w' := by
  have hl := hM.1
  obtain ⟨g, o, rfl, hg, hc⟩ := hM.2.resolve_left (by simp)
  obtain ⟨c0, -, -, -⟩ := hc 0 (by simp)
  simp only [Nat.zero_mul, Nat.add_zero, List.getElem?_cons_zero, Option.getD_some] at c0
  have hp : 0 < n := by rw [hl]; simp
  have hpI : (0 : Int) < (n : Int) := by omega
  generalize hms : m :: r = ms at *
  generalize m.th = t at *
  replace hc := Mr.hid hc
  replace hl := Mr.hid hl
  replace hM := Mr.hid hM
  clear hms
  have So : Hid (∀ w, Calls Tryz.prog 62 #[.int .i64 t] w fun e w' => e = .returned (.agg #[.int .i64 t, .int .i64 0, .int .i64 0, .int .i64 0]) ∧ Below w.heap.size w w') := fun w => stepOf_any t w
  go_enter Tryz.func50, Tryz.ntmps50
  go_upto_region 3 with (go_at_call 62; refine (So.out _).mono ?_; clear So; rintro e w1 ⟨rfl, B1⟩)
  replace B1 := Mr.hid B1
  go_loopg [13] n (fun gk s13 wr => ∃ i : Nat, s13 = .int .i64 (i : Int) ∧ i + gk = n ∧ Below (w1.heap.size + 1) (w1.alloc (.cells #[.int .i64 t, .int .i64 0, .int .i64 0, .int .i64 0] 38)) wr ∧ ∀ j, j < i → ∀ x, ms[j]? = some x → x = stp t)
  case atStart => exact ⟨0, rfl, by omega, by simpa using Below.refl _ _, fun j hj => by omega⟩
  case round =>
    obtain ⟨i, rfl, hi, B, hall⟩ := hrel
    have hs : w1.heap.size + 1 ≤ wr.heap.size := by have := B.size; simpa using this
    have hst : wr.heap[w1.heap.size]? = some (.cells #[.int .i64 t, .int .i64 0, .int .i64 0, .int .i64 0] 38 (0, 0)) := (B.block _ (by omega)).trans (new_at _ _ _ rfl)
    have BB : Hid (Below w.heap.size w wr) := (B1.out.alloc B1.out.size _).trans (B.mono (by have := B1.out.size; omega))
    by_cases hlt : i < n
    · have hli : i < ms.length := by have := hl.out; omega
      obtain ⟨x, hx⟩ : ∃ x, ms[i]? = some x := ⟨ms[i], List.getElem?_eq_getElem hli⟩
      obtain ⟨d0, d1, d2, d3⟩ := hc.out i hli
      rw [hx] at d0 d1 d2 d3
      simp only [Option.getD_some] at d0 d1 d2 d3
      obtain ⟨th, op, ar, da⟩ := x
      dsimp only at d0 d1 d2 d3
      have q0 : wr.cell? ⟨g, o + i * 4, none⟩ = some (.int .i64 th) := (BB.out.cell (p := ⟨g, _, none⟩) hg).trans d0
      have q1 : wr.cell? ⟨g, o + i * 4 + 1, none⟩ = some (.int .i64 op) := (BB.out.cell (p := ⟨g, _, none⟩) hg).trans d1
      have q2 : wr.cell? ⟨g, o + i * 4 + 2, none⟩ = some (.int .i64 ar) := (BB.out.cell (p := ⟨g, _, none⟩) hg).trans d2
      have q3 : wr.cell? ⟨g, o + i * 4 + 3, none⟩ = some (.int .i64 da) := (BB.out.cell (p := ⟨g, _, none⟩) hg).trans d3
      have e0 : wr.cell? ⟨w1.heap.size, 0, none⟩ = some (.int .i64 t) := cell_blk hst 0
      have e1 : wr.cell? ⟨w1.heap.size, 1, none⟩ = some (.int .i64 0) := cell_blk hst 1
      have e2 : wr.cell? ⟨w1.heap.size, 2, none⟩ = some (.int .i64 0) := cell_blk hst 2
      have e3 : wr.cell? ⟨w1.heap.size, 3, none⟩ = some (.int .i64 0) := cell_blk hst 3
      have hgw : g < wr.heap.size := Nat.lt_of_lt_of_le hg BB.out.size
      have hw1s : w1.heap.size < wr.heap.size := by omega
      have hlI : (i : Int) < (n : Int) := by omega
      have dl : decide ((i : Int) < (n : Int)) = true := by simpa using hlI
      have hw : IntKind.i64.wrap ((i : Int) + 1) = (i : Int) + 1 := i64x _ (by omega) (by omega)
      have hi' := Mr.hid hi
      have hall' := Mr.hid hall
      have hx' := Mr.hid hx
      have B' := Mr.hid B
      clear d0 d1 d2 d3 hst B hall hx hi hli hlt
      by_cases hq : (decide (th = t) && decide (op = 0) && decide (ar = 0) && decide (da = 0)) = true
      · have hnq : ∀ W, (binOp .neq 38 (.agg #[.int .i64 th, .int .i64 op, .int .i64 ar, .int .i64 da]) (.agg #[.int .i64 t, .int .i64 0, .int .i64 0, .int .i64 0])).run Tryz.prog W = .ok (.bool false) W := fun W => by rw [neq_mv, hq]; rfl
        have hq' : Hid ((⟨th, op, ar, da⟩ : Mv) = stp t) := by
          simp at hq
          obtain ⟨⟨⟨rfl, rfl⟩, rfl⟩, rfl⟩ := hq
          exact rfl
        clear hq
        go_wp2
        go_roundg (gk - 1)
        case measure => have := hi'.out; omega
        case rel =>
          refine ⟨i + 1, by simp, by have := hi'.out; omega, B'.out.alloc (by omega) _, fun j hj x hx => ?_⟩
          by_cases e : j = i
          · rw [e, hx'.out] at hx
            cases hx
            exact hq'.out
          · exact hall'.out j (by omega) x hx
      · rw [Bool.not_eq_true] at hq
        have hnq : ∀ W, (binOp .neq 38 (.agg #[.int .i64 th, .int .i64 op, .int .i64 ar, .int .i64 da]) (.agg #[.int .i64 t, .int .i64 0, .int .i64 0, .int .i64 0])).run Tryz.prog W = .ok (.bool true) W := fun W => by rw [neq_mv, hq]; rfl
        have hq' : Hid (stepsOf t ms = i) := by
          show _ = _
          have h1 := stepsOf_drop t i ms hall'.out (by have := hi'.out; have := hl.out; omega)
          have h2 : ms.drop i = ⟨th, op, ar, da⟩ :: ms.drop (i + 1) := by
            obtain ⟨h3, h4⟩ := List.getElem?_eq_some_iff.1 hx'.out
            rw [List.drop_eq_getElem_cons h3, h4]
          rw [h2] at h1
          have h5 : ¬ ((⟨th, op, ar, da⟩ : Mv) = stp t) := by
            intro e
            unfold stp at e
            injection e with a1 a2 a3 a4
            simp [a1, a2, a3, a4] at hq
          simp only [stepsOf, h5, if_false] at h1
          omega
        clear hq
        go_wp2
        go_ret
        refine ⟨by rw [hq'.out]; rfl, BB.out.alloc (by have := B1.out.size; omega) _⟩
    · have hq' : Hid (stepsOf t ms = n) := by
        show _ = _
        have h1 := stepsOf_drop t i ms hall (by have := hl.out; omega)
        have h2 : ms.drop i = [] := List.drop_eq_nil_of_le (by have := hl.out; omega)
        rw [h2] at h1
        simp only [stepsOf] at h1
        omega
      have dl : decide ((i : Int) < (n : Int)) = false := decide_eq_false (by omega)
      have hlI : ¬ (i : Int) < (n : Int) := by omega
      clear hst B hall hi hlt
      go_wp2
      go_ret
      exact ⟨by rw [hq'.out]; rfl, BB.out⟩
end Go.Proofs.YtfhkgeoionkonaaGreatDoor.Sc
