/-
  SCRIPT: SameMoves of rows that are one; how long a text is.
-/
import Derived.Test.YtfhkgeoionkonaaGreatDoorScBack
namespace Go.Proofs.YtfhkgeoionkonaaGreatDoor.Sc
open Go.RowKit Mr
set_option linter.unusedVariables false
set_option linter.unusedSimpArgs false
set_option maxRecDepth 100000
set_option maxHeartbeats 8000000 in
theorem sameMoves_eq (ms : List Mv) (a a' : Option Addr) (n c c' : Nat) (w : World) (h1 : MvAt w a n ms) (h2 : MvAt w a' n ms) (hn : n ≤ 1000000) :
    Calls Tryz.prog 12 #[.slice a n c, .slice a' n c'] w fun e w' => e = .returned (.bool true) ∧ Below w.heap.size w w' := by
  have z : ((n : Int) != (n : Int)) = false := by simp
  have hl := Mr.hid h1.1
  replace h1 := Mr.hid h1
  replace h2 := Mr.hid h2
  go_enter Tryz.func12, Tryz.ntmps12
  go_wp2
  go_loopg [5] n (fun gk s5 wr => ∃ i : Nat, s5 = .int .i64 (i : Int) ∧ i + gk = n ∧ Below w.heap.size w wr)
  case atStart => exact ⟨0, rfl, by omega, Below.refl _ _⟩
  case round =>
    obtain ⟨i, rfl, hi, B⟩ := hrel
    by_cases hlt : i < n
    · have hli : i < ms.length := by have := hl.out; omega
      obtain ⟨x, hx⟩ : ∃ x, ms[i]? = some x := ⟨ms[i], List.getElem?_eq_getElem hli⟩
      have hne : ms ≠ [] := by intro e; rw [e] at hli; simp at hli
      obtain ⟨g, o, rfl, hg, hc⟩ := (h1.out.below B).2.resolve_left hne
      obtain ⟨g', o', rfl, hg', hc'⟩ := (h2.out.below B).2.resolve_left hne
      obtain ⟨d0, d1, d2, d3⟩ := hc i hli
      obtain ⟨f0, f1, f2, f3⟩ := hc' i hli
      rw [hx] at d0 d1 d2 d3 f0 f1 f2 f3
      simp only [Option.getD_some] at d0 d1 d2 d3 f0 f1 f2 f3
      obtain ⟨th, op, ar, da⟩ := x
      dsimp only at d0 d1 d2 d3 f0 f1 f2 f3
      have hlI : (i : Int) < (n : Int) := by omega
      have dl : decide ((i : Int) < (n : Int)) = true := by simpa using hlI
      have hw : IntKind.i64.wrap ((i : Int) + 1) = (i : Int) + 1 := i64x _ (by omega) (by omega)
      have hi' := Mr.hid hi
      replace B := Mr.hid B
      clear hc hc' hx hli hi hne
      go_upto_region 6 with fail
      go_quiet (fail)
      replace B := Mr.hid (B.out.trans ⟨rfl, rfl, rfl, Nat.le_refl _, fun _ _ => rfl⟩ : Below w.heap.size w (wr.drewN nq))
      clear d0 d1 d2 d3 f0 f1 f2 f3 hg hg'
      generalize wr.drewN nq = w6 at *
      go_wp2
      go_roundg (gk - 1)
      case measure => have := hi'.out; omega
      case rel => exact ⟨i + 1, by simp, by have := hi'.out; omega, B.out⟩
    · obtain rfl : i = n := by omega
      have dl : decide ((i : Int) < (i : Int)) = false := by simp
      have dl2 : ¬ (i : Int) < (i : Int) := by omega
      replace B := Mr.hid B
      clear hi hlt
      go_wp2
      go_ret
      exact ⟨rfl, B.out⟩
theorem fCall_len (k : Nat) (hk : k < 21) : (fCall k).length ≤ 20 := by
  have := all_below (P := fun k => decide ((fCall k).length ≤ 20)) (n := 21) (by decide +kernel) hk
  simpa using this
theorem callLn_len2 (m : Mv) (h : MvB m) : (callLn m).length ≤ 421 := by
  obtain ⟨h1, h2, h3, h4⟩ := h
  have ho := fil_len fOp [m.th, m.op, m.arg, m.data] (by simp; exact ⟨h1, h2, h3, h4⟩)
  have e : fOp.length = 10 := rfl
  unfold callLn
  split
  · rename_i k hk
    obtain ⟨hk1, _⟩ := rowOf_some hk
    have z3 := fCall_len k hk1
    have hf := fil_len (fCall k) [m.th, m.arg, m.data] (by simp; exact ⟨h1, h3, h4⟩)
    split <;> simp <;> omega
  · simp; omega
theorem lineOf_len2 (m : Mv) (r : List Mv) (h : MvB m) (hr : (m :: r).length ≤ 1000000000000) : (lineOf m r).1.length ≤ 421 := by
  have h1 := callLn_len2 m h
  have h2 := fil_len fStep [m.th] (by simp; exact h.1)
  have hl := stepsOf_le m.th (m :: r)
  have h3 := fil_len fSteps [m.th, (stepsOf m.th (m :: r) : Int)] (by simp; exact ⟨h.1, by unfold Bd; omega⟩)
  have e1 : fStep.length = 3 := rfl
  have e2 : fSteps.length = 5 := rfl
  unfold lineOf
  split
  · exact h1
  · split <;> simp <;> omega
theorem lines_len : ∀ (n : Nat) (ms : List Mv), ms.length ≤ n → (∀ m ∈ ms, MvB m) → ms.length ≤ 1000000 → (lines ms).length ≤ 421 * ms.length
  | n, [], _, _, _ => by simp [lines, linesF]
  | 0, m :: r, h, _, _ => by simp at h
  | n + 1, m :: r, h, hm, hl => by
    obtain ⟨p1, p2⟩ := lineOf_pos m r
    have h1 := lineOf_len2 m r (hm m (List.mem_cons_self ..)) (by omega)
    have hd : ((m :: r).drop (lineOf m r).2).length ≤ n := by simp at h ⊢; omega
    have h2 := lines_len n _ hd (fun x hx => hm x (List.mem_of_mem_drop hx)) (by simp at hl ⊢; omega)
    rw [lines_cons, List.length_append]
    rw [List.length_drop] at h2
    have h3 : 421 * ((m :: r).length - (lineOf m r).2) + 421 ≤ 421 * (m :: r).length := by omega
    omega
theorem prints_len (c : Cf) (ms : List Mv) (hc : cfgC c = true) (hm : ∀ m ∈ ms, MvB m) (hl : ms.length ≤ 100) : (prints (cfL c) ms).length ≤ 1048576 := by
  obtain ⟨b0, b1, b2, b3, b4, b5, b6⟩ := cf_bd hc
  have h1 := fil_len fMachine (cfL c) (by intro x hx; simp [cfL] at hx; rcases hx with rfl | rfl | rfl | rfl | rfl | rfl | rfl <;> assumption)
  have h2 := lines_len ms.length ms (Nat.le_refl _) hm (by omega)
  have e : fMachine.length ≤ 80 := by decide
  unfold prints
  simp only [List.length_append, List.length_cons, List.length_nil]
  omega
end Go.Proofs.YtfhkgeoionkonaaGreatDoor.Sc
