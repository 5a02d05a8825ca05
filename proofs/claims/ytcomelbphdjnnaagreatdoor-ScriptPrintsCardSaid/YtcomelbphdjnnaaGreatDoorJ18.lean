import Derived.Test.YtcomelbphdjnnaaGreatDoorJ17
/-
  SCRIPT, pure: what is printed is read as what it was.
-/
namespace Go.Proofs.YtcomelbphdjnnaaGreatDoor.Sc
open Go.RowKit
open Go.Lib (itoa)
set_option linter.unusedVariables false
set_option linter.unusedSimpArgs false
set_option maxRecDepth 100000
theorem join_no : ∀ (ws : List (List UInt8)), (∀ x ∈ ws, ∀ c ∈ x, c ≠ 10) → ∀ c ∈ Lib.join ws [32], c ≠ 10
  | [], _, c, hc => by simp [Lib.join_nil] at hc
  | [x], h, c, hc => by rw [Lib.join_one] at hc; exact h x (List.mem_cons_self ..) c hc
  | x :: y :: r, h, c, hc => by
    have e : Lib.join (x :: y :: r) [32] = x ++ 32 :: Lib.join (y :: r) [32] := by simp [Lib.join, List.intercalate]
    rw [e] at hc
    rcases List.mem_append.1 hc with hc | hc
    · exact h x (List.mem_cons_self ..) c hc
    · rcases List.mem_cons.1 hc with rfl | hc
      · decide
      · exact join_no (y :: r) (fun z hz => h z (List.mem_cons_of_mem _ hz)) c hc
theorem prO_line (a b : List UInt8) (st : Cf × List Mv) (h : ∀ x ∈ a, x ≠ 10) (hk : lnE st (words a) = 0) : prO (a ++ 10 :: b).length (a ++ 10 :: b) st = prO b.length b (lnS st (words a)) := by
  have hc := cut_nl a b h
  generalize hl : a ++ 10 :: b = l at *
  cases l with
  | nil => have := congrArg List.length hl; simp at this
  | cons c r =>
    have hlen : b.length ≤ r.length := by have := congrArg List.length hl; simp at this; omega
    simp only [List.length_cons, prO]
    rw [hc]
    dsimp only
    rw [if_pos hk]
    exact prO_fuel r.length b _ hlen
theorem back_lines (cf : Cf) (hcf : cfgC cf = true) : ∀ (n : Nat) (ms done : List Mv), ms.length ≤ n → (∀ m ∈ ms, MvB m) → done.length + ms.length ≤ 65536 → prO (lines ms).length (lines ms) (cf, done) = some (cf, done ++ ms)
  | n, [], done, _, _, _ => by simp [lines, linesF, prO]
  | 0, m :: r, done, h, _, _ => by simp at h
  | n + 1, m :: r, done, h, hm, hl => by
    obtain ⟨p1, p2⟩ := lineOf_pos m r
    obtain ⟨ws, e1, e2, e3, e4, e5, e6⟩ := (ln_line cf.c0.toNat done m r (hm m (List.mem_cons_self ..)) hl).ex
    have hwj := words_join ws e2
    have hlnE : lnE (cf, done) (words (Lib.join ws [32])) = 0 := by
      rw [hwj]; unfold lnE; rw [if_neg e4]; dsimp only; rw [if_neg (cfgC_ne hcf)]; exact e5
    have hlnS : lnS (cf, done) (words (Lib.join ws [32])) = (cf, done ++ (m :: r).take (lineOf m r).2) := by
      rw [hwj]; unfold lnS; rw [if_neg e4]; dsimp only; rw [if_neg (cfgC_ne hcf), e6]
    have htx : lines (m :: r) = Lib.join ws [32] ++ 10 :: lines ((m :: r).drop (lineOf m r).2) := by rw [lines_cons, e1]; simp
    rw [htx, prO_line _ _ _ (join_no ws e3) hlnE, hlnS]
    have hd : ((m :: r).drop (lineOf m r).2).length ≤ n := by simp at h ⊢; omega
    rw [back_lines cf hcf n _ _ hd (fun x hx => hm x (List.mem_of_mem_drop hx)) (by
      rw [List.length_append, List.length_take, List.length_drop]; omega)]
    rw [List.append_assoc, List.take_append_drop]
theorem cf_bd {c : Cf} (h : cfgC c = true) : Bd c.c0 ∧ Bd c.c1 ∧ Bd c.c2 ∧ Bd c.c3 ∧ Bd c.c4 ∧ Bd c.c5 ∧ Bd c.c6 := by
  unfold cfgC Wc.cfgB Wc.inB at h
  simp only [Bool.and_eq_true, decide_eq_true_eq] at h
  unfold Bd
  omega
def cfL (c : Cf) : List Int := [c.c0, c.c1, c.c2, c.c3, c.c4, c.c5, c.c6]
theorem mac_line (c : Cf) (h : cfgC c = true) : ∃ ws, fil fMachine (cfL c) = Lib.join ws [32] ∧ (∀ x ∈ ws, Gw x) ∧ (∀ x ∈ ws, ∀ d ∈ x, d ≠ 10) ∧ ws ≠ [] ∧ macE ws = 0 ∧ cfN (numsL ws) = c := by
  obtain ⟨b0, b1, b2, b3, b4, b5, b6⟩ := cf_bd h
  have w0 := gw_of [109, 97, 99, 104, 105, 110, 101] (by decide)
  have l0 : numLike [109, 97, 99, 104, 105, 110, 101] = false := by decide
  have w1 := gw_of [116, 104, 114, 101, 97, 100, 115] (by decide)
  have l1 : numLike [116, 104, 114, 101, 97, 100, 115] = false := by decide
  have w2 := gw_of [114, 101, 99, 111, 114, 100, 115] (by decide)
  have l2 : numLike [114, 101, 99, 111, 114, 100, 115] = false := by decide
  have w3 := gw_of [104, 97, 122, 97, 114, 100, 115] (by decide)
  have l3 : numLike [104, 97, 122, 97, 114, 100, 115] = false := by decide
  have w4 := gw_of [114, 101, 116, 105, 114, 101] (by decide)
  have l4 : numLike [114, 101, 116, 105, 114, 101] = false := by decide
  have w5 := gw_of [99, 97, 99, 104, 101] (by decide)
  have l5 : numLike [99, 97, 99, 104, 101] = false := by decide
  have w6 := gw_of [115, 108, 111, 116, 115] (by decide)
  have l6 : numLike [115, 108, 111, 116, 115] = false := by decide
  have w7 := gw_of [98, 117, 99, 107, 101, 116, 115] (by decide)
  have l7 : numLike [98, 117, 99, 107, 101, 116, 115] = false := by decide
  have hf : formL [[109, 97, 99, 104, 105, 110, 101], [116, 104, 114, 101, 97, 100, 115], itoa c.c0, [114, 101, 99, 111, 114, 100, 115], itoa c.c1, [104, 97, 122, 97, 114, 100, 115], itoa c.c2, [114, 101, 116, 105, 114, 101], itoa c.c3, [99, 97, 99, 104, 101], itoa c.c4, [115, 108, 111, 116, 115], itoa c.c5, [98, 117, 99, 107, 101, 116, 115], itoa c.c6] = fMachine := by unfold formL; simp only [List.map_cons, List.map_nil, nrm_itoa _ b0, nrm_itoa _ b1, nrm_itoa _ b2, nrm_itoa _ b3, nrm_itoa _ b4, nrm_itoa _ b5, nrm_itoa _ b6, nrm_w l0, nrm_w l1, nrm_w l2, nrm_w l3, nrm_w l4, nrm_w l5, nrm_w l6, nrm_w l7]; decide
  have hn : numsL [[109, 97, 99, 104, 105, 110, 101], [116, 104, 114, 101, 97, 100, 115], itoa c.c0, [114, 101, 99, 111, 114, 100, 115], itoa c.c1, [104, 97, 122, 97, 114, 100, 115], itoa c.c2, [114, 101, 116, 105, 114, 101], itoa c.c3, [99, 97, 99, 104, 101], itoa c.c4, [115, 108, 111, 116, 115], itoa c.c5, [98, 117, 99, 107, 101, 116, 115], itoa c.c6] = cfL c := by rw [nums_w l0, nums_w l1, nums_i b0, nums_w l2, nums_i b1, nums_w l3, nums_i b2, nums_w l4, nums_i b3, nums_w l5, nums_i b4, nums_w l6, nums_i b5, nums_w l7, nums_i b6, nums_nil]; rfl
  have hw : wholeL [[109, 97, 99, 104, 105, 110, 101], [116, 104, 114, 101, 97, 100, 115], itoa c.c0, [114, 101, 99, 111, 114, 100, 115], itoa c.c1, [104, 97, 122, 97, 114, 100, 115], itoa c.c2, [114, 101, 116, 105, 114, 101], itoa c.c3, [99, 97, 99, 104, 101], itoa c.c4, [115, 108, 111, 116, 115], itoa c.c5, [98, 117, 99, 107, 101, 116, 115], itoa c.c6] = true := by rw [whole_w l0, whole_w l1, whole_i b0, whole_w l2, whole_i b1, whole_w l3, whole_i b2, whole_w l4, whole_i b3, whole_w l5, whole_i b4, whole_w l6, whole_i b5, whole_w l7, whole_i b6, whole_nil]
  refine ⟨[[109, 97, 99, 104, 105, 110, 101], [116, 104, 114, 101, 97, 100, 115], itoa c.c0, [114, 101, 99, 111, 114, 100, 115], itoa c.c1, [104, 97, 122, 97, 114, 100, 115], itoa c.c2, [114, 101, 116, 105, 114, 101], itoa c.c3, [99, 97, 99, 104, 101], itoa c.c4, [115, 108, 111, 116, 115], itoa c.c5, [98, 117, 99, 107, 101, 116, 115], itoa c.c6], ?_, ?_, ?_, by simp, ?_, ?_⟩
  · simp [fMachine, fil, cfL, Lib.join, List.intercalate]
  · intro x hx
    simp only [List.mem_cons, List.not_mem_nil, or_false] at hx
    rcases hx with rfl | rfl | rfl | rfl | rfl | rfl | rfl | rfl | rfl | rfl | rfl | rfl | rfl | rfl | rfl
    · exact w0.1
    · exact w1.1
    · exact gw_itoa _ b0
    · exact w2.1
    · exact gw_itoa _ b1
    · exact w3.1
    · exact gw_itoa _ b2
    · exact w4.1
    · exact gw_itoa _ b3
    · exact w5.1
    · exact gw_itoa _ b4
    · exact w6.1
    · exact gw_itoa _ b5
    · exact w7.1
    · exact gw_itoa _ b6
  · intro x hx
    simp only [List.mem_cons, List.not_mem_nil, or_false] at hx
    rcases hx with rfl | rfl | rfl | rfl | rfl | rfl | rfl | rfl | rfl | rfl | rfl | rfl | rfl | rfl | rfl
    · exact w0.2
    · exact w1.2
    · exact i_ne _ b0
    · exact w2.2
    · exact i_ne _ b1
    · exact w3.2
    · exact i_ne _ b2
    · exact w4.2
    · exact i_ne _ b3
    · exact w5.2
    · exact i_ne _ b4
    · exact w6.2
    · exact i_ne _ b5
    · exact w7.2
    · exact i_ne _ b6
  · unfold macE
    rw [if_pos hf, if_pos hw, hn]
    have e : cfN (cfL c) = c := rfl
    rw [e, if_pos h]
  · rw [hn]; rfl
theorem back (c : Cf) (ms : List Mv) (hc : cfgC c = true) (hm : ∀ m ∈ ms, MvB m) (hl : ms.length ≤ 65536) (ht : (prints (cfL c) ms).length ≤ 1048576) : parseO (prints (cfL c) ms) = some (c, ms) := by
  obtain ⟨ws, e1, e2, e3, e4, e5, e6⟩ := mac_line c hc
  have hwj := words_join ws e2
  have hp : prints (cfL c) ms = Lib.join ws [32] ++ 10 :: lines ms := by unfold prints; rw [e1]; simp
  have hlnE : lnE (cfZ, []) (words (Lib.join ws [32])) = 0 := by rw [hwj]; unfold lnE; rw [if_neg e4, if_pos rfl]; exact e5
  have hlnS : lnS (cfZ, []) (words (Lib.join ws [32])) = (c, []) := by rw [hwj]; unfold lnS; rw [if_neg e4, if_pos rfl, e6]
  unfold parseO
  rw [if_pos ht]
  have : prO (prints (cfL c) ms).length (prints (cfL c) ms) (cfZ, []) = some (c, ms) := by
    rw [hp, prO_line _ _ _ (join_no ws e3) hlnE, hlnS, back_lines c hc ms.length ms [] (Nat.le_refl _) hm (by simpa using hl)]
    rfl
  rw [this]
  dsimp only
  rw [if_neg (cfgC_ne hc)]
end Go.Proofs.YtcomelbphdjnnaaGreatDoor.Sc
/-
  SCRIPT: SameMoves of rows that are one; how long a text is.
-/
namespace Go.Proofs.YtcomelbphdjnnaaGreatDoor.Sc
open Go.RowKit Mr
set_option linter.unusedVariables false
set_option linter.unusedSimpArgs false
set_option maxRecDepth 100000
set_option maxHeartbeats 8000000 in
theorem sameMoves_eq (ms : List Mv) (a a' : Option Addr) (n c c' : Nat) (w : World) (h1 : MvAt w a n ms) (h2 : MvAt w a' n ms) (hn : n ≤ 1000000) :
    Calls Tryz.prog 12 #[.slice a n c, .slice a' n c'] w fun e w' => e = .returned (.bool true) ∧ Below w.heap.size w w' := by
  have z : ((n : Int) != (n : Int)) = false := by simp
  have hl := Mr.hid h1.1
  replace h1 := Mr.hid h1
  replace h2 := Mr.hid h2
  go_enter Tryz.func12, Tryz.ntmps12
  go_wp2
  go_loopg [5] n (fun gk s5 wr => ∃ i : Nat, s5 = .int .i64 (i : Int) ∧ i + gk = n ∧ Below w.heap.size w wr)
  case atStart => exact ⟨0, rfl, by omega, Below.refl _ _⟩
  case round =>
    obtain ⟨i, rfl, hi, B⟩ := hrel
    by_cases hlt : i < n
    · have hli : i < ms.length := by have := hl.out; omega
      obtain ⟨x, hx⟩ : ∃ x, ms[i]? = some x := ⟨ms[i], List.getElem?_eq_getElem hli⟩
      have hne : ms ≠ [] := by intro e; rw [e] at hli; simp at hli
      obtain ⟨g, o, rfl, hg, hc⟩ := (h1.out.below B).2.resolve_left hne
      obtain ⟨g', o', rfl, hg', hc'⟩ := (h2.out.below B).2.resolve_left hne
      obtain ⟨d0, d1, d2, d3⟩ := hc i hli
      obtain ⟨f0, f1, f2, f3⟩ := hc' i hli
      rw [hx] at d0 d1 d2 d3 f0 f1 f2 f3
      simp only [Option.getD_some] at d0 d1 d2 d3 f0 f1 f2 f3
      obtain ⟨th, op, ar, da⟩ := x
      dsimp only at d0 d1 d2 d3 f0 f1 f2 f3
      have hlI : (i : Int) < (n : Int) := by omega
      have dl : decide ((i : Int) < (n : Int)) = true := by simpa using hlI
      have hw : IntKind.i64.wrap ((i : Int) + 1) = (i : Int) + 1 := i64x _ (by omega) (by omega)
      have hi' := Mr.hid hi
      replace B := Mr.hid B
      clear hc hc' hx hli hi hne
      go_upto_region 6 with fail
      go_quiet (fail)
      replace B := Mr.hid (B.out.trans ⟨rfl, rfl, rfl, Nat.le_refl _, fun _ _ => rfl⟩ : Below w.heap.size w (wr.drewN nq))
      clear d0 d1 d2 d3 f0 f1 f2 f3 hg hg'
      generalize wr.drewN nq = w6 at *
      go_wp2
      go_roundg (gk - 1)
      case measure => have := hi'.out; omega
      case rel => exact ⟨i + 1, by simp, by have := hi'.out; omega, B.out⟩
    · obtain rfl : i = n := by omega
      have dl : decide ((i : Int) < (i : Int)) = false := by simp
      have dl2 : ¬ (i : Int) < (i : Int) := by omega
      replace B := Mr.hid B
      clear hi hlt
      go_wp2
      go_ret
      exact ⟨rfl, B.out⟩
theorem fCall_len (k : Nat) (hk : k < 21) : (fCall k).length ≤ 20 := by
  have := all_below (P := fun k => decide ((fCall k).length ≤ 20)) (n := 21) (by decide +kernel) hk
  simpa using this
theorem callLn_len2 (m : Mv) (h : MvB m) : (callLn m).length ≤ 421 := by
  obtain ⟨h1, h2, h3, h4⟩ := h
  have ho := fil_len fOp [m.th, m.op, m.arg, m.data] (by simp; exact ⟨h1, h2, h3, h4⟩)
  have e : fOp.length = 10 := rfl
  unfold callLn
  split
  · rename_i k hk
    obtain ⟨hk1, _⟩ := rowOf_some hk
    have z3 := fCall_len k hk1
    have hf := fil_len (fCall k) [m.th, m.arg, m.data] (by simp; exact ⟨h1, h3, h4⟩)
    split <;> simp <;> omega
  · simp; omega
theorem lineOf_len2 (m : Mv) (r : List Mv) (h : MvB m) (hr : (m :: r).length ≤ 1000000000000) : (lineOf m r).1.length ≤ 421 := by
  have h1 := callLn_len2 m h
  have h2 := fil_len fStep [m.th] (by simp; exact h.1)
  have hl := stepsOf_le m.th (m :: r)
  have h3 := fil_len fSteps [m.th, (stepsOf m.th (m :: r) : Int)] (by simp; exact ⟨h.1, by unfold Bd; omega⟩)
  have e1 : fStep.length = 3 := rfl
  have e2 : fSteps.length = 5 := rfl
  unfold lineOf
  split
  · exact h1
  · split <;> simp <;> omega
theorem lines_len : ∀ (n : Nat) (ms : List Mv), ms.length ≤ n → (∀ m ∈ ms, MvB m) → ms.length ≤ 1000000 → (lines ms).length ≤ 421 * ms.length
  | n, [], _, _, _ => by simp [lines, linesF]
  | 0, m :: r, h, _, _ => by simp at h
  | n + 1, m :: r, h, hm, hl => by
    obtain ⟨p1, p2⟩ := lineOf_pos m r
    have h1 := lineOf_len2 m r (hm m (List.mem_cons_self ..)) (by omega)
    have hd : ((m :: r).drop (lineOf m r).2).length ≤ n := by simp at h ⊢; omega
    have h2 := lines_len n _ hd (fun x hx => hm x (List.mem_of_mem_drop hx)) (by simp at hl ⊢; omega)
    rw [lines_cons, List.length_append]
    rw [List.length_drop] at h2
    have h3 : 421 * ((m :: r).length - (lineOf m r).2) + 421 ≤ 421 * (m :: r).length := by omega
    omega
theorem prints_len (c : Cf) (ms : List Mv) (hc : cfgC c = true) (hm : ∀ m ∈ ms, MvB m) (hl : ms.length ≤ 100) : (prints (cfL c) ms).length ≤ 1048576 := by
  obtain ⟨b0, b1, b2, b3, b4, b5, b6⟩ := cf_bd hc
  have h1 := fil_len fMachine (cfL c) (by intro x hx; simp [cfL] at hx; rcases hx with rfl | rfl | rfl | rfl | rfl | rfl | rfl <;> assumption)
  have h2 := lines_len ms.length ms (Nat.le_refl _) hm (by omega)
  have e : fMachine.length ≤ 80 := by decide
  unfold prints
  simp only [List.length_append, List.length_cons, List.length_nil]
  omega
end Go.Proofs.YtcomelbphdjnnaaGreatDoor.Sc
