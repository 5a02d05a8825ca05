import Derived.Test.YtcomelbphdjnnaaGreatDoorJ31
/-
  SCRIPT, pure: a script that is printed is read as it was.
-/
namespace Go.Proofs.YtcomelbphdjnnaaGreatDoor.Sc
open Go.RowKit
open Go.Lib (itoa)
set_option linter.unusedVariables false
set_option linter.unusedSimpArgs false
theorem wd_facts (k : Nat) (hk : k < 21) : (Gw (wdA k).data.toList ∧ ∀ c ∈ (wdA k).data.toList, c ≠ 10) ∧ numLike (wdA k).data.toList = false ∧ (∀ c ∈ (wdA k).data.toList, c ≠ 48) ∧ rowN (wdA k).data.toList = some k ∧ fCall k ≠ fStep ∧ fCall k ≠ fSteps ∧ fCall k ≠ fRounds ∧ fCall k ≠ fOp := by
  have := all_below (P := fun k => (!((wdA k).data.toList.isEmpty) && (wdA k).data.toList.all (fun c => !(bl c) && !(c == 10)) && !((wdA k).data.toList.head? == some 35)) && (!(numLike (wdA k).data.toList)) && (wdA k).data.toList.all (fun c => !(c == 48)) && (rowN (wdA k).data.toList == some k) && (!(fCall k == fStep)) && (!(fCall k == fSteps)) && (!(fCall k == fRounds)) && (!(fCall k == fOp))) (n := 21) (by decide +kernel) hk
  rw [Bool.and_eq_true, Bool.and_eq_true, Bool.and_eq_true, Bool.and_eq_true, Bool.and_eq_true, Bool.and_eq_true, Bool.and_eq_true] at this
  obtain ⟨⟨⟨⟨⟨⟨⟨h1, h2⟩, h3⟩, h4⟩, h5⟩, h6⟩, h7⟩, h8⟩ := this
  refine ⟨gw_of _ h1, by simpa using h2, ?_, by simpa using h4, by simpa using h5, by simpa using h6, by simpa using h7, by simpa using h8⟩
  intro c hc
  have := List.all_eq_true.1 h3 c hc
  simpa using this
theorem fil_app : ∀ (x y : List UInt8) (ns : List Int), (∀ c ∈ x, c ≠ 48) → fil (x ++ y) ns = x ++ fil y ns
  | [], y, ns, _ => rfl
  | c :: x, y, ns, h => by
    have hc := h c (List.mem_cons_self ..)
    simp only [List.cons_append, fil, hc, if_false]
    rw [fil_app x y ns (fun d hd => h d (List.mem_cons_of_mem _ hd))]
theorem ln_word (T : Nat) (done : List Mv) (m : Mv) (k : Nat) (h : MvB m) (hr : rowOf m.op = some k) (ht : tels k m = true) (hl : done.length + 1 ≤ 65536) : Ln T done (fil (fCall k) [m.th, m.arg, m.data] ++ [10]) [m] := by
  obtain ⟨hk, ho⟩ := rowOf_some hr
  obtain ⟨h1, h2, h3, h4⟩ := h
  obtain ⟨⟨g1, g2⟩, g3, g4, g5, n1, n2, n3, n4⟩ := wd_facts k hk
  obtain ⟨z1, z2, z3, z4, z5, z6⟩ := fCall_ok k hk
  have hfc : fCall k = 48 :: 32 :: ((wdA k).data.toList ++ Lib.repeatL [32, 48] (tkA k).toNat) := by unfold fCall; simp
  have hmean : ∀ ws ns, formL ws = fCall k → numsL ws = ns → ¬ ws.length < 2 → ws.getD 1 [] = (wdA k).data.toList → mean T ws (numsL ws) = ([⟨ns.getD 0 0, opA k, ns.getD 1 0, ns.getD 2 0⟩], ((1 : Nat) : Int)) := by
    intro ws ns hf hn h2 hw
    unfold mean
    rw [hf, if_neg n1, if_neg n2, if_neg n3, if_neg n4, hn, callM_two h2, hw, g5]
    simp
  have hcase : (tkA k = 0 ∧ m.arg = 0 ∧ m.data = 0) ∨ (tkA k = 1 ∧ m.data = 0) ∨ tkA k = 2 := by
    unfold tels at ht
    simp only [Bool.and_eq_true, Bool.or_eq_true, decide_eq_true_eq, beq_iff_eq] at ht
    omega
  generalize hwd : (wdA k).data.toList = wd at *
  have fin : ∀ ws : List (List UInt8), fil (fCall k) [m.th, m.arg, m.data] = Lib.join ws [32] → (∀ x ∈ ws, Gw x ∧ ∀ c ∈ x, c ≠ 10) → ws ≠ [] → mean T ws (numsL ws) = ([m], ((1 : Nat) : Int)) → wholeL ws = true → Ln T done (fil (fCall k) [m.th, m.arg, m.data] ++ [10]) [m] := by
    intro ws e1 e2 e3 e4 e5
    obtain ⟨q1, q2⟩ := ent_of (done := done) e4 e5 (by simp) (by omega) (by simpa using hl)
    exact ⟨ws, by rw [e1], fun x hx => (e2 x hx).1, fun x hx => (e2 x hx).2, e3, q1, by rw [q2]; simp⟩
  obtain ⟨th, op, ar, da⟩ := m
  dsimp only at *
  have gi : ∀ n, Bd n → Gw (itoa n) ∧ ∀ c ∈ itoa n, c ≠ 10 := fun n hn => ⟨gw_itoa n hn, i_ne n hn⟩
  rcases hcase with ⟨t0, a0, d0⟩ | ⟨t0, d0⟩ | t0
  · have hf : formL [itoa th, wd] = fCall k := by unfold formL; simp only [List.map_cons, List.map_nil, nrm_itoa _ h1, nrm_w g3]; rw [hfc, t0]; simp [Lib.join, List.intercalate, Lib.repeatL]
    refine fin [itoa th, wd] ?_ ?_ (by simp) ?_ (by rw [whole_i h1, whole_w g3, whole_nil])
    · rw [hfc, t0]
      simp only [fil, if_true]
      rw [if_neg (by decide), fil_app _ _ _ g4]
      simp [Lib.repeatL, fil, Lib.join, List.intercalate]
    · intro x hx
      simp at hx
      rcases hx with rfl | rfl
      · exact gi _ h1
      · exact ⟨g1, g2⟩
    · rw [hmean [itoa th, wd] [th] hf (by rw [nums_i h1, nums_w g3, nums_nil]) (by simp) rfl]
      simp [ho, a0, d0]
  · have hf : formL [itoa th, wd, itoa ar] = fCall k := by unfold formL; simp only [List.map_cons, List.map_nil, nrm_itoa _ h1, nrm_itoa _ h3, nrm_w g3]; rw [hfc, t0]; simp [Lib.join, List.intercalate, Lib.repeatL]
    refine fin [itoa th, wd, itoa ar] ?_ ?_ (by simp) ?_ (by rw [whole_i h1, whole_w g3, whole_i h3, whole_nil])
    · rw [hfc, t0]
      simp only [fil, if_true]
      rw [if_neg (by decide), fil_app _ _ _ g4]
      simp [Lib.repeatL, fil, Lib.join, List.intercalate]
    · intro x hx
      simp at hx
      rcases hx with rfl | rfl | rfl
      · exact gi _ h1
      · exact ⟨g1, g2⟩
      · exact gi _ h3
    · rw [hmean [itoa th, wd, itoa ar] [th, ar] hf (by rw [nums_i h1, nums_w g3, nums_i h3, nums_nil]) (by simp) rfl]
      simp [ho, d0]
  · have hf : formL [itoa th, wd, itoa ar, itoa da] = fCall k := by unfold formL; simp only [List.map_cons, List.map_nil, nrm_itoa _ h1, nrm_itoa _ h3, nrm_itoa _ h4, nrm_w g3]; rw [hfc, t0]; simp [Lib.join, List.intercalate, Lib.repeatL]
    refine fin [itoa th, wd, itoa ar, itoa da] ?_ ?_ (by simp) ?_ (by rw [whole_i h1, whole_w g3, whole_i h3, whole_i h4, whole_nil])
    · rw [hfc, t0]
      simp only [fil, if_true]
      rw [if_neg (by decide), fil_app _ _ _ g4]
      simp [Lib.repeatL, fil, Lib.join, List.intercalate]
    · intro x hx
      simp at hx
      rcases hx with rfl | rfl | rfl | rfl
      · exact gi _ h1
      · exact ⟨g1, g2⟩
      · exact gi _ h3
      · exact gi _ h4
    · rw [hmean [itoa th, wd, itoa ar, itoa da] [th, ar, da] hf (by rw [nums_i h1, nums_w g3, nums_i h3, nums_i h4, nums_nil]) (by simp) rfl]
      simp [ho]
theorem ln_call (T : Nat) (done : List Mv) (m : Mv) (h : MvB m) (hl : done.length + 1 ≤ 65536) : Ln T done (callLn m) [m] := by
  unfold callLn
  cases hr : rowOf m.op with
  | none => exact ln_op T done m h hl
  | some k =>
    dsimp only
    by_cases ht : tels k m = true
    · rw [if_pos ht]; exact ln_word T done m k h hr ht hl
    · rw [if_neg ht]; exact ln_op T done m h hl
theorem take_steps (t : Int) : ∀ (l : List Mv), l.take (stepsOf t l) = List.replicate (stepsOf t l) (stp t)
  | [] => rfl
  | m :: r => by
    unfold stepsOf
    split
    · rename_i e
      rw [List.take_succ_cons, List.replicate_succ, take_steps t r, e]
    · simp
theorem ln_line (T : Nat) (done : List Mv) (m : Mv) (r : List Mv) (h : MvB m) (hl : done.length + (m :: r).length ≤ 65536) : Ln T done (lineOf m r).1 ((m :: r).take (lineOf m r).2) := by
  have hp := lineOf_pos m r
  have hs := stepsOf_le m.th (m :: r)
  have hl1 : done.length + 1 ≤ 65536 := by simp at hl; omega
  unfold lineOf
  split
  · exact ln_call T done m h hl1
  · rename_i h0
    split
    · rename_i h1
      have e : m = stp m.th := by
        unfold stepsOf at h1
        split at h1
        · assumption
        · cases h1
      have := ln_step T done m.th h.1 hl1
      simp only [List.take_succ_cons, List.take_zero]
      rw [← e] at this
      rw [show m.th = m.th from rfl]
      exact this
    · rw [take_steps]
      exact ln_steps T done m.th _ h.1 (by omega) (by omega)
end Go.Proofs.YtcomelbphdjnnaaGreatDoor.Sc
/-
  SCRIPT, pure: what is printed is read as what it was.
-/
namespace Go.Proofs.YtcomelbphdjnnaaGreatDoor.Sc
open Go.RowKit
open Go.Lib (itoa)
set_option linter.unusedVariables false
set_option linter.unusedSimpArgs false
set_option maxRecDepth 100000
theorem join_no : ∀ (ws : List (List UInt8)), (∀ x ∈ ws, ∀ c ∈ x, c ≠ 10) → ∀ c ∈ Lib.join ws [32], c ≠ 10
  | [], _, c, hc => by simp [Lib.join_nil] at hc
  | [x], h, c, hc => by rw [Lib.join_one] at hc; exact h x (List.mem_cons_self ..) c hc
  | x :: y :: r, h, c, hc => by
    have e : Lib.join (x :: y :: r) [32] = x ++ 32 :: Lib.join (y :: r) [32] := by simp [Lib.join, List.intercalate]
    rw [e] at hc
    rcases List.mem_append.1 hc with hc | hc
    · exact h x (List.mem_cons_self ..) c hc
    · rcases List.mem_cons.1 hc with rfl | hc
      · decide
      · exact join_no (y :: r) (fun z hz => h z (List.mem_cons_of_mem _ hz)) c hc
theorem prO_line (a b : List UInt8) (st : Cf × List Mv) (h : ∀ x ∈ a, x ≠ 10) (hk : lnE st (words a) = 0) : prO (a ++ 10 :: b).length (a ++ 10 :: b) st = prO b.length b (lnS st (words a)) := by
  have hc := cut_nl a b h
  generalize hl : a ++ 10 :: b = l at *
  cases l with
  | nil => have := congrArg List.length hl; simp at this
  | cons c r =>
    have hlen : b.length ≤ r.length := by have := congrArg List.length hl; simp at this; omega
    simp only [List.length_cons, prO]
    rw [hc]
    dsimp only
    rw [if_pos hk]
    exact prO_fuel r.length b _ hlen
theorem back_lines (cf : Cf) (hcf : cfgC cf = true) : ∀ (n : Nat) (ms done : List Mv), ms.length ≤ n → (∀ m ∈ ms, MvB m) → done.length + ms.length ≤ 65536 → prO (lines ms).length (lines ms) (cf, done) = some (cf, done ++ ms)
  | n, [], done, _, _, _ => by simp [lines, linesF, prO]
  | 0, m :: r, done, h, _, _ => by simp at h
  | n + 1, m :: r, done, h, hm, hl => by
    obtain ⟨p1, p2⟩ := lineOf_pos m r
    obtain ⟨ws, e1, e2, e3, e4, e5, e6⟩ := (ln_line cf.c0.toNat done m r (hm m (List.mem_cons_self ..)) hl).ex
    have hwj := words_join ws e2
    have hlnE : lnE (cf, done) (words (Lib.join ws [32])) = 0 := by
      rw [hwj]; unfold lnE; rw [if_neg e4]; dsimp only; rw [if_neg (cfgC_ne hcf)]; exact e5
    have hlnS : lnS (cf, done) (words (Lib.join ws [32])) = (cf, done ++ (m :: r).take (lineOf m r).2) := by
      rw [hwj]; unfold lnS; rw [if_neg e4]; dsimp only; rw [if_neg (cfgC_ne hcf), e6]
    have htx : lines (m :: r) = Lib.join ws [32] ++ 10 :: lines ((m :: r).drop (lineOf m r).2) := by rw [lines_cons, e1]; simp
    rw [htx, prO_line _ _ _ (join_no ws e3) hlnE, hlnS]
    have hd : ((m :: r).drop (lineOf m r).2).length ≤ n := by simp at h ⊢; omega
    rw [back_lines cf hcf n _ _ hd (fun x hx => hm x (List.mem_of_mem_drop hx)) (by
      rw [List.length_append, List.length_take, List.length_drop]; omega)]
    rw [List.append_assoc, List.take_append_drop]
theorem cf_bd {c : Cf} (h : cfgC c = true) : Bd c.c0 ∧ Bd c.c1 ∧ Bd c.c2 ∧ Bd c.c3 ∧ Bd c.c4 ∧ Bd c.c5 ∧ Bd c.c6 := by
  unfold cfgC Wc.cfgB Wc.inB at h
  simp only [Bool.and_eq_true, decide_eq_true_eq] at h
  unfold Bd
  omega
def cfL (c : Cf) : List Int := [c.c0, c.c1, c.c2, c.c3, c.c4, c.c5, c.c6]
theorem mac_line (c : Cf) (h : cfgC c = true) : ∃ ws, fil fMachine (cfL c) = Lib.join ws [32] ∧ (∀ x ∈ ws, Gw x) ∧ (∀ x ∈ ws, ∀ d ∈ x, d ≠ 10) ∧ ws ≠ [] ∧ macE ws = 0 ∧ cfN (numsL ws) = c := by
  obtain ⟨b0, b1, b2, b3, b4, b5, b6⟩ := cf_bd h
  have w0 := gw_of [109, 97, 99, 104, 105, 110, 101] (by decide)
  have l0 : numLike [109, 97, 99, 104, 105, 110, 101] = false := by decide
  have w1 := gw_of [116, 104, 114, 101, 97, 100, 115] (by decide)
  have l1 : numLike [116, 104, 114, 101, 97, 100, 115] = false := by decide
  have w2 := gw_of [114, 101, 99, 111, 114, 100, 115] (by decide)
  have l2 : numLike [114, 101, 99, 111, 114, 100, 115] = false := by decide
  have w3 := gw_of [104, 97, 122, 97, 114, 100, 115] (by decide)
  have l3 : numLike [104, 97, 122, 97, 114, 100, 115] = false := by decide
  have w4 := gw_of [114, 101, 116, 105, 114, 101] (by decide)
  have l4 : numLike [114, 101, 116, 105, 114, 101] = false := by decide
  have w5 := gw_of [99, 97, 99, 104, 101] (by decide)
  have l5 : numLike [99, 97, 99, 104, 101] = false := by decide
  have w6 := gw_of [115, 108, 111, 116, 115] (by decide)
  have l6 : numLike [115, 108, 111, 116, 115] = false := by decide
  have w7 := gw_of [98, 117, 99, 107, 101, 116, 115] (by decide)
  have l7 : numLike [98, 117, 99, 107, 101, 116, 115] = false := by decide
  have hf : formL [[109, 97, 99, 104, 105, 110, 101], [116, 104, 114, 101, 97, 100, 115], itoa c.c0, [114, 101, 99, 111, 114, 100, 115], itoa c.c1, [104, 97, 122, 97, 114, 100, 115], itoa c.c2, [114, 101, 116, 105, 114, 101], itoa c.c3, [99, 97, 99, 104, 101], itoa c.c4, [115, 108, 111, 116, 115], itoa c.c5, [98, 117, 99, 107, 101, 116, 115], itoa c.c6] = fMachine := by unfold formL; simp only [List.map_cons, List.map_nil, nrm_itoa _ b0, nrm_itoa _ b1, nrm_itoa _ b2, nrm_itoa _ b3, nrm_itoa _ b4, nrm_itoa _ b5, nrm_itoa _ b6, nrm_w l0, nrm_w l1, nrm_w l2, nrm_w l3, nrm_w l4, nrm_w l5, nrm_w l6, nrm_w l7]; decide
  have hn : numsL [[109, 97, 99, 104, 105, 110, 101], [116, 104, 114, 101, 97, 100, 115], itoa c.c0, [114, 101, 99, 111, 114, 100, 115], itoa c.c1, [104, 97, 122, 97, 114, 100, 115], itoa c.c2, [114, 101, 116, 105, 114, 101], itoa c.c3, [99, 97, 99, 104, 101], itoa c.c4, [115, 108, 111, 116, 115], itoa c.c5, [98, 117, 99, 107, 101, 116, 115], itoa c.c6] = cfL c := by rw [nums_w l0, nums_w l1, nums_i b0, nums_w l2, nums_i b1, nums_w l3, nums_i b2, nums_w l4, nums_i b3, nums_w l5, nums_i b4, nums_w l6, nums_i b5, nums_w l7, nums_i b6, nums_nil]; rfl
  have hw : wholeL [[109, 97, 99, 104, 105, 110, 101], [116, 104, 114, 101, 97, 100, 115], itoa c.c0, [114, 101, 99, 111, 114, 100, 115], itoa c.c1, [104, 97, 122, 97, 114, 100, 115], itoa c.c2, [114, 101, 116, 105, 114, 101], itoa c.c3, [99, 97, 99, 104, 101], itoa c.c4, [115, 108, 111, 116, 115], itoa c.c5, [98, 117, 99, 107, 101, 116, 115], itoa c.c6] = true := by rw [whole_w l0, whole_w l1, whole_i b0, whole_w l2, whole_i b1, whole_w l3, whole_i b2, whole_w l4, whole_i b3, whole_w l5, whole_i b4, whole_w l6, whole_i b5, whole_w l7, whole_i b6, whole_nil]
  refine ⟨[[109, 97, 99, 104, 105, 110, 101], [116, 104, 114, 101, 97, 100, 115], itoa c.c0, [114, 101, 99, 111, 114, 100, 115], itoa c.c1, [104, 97, 122, 97, 114, 100, 115], itoa c.c2, [114, 101, 116, 105, 114, 101], itoa c.c3, [99, 97, 99, 104, 101], itoa c.c4, [115, 108, 111, 116, 115], itoa c.c5, [98, 117, 99, 107, 101, 116, 115], itoa c.c6], ?_, ?_, ?_, by simp, ?_, ?_⟩
  · simp [fMachine, fil, cfL, Lib.join, List.intercalate]
  · intro x hx
    simp only [List.mem_cons, List.not_mem_nil, or_false] at hx
    rcases hx with rfl | rfl | rfl | rfl | rfl | rfl | rfl | rfl | rfl | rfl | rfl | rfl | rfl | rfl | rfl
    · exact w0.1
    · exact w1.1
    · exact gw_itoa _ b0
    · exact w2.1
    · exact gw_itoa _ b1
    · exact w3.1
    · exact gw_itoa _ b2
    · exact w4.1
    · exact gw_itoa _ b3
    · exact w5.1
    · exact gw_itoa _ b4
    · exact w6.1
    · exact gw_itoa _ b5
    · exact w7.1
    · exact gw_itoa _ b6
  · intro x hx
    simp only [List.mem_cons, List.not_mem_nil, or_false] at hx
    rcases hx with rfl | rfl | rfl | rfl | rfl | rfl | rfl | rfl | rfl | rfl | rfl | rfl | rfl | rfl | rfl
    · exact w0.2
    · exact w1.2
    · exact i_ne _ b0
    · exact w2.2
    · exact i_ne _ b1
    · exact w3.2
    · exact i_ne _ b2
    · exact w4.2
    · exact i_ne _ b3
    · exact w5.2
    · exact i_ne _ b4
    · exact w6.2
    · exact i_ne _ b5
    · exact w7.2
    · exact i_ne _ b6
  · unfold macE
    rw [if_pos hf, if_pos hw, hn]
    have e : cfN (cfL c) = c := rfl
    rw [e, if_pos h]
  · rw [hn]; rfl
theorem back (c : Cf) (ms : List Mv) (hc : cfgC c = true) (hm : ∀ m ∈ ms, MvB m) (hl : ms.length ≤ 65536) (ht : (prints (cfL c) ms).length ≤ 1048576) : parseO (prints (cfL c) ms) = some (c, ms) := by
  obtain ⟨ws, e1, e2, e3, e4, e5, e6⟩ := mac_line c hc
  have hwj := words_join ws e2
  have hp : prints (cfL c) ms = Lib.join ws [32] ++ 10 :: lines ms := by unfold prints; rw [e1]; simp
  have hlnE : lnE (cfZ, []) (words (Lib.join ws [32])) = 0 := by rw [hwj]; unfold lnE; rw [if_neg e4, if_pos rfl]; exact e5
  have hlnS : lnS (cfZ, []) (words (Lib.join ws [32])) = (c, []) := by rw [hwj]; unfold lnS; rw [if_neg e4, if_pos rfl, e6]
  unfold parseO
  rw [if_pos ht]
  have : prO (prints (cfL c) ms).length (prints (cfL c) ms) (cfZ, []) = some (c, ms) := by
    rw [hp, prO_line _ _ _ (join_no ws e3) hlnE, hlnS, back_lines c hc ms.length ms [] (Nat.le_refl _) hm (by simpa using hl)]
    rfl
  rw [this]
  dsimp only
  rw [if_neg (cfgC_ne hc)]
end Go.Proofs.YtcomelbphdjnnaaGreatDoor.Sc
