import Derived.Test.YtcomelbphdjnnaaGreatDoorJ16
/-
  SCRIPT, pure: a line that is printed is read as its moves.
-/
namespace Go.Proofs.YtcomelbphdjnnaaGreatDoor.Sc
open Go.RowKit
open Go.Lib (itoa)
set_option linter.unusedVariables false
set_option linter.unusedSimpArgs false
/-- What a line of these words does. -/
structure Ln (T : Nat) (done : List Mv) (L : List UInt8) (mv : List Mv) : Prop where
  ex : ∃ ws, L = Lib.join ws [32] ++ [10] ∧ (∀ x ∈ ws, Gw x) ∧ (∀ x ∈ ws, ∀ c ∈ x, c ≠ 10) ∧ ws ≠ [] ∧ entE T done ws = 0 ∧ entM T done ws = done ++ mv
theorem ent_of {T : Nat} {done : List Mv} {ws : List (List UInt8)} {mv : List Mv} {t : Nat} (hm : mean T ws (numsL ws) = (mv, (t : Int))) (hw : wholeL ws = true) (hn : mv ≠ []) (h1 : 1 ≤ t) (h2 : done.length + t * mv.length ≤ 65536) : entE T done ws = 0 ∧ entM T done ws = done ++ (List.replicate t mv).flatten := by
  have hl : 1 ≤ mv.length := List.length_pos_iff.2 hn
  have h3 : t ≤ t * mv.length := Nat.le_mul_of_pos_right _ hl
  have ht : ((t : Int)).toNat = t := by omega
  unfold entE entM
  rw [hm]
  dsimp only
  rw [if_neg hn, hw, if_neg (by simp), if_neg (by omega), ht, if_neg (by omega)]
  exact ⟨rfl, rfl⟩
theorem nums_two (l : List (List UInt8)) (a : List UInt8) : numsL (a :: l) = (if numLike a = true then [numV a] else []) ++ numsL l := by
  unfold numsL
  by_cases h : numLike a = true <;> simp [h]
theorem whole_two (l : List (List UInt8)) (a : List UInt8) : wholeL (a :: l) = ((!(numLike a) || (numOk a).isSome) && wholeL l) := by
  unfold wholeL
  by_cases h : numLike a = true <;> simp [h]
theorem nums_i {n : Int} (h : Bd n) (l : List (List UInt8)) : numsL (itoa n :: l) = n :: numsL l := by
  rw [nums_two, if_pos (numLike_itoa n h), numV_itoa n h]; rfl
theorem whole_i {n : Int} (h : Bd n) (l : List (List UInt8)) : wholeL (itoa n :: l) = wholeL l := by
  rw [whole_two, numOk_itoa n h]; simp
theorem nums_w {x : List UInt8} (h : numLike x = false) (l : List (List UInt8)) : numsL (x :: l) = numsL l := by
  rw [nums_two, if_neg (by simp [h])]; rfl
theorem whole_w {x : List UInt8} (h : numLike x = false) (l : List (List UInt8)) : wholeL (x :: l) = wholeL l := by
  rw [whole_two, h]; simp
theorem nums_nil : numsL [] = [] := rfl
theorem whole_nil : wholeL [] = true := rfl
theorem nrm_w {x : List UInt8} (h : numLike x = false) : nrm x = x := by unfold nrm; rw [if_neg (by simp [h])]
theorem gw_of (x : List UInt8) (h : (!(x.isEmpty) && x.all (fun c => !(bl c) && !(c == 10)) && !(x.head? == some 35)) = true) : Gw x ∧ ∀ c ∈ x, c ≠ 10 := by
  simp only [Bool.and_eq_true, Bool.not_eq_true', List.all_eq_true, beq_eq_false_iff_ne] at h
  obtain ⟨⟨h1, h2⟩, h3⟩ := h
  exact ⟨⟨(by intro e; rw [e] at h1; cases h1), fun c hc => (h2 c hc).1, h3⟩, fun c hc => (h2 c hc).2⟩
theorem dot_ok : Gw [46] ∧ (∀ c ∈ ([46] : List UInt8), c ≠ 10) ∧ numLike [46] = false := ⟨(gw_of [46] (by decide)).1, (gw_of [46] (by decide)).2, by decide⟩
theorem op_ok : Gw [111, 112] ∧ (∀ c ∈ ([111, 112] : List UInt8), c ≠ 10) ∧ numLike [111, 112] = false := ⟨(gw_of [111, 112] (by decide)).1, (gw_of [111, 112] (by decide)).2, by decide⟩
theorem i_ne (n : Int) (h : Bd n) : ∀ c ∈ itoa n, c ≠ 10 := itoa_byte_ne n h 10 (by decide)
theorem ln_step (T : Nat) (done : List Mv) (th : Int) (h : Bd th) (hl : done.length + 1 ≤ 65536) : Ln T done (fil fStep [th] ++ [10]) [stp th] := by
  obtain ⟨g1, g2, g3⟩ := dot_ok
  have hf : formL [itoa th, [46]] = fStep := by unfold formL; simp only [List.map_cons, List.map_nil, nrm_itoa th h, nrm_w g3]; decide
  have hn : numsL [itoa th, [46]] = [th] := by rw [nums_i h, nums_w g3, nums_nil]
  have hw : wholeL [itoa th, [46]] = true := by rw [whole_i h, whole_w g3, whole_nil]
  have hm : mean T [itoa th, [46]] (numsL [itoa th, [46]]) = ([stp th], ((1 : Nat) : Int)) := by unfold mean; rw [if_pos hf, hn]; rfl
  obtain ⟨e1, e2⟩ := ent_of (done := done) hm hw (by simp) (by omega) (by simpa using hl)
  refine ⟨[itoa th, [46]], ?_, ?_, ?_, by simp, e1, by rw [e2]; simp⟩
  · simp [fStep, fil, Lib.join, List.intercalate]
  · intro x hx
    simp at hx
    rcases hx with rfl | rfl
    · exact gw_itoa th h
    · exact g1
  · intro x hx
    simp at hx
    rcases hx with rfl | rfl
    · exact i_ne th h
    · exact g2
theorem ln_steps (T : Nat) (done : List Mv) (th : Int) (n : Nat) (h : Bd th) (h1 : 1 ≤ n) (hl : done.length + n ≤ 65536) : Ln T done (fil fSteps [th, (n : Int)] ++ [10]) (List.replicate n (stp th)) := by
  obtain ⟨g1, g2, g3⟩ := dot_ok
  have hb : Bd (n : Int) := by unfold Bd; omega
  have hf : formL [itoa th, [46], itoa (n : Int)] = fSteps := by unfold formL; simp only [List.map_cons, List.map_nil, nrm_itoa th h, nrm_itoa _ hb, nrm_w g3]; decide
  have hn : numsL [itoa th, [46], itoa (n : Int)] = [th, (n : Int)] := by rw [nums_i h, nums_w g3, nums_i hb, nums_nil]
  have hw : wholeL [itoa th, [46], itoa (n : Int)] = true := by rw [whole_i h, whole_w g3, whole_i hb, whole_nil]
  have hm : mean T [itoa th, [46], itoa (n : Int)] (numsL [itoa th, [46], itoa (n : Int)]) = ([stp th], ((n : Nat) : Int)) := by unfold mean; rw [hf, if_neg (by decide), if_pos rfl, hn]; rfl
  obtain ⟨e1, e2⟩ := ent_of (done := done) hm hw (by simp) h1 (by simpa using hl)
  refine ⟨[itoa th, [46], itoa (n : Int)], ?_, ?_, ?_, by simp, e1, ?_⟩
  · simp [fSteps, fil, Lib.join, List.intercalate]
  · intro x hx
    simp at hx
    rcases hx with rfl | rfl | rfl
    · exact gw_itoa th h
    · exact g1
    · exact gw_itoa _ hb
  · intro x hx
    simp at hx
    rcases hx with rfl | rfl | rfl
    · exact i_ne th h
    · exact g2
    · exact i_ne _ hb
  · rw [e2, List.flatten_replicate_singleton]
theorem ln_op (T : Nat) (done : List Mv) (m : Mv) (h : MvB m) (hl : done.length + 1 ≤ 65536) : Ln T done (fil fOp [m.th, m.op, m.arg, m.data] ++ [10]) [m] := by
  obtain ⟨h1, h2, h3, h4⟩ := h
  obtain ⟨g1, g2, g3⟩ := op_ok
  have hf : formL [itoa m.th, [111, 112], itoa m.op, itoa m.arg, itoa m.data] = fOp := by unfold formL; simp only [List.map_cons, List.map_nil, nrm_itoa _ h1, nrm_itoa _ h2, nrm_itoa _ h3, nrm_itoa _ h4, nrm_w g3]; decide
  have hn : numsL [itoa m.th, [111, 112], itoa m.op, itoa m.arg, itoa m.data] = [m.th, m.op, m.arg, m.data] := by rw [nums_i h1, nums_w g3, nums_i h2, nums_i h3, nums_i h4, nums_nil]
  have hw : wholeL [itoa m.th, [111, 112], itoa m.op, itoa m.arg, itoa m.data] = true := by rw [whole_i h1, whole_w g3, whole_i h2, whole_i h3, whole_i h4, whole_nil]
  have hm : mean T [itoa m.th, [111, 112], itoa m.op, itoa m.arg, itoa m.data] (numsL [itoa m.th, [111, 112], itoa m.op, itoa m.arg, itoa m.data]) = ([m], ((1 : Nat) : Int)) := by unfold mean; rw [hf, if_neg (by decide), if_neg (by decide), if_neg (by decide), if_pos rfl, hn]; rfl
  obtain ⟨e1, e2⟩ := ent_of (done := done) hm hw (by simp) (by omega) (by simpa using hl)
  refine ⟨[itoa m.th, [111, 112], itoa m.op, itoa m.arg, itoa m.data], ?_, ?_, ?_, by simp, e1, by rw [e2]; simp⟩
  · simp [fOp, fil, Lib.join, List.intercalate]
  · intro x hx
    simp at hx
    rcases hx with rfl | rfl | rfl | rfl | rfl
    · exact gw_itoa _ h1
    · exact g1
    · exact gw_itoa _ h2
    · exact gw_itoa _ h3
    · exact gw_itoa _ h4
  · intro x hx
    simp at hx
    rcases hx with rfl | rfl | rfl | rfl | rfl
    · exact i_ne _ h1
    · exact g2
    · exact i_ne _ h2
    · exact i_ne _ h3
    · exact i_ne _ h4
end Go.Proofs.YtcomelbphdjnnaaGreatDoor.Sc
/-
  SCRIPT, pure: a script that is printed is read as it was.
-/
namespace Go.Proofs.YtcomelbphdjnnaaGreatDoor.Sc
open Go.RowKit
open Go.Lib (itoa)
set_option linter.unusedVariables false
set_option linter.unusedSimpArgs false
theorem wd_facts (k : Nat) (hk : k < 21) : (Gw (wdA k).data.toList ∧ ∀ c ∈ (wdA k).data.toList, c ≠ 10) ∧ numLike (wdA k).data.toList = false ∧ (∀ c ∈ (wdA k).data.toList, c ≠ 48) ∧ rowN (wdA k).data.toList = some k ∧ fCall k ≠ fStep ∧ fCall k ≠ fSteps ∧ fCall k ≠ fRounds ∧ fCall k ≠ fOp := by
  have := all_below (P := fun k => (!((wdA k).data.toList.isEmpty) && (wdA k).data.toList.all (fun c => !(bl c) && !(c == 10)) && !((wdA k).data.toList.head? == some 35)) && (!(numLike (wdA k).data.toList)) && (wdA k).data.toList.all (fun c => !(c == 48)) && (rowN (wdA k).data.toList == some k) && (!(fCall k == fStep)) && (!(fCall k == fSteps)) && (!(fCall k == fRounds)) && (!(fCall k == fOp))) (n := 21) (by decide +kernel) hk
  rw [Bool.and_eq_true, Bool.and_eq_true, Bool.and_eq_true, Bool.and_eq_true, Bool.and_eq_true, Bool.and_eq_true, Bool.and_eq_true] at this
  obtain ⟨⟨⟨⟨⟨⟨⟨h1, h2⟩, h3⟩, h4⟩, h5⟩, h6⟩, h7⟩, h8⟩ := this
  refine ⟨gw_of _ h1, by simpa using h2, ?_, by simpa using h4, by simpa using h5, by simpa using h6, by simpa using h7, by simpa using h8⟩
  intro c hc
  have := List.all_eq_true.1 h3 c hc
  simpa using this
theorem fil_app : ∀ (x y : List UInt8) (ns : List Int), (∀ c ∈ x, c ≠ 48) → fil (x ++ y) ns = x ++ fil y ns
  | [], y, ns, _ => rfl
  | c :: x, y, ns, h => by
    have hc := h c (List.mem_cons_self ..)
    simp only [List.cons_append, fil, hc, if_false]
    rw [fil_app x y ns (fun d hd => h d (List.mem_cons_of_mem _ hd))]
theorem ln_word (T : Nat) (done : List Mv) (m : Mv) (k : Nat) (h : MvB m) (hr : rowOf m.op = some k) (ht : tels k m = true) (hl : done.length + 1 ≤ 65536) : Ln T done (fil (fCall k) [m.th, m.arg, m.data] ++ [10]) [m] := by
  obtain ⟨hk, ho⟩ := rowOf_some hr
  obtain ⟨h1, h2, h3, h4⟩ := h
  obtain ⟨⟨g1, g2⟩, g3, g4, g5, n1, n2, n3, n4⟩ := wd_facts k hk
  obtain ⟨z1, z2, z3, z4, z5, z6⟩ := fCall_ok k hk
  have hfc : fCall k = 48 :: 32 :: ((wdA k).data.toList ++ Lib.repeatL [32, 48] (tkA k).toNat) := by unfold fCall; simp
  have hmean : ∀ ws ns, formL ws = fCall k → numsL ws = ns → ¬ ws.length < 2 → ws.getD 1 [] = (wdA k).data.toList → mean T ws (numsL ws) = ([⟨ns.getD 0 0, opA k, ns.getD 1 0, ns.getD 2 0⟩], ((1 : Nat) : Int)) := by
    intro ws ns hf hn h2 hw
    unfold mean
    rw [hf, if_neg n1, if_neg n2, if_neg n3, if_neg n4, hn, callM_two h2, hw, g5]
    simp
  have hcase : (tkA k = 0 ∧ m.arg = 0 ∧ m.data = 0) ∨ (tkA k = 1 ∧ m.data = 0) ∨ tkA k = 2 := by
    unfold tels at ht
    simp only [Bool.and_eq_true, Bool.or_eq_true, decide_eq_true_eq, beq_iff_eq] at ht
    omega
  generalize hwd : (wdA k).data.toList = wd at *
  have fin : ∀ ws : List (List UInt8), fil (fCall k) [m.th, m.arg, m.data] = Lib.join ws [32] → (∀ x ∈ ws, Gw x ∧ ∀ c ∈ x, c ≠ 10) → ws ≠ [] → mean T ws (numsL ws) = ([m], ((1 : Nat) : Int)) → wholeL ws = true → Ln T done (fil (fCall k) [m.th, m.arg, m.data] ++ [10]) [m] := by
    intro ws e1 e2 e3 e4 e5
    obtain ⟨q1, q2⟩ := ent_of (done := done) e4 e5 (by simp) (by omega) (by simpa using hl)
    exact ⟨ws, by rw [e1], fun x hx => (e2 x hx).1, fun x hx => (e2 x hx).2, e3, q1, by rw [q2]; simp⟩
  obtain ⟨th, op, ar, da⟩ := m
  dsimp only at *
  have gi : ∀ n, Bd n → Gw (itoa n) ∧ ∀ c ∈ itoa n, c ≠ 10 := fun n hn => ⟨gw_itoa n hn, i_ne n hn⟩
  rcases hcase with ⟨t0, a0, d0⟩ | ⟨t0, d0⟩ | t0
  · have hf : formL [itoa th, wd] = fCall k := by unfold formL; simp only [List.map_cons, List.map_nil, nrm_itoa _ h1, nrm_w g3]; rw [hfc, t0]; simp [Lib.join, List.intercalate, Lib.repeatL]
    refine fin [itoa th, wd] ?_ ?_ (by simp) ?_ (by rw [whole_i h1, whole_w g3, whole_nil])
    · rw [hfc, t0]
      simp only [fil, if_true]
      rw [if_neg (by decide), fil_app _ _ _ g4]
      simp [Lib.repeatL, fil, Lib.join, List.intercalate]
    · intro x hx
      simp at hx
      rcases hx with rfl | rfl
      · exact gi _ h1
      · exact ⟨g1, g2⟩
    · rw [hmean [itoa th, wd] [th] hf (by rw [nums_i h1, nums_w g3, nums_nil]) (by simp) rfl]
      simp [ho, a0, d0]
  · have hf : formL [itoa th, wd, itoa ar] = fCall k := by unfold formL; simp only [List.map_cons, List.map_nil, nrm_itoa _ h1, nrm_itoa _ h3, nrm_w g3]; rw [hfc, t0]; simp [Lib.join, List.intercalate, Lib.repeatL]
    refine fin [itoa th, wd, itoa ar] ?_ ?_ (by simp) ?_ (by rw [whole_i h1, whole_w g3, whole_i h3, whole_nil])
    · rw [hfc, t0]
      simp only [fil, if_true]
      rw [if_neg (by decide), fil_app _ _ _ g4]
      simp [Lib.repeatL, fil, Lib.join, List.intercalate]
    · intro x hx
      simp at hx
      rcases hx with rfl | rfl | rfl
      · exact gi _ h1
      · exact ⟨g1, g2⟩
      · exact gi _ h3
    · rw [hmean [itoa th, wd, itoa ar] [th, ar] hf (by rw [nums_i h1, nums_w g3, nums_i h3, nums_nil]) (by simp) rfl]
      simp [ho, d0]
  · have hf : formL [itoa th, wd, itoa ar, itoa da] = fCall k := by unfold formL; simp only [List.map_cons, List.map_nil, nrm_itoa _ h1, nrm_itoa _ h3, nrm_itoa _ h4, nrm_w g3]; rw [hfc, t0]; simp [Lib.join, List.intercalate, Lib.repeatL]
    refine fin [itoa th, wd, itoa ar, itoa da] ?_ ?_ (by simp) ?_ (by rw [whole_i h1, whole_w g3, whole_i h3, whole_i h4, whole_nil])
    · rw [hfc, t0]
      simp only [fil, if_true]
      rw [if_neg (by decide), fil_app _ _ _ g4]
      simp [Lib.repeatL, fil, Lib.join, List.intercalate]
    · intro x hx
      simp at hx
      rcases hx with rfl | rfl | rfl | rfl
      · exact gi _ h1
      · exact ⟨g1, g2⟩
      · exact gi _ h3
      · exact gi _ h4
    · rw [hmean [itoa th, wd, itoa ar, itoa da] [th, ar, da] hf (by rw [nums_i h1, nums_w g3, nums_i h3, nums_i h4, nums_nil]) (by simp) rfl]
      simp [ho]
theorem ln_call (T : Nat) (done : List Mv) (m : Mv) (h : MvB m) (hl : done.length + 1 ≤ 65536) : Ln T done (callLn m) [m] := by
  unfold callLn
  cases hr : rowOf m.op with
  | none => exact ln_op T done m h hl
  | some k =>
    dsimp only
    by_cases ht : tels k m = true
    · rw [if_pos ht]; exact ln_word T done m k h hr ht hl
    · rw [if_neg ht]; exact ln_op T done m h hl
theorem take_steps (t : Int) : ∀ (l : List Mv), l.take (stepsOf t l) = List.replicate (stepsOf t l) (stp t)
  | [] => rfl
  | m :: r => by
    unfold stepsOf
    split
    · rename_i e
      rw [List.take_succ_cons, List.replicate_succ, take_steps t r, e]
    · simp
theorem ln_line (T : Nat) (done : List Mv) (m : Mv) (r : List Mv) (h : MvB m) (hl : done.length + (m :: r).length ≤ 65536) : Ln T done (lineOf m r).1 ((m :: r).take (lineOf m r).2) := by
  have hp := lineOf_pos m r
  have hs := stepsOf_le m.th (m :: r)
  have hl1 : done.length + 1 ≤ 65536 := by simp at hl; omega
  unfold lineOf
  split
  · exact ln_call T done m h hl1
  · rename_i h0
    split
    · rename_i h1
      have e : m = stp m.th := by
        unfold stepsOf at h1
        split at h1
        · assumption
        · cases h1
      have := ln_step T done m.th h.1 hl1
      simp only [List.take_succ_cons, List.take_zero]
      rw [← e] at this
      rw [show m.th = m.th from rfl]
      exact this
    · rw [take_steps]
      exact ln_steps T done m.th _ h.1 (by omega) (by omega)
end Go.Proofs.YtcomelbphdjnnaaGreatDoor.Sc
