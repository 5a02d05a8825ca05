/-
  SCRIPT, pure: a script that is printed is read as it was.
-/
import Derived.Test.YtfhkgeoionkonaaGreatDoorScBkB
namespace Go.Proofs.YtfhkgeoionkonaaGreatDoor.Sc
open Go.RowKit
open Go.Lib (itoa)
set_option linter.unusedVariables false
set_option linter.unusedSimpArgs false
theorem wd_facts (k : Nat) (hk : k < 21) : (Gw (wdA k).data.toList ∧ ∀ c ∈ (wdA k).data.toList, c ≠ 10) ∧ numLike (wdA k).data.toList = false ∧ (∀ c ∈ (wdA k).data.toList, c ≠ 48) ∧ rowN (wdA k).data.toList = some k ∧ fCall k ≠ fStep ∧ fCall k ≠ fSteps ∧ fCall k ≠ fRounds ∧ fCall k ≠ fOp := by
  have := all_below (P := fun k => (!((wdA k).data.toList.isEmpty) && (wdA k).data.toList.all (fun c => !(bl c) && !(c == 10)) && !((wdA k).data.toList.head? == some 35)) && (!(numLike (wdA k).data.toList)) && (wdA k).data.toList.all (fun c => !(c == 48)) && (rowN (wdA k).data.toList == some k) && (!(fCall k == fStep)) && (!(fCall k == fSteps)) && (!(fCall k == fRounds)) && (!(fCall k == fOp))) (n := 21) (by decide +kernel) hk
  rw [Bool.and_eq_true, Bool.and_eq_true, Bool.and_eq_true, Bool.and_eq_true, Bool.and_eq_true, Bool.and_eq_true, Bool.and_eq_true] at this
  obtain ⟨⟨⟨⟨⟨⟨⟨h1, h2⟩, h3⟩, h4⟩, h5⟩, h6⟩, h7⟩, h8⟩ := this
  refine ⟨gw_of _ h1, by simpa using h2, ?_, by simpa using h4, by simpa using h5, by simpa using h6, by simpa using h7, by simpa using h8⟩
  intro c hc
  have := List.all_eq_true.1 h3 c hc
  simpa using this
theorem fil_app : ∀ (x y : List UInt8) (ns : List Int), (∀ c ∈ x, c ≠ 48) → fil (x ++ y) ns = x ++ fil y ns
  | [], y, ns, _ => rfl
  | c :: x, y, ns, h => by
    have hc := h c (List.mem_cons_self ..)
    simp only [List.cons_append, fil, hc, if_false]
    rw [fil_app x y ns (fun d hd => h d (List.mem_cons_of_mem _ hd))]
theorem ln_word (T : Nat) (done : List Mv) (m : Mv) (k : Nat) (h : MvB m) (hr : rowOf m.op = some k) (ht : tels k m = true) (hl : done.length + 1 ≤ 65536) : Ln T done (fil (fCall k) [m.th, m.arg, m.data] ++ [10]) [m] := by
  obtain ⟨hk, ho⟩ := rowOf_some hr
  obtain ⟨h1, h2, h3, h4⟩ := h
  obtain ⟨⟨g1, g2⟩, g3, g4, g5, n1, n2, n3, n4⟩ := wd_facts k hk
  obtain ⟨z1, z2, z3, z4, z5, z6⟩ := fCall_ok k hk
  have hfc : fCall k = 48 :: 32 :: ((wdA k).data.toList ++ Lib.repeatL [32, 48] (tkA k).toNat) := by unfold fCall; simp
  have hmean : ∀ ws ns, formL ws = fCall k → numsL ws = ns → ¬ ws.length < 2 → ws.getD 1 [] = (wdA k).data.toList → mean T ws (numsL ws) = ([⟨ns.getD 0 0, opA k, ns.getD 1 0, ns.getD 2 0⟩], ((1 : Nat) : Int)) := by
    intro ws ns hf hn h2 hw
    unfold mean
    rw [hf, if_neg n1, if_neg n2, if_neg n3, if_neg n4, hn, callM_two h2, hw, g5]
    simp
  have hcase : (tkA k = 0 ∧ m.arg = 0 ∧ m.data = 0) ∨ (tkA k = 1 ∧ m.data = 0) ∨ tkA k = 2 := by
    unfold tels at ht
    simp only [Bool.and_eq_true, Bool.or_eq_true, decide_eq_true_eq, beq_iff_eq] at ht
    omega
  generalize hwd : (wdA k).data.toList = wd at *
  have fin : ∀ ws : List (List UInt8), fil (fCall k) [m.th, m.arg, m.data] = Lib.join ws [32] → (∀ x ∈ ws, Gw x ∧ ∀ c ∈ x, c ≠ 10) → ws ≠ [] → mean T ws (numsL ws) = ([m], ((1 : Nat) : Int)) → wholeL ws = true → Ln T done (fil (fCall k) [m.th, m.arg, m.data] ++ [10]) [m] := by
    intro ws e1 e2 e3 e4 e5
    obtain ⟨q1, q2⟩ := ent_of (done := done) e4 e5 (by simp) (by omega) (by simpa using hl)
    exact ⟨ws, by rw [e1], fun x hx => (e2 x hx).1, fun x hx => (e2 x hx).2, e3, q1, by rw [q2]; simp⟩
  obtain ⟨th, op, ar, da⟩ := m
  dsimp only at *
  have gi : ∀ n, Bd n → Gw (itoa n) ∧ ∀ c ∈ itoa n, c ≠ 10 := fun n hn => ⟨gw_itoa n hn, i_ne n hn⟩
  rcases hcase with ⟨t0, a0, d0⟩ | ⟨t0, d0⟩ | t0
  · have hf : formL [itoa th, wd] = fCall k := by unfold formL; simp only [List.map_cons, List.map_nil, nrm_itoa _ h1, nrm_w g3]; rw [hfc, t0]; simp [Lib.join, List.intercalate, Lib.repeatL]
    refine fin [itoa th, wd] ?_ ?_ (by simp) ?_ (by rw [whole_i h1, whole_w g3, whole_nil])
    · rw [hfc, t0]
      simp only [fil, if_true]
      rw [if_neg (by decide), fil_app _ _ _ g4]
      simp [Lib.repeatL, fil, Lib.join, List.intercalate]
    · intro x hx
      simp at hx
      rcases hx with rfl | rfl
      · exact gi _ h1
      · exact ⟨g1, g2⟩
    · rw [hmean [itoa th, wd] [th] hf (by rw [nums_i h1, nums_w g3, nums_nil]) (by simp) rfl]
      simp [ho, a0, d0]
  · have hf : formL [itoa th, wd, itoa ar] = fCall k := by unfold formL; simp only [List.map_cons, List.map_nil, nrm_itoa _ h1, nrm_itoa _ h3, nrm_w g3]; rw [hfc, t0]; simp [Lib.join, List.intercalate, Lib.repeatL]
    refine fin [itoa th, wd, itoa ar] ?_ ?_ (by simp) ?_ (by rw [whole_i h1, whole_w g3, whole_i h3, whole_nil])
    · rw [hfc, t0]
      simp only [fil, if_true]
      rw [if_neg (by decide), fil_app _ _ _ g4]
      simp [Lib.repeatL, fil, Lib.join, List.intercalate]
    · intro x hx
      simp at hx
      rcases hx with rfl | rfl | rfl
      · exact gi _ h1
      · exact ⟨g1, g2⟩
      · exact gi _ h3
    · rw [hmean [itoa th, wd, itoa ar] [th, ar] hf (by rw [nums_i h1, nums_w g3, nums_i h3, nums_nil]) (by simp) rfl]
      simp [ho, d0]
  · have hf : formL [itoa th, wd, itoa ar, itoa da] = fCall k := by unfold formL; simp only [List.map_cons, List.map_nil, nrm_itoa _ h1, nrm_itoa _ h3, nrm_itoa _ h4, nrm_w g3]; rw [hfc, t0]; simp [Lib.join, List.intercalate, Lib.repeatL]
    refine fin [itoa th, wd, itoa ar, itoa da] ?_ ?_ (by simp) ?_ (by rw [whole_i h1, whole_w g3, whole_i h3, whole_i h4, whole_nil])
    · rw [hfc, t0]
      simp only [fil, if_true]
      rw [if_neg (by decide), fil_app _ _ _ g4]
      simp [Lib.repeatL, fil, Lib.join, List.intercalate]
    · intro x hx
      simp at hx
      rcases hx with rfl | rfl | rfl | rfl
      · exact gi _ h1
      · exact ⟨g1, g2⟩
      · exact gi _ h3
      · exact gi _ h4
    · rw [hmean [itoa th, wd, itoa ar, itoa da] [th, ar, da] hf (by rw [nums_i h1, nums_w g3, nums_i h3, nums_i h4, nums_nil]) (by simp) rfl]
      simp [ho]
theorem ln_call (T : Nat) (done : List Mv) (m : Mv) (h : MvB m) (hl : done.length + 1 ≤ 65536) : Ln T done (callLn m) [m] := by
  unfold callLn
  cases hr : rowOf m.op with
  | none => exact ln_op T done m h hl
  | some k =>
    dsimp only
    by_cases ht : tels k m = true
    · rw [if_pos ht]; exact ln_word T done m k h hr ht hl
    · rw [if_neg ht]; exact ln_op T done m h hl
theorem take_steps (t : Int) : ∀ (l : List Mv), l.take (stepsOf t l) = List.replicate (stepsOf t l) (stp t)
  | [] => rfl
  | m :: r => by
    unfold stepsOf
    split
    · rename_i e
      rw [List.take_succ_cons, List.replicate_succ, take_steps t r, e]
    · simp
theorem ln_line (T : Nat) (done : List Mv) (m : Mv) (r : List Mv) (h : MvB m) (hl : done.length + (m :: r).length ≤ 65536) : Ln T done (lineOf m r).1 ((m :: r).take (lineOf m r).2) := by
  have hp := lineOf_pos m r
  have hs := stepsOf_le m.th (m :: r)
  have hl1 : done.length + 1 ≤ 65536 := by simp at hl; omega
  unfold lineOf
  split
  · exact ln_call T done m h hl1
  · rename_i h0
    split
    · rename_i h1
      have e : m = stp m.th := by
        unfold stepsOf at h1
        split at h1
        · assumption
        · cases h1
      have := ln_step T done m.th h.1 hl1
      simp only [List.take_succ_cons, List.take_zero]
      rw [← e] at this
      rw [show m.th = m.th from rfl]
      exact this
    · rw [take_steps]
      exact ln_steps T done m.th _ h.1 (by omega) (by omega)
end Go.Proofs.YtfhkgeoionkonaaGreatDoor.Sc
