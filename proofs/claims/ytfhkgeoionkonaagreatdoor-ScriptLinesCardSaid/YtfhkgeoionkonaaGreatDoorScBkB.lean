/-
  SCRIPT, pure: a line that is printed is read as its moves.
-/
import Derived.Test.YtfhkgeoionkonaaGreatDoorScBkA
namespace Go.Proofs.YtfhkgeoionkonaaGreatDoor.Sc
open Go.RowKit
open Go.Lib (itoa)
set_option linter.unusedVariables false
set_option linter.unusedSimpArgs false
/-- What a line of these words does. -/
structure Ln (T : Nat) (done : List Mv) (L : List UInt8) (mv : List Mv) : Prop where
  ex : ∃ ws, L = Lib.join ws [32] ++ [10] ∧ (∀ x ∈ ws, Gw x) ∧ (∀ x ∈ ws, ∀ c ∈ x, c ≠ 10) ∧ ws ≠ [] ∧ entE T done ws = 0 ∧ entM T done ws = done ++ mv
theorem ent_of {T : Nat} {done : List Mv} {ws : List (List UInt8)} {mv : List Mv} {t : Nat} (hm : mean T ws (numsL ws) = (mv, (t : Int))) (hw : wholeL ws = true) (hn : mv ≠ []) (h1 : 1 ≤ t) (h2 : done.length + t * mv.length ≤ 65536) : entE T done ws = 0 ∧ entM T done ws = done ++ (List.replicate t mv).flatten := by
  have hl : 1 ≤ mv.length := List.length_pos_iff.2 hn
  have h3 : t ≤ t * mv.length := Nat.le_mul_of_pos_right _ hl
  have ht : ((t : Int)).toNat = t := by omega
  unfold entE entM
  rw [hm]
  dsimp only
  rw [if_neg hn, hw, if_neg (by simp), if_neg (by omega), ht, if_neg (by omega)]
  exact ⟨rfl, rfl⟩
theorem nums_two (l : List (List UInt8)) (a : List UInt8) : numsL (a :: l) = (if numLike a = true then [numV a] else []) ++ numsL l := by
  unfold numsL
  by_cases h : numLike a = true <;> simp [h]
theorem whole_two (l : List (List UInt8)) (a : List UInt8) : wholeL (a :: l) = ((!(numLike a) || (numOk a).isSome) && wholeL l) := by
  unfold wholeL
  by_cases h : numLike a = true <;> simp [h]
theorem nums_i {n : Int} (h : Bd n) (l : List (List UInt8)) : numsL (itoa n :: l) = n :: numsL l := by
  rw [nums_two, if_pos (numLike_itoa n h), numV_itoa n h]; rfl
theorem whole_i {n : Int} (h : Bd n) (l : List (List UInt8)) : wholeL (itoa n :: l) = wholeL l := by
  rw [whole_two, numOk_itoa n h]; simp
theorem nums_w {x : List UInt8} (h : numLike x = false) (l : List (List UInt8)) : numsL (x :: l) = numsL l := by
  rw [nums_two, if_neg (by simp [h])]; rfl
theorem whole_w {x : List UInt8} (h : numLike x = false) (l : List (List UInt8)) : wholeL (x :: l) = wholeL l := by
  rw [whole_two, h]; simp
theorem nums_nil : numsL [] = [] := rfl
theorem whole_nil : wholeL [] = true := rfl
theorem nrm_w {x : List UInt8} (h : numLike x = false) : nrm x = x := by unfold nrm; rw [if_neg (by simp [h])]
theorem gw_of (x : List UInt8) (h : (!(x.isEmpty) && x.all (fun c => !(bl c) && !(c == 10)) && !(x.head? == some 35)) = true) : Gw x ∧ ∀ c ∈ x, c ≠ 10 := by
  simp only [Bool.and_eq_true, Bool.not_eq_true', List.all_eq_true, beq_eq_false_iff_ne] at h
  obtain ⟨⟨h1, h2⟩, h3⟩ := h
  exact ⟨⟨(by intro e; rw [e] at h1; cases h1), fun c hc => (h2 c hc).1, h3⟩, fun c hc => (h2 c hc).2⟩
theorem dot_ok : Gw [46] ∧ (∀ c ∈ ([46] : List UInt8), c ≠ 10) ∧ numLike [46] = false := ⟨(gw_of [46] (by decide)).1, (gw_of [46] (by decide)).2, by decide⟩
theorem op_ok : Gw [111, 112] ∧ (∀ c ∈ ([111, 112] : List UInt8), c ≠ 10) ∧ numLike [111, 112] = false := ⟨(gw_of [111, 112] (by decide)).1, (gw_of [111, 112] (by decide)).2, by decide⟩
theorem i_ne (n : Int) (h : Bd n) : ∀ c ∈ itoa n, c ≠ 10 := itoa_byte_ne n h 10 (by decide)
theorem ln_step (T : Nat) (done : List Mv) (th : Int) (h : Bd th) (hl : done.length + 1 ≤ 65536) : Ln T done (fil fStep [th] ++ [10]) [stp th] := by
  obtain ⟨g1, g2, g3⟩ := dot_ok
  have hf : formL [itoa th, [46]] = fStep := by unfold formL; simp only [List.map_cons, List.map_nil, nrm_itoa th h, nrm_w g3]; decide
  have hn : numsL [itoa th, [46]] = [th] := by rw [nums_i h, nums_w g3, nums_nil]
  have hw : wholeL [itoa th, [46]] = true := by rw [whole_i h, whole_w g3, whole_nil]
  have hm : mean T [itoa th, [46]] (numsL [itoa th, [46]]) = ([stp th], ((1 : Nat) : Int)) := by unfold mean; rw [if_pos hf, hn]; rfl
  obtain ⟨e1, e2⟩ := ent_of (done := done) hm hw (by simp) (by omega) (by simpa using hl)
  refine ⟨[itoa th, [46]], ?_, ?_, ?_, by simp, e1, by rw [e2]; simp⟩
  · simp [fStep, fil, Lib.join, List.intercalate]
  · intro x hx
    simp at hx
    rcases hx with rfl | rfl
    · exact gw_itoa th h
    · exact g1
  · intro x hx
    simp at hx
    rcases hx with rfl | rfl
    · exact i_ne th h
    · exact g2
theorem ln_steps (T : Nat) (done : List Mv) (th : Int) (n : Nat) (h : Bd th) (h1 : 1 ≤ n) (hl : done.length + n ≤ 65536) : Ln T done (fil fSteps [th, (n : Int)] ++ [10]) (List.replicate n (stp th)) := by
  obtain ⟨g1, g2, g3⟩ := dot_ok
  have hb : Bd (n : Int) := by unfold Bd; omega
  have hf : formL [itoa th, [46], itoa (n : Int)] = fSteps := by unfold formL; simp only [List.map_cons, List.map_nil, nrm_itoa th h, nrm_itoa _ hb, nrm_w g3]; decide
  have hn : numsL [itoa th, [46], itoa (n : Int)] = [th, (n : Int)] := by rw [nums_i h, nums_w g3, nums_i hb, nums_nil]
  have hw : wholeL [itoa th, [46], itoa (n : Int)] = true := by rw [whole_i h, whole_w g3, whole_i hb, whole_nil]
  have hm : mean T [itoa th, [46], itoa (n : Int)] (numsL [itoa th, [46], itoa (n : Int)]) = ([stp th], ((n : Nat) : Int)) := by unfold mean; rw [hf, if_neg (by decide), if_pos rfl, hn]; rfl
  obtain ⟨e1, e2⟩ := ent_of (done := done) hm hw (by simp) h1 (by simpa using hl)
  refine ⟨[itoa th, [46], itoa (n : Int)], ?_, ?_, ?_, by simp, e1, ?_⟩
  · simp [fSteps, fil, Lib.join, List.intercalate]
  · intro x hx
    simp at hx
    rcases hx with rfl | rfl | rfl
    · exact gw_itoa th h
    · exact g1
    · exact gw_itoa _ hb
  · intro x hx
    simp at hx
    rcases hx with rfl | rfl | rfl
    · exact i_ne th h
    · exact g2
    · exact i_ne _ hb
  · rw [e2, List.flatten_replicate_singleton]
theorem ln_op (T : Nat) (done : List Mv) (m : Mv) (h : MvB m) (hl : done.length + 1 ≤ 65536) : Ln T done (fil fOp [m.th, m.op, m.arg, m.data] ++ [10]) [m] := by
  obtain ⟨h1, h2, h3, h4⟩ := h
  obtain ⟨g1, g2, g3⟩ := op_ok
  have hf : formL [itoa m.th, [111, 112], itoa m.op, itoa m.arg, itoa m.data] = fOp := by unfold formL; simp only [List.map_cons, List.map_nil, nrm_itoa _ h1, nrm_itoa _ h2, nrm_itoa _ h3, nrm_itoa _ h4, nrm_w g3]; decide
  have hn : numsL [itoa m.th, [111, 112], itoa m.op, itoa m.arg, itoa m.data] = [m.th, m.op, m.arg, m.data] := by rw [nums_i h1, nums_w g3, nums_i h2, nums_i h3, nums_i h4, nums_nil]
  have hw : wholeL [itoa m.th, [111, 112], itoa m.op, itoa m.arg, itoa m.data] = true := by rw [whole_i h1, whole_w g3, whole_i h2, whole_i h3, whole_i h4, whole_nil]
  have hm : mean T [itoa m.th, [111, 112], itoa m.op, itoa m.arg, itoa m.data] (numsL [itoa m.th, [111, 112], itoa m.op, itoa m.arg, itoa m.data]) = ([m], ((1 : Nat) : Int)) := by unfold mean; rw [hf, if_neg (by decide), if_neg (by decide), if_neg (by decide), if_pos rfl, hn]; rfl
  obtain ⟨e1, e2⟩ := ent_of (done := done) hm hw (by simp) (by omega) (by simpa using hl)
  refine ⟨[itoa m.th, [111, 112], itoa m.op, itoa m.arg, itoa m.data], ?_, ?_, ?_, by simp, e1, by rw [e2]; simp⟩
  · simp [fOp, fil, Lib.join, List.intercalate]
  · intro x hx
    simp at hx
    rcases hx with rfl | rfl | rfl | rfl | rfl
    · exact gw_itoa _ h1
    · exact g1
    · exact gw_itoa _ h2
    · exact gw_itoa _ h3
    · exact gw_itoa _ h4
  · intro x hx
    simp at hx
    rcases hx with rfl | rfl | rfl | rfl | rfl
    · exact i_ne _ h1
    · exact g2
    · exact i_ne _ h2
    · exact i_ne _ h3
    · exact i_ne _ h4
end Go.Proofs.YtfhkgeoionkonaaGreatDoor.Sc
