import Derived.Test.YtcomelbphdjnnaaGreatDoorJ17
/-
  SCRIPT, pure: what the document says of a line, by its words.
-/
namespace Go.Proofs.YtcomelbphdjnnaaGreatDoor.Sc
open Go.RowKit
set_option linter.unusedVariables false
set_option linter.unusedSimpArgs false
theorem form_iff {ws : List (List UInt8)} (hg : ∀ x ∈ ws, Gw x) (f : List UInt8) (hf : Lib.join (words f) [32] = f) : formL ws = f ↔ ws.map nrm = words f := by
  constructor
  · intro h; rw [← words_form hg, h]
  · intro h; unfold formL; rw [h, hf]
theorem nrm_zero (x : List UInt8) : nrm x = [48] ↔ numLike x = true := by rw [numLike_nrm, beq_iff_eq]
theorem nrm_word {x y : List UInt8} (hy : numLike y = false) : nrm x = y ↔ x = y := by
  unfold nrm
  by_cases h : numLike x = true
  · rw [if_pos h]
    constructor
    · intro e; rw [← e] at hy; exact absurd hy (by decide)
    · intro e; rw [e, hy] at h; cases h
  · rw [if_neg h]
theorem ws_step : words fStep = [[48], [46]] ∧ Lib.join (words fStep) [32] = fStep := by decide +kernel
theorem ws_steps : words fSteps = [[48], [46], [48]] ∧ Lib.join (words fSteps) [32] = fSteps := by decide +kernel
theorem ws_rounds : words fRounds = [[42], [48]] ∧ Lib.join (words fRounds) [32] = fRounds := by decide +kernel
theorem ws_op : words fOp = [[48], [111, 112], [48], [48], [48]] ∧ Lib.join (words fOp) [32] = fOp := by decide +kernel
def shC (k : Nat) : List (List UInt8) := [48] :: (wdA k).data.toList :: List.replicate (tkA k).toNat [48]
theorem ws_call (k : Nat) (hk : k < 21) : words (fCall k) = shC k ∧ Lib.join (words (fCall k)) [32] = fCall k := by
  have := all_below (P := fun k => decide (words (fCall k) = shC k ∧ Lib.join (words (fCall k)) [32] = fCall k)) (n := 21) (by decide +kernel) hk
  simpa using this
/-- The seven names and the places of the seven numbers. -/
def shM : List (List UInt8) := [[109, 97, 99, 104, 105, 110, 101], [116, 104, 114, 101, 97, 100, 115], [48], [114, 101, 99, 111, 114, 100, 115], [48], [104, 97, 122, 97, 114, 100, 115], [48], [114, 101, 116, 105, 114, 101], [48], [99, 97, 99, 104, 101], [48], [115, 108, 111, 116, 115], [48], [98, 117, 99, 107, 101, 116, 115], [48]]
theorem ws_mach : words fMachine = shM ∧ Lib.join (words fMachine) [32] = fMachine := by decide +kernel
/-- Which moves a line means, by the shape of its words. -/
theorem mean_shape (T : Nat) (ws : List (List UInt8)) (ns : List Int) (hg : ∀ x ∈ ws, Gw x) : mean T ws ns =
    if ws.map nrm = [[48], [46]] then ([stp (ns.getD 0 0)], 1)
    else if ws.map nrm = [[48], [46], [48]] then ([stp (ns.getD 0 0)], ns.getD 1 0)
    else if ws.map nrm = [[42], [48]] then (rnds T, ns.getD 0 0)
    else if ws.map nrm = [[48], [111, 112], [48], [48], [48]] then ([⟨ns.getD 0 0, ns.getD 1 0, ns.getD 2 0, ns.getD 3 0⟩], 1)
    else (callM ws (formL ws) ns, 1) := by
  unfold mean
  simp only [form_iff hg fStep ws_step.2, form_iff hg fSteps ws_steps.2, form_iff hg fRounds ws_rounds.2, form_iff hg fOp ws_op.2, ws_step.1, ws_steps.1, ws_rounds.1, ws_op.1]
theorem callM_shape (ws : List (List UInt8)) (ns : List Int) (hg : ∀ x ∈ ws, Gw x) (k : Nat) (hk : rowN (ws.getD 1 []) = some k) (h2 : 2 ≤ ws.length) : callM ws (formL ws) ns = if ws.map nrm = shC k then [⟨ns.getD 0 0, opA k, ns.getD 1 0, ns.getD 2 0⟩] else [] := by
  have hk21 : k < 21 := (rowN_some hk).1
  rw [callM_two (by omega), hk]
  simp only [form_iff hg (fCall k) (ws_call k hk21).2, (ws_call k hk21).1]
theorem callM_none (ws : List (List UInt8)) (f : List UInt8) (ns : List Int) (h : rowN (ws.getD 1 []) = none ∨ ws.length < 2) : callM ws f ns = [] := by
  unfold callM
  split
  · rfl
  · rcases h with h | h
    · rw [h]
    · omega
/-- No shape at all. -/
theorem mean_none (T : Nat) (ws : List (List UInt8)) (ns : List Int) (hg : ∀ x ∈ ws, Gw x) (h1 : ws.map nrm ≠ [[48], [46]]) (h2 : ws.map nrm ≠ [[48], [46], [48]]) (h3 : ws.map nrm ≠ [[42], [48]]) (h4 : ws.map nrm ≠ [[48], [111, 112], [48], [48], [48]]) (h5 : ∀ k, rowN (ws.getD 1 []) = some k → 2 ≤ ws.length → ws.map nrm ≠ shC k) : (mean T ws ns).1 = [] := by
  rw [mean_shape T ws ns hg, if_neg h1, if_neg h2, if_neg h3, if_neg h4]
  show callM ws (formL ws) ns = []
  by_cases hl : ws.length < 2
  · exact callM_none _ _ _ (.inr hl)
  · cases hr : rowN (ws.getD 1 []) with
    | none => exact callM_none _ _ _ (.inl hr)
    | some k => rw [callM_shape ws ns hg k hr (by omega), if_neg (h5 k hr (by omega))]
theorem entE_none {T : Nat} {ms : List Mv} {ws : List (List UInt8)} (h : (mean T ws (numsL ws)).1 = []) : entE T ms ws = 170 := by unfold entE; rw [if_pos h]
theorem entE_digit {T : Nat} {ms : List Mv} {ws : List (List UInt8)} (h : (mean T ws (numsL ws)).1 ≠ []) (hw : wholeL ws = false) : entE T ms ws = 171 := by unfold entE; rw [if_neg h, if_pos hw]
theorem entE_range {T : Nat} {ms : List Mv} {ws : List (List UInt8)} (h : (mean T ws (numsL ws)).1 ≠ []) (hw : wholeL ws = true) (hr : (mean T ws (numsL ws)).2 < 1 ∨ 65536 < (mean T ws (numsL ws)).2) : entE T ms ws = 2 := by unfold entE; rw [if_neg h, hw, if_neg (by decide), if_pos hr]
/-- What the words that must be numbers come to. -/
def fltL (ts : List (List UInt8)) : Int := if ts.all numLike = true then (if ts.all (fun x => (numOk x).isSome) = true then 0 else 171) else 170
/-- What move answers. -/
structure Dm (ws : List (List UInt8)) (mv : Mv) (n : Int) (rd : Bool) (e : Int) : Prop where
  ok : e = 0 → 1 ≤ n ∧ n ≤ 65536 ∧ wholeL ws = true ∧ ∀ T, mean T ws (numsL ws) = (if rd = true then rnds T else [mv], n)
  bad : e ≠ 0 → ∀ T ms, 1 ≤ T → entE T ms ws = e
theorem Dm.none {ws : List (List UInt8)} (mv : Mv) (n : Int) (rd : Bool) (h : ∀ T, (mean T ws (numsL ws)).1 = []) : Dm ws mv n rd 170 := ⟨fun h => by omega, fun _ T ms _ => entE_none (h T)⟩
theorem Dm.digit {ws : List (List UInt8)} (mv : Mv) (n : Int) (rd : Bool) (h : ∀ T, 1 ≤ T → (mean T ws (numsL ws)).1 ≠ []) (hw : wholeL ws = false) : Dm ws mv n rd 171 := ⟨fun h => by omega, fun _ T ms hT => entE_digit (h T hT) hw⟩
theorem Dm.range {ws : List (List UInt8)} (mv : Mv) (n k : Int) (rd : Bool) (h : ∀ T, 1 ≤ T → (mean T ws (numsL ws)).1 ≠ []) (hw : wholeL ws = true) (hk : ∀ T, (mean T ws (numsL ws)).2 = k) (hr : k < 1 ∨ 65536 < k) : Dm ws mv n rd 2 := ⟨fun h => by omega, fun _ T ms hT => entE_range (h T hT) hw (by rw [hk T]; exact hr)⟩
theorem rnds_ne {T : Nat} (h : 1 ≤ T) : rnds T ≠ [] := fun e => by have := rnds_len T; rw [e] at this; simp at this; omega
/-- The words of a line that has only some numbers: all the others are none. -/
theorem nums_of_list (ws ts : List (List UInt8)) (h : ws.filter numLike = ts) : numsL ws = ts.map numV ∧ wholeL ws = ts.all (fun x => (numOk x).isSome) := by unfold numsL wholeL; rw [h]; exact ⟨rfl, rfl⟩
section
variable {x0 x1 x2 x3 x4 : List UInt8}
theorem like_dot : numLike [46] = false := by decide
theorem like_op : numLike [111, 112] = false := by decide
theorem like_star : numLike [42] = false := by decide
theorem like_wd (k : Nat) (hk : k < 21) : numLike (wdA k).data.toList = false ∧ (wdA k).data.toList ≠ [46] ∧ (wdA k).data.toList ≠ [111, 112] ∧ rowN (wdA k).data.toList = some k ∧ 0 ≤ tkA k ∧ tkA k ≤ 2 := by
  have := all_below (P := fun k => decide (numLike (wdA k).data.toList = false ∧ (wdA k).data.toList ≠ [46] ∧ (wdA k).data.toList ≠ [111, 112] ∧ rowN (wdA k).data.toList = some k ∧ 0 ≤ tkA k ∧ tkA k ≤ 2)) (n := 21) (by decide +kernel) hk
  simpa using this
theorem nrm_of {x : List UInt8} (h : numLike x = true) : nrm x = [48] := (nrm_zero x).2 h
theorem nrm_no {x : List UInt8} (h : numLike x = false) : nrm x = x := by unfold nrm; rw [h]; simp
theorem nrm_ne {x : List UInt8} (h : numLike x = false) : nrm x ≠ [48] := fun e => by rw [(nrm_zero x).1 e] at h; cases h
theorem row_dot : rowN [46] = none := by decide +kernel
theorem row_op : rowN [111, 112] = none := by decide +kernel
/-- '*' alone, or with too many words behind it. -/
theorem dm_star_no (r : List (List UInt8)) (hg : ∀ x ∈ ([42] : List UInt8) :: r, Gw x) (hr : r.length ≠ 1) (mv : Mv) (n : Int) (rd : Bool) : Dm ([42] :: r) mv n rd 170 := by
  refine Dm.none mv n rd fun T => mean_none T _ _ hg ?_ ?_ ?_ ?_ ?_
  all_goals (rw [List.map_cons, nrm_no like_star])
  · intro e; injection e with e _; exact absurd e (by decide)
  · intro e; injection e with e _; exact absurd e (by decide)
  · intro e; injection e with _ e; have := congrArg List.length e; simp at this; exact hr this
  · intro e; injection e with e _; exact absurd e (by decide)
  · intro k hk _ e; injection e with e _; exact absurd e (by decide)
/-- '* N'. -/
theorem dm_star (hg : ∀ x ∈ [[42], x1], Gw x) (mv : Mv) (n : Int) (rd : Bool) : (fltL [x1] ≠ 0 → Dm [[42], x1] mv n rd (fltL [x1])) ∧ (fltL [x1] = 0 → (numV x1 < 1 ∨ 65536 < numV x1 → Dm [[42], x1] mv n rd 2) ∧ (1 ≤ numV x1 ∧ numV x1 ≤ 65536 → Dm [[42], x1] mv (numV x1) true 0)) := by
  have m0 : [[42], x1].map nrm = [[42], nrm x1] := by simp [nrm_no like_star]
  cases h1 : numLike x1 with
  | false =>
    have hf : fltL [x1] = 170 := by simp [fltL, h1]
    rw [hf]
    refine ⟨fun _ => Dm.none mv n rd fun T => mean_none T _ _ hg ?_ ?_ ?_ ?_ ?_, fun h => by omega⟩
    all_goals (rw [m0])
    · simp
    · simp
    · intro e; simp at e; exact nrm_ne h1 e
    · simp
    · intro k hk _ e; injection e with e _; exact absurd e (by decide)
  | true =>
    have m1 : [[42], x1].map nrm = [[42], [48]] := by rw [m0, nrm_of h1]
    obtain ⟨hn, hw⟩ := nums_of_list [[42], x1] [x1] (by simp [List.filter, like_star, h1])
    have hm : ∀ T, mean T [[42], x1] (numsL [[42], x1]) = (rnds T, numV x1) := fun T => by rw [mean_shape T _ _ hg, m1, hn]; simp
    have hne : ∀ T, 1 ≤ T → (mean T [[42], x1] (numsL [[42], x1])).1 ≠ [] := fun T hT => by rw [hm T]; exact rnds_ne hT
    cases h2 : (numOk x1).isSome with
    | false =>
      have hf : fltL [x1] = 171 := by simp only [fltL, List.all_cons, List.all_nil, h1, h2]; rfl
      rw [hf]
      exact ⟨fun _ => Dm.digit mv n rd hne (by rw [hw]; simp [h2]), fun h => by omega⟩
    | true =>
      have hf : fltL [x1] = 0 := by simp only [fltL, List.all_cons, List.all_nil, h1, h2]; rfl
      have hw' : wholeL [[42], x1] = true := by rw [hw]; simp [h2]
      rw [hf]
      refine ⟨fun h => absurd rfl h, fun _ => ⟨fun hr => Dm.range mv n (numV x1) rd hne hw' (fun T => by rw [hm T]) hr, fun hr => ⟨fun _ => ⟨hr.1, hr.2, hw', fun T => by rw [hm T]; simp⟩, fun h => absurd rfl h⟩⟩⟩
end
end Go.Proofs.YtcomelbphdjnnaaGreatDoor.Sc
/-
  SCRIPT, pure: a line whose second word tells what it is.
-/
namespace Go.Proofs.YtcomelbphdjnnaaGreatDoor.Sc
open Go.RowKit
set_option linter.unusedVariables false
set_option linter.unusedSimpArgs false
theorem shape_like : ∀ (r : List (List UInt8)) (m : Nat), r.map nrm = List.replicate m [48] → r.all numLike = true ∧ r.length = m
  | [], m, h => by
    have := congrArg List.length h; simp at this
    exact ⟨rfl, by simpa using this⟩
  | x :: r, 0, h => by simp at h
  | x :: r, m + 1, h => by
    rw [List.map_cons, List.replicate_succ] at h
    injection h with h1 h2
    obtain ⟨h3, h4⟩ := shape_like r m h2
    exact ⟨by rw [List.all_cons, (nrm_zero x).1 h1, h3]; rfl, by simp [h4]⟩
theorem like_shape : ∀ (r : List (List UInt8)), r.all numLike = true → r.map nrm = List.replicate r.length [48]
  | [], _ => rfl
  | x :: r, h => by
    rw [List.all_cons, Bool.and_eq_true] at h
    rw [List.map_cons, List.length_cons, List.replicate_succ, nrm_of h.1, like_shape r h.2]
theorem filter_like : ∀ (r : List (List UInt8)), r.all numLike = true → r.filter numLike = r
  | [], _ => rfl
  | x :: r, h => by
    rw [List.all_cons, Bool.and_eq_true] at h
    rw [List.filter_cons, h.1, filter_like r h.2]; rfl
theorem shape_two {x0 x1 : List UInt8} {r : List (List UInt8)} {y : List UInt8} {m : Nat} (h : (x0 :: x1 :: r).map nrm = [48] :: y :: List.replicate m [48]) : (x0 :: r).all numLike = true ∧ r.length = m ∧ nrm x1 = y := by
  rw [List.map_cons, List.map_cons] at h
  injection h with h1 h
  injection h with h2 h3
  obtain ⟨h4, h5⟩ := shape_like r m h3
  exact ⟨by rw [List.all_cons, (nrm_zero x0).1 h1, h4]; rfl, h5, h2⟩
/-- None of the shapes. -/
theorem mean_no (x0 x1 : List UInt8) (r : List (List UInt8)) (hg : ∀ x ∈ x0 :: x1 :: r, Gw x) (h0 : x0 ≠ [42]) (h : (x0 :: r).all numLike = true → numLike x1 = false → (x1 = [46] → ¬ r.length ≤ 1) ∧ (x1 = [111, 112] → r.length ≠ 3) ∧ ∀ k, rowN x1 = some k → r.length ≠ (tkA k).toNat) (T : Nat) (ns : List Int) : (mean T (x0 :: x1 :: r) ns).1 = [] := by
  have key : ∀ (y : List UInt8) (m : Nat), numLike y = false → (x0 :: x1 :: r).map nrm = [48] :: y :: List.replicate m [48] → (x0 :: r).all numLike = true ∧ r.length = m ∧ x1 = y := fun y m hy e => by
    obtain ⟨h1, h2, h3⟩ := shape_two e
    exact ⟨h1, h2, (nrm_word hy).1 h3⟩
  refine mean_none T _ _ hg ?_ ?_ ?_ ?_ ?_
  · intro e
    obtain ⟨h1, h2, h3⟩ := key [46] 0 like_dot e
    exact (h h1 (h3 ▸ like_dot)).1 h3 (by omega)
  · intro e
    obtain ⟨h1, h2, h3⟩ := key [46] 1 like_dot e
    exact (h h1 (h3 ▸ like_dot)).1 h3 (by omega)
  · intro e
    rw [List.map_cons] at e
    injection e with e _
    exact h0 ((nrm_word like_star).1 e)
  · intro e
    obtain ⟨h1, h2, h3⟩ := key [111, 112] 3 like_op e
    exact (h h1 (h3 ▸ like_op)).2.1 h3 (by omega)
  · intro k hk _ e
    have hk' : rowN x1 = some k := by simpa using hk
    have hk21 := (rowN_some hk').1
    obtain ⟨h1, h2, h3⟩ := key (wdA k).data.toList (tkA k).toNat (like_wd k hk21).1 e
    exact (h h1 (h3 ▸ (like_wd k hk21).1)).2.2 k hk' (by omega)
theorem two_shape {x0 x1 : List UInt8} {r : List (List UInt8)} (h : (x0 :: r).all numLike = true) (h1 : numLike x1 = false) : (x0 :: x1 :: r).map nrm = [48] :: x1 :: List.replicate r.length [48] ∧ (x0 :: x1 :: r).filter numLike = x0 :: r := by
  rw [List.all_cons, Bool.and_eq_true] at h
  constructor
  · rw [List.map_cons, List.map_cons, nrm_of h.1, nrm_no h1, like_shape r h.2]
  · rw [List.filter_cons, h.1, List.filter_cons, h1, filter_like r h.2]; rfl
/-- What a line with these words means, if those that must be numbers look so. -/
def Mn (x0 x1 : List UInt8) (r : List (List UInt8)) (mv : Mv) (n : Int) : Prop := ∀ T, mean T (x0 :: x1 :: r) (numsL (x0 :: x1 :: r)) = ([mv], n)
theorem dm_two (x0 x1 : List UInt8) (r : List (List UInt8)) (hg : ∀ x ∈ x0 :: x1 :: r, Gw x) (h0 : x0 ≠ [42]) (h1 : numLike x1 = false) (mv : Mv) (n : Int) (hm : (x0 :: r).all numLike = true → Mn x0 x1 r mv n) (mv' : Mv) (n' : Int) (rd : Bool) :
    (fltL (x0 :: r) ≠ 0 → Dm (x0 :: x1 :: r) mv' n' rd (fltL (x0 :: r))) ∧ (fltL (x0 :: r) = 0 → (n < 1 ∨ 65536 < n → Dm (x0 :: x1 :: r) mv' n' rd 2) ∧ (1 ≤ n ∧ n ≤ 65536 → Dm (x0 :: x1 :: r) mv n false 0)) := by
  cases ha : (x0 :: r).all numLike with
  | false =>
    have hf : fltL (x0 :: r) = 170 := by unfold fltL; rw [ha]; rfl
    rw [hf]
    exact ⟨fun _ => Dm.none _ _ _ fun T => mean_no x0 x1 r hg h0 (fun h => by rw [ha] at h; cases h) T _, fun h => by omega⟩
  | true =>
    have hM := hm ha
    obtain ⟨hn, hw⟩ := nums_of_list (x0 :: x1 :: r) (x0 :: r) (two_shape ha h1).2
    have hne : ∀ T, 1 ≤ T → (mean T (x0 :: x1 :: r) (numsL (x0 :: x1 :: r))).1 ≠ [] := fun T _ => by rw [hM T]; simp
    cases hb : (x0 :: r).all (fun x => (numOk x).isSome) with
    | false =>
      have hf : fltL (x0 :: r) = 171 := by unfold fltL; rw [ha, hb]; rfl
      rw [hf]
      exact ⟨fun _ => Dm.digit _ _ _ hne (by rw [hw, hb]), fun h => by omega⟩
    | true =>
      have hf : fltL (x0 :: r) = 0 := by unfold fltL; rw [ha, hb]; rfl
      rw [hf]
      refine ⟨fun h => absurd rfl h, fun _ => ⟨fun hr => Dm.range _ _ n _ hne (by rw [hw, hb]) (fun T => by rw [hM T]) hr, fun hr => ⟨fun _ => ⟨hr.1, hr.2, by rw [hw, hb], fun T => by rw [hM T]; simp⟩, fun h => absurd rfl h⟩⟩⟩
theorem mn_dot1 (x0 : List UInt8) (hg : ∀ x ∈ x0 :: [46] :: [], Gw x) (ha : (x0 :: []).all numLike = true) : Mn x0 [46] [] (stp (numV x0)) 1 := fun T => by
  obtain ⟨h1, h2⟩ := two_shape (x1 := [46]) ha like_dot
  rw [mean_shape T _ _ hg, h1, (nums_of_list _ _ h2).1]; simp
theorem mn_dot2 (x0 x2 : List UInt8) (hg : ∀ x ∈ x0 :: [46] :: [x2], Gw x) (ha : (x0 :: [x2]).all numLike = true) : Mn x0 [46] [x2] (stp (numV x0)) (numV x2) := fun T => by
  obtain ⟨h1, h2⟩ := two_shape (x1 := [46]) ha like_dot
  rw [mean_shape T _ _ hg, h1, (nums_of_list _ _ h2).1]; simp
theorem mn_op (x0 x2 x3 x4 : List UInt8) (hg : ∀ x ∈ x0 :: [111, 112] :: [x2, x3, x4], Gw x) (ha : (x0 :: [x2, x3, x4]).all numLike = true) : Mn x0 [111, 112] [x2, x3, x4] ⟨numV x0, numV x2, numV x3, numV x4⟩ 1 := fun T => by
  obtain ⟨h1, h2⟩ := two_shape (x1 := [111, 112]) ha like_op
  rw [mean_shape T _ _ hg, h1, (nums_of_list _ _ h2).1]; simp [List.replicate]
theorem mn_call (x0 : List UInt8) (k : Nat) (hk : k < 21) (r : List (List UInt8)) (hr : r.length = (tkA k).toNat) (hg : ∀ x ∈ x0 :: (wdA k).data.toList :: r, Gw x) (ha : (x0 :: r).all numLike = true) : Mn x0 (wdA k).data.toList r ⟨numV x0, opA k, numV (r.getD 0 []), numV (r.getD 1 [])⟩ 1 := fun T => by
  obtain ⟨l1, l2, l3, l4, l5, l6⟩ := like_wd k hk
  obtain ⟨h1, h2⟩ := two_shape (x1 := (wdA k).data.toList) ha l1
  rw [mean_shape T _ _ hg, h1, (nums_of_list _ _ h2).1]
  rw [if_neg (by intro e; injection e with _ e; injection e with e _; exact l2 e), if_neg (by intro e; injection e with _ e; injection e with e _; exact l2 e), if_neg (by intro e; injection e with e _; exact absurd e (by decide)), if_neg (by intro e; injection e with _ e; injection e with e _; exact l3 e)]
  rw [callM_shape _ _ hg k (by simpa using l4) (by simp), h1, if_pos (by unfold shC; rw [hr])]
  have hz : numV [] = 0 := by decide +kernel
  match r, hr with
  | [], _ => simp [hz]
  | [a], _ => simp [hz]
  | [a, b], _ => simp
  | a :: b :: c :: t, hr => simp at hr; omega
/-- Rounds, one behind the other. -/
theorem rnds_many (T : Nat) (hT : 1 ≤ T) (n : Nat) : (List.range (n * T)).map (fun i => stp ((i % T : Nat) : Int)) = (List.replicate n (rnds T)).flatten := by
  induction n with
  | zero => simp
  | succ n ih =>
    rw [Nat.succ_mul, List.range_add, List.map_append, ih, List.replicate_succ', List.flatten_append]
    congr 1
    simp only [List.flatten_cons, List.flatten_nil, List.append_nil, rnds, List.map_map]
    refine List.map_congr_left fun i hi => ?_
    have hi : i < T := List.mem_range.1 hi
    show stp (((n * T + i) % T : Nat) : Int) = stp (i : Int)
    rw [Nat.mul_comm, Nat.mul_add_mod, Nat.mod_eq_of_lt hi]
end Go.Proofs.YtcomelbphdjnnaaGreatDoor.Sc
