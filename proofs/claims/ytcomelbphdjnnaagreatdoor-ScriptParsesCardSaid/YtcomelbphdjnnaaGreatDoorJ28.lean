import Derived.Test.YtcomelbphdjnnaaGreatDoorJ20
import Derived.Test.YtcomelbphdjnnaaGreatDoorJ12
/-
  SCRIPT, pure: the machine's line, by its words.
-/
namespace Go.Proofs.YtcomelbphdjnnaaGreatDoor.Sc
open Go.RowKit
set_option linter.unusedVariables false
set_option linter.unusedSimpArgs false
def mcW : List UInt8 := [109, 97, 99, 104, 105, 110, 101]
/-- The seven names. -/
def nmA : List (List UInt8) := [[116, 104, 114, 101, 97, 100, 115], [114, 101, 99, 111, 114, 100, 115], [104, 97, 122, 97, 114, 100, 115], [114, 101, 116, 105, 114, 101], [99, 97, 99, 104, 101], [115, 108, 111, 116, 115], [98, 117, 99, 107, 101, 116, 115]]
/-- The words that must be numbers. -/
def tsL (ws : List (List UInt8)) : List (List UInt8) := [ws.getD 2 [], ws.getD 4 [], ws.getD 6 [], ws.getD 8 [], ws.getD 10 [], ws.getD 12 [], ws.getD 14 []]
theorem tsL_at (ws : List (List UInt8)) (i : Nat) (hi : i < 7) : (tsL ws)[i]? = some (ws.getD (2 + 2 * i) []) := by
  match i, hi with
  | 0, _ => rfl
  | 1, _ => rfl
  | 2, _ => rfl
  | 3, _ => rfl
  | 4, _ => rfl
  | 5, _ => rfl
  | 6, _ => rfl
theorem mac_form {ws : List (List UInt8)} (hg : ∀ x ∈ ws, Gw x) : formL ws = fMachine ↔ ws.map nrm = shM := by rw [form_iff hg fMachine ws_mach.2, ws_mach.1]
theorem nrm_nil : nrm [] = [] := by decide
theorem map_getD (ws : List (List UInt8)) (j : Nat) : (ws.map nrm).getD j [] = nrm (ws.getD j []) := by
  simp only [List.getD_eq_getElem?_getD, List.getElem?_map]
  cases ws[j]? with
  | none => exact nrm_nil.symm
  | some x => rfl
theorem macE_no {ws : List (List UInt8)} (h : ¬ formL ws = fMachine) : macE ws = 170 := by unfold macE; rw [if_neg h]
theorem mac_no_len {ws : List (List UInt8)} (hg : ∀ x ∈ ws, Gw x) (h : ws.length ≠ 15) : macE ws = 170 := macE_no fun e => by
  have := congrArg List.length ((mac_form hg).1 e)
  rw [List.length_map] at this
  exact h this
theorem mac_no_head {ws : List (List UInt8)} (hg : ∀ x ∈ ws, Gw x) (h : ws.getD 0 [] ≠ mcW) : macE ws = 170 := macE_no fun e => by
  have := congrArg (fun l => l.getD 0 []) ((mac_form hg).1 e)
  rw [map_getD] at this
  exact h ((nrm_word (by decide)).1 this)
theorem nm_sh (i : Nat) (hi : i < 7) : shM.getD (1 + 2 * i) [] = nmA.getD i [] ∧ numLike (nmA.getD i []) = false := by
  match i, hi with
  | 0, _ => decide
  | 1, _ => decide
  | 2, _ => decide
  | 3, _ => decide
  | 4, _ => decide
  | 5, _ => decide
  | 6, _ => decide
theorem mac_no_name {ws : List (List UInt8)} (hg : ∀ x ∈ ws, Gw x) (i : Nat) (hi : i < 7) (h : ws.getD (1 + 2 * i) [] ≠ nmA.getD i []) : macE ws = 170 := macE_no fun e => by
  have := congrArg (fun l => l.getD (1 + 2 * i) []) ((mac_form hg).1 e)
  rw [map_getD, (nm_sh i hi).1] at this
  exact h ((nrm_word (nm_sh i hi).2).1 this)
theorem nrmW {y : List UInt8} (h : numLike y = false) : nrm y = y := nrm_no h
theorem mac_yes {ws : List (List UInt8)} (hg : ∀ x ∈ ws, Gw x) (hl : ws.length = 15) (h0 : ws.getD 0 [] = mcW) (hn : ∀ i, i < 7 → ws.getD (1 + 2 * i) [] = nmA.getD i []) :
    (fltL (tsL ws) ≠ 0 → macE ws = fltL (tsL ws)) ∧ (fltL (tsL ws) = 0 → numsL ws = (tsL ws).map numV ∧ macE ws = if cfgC (cfN ((tsL ws).map numV)) = true then 0 else 1) := by
  have n0 := hn 0 (by decide)
  have n1 := hn 1 (by decide)
  have n2 := hn 2 (by decide)
  have n3 := hn 3 (by decide)
  have n4 := hn 4 (by decide)
  have n5 := hn 5 (by decide)
  have n6 := hn 6 (by decide)
  match ws, hl with
  | [y0, y1, y2, y3, y4, y5, y6, y7, y8, y9, y10, y11, y12, y13, y14], _ =>
    have e0 : y0 = mcW := h0
    have e1 : y1 = nmA.getD 0 [] := n0
    have e3 : y3 = nmA.getD 1 [] := n1
    have e5 : y5 = nmA.getD 2 [] := n2
    have e7 : y7 = nmA.getD 3 [] := n3
    have e9 : y9 = nmA.getD 4 [] := n4
    have e11 : y11 = nmA.getD 5 [] := n5
    have e13 : y13 = nmA.getD 6 [] := n6
    have l0 : numLike y0 = false := by rw [e0]; decide
    have l1 : numLike y1 = false := by rw [e1]; decide
    have l3 : numLike y3 = false := by rw [e3]; decide
    have l5 : numLike y5 = false := by rw [e5]; decide
    have l7 : numLike y7 = false := by rw [e7]; decide
    have l9 : numLike y9 = false := by rw [e9]; decide
    have l11 : numLike y11 = false := by rw [e11]; decide
    have l13 : numLike y13 = false := by rw [e13]; decide
    have ht : tsL [y0, y1, y2, y3, y4, y5, y6, y7, y8, y9, y10, y11, y12, y13, y14] = [y2, y4, y6, y8, y10, y12, y14] := rfl
    have hform : formL [y0, y1, y2, y3, y4, y5, y6, y7, y8, y9, y10, y11, y12, y13, y14] = fMachine ↔ [y2, y4, y6, y8, y10, y12, y14].all numLike = true := by
      rw [mac_form hg]
      simp only [List.map_cons, List.map_nil, e0, e1, e3, e5, e7, e9, e11, e13]
      have t0 : nrm mcW = mcW := by decide
      have t1 : nrm (nmA.getD 0 []) = nmA.getD 0 [] := by decide
      have t2 : nrm (nmA.getD 1 []) = nmA.getD 1 [] := by decide
      have t3 : nrm (nmA.getD 2 []) = nmA.getD 2 [] := by decide
      have t4 : nrm (nmA.getD 3 []) = nmA.getD 3 [] := by decide
      have t5 : nrm (nmA.getD 4 []) = nmA.getD 4 [] := by decide
      have t6 : nrm (nmA.getD 5 []) = nmA.getD 5 [] := by decide
      have t7 : nrm (nmA.getD 6 []) = nmA.getD 6 [] := by decide
      rw [t0, t1, t2, t3, t4, t5, t6, t7]
      simp only [mcW, nmA, shM, List.getD_cons_zero, List.getD_cons_succ, List.cons.injEq, true_and, and_true, nrm_zero, List.all_cons, List.all_nil, Bool.and_eq_true, Bool.and_true]
    rw [ht]
    cases ha : [y2, y4, y6, y8, y10, y12, y14].all numLike with
    | false =>
      have hf : fltL [y2, y4, y6, y8, y10, y12, y14] = 170 := by unfold fltL; rw [ha]; rfl
      rw [hf]
      refine ⟨fun _ => macE_no fun e => ?_, fun h => by omega⟩
      have := hform.1 e
      rw [ha] at this; cases this
    | true =>
      have hfm := hform.2 ha
      have hfl : [y0, y1, y2, y3, y4, y5, y6, y7, y8, y9, y10, y11, y12, y13, y14].filter numLike = [y2, y4, y6, y8, y10, y12, y14] := by
        have ha' := ha
        simp only [List.all_cons, List.all_nil, Bool.and_eq_true, Bool.and_true] at ha'
        obtain ⟨a2, a4, a6, a8, a10, a12, a14⟩ := ha'
        simp only [List.filter_cons, List.filter_nil, l0, l1, l3, l5, l7, l9, l11, l13, a2, a4, a6, a8, a10, a12, a14, if_true, Bool.false_eq_true, if_false]
      obtain ⟨hnums, hwh⟩ := nums_of_list _ _ hfl
      unfold macE
      rw [if_pos hfm, hwh, hnums]
      cases hb : [y2, y4, y6, y8, y10, y12, y14].all (fun x => (numOk x).isSome) with
      | false =>
        have hf : fltL [y2, y4, y6, y8, y10, y12, y14] = 171 := by unfold fltL; rw [ha, hb]; rfl
        rw [hf]
        exact ⟨fun _ => rfl, fun h => by omega⟩
      | true =>
        have hf : fltL [y2, y4, y6, y8, y10, y12, y14] = 0 := by unfold fltL; rw [ha, hb]; rfl
        rw [hf]
        exact ⟨fun h => absurd rfl h, fun _ => ⟨rfl, rfl⟩⟩
end Go.Proofs.YtcomelbphdjnnaaGreatDoor.Sc
namespace Go.Proofs.YtcomelbphdjnnaaGreatDoor.Wc
open Go.RowKit
set_option linter.unusedVariables false
set_option maxHeartbeats 1000000 in
theorem refConfig0 (a0 a1 a2 a3 a4 a5 a6 : Int) (w : World) (c0 : decide (1 ≤ a0) = false) :
    Calls Tryz.prog 15 #[.agg #[.int .i64 a0, .int .i64 a1, .int .i64 a2, .int .i64 a3, .int .i64 a4, .int .i64 a5, .int .i64 a6]] w fun e w' =>
      e = .returned (.bool false) ∧ Below w.heap.size w w' := by
  go_enter Tryz.func15, Tryz.ntmps15
  go_wp2
  go_ret
  exact ⟨rfl, (Below.refl _ _).alloc (Nat.le_refl _) _⟩
set_option maxHeartbeats 1000000 in
theorem refConfig1 (a0 a1 a2 a3 a4 a5 a6 : Int) (w : World) (c0 : decide (1 ≤ a0) = true) (c1 : decide (a0 ≤ 16) = false) :
    Calls Tryz.prog 15 #[.agg #[.int .i64 a0, .int .i64 a1, .int .i64 a2, .int .i64 a3, .int .i64 a4, .int .i64 a5, .int .i64 a6]] w fun e w' =>
      e = .returned (.bool false) ∧ Below w.heap.size w w' := by
  go_enter Tryz.func15, Tryz.ntmps15
  go_wp2
  go_ret
  exact ⟨rfl, (Below.refl _ _).alloc (Nat.le_refl _) _⟩
set_option maxHeartbeats 1000000 in
theorem refConfig2 (a0 a1 a2 a3 a4 a5 a6 : Int) (w : World) (c0 : decide (1 ≤ a0) = true) (c1 : decide (a0 ≤ 16) = true) (c2 : decide (1 ≤ a1) = false) :
    Calls Tryz.prog 15 #[.agg #[.int .i64 a0, .int .i64 a1, .int .i64 a2, .int .i64 a3, .int .i64 a4, .int .i64 a5, .int .i64 a6]] w fun e w' =>
      e = .returned (.bool false) ∧ Below w.heap.size w w' := by
  go_enter Tryz.func15, Tryz.ntmps15
  go_wp2
  go_ret
  exact ⟨rfl, (Below.refl _ _).alloc (Nat.le_refl _) _⟩
set_option maxHeartbeats 1000000 in
theorem refConfig3 (a0 a1 a2 a3 a4 a5 a6 : Int) (w : World) (c0 : decide (1 ≤ a0) = true) (c1 : decide (a0 ≤ 16) = true) (c2 : decide (1 ≤ a1) = true) (c3 : decide (a1 ≤ 16) = false) :
    Calls Tryz.prog 15 #[.agg #[.int .i64 a0, .int .i64 a1, .int .i64 a2, .int .i64 a3, .int .i64 a4, .int .i64 a5, .int .i64 a6]] w fun e w' =>
      e = .returned (.bool false) ∧ Below w.heap.size w w' := by
  go_enter Tryz.func15, Tryz.ntmps15
  go_wp2
  go_ret
  exact ⟨rfl, (Below.refl _ _).alloc (Nat.le_refl _) _⟩
set_option maxHeartbeats 1000000 in
theorem refConfig4 (a0 a1 a2 a3 a4 a5 a6 : Int) (w : World) (c0 : decide (1 ≤ a0) = true) (c1 : decide (a0 ≤ 16) = true) (c2 : decide (1 ≤ a1) = true) (c3 : decide (a1 ≤ 16) = true) (c4 : decide (3 ≤ a2) = false) :
    Calls Tryz.prog 15 #[.agg #[.int .i64 a0, .int .i64 a1, .int .i64 a2, .int .i64 a3, .int .i64 a4, .int .i64 a5, .int .i64 a6]] w fun e w' =>
      e = .returned (.bool false) ∧ Below w.heap.size w w' := by
  go_enter Tryz.func15, Tryz.ntmps15
  go_wp2
  go_ret
  exact ⟨rfl, (Below.refl _ _).alloc (Nat.le_refl _) _⟩
set_option maxHeartbeats 1000000 in
theorem refConfig5 (a0 a1 a2 a3 a4 a5 a6 : Int) (w : World) (c0 : decide (1 ≤ a0) = true) (c1 : decide (a0 ≤ 16) = true) (c2 : decide (1 ≤ a1) = true) (c3 : decide (a1 ≤ 16) = true) (c4 : decide (3 ≤ a2) = true) (c5 : decide (a2 ≤ 8) = false) :
    Calls Tryz.prog 15 #[.agg #[.int .i64 a0, .int .i64 a1, .int .i64 a2, .int .i64 a3, .int .i64 a4, .int .i64 a5, .int .i64 a6]] w fun e w' =>
      e = .returned (.bool false) ∧ Below w.heap.size w w' := by
  go_enter Tryz.func15, Tryz.ntmps15
  go_wp2
  go_ret
  exact ⟨rfl, (Below.refl _ _).alloc (Nat.le_refl _) _⟩
end Go.Proofs.YtcomelbphdjnnaaGreatDoor.Wc
