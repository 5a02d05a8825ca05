/-
  SCRIPT: the document's Word and Op.
-/
import Derived.Test.YtfffmljgmfiaaaaScOf
namespace Go.Proofs.Ytfffmljgmfiaaaa.Sc
open Go.RowKit
set_option linter.unusedVariables false
set_option linter.unusedSimpArgs false
/-- An op's word; empty where it has none. -/
def wdOf (op : Int) : ByteArray := match tbl.find? (fun x => x.1 == op) with | some x => x.2.1 | none => ⟨#[]⟩
theorem wdOf_some (k : Nat) (hk : k < 21) : wdOf (opA k) = wdA k := by
  have : k = 0 ∨ k = 1 ∨ k = 2 ∨ k = 3 ∨ k = 4 ∨ k = 5 ∨ k = 6 ∨ k = 7 ∨ k = 8 ∨ k = 9 ∨ k = 10 ∨ k = 11 ∨ k = 12 ∨ k = 13 ∨ k = 14 ∨ k = 15 ∨ k = 16 ∨ k = 17 ∨ k = 18 ∨ k = 19 ∨ k = 20 := by omega
  rcases this with rfl | rfl | rfl | rfl | rfl | rfl | rfl | rfl | rfl | rfl | rfl | rfl | rfl | rfl | rfl | rfl | rfl | rfl | rfl | rfl | rfl <;> rfl
theorem wdOf_none (op : Int) (h : ∀ j, j < 21 → (opA j == op) = false) : wdOf op = ⟨#[]⟩ := by
  have h0 : tbl.find? (fun x => x.1 == op) = none := by
    rw [List.find?_eq_none]
    intro x hx
    obtain ⟨j, hj, rfl⟩ := List.getElem_of_mem hx
    have := h j (by simpa [tbl] using hj)
    unfold opA at this
    simp only [List.getD_eq_getElem?_getD, List.getElem?_eq_getElem hj, Option.getD_some] at this
    simp [this]
  unfold wdOf
  rw [h0]
set_option maxHeartbeats 8000000 in
set_option maxRecDepth 100000 in
theorem refWord_some (k : Nat) (w : World) (hk : k < 21) : Calls Try.prog 7 #[.int .i64 (opA k)] w fun e w' => e = .returned (.string (wdA k)) ∧ w' = w := by
  have : k = 0 ∨ k = 1 ∨ k = 2 ∨ k = 3 ∨ k = 4 ∨ k = 5 ∨ k = 6 ∨ k = 7 ∨ k = 8 ∨ k = 9 ∨ k = 10 ∨ k = 11 ∨ k = 12 ∨ k = 13 ∨ k = 14 ∨ k = 15 ∨ k = 16 ∨ k = 17 ∨ k = 18 ∨ k = 19 ∨ k = 20 := by omega
  rcases this with rfl | rfl | rfl | rfl | rfl | rfl | rfl | rfl | rfl | rfl | rfl | rfl | rfl | rfl | rfl | rfl | rfl | rfl | rfl | rfl | rfl
  all_goals (clear hk; unfold opA wdA; simp only [tbl, List.getD_cons_zero, List.getD_cons_succ]; go_enter Try.func7, Try.ntmps7; go_wp2; go_ret; exact ⟨rfl, rfl⟩)
set_option maxHeartbeats 8000000 in
set_option maxRecDepth 100000 in
theorem refWord_none (op : Int) (w : World) (h : ∀ j, j < 21 → (opA j == op) = false) : Calls Try.prog 7 #[.int .i64 op] w fun e w' => e = .returned (.string ⟨#[]⟩) ∧ w' = w := by
  have e1 : (op == 1) = false := by have := h 0 (by decide); simp [opA, tbl] at this; exact beq_eq_false_iff_ne.2 (fun e => this e.symm)
  have e2 : (op == 2) = false := by have := h 1 (by decide); simp [opA, tbl] at this; exact beq_eq_false_iff_ne.2 (fun e => this e.symm)
  have e3 : (op == 10) = false := by have := h 2 (by decide); simp [opA, tbl] at this; exact beq_eq_false_iff_ne.2 (fun e => this e.symm)
  have e4 : (op == 11) = false := by have := h 3 (by decide); simp [opA, tbl] at this; exact beq_eq_false_iff_ne.2 (fun e => this e.symm)
  have e5 : (op == 12) = false := by have := h 4 (by decide); simp [opA, tbl] at this; exact beq_eq_false_iff_ne.2 (fun e => this e.symm)
  have e6 : (op == 20) = false := by have := h 5 (by decide); simp [opA, tbl] at this; exact beq_eq_false_iff_ne.2 (fun e => this e.symm)
  have e7 : (op == 21) = false := by have := h 6 (by decide); simp [opA, tbl] at this; exact beq_eq_false_iff_ne.2 (fun e => this e.symm)
  have e8 : (op == 22) = false := by have := h 7 (by decide); simp [opA, tbl] at this; exact beq_eq_false_iff_ne.2 (fun e => this e.symm)
  have e9 : (op == 23) = false := by have := h 8 (by decide); simp [opA, tbl] at this; exact beq_eq_false_iff_ne.2 (fun e => this e.symm)
  have e10 : (op == 24) = false := by have := h 9 (by decide); simp [opA, tbl] at this; exact beq_eq_false_iff_ne.2 (fun e => this e.symm)
  have e11 : (op == 25) = false := by have := h 10 (by decide); simp [opA, tbl] at this; exact beq_eq_false_iff_ne.2 (fun e => this e.symm)
  have e12 : (op == 30) = false := by have := h 11 (by decide); simp [opA, tbl] at this; exact beq_eq_false_iff_ne.2 (fun e => this e.symm)
  have e13 : (op == 31) = false := by have := h 12 (by decide); simp [opA, tbl] at this; exact beq_eq_false_iff_ne.2 (fun e => this e.symm)
  have e14 : (op == 40) = false := by have := h 13 (by decide); simp [opA, tbl] at this; exact beq_eq_false_iff_ne.2 (fun e => this e.symm)
  have e15 : (op == 41) = false := by have := h 14 (by decide); simp [opA, tbl] at this; exact beq_eq_false_iff_ne.2 (fun e => this e.symm)
  have e16 : (op == 50) = false := by have := h 15 (by decide); simp [opA, tbl] at this; exact beq_eq_false_iff_ne.2 (fun e => this e.symm)
  have e17 : (op == 51) = false := by have := h 16 (by decide); simp [opA, tbl] at this; exact beq_eq_false_iff_ne.2 (fun e => this e.symm)
  have e18 : (op == 52) = false := by have := h 17 (by decide); simp [opA, tbl] at this; exact beq_eq_false_iff_ne.2 (fun e => this e.symm)
  have e19 : (op == 60) = false := by have := h 18 (by decide); simp [opA, tbl] at this; exact beq_eq_false_iff_ne.2 (fun e => this e.symm)
  have e20 : (op == 61) = false := by have := h 19 (by decide); simp [opA, tbl] at this; exact beq_eq_false_iff_ne.2 (fun e => this e.symm)
  have e21 : (op == 62) = false := by have := h 20 (by decide); simp [opA, tbl] at this; exact beq_eq_false_iff_ne.2 (fun e => this e.symm)
  clear h
  go_enter Try.func7, Try.ntmps7
  go_wp2
  go_ret
  exact ⟨rfl, rfl⟩
/-- Has it a row? -/
theorem op_cases (op : Int) : (∃ k, k < 21 ∧ opA k = op) ∨ ∀ j, j < 21 → (opA j == op) = false := by
  by_cases h : ∃ k, k < 21 ∧ opA k = op
  · exact .inl h
  · exact .inr fun j hj => beq_eq_false_iff_ne.2 fun e => h ⟨j, hj, e⟩
theorem wd_cases (s : ByteArray) : (∃ k, k < 21 ∧ wdA k = s) ∨ ∀ j, j < 21 → ((wdA j).toList == s.toList) = false := by
  by_cases h : ∃ k, k < 21 ∧ wdA k = s
  · exact .inl h
  · exact .inr fun j hj => beq_eq_false_iff_ne.2 fun e => h ⟨j, hj, by
      have e2 : (wdA j).data = s.data := by
        have : (wdA j).data.toList = s.data.toList := by rw [← ByteArray.toList_eq, ← ByteArray.toList_eq]; exact e
        exact Array.toList_inj.1 this
      cases hq : wdA j; cases s; simp_all⟩
theorem refWord_any (op : Int) (w : World) : Calls Try.prog 7 #[.int .i64 op] w fun e w' => e = .returned (.string (wdOf op)) ∧ w' = w := by
  rcases op_cases op with ⟨k, hk, rfl⟩ | h
  · rw [wdOf_some k hk]; exact refWord_some k w hk
  · rw [wdOf_none op h]; exact refWord_none op w h
theorem Word_any (op : Int) (w : World) : Calls Try.prog 6 #[.int .i64 op] w fun e w' => e = .returned (.string (wdOf op)) ∧ Below w.heap.size w w' := by
  rcases op_cases op with ⟨k, hk, rfl⟩ | h
  · rw [wdOf_some k hk]; exact Word_some k w hk
  · rw [wdOf_none op h]; exact Word_none op w h
/-- What the document's Op passes by. -/
theorem ref_pass (k : Nat) (hk : k < 21) (i : Nat) (hi : (i : Int) < opA k) : wdOf i = ⟨#[]⟩ ∨ ((wdOf i).toList == []) = false ∧ ((wdOf i).toList == (wdA k).toList) = false := by
  have := all_below (P := fun k => (List.range (opA k).toNat).all fun i => ((wdOf i).data == #[]) || (!((wdOf i).toList == []) && !((wdOf i).toList == (wdA k).toList))) (n := 21) (by decide +kernel) hk
  have := all_below (P := fun i => ((wdOf i).data == #[]) || (!((wdOf i).toList == []) && !((wdOf i).toList == (wdA k).toList))) this (k := i) (by omega)
  rcases Bool.or_eq_true _ _ ▸ this with h | h
  · left
    have h2 : (wdOf i).data = #[] := eq_of_beq h
    cases hq : wdOf i; rw [hq] at h2; simp_all
  · right
    simpa using h
theorem ref_nil (k : Nat) (hk : k < 21) : ((wdA k).toList == []) = false ∧ 1 ≤ opA k ∧ opA k ≤ 62 := by
  have := all_below (P := fun k => !((wdA k).toList == []) && decide (1 ≤ opA k) && decide (opA k ≤ 62)) (n := 21) (by decide +kernel) hk
  simp at this
  exact ⟨by simp [this.1.1], this.1.2, this.2⟩
theorem toList_nil : ByteArray.toList ⟨#[]⟩ = [] := by rw [ByteArray.toList_eq]
set_option maxHeartbeats 8000000 in
theorem refOp_some (k : Nat) (w : World) (hk : k < 21) : Calls Try.prog 5 #[.string (wdA k)] w fun e w' => e = .returned (.int .i64 (opA k)) ∧ w' = w := by
  have hp : Hid (∀ i : Nat, (i : Int) < opA k → wdOf i = ⟨#[]⟩ ∨ ((wdOf i).toList == []) = false ∧ ((wdOf i).toList == (wdA k).toList) = false) := fun i hi => ref_pass k hk i hi
  have hq : Hid (((wdA k).toList == []) = false ∧ 1 ≤ opA k ∧ opA k ≤ 62) := ref_nil k hk
  have hr : Hid (wdOf (opA k) = wdA k) := wdOf_some k hk
  have tn := toList_nil
  clear hk
  generalize wdA k = xw at *
  obtain ⟨n, hn⟩ : ∃ n : Nat, opA k = n := ⟨(opA k).toNat, by have := hq.out; omega⟩
  rw [hn] at hp hq hr ⊢
  clear hn
  go_enter Try.func5, Try.ntmps5
  go_upto_region 2 with fail
  go_loopg [3] n (fun gk s3 wr => ∃ i : Nat, s3 = .int .i64 (i : Int) ∧ i + gk = n + 1 ∧ 1 ≤ i ∧ i ≤ n ∧ w = wr)
  case atStart => exact ⟨1, rfl, by omega, by omega, by have := hq.out; omega, rfl⟩
  case round =>
    obtain ⟨i, rfl, hi, h1, h2, rfl⟩ := hrel
    have dl : decide ((i : Int) ≤ 62) = true := by have := hq.out; simp; omega
    have hlI : (i : Int) ≤ 62 := by have := hq.out; omega
    have hw1 : IntKind.i64.wrap ((i : Int) + 1) = (i : Int) + 1 := i64x _ (by omega) (by omega)
    have C := Mr.hid (refWord_any i w)
    by_cases he : i = n
    · have e1 : wdOf (i : Int) = xw := by rw [he]; exact hr.out
      have e2 : (xw.toList == []) = false := hq.out.1
      have e3 : ¬ xw.toList = [] := by simpa using e2
      rw [e1] at C
      simp only [he] at hw1 hlI dl C ⊢
      clear he hi h1 h2 e1
      go_wp2_with (go_at_call 7; refine C.out.mono ?_; clear C; rintro e w1 ⟨rfl, hw⟩; obtain rfl := hw.symm)
      go_ret
      exact ⟨rfl, rfl⟩
    · have hi' : Hid (i + gk = n + 1 ∧ 1 ≤ i ∧ i + 1 ≤ n) := ⟨hi, h1, by omega⟩
      rcases hp.out i (by omega) with e1 | ⟨e1, e2⟩
      · rw [e1] at C
        clear e1 he hi h1 h2
        go_wp2_with (go_at_call 7; refine C.out.mono ?_; clear C; rintro e w1 ⟨rfl, hw⟩; obtain rfl := hw.symm)
        go_roundg (gk - 1)
        case measure => obtain ⟨_, _, _⟩ := hi'.out; omega
        case rel => exact ⟨i + 1, by simp, by obtain ⟨_, _, _⟩ := hi'.out; omega, by omega, by obtain ⟨_, _, _⟩ := hi'.out; omega, rfl⟩
      · have e3 : ¬ (wdOf i).toList = [] := by simpa using e1
        generalize wdOf i = yw at *
        clear he hi h1 h2
        go_wp2_with (go_at_call 7; refine C.out.mono ?_; clear C; rintro e w1 ⟨rfl, hw⟩; obtain rfl := hw.symm)
        go_roundg (gk - 1)
        case measure => obtain ⟨_, _, _⟩ := hi'.out; omega
        case rel => exact ⟨i + 1, by simp, by obtain ⟨_, _, _⟩ := hi'.out; omega, by omega, by obtain ⟨_, _, _⟩ := hi'.out; omega, rfl⟩
set_option maxHeartbeats 8000000 in
theorem refOp_none (s : ByteArray) (w : World) (h : ∀ j, j < 21 → ((wdA j).toList == s.toList) = false) : Calls Try.prog 5 #[.string s] w fun e w' => e = .returned (.int .i64 (-1)) ∧ w' = w := by
  have tn := toList_nil
  have hp : Hid (∀ i : Nat, wdOf i = ⟨#[]⟩ ∨ ((wdOf i).toList == []) = false ∧ ((wdOf i).toList == s.toList) = false) := by
    intro i
    rcases op_cases (i : Int) with ⟨k, hk, e⟩ | hno
    · right
      rw [← e, wdOf_some k hk]
      exact ⟨(ref_nil k hk).1, h k hk⟩
    · exact .inl (wdOf_none _ hno)
  clear h
  go_enter Try.func5, Try.ntmps5
  go_upto_region 2 with fail
  go_loopg [3] 62 (fun gk s3 wr => ∃ i : Nat, s3 = .int .i64 (i : Int) ∧ i + gk = 63 ∧ w = wr)
  case atStart => exact ⟨1, rfl, by omega, rfl⟩
  case round =>
    obtain ⟨i, rfl, hi, rfl⟩ := hrel
    by_cases hl : i ≤ 62
    · have dl : decide ((i : Int) ≤ 62) = true := by simp; omega
      have hlI : (i : Int) ≤ 62 := by omega
      have hw1 : IntKind.i64.wrap ((i : Int) + 1) = (i : Int) + 1 := i64x _ (by omega) (by omega)
      have C := Mr.hid (refWord_any i w)
      have hi' : Hid (i + gk = 63 ∧ i ≤ 62) := ⟨hi, hl⟩
      rcases hp.out i with e1 | ⟨e1, e2⟩
      · rw [e1] at C
        clear e1 hi hl
        go_wp2_with (go_at_call 7; refine C.out.mono ?_; clear C; rintro e w1 ⟨rfl, hw⟩; obtain rfl := hw.symm)
        go_roundg (gk - 1)
        case measure => obtain ⟨_, _⟩ := hi'.out; omega
        case rel => exact ⟨i + 1, by simp, by obtain ⟨_, _⟩ := hi'.out; omega, rfl⟩
      · have e3 : ¬ (wdOf i).toList = [] := by simpa using e1
        generalize wdOf i = yw at *
        clear hi hl
        go_wp2_with (go_at_call 7; refine C.out.mono ?_; clear C; rintro e w1 ⟨rfl, hw⟩; obtain rfl := hw.symm)
        go_roundg (gk - 1)
        case measure => obtain ⟨_, _⟩ := hi'.out; omega
        case rel => exact ⟨i + 1, by simp, by obtain ⟨_, _⟩ := hi'.out; omega, rfl⟩
    · have dl : decide ((i : Int) ≤ 62) = false := decide_eq_false (by omega)
      clear hi hl
      go_wp2
      go_ret
      exact ⟨rfl, rfl⟩
end Go.Proofs.Ytfffmljgmfiaaaa.Sc
