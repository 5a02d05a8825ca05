/-
  Package model: puts; what admit leaves, purely.
-/
import Derived.Test.YtegbcocbopgghabMpDo
import Derived.Test.YtegbcocbopgghabMdAllows
namespace Go.Proofs.Ytegbcocbopgghab.Md
open Go.RowKit Mr
set_option linter.unusedVariables false
set_option linter.unusedSimpArgs false
theorem labrp_old {lab : Nat → Nat} {s s' i k : Nat} (h : labr (labp lab s i) s' k < 5) (hk : k < s) : lab k < 5 := by
  rw [labr_in (labr_hi h), labp_old hk] at h
  exact h
/-- What is left behind a call that was asked for: as it was, if it may not answer so. -/
def adm (x : Ct) (c : Cq) : Ct := if (alw x c).2 = true then (alw x c).1 else x
theorem adm_none {x : Ct} {c : Cq} (h : c.ak = 0) : (alw x c).2 = true ∧ adm x c = dnx x c.op c.arg c.data := by
  have e : alw x c = (dnx x c.op c.arg c.data, true) := if_pos h
  unfold adm
  rw [e]
  exact ⟨rfl, rfl⟩
theorem adm_full {x : Ct} {c : Cq} (h0 : c.ak ≠ 0) (h : c.ak = 4) (b : Bool) (hb : b = decide (fullOp c.op)) : (alw x c).2 = b ∧ adm x c = x := by
  have e : alw x c = (if fullOp c.op then (x, true) else (ct0, false)) := by unfold alw; rw [if_neg h0, if_pos h]
  unfold adm
  rw [e]
  by_cases f : fullOp c.op
  · rw [if_pos f, hb, decide_eq_true f]; exact ⟨rfl, rfl⟩
  · rw [if_neg f, hb, decide_eq_false f]; exact ⟨rfl, rfl⟩
theorem adm_yes {x : Ct} {c : Cq} (h0 : c.ak ≠ 0) (h4 : c.ak ≠ 4) (h : dan x c.op c.arg = (c.ak, c.av)) : (alw x c).2 = true ∧ adm x c = dnx x c.op c.arg c.data := by
  have e : alw x c = (dnx x c.op c.arg c.data, true) := by unfold alw; rw [if_neg h0, if_neg h4, if_pos h]
  unfold adm
  rw [e]
  exact ⟨rfl, rfl⟩
theorem adm_no {x : Ct} {c : Cq} (h0 : c.ak ≠ 0) (h4 : c.ak ≠ 4) (h : dan x c.op c.arg ≠ (c.ak, c.av)) : (alw x c).2 = false ∧ adm x c = x := by
  have e : alw x c = (ct0, false) := by unfold alw; rw [if_neg h0, if_neg h4, if_neg h]
  unfold adm
  rw [e]
  exact ⟨rfl, rfl⟩
set_option maxHeartbeats 4000000 in
theorem puts_any (op : Int) (w : World) : Calls Try.prog 53 #[.int .i64 op] w fun e w' => e = .returned (.bool (decide (fullOp op))) ∧ w' = w := by
  by_cases h : op = 22 ∨ op = 30 ∨ op = 40 ∨ op = 50 ∨ op = 60
  · rw [decide_eq_true (show fullOp op from h)]
    rcases h with rfl | rfl | rfl | rfl | rfl
    all_goals
      go_enter Try.func53, Try.ntmps53
      go_wp2
      go_ret
      exact ⟨rfl, rfl⟩
  · rw [decide_eq_false (show ¬ fullOp op from h)]
    have d : ∀ k : Int, (k = 22 ∨ k = 30 ∨ k = 40 ∨ k = 50 ∨ k = 60) → (op == k) = false := fun k hk => by
      rw [beq_eq_false_iff_ne]; rintro rfl; exact h hk
    have d0 := d 22 (by simp)
    have d1 := d 30 (by simp)
    have d2 := d 40 (by simp)
    have d3 := d 50 (by simp)
    have d4 := d 60 (by simp)
    clear d h
    go_enter Try.func53, Try.ntmps53
    go_wp2
    go_ret
    exact ⟨rfl, rfl⟩
end Go.Proofs.Ytegbcocbopgghab.Md
