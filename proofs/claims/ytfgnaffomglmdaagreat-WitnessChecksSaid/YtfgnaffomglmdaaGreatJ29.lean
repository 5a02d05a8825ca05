import Derived.Test.YtfgnaffomglmdaaGreatJ28
import Derived.Test.YtfgnaffomglmdaaGreatJ09
/-
  Package model: Do.
-/
namespace Go.Proofs.YtfgnaffomglmdaaGreat.Md
open Go.RowKit Mr
set_option linter.unusedVariables false
set_option linter.unusedSimpArgs false
theorem nines {W : World} {b : Nat} {v0 v1 v2 v3 v4 v5 v6 v7 v8 : Value} {t : TypeId} (h : W.heap[b]? = some (.cells #[v0, v1, v2, v3, v4, v5, v6, v7, v8] t (0, 0))) : W.cell? ⟨b, 0, none⟩ = some v0 ∧ W.cell? ⟨b, 1, none⟩ = some v1 ∧ W.cell? ⟨b, 2, none⟩ = some v2 ∧ W.cell? ⟨b, 3, none⟩ = some v3 ∧ W.cell? ⟨b, 4, none⟩ = some v4 ∧ W.cell? ⟨b, 5, none⟩ = some v5 ∧ W.cell? ⟨b, 6, none⟩ = some v6 ∧ W.cell? ⟨b, 7, none⟩ = some v7 ∧ W.cell? ⟨b, 8, none⟩ = some v8 ∧ b < W.heap.size :=
  ⟨cell_blk h 0, cell_blk h 1, cell_blk h 2, cell_blk h 3, cell_blk h 4, cell_blk h 5, cell_blk h 6, cell_blk h 7, cell_blk h 8, (Array.getElem?_eq_some_iff.1 h).1⟩
theorem ans_setq {W : World} {S : Nat → Prop} {g : Nat} {l : List Int} (ho : Ob W S g 109 3 1 l.length (ints l)) (hsm : l.length * 8 ≤ 281474976710656) (hR : Ris l) (th op arg data beg fin pt ak av : Int) (q : Int × Int) (hq : q = (if op = 50 then (if inB l arg then 6 else 5) else (if inB l arg then 5 else 6), 0)) :
    Calls Tryz.prog 114 #[.pointer (some ⟨g, 0, none⟩), .agg #[.int .i64 th, .int .i64 op, .int .i64 arg, .int .i64 data, .int .i64 beg, .int .i64 fin, .int .i64 pt, .int .i64 ak, .int .i64 av]] W fun e w' => e = .returned (ans q.1 q.2) ∧ Below W.heap.size W w' := by
  subst hq
  exact ans_set4 ho hsm hR th op arg data beg fin pt ak av _ rfl


theorem obj_1 {op : Int} (h : obj op = 1) : op = 22 ∨ op = 23 := by
  unfold obj at h
  repeat (split at h; first | omega | skip)
  all_goals omega
theorem dan_o1 (x : Ct) {op arg : Int} (h : obj op = 1) : dan x op arg = if op = 22 then (1, 0) else top x.cell := by
  rcases obj_1 h with rfl | rfl
  · rfl
  · rfl
theorem dnx_o1 (x : Ct) {op arg data : Int} (h : obj op = 1) : dnx x op arg data = { x with cell := if op = 22 then [arg] else x.cell } := by
  rcases obj_1 h with rfl | rfl
  · rfl
  · rfl
theorem obj_2 {op : Int} (h : obj op = 2) : op = 30 ∨ op = 31 := by
  unfold obj at h
  repeat (split at h; first | omega | skip)
  all_goals omega
theorem dan_o2 (x : Ct) {op arg : Int} (h : obj op = 2) : dan x op arg = if op = 30 then (1, 0) else top x.stack := by
  rcases obj_2 h with rfl | rfl
  · rfl
  · rfl
theorem dnx_o2 (x : Ct) {op arg data : Int} (h : obj op = 2) : dnx x op arg data = { x with stack := if op = 30 then arg :: x.stack else x.stack.drop 1 } := by
  rcases obj_2 h with rfl | rfl
  · rfl
  · rfl
theorem obj_3 {op : Int} (h : obj op = 3) : op = 40 ∨ op = 41 := by
  unfold obj at h
  repeat (split at h; first | omega | skip)
  all_goals omega
theorem dan_o3 (x : Ct) {op arg : Int} (h : obj op = 3) : dan x op arg = if op = 40 then (1, 0) else top x.queue := by
  rcases obj_3 h with rfl | rfl
  · rfl
  · rfl
theorem dnx_o3 (x : Ct) {op arg data : Int} (h : obj op = 3) : dnx x op arg data = { x with queue := if op = 40 then x.queue ++ [arg] else x.queue.drop 1 } := by
  rcases obj_3 h with rfl | rfl
  · rfl
  · rfl
theorem obj_4 {op : Int} (h : obj op = 4) : op = 50 ∨ op = 51 ∨ op = 52 := by
  unfold obj at h
  repeat (split at h; first | omega | skip)
  all_goals omega
theorem dan_o4 (x : Ct) {op arg : Int} (h : obj op = 4) : dan x op arg = (if op = 50 then (if inB x.set arg then 6 else 5) else (if inB x.set arg then 5 else 6), 0) := by
  rcases obj_4 h with rfl | rfl | rfl
  · rfl
  · rfl
  · rfl
theorem dnx_o4 (x : Ct) {op arg data : Int} (h : obj op = 4) : dnx x op arg data = { x with set := if op = 50 then (if inB x.set arg then x.set else insL x.set arg) else if op = 51 then (if inB x.set arg then delL x.set arg else x.set) else x.set } := by
  rcases obj_4 h with rfl | rfl | rfl
  · rfl
  · rfl
  · rfl
theorem obj_5 {op : Int} (h : obj op = 5) : op = 60 ∨ op = 61 ∨ op = 62 := by
  unfold obj at h
  repeat (split at h; first | omega | skip)
  all_goals omega
theorem dan_o5 (x : Ct) {op arg : Int} (h : obj op = 5) : dan x op arg = if op = 60 then (if inB (keysOf x.table) arg then 6 else 5, 0) else getT x.table arg := by
  rcases obj_5 h with rfl | rfl | rfl
  · rfl
  · rfl
  · rfl
theorem dnx_o5 (x : Ct) {op arg data : Int} (h : obj op = 5) : dnx x op arg data = { x with table := if op = 60 then (if inB (keysOf x.table) arg then x.table else insT x.table arg data) else if op = 61 then (if inB (keysOf x.table) arg then delT x.table arg else x.table) else x.table } := by
  rcases obj_5 h with rfl | rfl | rfl
  · rfl
  · rfl
  · rfl
end Go.Proofs.YtfgnaffomglmdaaGreat.Md
/-
  Package model: puts; what admit leaves, purely.
-/
namespace Go.Proofs.YtfgnaffomglmdaaGreat.Md
open Go.RowKit Mr
set_option linter.unusedVariables false
set_option linter.unusedSimpArgs false
theorem labrp_old {lab : Nat → Nat} {s s' i k : Nat} (h : labr (labp lab s i) s' k < 5) (hk : k < s) : lab k < 5 := by
  rw [labr_in (labr_hi h), labp_old hk] at h
  exact h
/-- What is left behind a call that was asked for: as it was, if it may not answer so. -/
def adm (x : Ct) (c : Cq) : Ct := if (alw x c).2 = true then (alw x c).1 else x
theorem adm_none {x : Ct} {c : Cq} (h : c.ak = 0) : (alw x c).2 = true ∧ adm x c = dnx x c.op c.arg c.data := by
  have e : alw x c = (dnx x c.op c.arg c.data, true) := if_pos h
  unfold adm
  rw [e]
  exact ⟨rfl, rfl⟩
theorem adm_full {x : Ct} {c : Cq} (h0 : c.ak ≠ 0) (h : c.ak = 4) (b : Bool) (hb : b = decide (fullOp c.op)) : (alw x c).2 = b ∧ adm x c = x := by
  have e : alw x c = (if fullOp c.op then (x, true) else (ct0, false)) := by unfold alw; rw [if_neg h0, if_pos h]
  unfold adm
  rw [e]
  by_cases f : fullOp c.op
  · rw [if_pos f, hb, decide_eq_true f]; exact ⟨rfl, rfl⟩
  · rw [if_neg f, hb, decide_eq_false f]; exact ⟨rfl, rfl⟩
theorem adm_yes {x : Ct} {c : Cq} (h0 : c.ak ≠ 0) (h4 : c.ak ≠ 4) (h : dan x c.op c.arg = (c.ak, c.av)) : (alw x c).2 = true ∧ adm x c = dnx x c.op c.arg c.data := by
  have e : alw x c = (dnx x c.op c.arg c.data, true) := by unfold alw; rw [if_neg h0, if_neg h4, if_pos h]
  unfold adm
  rw [e]
  exact ⟨rfl, rfl⟩
theorem adm_no {x : Ct} {c : Cq} (h0 : c.ak ≠ 0) (h4 : c.ak ≠ 4) (h : dan x c.op c.arg ≠ (c.ak, c.av)) : (alw x c).2 = false ∧ adm x c = x := by
  have e : alw x c = (ct0, false) := by unfold alw; rw [if_neg h0, if_neg h4, if_neg h]
  unfold adm
  rw [e]
  exact ⟨rfl, rfl⟩
set_option maxHeartbeats 4000000 in
theorem puts_any (op : Int) (w : World) : Calls Tryz.prog 55 #[.int .i64 op] w fun e w' => e = .returned (.bool (decide (fullOp op))) ∧ w' = w := by
  by_cases h : op = 22 ∨ op = 30 ∨ op = 40 ∨ op = 50 ∨ op = 60
  · rw [decide_eq_true (show fullOp op from h)]
    rcases h with rfl | rfl | rfl | rfl | rfl
    all_goals
      go_enter Tryz.func55, Tryz.ntmps55
      go_wp2
      go_ret
      exact ⟨rfl, rfl⟩
  · rw [decide_eq_false (show ¬ fullOp op from h)]
    have d : ∀ k : Int, (k = 22 ∨ k = 30 ∨ k = 40 ∨ k = 50 ∨ k = 60) → (op == k) = false := fun k hk => by
      rw [beq_eq_false_iff_ne]; rintro rfl; exact h hk
    have d0 := d 22 (by simp)
    have d1 := d 30 (by simp)
    have d2 := d 40 (by simp)
    have d3 := d 50 (by simp)
    have d4 := d 60 (by simp)
    clear d h
    go_enter Tryz.func55, Tryz.ntmps55
    go_wp2
    go_ret
    exact ⟨rfl, rfl⟩
end Go.Proofs.YtfgnaffomglmdaaGreat.Md
