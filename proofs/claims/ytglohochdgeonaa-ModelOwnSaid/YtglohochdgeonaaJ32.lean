import Derived.Test.YtglohochdgeonaaJ28
import Derived.Test.YtglohochdgeonaaJ31
import Derived.Deep.RegionHeld3
import Derived.Test.YtglohochdgeonaaJ23
import Derived.Test.YtglohochdgeonaaJ10
/-
  ModelApart: the walk.
-/
namespace Go.Proofs.Ytglohochdgeonaa.Md
open Go.RowKit Mr Me
set_option linter.unusedVariables false
set_option linter.unusedSimpArgs false
def mvO (th op arg data : Int) : Obj := .cells #[.int .i64 th, .int .i64 op, .int .i64 arg, .int .i64 data] 28 (0, 0)
/-- A move in its box. -/
structure Mb (w : World) (b : Nat) (th op arg data : Int) : Prop where
  box : w.heap[b]? = some (mvO th op arg data)
theorem Mb.next {w w' : World} {b : Nat} {th op arg data : Int} (h : Mb w b th op arg data) (hB : Below w.heap.size w w') : Mb w' b th op arg data :=
  ⟨(hB.block _ (Array.getElem?_eq_some_iff.1 h.box).1).trans h.box⟩
theorem mvO_cells {W : World} {b : Nat} {th op arg data : Int} (h : W.heap[b]? = some (mvO th op arg data)) : W.cell? ⟨b, 1, none⟩ = some (.int .i64 op) ∧ W.cell? ⟨b, 2, none⟩ = some (.int .i64 arg) ∧ W.cell? ⟨b, 3, none⟩ = some (.int .i64 data) ∧ b < W.heap.size :=
  ⟨cell_blk h 1, cell_blk h 2, cell_blk h 3, (Array.getElem?_eq_some_iff.1 h).1⟩
theorem righted3 {W w0 w1 wM : World} {u0 u1 u2 u3 u4 v0 v1 v2 v3 v4 : Value} {y : Ct} {t1 o1 r1 d1 t2 o2 r2 d2 : Int} (h0 : w0 = ((W.alloc (ctO u0 u1 u2 u3 u4)).alloc (mvO t1 o1 r1 d1)).alloc (mvO t2 o2 r2 d2)) (hM : wM = set5 w1 W.heap.size v0 v1 v2 v3 v4) (hB : Below w0.heap.size w0 w1) (hl : CtAt w1 (fun k => w0.heap.size ≤ k) v0 v1 v2 v3 v4 y) :
    Bl wM W ∧ Cb wM W.heap.size v0 v1 v2 v3 v4 y ∧ Mb wM (W.heap.size + 1) t1 o1 r1 d1 ∧ Mb wM (W.heap.size + 2) t2 o2 r2 d2 ∧ w1.heap[W.heap.size]? = some (ctO u0 u1 u2 u3 u4) := by
  subst hM
  have B0 := (((Below.refl W.heap.size W).alloc (Nat.le_refl _) (ctO u0 u1 u2 u3 u4)).alloc (by simp) (mvO t1 o1 r1 d1)).alloc (by simp; omega) (mvO t2 o2 r2 d2)
  have g0 : w0.heap[W.heap.size]? = some (ctO u0 u1 u2 u3 u4) := by rw [h0]; exact old_at (old_at (new_at W _ _ rfl) _) _
  have g1 : w0.heap[W.heap.size + 1]? = some (mvO t1 o1 r1 d1) := by rw [h0]; exact old_at (new_at _ _ _ (by simp)) _
  have g2 : w0.heap[W.heap.size + 2]? = some (mvO t2 o2 r2 d2) := by rw [h0]; exact new_at _ _ _ (by simp)
  rw [← h0] at B0
  have hs0 : W.heap.size < w0.heap.size := (Array.getElem?_eq_some_iff.1 g0).1
  have B1 := B0.trans (hB.mono B0.size)
  have k0 := (hB.block _ hs0).trans g0
  have k1 := (hB.block _ (Array.getElem?_eq_some_iff.1 g1).1).trans g1
  have k2 := (hB.block _ (Array.getElem?_eq_some_iff.1 g2).1).trans g2
  exact ⟨⟨set5_below v0 v1 v2 v3 v4 B1 (Nat.le_refl _)⟩, ⟨set5_at v0 v1 v2 v3 v4 k0, (hl.fr (set5_fr w1 W.heap.size v0 v1 v2 v3 v4) (fun k hk _ e => by subst e; omega)).mono (fun _ _ => trivial)⟩, ⟨(set5_far w1 W.heap.size v0 v1 v2 v3 v4 _ (by omega)).trans k1⟩, ⟨(set5_far w1 W.heap.size v0 v1 v2 v3 v4 _ (by omega)).trans k2⟩, k0⟩
theorem made1 {w w1 wM : World} {l0 l1 l2 l3 l4 : Value} {y : Ct} {T : Nat → Prop} (hM : wM = w1.alloc (ctO l0 l1 l2 l3 l4)) (hB : Below w.heap.size w w1) (hl : CtAt w1 T l0 l1 l2 l3 l4 y) :
    Below w.heap.size w wM ∧ Cb wM w1.heap.size l0 l1 l2 l3 l4 y := by
  subst hM
  have Y := (Below.refl w1.heap.size w1).alloc (Nat.le_refl _) (ctO l0 l1 l2 l3 l4)
  exact ⟨hB.trans (Y.mono hB.size), ⟨new_at _ _ _ rfl, (hl.mono (fun _ _ => trivial)).below Y⟩⟩
theorem prt_inA {B : Nat} {x : Ct} (h : CtIn B x) (o : Int) : CtIn B (prt x o) := by
  obtain ⟨h0, h1, h2, h3, h4⟩ := h
  refine ⟨?_, ?_, ?_, ?_, ?_⟩
  · show (if o = 1 then x.cell else []).length * 8 ≤ B; split; exact h0; simp
  · show (if o = 2 then x.stack else []).length * 8 ≤ B; split; exact h1; simp
  · show (if o = 3 then x.queue else []).length * 8 ≤ B; split; exact h2; simp
  · show (if o = 4 then x.set else []).length * 8 ≤ B; split; exact h3; simp
  · show (if o = 5 then x.table else []).length * 16 ≤ B; split; exact h4; simp
end Go.Proofs.Ytglohochdgeonaa.Md
/-
  Package model: puts; what admit leaves, purely.
-/
namespace Go.Proofs.Ytglohochdgeonaa.Md
open Go.RowKit Mr
set_option linter.unusedVariables false
set_option linter.unusedSimpArgs false
theorem labrp_old {lab : Nat → Nat} {s s' i k : Nat} (h : labr (labp lab s i) s' k < 5) (hk : k < s) : lab k < 5 := by
  rw [labr_in (labr_hi h), labp_old hk] at h
  exact h
/-- What is left behind a call that was asked for: as it was, if it may not answer so. -/
def adm (x : Ct) (c : Cq) : Ct := if (alw x c).2 = true then (alw x c).1 else x
theorem adm_none {x : Ct} {c : Cq} (h : c.ak = 0) : (alw x c).2 = true ∧ adm x c = dnx x c.op c.arg c.data := by
  have e : alw x c = (dnx x c.op c.arg c.data, true) := if_pos h
  unfold adm
  rw [e]
  exact ⟨rfl, rfl⟩
theorem adm_full {x : Ct} {c : Cq} (h0 : c.ak ≠ 0) (h : c.ak = 4) (b : Bool) (hb : b = decide (fullOp c.op)) : (alw x c).2 = b ∧ adm x c = x := by
  have e : alw x c = (if fullOp c.op then (x, true) else (ct0, false)) := by unfold alw; rw [if_neg h0, if_pos h]
  unfold adm
  rw [e]
  by_cases f : fullOp c.op
  · rw [if_pos f, hb, decide_eq_true f]; exact ⟨rfl, rfl⟩
  · rw [if_neg f, hb, decide_eq_false f]; exact ⟨rfl, rfl⟩
theorem adm_yes {x : Ct} {c : Cq} (h0 : c.ak ≠ 0) (h4 : c.ak ≠ 4) (h : dan x c.op c.arg = (c.ak, c.av)) : (alw x c).2 = true ∧ adm x c = dnx x c.op c.arg c.data := by
  have e : alw x c = (dnx x c.op c.arg c.data, true) := by unfold alw; rw [if_neg h0, if_neg h4, if_pos h]
  unfold adm
  rw [e]
  exact ⟨rfl, rfl⟩
theorem adm_no {x : Ct} {c : Cq} (h0 : c.ak ≠ 0) (h4 : c.ak ≠ 4) (h : dan x c.op c.arg ≠ (c.ak, c.av)) : (alw x c).2 = false ∧ adm x c = x := by
  have e : alw x c = (ct0, false) := by unfold alw; rw [if_neg h0, if_neg h4, if_neg h]
  unfold adm
  rw [e]
  exact ⟨rfl, rfl⟩
set_option maxHeartbeats 4000000 in
theorem puts_any (op : Int) (w : World) : Calls Try.prog 33 #[.int .i64 op] w fun e w' => e = .returned (.bool (decide (fullOp op))) ∧ w' = w := by
  by_cases h : op = 22 ∨ op = 30 ∨ op = 40 ∨ op = 50 ∨ op = 60
  · rw [decide_eq_true (show fullOp op from h)]
    rcases h with rfl | rfl | rfl | rfl | rfl
    all_goals
      go_enter Try.func33, Try.ntmps33
      go_wp2
      go_ret
      exact ⟨rfl, rfl⟩
  · rw [decide_eq_false (show ¬ fullOp op from h)]
    have d : ∀ k : Int, (k = 22 ∨ k = 30 ∨ k = 40 ∨ k = 50 ∨ k = 60) → (op == k) = false := fun k hk => by
      rw [beq_eq_false_iff_ne]; rintro rfl; exact h hk
    have d0 := d 22 (by simp)
    have d1 := d 30 (by simp)
    have d2 := d 40 (by simp)
    have d3 := d 50 (by simp)
    have d4 := d 60 (by simp)
    clear d h
    go_enter Try.func33, Try.ntmps33
    go_wp2
    go_ret
    exact ⟨rfl, rfl⟩
end Go.Proofs.Ytglohochdgeonaa.Md
