import Derived.Test.YtegbcocbopgghaaMdCopy
import Derived.Deep.Cut
/-
  reclaimmodel.Part, of any contents.
-/
namespace Go.Proofs.Ytegbcocbopgghaa.Md
open Go.RowKit Mr Me
set_option linter.unusedVariables false
set_option linter.unusedSimpArgs false
/-- One object's contents. -/
def prt (x : Ct) (o : Int) : Ct := ⟨if o = 1 then x.cell else [], if o = 2 then x.stack else [], if o = 3 then x.queue else [], if o = 4 then x.set else [], if o = 5 then x.table else []⟩
def nil5 : Obj := ctO (.slice none 0 0) (.slice none 0 0) (.slice none 0 0) (.slice none 0 0) (.slice none 0 0)
/-- Contents told in the result's box, a box made besides. -/
theorem end5 {W w2 : World} {b : Nat} {u0 u1 u2 u3 u4 v0 v1 v2 v3 v4 : Value} {y : Ct} (o : Obj) (hBe : Below W.heap.size W w2) (hb : W.heap.size ≤ b) (hbx : w2.heap[b]? = some (ctO u0 u1 u2 u3 u4)) (hy : CtHas w2 (fun k => b < k) v0 v1 v2 v3 v4 y) :
    CtHas ((set5 w2 b v0 v1 v2 v3 v4).alloc o) (fun k => W.heap.size ≤ k) v0 v1 v2 v3 v4 y ∧ Below W.heap.size W ((set5 w2 b v0 v1 v2 v3 v4).alloc o) ∧ ((set5 w2 b v0 v1 v2 v3 v4).alloc o).heap[b]? = some (ctO v0 v1 v2 v3 v4) := by
  have h1 := set5_at v0 v1 v2 v3 v4 hbx
  have h2 := set5_below v0 v1 v2 v3 v4 hBe hb
  have hlt := (Array.getElem?_eq_some_iff.1 h1).1
  have keep : ∀ {e size m : Nat} {v : Value} {xs : List Value}, Has w2 (fun k => b < k) e size v m xs → Has ((set5 w2 b v0 v1 v2 v3 v4).alloc o) (fun k => W.heap.size ≤ k) e size v m xs := fun {e size m v xs} hh => (hh.kept (w' := set5 w2 b v0 v1 v2 v3 v4) (fun k hk => set5_far w2 b v0 v1 v2 v3 v4 k (fun e' => by have := (hh.lt k hk).1; omega)) (T := fun k => W.heap.size ≤ k) (fun k hk => by have := (hh.lt k hk).1; omega)).alloc o
  exact ⟨⟨keep hy.cell, keep hy.stack, keep hy.queue, keep hy.set, keep hy.table⟩, h2.alloc h2.size o, old_at h1 o⟩
theorem prt_no (x : Ct) (o : Int) (h1 : o ≠ 1) (h2 : o ≠ 2) (h3 : o ≠ 3) (h4 : o ≠ 4) (h5 : o ≠ 5) : prt x o = ⟨[], [], [], [], []⟩ := by unfold prt; rw [if_neg h1, if_neg h2, if_neg h3, if_neg h4, if_neg h5]
set_option maxRecDepth 100000 in
set_option maxHeartbeats 8000000 in
theorem part_any {W : World} {S : Nat → Prop} {u0 u1 u2 u3 u4 : Value} {x : Ct} (hu : CtAt W S u0 u1 u2 u3 u4 x) (hin : CtIn 225000000000000 x) (o : Int) :
    Calls Try.prog 33 #[.agg #[u0, u1, u2, u3, u4], .int .i64 o] W fun e w' => ∃ v0 v1 v2 v3 v4, e = .returned (.agg #[v0, v1, v2, v3, v4]) ∧ CtHas w' (fun k => W.heap.size ≤ k) v0 v1 v2 v3 v4 (prt x o) ∧ Below W.heap.size W w' := by
  have C := fun w' (hB : Below W.heap.size W w') => copy_any (hu.below hB) hin
  obtain ⟨a0, c0, rfl, _⟩ := hu.cell.form
  obtain ⟨a1, c1, rfl, _⟩ := hu.stack.form
  obtain ⟨a2, c2, rfl, _⟩ := hu.queue.form
  obtain ⟨a3, c3, rfl, _⟩ := hu.set.form
  obtain ⟨a4, c4, rfl, _⟩ := hu.table.form
  have B0 := ((Below.refl W.heap.size W).alloc (Nat.le_refl _) (ctO (.slice a0 x.cell.length c0) (.slice a1 x.stack.length c1) (.slice a2 x.queue.length c2) (.slice a3 x.set.length c3) (.slice a4 x.table.length c4))).alloc (by simp) nil5
  have BX := fun w1 (hB : Below (W.heap.size + 2) ((W.alloc (ctO (.slice a0 x.cell.length c0) (.slice a1 x.stack.length c1) (.slice a2 x.queue.length c2) (.slice a3 x.set.length c3) (.slice a4 x.table.length c4))).alloc nil5) w1) => (show w1.heap[W.heap.size]? = some (ctO (.slice a0 x.cell.length c0) (.slice a1 x.stack.length c1) (.slice a2 x.queue.length c2) (.slice a3 x.set.length c3) (.slice a4 x.table.length c4)) ∧ w1.heap[W.heap.size + 1]? = some nil5 from ⟨(hB.block _ (by omega)).trans (old_at (new_at W _ _ rfl) _), (hB.block _ (by omega)).trans (new_at _ _ _ (by simp))⟩)
  clear hu
  unfold nil5 ctO at B0 BX
  replace C := Mr.hid C
  replace B0 := Mr.hid B0
  replace BX := Mr.hid BX
  go_enter Try.func33, Try.ntmps33
  go_upto_region 2 with (go_at_call 30; refine (C.out _ B0.out).mono ?_; clear C; rintro e w1 ⟨v0, v1, v2, v3, v4, rfl, hv, -, hB1⟩; simp only [World.size_alloc] at hB1; obtain ⟨g1, g2⟩ := BX.out w1 hB1; obtain ⟨k0, k1, k2, k3, k4, k5⟩ := ctO_cells g1; obtain ⟨f0, f1, f2, f3, f4⟩ := ctO_thaw g1; obtain ⟨pv0, qv0, rfl, _⟩ := hv.cell.form; obtain ⟨pv1, qv1, rfl, _⟩ := hv.stack.form; obtain ⟨pv2, qv2, rfl, _⟩ := hv.queue.form; obtain ⟨pv3, qv3, rfl, _⟩ := hv.set.form; obtain ⟨pv4, qv4, rfl, _⟩ := hv.table.form; replace hv := Mr.hid hv; replace g1 := Mr.hid g1; replace g2 := Mr.hid g2; replace hB1 := Mr.hid hB1)
  have hv5 := hv.out
  have hfar := fun k (hk : k ≠ W.heap.size) => set5_far w1 W.heap.size (.slice pv0 x.cell.length qv0) (.slice pv1 x.stack.length qv1) (.slice pv2 x.queue.length qv2) (.slice pv3 x.set.length qv3) (.slice pv4 x.table.length qv4) k hk
  have hbx := set5_at (.slice pv0 x.cell.length qv0) (.slice pv1 x.stack.length qv1) (.slice pv2 x.queue.length qv2) (.slice pv3 x.set.length qv3) (.slice pv4 x.table.length qv4) g1.out
  have hBe := set5_below (.slice pv0 x.cell.length qv0) (.slice pv1 x.stack.length qv1) (.slice pv2 x.queue.length qv2) (.slice pv3 x.set.length qv3) (.slice pv4 x.table.length qv4) (B0.out.trans (hB1.out.mono (by omega))) (Nat.le_refl _)
  unfold set5 at hfar hbx hBe
  have hb2 := (hfar (W.heap.size + 1) (by omega)).trans g2.out
  have keep : ∀ {e size m : Nat} {v : Value} {xs : List Value}, Has w1 (fun k => W.heap.size + 1 + 1 ≤ k) e size v m xs → Has _ (fun k => W.heap.size + 2 ≤ k) e size v m xs := fun {e size m v xs} hh => hh.kept (fun k hk => hfar k (fun e' => by have := (hh.lt k hk).1; omega)) (fun k hk => by have := (hh.lt k hk).1; omega)
  simp only [World.size_alloc] at hv5
  have r0 := keep hv5.cell
  have r1 := keep hv5.stack
  have r2 := keep hv5.queue
  have r3 := keep hv5.set
  have r4 := keep hv5.table
  clear keep hfar hv5 hv g1 g2 hB1 BX B0 k0 k1 k2 k3 k4 k5 f0 f1 f2 f3 f4
  generalize (((((w1.setCell { block := W.heap.size, off := 0 } (Value.slice pv0 x.cell.length qv0)).setCell { block := W.heap.size, off := 1 } (Value.slice pv1 x.stack.length qv1)).setCell { block := W.heap.size, off := 2 } (Value.slice pv2 x.queue.length qv2)).setCell { block := W.heap.size, off := 3 } (Value.slice pv3 x.set.length qv3)).setCell { block := W.heap.size, off := 4 } (Value.slice pv4 x.table.length qv4)) = w2 at *
  obtain ⟨k0, k1, k2, k3, k4, k5⟩ := ctO_cells hbx
  obtain ⟨j0, j1, j2, j3, j4, j5⟩ := ctO_cells hb2
  obtain ⟨f0, f1, f2, f3, f4⟩ := ctO_thaw hb2
  replace r0 := Mr.hid r0
  replace r1 := Mr.hid r1
  replace r2 := Mr.hid r2
  replace r3 := Mr.hid r3
  replace r4 := Mr.hid r4
  replace hbx := Mr.hid hbx
  replace hBe := Mr.hid hBe
  replace hb2 := Mr.hid hb2
  by_cases h1 : o = 1
  · subst h1
    go_wp2
    have E := end5 (v0 := (.slice pv0 x.cell.length qv0)) (v1 := (.slice none 0 0)) (v2 := (.slice none 0 0)) (v3 := (.slice none 0 0)) (v4 := (.slice none 0 0)) (y := ⟨x.cell, [], [], [], []⟩) (.cells #[.slice pv0 x.cell.length qv0, .slice none 0 0, .slice none 0 0, .slice none 0 0, .slice none 0 0] 29 (0, 0)) hBe.out (Nat.le_succ _) hb2.out ⟨r0.out, Has.nil _ _ _ _, Has.nil _ _ _ _, Has.nil _ _ _ _, Has.nil _ _ _ _⟩
    obtain ⟨e1, e2, e3⟩ := E
    obtain ⟨d0, d1, d2, d3, d4, d5⟩ := ctO_cells e3
    unfold set5 at e1 e2 d0 d1 d2 d3 d4 d5
    replace e1 := Mr.hid e1
    replace e2 := Mr.hid e2
    clear e3
    refine bodyPost_ret (v := .agg #[.slice pv0 x.cell.length qv0, .slice none 0 0, .slice none 0 0, .slice none 0 0, .slice none 0 0]) (by simp [results, Try.results33, go_sem, d0, d1, d2, d3, d4]) rfl ?_
    exact ⟨_, _, _, _, _, rfl, e1.out, e2.out⟩
  by_cases h2 : o = 2
  · subst h2
    go_wp2
    have E := end5 (v0 := (.slice none 0 0)) (v1 := (.slice pv1 x.stack.length qv1)) (v2 := (.slice none 0 0)) (v3 := (.slice none 0 0)) (v4 := (.slice none 0 0)) (y := ⟨[], x.stack, [], [], []⟩) (.cells #[.slice none 0 0, .slice pv1 x.stack.length qv1, .slice none 0 0, .slice none 0 0, .slice none 0 0] 29 (0, 0)) hBe.out (Nat.le_succ _) hb2.out ⟨Has.nil _ _ _ _, r1.out, Has.nil _ _ _ _, Has.nil _ _ _ _, Has.nil _ _ _ _⟩
    obtain ⟨e1, e2, e3⟩ := E
    obtain ⟨d0, d1, d2, d3, d4, d5⟩ := ctO_cells e3
    unfold set5 at e1 e2 d0 d1 d2 d3 d4 d5
    replace e1 := Mr.hid e1
    replace e2 := Mr.hid e2
    clear e3
    refine bodyPost_ret (v := .agg #[.slice none 0 0, .slice pv1 x.stack.length qv1, .slice none 0 0, .slice none 0 0, .slice none 0 0]) (by simp [results, Try.results33, go_sem, d0, d1, d2, d3, d4]) rfl ?_
    exact ⟨_, _, _, _, _, rfl, e1.out, e2.out⟩
  by_cases h3 : o = 3
  · subst h3
    go_wp2
    have E := end5 (v0 := (.slice none 0 0)) (v1 := (.slice none 0 0)) (v2 := (.slice pv2 x.queue.length qv2)) (v3 := (.slice none 0 0)) (v4 := (.slice none 0 0)) (y := ⟨[], [], x.queue, [], []⟩) (.cells #[.slice none 0 0, .slice none 0 0, .slice pv2 x.queue.length qv2, .slice none 0 0, .slice none 0 0] 29 (0, 0)) hBe.out (Nat.le_succ _) hb2.out ⟨Has.nil _ _ _ _, Has.nil _ _ _ _, r2.out, Has.nil _ _ _ _, Has.nil _ _ _ _⟩
    obtain ⟨e1, e2, e3⟩ := E
    obtain ⟨d0, d1, d2, d3, d4, d5⟩ := ctO_cells e3
    unfold set5 at e1 e2 d0 d1 d2 d3 d4 d5
    replace e1 := Mr.hid e1
    replace e2 := Mr.hid e2
    clear e3
    refine bodyPost_ret (v := .agg #[.slice none 0 0, .slice none 0 0, .slice pv2 x.queue.length qv2, .slice none 0 0, .slice none 0 0]) (by simp [results, Try.results33, go_sem, d0, d1, d2, d3, d4]) rfl ?_
    exact ⟨_, _, _, _, _, rfl, e1.out, e2.out⟩
  by_cases h4 : o = 4
  · subst h4
    go_wp2
    have E := end5 (v0 := (.slice none 0 0)) (v1 := (.slice none 0 0)) (v2 := (.slice none 0 0)) (v3 := (.slice pv3 x.set.length qv3)) (v4 := (.slice none 0 0)) (y := ⟨[], [], [], x.set, []⟩) (.cells #[.slice none 0 0, .slice none 0 0, .slice none 0 0, .slice pv3 x.set.length qv3, .slice none 0 0] 29 (0, 0)) hBe.out (Nat.le_succ _) hb2.out ⟨Has.nil _ _ _ _, Has.nil _ _ _ _, Has.nil _ _ _ _, r3.out, Has.nil _ _ _ _⟩
    obtain ⟨e1, e2, e3⟩ := E
    obtain ⟨d0, d1, d2, d3, d4, d5⟩ := ctO_cells e3
    unfold set5 at e1 e2 d0 d1 d2 d3 d4 d5
    replace e1 := Mr.hid e1
    replace e2 := Mr.hid e2
    clear e3
    refine bodyPost_ret (v := .agg #[.slice none 0 0, .slice none 0 0, .slice none 0 0, .slice pv3 x.set.length qv3, .slice none 0 0]) (by simp [results, Try.results33, go_sem, d0, d1, d2, d3, d4]) rfl ?_
    exact ⟨_, _, _, _, _, rfl, e1.out, e2.out⟩
  by_cases h5 : o = 5
  · subst h5
    go_wp2
    have E := end5 (v0 := (.slice none 0 0)) (v1 := (.slice none 0 0)) (v2 := (.slice none 0 0)) (v3 := (.slice none 0 0)) (v4 := (.slice pv4 x.table.length qv4)) (y := ⟨[], [], [], [], x.table⟩) (.cells #[.slice none 0 0, .slice none 0 0, .slice none 0 0, .slice none 0 0, .slice pv4 x.table.length qv4] 29 (0, 0)) hBe.out (Nat.le_succ _) hb2.out ⟨Has.nil _ _ _ _, Has.nil _ _ _ _, Has.nil _ _ _ _, Has.nil _ _ _ _, r4.out⟩
    obtain ⟨e1, e2, e3⟩ := E
    obtain ⟨d0, d1, d2, d3, d4, d5⟩ := ctO_cells e3
    unfold set5 at e1 e2 d0 d1 d2 d3 d4 d5
    replace e1 := Mr.hid e1
    replace e2 := Mr.hid e2
    clear e3
    refine bodyPost_ret (v := .agg #[.slice none 0 0, .slice none 0 0, .slice none 0 0, .slice none 0 0, .slice pv4 x.table.length qv4]) (by simp [results, Try.results33, go_sem, d0, d1, d2, d3, d4]) rfl ?_
    exact ⟨_, _, _, _, _, rfl, e1.out, e2.out⟩
  have d1 : (o == 1) = false := by simpa using h1
  have d2 : (o == 2) = false := by simpa using h2
  have d3 : (o == 3) = false := by simpa using h3
  have d4 : (o == 4) = false := by simpa using h4
  have d5 : (o == 5) = false := by simpa using h5
  go_wp2
  clear d1 d2 d3 d4 d5
  have E := end5 (v0 := (.slice none 0 0)) (v1 := (.slice none 0 0)) (v2 := (.slice none 0 0)) (v3 := (.slice none 0 0)) (v4 := (.slice none 0 0)) (y := ⟨[], [], [], [], []⟩) (.cells #[.slice none 0 0, .slice none 0 0, .slice none 0 0, .slice none 0 0, .slice none 0 0] 29 (0, 0)) hBe.out (Nat.le_succ _) hb2.out ⟨Has.nil _ _ _ _, Has.nil _ _ _ _, Has.nil _ _ _ _, Has.nil _ _ _ _, Has.nil _ _ _ _⟩
  obtain ⟨e1, e2, e3⟩ := E
  obtain ⟨d0, d1, d2, d3, d4, d5⟩ := ctO_cells e3
  unfold set5 at e1 e2 d0 d1 d2 d3 d4 d5
  replace e1 := Mr.hid e1
  replace e2 := Mr.hid e2
  clear e3
  refine bodyPost_ret (v := .agg #[.slice none 0 0, .slice none 0 0, .slice none 0 0, .slice none 0 0, .slice none 0 0]) (by simp [results, Try.results33, go_sem, d0, d1, d2, d3, d4]) rfl ?_
  exact ⟨_, _, _, _, _, rfl, by rw [prt_no x o h1 h2 h3 h4 h5]; exact e1.out, e2.out⟩
end Go.Proofs.Ytegbcocbopgghaa.Md
