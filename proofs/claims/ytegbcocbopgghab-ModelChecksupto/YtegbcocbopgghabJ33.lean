import Derived.Test.YtegbcocbopgghabJ02
import Derived.Test.YtegbcocbopgghabJ27
/-
  OPENING a move (api.Move) that came in.
-/
namespace Go.Proofs.Ytegbcocbopgghab.Md
open Go.ChangeShapes Go.WideShapes Go.ChangeAt Go.RowKit Go.Deep
open Mr
set_option linter.unusedVariables false
set_option maxRecDepth 100000
theorem cells_opM : Try.prog.cellsOf 35 = 1 := by kernel_rfl
theorem cells_mv : Try.prog.cellsOf 41 = 4 := by kernel_rfl
section
variable {H : Type} {enc : TypeId × Value → H} {w : World} {base : Nat} {spare : Nat → Bool} {held : Bool}
theorem trod_mv {fuel : Nat} {cs : List Value} {x : DataW H × List MemPlace} (hf : DataW.trod enc Try.prog w base spare held fuel 41 cs = some x) : ∃ a b c d : Int, cs = [.int .i64 a, .int .i64 b, .int .i64 c, .int .i64 d] := by
  obtain ⟨xs, n, _, hxx, hl, hxl, hx⟩ := DataW.trod_struct Try.underlying41 hf
  rw [cells_mv] at hl
  match cs, hl with
  | [x0, x1, x2, x3], _ =>
    have q0 := hx 0 _ rfl
    have q1 := hx 1 _ rfl
    have q2 := hx 2 _ rfl
    have q3 := hx 3 _ rfl
    have hxs : xs.length = 4 := by simpa using hxl
    match xs, hxs with
    | [y0, y1, y2, y3], _ =>
      simp [cells_opM, cells_i64] at q0 q1 q2 q3
      obtain ⟨z0, e0, _⟩ := DataW.trod_int Try.underlying3 q0
      obtain ⟨z1, e1, _⟩ := DataW.trod_int Try.underlying35 q1
      obtain ⟨z2, e2, _⟩ := DataW.trod_int Try.underlying3 q2
      obtain ⟨z3, e3, _⟩ := DataW.trod_int Try.underlying3 q3
      simp at e0 e1 e2 e3
      subst e0; subst e1; subst e2; subst e3
      exact ⟨z0, z1, z2, z3, rfl⟩
theorem open_mv4 {r : Reach} {b0 : Nat} {v : Value} {d : DataW H} {p : List MemPlace} (hv : Value.okWide Try.prog w r b0 41 v) (h : DataW.Trod enc Try.prog w base spare held 41 v d p) :
    ∃ a b c d : Int, v = .agg #[.int .i64 a, .int .i64 b, .int .i64 c, .int .i64 d] := by
  obtain ⟨cs, rfl, hcz⟩ := okWide_struct Try.underlying41 hv
  obtain ⟨fuel, hfu⟩ := h
  obtain ⟨a, b, c, d', hc⟩ := trod_mv hfu
  have hcs : (Value.agg cs).cells.toList = cs.toList := rfl
  rw [hcs] at hc
  refine ⟨a, b, c, d', ?_⟩
  congr 1
  have : cs = ([.int .i64 a, .int .i64 b, .int .i64 c, .int .i64 d'] : List Value).toArray := by rw [← hc]
  rw [this]
end
end Go.Proofs.Ytegbcocbopgghab.Md
/-
  reclaimlaw11: right.
-/
namespace Go.Proofs.Ytegbcocbopgghab.Md
open Go.RowKit Mr Me
set_option linter.unusedVariables false
set_option linter.unusedSimpArgs false
set_option maxRecDepth 100000 in
set_option maxHeartbeats 8000000 in
theorem right_no {W : World} {S : Nat → Prop} {u0 u1 u2 u3 u4 : Value} {x : Ct} (hu : CtAt W S u0 u1 u2 u3 u4 x) (hin : CtIn 225000000000000 x) (hm : ¬ May x) :
    Calls Try.prog 9 #[.agg #[u0, u1, u2, u3, u4]] W fun e w' => ∃ v0 v1 v2 v3 v4, e = .returned (.agg #[v0, v1, v2, v3, v4]) ∧ CtAt w' (fun k => W.heap.size ≤ k) v0 v1 v2 v3 v4 ct0 ∧ Below W.heap.size W w' := by
  have C := fun w' (hB : Below W.heap.size W w') => rMay_any (hu.below hB) (hin.sm (by decide)) false (by simp [hm])
  have CC := fun w' (hB : Below W.heap.size W w') => rCopy_any (hu.below hB) hin
  obtain ⟨a0, c0, rfl, _⟩ := hu.cell.form
  obtain ⟨a1, c1, rfl, _⟩ := hu.stack.form
  obtain ⟨a2, c2, rfl, _⟩ := hu.queue.form
  obtain ⟨a3, c3, rfl, _⟩ := hu.set.form
  obtain ⟨a4, c4, rfl, _⟩ := hu.table.form
  have B0 := ((Below.refl W.heap.size W).alloc (Nat.le_refl _) (ctO (.slice a0 x.cell.length c0) (.slice a1 x.stack.length c1) (.slice a2 x.queue.length c2) (.slice a3 x.set.length c3) (.slice a4 x.table.length c4))).alloc (by simp) nil5
  have G0 : ((W.alloc (ctO (.slice a0 x.cell.length c0) (.slice a1 x.stack.length c1) (.slice a2 x.queue.length c2) (.slice a3 x.set.length c3) (.slice a4 x.table.length c4))).alloc nil5).heap[W.heap.size + 1]? = some nil5 := new_at _ nil5 _ (by simp)
  have G1 : ((W.alloc (ctO (.slice a0 x.cell.length c0) (.slice a1 x.stack.length c1) (.slice a2 x.queue.length c2) (.slice a3 x.set.length c3) (.slice a4 x.table.length c4))).alloc nil5).heap[W.heap.size]? = some (ctO (.slice a0 x.cell.length c0) (.slice a1 x.stack.length c1) (.slice a2 x.queue.length c2) (.slice a3 x.set.length c3) (.slice a4 x.table.length c4)) := old_at (new_at W _ _ rfl) _
  have BE := fun w1 (hB : Below (W.heap.size + 2) ((W.alloc (ctO (.slice a0 x.cell.length c0) (.slice a1 x.stack.length c1) (.slice a2 x.queue.length c2) (.slice a3 x.set.length c3) (.slice a4 x.table.length c4))).alloc nil5) w1) => (⟨B0.trans (hB.mono (by omega)), (hB.block (W.heap.size + 1) (by omega)).trans G0, (hB.block W.heap.size (by omega)).trans G1⟩ : Below W.heap.size W w1 ∧ w1.heap[W.heap.size + 1]? = some nil5 ∧ w1.heap[W.heap.size]? = some (ctO (.slice a0 x.cell.length c0) (.slice a1 x.stack.length c1) (.slice a2 x.queue.length c2) (.slice a3 x.set.length c3) (.slice a4 x.table.length c4)))
  clear hu G0 G1
  unfold nil5 ctO at B0
  unfold ctO at BE
  replace C := Mr.hid C
  replace CC := Mr.hid CC
  replace B0 := Mr.hid B0
  replace BE := Mr.hid BE
  replace hm := Mr.hid hm
  go_enter Try.func9, Try.ntmps9
  go_wp2_with (first | (go_at_call 23; refine (C.out _ B0.out).mono ?_; clear C; rintro e w1 ⟨rfl, hB1⟩; simp only [World.size_alloc] at hB1; obtain ⟨hE, hG, hH⟩ := BE.out w1 hB1; clear hB1 BE; obtain ⟨k0, k1, k2, k3, k4, kl⟩ := ctO_cells hG; obtain ⟨f0, f1, f2, f3, f4⟩ := ctO_thaw hG; obtain ⟨i0, i1, i2, i3, i4, il⟩ := ctO_cells hH; replace hE := Mr.hid hE; replace hG := Mr.hid hG; clear hH))
  obtain ⟨e1, e2, e3⟩ := end5a (v0 := (.slice none 0 0)) (v1 := (.slice none 0 0)) (v2 := (.slice none 0 0)) (v3 := (.slice none 0 0)) (v4 := (.slice none 0 0)) hE.out (b := W.heap.size + 1) (by omega) hG.out (ct0_at _ (fun k => W.heap.size + 2 ≤ k)) (fun k hk => by omega)
  obtain ⟨d0, d1, d2, d3, d4, -⟩ := ctO_cells e3
  unfold set5 at e1 e2 d0 d1 d2 d3 d4
  replace e1 := Mr.hid e1
  replace e2 := Mr.hid e2
  clear e3 k0 k1 k2 k3 k4 f0 f1 f2 f3 f4
  refine bodyPost_ret (v := .agg #[.slice none 0 0, .slice none 0 0, .slice none 0 0, .slice none 0 0, .slice none 0 0]) (by simp [results, Try.results9, go_sem, d0, d1, d2, d3, d4]) rfl ?_
  exact ⟨_, _, _, _, _, rfl, e1.out, e2.out⟩
set_option maxRecDepth 100000 in
set_option maxHeartbeats 8000000 in
theorem right_yes {W : World} {S : Nat → Prop} {u0 u1 u2 u3 u4 : Value} {x : Ct} (hu : CtAt W S u0 u1 u2 u3 u4 x) (hin : CtIn 225000000000000 x) (hm : May x) :
    Calls Try.prog 9 #[.agg #[u0, u1, u2, u3, u4]] W fun e w' => ∃ v0 v1 v2 v3 v4, e = .returned (.agg #[v0, v1, v2, v3, v4]) ∧ CtAt w' (fun k => W.heap.size ≤ k) v0 v1 v2 v3 v4 x ∧ Below W.heap.size W w' := by
  have C := fun w' (hB : Below W.heap.size W w') => rMay_any (hu.below hB) (hin.sm (by decide)) true (by simp [hm])
  have CC := fun w' (hB : Below W.heap.size W w') => rCopy_any (hu.below hB) hin
  obtain ⟨a0, c0, rfl, _⟩ := hu.cell.form
  obtain ⟨a1, c1, rfl, _⟩ := hu.stack.form
  obtain ⟨a2, c2, rfl, _⟩ := hu.queue.form
  obtain ⟨a3, c3, rfl, _⟩ := hu.set.form
  obtain ⟨a4, c4, rfl, _⟩ := hu.table.form
  have B0 := ((Below.refl W.heap.size W).alloc (Nat.le_refl _) (ctO (.slice a0 x.cell.length c0) (.slice a1 x.stack.length c1) (.slice a2 x.queue.length c2) (.slice a3 x.set.length c3) (.slice a4 x.table.length c4))).alloc (by simp) nil5
  have G0 : ((W.alloc (ctO (.slice a0 x.cell.length c0) (.slice a1 x.stack.length c1) (.slice a2 x.queue.length c2) (.slice a3 x.set.length c3) (.slice a4 x.table.length c4))).alloc nil5).heap[W.heap.size + 1]? = some nil5 := new_at _ nil5 _ (by simp)
  have G1 : ((W.alloc (ctO (.slice a0 x.cell.length c0) (.slice a1 x.stack.length c1) (.slice a2 x.queue.length c2) (.slice a3 x.set.length c3) (.slice a4 x.table.length c4))).alloc nil5).heap[W.heap.size]? = some (ctO (.slice a0 x.cell.length c0) (.slice a1 x.stack.length c1) (.slice a2 x.queue.length c2) (.slice a3 x.set.length c3) (.slice a4 x.table.length c4)) := old_at (new_at W _ _ rfl) _
  have BE := fun w1 (hB : Below (W.heap.size + 2) ((W.alloc (ctO (.slice a0 x.cell.length c0) (.slice a1 x.stack.length c1) (.slice a2 x.queue.length c2) (.slice a3 x.set.length c3) (.slice a4 x.table.length c4))).alloc nil5) w1) => (⟨B0.trans (hB.mono (by omega)), (hB.block (W.heap.size + 1) (by omega)).trans G0, (hB.block W.heap.size (by omega)).trans G1⟩ : Below W.heap.size W w1 ∧ w1.heap[W.heap.size + 1]? = some nil5 ∧ w1.heap[W.heap.size]? = some (ctO (.slice a0 x.cell.length c0) (.slice a1 x.stack.length c1) (.slice a2 x.queue.length c2) (.slice a3 x.set.length c3) (.slice a4 x.table.length c4)))
  clear hu G0 G1
  unfold nil5 ctO at B0
  unfold ctO at BE
  replace C := Mr.hid C
  replace CC := Mr.hid CC
  replace B0 := Mr.hid B0
  replace BE := Mr.hid BE
  replace hm := Mr.hid hm
  go_enter Try.func9, Try.ntmps9
  go_wp2_with (first | (go_at_call 23; refine (C.out _ B0.out).mono ?_; clear C; rintro e w1 ⟨rfl, hB1⟩; simp only [World.size_alloc] at hB1; obtain ⟨hE, hG, hH⟩ := BE.out w1 hB1; clear hB1 BE; obtain ⟨k0, k1, k2, k3, k4, kl⟩ := ctO_cells hG; obtain ⟨f0, f1, f2, f3, f4⟩ := ctO_thaw hG; obtain ⟨i0, i1, i2, i3, i4, il⟩ := ctO_cells hH; replace hE := Mr.hid hE; replace hG := Mr.hid hG; clear hH) | (go_at_call 19; refine (CC.out _ hE.out).mono ?_; clear CC; rintro e w2 ⟨v0, v1, v2, v3, v4, rfl, hv, hB2⟩; have hE := Mr.hid (hE.out.trans (hB2.mono hE.out.size)); have hG := (hB2.block _ kl).trans hG.out; clear k0 k1 k2 k3 k4 f0 f1 f2 f3 f4; obtain ⟨k0, k1, k2, k3, k4, kl2⟩ := ctO_cells hG; obtain ⟨f0, f1, f2, f3, f4⟩ := ctO_thaw hG; replace hG := Mr.hid hG; obtain ⟨z0, q0, rfl, _⟩ := hv.cell.form; obtain ⟨z1, q1, rfl, _⟩ := hv.stack.form; obtain ⟨z2, q2, rfl, _⟩ := hv.queue.form; obtain ⟨z3, q3, rfl, _⟩ := hv.set.form; obtain ⟨z4, q4, rfl, _⟩ := hv.table.form; have hv := hv.mono (T' := fun k => W.heap.size + 2 ≤ k) (fun k hk => Nat.le_trans kl hk); replace hv := Mr.hid hv; clear hB2))
  obtain ⟨e1, e2, e3⟩ := end5a (v0 := (.slice z0 x.cell.length q0)) (v1 := (.slice z1 x.stack.length q1)) (v2 := (.slice z2 x.queue.length q2)) (v3 := (.slice z3 x.set.length q3)) (v4 := (.slice z4 x.table.length q4)) hE.out (b := W.heap.size + 1) (by omega) hG.out (hv.out) (fun k hk => by omega)
  obtain ⟨d0, d1, d2, d3, d4, -⟩ := ctO_cells e3
  unfold set5 at e1 e2 d0 d1 d2 d3 d4
  replace e1 := Mr.hid e1
  replace e2 := Mr.hid e2
  clear e3 k0 k1 k2 k3 k4 f0 f1 f2 f3 f4
  refine bodyPost_ret (v := .agg #[.slice z0 x.cell.length q0, .slice z1 x.stack.length q1, .slice z2 x.queue.length q2, .slice z3 x.set.length q3, .slice z4 x.table.length q4]) (by simp [results, Try.results9, go_sem, d0, d1, d2, d3, d4]) rfl ?_
  exact ⟨_, _, _, _, _, rfl, e1.out, e2.out⟩
theorem may0 : May ct0 := may_plain (by decide) rfl rfl
/-- The contents, or empty ones. -/
theorem right_any {x : Ct} (hx : CtIn 140737488351232 x) : ∃ y, May y ∧ CtIn 140737488351232 y ∧ ∀ (W : World) (S : Nat → Prop) (u0 u1 u2 u3 u4 : Value), CtAt W S u0 u1 u2 u3 u4 x →
    Calls Try.prog 9 #[.agg #[u0, u1, u2, u3, u4]] W fun e w' => ∃ v0 v1 v2 v3 v4, e = .returned (.agg #[v0, v1, v2, v3, v4]) ∧ CtAt w' (fun k => W.heap.size ≤ k) v0 v1 v2 v3 v4 y ∧ Below W.heap.size W w' := by
  by_cases hm : May x
  · exact ⟨x, hm, hx, fun W S u0 u1 u2 u3 u4 hu => right_yes hu (hx.mono (by decide)) hm⟩
  · exact ⟨ct0, may0, ⟨by decide, by decide, by decide, by decide, by decide⟩, fun W S u0 u1 u2 u3 u4 hu => right_no hu (hx.mono (by decide)) hm⟩
end Go.Proofs.Ytegbcocbopgghab.Md
