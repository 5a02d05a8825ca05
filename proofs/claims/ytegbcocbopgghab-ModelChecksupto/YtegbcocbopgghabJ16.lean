import Derived.Test.YtegbcocbopgghabJ14
import Derived.Test.YtegbcocbopgghabJ15
import Derived.Test.YtegbcocbopgghabJ11
import Derived.Test.YtegbcocbopgghabJ06
import Derived.Test.YtegbcocbopgghabJ12
/-
  Package model: Part.
-/
namespace Go.Proofs.Ytegbcocbopgghab.Md
open Go.RowKit Mr
set_option linter.unusedVariables false
set_option linter.unusedSimpArgs false
set_option maxRecDepth 100000 in
set_option maxHeartbeats 8000000 in
theorem pPart_state {W : World} {S : Nat → Prop} {u0 u1 u2 u3 u4 : Value} {x : Ct} (hu : CtAt W S u0 u1 u2 u3 u4 x) (hin : CtIn 225000000000000 x) (hm : ¬ May x) (o : Int) :
    Calls Try.prog 16 #[.agg #[u0, u1, u2, u3, u4], .int .i64 o] W fun e w' => ∃ v0 v1 v2 v3 v4 lab, e = .returned (.tuple #[.agg #[v0, v1, v2, v3, v4], .int .i64 111]) ∧ CtOwn w' W.heap.size lab v0 v1 v2 v3 v4 ct0 ∧ Below W.heap.size W w' := by
  obtain ⟨a0, c0, rfl, _⟩ := hu.cell.form
  obtain ⟨a1, c1, rfl, _⟩ := hu.stack.form
  obtain ⟨a2, c2, rfl, _⟩ := hu.queue.form
  obtain ⟨a3, c3, rfl, _⟩ := hu.set.form
  obtain ⟨a4, c4, rfl, _⟩ := hu.table.form
  have CM := fun w' (hB : Below W.heap.size W w') => mMay_any (hu.below hB) (hin.sm (by decide)) false (by simp [hm])
  have CW := fun w' (hB : Below W.heap.size W w') => worldOf_any (hu.below hB) (hin.mono (by decide))
  obtain ⟨n, hn⟩ : ∃ n, n = W.heap.size := ⟨_, rfl⟩
  have hT0 := Tq.new W (.cells #[.slice a0 x.cell.length c0, .slice a1 x.stack.length c1, .slice a2 x.queue.length c2, .slice a3 x.set.length c3, .slice a4 x.table.length c4] 25 (0, 0)) (.cells #[.slice none 0 0, .slice none 0 0, .slice none 0 0, .slice none 0 0, .slice none 0 0] 25 (0, 0))
  rw [← hn] at hT0
  have hw0 : ((W.alloc (.cells #[.slice a0 x.cell.length c0, .slice a1 x.stack.length c1, .slice a2 x.queue.length c2, .slice a3 x.set.length c3, .slice a4 x.table.length c4] 25 (0, 0))).alloc (.cells #[.slice none 0 0, .slice none 0 0, .slice none 0 0, .slice none 0 0, .slice none 0 0] 25 (0, 0))).heap.size = n + 2 := by simp [hn]
  obtain ⟨y0, y1, y2, y3, y4, y5⟩ := ifs_cells hT0.2.1
  obtain ⟨z0, z1, z2, z3, z4, z5⟩ := ifs_cells hT0.2.2.1
  obtain ⟨f0, f1, f2, f3, f4⟩ := ifs_thaw hT0.2.2.1
  rw [hn] at y0 y1 y2 y3 y4 y5 z0 z1 z2 z3 z4 z5 f0 f1 f2 f3 f4
  replace CM := Mr.hid CM
  replace CW := Mr.hid CW
  replace hT0 := Mr.hid hT0
  replace hw0 := Mr.hid hw0
  replace hn := Mr.hid hn
  clear hu
  go_enter Try.func16, Try.ntmps16
  go_wp2_with (first | (go_at_call 13; refine (CM.out _ hT0.out.1).mono ?_; rintro e w1 ⟨rfl, hB1⟩; have hT1 := Mr.hid (hT0.out.below hB1); clear y0 y1 y2 y3 y4 y5 z0 z1 z2 z3 z4 z5 f0 f1 f2 f3 f4; obtain ⟨y0, y1, y2, y3, y4, y5⟩ := ifs_cells hT1.out.2.1; obtain ⟨z0, z1, z2, z3, z4, z5⟩ := ifs_cells hT1.out.2.2.1; obtain ⟨f0, f1, f2, f3, f4⟩ := ifs_thaw hT1.out.2.2.1; rw [hn.out] at y0 y1 y2 y3 y4 y5 z0 z1 z2 z3 z4 z5 f0 f1 f2 f3 f4))
  have hH := set5_five (.slice none 0 0) (.slice none 0 0) (.slice none 0 0) (.slice none 0 0) (.slice none 0 0) hT1.out.2.2.1
  rw [hn.out] at hH
  obtain ⟨x0, x1, x2, x3, x4, x5⟩ := ifs_cells hH
  have hE := set5_below (b := W.heap.size + 1) (.slice none 0 0) (.slice none 0 0) (.slice none 0 0) (.slice none 0 0) (.slice none 0 0) hT1.out.1 (by omega)
  unfold set5 at x0 x1 x2 x3 x4 x5 hE
  refine bodyPost_ret (v := .tuple #[.agg #[.slice none 0 0, .slice none 0 0, .slice none 0 0, .slice none 0 0, .slice none 0 0], .int .i64 111]) (by simp [results, Try.results16, go_sem, x0, x1, x2, x3, x4]) rfl ⟨_, _, _, _, _, _, rfl, ct0_own _ _, hE⟩
set_option maxRecDepth 100000 in
set_option maxHeartbeats 8000000 in
theorem pPart_low {W : World} {S : Nat → Prop} {u0 u1 u2 u3 u4 : Value} {x : Ct} (hu : CtAt W S u0 u1 u2 u3 u4 x) (hin : CtIn 225000000000000 x) (hm : May x) (o : Int) (ho : o < 1) :
    Calls Try.prog 16 #[.agg #[u0, u1, u2, u3, u4], .int .i64 o] W fun e w' => ∃ v0 v1 v2 v3 v4 lab, e = .returned (.tuple #[.agg #[v0, v1, v2, v3, v4], .int .i64 2]) ∧ CtOwn w' W.heap.size lab v0 v1 v2 v3 v4 ct0 ∧ Below W.heap.size W w' := by
  obtain ⟨a0, c0, rfl, _⟩ := hu.cell.form
  obtain ⟨a1, c1, rfl, _⟩ := hu.stack.form
  obtain ⟨a2, c2, rfl, _⟩ := hu.queue.form
  obtain ⟨a3, c3, rfl, _⟩ := hu.set.form
  obtain ⟨a4, c4, rfl, _⟩ := hu.table.form
  have CM := fun w' (hB : Below W.heap.size W w') => mMay_any (hu.below hB) (hin.sm (by decide)) true (by simp [hm])
  have CW := fun w' (hB : Below W.heap.size W w') => worldOf_any (hu.below hB) (hin.mono (by decide))
  obtain ⟨n, hn⟩ : ∃ n, n = W.heap.size := ⟨_, rfl⟩
  have hT0 := Tq.new W (.cells #[.slice a0 x.cell.length c0, .slice a1 x.stack.length c1, .slice a2 x.queue.length c2, .slice a3 x.set.length c3, .slice a4 x.table.length c4] 25 (0, 0)) (.cells #[.slice none 0 0, .slice none 0 0, .slice none 0 0, .slice none 0 0, .slice none 0 0] 25 (0, 0))
  rw [← hn] at hT0
  have hw0 : ((W.alloc (.cells #[.slice a0 x.cell.length c0, .slice a1 x.stack.length c1, .slice a2 x.queue.length c2, .slice a3 x.set.length c3, .slice a4 x.table.length c4] 25 (0, 0))).alloc (.cells #[.slice none 0 0, .slice none 0 0, .slice none 0 0, .slice none 0 0, .slice none 0 0] 25 (0, 0))).heap.size = n + 2 := by simp [hn]
  obtain ⟨y0, y1, y2, y3, y4, y5⟩ := ifs_cells hT0.2.1
  obtain ⟨z0, z1, z2, z3, z4, z5⟩ := ifs_cells hT0.2.2.1
  obtain ⟨f0, f1, f2, f3, f4⟩ := ifs_thaw hT0.2.2.1
  rw [hn] at y0 y1 y2 y3 y4 y5 z0 z1 z2 z3 z4 z5 f0 f1 f2 f3 f4
  replace CM := Mr.hid CM
  replace CW := Mr.hid CW
  replace hT0 := Mr.hid hT0
  replace hw0 := Mr.hid hw0
  replace hn := Mr.hid hn
  clear hu
  go_enter Try.func16, Try.ntmps16
  go_wp2_with (first | (go_at_call 13; refine (CM.out _ hT0.out.1).mono ?_; rintro e w1 ⟨rfl, hB1⟩; have hT1 := Mr.hid (hT0.out.below hB1); clear y0 y1 y2 y3 y4 y5 z0 z1 z2 z3 z4 z5 f0 f1 f2 f3 f4; obtain ⟨y0, y1, y2, y3, y4, y5⟩ := ifs_cells hT1.out.2.1; obtain ⟨z0, z1, z2, z3, z4, z5⟩ := ifs_cells hT1.out.2.2.1; obtain ⟨f0, f1, f2, f3, f4⟩ := ifs_thaw hT1.out.2.2.1; rw [hn.out] at y0 y1 y2 y3 y4 y5 z0 z1 z2 z3 z4 z5 f0 f1 f2 f3 f4))
  have hH := set5_five (.slice none 0 0) (.slice none 0 0) (.slice none 0 0) (.slice none 0 0) (.slice none 0 0) hT1.out.2.2.1
  rw [hn.out] at hH
  obtain ⟨x0, x1, x2, x3, x4, x5⟩ := ifs_cells hH
  have hE := set5_below (b := W.heap.size + 1) (.slice none 0 0) (.slice none 0 0) (.slice none 0 0) (.slice none 0 0) (.slice none 0 0) hT1.out.1 (by omega)
  unfold set5 at x0 x1 x2 x3 x4 x5 hE
  refine bodyPost_ret (v := .tuple #[.agg #[.slice none 0 0, .slice none 0 0, .slice none 0 0, .slice none 0 0, .slice none 0 0], .int .i64 2]) (by simp [results, Try.results16, go_sem, x0, x1, x2, x3, x4]) rfl ⟨_, _, _, _, _, _, rfl, ct0_own _ _, hE⟩
set_option maxRecDepth 100000 in
set_option maxHeartbeats 8000000 in
theorem pPart_high {W : World} {S : Nat → Prop} {u0 u1 u2 u3 u4 : Value} {x : Ct} (hu : CtAt W S u0 u1 u2 u3 u4 x) (hin : CtIn 225000000000000 x) (hm : May x) (o : Int) (ho : 5 < o) :
    Calls Try.prog 16 #[.agg #[u0, u1, u2, u3, u4], .int .i64 o] W fun e w' => ∃ v0 v1 v2 v3 v4 lab, e = .returned (.tuple #[.agg #[v0, v1, v2, v3, v4], .int .i64 2]) ∧ CtOwn w' W.heap.size lab v0 v1 v2 v3 v4 ct0 ∧ Below W.heap.size W w' := by
  obtain ⟨a0, c0, rfl, _⟩ := hu.cell.form
  obtain ⟨a1, c1, rfl, _⟩ := hu.stack.form
  obtain ⟨a2, c2, rfl, _⟩ := hu.queue.form
  obtain ⟨a3, c3, rfl, _⟩ := hu.set.form
  obtain ⟨a4, c4, rfl, _⟩ := hu.table.form
  have CM := fun w' (hB : Below W.heap.size W w') => mMay_any (hu.below hB) (hin.sm (by decide)) true (by simp [hm])
  have CW := fun w' (hB : Below W.heap.size W w') => worldOf_any (hu.below hB) (hin.mono (by decide))
  obtain ⟨n, hn⟩ : ∃ n, n = W.heap.size := ⟨_, rfl⟩
  have hT0 := Tq.new W (.cells #[.slice a0 x.cell.length c0, .slice a1 x.stack.length c1, .slice a2 x.queue.length c2, .slice a3 x.set.length c3, .slice a4 x.table.length c4] 25 (0, 0)) (.cells #[.slice none 0 0, .slice none 0 0, .slice none 0 0, .slice none 0 0, .slice none 0 0] 25 (0, 0))
  rw [← hn] at hT0
  have hw0 : ((W.alloc (.cells #[.slice a0 x.cell.length c0, .slice a1 x.stack.length c1, .slice a2 x.queue.length c2, .slice a3 x.set.length c3, .slice a4 x.table.length c4] 25 (0, 0))).alloc (.cells #[.slice none 0 0, .slice none 0 0, .slice none 0 0, .slice none 0 0, .slice none 0 0] 25 (0, 0))).heap.size = n + 2 := by simp [hn]
  obtain ⟨y0, y1, y2, y3, y4, y5⟩ := ifs_cells hT0.2.1
  obtain ⟨z0, z1, z2, z3, z4, z5⟩ := ifs_cells hT0.2.2.1
  obtain ⟨f0, f1, f2, f3, f4⟩ := ifs_thaw hT0.2.2.1
  rw [hn] at y0 y1 y2 y3 y4 y5 z0 z1 z2 z3 z4 z5 f0 f1 f2 f3 f4
  replace CM := Mr.hid CM
  replace CW := Mr.hid CW
  replace hT0 := Mr.hid hT0
  replace hw0 := Mr.hid hw0
  replace hn := Mr.hid hn
  clear hu
  go_enter Try.func16, Try.ntmps16
  go_wp2_with (first | (go_at_call 13; refine (CM.out _ hT0.out.1).mono ?_; rintro e w1 ⟨rfl, hB1⟩; have hT1 := Mr.hid (hT0.out.below hB1); clear y0 y1 y2 y3 y4 y5 z0 z1 z2 z3 z4 z5 f0 f1 f2 f3 f4; obtain ⟨y0, y1, y2, y3, y4, y5⟩ := ifs_cells hT1.out.2.1; obtain ⟨z0, z1, z2, z3, z4, z5⟩ := ifs_cells hT1.out.2.2.1; obtain ⟨f0, f1, f2, f3, f4⟩ := ifs_thaw hT1.out.2.2.1; rw [hn.out] at y0 y1 y2 y3 y4 y5 z0 z1 z2 z3 z4 z5 f0 f1 f2 f3 f4))
  have hH := set5_five (.slice none 0 0) (.slice none 0 0) (.slice none 0 0) (.slice none 0 0) (.slice none 0 0) hT1.out.2.2.1
  rw [hn.out] at hH
  obtain ⟨x0, x1, x2, x3, x4, x5⟩ := ifs_cells hH
  have hE := set5_below (b := W.heap.size + 1) (.slice none 0 0) (.slice none 0 0) (.slice none 0 0) (.slice none 0 0) (.slice none 0 0) hT1.out.1 (by omega)
  unfold set5 at x0 x1 x2 x3 x4 x5 hE
  refine bodyPost_ret (v := .tuple #[.agg #[.slice none 0 0, .slice none 0 0, .slice none 0 0, .slice none 0 0, .slice none 0 0], .int .i64 2]) (by simp [results, Try.results16, go_sem, x0, x1, x2, x3, x4]) rfl ⟨_, _, _, _, _, _, rfl, ct0_own _ _, hE⟩
set_option maxRecDepth 100000 in
set_option maxHeartbeats 8000000 in
theorem pPart_1 {W : World} {S : Nat → Prop} {u0 u1 u2 u3 u4 : Value} {x : Ct} (hu : CtAt W S u0 u1 u2 u3 u4 x) (hin : CtIn 225000000000000 x) (hm : May x) :
    Calls Try.prog 16 #[.agg #[u0, u1, u2, u3, u4], .int .i64 1] W fun e w' => ∃ v0 v1 v2 v3 v4 lab, e = .returned (.tuple #[.agg #[v0, v1, v2, v3, v4], .int .i64 0]) ∧ CtOwn w' W.heap.size lab v0 v1 v2 v3 v4 (prt x 1) ∧ Below W.heap.size W w' := by
  obtain ⟨a0, c0, rfl, _⟩ := hu.cell.form
  obtain ⟨a1, c1, rfl, _⟩ := hu.stack.form
  obtain ⟨a2, c2, rfl, _⟩ := hu.queue.form
  obtain ⟨a3, c3, rfl, _⟩ := hu.set.form
  obtain ⟨a4, c4, rfl, _⟩ := hu.table.form
  have CM := fun w' (hB : Below W.heap.size W w') => mMay_any (hu.below hB) (hin.sm (by decide)) true (by simp [hm])
  have CW := fun w' (hB : Below W.heap.size W w') => worldOf_any (hu.below hB) (hin.mono (by decide))
  obtain ⟨n, hn⟩ : ∃ n, n = W.heap.size := ⟨_, rfl⟩
  have hT0 := Tq.new W (.cells #[.slice a0 x.cell.length c0, .slice a1 x.stack.length c1, .slice a2 x.queue.length c2, .slice a3 x.set.length c3, .slice a4 x.table.length c4] 25 (0, 0)) (.cells #[.slice none 0 0, .slice none 0 0, .slice none 0 0, .slice none 0 0, .slice none 0 0] 25 (0, 0))
  rw [← hn] at hT0
  have hw0 : ((W.alloc (.cells #[.slice a0 x.cell.length c0, .slice a1 x.stack.length c1, .slice a2 x.queue.length c2, .slice a3 x.set.length c3, .slice a4 x.table.length c4] 25 (0, 0))).alloc (.cells #[.slice none 0 0, .slice none 0 0, .slice none 0 0, .slice none 0 0, .slice none 0 0] 25 (0, 0))).heap.size = n + 2 := by simp [hn]
  obtain ⟨y0, y1, y2, y3, y4, y5⟩ := ifs_cells hT0.2.1
  obtain ⟨z0, z1, z2, z3, z4, z5⟩ := ifs_cells hT0.2.2.1
  obtain ⟨f0, f1, f2, f3, f4⟩ := ifs_thaw hT0.2.2.1
  rw [hn] at y0 y1 y2 y3 y4 y5 z0 z1 z2 z3 z4 z5 f0 f1 f2 f3 f4
  replace CM := Mr.hid CM
  replace CW := Mr.hid CW
  replace hT0 := Mr.hid hT0
  replace hw0 := Mr.hid hw0
  replace hn := Mr.hid hn
  clear hu
  have hP := fun (w w' : World) (B : Nat) (lab : Nat → Nat) (g0 g1 g2 g3 g4 b : Nat) (hd : Wd w B lab g0 g1 g2 g3 g4 x) (hb : w.heap[b]? = some (ctO (.slice none 0 0) (.slice none 0 0) (.slice none 0 0) (.slice none 0 0) (.slice none 0 0))) (hl : b < B) => put_cell hd.cell hb (fun e => by have := hd.low b (by omega); omega) (hin.mono (B' := 225100000000000) (by decide)).cell
  unfold ctO at hP
  replace hP := Mr.hid hP
  go_enter Try.func16, Try.ntmps16
  go_upto_region 5 with (first | (go_at_call 13; refine (CM.out _ hT0.out.1).mono ?_; rintro e w1 ⟨rfl, hB1⟩; have hT1 := Mr.hid (hT0.out.below hB1); clear y0 y1 y2 y3 y4 y5 z0 z1 z2 z3 z4 z5 f0 f1 f2 f3 f4; obtain ⟨y0, y1, y2, y3, y4, y5⟩ := ifs_cells hT1.out.2.1; obtain ⟨z0, z1, z2, z3, z4, z5⟩ := ifs_cells hT1.out.2.2.1; obtain ⟨f0, f1, f2, f3, f4⟩ := ifs_thaw hT1.out.2.2.1; rw [hn.out] at y0 y1 y2 y3 y4 y5 z0 z1 z2 z3 z4 z5 f0 f1 f2 f3 f4))
  have hT2 := Mr.hid (hT1.out.below ((Below.refl w1.heap.size w1).alloc (Nat.le_refl _) (.cells #[.slice none 0 0, .slice none 0 0, .slice none 0 0, .slice none 0 0, .slice none 0 0] 25 (0, 0))))
  have hb2 := Mr.hid (heap_alloc_new w1 (.cells #[.slice none 0 0, .slice none 0 0, .slice none 0 0, .slice none 0 0, .slice none 0 0] 25 (0, 0)))
  clear y0 y1 y2 y3 y4 y5 z0 z1 z2 z3 z4 z5 f0 f1 f2 f3 f4
  obtain ⟨y0, y1, y2, y3, y4, y5⟩ := ifs_cells hT2.out.2.1
  rw [hn.out] at y0 y1 y2 y3 y4 y5
  go_upto_region 7 with (first | (go_at_call 28; refine (CW.out _ hT2.out.1).mono ?_; rintro e w3 ⟨g0, g1, g2, g3, g4, lab, rfl, hD, hB3⟩; have hT3 := Mr.hid (hT2.out.below hB3); have hb3 := Mr.hid ((hB3.block w1.heap.size (by simp)).trans hb2.out); have ix := ix_0 g0 g1 g2 g3 g4; unfold wdV) | (go_at_call 38; refine (hP.out _ w3 _ _ _ _ _ _ _ _ hD hb3.out (by simp)).mono ?_; rintro e w4 ⟨rfl, v, hO, hS4, hF4⟩; obtain ⟨av, cv, rfl, _, _⟩ := hO.form))
  have hO' := Mr.hid hO
  replace hF4 := Mr.hid hF4
  have hR4 := hT3.out.res hF4.out (by have := hT1.out.2.2.2.1; omega)
  have hn1 : w1.heap.size ≠ W.heap.size + 1 := by have := hT1.out.2.2.2.1; have := hn.out; omega
  clear hO y0 y1 y2 y3 y4 y5
  obtain ⟨y0, y1, y2, y3, y4, y5⟩ := ifs_cells hS4
  obtain ⟨z0, z1, z2, z3, z4, z5⟩ := ifs_cells hR4
  obtain ⟨f0, f1, f2, f3, f4⟩ := ifs_thaw hR4
  have hH := set5_five (.slice av x.cell.length cv) (.slice none 0 0) (.slice none 0 0) (.slice none 0 0) (.slice none 0 0) hR4
  rw [hn.out] at hH z0 z1 z2 z3 z4 z5 f0 f1 f2 f3 f4
  obtain ⟨x0, x1, x2, x3, x4, x5⟩ := ifs_cells hH
  have hTB : Below W.heap.size W w4 := hT3.out.1.trans (hF4.out.below (n := W.heap.size) (fun k e => by have := hT1.out.1.size; omega) hT3.out.1.size)
  have hE := set5_below (b := W.heap.size + 1) (.slice av x.cell.length cv) (.slice none 0 0) (.slice none 0 0) (.slice none 0 0) (.slice none 0 0) hTB (by omega)
  have hD5 : CtOwn (set5 w4 (W.heap.size + 1) (.slice av x.cell.length cv) (.slice none 0 0) (.slice none 0 0) (.slice none 0 0) (.slice none 0 0)) W.heap.size (labx lab w3.heap.size 0) (.slice av x.cell.length cv) (.slice none 0 0) (.slice none 0 0) (.slice none 0 0) (.slice none 0 0) (prt x 1) := by
    have hz := hD.low
    have q1 := hT1.out.1.size
    have q2 := hT3.out.1.size
    have q3 := hT3.out.2.2.2.1
    have q4 := hn.out
    refine ⟨fun k hk => ?_, ?_, Own.zero _ _ _ _ _, Own.zero _ _ _ _ _, Own.zero _ _ _ _ _, Own.zero _ _ _ _ _⟩
    · rcases labx_lt hk with h | h
      · have := hz k (by omega); simp at this; omega
      · omega
    · refine hO'.out.kept2 (fun k hk hl => set5_far _ _ _ _ _ _ _ k ?_) (fun k hk hl => labx_in (hk.imp id (fun h => h.1)))
      rcases hk with h | h
      · have := hz k (by omega); have := hT1.out.2.2.2.1; simp at *; omega
      · omega
  unfold set5 at x0 x1 x2 x3 x4 x5 hE hD5
  replace hE := Mr.hid hE
  replace hD5 := Mr.hid hD5
  replace hD := Mr.hid hD
  clear hR4 hH hTB hS4
  go_wp2
  refine bodyPost_ret (v := .tuple #[.agg #[.slice av x.cell.length cv, .slice none 0 0, .slice none 0 0, .slice none 0 0, .slice none 0 0], .int .i64 0]) (by simp [results, Try.results16, go_sem, x0, x1, x2, x3, x4]) rfl ⟨_, _, _, _, _, _, rfl, hD5.out, hE.out⟩
set_option maxRecDepth 100000 in
set_option maxHeartbeats 8000000 in
theorem pPart_2 {W : World} {S : Nat → Prop} {u0 u1 u2 u3 u4 : Value} {x : Ct} (hu : CtAt W S u0 u1 u2 u3 u4 x) (hin : CtIn 225000000000000 x) (hm : May x) :
    Calls Try.prog 16 #[.agg #[u0, u1, u2, u3, u4], .int .i64 2] W fun e w' => ∃ v0 v1 v2 v3 v4 lab, e = .returned (.tuple #[.agg #[v0, v1, v2, v3, v4], .int .i64 0]) ∧ CtOwn w' W.heap.size lab v0 v1 v2 v3 v4 (prt x 2) ∧ Below W.heap.size W w' := by
  obtain ⟨a0, c0, rfl, _⟩ := hu.cell.form
  obtain ⟨a1, c1, rfl, _⟩ := hu.stack.form
  obtain ⟨a2, c2, rfl, _⟩ := hu.queue.form
  obtain ⟨a3, c3, rfl, _⟩ := hu.set.form
  obtain ⟨a4, c4, rfl, _⟩ := hu.table.form
  have CM := fun w' (hB : Below W.heap.size W w') => mMay_any (hu.below hB) (hin.sm (by decide)) true (by simp [hm])
  have CW := fun w' (hB : Below W.heap.size W w') => worldOf_any (hu.below hB) (hin.mono (by decide))
  obtain ⟨n, hn⟩ : ∃ n, n = W.heap.size := ⟨_, rfl⟩
  have hT0 := Tq.new W (.cells #[.slice a0 x.cell.length c0, .slice a1 x.stack.length c1, .slice a2 x.queue.length c2, .slice a3 x.set.length c3, .slice a4 x.table.length c4] 25 (0, 0)) (.cells #[.slice none 0 0, .slice none 0 0, .slice none 0 0, .slice none 0 0, .slice none 0 0] 25 (0, 0))
  rw [← hn] at hT0
  have hw0 : ((W.alloc (.cells #[.slice a0 x.cell.length c0, .slice a1 x.stack.length c1, .slice a2 x.queue.length c2, .slice a3 x.set.length c3, .slice a4 x.table.length c4] 25 (0, 0))).alloc (.cells #[.slice none 0 0, .slice none 0 0, .slice none 0 0, .slice none 0 0, .slice none 0 0] 25 (0, 0))).heap.size = n + 2 := by simp [hn]
  obtain ⟨y0, y1, y2, y3, y4, y5⟩ := ifs_cells hT0.2.1
  obtain ⟨z0, z1, z2, z3, z4, z5⟩ := ifs_cells hT0.2.2.1
  obtain ⟨f0, f1, f2, f3, f4⟩ := ifs_thaw hT0.2.2.1
  rw [hn] at y0 y1 y2 y3 y4 y5 z0 z1 z2 z3 z4 z5 f0 f1 f2 f3 f4
  replace CM := Mr.hid CM
  replace CW := Mr.hid CW
  replace hT0 := Mr.hid hT0
  replace hw0 := Mr.hid hw0
  replace hn := Mr.hid hn
  clear hu
  have hP := fun (w w' : World) (B : Nat) (lab : Nat → Nat) (g0 g1 g2 g3 g4 b : Nat) (hd : Wd w B lab g0 g1 g2 g3 g4 x) (hb : w.heap[b]? = some (ctO (.slice none 0 0) (.slice none 0 0) (.slice none 0 0) (.slice none 0 0) (.slice none 0 0))) (hl : b < B) => put_stack hd.stack hb (fun e => by have := hd.low b (by omega); omega) (hin.mono (B' := 225100000000000) (by decide)).stack
  unfold ctO at hP
  replace hP := Mr.hid hP
  go_enter Try.func16, Try.ntmps16
  go_upto_region 5 with (first | (go_at_call 13; refine (CM.out _ hT0.out.1).mono ?_; rintro e w1 ⟨rfl, hB1⟩; have hT1 := Mr.hid (hT0.out.below hB1); clear y0 y1 y2 y3 y4 y5 z0 z1 z2 z3 z4 z5 f0 f1 f2 f3 f4; obtain ⟨y0, y1, y2, y3, y4, y5⟩ := ifs_cells hT1.out.2.1; obtain ⟨z0, z1, z2, z3, z4, z5⟩ := ifs_cells hT1.out.2.2.1; obtain ⟨f0, f1, f2, f3, f4⟩ := ifs_thaw hT1.out.2.2.1; rw [hn.out] at y0 y1 y2 y3 y4 y5 z0 z1 z2 z3 z4 z5 f0 f1 f2 f3 f4))
  have hT2 := Mr.hid (hT1.out.below ((Below.refl w1.heap.size w1).alloc (Nat.le_refl _) (.cells #[.slice none 0 0, .slice none 0 0, .slice none 0 0, .slice none 0 0, .slice none 0 0] 25 (0, 0))))
  have hb2 := Mr.hid (heap_alloc_new w1 (.cells #[.slice none 0 0, .slice none 0 0, .slice none 0 0, .slice none 0 0, .slice none 0 0] 25 (0, 0)))
  clear y0 y1 y2 y3 y4 y5 z0 z1 z2 z3 z4 z5 f0 f1 f2 f3 f4
  obtain ⟨y0, y1, y2, y3, y4, y5⟩ := ifs_cells hT2.out.2.1
  rw [hn.out] at y0 y1 y2 y3 y4 y5
  go_upto_region 7 with (first | (go_at_call 28; refine (CW.out _ hT2.out.1).mono ?_; rintro e w3 ⟨g0, g1, g2, g3, g4, lab, rfl, hD, hB3⟩; have hT3 := Mr.hid (hT2.out.below hB3); have hb3 := Mr.hid ((hB3.block w1.heap.size (by simp)).trans hb2.out); have ix := ix_1 g0 g1 g2 g3 g4; unfold wdV) | (go_at_call 38; refine (hP.out _ w3 _ _ _ _ _ _ _ _ hD hb3.out (by simp)).mono ?_; rintro e w4 ⟨rfl, v, hO, hS4, hF4⟩; obtain ⟨av, cv, rfl, _, _⟩ := hO.form))
  have hO' := Mr.hid hO
  replace hF4 := Mr.hid hF4
  have hR4 := hT3.out.res hF4.out (by have := hT1.out.2.2.2.1; omega)
  have hn1 : w1.heap.size ≠ W.heap.size + 1 := by have := hT1.out.2.2.2.1; have := hn.out; omega
  clear hO y0 y1 y2 y3 y4 y5
  obtain ⟨y0, y1, y2, y3, y4, y5⟩ := ifs_cells hS4
  obtain ⟨z0, z1, z2, z3, z4, z5⟩ := ifs_cells hR4
  obtain ⟨f0, f1, f2, f3, f4⟩ := ifs_thaw hR4
  have hH := set5_five (.slice none 0 0) (.slice av x.stack.length cv) (.slice none 0 0) (.slice none 0 0) (.slice none 0 0) hR4
  rw [hn.out] at hH z0 z1 z2 z3 z4 z5 f0 f1 f2 f3 f4
  obtain ⟨x0, x1, x2, x3, x4, x5⟩ := ifs_cells hH
  have hTB : Below W.heap.size W w4 := hT3.out.1.trans (hF4.out.below (n := W.heap.size) (fun k e => by have := hT1.out.1.size; omega) hT3.out.1.size)
  have hE := set5_below (b := W.heap.size + 1) (.slice none 0 0) (.slice av x.stack.length cv) (.slice none 0 0) (.slice none 0 0) (.slice none 0 0) hTB (by omega)
  have hD5 : CtOwn (set5 w4 (W.heap.size + 1) (.slice none 0 0) (.slice av x.stack.length cv) (.slice none 0 0) (.slice none 0 0) (.slice none 0 0)) W.heap.size (labx lab w3.heap.size 1) (.slice none 0 0) (.slice av x.stack.length cv) (.slice none 0 0) (.slice none 0 0) (.slice none 0 0) (prt x 2) := by
    have hz := hD.low
    have q1 := hT1.out.1.size
    have q2 := hT3.out.1.size
    have q3 := hT3.out.2.2.2.1
    have q4 := hn.out
    refine ⟨fun k hk => ?_, Own.zero _ _ _ _ _, ?_, Own.zero _ _ _ _ _, Own.zero _ _ _ _ _, Own.zero _ _ _ _ _⟩
    · rcases labx_lt hk with h | h
      · have := hz k (by omega); simp at this; omega
      · omega
    · refine hO'.out.kept2 (fun k hk hl => set5_far _ _ _ _ _ _ _ k ?_) (fun k hk hl => labx_in (hk.imp id (fun h => h.1)))
      rcases hk with h | h
      · have := hz k (by omega); have := hT1.out.2.2.2.1; simp at *; omega
      · omega
  unfold set5 at x0 x1 x2 x3 x4 x5 hE hD5
  replace hE := Mr.hid hE
  replace hD5 := Mr.hid hD5
  replace hD := Mr.hid hD
  clear hR4 hH hTB hS4
  go_wp2
  refine bodyPost_ret (v := .tuple #[.agg #[.slice none 0 0, .slice av x.stack.length cv, .slice none 0 0, .slice none 0 0, .slice none 0 0], .int .i64 0]) (by simp [results, Try.results16, go_sem, x0, x1, x2, x3, x4]) rfl ⟨_, _, _, _, _, _, rfl, hD5.out, hE.out⟩
set_option maxRecDepth 100000 in
set_option maxHeartbeats 8000000 in
theorem pPart_3 {W : World} {S : Nat → Prop} {u0 u1 u2 u3 u4 : Value} {x : Ct} (hu : CtAt W S u0 u1 u2 u3 u4 x) (hin : CtIn 225000000000000 x) (hm : May x) :
    Calls Try.prog 16 #[.agg #[u0, u1, u2, u3, u4], .int .i64 3] W fun e w' => ∃ v0 v1 v2 v3 v4 lab, e = .returned (.tuple #[.agg #[v0, v1, v2, v3, v4], .int .i64 0]) ∧ CtOwn w' W.heap.size lab v0 v1 v2 v3 v4 (prt x 3) ∧ Below W.heap.size W w' := by
  obtain ⟨a0, c0, rfl, _⟩ := hu.cell.form
  obtain ⟨a1, c1, rfl, _⟩ := hu.stack.form
  obtain ⟨a2, c2, rfl, _⟩ := hu.queue.form
  obtain ⟨a3, c3, rfl, _⟩ := hu.set.form
  obtain ⟨a4, c4, rfl, _⟩ := hu.table.form
  have CM := fun w' (hB : Below W.heap.size W w') => mMay_any (hu.below hB) (hin.sm (by decide)) true (by simp [hm])
  have CW := fun w' (hB : Below W.heap.size W w') => worldOf_any (hu.below hB) (hin.mono (by decide))
  obtain ⟨n, hn⟩ : ∃ n, n = W.heap.size := ⟨_, rfl⟩
  have hT0 := Tq.new W (.cells #[.slice a0 x.cell.length c0, .slice a1 x.stack.length c1, .slice a2 x.queue.length c2, .slice a3 x.set.length c3, .slice a4 x.table.length c4] 25 (0, 0)) (.cells #[.slice none 0 0, .slice none 0 0, .slice none 0 0, .slice none 0 0, .slice none 0 0] 25 (0, 0))
  rw [← hn] at hT0
  have hw0 : ((W.alloc (.cells #[.slice a0 x.cell.length c0, .slice a1 x.stack.length c1, .slice a2 x.queue.length c2, .slice a3 x.set.length c3, .slice a4 x.table.length c4] 25 (0, 0))).alloc (.cells #[.slice none 0 0, .slice none 0 0, .slice none 0 0, .slice none 0 0, .slice none 0 0] 25 (0, 0))).heap.size = n + 2 := by simp [hn]
  obtain ⟨y0, y1, y2, y3, y4, y5⟩ := ifs_cells hT0.2.1
  obtain ⟨z0, z1, z2, z3, z4, z5⟩ := ifs_cells hT0.2.2.1
  obtain ⟨f0, f1, f2, f3, f4⟩ := ifs_thaw hT0.2.2.1
  rw [hn] at y0 y1 y2 y3 y4 y5 z0 z1 z2 z3 z4 z5 f0 f1 f2 f3 f4
  replace CM := Mr.hid CM
  replace CW := Mr.hid CW
  replace hT0 := Mr.hid hT0
  replace hw0 := Mr.hid hw0
  replace hn := Mr.hid hn
  clear hu
  have hP := fun (w w' : World) (B : Nat) (lab : Nat → Nat) (g0 g1 g2 g3 g4 b : Nat) (hd : Wd w B lab g0 g1 g2 g3 g4 x) (hb : w.heap[b]? = some (ctO (.slice none 0 0) (.slice none 0 0) (.slice none 0 0) (.slice none 0 0) (.slice none 0 0))) (hl : b < B) => put_queue hd.queue hb (fun e => by have := hd.low b (by omega); omega) (hin.mono (B' := 225100000000000) (by decide)).queue
  unfold ctO at hP
  replace hP := Mr.hid hP
  go_enter Try.func16, Try.ntmps16
  go_upto_region 5 with (first | (go_at_call 13; refine (CM.out _ hT0.out.1).mono ?_; rintro e w1 ⟨rfl, hB1⟩; have hT1 := Mr.hid (hT0.out.below hB1); clear y0 y1 y2 y3 y4 y5 z0 z1 z2 z3 z4 z5 f0 f1 f2 f3 f4; obtain ⟨y0, y1, y2, y3, y4, y5⟩ := ifs_cells hT1.out.2.1; obtain ⟨z0, z1, z2, z3, z4, z5⟩ := ifs_cells hT1.out.2.2.1; obtain ⟨f0, f1, f2, f3, f4⟩ := ifs_thaw hT1.out.2.2.1; rw [hn.out] at y0 y1 y2 y3 y4 y5 z0 z1 z2 z3 z4 z5 f0 f1 f2 f3 f4))
  have hT2 := Mr.hid (hT1.out.below ((Below.refl w1.heap.size w1).alloc (Nat.le_refl _) (.cells #[.slice none 0 0, .slice none 0 0, .slice none 0 0, .slice none 0 0, .slice none 0 0] 25 (0, 0))))
  have hb2 := Mr.hid (heap_alloc_new w1 (.cells #[.slice none 0 0, .slice none 0 0, .slice none 0 0, .slice none 0 0, .slice none 0 0] 25 (0, 0)))
  clear y0 y1 y2 y3 y4 y5 z0 z1 z2 z3 z4 z5 f0 f1 f2 f3 f4
  obtain ⟨y0, y1, y2, y3, y4, y5⟩ := ifs_cells hT2.out.2.1
  rw [hn.out] at y0 y1 y2 y3 y4 y5
  go_upto_region 7 with (first | (go_at_call 28; refine (CW.out _ hT2.out.1).mono ?_; rintro e w3 ⟨g0, g1, g2, g3, g4, lab, rfl, hD, hB3⟩; have hT3 := Mr.hid (hT2.out.below hB3); have hb3 := Mr.hid ((hB3.block w1.heap.size (by simp)).trans hb2.out); have ix := ix_2 g0 g1 g2 g3 g4; unfold wdV) | (go_at_call 38; refine (hP.out _ w3 _ _ _ _ _ _ _ _ hD hb3.out (by simp)).mono ?_; rintro e w4 ⟨rfl, v, hO, hS4, hF4⟩; obtain ⟨av, cv, rfl, _, _⟩ := hO.form))
  have hO' := Mr.hid hO
  replace hF4 := Mr.hid hF4
  have hR4 := hT3.out.res hF4.out (by have := hT1.out.2.2.2.1; omega)
  have hn1 : w1.heap.size ≠ W.heap.size + 1 := by have := hT1.out.2.2.2.1; have := hn.out; omega
  clear hO y0 y1 y2 y3 y4 y5
  obtain ⟨y0, y1, y2, y3, y4, y5⟩ := ifs_cells hS4
  obtain ⟨z0, z1, z2, z3, z4, z5⟩ := ifs_cells hR4
  obtain ⟨f0, f1, f2, f3, f4⟩ := ifs_thaw hR4
  have hH := set5_five (.slice none 0 0) (.slice none 0 0) (.slice av x.queue.length cv) (.slice none 0 0) (.slice none 0 0) hR4
  rw [hn.out] at hH z0 z1 z2 z3 z4 z5 f0 f1 f2 f3 f4
  obtain ⟨x0, x1, x2, x3, x4, x5⟩ := ifs_cells hH
  have hTB : Below W.heap.size W w4 := hT3.out.1.trans (hF4.out.below (n := W.heap.size) (fun k e => by have := hT1.out.1.size; omega) hT3.out.1.size)
  have hE := set5_below (b := W.heap.size + 1) (.slice none 0 0) (.slice none 0 0) (.slice av x.queue.length cv) (.slice none 0 0) (.slice none 0 0) hTB (by omega)
  have hD5 : CtOwn (set5 w4 (W.heap.size + 1) (.slice none 0 0) (.slice none 0 0) (.slice av x.queue.length cv) (.slice none 0 0) (.slice none 0 0)) W.heap.size (labx lab w3.heap.size 2) (.slice none 0 0) (.slice none 0 0) (.slice av x.queue.length cv) (.slice none 0 0) (.slice none 0 0) (prt x 3) := by
    have hz := hD.low
    have q1 := hT1.out.1.size
    have q2 := hT3.out.1.size
    have q3 := hT3.out.2.2.2.1
    have q4 := hn.out
    refine ⟨fun k hk => ?_, Own.zero _ _ _ _ _, Own.zero _ _ _ _ _, ?_, Own.zero _ _ _ _ _, Own.zero _ _ _ _ _⟩
    · rcases labx_lt hk with h | h
      · have := hz k (by omega); simp at this; omega
      · omega
    · refine hO'.out.kept2 (fun k hk hl => set5_far _ _ _ _ _ _ _ k ?_) (fun k hk hl => labx_in (hk.imp id (fun h => h.1)))
      rcases hk with h | h
      · have := hz k (by omega); have := hT1.out.2.2.2.1; simp at *; omega
      · omega
  unfold set5 at x0 x1 x2 x3 x4 x5 hE hD5
  replace hE := Mr.hid hE
  replace hD5 := Mr.hid hD5
  replace hD := Mr.hid hD
  clear hR4 hH hTB hS4
  go_wp2
  refine bodyPost_ret (v := .tuple #[.agg #[.slice none 0 0, .slice none 0 0, .slice av x.queue.length cv, .slice none 0 0, .slice none 0 0], .int .i64 0]) (by simp [results, Try.results16, go_sem, x0, x1, x2, x3, x4]) rfl ⟨_, _, _, _, _, _, rfl, hD5.out, hE.out⟩
set_option maxRecDepth 100000 in
set_option maxHeartbeats 8000000 in
theorem pPart_4 {W : World} {S : Nat → Prop} {u0 u1 u2 u3 u4 : Value} {x : Ct} (hu : CtAt W S u0 u1 u2 u3 u4 x) (hin : CtIn 225000000000000 x) (hm : May x) :
    Calls Try.prog 16 #[.agg #[u0, u1, u2, u3, u4], .int .i64 4] W fun e w' => ∃ v0 v1 v2 v3 v4 lab, e = .returned (.tuple #[.agg #[v0, v1, v2, v3, v4], .int .i64 0]) ∧ CtOwn w' W.heap.size lab v0 v1 v2 v3 v4 (prt x 4) ∧ Below W.heap.size W w' := by
  obtain ⟨a0, c0, rfl, _⟩ := hu.cell.form
  obtain ⟨a1, c1, rfl, _⟩ := hu.stack.form
  obtain ⟨a2, c2, rfl, _⟩ := hu.queue.form
  obtain ⟨a3, c3, rfl, _⟩ := hu.set.form
  obtain ⟨a4, c4, rfl, _⟩ := hu.table.form
  have CM := fun w' (hB : Below W.heap.size W w') => mMay_any (hu.below hB) (hin.sm (by decide)) true (by simp [hm])
  have CW := fun w' (hB : Below W.heap.size W w') => worldOf_any (hu.below hB) (hin.mono (by decide))
  obtain ⟨n, hn⟩ : ∃ n, n = W.heap.size := ⟨_, rfl⟩
  have hT0 := Tq.new W (.cells #[.slice a0 x.cell.length c0, .slice a1 x.stack.length c1, .slice a2 x.queue.length c2, .slice a3 x.set.length c3, .slice a4 x.table.length c4] 25 (0, 0)) (.cells #[.slice none 0 0, .slice none 0 0, .slice none 0 0, .slice none 0 0, .slice none 0 0] 25 (0, 0))
  rw [← hn] at hT0
  have hw0 : ((W.alloc (.cells #[.slice a0 x.cell.length c0, .slice a1 x.stack.length c1, .slice a2 x.queue.length c2, .slice a3 x.set.length c3, .slice a4 x.table.length c4] 25 (0, 0))).alloc (.cells #[.slice none 0 0, .slice none 0 0, .slice none 0 0, .slice none 0 0, .slice none 0 0] 25 (0, 0))).heap.size = n + 2 := by simp [hn]
  obtain ⟨y0, y1, y2, y3, y4, y5⟩ := ifs_cells hT0.2.1
  obtain ⟨z0, z1, z2, z3, z4, z5⟩ := ifs_cells hT0.2.2.1
  obtain ⟨f0, f1, f2, f3, f4⟩ := ifs_thaw hT0.2.2.1
  rw [hn] at y0 y1 y2 y3 y4 y5 z0 z1 z2 z3 z4 z5 f0 f1 f2 f3 f4
  replace CM := Mr.hid CM
  replace CW := Mr.hid CW
  replace hT0 := Mr.hid hT0
  replace hw0 := Mr.hid hw0
  replace hn := Mr.hid hn
  clear hu
  have hP := fun (w w' : World) (B : Nat) (lab : Nat → Nat) (g0 g1 g2 g3 g4 b : Nat) (hd : Wd w B lab g0 g1 g2 g3 g4 x) (hb : w.heap[b]? = some (ctO (.slice none 0 0) (.slice none 0 0) (.slice none 0 0) (.slice none 0 0) (.slice none 0 0))) (hl : b < B) => put_set hd.set hb (fun e => by have := hd.low b (by omega); omega) (hin.mono (B' := 225100000000000) (by decide)).set
  unfold ctO at hP
  replace hP := Mr.hid hP
  go_enter Try.func16, Try.ntmps16
  go_upto_region 5 with (first | (go_at_call 13; refine (CM.out _ hT0.out.1).mono ?_; rintro e w1 ⟨rfl, hB1⟩; have hT1 := Mr.hid (hT0.out.below hB1); clear y0 y1 y2 y3 y4 y5 z0 z1 z2 z3 z4 z5 f0 f1 f2 f3 f4; obtain ⟨y0, y1, y2, y3, y4, y5⟩ := ifs_cells hT1.out.2.1; obtain ⟨z0, z1, z2, z3, z4, z5⟩ := ifs_cells hT1.out.2.2.1; obtain ⟨f0, f1, f2, f3, f4⟩ := ifs_thaw hT1.out.2.2.1; rw [hn.out] at y0 y1 y2 y3 y4 y5 z0 z1 z2 z3 z4 z5 f0 f1 f2 f3 f4))
  have hT2 := Mr.hid (hT1.out.below ((Below.refl w1.heap.size w1).alloc (Nat.le_refl _) (.cells #[.slice none 0 0, .slice none 0 0, .slice none 0 0, .slice none 0 0, .slice none 0 0] 25 (0, 0))))
  have hb2 := Mr.hid (heap_alloc_new w1 (.cells #[.slice none 0 0, .slice none 0 0, .slice none 0 0, .slice none 0 0, .slice none 0 0] 25 (0, 0)))
  clear y0 y1 y2 y3 y4 y5 z0 z1 z2 z3 z4 z5 f0 f1 f2 f3 f4
  obtain ⟨y0, y1, y2, y3, y4, y5⟩ := ifs_cells hT2.out.2.1
  rw [hn.out] at y0 y1 y2 y3 y4 y5
  go_upto_region 7 with (first | (go_at_call 28; refine (CW.out _ hT2.out.1).mono ?_; rintro e w3 ⟨g0, g1, g2, g3, g4, lab, rfl, hD, hB3⟩; have hT3 := Mr.hid (hT2.out.below hB3); have hb3 := Mr.hid ((hB3.block w1.heap.size (by simp)).trans hb2.out); have ix := ix_3 g0 g1 g2 g3 g4; unfold wdV) | (go_at_call 38; refine (hP.out _ w3 _ _ _ _ _ _ _ _ hD hb3.out (by simp)).mono ?_; rintro e w4 ⟨rfl, v, hO, hS4, hF4⟩; obtain ⟨av, cv, rfl, _, _⟩ := hO.form))
  have hO' := Mr.hid hO
  replace hF4 := Mr.hid hF4
  have hR4 := hT3.out.res hF4.out (by have := hT1.out.2.2.2.1; omega)
  have hn1 : w1.heap.size ≠ W.heap.size + 1 := by have := hT1.out.2.2.2.1; have := hn.out; omega
  clear hO y0 y1 y2 y3 y4 y5
  obtain ⟨y0, y1, y2, y3, y4, y5⟩ := ifs_cells hS4
  obtain ⟨z0, z1, z2, z3, z4, z5⟩ := ifs_cells hR4
  obtain ⟨f0, f1, f2, f3, f4⟩ := ifs_thaw hR4
  have hH := set5_five (.slice none 0 0) (.slice none 0 0) (.slice none 0 0) (.slice av x.set.length cv) (.slice none 0 0) hR4
  rw [hn.out] at hH z0 z1 z2 z3 z4 z5 f0 f1 f2 f3 f4
  obtain ⟨x0, x1, x2, x3, x4, x5⟩ := ifs_cells hH
  have hTB : Below W.heap.size W w4 := hT3.out.1.trans (hF4.out.below (n := W.heap.size) (fun k e => by have := hT1.out.1.size; omega) hT3.out.1.size)
  have hE := set5_below (b := W.heap.size + 1) (.slice none 0 0) (.slice none 0 0) (.slice none 0 0) (.slice av x.set.length cv) (.slice none 0 0) hTB (by omega)
  have hD5 : CtOwn (set5 w4 (W.heap.size + 1) (.slice none 0 0) (.slice none 0 0) (.slice none 0 0) (.slice av x.set.length cv) (.slice none 0 0)) W.heap.size (labx lab w3.heap.size 3) (.slice none 0 0) (.slice none 0 0) (.slice none 0 0) (.slice av x.set.length cv) (.slice none 0 0) (prt x 4) := by
    have hz := hD.low
    have q1 := hT1.out.1.size
    have q2 := hT3.out.1.size
    have q3 := hT3.out.2.2.2.1
    have q4 := hn.out
    refine ⟨fun k hk => ?_, Own.zero _ _ _ _ _, Own.zero _ _ _ _ _, Own.zero _ _ _ _ _, ?_, Own.zero _ _ _ _ _⟩
    · rcases labx_lt hk with h | h
      · have := hz k (by omega); simp at this; omega
      · omega
    · refine hO'.out.kept2 (fun k hk hl => set5_far _ _ _ _ _ _ _ k ?_) (fun k hk hl => labx_in (hk.imp id (fun h => h.1)))
      rcases hk with h | h
      · have := hz k (by omega); have := hT1.out.2.2.2.1; simp at *; omega
      · omega
  unfold set5 at x0 x1 x2 x3 x4 x5 hE hD5
  replace hE := Mr.hid hE
  replace hD5 := Mr.hid hD5
  replace hD := Mr.hid hD
  clear hR4 hH hTB hS4
  go_wp2
  refine bodyPost_ret (v := .tuple #[.agg #[.slice none 0 0, .slice none 0 0, .slice none 0 0, .slice av x.set.length cv, .slice none 0 0], .int .i64 0]) (by simp [results, Try.results16, go_sem, x0, x1, x2, x3, x4]) rfl ⟨_, _, _, _, _, _, rfl, hD5.out, hE.out⟩
set_option maxRecDepth 100000 in
set_option maxHeartbeats 8000000 in
theorem pPart_5 {W : World} {S : Nat → Prop} {u0 u1 u2 u3 u4 : Value} {x : Ct} (hu : CtAt W S u0 u1 u2 u3 u4 x) (hin : CtIn 225000000000000 x) (hm : May x) :
    Calls Try.prog 16 #[.agg #[u0, u1, u2, u3, u4], .int .i64 5] W fun e w' => ∃ v0 v1 v2 v3 v4 lab, e = .returned (.tuple #[.agg #[v0, v1, v2, v3, v4], .int .i64 0]) ∧ CtOwn w' W.heap.size lab v0 v1 v2 v3 v4 (prt x 5) ∧ Below W.heap.size W w' := by
  obtain ⟨a0, c0, rfl, _⟩ := hu.cell.form
  obtain ⟨a1, c1, rfl, _⟩ := hu.stack.form
  obtain ⟨a2, c2, rfl, _⟩ := hu.queue.form
  obtain ⟨a3, c3, rfl, _⟩ := hu.set.form
  obtain ⟨a4, c4, rfl, _⟩ := hu.table.form
  have CM := fun w' (hB : Below W.heap.size W w') => mMay_any (hu.below hB) (hin.sm (by decide)) true (by simp [hm])
  have CW := fun w' (hB : Below W.heap.size W w') => worldOf_any (hu.below hB) (hin.mono (by decide))
  obtain ⟨n, hn⟩ : ∃ n, n = W.heap.size := ⟨_, rfl⟩
  have hT0 := Tq.new W (.cells #[.slice a0 x.cell.length c0, .slice a1 x.stack.length c1, .slice a2 x.queue.length c2, .slice a3 x.set.length c3, .slice a4 x.table.length c4] 25 (0, 0)) (.cells #[.slice none 0 0, .slice none 0 0, .slice none 0 0, .slice none 0 0, .slice none 0 0] 25 (0, 0))
  rw [← hn] at hT0
  have hw0 : ((W.alloc (.cells #[.slice a0 x.cell.length c0, .slice a1 x.stack.length c1, .slice a2 x.queue.length c2, .slice a3 x.set.length c3, .slice a4 x.table.length c4] 25 (0, 0))).alloc (.cells #[.slice none 0 0, .slice none 0 0, .slice none 0 0, .slice none 0 0, .slice none 0 0] 25 (0, 0))).heap.size = n + 2 := by simp [hn]
  obtain ⟨y0, y1, y2, y3, y4, y5⟩ := ifs_cells hT0.2.1
  obtain ⟨z0, z1, z2, z3, z4, z5⟩ := ifs_cells hT0.2.2.1
  obtain ⟨f0, f1, f2, f3, f4⟩ := ifs_thaw hT0.2.2.1
  rw [hn] at y0 y1 y2 y3 y4 y5 z0 z1 z2 z3 z4 z5 f0 f1 f2 f3 f4
  replace CM := Mr.hid CM
  replace CW := Mr.hid CW
  replace hT0 := Mr.hid hT0
  replace hw0 := Mr.hid hw0
  replace hn := Mr.hid hn
  clear hu
  have hP := fun (w w' : World) (B : Nat) (lab : Nat → Nat) (g0 g1 g2 g3 g4 b : Nat) (hd : Wd w B lab g0 g1 g2 g3 g4 x) (hb : w.heap[b]? = some (ctO (.slice none 0 0) (.slice none 0 0) (.slice none 0 0) (.slice none 0 0) (.slice none 0 0))) (hl : b < B) => put_table hd.table hb (fun e => by have := hd.low b (by omega); omega) (hin.mono (B' := 225100000000000) (by decide)).table
  unfold ctO at hP
  replace hP := Mr.hid hP
  go_enter Try.func16, Try.ntmps16
  go_upto_region 5 with (first | (go_at_call 13; refine (CM.out _ hT0.out.1).mono ?_; rintro e w1 ⟨rfl, hB1⟩; have hT1 := Mr.hid (hT0.out.below hB1); clear y0 y1 y2 y3 y4 y5 z0 z1 z2 z3 z4 z5 f0 f1 f2 f3 f4; obtain ⟨y0, y1, y2, y3, y4, y5⟩ := ifs_cells hT1.out.2.1; obtain ⟨z0, z1, z2, z3, z4, z5⟩ := ifs_cells hT1.out.2.2.1; obtain ⟨f0, f1, f2, f3, f4⟩ := ifs_thaw hT1.out.2.2.1; rw [hn.out] at y0 y1 y2 y3 y4 y5 z0 z1 z2 z3 z4 z5 f0 f1 f2 f3 f4))
  have hT2 := Mr.hid (hT1.out.below ((Below.refl w1.heap.size w1).alloc (Nat.le_refl _) (.cells #[.slice none 0 0, .slice none 0 0, .slice none 0 0, .slice none 0 0, .slice none 0 0] 25 (0, 0))))
  have hb2 := Mr.hid (heap_alloc_new w1 (.cells #[.slice none 0 0, .slice none 0 0, .slice none 0 0, .slice none 0 0, .slice none 0 0] 25 (0, 0)))
  clear y0 y1 y2 y3 y4 y5 z0 z1 z2 z3 z4 z5 f0 f1 f2 f3 f4
  obtain ⟨y0, y1, y2, y3, y4, y5⟩ := ifs_cells hT2.out.2.1
  rw [hn.out] at y0 y1 y2 y3 y4 y5
  go_upto_region 7 with (first | (go_at_call 28; refine (CW.out _ hT2.out.1).mono ?_; rintro e w3 ⟨g0, g1, g2, g3, g4, lab, rfl, hD, hB3⟩; have hT3 := Mr.hid (hT2.out.below hB3); have hb3 := Mr.hid ((hB3.block w1.heap.size (by simp)).trans hb2.out); have ix := ix_4 g0 g1 g2 g3 g4; unfold wdV) | (go_at_call 38; refine (hP.out _ w3 _ _ _ _ _ _ _ _ hD hb3.out (by simp)).mono ?_; rintro e w4 ⟨rfl, v, hO, hS4, hF4⟩; obtain ⟨av, cv, rfl, _, _⟩ := hO.form))
  have hO' := Mr.hid hO
  replace hF4 := Mr.hid hF4
  have hR4 := hT3.out.res hF4.out (by have := hT1.out.2.2.2.1; omega)
  have hn1 : w1.heap.size ≠ W.heap.size + 1 := by have := hT1.out.2.2.2.1; have := hn.out; omega
  clear hO y0 y1 y2 y3 y4 y5
  obtain ⟨y0, y1, y2, y3, y4, y5⟩ := ifs_cells hS4
  obtain ⟨z0, z1, z2, z3, z4, z5⟩ := ifs_cells hR4
  obtain ⟨f0, f1, f2, f3, f4⟩ := ifs_thaw hR4
  have hH := set5_five (.slice none 0 0) (.slice none 0 0) (.slice none 0 0) (.slice none 0 0) (.slice av x.table.length cv) hR4
  rw [hn.out] at hH z0 z1 z2 z3 z4 z5 f0 f1 f2 f3 f4
  obtain ⟨x0, x1, x2, x3, x4, x5⟩ := ifs_cells hH
  have hTB : Below W.heap.size W w4 := hT3.out.1.trans (hF4.out.below (n := W.heap.size) (fun k e => by have := hT1.out.1.size; omega) hT3.out.1.size)
  have hE := set5_below (b := W.heap.size + 1) (.slice none 0 0) (.slice none 0 0) (.slice none 0 0) (.slice none 0 0) (.slice av x.table.length cv) hTB (by omega)
  have hD5 : CtOwn (set5 w4 (W.heap.size + 1) (.slice none 0 0) (.slice none 0 0) (.slice none 0 0) (.slice none 0 0) (.slice av x.table.length cv)) W.heap.size (labx lab w3.heap.size 4) (.slice none 0 0) (.slice none 0 0) (.slice none 0 0) (.slice none 0 0) (.slice av x.table.length cv) (prt x 5) := by
    have hz := hD.low
    have q1 := hT1.out.1.size
    have q2 := hT3.out.1.size
    have q3 := hT3.out.2.2.2.1
    have q4 := hn.out
    refine ⟨fun k hk => ?_, Own.zero _ _ _ _ _, Own.zero _ _ _ _ _, Own.zero _ _ _ _ _, Own.zero _ _ _ _ _, ?_⟩
    · rcases labx_lt hk with h | h
      · have := hz k (by omega); simp at this; omega
      · omega
    · refine hO'.out.kept2 (fun k hk hl => set5_far _ _ _ _ _ _ _ k ?_) (fun k hk hl => labx_in (hk.imp id (fun h => h.1)))
      rcases hk with h | h
      · have := hz k (by omega); have := hT1.out.2.2.2.1; simp at *; omega
      · omega
  unfold set5 at x0 x1 x2 x3 x4 x5 hE hD5
  replace hE := Mr.hid hE
  replace hD5 := Mr.hid hD5
  replace hD := Mr.hid hD
  clear hR4 hH hTB hS4
  go_wp2
  refine bodyPost_ret (v := .tuple #[.agg #[.slice none 0 0, .slice none 0 0, .slice none 0 0, .slice none 0 0, .slice av x.table.length cv], .int .i64 0]) (by simp [results, Try.results16, go_sem, x0, x1, x2, x3, x4]) rfl ⟨_, _, _, _, _, _, rfl, hD5.out, hE.out⟩
theorem pPart_any {W : World} {S : Nat → Prop} {u0 u1 u2 u3 u4 : Value} {x : Ct} (hu : CtAt W S u0 u1 u2 u3 u4 x) (hin : CtIn 225000000000000 x) (hm : May x) (o : Int) (h1 : 1 ≤ o) (h5 : o ≤ 5) :
    Calls Try.prog 16 #[.agg #[u0, u1, u2, u3, u4], .int .i64 o] W fun e w' => ∃ v0 v1 v2 v3 v4 lab, e = .returned (.tuple #[.agg #[v0, v1, v2, v3, v4], .int .i64 0]) ∧ CtOwn w' W.heap.size lab v0 v1 v2 v3 v4 (prt x o) ∧ Below W.heap.size W w' := by
  have h : o = 1 ∨ o = 2 ∨ o = 3 ∨ o = 4 ∨ o = 5 := by omega
  rcases h with rfl | rfl | rfl | rfl | rfl
  · exact pPart_1 hu hin hm
  · exact pPart_2 hu hin hm
  · exact pPart_3 hu hin hm
  · exact pPart_4 hu hin hm
  · exact pPart_5 hu hin hm
theorem mPart_any {W : World} {S : Nat → Prop} {u0 u1 u2 u3 u4 : Value} {x : Ct} (hu : CtAt W S u0 u1 u2 u3 u4 x) (hin : CtIn 225000000000000 x) (hm : May x) (o : Int) (h1 : 1 ≤ o) (h5 : o ≤ 5) :
    Calls Try.prog 16 #[.agg #[u0, u1, u2, u3, u4], .int .i64 o] W fun e w' => ∃ v0 v1 v2 v3 v4, e = .returned (.tuple #[.agg #[v0, v1, v2, v3, v4], .int .i64 0]) ∧ CtAt w' (fun k => W.heap.size ≤ k) v0 v1 v2 v3 v4 (prt x o) ∧ Below W.heap.size W w' :=
  (pPart_any hu hin hm o h1 h5).mono (by rintro e w' ⟨v0, v1, v2, v3, v4, lab, rfl, h, hB⟩; exact ⟨v0, v1, v2, v3, v4, rfl, h.at, hB⟩)
theorem mPart_range {W : World} {S : Nat → Prop} {u0 u1 u2 u3 u4 : Value} {x : Ct} (hu : CtAt W S u0 u1 u2 u3 u4 x) (hin : CtIn 225000000000000 x) (hm : May x) (o : Int) (ho : ¬ (1 ≤ o ∧ o ≤ 5)) :
    Calls Try.prog 16 #[.agg #[u0, u1, u2, u3, u4], .int .i64 o] W fun e w' => ∃ v0 v1 v2 v3 v4, e = .returned (.tuple #[.agg #[v0, v1, v2, v3, v4], .int .i64 2]) ∧ CtAt w' (fun k => W.heap.size ≤ k) v0 v1 v2 v3 v4 ct0 ∧ Below W.heap.size W w' := by
  by_cases h : o < 1
  · exact (pPart_low hu hin hm o h).mono (by rintro e w' ⟨v0, v1, v2, v3, v4, lab, rfl, h, hB⟩; exact ⟨v0, v1, v2, v3, v4, rfl, h.at, hB⟩)
  · exact (pPart_high hu hin hm o (by omega)).mono (by rintro e w' ⟨v0, v1, v2, v3, v4, lab, rfl, h, hB⟩; exact ⟨v0, v1, v2, v3, v4, rfl, h.at, hB⟩)
theorem mPart_state {W : World} {S : Nat → Prop} {u0 u1 u2 u3 u4 : Value} {x : Ct} (hu : CtAt W S u0 u1 u2 u3 u4 x) (hin : CtIn 225000000000000 x) (hm : ¬ May x) (o : Int) :
    Calls Try.prog 16 #[.agg #[u0, u1, u2, u3, u4], .int .i64 o] W fun e w' => ∃ v0 v1 v2 v3 v4, e = .returned (.tuple #[.agg #[v0, v1, v2, v3, v4], .int .i64 111]) ∧ CtAt w' (fun k => W.heap.size ≤ k) v0 v1 v2 v3 v4 ct0 ∧ Below W.heap.size W w' :=
  (pPart_state hu hin hm o).mono (by rintro e w' ⟨v0, v1, v2, v3, v4, lab, rfl, h, hB⟩; exact ⟨v0, v1, v2, v3, v4, rfl, h.at, hB⟩)
end Go.Proofs.Ytegbcocbopgghab.Md
/-
  Package model: the objects kept, one of them changed; of; the methods by their names.
-/
namespace Go.Proofs.Ytegbcocbopgghab.Md
open Go.RowKit Mr
set_option linter.unusedVariables false
set_option linter.unusedSimpArgs false
def labr (lab : Nat → Nat) (s k : Nat) : Nat := if k < s then lab k else 5
theorem labr_in {lab : Nat → Nat} {s k : Nat} (h : k < s) : labr lab s k = lab k := if_pos h
theorem labr_hi {lab : Nat → Nat} {s k : Nat} (h : labr lab s k < 5) : k < s := by
  by_cases c : k < s
  · exact c
  · unfold labr at h; rw [if_neg c] at h; omega
def labp (lab : Nat → Nat) (s i k : Nat) : Nat := if s ≤ k then i else lab k
theorem labp_in {lab : Nat → Nat} {s i k : Nat} (h : lab k = i ∨ s ≤ k) : labp lab s i k = i := by
  unfold labp
  by_cases c : s ≤ k
  · rw [if_pos c]
  · rw [if_neg c]; exact h.resolve_right c
theorem labp_old {lab : Nat → Nat} {s i k : Nat} (h : k < s) : labp lab s i k = lab k := if_neg (by omega)
theorem Wd.cut {W W' : World} {B : Nat} {lab : Nat → Nat} {g0 g1 g2 g3 g4 : Nat} {x : Ct} (h : Wd W B lab g0 g1 g2 g3 g4 x) (hB : Below W.heap.size W W') : Wd W' B (labr lab W.heap.size) g0 g1 g2 g3 g4 x :=
  ⟨fun k hk => h.low k (by rw [labr_in (labr_hi hk)] at hk; exact hk), h.cell.kept (fun k _ hl => hB.block k hl) (fun k hk hl => by rw [labr_in hl]; exact hk), h.stack.kept (fun k _ hl => hB.block k hl) (fun k hk hl => by rw [labr_in hl]; exact hk), h.queue.kept (fun k _ hl => hB.block k hl) (fun k hk hl => by rw [labr_in hl]; exact hk), h.set.kept (fun k _ hl => hB.block k hl) (fun k hk hl => by rw [labr_in hl]; exact hk), h.table.kept (fun k _ hl => hB.block k hl) (fun k hk hl => by rw [labr_in hl]; exact hk)⟩
theorem Wd.keep {W W' : World} {B : Nat} {lab : Nat → Nat} {g0 g1 g2 g3 g4 : Nat} {x : Ct} (h : Wd W B lab g0 g1 g2 g3 g4 x) (hB : Below W.heap.size W W') : Wd W' B lab g0 g1 g2 g3 g4 x :=
  ⟨h.low, h.cell.kept (fun k _ hl => hB.block k hl) (fun k hk _ => hk), h.stack.kept (fun k _ hl => hB.block k hl) (fun k hk _ => hk), h.queue.kept (fun k _ hl => hB.block k hl) (fun k hk _ => hk), h.set.kept (fun k _ hl => hB.block k hl) (fun k hk _ => hk), h.table.kept (fun k _ hl => hB.block k hl) (fun k hk _ => hk)⟩
theorem Wd.put0 {W W' : World} {B : Nat} {lab : Nat → Nat} {g0 g1 g2 g3 g4 : Nat} {x : Ct} (h : Wd W B lab g0 g1 g2 g3 g4 x) (hBW : B ≤ W.heap.size) {l : List Int} (ho : Ob W' (fun k => lab k = 0 ∨ W.heap.size ≤ k) g0 104 3 1 l.length (ints l)) (hF : Fr W W' (fun k => lab k = 0)) : Wd W' B (labp lab W.heap.size 0) g0 g1 g2 g3 g4 { x with cell := l } := by
  refine ⟨fun k hk => ?_, ?_, h.stack.kept (fun k hk hl => hF.block k hl (fun e => by rw [hk] at e; omega)) (fun k hk hl => by rw [labp_old hl]; exact hk), h.queue.kept (fun k hk hl => hF.block k hl (fun e => by rw [hk] at e; omega)) (fun k hk hl => by rw [labp_old hl]; exact hk), h.set.kept (fun k hk hl => hF.block k hl (fun e => by rw [hk] at e; omega)) (fun k hk hl => by rw [labp_old hl]; exact hk), h.table.kept (fun k hk hl => hF.block k hl (fun e => by rw [hk] at e; omega)) (fun k hk hl => by rw [labp_old hl]; exact hk)⟩
  · by_cases c : W.heap.size ≤ k
    · omega
    · rw [labp_old (by omega)] at hk; exact h.low k hk
  · exact ho.kept (fun _ _ _ => rfl) (fun k hk _ => labp_in hk)
theorem Wd.put1 {W W' : World} {B : Nat} {lab : Nat → Nat} {g0 g1 g2 g3 g4 : Nat} {x : Ct} (h : Wd W B lab g0 g1 g2 g3 g4 x) (hBW : B ≤ W.heap.size) {l : List Int} (ho : Ob W' (fun k => lab k = 1 ∨ W.heap.size ≤ k) g1 106 3 1 l.length (ints l.reverse)) (hF : Fr W W' (fun k => lab k = 1)) : Wd W' B (labp lab W.heap.size 1) g0 g1 g2 g3 g4 { x with stack := l } := by
  refine ⟨fun k hk => ?_, h.cell.kept (fun k hk hl => hF.block k hl (fun e => by rw [hk] at e; omega)) (fun k hk hl => by rw [labp_old hl]; exact hk), ?_, h.queue.kept (fun k hk hl => hF.block k hl (fun e => by rw [hk] at e; omega)) (fun k hk hl => by rw [labp_old hl]; exact hk), h.set.kept (fun k hk hl => hF.block k hl (fun e => by rw [hk] at e; omega)) (fun k hk hl => by rw [labp_old hl]; exact hk), h.table.kept (fun k hk hl => hF.block k hl (fun e => by rw [hk] at e; omega)) (fun k hk hl => by rw [labp_old hl]; exact hk)⟩
  · by_cases c : W.heap.size ≤ k
    · omega
    · rw [labp_old (by omega)] at hk; exact h.low k hk
  · exact ho.kept (fun _ _ _ => rfl) (fun k hk _ => labp_in hk)
theorem Wd.put2 {W W' : World} {B : Nat} {lab : Nat → Nat} {g0 g1 g2 g3 g4 : Nat} {x : Ct} (h : Wd W B lab g0 g1 g2 g3 g4 x) (hBW : B ≤ W.heap.size) {l : List Int} (ho : Ob W' (fun k => lab k = 2 ∨ W.heap.size ≤ k) g2 107 3 1 l.length (ints l)) (hF : Fr W W' (fun k => lab k = 2)) : Wd W' B (labp lab W.heap.size 2) g0 g1 g2 g3 g4 { x with queue := l } := by
  refine ⟨fun k hk => ?_, h.cell.kept (fun k hk hl => hF.block k hl (fun e => by rw [hk] at e; omega)) (fun k hk hl => by rw [labp_old hl]; exact hk), h.stack.kept (fun k hk hl => hF.block k hl (fun e => by rw [hk] at e; omega)) (fun k hk hl => by rw [labp_old hl]; exact hk), ?_, h.set.kept (fun k hk hl => hF.block k hl (fun e => by rw [hk] at e; omega)) (fun k hk hl => by rw [labp_old hl]; exact hk), h.table.kept (fun k hk hl => hF.block k hl (fun e => by rw [hk] at e; omega)) (fun k hk hl => by rw [labp_old hl]; exact hk)⟩
  · by_cases c : W.heap.size ≤ k
    · omega
    · rw [labp_old (by omega)] at hk; exact h.low k hk
  · exact ho.kept (fun _ _ _ => rfl) (fun k hk _ => labp_in hk)
theorem Wd.put3 {W W' : World} {B : Nat} {lab : Nat → Nat} {g0 g1 g2 g3 g4 : Nat} {x : Ct} (h : Wd W B lab g0 g1 g2 g3 g4 x) (hBW : B ≤ W.heap.size) {l : List Int} (ho : Ob W' (fun k => lab k = 3 ∨ W.heap.size ≤ k) g3 109 3 1 l.length (ints l)) (hF : Fr W W' (fun k => lab k = 3)) : Wd W' B (labp lab W.heap.size 3) g0 g1 g2 g3 g4 { x with set := l } := by
  refine ⟨fun k hk => ?_, h.cell.kept (fun k hk hl => hF.block k hl (fun e => by rw [hk] at e; omega)) (fun k hk hl => by rw [labp_old hl]; exact hk), h.stack.kept (fun k hk hl => hF.block k hl (fun e => by rw [hk] at e; omega)) (fun k hk hl => by rw [labp_old hl]; exact hk), h.queue.kept (fun k hk hl => hF.block k hl (fun e => by rw [hk] at e; omega)) (fun k hk hl => by rw [labp_old hl]; exact hk), ?_, h.table.kept (fun k hk hl => hF.block k hl (fun e => by rw [hk] at e; omega)) (fun k hk hl => by rw [labp_old hl]; exact hk)⟩
  · by_cases c : W.heap.size ≤ k
    · omega
    · rw [labp_old (by omega)] at hk; exact h.low k hk
  · exact ho.kept (fun _ _ _ => rfl) (fun k hk _ => labp_in hk)
theorem Wd.put4 {W W' : World} {B : Nat} {lab : Nat → Nat} {g0 g1 g2 g3 g4 : Nat} {x : Ct} (h : Wd W B lab g0 g1 g2 g3 g4 x) (hBW : B ≤ W.heap.size) {l : List (Int × Int)} (ho : Ob W' (fun k => lab k = 4 ∨ W.heap.size ≤ k) g4 111 81 2 l.length (prs l)) (hF : Fr W W' (fun k => lab k = 4)) : Wd W' B (labp lab W.heap.size 4) g0 g1 g2 g3 g4 { x with table := l } := by
  refine ⟨fun k hk => ?_, h.cell.kept (fun k hk hl => hF.block k hl (fun e => by rw [hk] at e; omega)) (fun k hk hl => by rw [labp_old hl]; exact hk), h.stack.kept (fun k hk hl => hF.block k hl (fun e => by rw [hk] at e; omega)) (fun k hk hl => by rw [labp_old hl]; exact hk), h.queue.kept (fun k hk hl => hF.block k hl (fun e => by rw [hk] at e; omega)) (fun k hk hl => by rw [labp_old hl]; exact hk), h.set.kept (fun k hk hl => hF.block k hl (fun e => by rw [hk] at e; omega)) (fun k hk hl => by rw [labp_old hl]; exact hk), ?_⟩
  · by_cases c : W.heap.size ≤ k
    · omega
    · rw [labp_old (by omega)] at hk; exact h.low k hk
  · exact ho.kept (fun _ _ _ => rfl) (fun k hk _ => labp_in hk)
theorem me_answers0 (n : Nat) (a : Addr) (w : World) : (method (n + 1) 92 (.pointer (some a)) "reclaim/model.answers").run Try.prog w = .ok (79, .pointer (some a)) w := by kernel_rfl
theorem me_leave0 (n : Nat) (a : Addr) (w : World) : (method (n + 1) 92 (.pointer (some a)) "reclaim/model.leave").run Try.prog w = .ok (80, .pointer (some a)) w := by kernel_rfl
theorem me_answers1 (n : Nat) (a : Addr) (w : World) : (method (n + 1) 94 (.pointer (some a)) "reclaim/model.answers").run Try.prog w = .ok (83, .pointer (some a)) w := by kernel_rfl
theorem me_leave1 (n : Nat) (a : Addr) (w : World) : (method (n + 1) 94 (.pointer (some a)) "reclaim/model.leave").run Try.prog w = .ok (84, .pointer (some a)) w := by kernel_rfl
theorem me_answers2 (n : Nat) (a : Addr) (w : World) : (method (n + 1) 96 (.pointer (some a)) "reclaim/model.answers").run Try.prog w = .ok (85, .pointer (some a)) w := by kernel_rfl
theorem me_leave2 (n : Nat) (a : Addr) (w : World) : (method (n + 1) 96 (.pointer (some a)) "reclaim/model.leave").run Try.prog w = .ok (86, .pointer (some a)) w := by kernel_rfl
theorem me_answers3 (n : Nat) (a : Addr) (w : World) : (method (n + 1) 98 (.pointer (some a)) "reclaim/model.answers").run Try.prog w = .ok (87, .pointer (some a)) w := by kernel_rfl
theorem me_leave3 (n : Nat) (a : Addr) (w : World) : (method (n + 1) 98 (.pointer (some a)) "reclaim/model.leave").run Try.prog w = .ok (88, .pointer (some a)) w := by kernel_rfl
theorem me_answers4 (n : Nat) (a : Addr) (w : World) : (method (n + 1) 100 (.pointer (some a)) "reclaim/model.answers").run Try.prog w = .ok (98, .pointer (some a)) w := by kernel_rfl
theorem me_leave4 (n : Nat) (a : Addr) (w : World) : (method (n + 1) 100 (.pointer (some a)) "reclaim/model.leave").run Try.prog w = .ok (100, .pointer (some a)) w := by kernel_rfl
set_option maxRecDepth 100000 in
set_option maxHeartbeats 1000000 in
theorem of_0 (g0 g1 g2 g3 g4 : Nat) (op : Int) (ho : obj op = 1) (W : World) : Calls Try.prog 29 #[.agg #[.iface 92 (.pointer (some ⟨g0, 0, none⟩)), .iface 94 (.pointer (some ⟨g1, 0, none⟩)), .iface 96 (.pointer (some ⟨g2, 0, none⟩)), .iface 98 (.pointer (some ⟨g3, 0, none⟩)), .iface 100 (.pointer (some ⟨g4, 0, none⟩))], .int .i64 op] W fun e w' => e = .returned (.iface 92 (.pointer (some ⟨g0, 0, none⟩))) ∧ Below W.heap.size W w' := by
  have C := fun w => mObj op w
  rw [ho] at C
  obtain ⟨y0, y1, y2, y3, y4, y5⟩ := ifs_cells (heap_alloc_new W (.cells #[.iface 92 (.pointer (some ⟨g0, 0, none⟩)), .iface 94 (.pointer (some ⟨g1, 0, none⟩)), .iface 96 (.pointer (some ⟨g2, 0, none⟩)), .iface 98 (.pointer (some ⟨g3, 0, none⟩)), .iface 100 (.pointer (some ⟨g4, 0, none⟩))] 72 (0, 0)))
  clear ho
  replace C := Mr.hid C
  go_enter Try.func29, Try.ntmps29
  go_wp2_with (go_at_call 15; refine (C.out _).mono ?_; rintro e w2 ⟨rfl, rfl⟩)
  go_ret
  exact ⟨rfl, (Below.refl _ _).alloc (Nat.le_refl _) _⟩
set_option maxRecDepth 100000 in
set_option maxHeartbeats 1000000 in
theorem of_1 (g0 g1 g2 g3 g4 : Nat) (op : Int) (ho : obj op = 2) (W : World) : Calls Try.prog 29 #[.agg #[.iface 92 (.pointer (some ⟨g0, 0, none⟩)), .iface 94 (.pointer (some ⟨g1, 0, none⟩)), .iface 96 (.pointer (some ⟨g2, 0, none⟩)), .iface 98 (.pointer (some ⟨g3, 0, none⟩)), .iface 100 (.pointer (some ⟨g4, 0, none⟩))], .int .i64 op] W fun e w' => e = .returned (.iface 94 (.pointer (some ⟨g1, 0, none⟩))) ∧ Below W.heap.size W w' := by
  have C := fun w => mObj op w
  rw [ho] at C
  obtain ⟨y0, y1, y2, y3, y4, y5⟩ := ifs_cells (heap_alloc_new W (.cells #[.iface 92 (.pointer (some ⟨g0, 0, none⟩)), .iface 94 (.pointer (some ⟨g1, 0, none⟩)), .iface 96 (.pointer (some ⟨g2, 0, none⟩)), .iface 98 (.pointer (some ⟨g3, 0, none⟩)), .iface 100 (.pointer (some ⟨g4, 0, none⟩))] 72 (0, 0)))
  clear ho
  replace C := Mr.hid C
  go_enter Try.func29, Try.ntmps29
  go_wp2_with (go_at_call 15; refine (C.out _).mono ?_; rintro e w2 ⟨rfl, rfl⟩)
  go_ret
  exact ⟨rfl, (Below.refl _ _).alloc (Nat.le_refl _) _⟩
set_option maxRecDepth 100000 in
set_option maxHeartbeats 1000000 in
theorem of_2 (g0 g1 g2 g3 g4 : Nat) (op : Int) (ho : obj op = 3) (W : World) : Calls Try.prog 29 #[.agg #[.iface 92 (.pointer (some ⟨g0, 0, none⟩)), .iface 94 (.pointer (some ⟨g1, 0, none⟩)), .iface 96 (.pointer (some ⟨g2, 0, none⟩)), .iface 98 (.pointer (some ⟨g3, 0, none⟩)), .iface 100 (.pointer (some ⟨g4, 0, none⟩))], .int .i64 op] W fun e w' => e = .returned (.iface 96 (.pointer (some ⟨g2, 0, none⟩))) ∧ Below W.heap.size W w' := by
  have C := fun w => mObj op w
  rw [ho] at C
  obtain ⟨y0, y1, y2, y3, y4, y5⟩ := ifs_cells (heap_alloc_new W (.cells #[.iface 92 (.pointer (some ⟨g0, 0, none⟩)), .iface 94 (.pointer (some ⟨g1, 0, none⟩)), .iface 96 (.pointer (some ⟨g2, 0, none⟩)), .iface 98 (.pointer (some ⟨g3, 0, none⟩)), .iface 100 (.pointer (some ⟨g4, 0, none⟩))] 72 (0, 0)))
  clear ho
  replace C := Mr.hid C
  go_enter Try.func29, Try.ntmps29
  go_wp2_with (go_at_call 15; refine (C.out _).mono ?_; rintro e w2 ⟨rfl, rfl⟩)
  go_ret
  exact ⟨rfl, (Below.refl _ _).alloc (Nat.le_refl _) _⟩
set_option maxRecDepth 100000 in
set_option maxHeartbeats 1000000 in
theorem of_3 (g0 g1 g2 g3 g4 : Nat) (op : Int) (ho : obj op = 4) (W : World) : Calls Try.prog 29 #[.agg #[.iface 92 (.pointer (some ⟨g0, 0, none⟩)), .iface 94 (.pointer (some ⟨g1, 0, none⟩)), .iface 96 (.pointer (some ⟨g2, 0, none⟩)), .iface 98 (.pointer (some ⟨g3, 0, none⟩)), .iface 100 (.pointer (some ⟨g4, 0, none⟩))], .int .i64 op] W fun e w' => e = .returned (.iface 98 (.pointer (some ⟨g3, 0, none⟩))) ∧ Below W.heap.size W w' := by
  have C := fun w => mObj op w
  rw [ho] at C
  obtain ⟨y0, y1, y2, y3, y4, y5⟩ := ifs_cells (heap_alloc_new W (.cells #[.iface 92 (.pointer (some ⟨g0, 0, none⟩)), .iface 94 (.pointer (some ⟨g1, 0, none⟩)), .iface 96 (.pointer (some ⟨g2, 0, none⟩)), .iface 98 (.pointer (some ⟨g3, 0, none⟩)), .iface 100 (.pointer (some ⟨g4, 0, none⟩))] 72 (0, 0)))
  clear ho
  replace C := Mr.hid C
  go_enter Try.func29, Try.ntmps29
  go_wp2_with (go_at_call 15; refine (C.out _).mono ?_; rintro e w2 ⟨rfl, rfl⟩)
  go_ret
  exact ⟨rfl, (Below.refl _ _).alloc (Nat.le_refl _) _⟩
set_option maxRecDepth 100000 in
set_option maxHeartbeats 1000000 in
theorem of_4 (g0 g1 g2 g3 g4 : Nat) (op : Int) (ho : obj op = 5) (W : World) : Calls Try.prog 29 #[.agg #[.iface 92 (.pointer (some ⟨g0, 0, none⟩)), .iface 94 (.pointer (some ⟨g1, 0, none⟩)), .iface 96 (.pointer (some ⟨g2, 0, none⟩)), .iface 98 (.pointer (some ⟨g3, 0, none⟩)), .iface 100 (.pointer (some ⟨g4, 0, none⟩))], .int .i64 op] W fun e w' => e = .returned (.iface 100 (.pointer (some ⟨g4, 0, none⟩))) ∧ Below W.heap.size W w' := by
  have C := fun w => mObj op w
  rw [ho] at C
  obtain ⟨y0, y1, y2, y3, y4, y5⟩ := ifs_cells (heap_alloc_new W (.cells #[.iface 92 (.pointer (some ⟨g0, 0, none⟩)), .iface 94 (.pointer (some ⟨g1, 0, none⟩)), .iface 96 (.pointer (some ⟨g2, 0, none⟩)), .iface 98 (.pointer (some ⟨g3, 0, none⟩)), .iface 100 (.pointer (some ⟨g4, 0, none⟩))] 72 (0, 0)))
  clear ho
  replace C := Mr.hid C
  go_enter Try.func29, Try.ntmps29
  go_wp2_with (go_at_call 15; refine (C.out _).mono ?_; rintro e w2 ⟨rfl, rfl⟩)
  go_ret
  exact ⟨rfl, (Below.refl _ _).alloc (Nat.le_refl _) _⟩
end Go.Proofs.Ytegbcocbopgghab.Md
