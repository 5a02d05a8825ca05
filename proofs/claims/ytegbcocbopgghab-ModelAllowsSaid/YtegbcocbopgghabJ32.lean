import Derived.Test.YtegbcocbopgghabJ27
import Derived.Test.YtegbcocbopgghabJ31
/-
  ModelAllows: the walk.
-/
namespace Go.Proofs.Ytegbcocbopgghab.Md
open Go.RowKit Mr Me
set_option linter.unusedVariables false
set_option linter.unusedSimpArgs false
set_option maxRecDepth 100000 in
set_option maxHeartbeats 16000000 in
theorem alws_any (u0 u1 u2 u3 u4 : Value) (x : Ct) (c : Cq) (W : World) (hu : CtAt W (fun _ => True) u0 u1 u2 u3 u4 x) (hx : CtIn 140737488351232 x) (hm : May x) (ho : obj c.op ≠ 0) :
    Calls Try.prog 8 #[.agg #[u0, u1, u2, u3, u4], .agg #[.int .i64 c.th, .int .i64 c.op, .int .i64 c.arg, .int .i64 c.data, .int .i64 c.beg, .int .i64 c.fin, .int .i64 c.pt, .int .i64 c.ak, .int .i64 c.av]] W fun e w' => e = .returned (.bool true) ∧ Below W.heap.size W w' := by
  obtain ⟨a0, c0, rfl, _⟩ := hu.cell.form
  obtain ⟨a1, c1, rfl, _⟩ := hu.stack.form
  obtain ⟨a2, c2, rfl, _⟩ := hu.queue.form
  obtain ⟨a3, c3, rfl, _⟩ := hu.set.form
  obtain ⟨a4, c4, rfl, _⟩ := hu.table.form
  have hi := hx.mono (show 140737488351232 ≤ 225000000000000 by decide)
  have sx := hx.sm (by decide)
  obtain ⟨bb, hbb⟩ : ∃ b, b = (alw x c).2 := ⟨_, rfl⟩
  obtain ⟨y, hy⟩ : ∃ y, y = (alw x c).1 := ⟨_, rfl⟩
  have CR := fun w' (h : CtAt w' (fun _ => True) (.slice a0 x.cell.length c0) (.slice a1 x.stack.length c1) (.slice a2 x.queue.length c2) (.slice a3 x.set.length c3) (.slice a4 x.table.length c4) x) => rCopy_any h hi
  have CD := fun w' (h : CtAt w' (fun _ => True) (.slice a0 x.cell.length c0) (.slice a1 x.stack.length c1) (.slice a2 x.queue.length c2) (.slice a3 x.set.length c3) (.slice a4 x.table.length c4) x) => mAllows_any h hi hm c ho
  have CM := fun w' (h : CtAt w' (fun _ => True) (.slice a0 x.cell.length c0) (.slice a1 x.stack.length c1) (.slice a2 x.queue.length c2) (.slice a3 x.set.length c3) (.slice a4 x.table.length c4) x) => rMay_any h sx true (by simp [hm])
  have CS := fun w' k0 k1 k2 k3 k4 (h : CtAt w' (fun _ => True) (.slice a0 x.cell.length c0) (.slice a1 x.stack.length c1) (.slice a2 x.queue.length c2) (.slice a3 x.set.length c3) (.slice a4 x.table.length c4) x) (hk : CtAt w' (fun _ => True) k0 k1 k2 k3 k4 x) => rSame_any h hk sx sx
  simp only [ctB_same] at CS
  have RD := fun w' (h : CtAt w' (fun _ => True) (.slice a0 x.cell.length c0) (.slice a1 x.stack.length c1) (.slice a2 x.queue.length c2) (.slice a3 x.set.length c3) (.slice a4 x.table.length c4) x) => rAllows_any h hi c ho
  rw [← hbb, ← hy] at CD RD
  have X0 := ((Below.refl W.heap.size W).alloc (Nat.le_refl _) (ctO (.slice a0 x.cell.length c0) (.slice a1 x.stack.length c1) (.slice a2 x.queue.length c2) (.slice a3 x.set.length c3) (.slice a4 x.table.length c4))).alloc (by simp) (cqO c)
  have G0 : ((W.alloc (ctO (.slice a0 x.cell.length c0) (.slice a1 x.stack.length c1) (.slice a2 x.queue.length c2) (.slice a3 x.set.length c3) (.slice a4 x.table.length c4))).alloc (cqO c)).heap[W.heap.size]? = some (ctO (.slice a0 x.cell.length c0) (.slice a1 x.stack.length c1) (.slice a2 x.queue.length c2) (.slice a3 x.set.length c3) (.slice a4 x.table.length c4)) := old_at (new_at W _ _ rfl) _
  have G1 : ((W.alloc (ctO (.slice a0 x.cell.length c0) (.slice a1 x.stack.length c1) (.slice a2 x.queue.length c2) (.slice a3 x.set.length c3) (.slice a4 x.table.length c4))).alloc (cqO c)).heap[W.heap.size + 1]? = some (cqO c) := new_at _ _ _ (by simp)
  have U0 := hu.below X0
  clear hu
  replace X0 := Mr.hid X0
  replace U0 := Mr.hid U0
  replace G0 := Mr.hid G0
  replace G1 := Mr.hid G1
  replace CR := Mr.hid CR
  replace CD := Mr.hid CD
  replace CM := Mr.hid CM
  replace CS := Mr.hid CS
  replace hm := Mr.hid hm
  replace ho := Mr.hid ho
  replace hbb := Mr.hid hbb
  replace hy := Mr.hid hy
  replace RD := Mr.hid RD
  go_enter Try.func8, Try.ntmps8
  go_upto_region 1 with (fail)
  replace X0 := X0.out
  replace U0 := U0.out
  replace G0 := G0.out
  replace G1 := G1.out
  unfold ctO cqO at X0 U0
  conv at G0 => lhs; unfold ctO cqO
  conv at G1 => lhs; unfold ctO cqO
  generalize (W.alloc (.cells #[.slice a0 x.cell.length c0, .slice a1 x.stack.length c1, .slice a2 x.queue.length c2, .slice a3 x.set.length c3, .slice a4 x.table.length c4] 25 (0, 0))).alloc (.cells #[.int .i64 c.th, .int .i64 c.op, .int .i64 c.arg, .int .i64 c.data, .int .i64 c.beg, .int .i64 c.fin, .int .i64 c.pt, .int .i64 c.ak, .int .i64 c.av] 50 (0, 0)) = w1 at *
  obtain ⟨e0, e1, e2, e3, e4, el⟩ := ctO_cells G0
  have CR1 := Mr.hid (CR.out _ U0)
  have FF : ∀ b o, (fun b => if b = W.heap.size + 1 then some (cqO c) else none) b = some o → w1.heap[b]? = some o := fun b o hbo => by
    by_cases hb : b = W.heap.size + 1
    · subst hb; simp at hbo; rw [← hbo]; exact G1
    · simp [hb] at hbo
  replace FF := Mr.hid FF
  replace X0 := Mr.hid X0
  replace U0 := Mr.hid U0
  replace G0 := Mr.hid G0
  replace G1 := Mr.hid G1
  clear CR
  go_upto_region 2 with (first | (go_at_call 19; refine CR1.out.mono ?_; clear CR1; rintro e w2 ⟨k0, k1, k2, k3, k4, rfl, hk, hB2⟩; have DK := Dk.first FF.out X0.out G0.out U0.out hB2 hk; clear X0 G0 U0 hB2 G1 FF; obtain ⟨p0, q0, rfl, _⟩ := hk.cell.form; obtain ⟨p1, q1, rfl, _⟩ := hk.stack.form; obtain ⟨p2, q2, rfl, _⟩ := hk.queue.form; obtain ⟨p3, q3, rfl, _⟩ := hk.set.form; obtain ⟨p4, q4, rfl, _⟩ := hk.table.form;  clear hk e0 e1 e2 e3 e4; replace DK := Mr.hid DK))
  obtain ⟨bk, hbk⟩ : ∃ b, b = w2.heap.size := ⟨_, rfl⟩
  rw [← hbk] at DK ⊢
  clear hbk
  replace DK := DK.out
  conv at DK => arg 2; unfold ctO
  generalize w2.alloc (.cells #[.slice p0 x.cell.length q0, .slice p1 x.stack.length q1, .slice p2 x.queue.length q2, .slice p3 x.set.length q3, .slice p4 x.table.length q4] 25 (0, 0)) = w3 at *
  obtain ⟨e0, e1, e2, e3, e4, el⟩ := ctO_cells DK.s
  obtain ⟨o0, o1, o2, o3, o4, o5, o6, o7, o8, ol⟩ := cq_cells (DK.fix (W.heap.size + 1) (cqO c) (by simp))
  have CD1 := Mr.hid (CD.out _ DK.sat)
  replace DK := Mr.hid DK
  clear CD
  go_upto_region 3 with (first | (go_at_call 17; refine CD1.out.mono ?_; clear CD1; rintro e w4 ⟨l0, l1, l2, l3, l4, rfl, hl, hB4⟩; have DZ := Dk.then1 DK.out hB4 hl; clear DK hB4; obtain ⟨z0, m0, rfl, _⟩ := hl.cell.form; obtain ⟨z1, m1, rfl, _⟩ := hl.stack.form; obtain ⟨z2, m2, rfl, _⟩ := hl.queue.form; obtain ⟨z3, m3, rfl, _⟩ := hl.set.form; obtain ⟨z4, m4, rfl, _⟩ := hl.table.form;  clear hl e0 e1 e2 e3 e4 o0 o1 o2 o3 o4 o5 o6 o7 o8 ol el; replace DZ := Mr.hid DZ))
  obtain ⟨bl, hbl⟩ : ∃ b, b = w4.heap.size := ⟨_, rfl⟩
  rw [← hbl] at DZ ⊢
  clear hbl
  replace DZ := DZ.out
  conv at DZ => arg 2; unfold ctO
  generalize (w4.alloc (.cells #[.slice z0 y.cell.length m0, .slice z1 y.stack.length m1, .slice z2 y.queue.length m2, .slice z3 y.set.length m3, .slice z4 y.table.length m4] 25 (0, 0))) = w5 at *
  have CS1 := fun w' (h : Dz W w' W.heap.size bk bl (.slice a0 x.cell.length c0) (.slice a1 x.stack.length c1) (.slice a2 x.queue.length c2) (.slice a3 x.set.length c3) (.slice a4 x.table.length c4) (.slice p0 x.cell.length q0) (.slice p1 x.stack.length q1) (.slice p2 x.queue.length q2) (.slice p3 x.set.length q3) (.slice p4 x.table.length q4) (.slice z0 y.cell.length m0) (.slice z1 y.stack.length m1) (.slice z2 y.queue.length m2) (.slice z3 y.set.length m3) (.slice z4 y.table.length m4) x y none (fun b => if b = W.heap.size + 1 then some (cqO c) else none)) => CS.out w' _ _ _ _ _ h.sat h.kat
  have CM1 := fun w' (h : Dz W w' W.heap.size bk bl (.slice a0 x.cell.length c0) (.slice a1 x.stack.length c1) (.slice a2 x.queue.length c2) (.slice a3 x.set.length c3) (.slice a4 x.table.length c4) (.slice p0 x.cell.length q0) (.slice p1 x.stack.length q1) (.slice p2 x.queue.length q2) (.slice p3 x.set.length q3) (.slice p4 x.table.length q4) (.slice z0 y.cell.length m0) (.slice z1 y.stack.length m1) (.slice z2 y.queue.length m2) (.slice z3 y.set.length m3) (.slice z4 y.table.length m4) x y none (fun b => if b = W.heap.size + 1 then some (cqO c) else none)) => CM.out w' h.sat
  have CL := fun w' (h : Dz W w' W.heap.size bk bl (.slice a0 x.cell.length c0) (.slice a1 x.stack.length c1) (.slice a2 x.queue.length c2) (.slice a3 x.set.length c3) (.slice a4 x.table.length c4) (.slice p0 x.cell.length q0) (.slice p1 x.stack.length q1) (.slice p2 x.queue.length q2) (.slice p3 x.set.length q3) (.slice p4 x.table.length q4) (.slice z0 y.cell.length m0) (.slice z1 y.stack.length m1) (.slice z2 y.queue.length m2) (.slice z3 y.set.length m3) (.slice z4 y.table.length m4) x y none (fun b => if b = W.heap.size + 1 then some (cqO c) else none)) => (⟨ctO_cells h.s, ctO_cells h.kept, ctO_cells h.left, cq_cells (h.fix (W.heap.size + 1) (cqO c) (by simp))⟩ : _ ∧ _ ∧ _ ∧ _)
  replace CS1 := Mr.hid CS1
  replace CM1 := Mr.hid CM1
  replace CL := Mr.hid CL
  replace DZ := Mr.hid DZ
  clear CS CM
  go_upto_region 5 with (first | (go_at_call 11; refine (awake_any _).mono ?_; rintro e w6 ⟨rfl, hB6⟩; have DZ := Mr.hid (DZ.out.next hB6); clear hB6; obtain ⟨⟨e0, e1, e2, e3, e4, e5⟩, ⟨g0, g1, g2, g3, g4, g5⟩, -, -⟩ := CL.out _ DZ.out) | (go_at_call 21; refine (CS1.out _ DZ.out).mono ?_; clear CS1 e0 e1 e2 e3 e4 e5 g0 g1 g2 g3 g4 g5; rintro e w7 ⟨rfl, hB7⟩; have DZ := Mr.hid (DZ.out.next hB7); clear hB7; obtain ⟨⟨e0, e1, e2, e3, e4, e5⟩, ⟨g0, g1, g2, g3, g4, g5⟩, -, -⟩ := CL.out _ DZ.out))
  have sy : CtSm y := by rw [hy.out]; exact (alw_in hx c).sm (by decide)
  obtain ⟨ob, hob⟩ : ∃ b, b = obj c.op := ⟨_, rfl⟩
  have CO := rObject_any c.op
  rw [← hob] at CO
  have ob0 : (ob == 0) = false := by rw [beq_eq_false_iff_ne, hob]; exact ho.out
  have bb0 : (bb == bb) = true := by simp
  replace hob := Mr.hid hob
  replace CO := Mr.hid CO
  go_wp2_with (first | (go_at_call 23; refine (CM1.out _ DZ.out).mono ?_; clear CM1; rintro e w8 ⟨rfl, hB8⟩; have DZ := Mr.hid (DZ.out.next hB8); clear hB8; clear e0 e1 e2 e3 e4 e5 g0 g1 g2 g3 g4 g5; obtain ⟨⟨e0, e1, e2, e3, e4, e5⟩, ⟨g0, g1, g2, g3, g4, g5⟩, ⟨h0, h1, h2, h3, h4, h5⟩, ⟨o0, o1, o2, o3, o4, o5, o6, o7, o8, ol⟩⟩ := CL.out _ DZ.out) | (go_at_call 24; refine (CO.out _).mono ?_; clear CO; rintro e w' ⟨rfl, hw'⟩; obtain rfl := hw'.symm; clear hw') | (go_at_call 26; refine (RD.out _ DZ.out.sat).mono ?_; clear RD; rintro e w9 ⟨d0, d1, d2, d3, d4, rfl, hw, hB9⟩; clear h0 h1 h2 h3 h4 h5 o0 o1 o2 o3 o4 o5 o6 o7 o8 ol; have DZ := Mr.hid (DZ.out.next hB9); clear hB9; clear e0 e1 e2 e3 e4 e5 g0 g1 g2 g3 g4 g5; obtain ⟨⟨e0, e1, e2, e3, e4, e5⟩, ⟨g0, g1, g2, g3, g4, g5⟩, ⟨h0, h1, h2, h3, h4, h5⟩, ⟨o0, o1, o2, o3, o4, o5, o6, o7, o8, ol⟩⟩ := CL.out _ DZ.out; have SF := fun w' (hB : Below w9.heap.size w9 w') => rSame_any (DZ.out.lat.below hB) (hw.below hB) sy sy; simp only [ctB_same] at SF; obtain ⟨s0, t0, rfl, _⟩ := hw.cell.form; obtain ⟨s1, t1, rfl, _⟩ := hw.stack.form; obtain ⟨s2, t2, rfl, _⟩ := hw.queue.form; obtain ⟨s3, t3, rfl, _⟩ := hw.set.form; obtain ⟨s4, t4, rfl, _⟩ := hw.table.form;  clear hw; replace SF := Mr.hid SF) | (go_at_call 21; refine (SF.out _ ((Below.refl _ _).alloc (Nat.le_refl _) _)).mono ?_; clear SF; rintro e w10 ⟨rfl, hB10⟩; have hE := DZ.out.bel.trans (((Below.refl _ _).alloc (Nat.le_refl _) _).trans (hB10.mono (by simp)) |>.mono DZ.out.bel.size); clear hB10; replace hE := Mr.hid hE))
  go_ret
  exact ⟨rfl, hE.out⟩
set_option maxRecDepth 100000 in
set_option maxHeartbeats 16000000 in
theorem alws_state (u0 u1 u2 u3 u4 : Value) (x : Ct) (c : Cq) (W : World) (hu : CtAt W (fun _ => True) u0 u1 u2 u3 u4 x) (hx : CtIn 140737488351232 x) (hm : ¬ May x) :
    Calls Try.prog 8 #[.agg #[u0, u1, u2, u3, u4], .agg #[.int .i64 c.th, .int .i64 c.op, .int .i64 c.arg, .int .i64 c.data, .int .i64 c.beg, .int .i64 c.fin, .int .i64 c.pt, .int .i64 c.ak, .int .i64 c.av]] W fun e w' => e = .returned (.bool true) ∧ Below W.heap.size W w' := by
  obtain ⟨a0, c0, rfl, _⟩ := hu.cell.form
  obtain ⟨a1, c1, rfl, _⟩ := hu.stack.form
  obtain ⟨a2, c2, rfl, _⟩ := hu.queue.form
  obtain ⟨a3, c3, rfl, _⟩ := hu.set.form
  obtain ⟨a4, c4, rfl, _⟩ := hu.table.form
  have hi := hx.mono (show 140737488351232 ≤ 225000000000000 by decide)
  have sx := hx.sm (by decide)
  obtain ⟨y, hy⟩ : ∃ y, y = ct0 := ⟨_, rfl⟩
  have CR := fun w' (h : CtAt w' (fun _ => True) (.slice a0 x.cell.length c0) (.slice a1 x.stack.length c1) (.slice a2 x.queue.length c2) (.slice a3 x.set.length c3) (.slice a4 x.table.length c4) x) => rCopy_any h hi
  have CD := fun w' (h : CtAt w' (fun _ => True) (.slice a0 x.cell.length c0) (.slice a1 x.stack.length c1) (.slice a2 x.queue.length c2) (.slice a3 x.set.length c3) (.slice a4 x.table.length c4) x) => mAllows_state h hi hm c
  have CM := fun w' (h : CtAt w' (fun _ => True) (.slice a0 x.cell.length c0) (.slice a1 x.stack.length c1) (.slice a2 x.queue.length c2) (.slice a3 x.set.length c3) (.slice a4 x.table.length c4) x) => rMay_any h sx false (by simp [hm])
  have CS := fun w' k0 k1 k2 k3 k4 (h : CtAt w' (fun _ => True) (.slice a0 x.cell.length c0) (.slice a1 x.stack.length c1) (.slice a2 x.queue.length c2) (.slice a3 x.set.length c3) (.slice a4 x.table.length c4) x) (hk : CtAt w' (fun _ => True) k0 k1 k2 k3 k4 x) => rSame_any h hk sx sx
  simp only [ctB_same] at CS
  rw [← hy] at CD
  have X0 := ((Below.refl W.heap.size W).alloc (Nat.le_refl _) (ctO (.slice a0 x.cell.length c0) (.slice a1 x.stack.length c1) (.slice a2 x.queue.length c2) (.slice a3 x.set.length c3) (.slice a4 x.table.length c4))).alloc (by simp) (cqO c)
  have G0 : ((W.alloc (ctO (.slice a0 x.cell.length c0) (.slice a1 x.stack.length c1) (.slice a2 x.queue.length c2) (.slice a3 x.set.length c3) (.slice a4 x.table.length c4))).alloc (cqO c)).heap[W.heap.size]? = some (ctO (.slice a0 x.cell.length c0) (.slice a1 x.stack.length c1) (.slice a2 x.queue.length c2) (.slice a3 x.set.length c3) (.slice a4 x.table.length c4)) := old_at (new_at W _ _ rfl) _
  have G1 : ((W.alloc (ctO (.slice a0 x.cell.length c0) (.slice a1 x.stack.length c1) (.slice a2 x.queue.length c2) (.slice a3 x.set.length c3) (.slice a4 x.table.length c4))).alloc (cqO c)).heap[W.heap.size + 1]? = some (cqO c) := new_at _ _ _ (by simp)
  have U0 := hu.below X0
  clear hu
  replace X0 := Mr.hid X0
  replace U0 := Mr.hid U0
  replace G0 := Mr.hid G0
  replace G1 := Mr.hid G1
  replace CR := Mr.hid CR
  replace CD := Mr.hid CD
  replace CM := Mr.hid CM
  replace CS := Mr.hid CS
  replace hm := Mr.hid hm
  replace hy := Mr.hid hy
  go_enter Try.func8, Try.ntmps8
  go_upto_region 1 with (fail)
  replace X0 := X0.out
  replace U0 := U0.out
  replace G0 := G0.out
  replace G1 := G1.out
  unfold ctO cqO at X0 U0
  conv at G0 => lhs; unfold ctO cqO
  conv at G1 => lhs; unfold ctO cqO
  generalize (W.alloc (.cells #[.slice a0 x.cell.length c0, .slice a1 x.stack.length c1, .slice a2 x.queue.length c2, .slice a3 x.set.length c3, .slice a4 x.table.length c4] 25 (0, 0))).alloc (.cells #[.int .i64 c.th, .int .i64 c.op, .int .i64 c.arg, .int .i64 c.data, .int .i64 c.beg, .int .i64 c.fin, .int .i64 c.pt, .int .i64 c.ak, .int .i64 c.av] 50 (0, 0)) = w1 at *
  obtain ⟨e0, e1, e2, e3, e4, el⟩ := ctO_cells G0
  have CR1 := Mr.hid (CR.out _ U0)
  have FF : ∀ b o, (fun b => if b = W.heap.size + 1 then some (cqO c) else none) b = some o → w1.heap[b]? = some o := fun b o hbo => by
    by_cases hb : b = W.heap.size + 1
    · subst hb; simp at hbo; rw [← hbo]; exact G1
    · simp [hb] at hbo
  replace FF := Mr.hid FF
  replace X0 := Mr.hid X0
  replace U0 := Mr.hid U0
  replace G0 := Mr.hid G0
  replace G1 := Mr.hid G1
  clear CR
  go_upto_region 2 with (first | (go_at_call 19; refine CR1.out.mono ?_; clear CR1; rintro e w2 ⟨k0, k1, k2, k3, k4, rfl, hk, hB2⟩; have DK := Dk.first FF.out X0.out G0.out U0.out hB2 hk; clear X0 G0 U0 hB2 G1 FF; obtain ⟨p0, q0, rfl, _⟩ := hk.cell.form; obtain ⟨p1, q1, rfl, _⟩ := hk.stack.form; obtain ⟨p2, q2, rfl, _⟩ := hk.queue.form; obtain ⟨p3, q3, rfl, _⟩ := hk.set.form; obtain ⟨p4, q4, rfl, _⟩ := hk.table.form;  clear hk e0 e1 e2 e3 e4; replace DK := Mr.hid DK))
  obtain ⟨bk, hbk⟩ : ∃ b, b = w2.heap.size := ⟨_, rfl⟩
  rw [← hbk] at DK ⊢
  clear hbk
  replace DK := DK.out
  conv at DK => arg 2; unfold ctO
  generalize w2.alloc (.cells #[.slice p0 x.cell.length q0, .slice p1 x.stack.length q1, .slice p2 x.queue.length q2, .slice p3 x.set.length q3, .slice p4 x.table.length q4] 25 (0, 0)) = w3 at *
  obtain ⟨e0, e1, e2, e3, e4, el⟩ := ctO_cells DK.s
  obtain ⟨o0, o1, o2, o3, o4, o5, o6, o7, o8, ol⟩ := cq_cells (DK.fix (W.heap.size + 1) (cqO c) (by simp))
  have CD1 := Mr.hid (CD.out _ DK.sat)
  replace DK := Mr.hid DK
  clear CD
  go_upto_region 3 with (first | (go_at_call 17; refine CD1.out.mono ?_; clear CD1; rintro e w4 ⟨l0, l1, l2, l3, l4, rfl, hl, hB4⟩; have DZ := Dk.then1 DK.out hB4 hl; clear DK hB4; obtain ⟨z0, m0, rfl, _⟩ := hl.cell.form; obtain ⟨z1, m1, rfl, _⟩ := hl.stack.form; obtain ⟨z2, m2, rfl, _⟩ := hl.queue.form; obtain ⟨z3, m3, rfl, _⟩ := hl.set.form; obtain ⟨z4, m4, rfl, _⟩ := hl.table.form;  clear hl e0 e1 e2 e3 e4 o0 o1 o2 o3 o4 o5 o6 o7 o8 ol el; replace DZ := Mr.hid DZ))
  obtain ⟨bl, hbl⟩ : ∃ b, b = w4.heap.size := ⟨_, rfl⟩
  rw [← hbl] at DZ ⊢
  clear hbl
  replace DZ := DZ.out
  conv at DZ => arg 2; unfold ctO
  generalize (w4.alloc (.cells #[.slice z0 y.cell.length m0, .slice z1 y.stack.length m1, .slice z2 y.queue.length m2, .slice z3 y.set.length m3, .slice z4 y.table.length m4] 25 (0, 0))) = w5 at *
  have CS1 := fun w' (h : Dz W w' W.heap.size bk bl (.slice a0 x.cell.length c0) (.slice a1 x.stack.length c1) (.slice a2 x.queue.length c2) (.slice a3 x.set.length c3) (.slice a4 x.table.length c4) (.slice p0 x.cell.length q0) (.slice p1 x.stack.length q1) (.slice p2 x.queue.length q2) (.slice p3 x.set.length q3) (.slice p4 x.table.length q4) (.slice z0 y.cell.length m0) (.slice z1 y.stack.length m1) (.slice z2 y.queue.length m2) (.slice z3 y.set.length m3) (.slice z4 y.table.length m4) x y none (fun b => if b = W.heap.size + 1 then some (cqO c) else none)) => CS.out w' _ _ _ _ _ h.sat h.kat
  have CM1 := fun w' (h : Dz W w' W.heap.size bk bl (.slice a0 x.cell.length c0) (.slice a1 x.stack.length c1) (.slice a2 x.queue.length c2) (.slice a3 x.set.length c3) (.slice a4 x.table.length c4) (.slice p0 x.cell.length q0) (.slice p1 x.stack.length q1) (.slice p2 x.queue.length q2) (.slice p3 x.set.length q3) (.slice p4 x.table.length q4) (.slice z0 y.cell.length m0) (.slice z1 y.stack.length m1) (.slice z2 y.queue.length m2) (.slice z3 y.set.length m3) (.slice z4 y.table.length m4) x y none (fun b => if b = W.heap.size + 1 then some (cqO c) else none)) => CM.out w' h.sat
  have CL := fun w' (h : Dz W w' W.heap.size bk bl (.slice a0 x.cell.length c0) (.slice a1 x.stack.length c1) (.slice a2 x.queue.length c2) (.slice a3 x.set.length c3) (.slice a4 x.table.length c4) (.slice p0 x.cell.length q0) (.slice p1 x.stack.length q1) (.slice p2 x.queue.length q2) (.slice p3 x.set.length q3) (.slice p4 x.table.length q4) (.slice z0 y.cell.length m0) (.slice z1 y.stack.length m1) (.slice z2 y.queue.length m2) (.slice z3 y.set.length m3) (.slice z4 y.table.length m4) x y none (fun b => if b = W.heap.size + 1 then some (cqO c) else none)) => (⟨ctO_cells h.s, ctO_cells h.kept, ctO_cells h.left, cq_cells (h.fix (W.heap.size + 1) (cqO c) (by simp))⟩ : _ ∧ _ ∧ _ ∧ _)
  replace CS1 := Mr.hid CS1
  replace CM1 := Mr.hid CM1
  replace CL := Mr.hid CL
  replace DZ := Mr.hid DZ
  clear CS CM
  go_upto_region 5 with (first | (go_at_call 11; refine (awake_any _).mono ?_; rintro e w6 ⟨rfl, hB6⟩; have DZ := Mr.hid (DZ.out.next hB6); clear hB6; obtain ⟨⟨e0, e1, e2, e3, e4, e5⟩, ⟨g0, g1, g2, g3, g4, g5⟩, -, -⟩ := CL.out _ DZ.out) | (go_at_call 21; refine (CS1.out _ DZ.out).mono ?_; clear CS1 e0 e1 e2 e3 e4 e5 g0 g1 g2 g3 g4 g5; rintro e w7 ⟨rfl, hB7⟩; have DZ := Mr.hid (DZ.out.next hB7); clear hB7; obtain ⟨⟨e0, e1, e2, e3, e4, e5⟩, ⟨g0, g1, g2, g3, g4, g5⟩, -, -⟩ := CL.out _ DZ.out))
  have sy : CtSm y := by rw [hy.out]; exact ⟨by decide, by decide, by decide, by decide, by decide⟩
  have SF := fun w' (h : Dz W w' W.heap.size bk bl (.slice a0 x.cell.length c0) (.slice a1 x.stack.length c1) (.slice a2 x.queue.length c2) (.slice a3 x.set.length c3) (.slice a4 x.table.length c4) (.slice p0 x.cell.length q0) (.slice p1 x.stack.length q1) (.slice p2 x.queue.length q2) (.slice p3 x.set.length q3) (.slice p4 x.table.length q4) (.slice z0 y.cell.length m0) (.slice z1 y.stack.length m1) (.slice z2 y.queue.length m2) (.slice z3 y.set.length m3) (.slice z4 y.table.length m4) x y none (fun b => if b = W.heap.size + 1 then some (cqO c) else none)) => rSame_any (T := fun _ => True) h.lat (ct0_at w' _) sy ⟨by decide, by decide, by decide, by decide, by decide⟩
  rw [show ctB y ct0 = true from by rw [hy.out]; decide] at SF
  replace SF := Mr.hid SF
  go_wp2_with (first | (go_at_call 23; refine (CM1.out _ DZ.out).mono ?_; clear CM1; rintro e w8 ⟨rfl, hB8⟩; have DZ := Mr.hid (DZ.out.next hB8); clear hB8; clear e0 e1 e2 e3 e4 e5 g0 g1 g2 g3 g4 g5; obtain ⟨⟨e0, e1, e2, e3, e4, e5⟩, ⟨g0, g1, g2, g3, g4, g5⟩, ⟨h0, h1, h2, h3, h4, h5⟩, ⟨o0, o1, o2, o3, o4, o5, o6, o7, o8, ol⟩⟩ := CL.out _ DZ.out) | (go_at_call 21; refine (SF.out _ DZ.out).mono ?_; clear SF; rintro e w10 ⟨rfl, hB10⟩; have hE := Mr.hid (DZ.out.next hB10).bel; clear hB10))
  go_ret
  exact ⟨rfl, hE.out⟩
set_option maxRecDepth 100000 in
set_option maxHeartbeats 16000000 in
theorem alws_ill (u0 u1 u2 u3 u4 : Value) (x : Ct) (c : Cq) (W : World) (hu : CtAt W (fun _ => True) u0 u1 u2 u3 u4 x) (hx : CtIn 140737488351232 x) (hm : May x) (ho : obj c.op = 0) :
    Calls Try.prog 8 #[.agg #[u0, u1, u2, u3, u4], .agg #[.int .i64 c.th, .int .i64 c.op, .int .i64 c.arg, .int .i64 c.data, .int .i64 c.beg, .int .i64 c.fin, .int .i64 c.pt, .int .i64 c.ak, .int .i64 c.av]] W fun e w' => e = .returned (.bool true) ∧ Below W.heap.size W w' := by
  obtain ⟨a0, c0, rfl, _⟩ := hu.cell.form
  obtain ⟨a1, c1, rfl, _⟩ := hu.stack.form
  obtain ⟨a2, c2, rfl, _⟩ := hu.queue.form
  obtain ⟨a3, c3, rfl, _⟩ := hu.set.form
  obtain ⟨a4, c4, rfl, _⟩ := hu.table.form
  have hi := hx.mono (show 140737488351232 ≤ 225000000000000 by decide)
  have sx := hx.sm (by decide)
  obtain ⟨y, hy⟩ : ∃ y, y = ct0 := ⟨_, rfl⟩
  have CR := fun w' (h : CtAt w' (fun _ => True) (.slice a0 x.cell.length c0) (.slice a1 x.stack.length c1) (.slice a2 x.queue.length c2) (.slice a3 x.set.length c3) (.slice a4 x.table.length c4) x) => rCopy_any h hi
  have CD := fun w' (h : CtAt w' (fun _ => True) (.slice a0 x.cell.length c0) (.slice a1 x.stack.length c1) (.slice a2 x.queue.length c2) (.slice a3 x.set.length c3) (.slice a4 x.table.length c4) x) => mAllows_ill h hi hm c ho
  have CM := fun w' (h : CtAt w' (fun _ => True) (.slice a0 x.cell.length c0) (.slice a1 x.stack.length c1) (.slice a2 x.queue.length c2) (.slice a3 x.set.length c3) (.slice a4 x.table.length c4) x) => rMay_any h sx true (by simp [hm])
  have CS := fun w' k0 k1 k2 k3 k4 (h : CtAt w' (fun _ => True) (.slice a0 x.cell.length c0) (.slice a1 x.stack.length c1) (.slice a2 x.queue.length c2) (.slice a3 x.set.length c3) (.slice a4 x.table.length c4) x) (hk : CtAt w' (fun _ => True) k0 k1 k2 k3 k4 x) => rSame_any h hk sx sx
  simp only [ctB_same] at CS
  rw [← hy] at CD
  have X0 := ((Below.refl W.heap.size W).alloc (Nat.le_refl _) (ctO (.slice a0 x.cell.length c0) (.slice a1 x.stack.length c1) (.slice a2 x.queue.length c2) (.slice a3 x.set.length c3) (.slice a4 x.table.length c4))).alloc (by simp) (cqO c)
  have G0 : ((W.alloc (ctO (.slice a0 x.cell.length c0) (.slice a1 x.stack.length c1) (.slice a2 x.queue.length c2) (.slice a3 x.set.length c3) (.slice a4 x.table.length c4))).alloc (cqO c)).heap[W.heap.size]? = some (ctO (.slice a0 x.cell.length c0) (.slice a1 x.stack.length c1) (.slice a2 x.queue.length c2) (.slice a3 x.set.length c3) (.slice a4 x.table.length c4)) := old_at (new_at W _ _ rfl) _
  have G1 : ((W.alloc (ctO (.slice a0 x.cell.length c0) (.slice a1 x.stack.length c1) (.slice a2 x.queue.length c2) (.slice a3 x.set.length c3) (.slice a4 x.table.length c4))).alloc (cqO c)).heap[W.heap.size + 1]? = some (cqO c) := new_at _ _ _ (by simp)
  have U0 := hu.below X0
  clear hu
  replace X0 := Mr.hid X0
  replace U0 := Mr.hid U0
  replace G0 := Mr.hid G0
  replace G1 := Mr.hid G1
  replace CR := Mr.hid CR
  replace CD := Mr.hid CD
  replace CM := Mr.hid CM
  replace CS := Mr.hid CS
  replace hm := Mr.hid hm
  replace hy := Mr.hid hy
  replace ho := Mr.hid ho
  go_enter Try.func8, Try.ntmps8
  go_upto_region 1 with (fail)
  replace X0 := X0.out
  replace U0 := U0.out
  replace G0 := G0.out
  replace G1 := G1.out
  unfold ctO cqO at X0 U0
  conv at G0 => lhs; unfold ctO cqO
  conv at G1 => lhs; unfold ctO cqO
  generalize (W.alloc (.cells #[.slice a0 x.cell.length c0, .slice a1 x.stack.length c1, .slice a2 x.queue.length c2, .slice a3 x.set.length c3, .slice a4 x.table.length c4] 25 (0, 0))).alloc (.cells #[.int .i64 c.th, .int .i64 c.op, .int .i64 c.arg, .int .i64 c.data, .int .i64 c.beg, .int .i64 c.fin, .int .i64 c.pt, .int .i64 c.ak, .int .i64 c.av] 50 (0, 0)) = w1 at *
  obtain ⟨e0, e1, e2, e3, e4, el⟩ := ctO_cells G0
  have CR1 := Mr.hid (CR.out _ U0)
  have FF : ∀ b o, (fun b => if b = W.heap.size + 1 then some (cqO c) else none) b = some o → w1.heap[b]? = some o := fun b o hbo => by
    by_cases hb : b = W.heap.size + 1
    · subst hb; simp at hbo; rw [← hbo]; exact G1
    · simp [hb] at hbo
  replace FF := Mr.hid FF
  replace X0 := Mr.hid X0
  replace U0 := Mr.hid U0
  replace G0 := Mr.hid G0
  replace G1 := Mr.hid G1
  clear CR
  go_upto_region 2 with (first | (go_at_call 19; refine CR1.out.mono ?_; clear CR1; rintro e w2 ⟨k0, k1, k2, k3, k4, rfl, hk, hB2⟩; have DK := Dk.first FF.out X0.out G0.out U0.out hB2 hk; clear X0 G0 U0 hB2 G1 FF; obtain ⟨p0, q0, rfl, _⟩ := hk.cell.form; obtain ⟨p1, q1, rfl, _⟩ := hk.stack.form; obtain ⟨p2, q2, rfl, _⟩ := hk.queue.form; obtain ⟨p3, q3, rfl, _⟩ := hk.set.form; obtain ⟨p4, q4, rfl, _⟩ := hk.table.form;  clear hk e0 e1 e2 e3 e4; replace DK := Mr.hid DK))
  obtain ⟨bk, hbk⟩ : ∃ b, b = w2.heap.size := ⟨_, rfl⟩
  rw [← hbk] at DK ⊢
  clear hbk
  replace DK := DK.out
  conv at DK => arg 2; unfold ctO
  generalize w2.alloc (.cells #[.slice p0 x.cell.length q0, .slice p1 x.stack.length q1, .slice p2 x.queue.length q2, .slice p3 x.set.length q3, .slice p4 x.table.length q4] 25 (0, 0)) = w3 at *
  obtain ⟨e0, e1, e2, e3, e4, el⟩ := ctO_cells DK.s
  obtain ⟨o0, o1, o2, o3, o4, o5, o6, o7, o8, ol⟩ := cq_cells (DK.fix (W.heap.size + 1) (cqO c) (by simp))
  have CD1 := Mr.hid (CD.out _ DK.sat)
  replace DK := Mr.hid DK
  clear CD
  go_upto_region 3 with (first | (go_at_call 17; refine CD1.out.mono ?_; clear CD1; rintro e w4 ⟨l0, l1, l2, l3, l4, rfl, hl, hB4⟩; have DZ := Dk.then1 DK.out hB4 hl; clear DK hB4; obtain ⟨z0, m0, rfl, _⟩ := hl.cell.form; obtain ⟨z1, m1, rfl, _⟩ := hl.stack.form; obtain ⟨z2, m2, rfl, _⟩ := hl.queue.form; obtain ⟨z3, m3, rfl, _⟩ := hl.set.form; obtain ⟨z4, m4, rfl, _⟩ := hl.table.form;  clear hl e0 e1 e2 e3 e4 o0 o1 o2 o3 o4 o5 o6 o7 o8 ol el; replace DZ := Mr.hid DZ))
  obtain ⟨bl, hbl⟩ : ∃ b, b = w4.heap.size := ⟨_, rfl⟩
  rw [← hbl] at DZ ⊢
  clear hbl
  replace DZ := DZ.out
  conv at DZ => arg 2; unfold ctO
  generalize (w4.alloc (.cells #[.slice z0 y.cell.length m0, .slice z1 y.stack.length m1, .slice z2 y.queue.length m2, .slice z3 y.set.length m3, .slice z4 y.table.length m4] 25 (0, 0))) = w5 at *
  have CS1 := fun w' (h : Dz W w' W.heap.size bk bl (.slice a0 x.cell.length c0) (.slice a1 x.stack.length c1) (.slice a2 x.queue.length c2) (.slice a3 x.set.length c3) (.slice a4 x.table.length c4) (.slice p0 x.cell.length q0) (.slice p1 x.stack.length q1) (.slice p2 x.queue.length q2) (.slice p3 x.set.length q3) (.slice p4 x.table.length q4) (.slice z0 y.cell.length m0) (.slice z1 y.stack.length m1) (.slice z2 y.queue.length m2) (.slice z3 y.set.length m3) (.slice z4 y.table.length m4) x y none (fun b => if b = W.heap.size + 1 then some (cqO c) else none)) => CS.out w' _ _ _ _ _ h.sat h.kat
  have CM1 := fun w' (h : Dz W w' W.heap.size bk bl (.slice a0 x.cell.length c0) (.slice a1 x.stack.length c1) (.slice a2 x.queue.length c2) (.slice a3 x.set.length c3) (.slice a4 x.table.length c4) (.slice p0 x.cell.length q0) (.slice p1 x.stack.length q1) (.slice p2 x.queue.length q2) (.slice p3 x.set.length q3) (.slice p4 x.table.length q4) (.slice z0 y.cell.length m0) (.slice z1 y.stack.length m1) (.slice z2 y.queue.length m2) (.slice z3 y.set.length m3) (.slice z4 y.table.length m4) x y none (fun b => if b = W.heap.size + 1 then some (cqO c) else none)) => CM.out w' h.sat
  have CL := fun w' (h : Dz W w' W.heap.size bk bl (.slice a0 x.cell.length c0) (.slice a1 x.stack.length c1) (.slice a2 x.queue.length c2) (.slice a3 x.set.length c3) (.slice a4 x.table.length c4) (.slice p0 x.cell.length q0) (.slice p1 x.stack.length q1) (.slice p2 x.queue.length q2) (.slice p3 x.set.length q3) (.slice p4 x.table.length q4) (.slice z0 y.cell.length m0) (.slice z1 y.stack.length m1) (.slice z2 y.queue.length m2) (.slice z3 y.set.length m3) (.slice z4 y.table.length m4) x y none (fun b => if b = W.heap.size + 1 then some (cqO c) else none)) => (⟨ctO_cells h.s, ctO_cells h.kept, ctO_cells h.left, cq_cells (h.fix (W.heap.size + 1) (cqO c) (by simp))⟩ : _ ∧ _ ∧ _ ∧ _)
  replace CS1 := Mr.hid CS1
  replace CM1 := Mr.hid CM1
  replace CL := Mr.hid CL
  replace DZ := Mr.hid DZ
  clear CS CM
  go_upto_region 5 with (first | (go_at_call 11; refine (awake_any _).mono ?_; rintro e w6 ⟨rfl, hB6⟩; have DZ := Mr.hid (DZ.out.next hB6); clear hB6; obtain ⟨⟨e0, e1, e2, e3, e4, e5⟩, ⟨g0, g1, g2, g3, g4, g5⟩, -, -⟩ := CL.out _ DZ.out) | (go_at_call 21; refine (CS1.out _ DZ.out).mono ?_; clear CS1 e0 e1 e2 e3 e4 e5 g0 g1 g2 g3 g4 g5; rintro e w7 ⟨rfl, hB7⟩; have DZ := Mr.hid (DZ.out.next hB7); clear hB7; obtain ⟨⟨e0, e1, e2, e3, e4, e5⟩, ⟨g0, g1, g2, g3, g4, g5⟩, -, -⟩ := CL.out _ DZ.out))
  have sy : CtSm y := by rw [hy.out]; exact ⟨by decide, by decide, by decide, by decide, by decide⟩
  have SF := fun w' (h : Dz W w' W.heap.size bk bl (.slice a0 x.cell.length c0) (.slice a1 x.stack.length c1) (.slice a2 x.queue.length c2) (.slice a3 x.set.length c3) (.slice a4 x.table.length c4) (.slice p0 x.cell.length q0) (.slice p1 x.stack.length q1) (.slice p2 x.queue.length q2) (.slice p3 x.set.length q3) (.slice p4 x.table.length q4) (.slice z0 y.cell.length m0) (.slice z1 y.stack.length m1) (.slice z2 y.queue.length m2) (.slice z3 y.set.length m3) (.slice z4 y.table.length m4) x y none (fun b => if b = W.heap.size + 1 then some (cqO c) else none)) => rSame_any (T := fun _ => True) h.lat (ct0_at w' _) sy ⟨by decide, by decide, by decide, by decide, by decide⟩
  rw [show ctB y ct0 = true from by rw [hy.out]; decide] at SF
  replace SF := Mr.hid SF
  have CO := rObject_any c.op
  rw [ho.out] at CO
  replace CO := Mr.hid CO
  go_wp2_with (first | (go_at_call 23; refine (CM1.out _ DZ.out).mono ?_; clear CM1; rintro e w8 ⟨rfl, hB8⟩; have DZ := Mr.hid (DZ.out.next hB8); clear hB8; clear e0 e1 e2 e3 e4 e5 g0 g1 g2 g3 g4 g5; obtain ⟨⟨e0, e1, e2, e3, e4, e5⟩, ⟨g0, g1, g2, g3, g4, g5⟩, ⟨h0, h1, h2, h3, h4, h5⟩, ⟨o0, o1, o2, o3, o4, o5, o6, o7, o8, ol⟩⟩ := CL.out _ DZ.out) | (go_at_call 24; refine (CO.out _).mono ?_; clear CO; rintro e w' ⟨rfl, hw'⟩; obtain rfl := hw'.symm; clear hw') | (go_at_call 21; refine (SF.out _ DZ.out).mono ?_; clear SF; rintro e w10 ⟨rfl, hB10⟩; have hE := Mr.hid (DZ.out.next hB10).bel; clear hB10))
  go_ret
  exact ⟨rfl, hE.out⟩
/-- ModelAllows, of any call. -/
theorem walk_allows (u0 u1 u2 u3 u4 : Value) (x : Ct) (c : Cq) (W : World) (hu : CtAt W (fun _ => True) u0 u1 u2 u3 u4 x) (hx : CtIn 140737488351232 x) :
    Calls Try.prog 8 #[.agg #[u0, u1, u2, u3, u4], .agg #[.int .i64 c.th, .int .i64 c.op, .int .i64 c.arg, .int .i64 c.data, .int .i64 c.beg, .int .i64 c.fin, .int .i64 c.pt, .int .i64 c.ak, .int .i64 c.av]] W fun e w' => e = .returned (.bool true) ∧ Below W.heap.size W w' := by
  by_cases hm : May x
  · by_cases ho : obj c.op = 0
    · exact alws_ill u0 u1 u2 u3 u4 x c W hu hx hm ho
    · exact alws_any u0 u1 u2 u3 u4 x c W hu hx hm ho
  · exact alws_state u0 u1 u2 u3 u4 x c W hu hx hm
end Go.Proofs.Ytegbcocbopgghab.Md
