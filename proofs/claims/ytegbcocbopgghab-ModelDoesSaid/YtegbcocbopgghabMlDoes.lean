/-
  ModelDoes: the walk.
-/
import Derived.Test.YtegbcocbopgghabMlDz
import Derived.Deep.RegionHeld3
namespace Go.Proofs.Ytegbcocbopgghab.Md
open Go.RowKit Mr Me
set_option linter.unusedVariables false
set_option linter.unusedSimpArgs false
set_option maxRecDepth 100000 in
set_option maxHeartbeats 16000000 in
theorem does_any (u0 u1 u2 u3 u4 : Value) (x : Ct) (op arg data : Int) (W : World) (hu : CtAt W (fun _ => True) u0 u1 u2 u3 u4 x) (hx : CtIn 140737488351232 x) (hm : May x) (ho : obj op ≠ 0) :
    Calls Try.prog 7 #[.agg #[u0, u1, u2, u3, u4, .int .i64 op, .int .i64 arg, .int .i64 data]] W fun e w' => e = .returned (.bool true) ∧ Below W.heap.size W w' := by
  obtain ⟨a0, c0, rfl, _⟩ := hu.cell.form
  obtain ⟨a1, c1, rfl, _⟩ := hu.stack.form
  obtain ⟨a2, c2, rfl, _⟩ := hu.queue.form
  obtain ⟨a3, c3, rfl, _⟩ := hu.set.form
  obtain ⟨a4, c4, rfl, _⟩ := hu.table.form
  have hi := hx.mono (show 140737488351232 ≤ 225000000000000 by decide)
  have sx := hx.sm (by decide)
  obtain ⟨ak, av, hak⟩ : ∃ a b, (dan x op arg) = (a, b) := ⟨_, _, rfl⟩
  obtain ⟨y, hy⟩ : ∃ y, y = dnx x op arg data := ⟨_, rfl⟩
  have CR := fun w' (h : CtAt w' (fun _ => True) (.slice a0 x.cell.length c0) (.slice a1 x.stack.length c1) (.slice a2 x.queue.length c2) (.slice a3 x.set.length c3) (.slice a4 x.table.length c4) x) => rCopy_any h hi
  have CD := fun w' (h : CtAt w' (fun _ => True) (.slice a0 x.cell.length c0) (.slice a1 x.stack.length c1) (.slice a2 x.queue.length c2) (.slice a3 x.set.length c3) (.slice a4 x.table.length c4) x) => mDo_any h hi hm op arg data ho
  have CM := fun w' (h : CtAt w' (fun _ => True) (.slice a0 x.cell.length c0) (.slice a1 x.stack.length c1) (.slice a2 x.queue.length c2) (.slice a3 x.set.length c3) (.slice a4 x.table.length c4) x) => rMay_any h sx true (by simp [hm])
  have CS := fun w' k0 k1 k2 k3 k4 (h : CtAt w' (fun _ => True) (.slice a0 x.cell.length c0) (.slice a1 x.stack.length c1) (.slice a2 x.queue.length c2) (.slice a3 x.set.length c3) (.slice a4 x.table.length c4) x) (hk : CtAt w' (fun _ => True) k0 k1 k2 k3 k4 x) => rSame_any h hk sx sx
  simp only [ctB_same] at CS
  have RD := fun w' (h : CtAt w' (fun _ => True) (.slice a0 x.cell.length c0) (.slice a1 x.stack.length c1) (.slice a2 x.queue.length c2) (.slice a3 x.set.length c3) (.slice a4 x.table.length c4) x) => rDo_any h hi op arg data ho
  rw [hak, ← hy] at CD RD
  have X0 := (Below.refl W.heap.size W).alloc (Nat.le_refl _) (.cells #[.slice a0 x.cell.length c0, .slice a1 x.stack.length c1, .slice a2 x.queue.length c2, .slice a3 x.set.length c3, .slice a4 x.table.length c4, .int .i64 op, .int .i64 arg, .int .i64 data] 61 (0, 0))
  have bx0 : (W.alloc (.cells #[.slice a0 x.cell.length c0, .slice a1 x.stack.length c1, .slice a2 x.queue.length c2, .slice a3 x.set.length c3, .slice a4 x.table.length c4, .int .i64 op, .int .i64 arg, .int .i64 data] 61 (0, 0))).heap[W.heap.size]? = some (.cells #[.slice a0 x.cell.length c0, .slice a1 x.stack.length c1, .slice a2 x.queue.length c2, .slice a3 x.set.length c3, .slice a4 x.table.length c4, .int .i64 op, .int .i64 arg, .int .i64 data] 61 (0, 0)) := new_at W _ _ rfl
  have U0 := hu.below X0
  have e0 := cell_blk bx0 0
  have e1 := cell_blk bx0 1
  have e2 := cell_blk bx0 2
  have e3 := cell_blk bx0 3
  have e4 := cell_blk bx0 4
  have e5 := cell_blk bx0 5
  have e6 := cell_blk bx0 6
  have e7 := cell_blk bx0 7
  clear bx0 hu
  replace X0 := Mr.hid X0
  replace U0 := Mr.hid U0
  replace CR := Mr.hid CR
  replace CD := Mr.hid CD
  replace CM := Mr.hid CM
  replace CS := Mr.hid CS
  replace hm := Mr.hid hm
  replace ho := Mr.hid ho
  replace hak := Mr.hid hak
  replace hy := Mr.hid hy
  replace RD := Mr.hid RD
  go_enter Try.func7, Try.ntmps7
  go_upto_region 1 with (fail)
  simp only [List.getElem?_toArray, List.getElem?_cons_zero, List.getElem?_cons_succ] at e0 e1 e2 e3 e4 e5 e6 e7
  have hsz0 : W.heap.size < (W.alloc (.cells #[.slice a0 x.cell.length c0, .slice a1 x.stack.length c1, .slice a2 x.queue.length c2, .slice a3 x.set.length c3, .slice a4 x.table.length c4, .int .i64 op, .int .i64 arg, .int .i64 data] 61 (0, 0))).heap.size := by simp
  generalize W.alloc (.cells #[.slice a0 x.cell.length c0, .slice a1 x.stack.length c1, .slice a2 x.queue.length c2, .slice a3 x.set.length c3, .slice a4 x.table.length c4, .int .i64 op, .int .i64 arg, .int .i64 data] 61 (0, 0)) = w0 at *
  have KS := Mr.hid (And.intro e0 (And.intro e1 (And.intro e2 (And.intro e3 (And.intro e4 (And.intro e5 (And.intro e6 e7)))))))
  go_region_held3 (fun w' => w'.cell? ⟨W.heap.size, 0, none⟩ = some (.slice a0 x.cell.length c0) ∧ w'.cell? ⟨W.heap.size, 1, none⟩ = some (.slice a1 x.stack.length c1) ∧ w'.cell? ⟨W.heap.size, 2, none⟩ = some (.slice a2 x.queue.length c2) ∧ w'.cell? ⟨W.heap.size, 3, none⟩ = some (.slice a3 x.set.length c3) ∧ w'.cell? ⟨W.heap.size, 4, none⟩ = some (.slice a4 x.table.length c4) ∧ w'.cell? ⟨W.heap.size, 5, none⟩ = some (.int .i64 op) ∧ w'.cell? ⟨W.heap.size, 6, none⟩ = some (.int .i64 arg) ∧ w'.cell? ⟨W.heap.size, 7, none⟩ = some (.int .i64 data)) (go_keep) (fail)
  rename_i hHd
  clear hHd e0 e1 e2 e3 e4 e5 e6 e7 KS
  have X1 := (X0.out.alloc X0.out.size (ctO (.slice a0 x.cell.length c0) (.slice a1 x.stack.length c1) (.slice a2 x.queue.length c2) (.slice a3 x.set.length c3) (.slice a4 x.table.length c4))).drew
  have U1 := U0.out.below ((Below.refl w0.heap.size w0).alloc (Nat.le_refl _) (ctO (.slice a0 x.cell.length c0) (.slice a1 x.stack.length c1) (.slice a2 x.queue.length c2) (.slice a3 x.set.length c3) (.slice a4 x.table.length c4))).drew
  have G1 : (w0.alloc (ctO (.slice a0 x.cell.length c0) (.slice a1 x.stack.length c1) (.slice a2 x.queue.length c2) (.slice a3 x.set.length c3) (.slice a4 x.table.length c4))).drew.heap[w0.heap.size]? = some (ctO (.slice a0 x.cell.length c0) (.slice a1 x.stack.length c1) (.slice a2 x.queue.length c2) (.slice a3 x.set.length c3) (.slice a4 x.table.length c4)) := new_at w0 _ _ rfl
  unfold ctO at X1 U1
  conv at G1 => lhs; unfold ctO
  clear X0 U0
  obtain ⟨b1, hb1⟩ : ∃ b, b = w0.heap.size := ⟨_, rfl⟩
  rw [← hb1] at G1 ⊢
  replace hb1 := Mr.hid hb1
  generalize (w0.alloc (.cells #[.slice a0 x.cell.length c0, .slice a1 x.stack.length c1, .slice a2 x.queue.length c2, .slice a3 x.set.length c3, .slice a4 x.table.length c4] 25 (0, 0))).drew = w1 at *
  obtain ⟨e0, e1, e2, e3, e4, el⟩ := ctO_cells G1
  have CR1 := Mr.hid (CR.out _ U1)
  replace X1 := Mr.hid X1
  replace U1 := Mr.hid U1
  replace G1 := Mr.hid G1
  clear CR hsz0 hb1 w0
  go_upto_region 3 with (first | (go_at_call 19; refine CR1.out.mono ?_; clear CR1; rintro e w2 ⟨k0, k1, k2, k3, k4, rfl, hk, hB2⟩; have DK := Dk.first (fx := fun _ => none) (fun b o ho => by cases ho) X1.out G1.out U1.out hB2 hk; clear X1 G1 U1 hB2; obtain ⟨p0, q0, rfl, _⟩ := hk.cell.form; obtain ⟨p1, q1, rfl, _⟩ := hk.stack.form; obtain ⟨p2, q2, rfl, _⟩ := hk.queue.form; obtain ⟨p3, q3, rfl, _⟩ := hk.set.form; obtain ⟨p4, q4, rfl, _⟩ := hk.table.form;  clear hk e0 e1 e2 e3 e4; replace DK := Mr.hid DK))
  obtain ⟨bk, hbk⟩ : ∃ b, b = w2.heap.size := ⟨_, rfl⟩
  rw [← hbk] at DK ⊢
  clear hbk
  replace DK := DK.out
  conv at DK => arg 2; unfold ctO
  generalize w2.alloc (.cells #[.slice p0 x.cell.length q0, .slice p1 x.stack.length q1, .slice p2 x.queue.length q2, .slice p3 x.set.length q3, .slice p4 x.table.length q4] 25 (0, 0)) = w3 at *
  obtain ⟨e0, e1, e2, e3, e4, el⟩ := ctO_cells DK.s
  have CD1 := Mr.hid (CD.out _ DK.sat)
  replace DK := Mr.hid DK
  clear CD el
  go_upto_region 4 with (first | (go_at_call 10; refine CD1.out.mono ?_; clear CD1; rintro e w4 ⟨l0, l1, l2, l3, l4, rfl, hl, hB4⟩; unfold ans; have DZ := Dk.then2 (ansO ak av) DK.out hB4 hl; clear DK hB4; obtain ⟨z0, m0, rfl, _⟩ := hl.cell.form; obtain ⟨z1, m1, rfl, _⟩ := hl.stack.form; obtain ⟨z2, m2, rfl, _⟩ := hl.queue.form; obtain ⟨z3, m3, rfl, _⟩ := hl.set.form; obtain ⟨z4, m4, rfl, _⟩ := hl.table.form;  clear hl e0 e1 e2 e3 e4; replace DZ := Mr.hid DZ))
  obtain ⟨bl, hbl⟩ : ∃ b, b = w4.heap.size := ⟨_, rfl⟩
  rw [← hbl] at DZ ⊢
  clear hbl
  replace DZ := DZ.out
  conv at DZ => arg 2; unfold ctO ansO
  generalize (w4.alloc (.cells #[.slice z0 y.cell.length m0, .slice z1 y.stack.length m1, .slice z2 y.queue.length m2, .slice z3 y.set.length m3, .slice z4 y.table.length m4] 25 (0, 0))).alloc (.cells #[.int .i64 ak, .int .i64 av] 31 (0, 0)) = w5 at *
  have CS1 := fun w' (h : Dz W w' b1 bk bl (.slice a0 x.cell.length c0) (.slice a1 x.stack.length c1) (.slice a2 x.queue.length c2) (.slice a3 x.set.length c3) (.slice a4 x.table.length c4) (.slice p0 x.cell.length q0) (.slice p1 x.stack.length q1) (.slice p2 x.queue.length q2) (.slice p3 x.set.length q3) (.slice p4 x.table.length q4) (.slice z0 y.cell.length m0) (.slice z1 y.stack.length m1) (.slice z2 y.queue.length m2) (.slice z3 y.set.length m3) (.slice z4 y.table.length m4) x y (some (ansO ak av)) (fun _ => none)) => CS.out w' _ _ _ _ _ h.sat h.kat
  have CM1 := fun w' (h : Dz W w' b1 bk bl (.slice a0 x.cell.length c0) (.slice a1 x.stack.length c1) (.slice a2 x.queue.length c2) (.slice a3 x.set.length c3) (.slice a4 x.table.length c4) (.slice p0 x.cell.length q0) (.slice p1 x.stack.length q1) (.slice p2 x.queue.length q2) (.slice p3 x.set.length q3) (.slice p4 x.table.length q4) (.slice z0 y.cell.length m0) (.slice z1 y.stack.length m1) (.slice z2 y.queue.length m2) (.slice z3 y.set.length m3) (.slice z4 y.table.length m4) x y (some (ansO ak av)) (fun _ => none)) => CM.out w' h.sat
  have CL := fun w' (h : Dz W w' b1 bk bl (.slice a0 x.cell.length c0) (.slice a1 x.stack.length c1) (.slice a2 x.queue.length c2) (.slice a3 x.set.length c3) (.slice a4 x.table.length c4) (.slice p0 x.cell.length q0) (.slice p1 x.stack.length q1) (.slice p2 x.queue.length q2) (.slice p3 x.set.length q3) (.slice p4 x.table.length q4) (.slice z0 y.cell.length m0) (.slice z1 y.stack.length m1) (.slice z2 y.queue.length m2) (.slice z3 y.set.length m3) (.slice z4 y.table.length m4) x y (some (ansO ak av)) (fun _ => none)) => (⟨ctO_cells h.s, ctO_cells h.kept, ctO_cells h.left, ansO_cells (h.more _ rfl)⟩ : _ ∧ _ ∧ _ ∧ _)
  replace CS1 := Mr.hid CS1
  replace CM1 := Mr.hid CM1
  replace CL := Mr.hid CL
  replace DZ := Mr.hid DZ
  clear CS CM
  go_upto_region 6 with (first | (go_at_call 11; refine (awake_any _).mono ?_; rintro e w6 ⟨rfl, hB6⟩; have DZ := Mr.hid (DZ.out.next hB6); clear hB6; obtain ⟨⟨e0, e1, e2, e3, e4, e5⟩, ⟨g0, g1, g2, g3, g4, g5⟩, -, -⟩ := CL.out _ DZ.out) | (go_at_call 21; refine (CS1.out _ DZ.out).mono ?_; clear CS1 e0 e1 e2 e3 e4 e5 g0 g1 g2 g3 g4 g5; rintro e w7 ⟨rfl, hB7⟩; have DZ := Mr.hid (DZ.out.next hB7); clear hB7; obtain ⟨⟨e0, e1, e2, e3, e4, e5⟩, ⟨g0, g1, g2, g3, g4, g5⟩, -, -⟩ := CL.out _ DZ.out))
  have sy : CtSm y := by rw [hy.out]; exact (dnx_in hx op arg data).sm (by decide)
  obtain ⟨ob, hob⟩ : ∃ b, b = obj op := ⟨_, rfl⟩
  have CO := rObject_any op
  rw [← hob] at CO
  have ob0 : (ob == 0) = false := by rw [beq_eq_false_iff_ne, hob]; exact ho.out
  replace hob := Mr.hid hob
  replace CO := Mr.hid CO
  go_wp2_with (first | (go_at_call 23; refine (CM1.out _ DZ.out).mono ?_; clear CM1; rintro e w8 ⟨rfl, hB8⟩; have DZ := Mr.hid (DZ.out.next hB8); clear hB8; clear e0 e1 e2 e3 e4 e5 g0 g1 g2 g3 g4 g5; obtain ⟨⟨e0, e1, e2, e3, e4, e5⟩, ⟨g0, g1, g2, g3, g4, g5⟩, ⟨h0, h1, h2, h3, h4, h5⟩, ⟨j0, j1, j2, -, -⟩⟩ := CL.out _ DZ.out) | (go_at_call 24; refine (CO.out _).mono ?_; clear CO; rintro e w' ⟨rfl, hw'⟩; obtain rfl := hw'.symm; clear hw') | (go_at_call 25; refine (RD.out _ DZ.out.sat).mono ?_; clear RD; rintro e w9 ⟨d0, d1, d2, d3, d4, rfl, hw, hB9⟩; unfold ans; clear h0 h1 h2 h3 h4 h5 j0 j1 j2; have DZ := Mr.hid (DZ.out.next hB9); clear hB9; clear e0 e1 e2 e3 e4 e5 g0 g1 g2 g3 g4 g5; obtain ⟨⟨e0, e1, e2, e3, e4, e5⟩, ⟨g0, g1, g2, g3, g4, g5⟩, ⟨h0, h1, h2, h3, h4, h5⟩, ⟨j0, j1, j2, -, -⟩⟩ := CL.out _ DZ.out; have SF := fun w' (hB : Below w9.heap.size w9 w') => rSame_any (DZ.out.lat.below hB) (hw.below hB) sy sy; simp only [ctB_same] at SF; obtain ⟨s0, t0, rfl, _⟩ := hw.cell.form; obtain ⟨s1, t1, rfl, _⟩ := hw.stack.form; obtain ⟨s2, t2, rfl, _⟩ := hw.queue.form; obtain ⟨s3, t3, rfl, _⟩ := hw.set.form; obtain ⟨s4, t4, rfl, _⟩ := hw.table.form;  clear hw; replace SF := Mr.hid SF) | (go_at_call 21; refine (SF.out _ (((Below.refl _ _).alloc (Nat.le_refl _) _).alloc (by simp) _)).mono ?_; clear SF; rintro e w10 ⟨rfl, hB10⟩; have hE := DZ.out.bel.trans ((((Below.refl _ _).alloc (Nat.le_refl _) _).alloc (by simp) _).trans (hB10.mono (by simp; omega)) |>.mono DZ.out.bel.size); clear hB10; replace hE := Mr.hid hE))
  go_ret
  exact ⟨rfl, hE.out⟩
set_option maxRecDepth 100000 in
set_option maxHeartbeats 16000000 in
theorem does_state (u0 u1 u2 u3 u4 : Value) (x : Ct) (op arg data : Int) (W : World) (hu : CtAt W (fun _ => True) u0 u1 u2 u3 u4 x) (hx : CtIn 140737488351232 x) (hm : ¬ May x) :
    Calls Try.prog 7 #[.agg #[u0, u1, u2, u3, u4, .int .i64 op, .int .i64 arg, .int .i64 data]] W fun e w' => e = .returned (.bool true) ∧ Below W.heap.size W w' := by
  obtain ⟨a0, c0, rfl, _⟩ := hu.cell.form
  obtain ⟨a1, c1, rfl, _⟩ := hu.stack.form
  obtain ⟨a2, c2, rfl, _⟩ := hu.queue.form
  obtain ⟨a3, c3, rfl, _⟩ := hu.set.form
  obtain ⟨a4, c4, rfl, _⟩ := hu.table.form
  have hi := hx.mono (show 140737488351232 ≤ 225000000000000 by decide)
  have sx := hx.sm (by decide)
  obtain ⟨y, hy⟩ : ∃ y, y = ct0 := ⟨_, rfl⟩
  have CR := fun w' (h : CtAt w' (fun _ => True) (.slice a0 x.cell.length c0) (.slice a1 x.stack.length c1) (.slice a2 x.queue.length c2) (.slice a3 x.set.length c3) (.slice a4 x.table.length c4) x) => rCopy_any h hi
  have CD := fun w' (h : CtAt w' (fun _ => True) (.slice a0 x.cell.length c0) (.slice a1 x.stack.length c1) (.slice a2 x.queue.length c2) (.slice a3 x.set.length c3) (.slice a4 x.table.length c4) x) => mDo_state h hi hm op arg data
  have CM := fun w' (h : CtAt w' (fun _ => True) (.slice a0 x.cell.length c0) (.slice a1 x.stack.length c1) (.slice a2 x.queue.length c2) (.slice a3 x.set.length c3) (.slice a4 x.table.length c4) x) => rMay_any h sx false (by simp [hm])
  have CS := fun w' k0 k1 k2 k3 k4 (h : CtAt w' (fun _ => True) (.slice a0 x.cell.length c0) (.slice a1 x.stack.length c1) (.slice a2 x.queue.length c2) (.slice a3 x.set.length c3) (.slice a4 x.table.length c4) x) (hk : CtAt w' (fun _ => True) k0 k1 k2 k3 k4 x) => rSame_any h hk sx sx
  simp only [ctB_same] at CS
  rw [← hy] at CD
  have X0 := (Below.refl W.heap.size W).alloc (Nat.le_refl _) (.cells #[.slice a0 x.cell.length c0, .slice a1 x.stack.length c1, .slice a2 x.queue.length c2, .slice a3 x.set.length c3, .slice a4 x.table.length c4, .int .i64 op, .int .i64 arg, .int .i64 data] 61 (0, 0))
  have bx0 : (W.alloc (.cells #[.slice a0 x.cell.length c0, .slice a1 x.stack.length c1, .slice a2 x.queue.length c2, .slice a3 x.set.length c3, .slice a4 x.table.length c4, .int .i64 op, .int .i64 arg, .int .i64 data] 61 (0, 0))).heap[W.heap.size]? = some (.cells #[.slice a0 x.cell.length c0, .slice a1 x.stack.length c1, .slice a2 x.queue.length c2, .slice a3 x.set.length c3, .slice a4 x.table.length c4, .int .i64 op, .int .i64 arg, .int .i64 data] 61 (0, 0)) := new_at W _ _ rfl
  have U0 := hu.below X0
  have e0 := cell_blk bx0 0
  have e1 := cell_blk bx0 1
  have e2 := cell_blk bx0 2
  have e3 := cell_blk bx0 3
  have e4 := cell_blk bx0 4
  have e5 := cell_blk bx0 5
  have e6 := cell_blk bx0 6
  have e7 := cell_blk bx0 7
  clear bx0 hu
  replace X0 := Mr.hid X0
  replace U0 := Mr.hid U0
  replace CR := Mr.hid CR
  replace CD := Mr.hid CD
  replace CM := Mr.hid CM
  replace CS := Mr.hid CS
  replace hm := Mr.hid hm
  replace hy := Mr.hid hy
  go_enter Try.func7, Try.ntmps7
  go_upto_region 1 with (fail)
  simp only [List.getElem?_toArray, List.getElem?_cons_zero, List.getElem?_cons_succ] at e0 e1 e2 e3 e4 e5 e6 e7
  have hsz0 : W.heap.size < (W.alloc (.cells #[.slice a0 x.cell.length c0, .slice a1 x.stack.length c1, .slice a2 x.queue.length c2, .slice a3 x.set.length c3, .slice a4 x.table.length c4, .int .i64 op, .int .i64 arg, .int .i64 data] 61 (0, 0))).heap.size := by simp
  generalize W.alloc (.cells #[.slice a0 x.cell.length c0, .slice a1 x.stack.length c1, .slice a2 x.queue.length c2, .slice a3 x.set.length c3, .slice a4 x.table.length c4, .int .i64 op, .int .i64 arg, .int .i64 data] 61 (0, 0)) = w0 at *
  have KS := Mr.hid (And.intro e0 (And.intro e1 (And.intro e2 (And.intro e3 (And.intro e4 (And.intro e5 (And.intro e6 e7)))))))
  go_region_held3 (fun w' => w'.cell? ⟨W.heap.size, 0, none⟩ = some (.slice a0 x.cell.length c0) ∧ w'.cell? ⟨W.heap.size, 1, none⟩ = some (.slice a1 x.stack.length c1) ∧ w'.cell? ⟨W.heap.size, 2, none⟩ = some (.slice a2 x.queue.length c2) ∧ w'.cell? ⟨W.heap.size, 3, none⟩ = some (.slice a3 x.set.length c3) ∧ w'.cell? ⟨W.heap.size, 4, none⟩ = some (.slice a4 x.table.length c4) ∧ w'.cell? ⟨W.heap.size, 5, none⟩ = some (.int .i64 op) ∧ w'.cell? ⟨W.heap.size, 6, none⟩ = some (.int .i64 arg) ∧ w'.cell? ⟨W.heap.size, 7, none⟩ = some (.int .i64 data)) (go_keep) (fail)
  rename_i hHd
  clear hHd e0 e1 e2 e3 e4 e5 e6 e7 KS
  have X1 := (X0.out.alloc X0.out.size (ctO (.slice a0 x.cell.length c0) (.slice a1 x.stack.length c1) (.slice a2 x.queue.length c2) (.slice a3 x.set.length c3) (.slice a4 x.table.length c4))).drew
  have U1 := U0.out.below ((Below.refl w0.heap.size w0).alloc (Nat.le_refl _) (ctO (.slice a0 x.cell.length c0) (.slice a1 x.stack.length c1) (.slice a2 x.queue.length c2) (.slice a3 x.set.length c3) (.slice a4 x.table.length c4))).drew
  have G1 : (w0.alloc (ctO (.slice a0 x.cell.length c0) (.slice a1 x.stack.length c1) (.slice a2 x.queue.length c2) (.slice a3 x.set.length c3) (.slice a4 x.table.length c4))).drew.heap[w0.heap.size]? = some (ctO (.slice a0 x.cell.length c0) (.slice a1 x.stack.length c1) (.slice a2 x.queue.length c2) (.slice a3 x.set.length c3) (.slice a4 x.table.length c4)) := new_at w0 _ _ rfl
  unfold ctO at X1 U1
  conv at G1 => lhs; unfold ctO
  clear X0 U0
  obtain ⟨b1, hb1⟩ : ∃ b, b = w0.heap.size := ⟨_, rfl⟩
  rw [← hb1] at G1 ⊢
  replace hb1 := Mr.hid hb1
  generalize (w0.alloc (.cells #[.slice a0 x.cell.length c0, .slice a1 x.stack.length c1, .slice a2 x.queue.length c2, .slice a3 x.set.length c3, .slice a4 x.table.length c4] 25 (0, 0))).drew = w1 at *
  obtain ⟨e0, e1, e2, e3, e4, el⟩ := ctO_cells G1
  have CR1 := Mr.hid (CR.out _ U1)
  replace X1 := Mr.hid X1
  replace U1 := Mr.hid U1
  replace G1 := Mr.hid G1
  clear CR hsz0 hb1 w0
  go_upto_region 3 with (first | (go_at_call 19; refine CR1.out.mono ?_; clear CR1; rintro e w2 ⟨k0, k1, k2, k3, k4, rfl, hk, hB2⟩; have DK := Dk.first (fx := fun _ => none) (fun b o ho => by cases ho) X1.out G1.out U1.out hB2 hk; clear X1 G1 U1 hB2; obtain ⟨p0, q0, rfl, _⟩ := hk.cell.form; obtain ⟨p1, q1, rfl, _⟩ := hk.stack.form; obtain ⟨p2, q2, rfl, _⟩ := hk.queue.form; obtain ⟨p3, q3, rfl, _⟩ := hk.set.form; obtain ⟨p4, q4, rfl, _⟩ := hk.table.form;  clear hk e0 e1 e2 e3 e4; replace DK := Mr.hid DK))
  obtain ⟨bk, hbk⟩ : ∃ b, b = w2.heap.size := ⟨_, rfl⟩
  rw [← hbk] at DK ⊢
  clear hbk
  replace DK := DK.out
  conv at DK => arg 2; unfold ctO
  generalize w2.alloc (.cells #[.slice p0 x.cell.length q0, .slice p1 x.stack.length q1, .slice p2 x.queue.length q2, .slice p3 x.set.length q3, .slice p4 x.table.length q4] 25 (0, 0)) = w3 at *
  obtain ⟨e0, e1, e2, e3, e4, el⟩ := ctO_cells DK.s
  have CD1 := Mr.hid (CD.out _ DK.sat)
  replace DK := Mr.hid DK
  clear CD el
  go_upto_region 4 with (first | (go_at_call 10; refine CD1.out.mono ?_; clear CD1; rintro e w4 ⟨l0, l1, l2, l3, l4, rfl, hl, hB4⟩; unfold ans; have DZ := Dk.then2 (ansO 0 0) DK.out hB4 hl; clear DK hB4; obtain ⟨z0, m0, rfl, _⟩ := hl.cell.form; obtain ⟨z1, m1, rfl, _⟩ := hl.stack.form; obtain ⟨z2, m2, rfl, _⟩ := hl.queue.form; obtain ⟨z3, m3, rfl, _⟩ := hl.set.form; obtain ⟨z4, m4, rfl, _⟩ := hl.table.form;  clear hl e0 e1 e2 e3 e4; replace DZ := Mr.hid DZ))
  obtain ⟨bl, hbl⟩ : ∃ b, b = w4.heap.size := ⟨_, rfl⟩
  rw [← hbl] at DZ ⊢
  clear hbl
  replace DZ := DZ.out
  conv at DZ => arg 2; unfold ctO ansO
  generalize (w4.alloc (.cells #[.slice z0 y.cell.length m0, .slice z1 y.stack.length m1, .slice z2 y.queue.length m2, .slice z3 y.set.length m3, .slice z4 y.table.length m4] 25 (0, 0))).alloc (.cells #[.int .i64 0, .int .i64 0] 31 (0, 0)) = w5 at *
  have CS1 := fun w' (h : Dz W w' b1 bk bl (.slice a0 x.cell.length c0) (.slice a1 x.stack.length c1) (.slice a2 x.queue.length c2) (.slice a3 x.set.length c3) (.slice a4 x.table.length c4) (.slice p0 x.cell.length q0) (.slice p1 x.stack.length q1) (.slice p2 x.queue.length q2) (.slice p3 x.set.length q3) (.slice p4 x.table.length q4) (.slice z0 y.cell.length m0) (.slice z1 y.stack.length m1) (.slice z2 y.queue.length m2) (.slice z3 y.set.length m3) (.slice z4 y.table.length m4) x y (some (ansO 0 0)) (fun _ => none)) => CS.out w' _ _ _ _ _ h.sat h.kat
  have CM1 := fun w' (h : Dz W w' b1 bk bl (.slice a0 x.cell.length c0) (.slice a1 x.stack.length c1) (.slice a2 x.queue.length c2) (.slice a3 x.set.length c3) (.slice a4 x.table.length c4) (.slice p0 x.cell.length q0) (.slice p1 x.stack.length q1) (.slice p2 x.queue.length q2) (.slice p3 x.set.length q3) (.slice p4 x.table.length q4) (.slice z0 y.cell.length m0) (.slice z1 y.stack.length m1) (.slice z2 y.queue.length m2) (.slice z3 y.set.length m3) (.slice z4 y.table.length m4) x y (some (ansO 0 0)) (fun _ => none)) => CM.out w' h.sat
  have CL := fun w' (h : Dz W w' b1 bk bl (.slice a0 x.cell.length c0) (.slice a1 x.stack.length c1) (.slice a2 x.queue.length c2) (.slice a3 x.set.length c3) (.slice a4 x.table.length c4) (.slice p0 x.cell.length q0) (.slice p1 x.stack.length q1) (.slice p2 x.queue.length q2) (.slice p3 x.set.length q3) (.slice p4 x.table.length q4) (.slice z0 y.cell.length m0) (.slice z1 y.stack.length m1) (.slice z2 y.queue.length m2) (.slice z3 y.set.length m3) (.slice z4 y.table.length m4) x y (some (ansO 0 0)) (fun _ => none)) => (⟨ctO_cells h.s, ctO_cells h.kept, ctO_cells h.left, ansO_cells (h.more _ rfl)⟩ : _ ∧ _ ∧ _ ∧ _)
  replace CS1 := Mr.hid CS1
  replace CM1 := Mr.hid CM1
  replace CL := Mr.hid CL
  replace DZ := Mr.hid DZ
  clear CS CM
  go_upto_region 6 with (first | (go_at_call 11; refine (awake_any _).mono ?_; rintro e w6 ⟨rfl, hB6⟩; have DZ := Mr.hid (DZ.out.next hB6); clear hB6; obtain ⟨⟨e0, e1, e2, e3, e4, e5⟩, ⟨g0, g1, g2, g3, g4, g5⟩, -, -⟩ := CL.out _ DZ.out) | (go_at_call 21; refine (CS1.out _ DZ.out).mono ?_; clear CS1 e0 e1 e2 e3 e4 e5 g0 g1 g2 g3 g4 g5; rintro e w7 ⟨rfl, hB7⟩; have DZ := Mr.hid (DZ.out.next hB7); clear hB7; obtain ⟨⟨e0, e1, e2, e3, e4, e5⟩, ⟨g0, g1, g2, g3, g4, g5⟩, -, -⟩ := CL.out _ DZ.out))
  have sy : CtSm y := by rw [hy.out]; exact ⟨by decide, by decide, by decide, by decide, by decide⟩
  have SF := fun w' (h : Dz W w' b1 bk bl (.slice a0 x.cell.length c0) (.slice a1 x.stack.length c1) (.slice a2 x.queue.length c2) (.slice a3 x.set.length c3) (.slice a4 x.table.length c4) (.slice p0 x.cell.length q0) (.slice p1 x.stack.length q1) (.slice p2 x.queue.length q2) (.slice p3 x.set.length q3) (.slice p4 x.table.length q4) (.slice z0 y.cell.length m0) (.slice z1 y.stack.length m1) (.slice z2 y.queue.length m2) (.slice z3 y.set.length m3) (.slice z4 y.table.length m4) x y (some (ansO 0 0)) (fun _ => none)) => rSame_any (T := fun _ => True) h.lat (ct0_at w' _) sy ⟨by decide, by decide, by decide, by decide, by decide⟩
  rw [show ctB y ct0 = true from by rw [hy.out]; decide] at SF
  replace SF := Mr.hid SF
  go_wp2_with (first | (go_at_call 23; refine (CM1.out _ DZ.out).mono ?_; clear CM1; rintro e w8 ⟨rfl, hB8⟩; have DZ := Mr.hid (DZ.out.next hB8); clear hB8; clear e0 e1 e2 e3 e4 e5 g0 g1 g2 g3 g4 g5; obtain ⟨⟨e0, e1, e2, e3, e4, e5⟩, ⟨g0, g1, g2, g3, g4, g5⟩, ⟨h0, h1, h2, h3, h4, h5⟩, ⟨j0, j1, j2, -, -⟩⟩ := CL.out _ DZ.out) | (go_at_call 21; refine (SF.out _ DZ.out).mono ?_; clear SF; rintro e w10 ⟨rfl, hB10⟩; have hE := Mr.hid (DZ.out.next hB10).bel; clear hB10))
  go_ret
  exact ⟨rfl, hE.out⟩
set_option maxRecDepth 100000 in
set_option maxHeartbeats 16000000 in
theorem does_ill (u0 u1 u2 u3 u4 : Value) (x : Ct) (op arg data : Int) (W : World) (hu : CtAt W (fun _ => True) u0 u1 u2 u3 u4 x) (hx : CtIn 140737488351232 x) (hm : May x) (ho : obj op = 0) :
    Calls Try.prog 7 #[.agg #[u0, u1, u2, u3, u4, .int .i64 op, .int .i64 arg, .int .i64 data]] W fun e w' => e = .returned (.bool true) ∧ Below W.heap.size W w' := by
  obtain ⟨a0, c0, rfl, _⟩ := hu.cell.form
  obtain ⟨a1, c1, rfl, _⟩ := hu.stack.form
  obtain ⟨a2, c2, rfl, _⟩ := hu.queue.form
  obtain ⟨a3, c3, rfl, _⟩ := hu.set.form
  obtain ⟨a4, c4, rfl, _⟩ := hu.table.form
  have hi := hx.mono (show 140737488351232 ≤ 225000000000000 by decide)
  have sx := hx.sm (by decide)
  obtain ⟨y, hy⟩ : ∃ y, y = ct0 := ⟨_, rfl⟩
  have CR := fun w' (h : CtAt w' (fun _ => True) (.slice a0 x.cell.length c0) (.slice a1 x.stack.length c1) (.slice a2 x.queue.length c2) (.slice a3 x.set.length c3) (.slice a4 x.table.length c4) x) => rCopy_any h hi
  have CD := fun w' (h : CtAt w' (fun _ => True) (.slice a0 x.cell.length c0) (.slice a1 x.stack.length c1) (.slice a2 x.queue.length c2) (.slice a3 x.set.length c3) (.slice a4 x.table.length c4) x) => mDo_ill h hi hm op arg data ho
  have CM := fun w' (h : CtAt w' (fun _ => True) (.slice a0 x.cell.length c0) (.slice a1 x.stack.length c1) (.slice a2 x.queue.length c2) (.slice a3 x.set.length c3) (.slice a4 x.table.length c4) x) => rMay_any h sx true (by simp [hm])
  have CS := fun w' k0 k1 k2 k3 k4 (h : CtAt w' (fun _ => True) (.slice a0 x.cell.length c0) (.slice a1 x.stack.length c1) (.slice a2 x.queue.length c2) (.slice a3 x.set.length c3) (.slice a4 x.table.length c4) x) (hk : CtAt w' (fun _ => True) k0 k1 k2 k3 k4 x) => rSame_any h hk sx sx
  simp only [ctB_same] at CS
  rw [← hy] at CD
  have X0 := (Below.refl W.heap.size W).alloc (Nat.le_refl _) (.cells #[.slice a0 x.cell.length c0, .slice a1 x.stack.length c1, .slice a2 x.queue.length c2, .slice a3 x.set.length c3, .slice a4 x.table.length c4, .int .i64 op, .int .i64 arg, .int .i64 data] 61 (0, 0))
  have bx0 : (W.alloc (.cells #[.slice a0 x.cell.length c0, .slice a1 x.stack.length c1, .slice a2 x.queue.length c2, .slice a3 x.set.length c3, .slice a4 x.table.length c4, .int .i64 op, .int .i64 arg, .int .i64 data] 61 (0, 0))).heap[W.heap.size]? = some (.cells #[.slice a0 x.cell.length c0, .slice a1 x.stack.length c1, .slice a2 x.queue.length c2, .slice a3 x.set.length c3, .slice a4 x.table.length c4, .int .i64 op, .int .i64 arg, .int .i64 data] 61 (0, 0)) := new_at W _ _ rfl
  have U0 := hu.below X0
  have e0 := cell_blk bx0 0
  have e1 := cell_blk bx0 1
  have e2 := cell_blk bx0 2
  have e3 := cell_blk bx0 3
  have e4 := cell_blk bx0 4
  have e5 := cell_blk bx0 5
  have e6 := cell_blk bx0 6
  have e7 := cell_blk bx0 7
  clear bx0 hu
  replace X0 := Mr.hid X0
  replace U0 := Mr.hid U0
  replace CR := Mr.hid CR
  replace CD := Mr.hid CD
  replace CM := Mr.hid CM
  replace CS := Mr.hid CS
  replace hm := Mr.hid hm
  replace hy := Mr.hid hy
  replace ho := Mr.hid ho
  go_enter Try.func7, Try.ntmps7
  go_upto_region 1 with (fail)
  simp only [List.getElem?_toArray, List.getElem?_cons_zero, List.getElem?_cons_succ] at e0 e1 e2 e3 e4 e5 e6 e7
  have hsz0 : W.heap.size < (W.alloc (.cells #[.slice a0 x.cell.length c0, .slice a1 x.stack.length c1, .slice a2 x.queue.length c2, .slice a3 x.set.length c3, .slice a4 x.table.length c4, .int .i64 op, .int .i64 arg, .int .i64 data] 61 (0, 0))).heap.size := by simp
  generalize W.alloc (.cells #[.slice a0 x.cell.length c0, .slice a1 x.stack.length c1, .slice a2 x.queue.length c2, .slice a3 x.set.length c3, .slice a4 x.table.length c4, .int .i64 op, .int .i64 arg, .int .i64 data] 61 (0, 0)) = w0 at *
  have KS := Mr.hid (And.intro e0 (And.intro e1 (And.intro e2 (And.intro e3 (And.intro e4 (And.intro e5 (And.intro e6 e7)))))))
  go_region_held3 (fun w' => w'.cell? ⟨W.heap.size, 0, none⟩ = some (.slice a0 x.cell.length c0) ∧ w'.cell? ⟨W.heap.size, 1, none⟩ = some (.slice a1 x.stack.length c1) ∧ w'.cell? ⟨W.heap.size, 2, none⟩ = some (.slice a2 x.queue.length c2) ∧ w'.cell? ⟨W.heap.size, 3, none⟩ = some (.slice a3 x.set.length c3) ∧ w'.cell? ⟨W.heap.size, 4, none⟩ = some (.slice a4 x.table.length c4) ∧ w'.cell? ⟨W.heap.size, 5, none⟩ = some (.int .i64 op) ∧ w'.cell? ⟨W.heap.size, 6, none⟩ = some (.int .i64 arg) ∧ w'.cell? ⟨W.heap.size, 7, none⟩ = some (.int .i64 data)) (go_keep) (fail)
  rename_i hHd
  clear hHd e0 e1 e2 e3 e4 e5 e6 e7 KS
  have X1 := (X0.out.alloc X0.out.size (ctO (.slice a0 x.cell.length c0) (.slice a1 x.stack.length c1) (.slice a2 x.queue.length c2) (.slice a3 x.set.length c3) (.slice a4 x.table.length c4))).drew
  have U1 := U0.out.below ((Below.refl w0.heap.size w0).alloc (Nat.le_refl _) (ctO (.slice a0 x.cell.length c0) (.slice a1 x.stack.length c1) (.slice a2 x.queue.length c2) (.slice a3 x.set.length c3) (.slice a4 x.table.length c4))).drew
  have G1 : (w0.alloc (ctO (.slice a0 x.cell.length c0) (.slice a1 x.stack.length c1) (.slice a2 x.queue.length c2) (.slice a3 x.set.length c3) (.slice a4 x.table.length c4))).drew.heap[w0.heap.size]? = some (ctO (.slice a0 x.cell.length c0) (.slice a1 x.stack.length c1) (.slice a2 x.queue.length c2) (.slice a3 x.set.length c3) (.slice a4 x.table.length c4)) := new_at w0 _ _ rfl
  unfold ctO at X1 U1
  conv at G1 => lhs; unfold ctO
  clear X0 U0
  obtain ⟨b1, hb1⟩ : ∃ b, b = w0.heap.size := ⟨_, rfl⟩
  rw [← hb1] at G1 ⊢
  replace hb1 := Mr.hid hb1
  generalize (w0.alloc (.cells #[.slice a0 x.cell.length c0, .slice a1 x.stack.length c1, .slice a2 x.queue.length c2, .slice a3 x.set.length c3, .slice a4 x.table.length c4] 25 (0, 0))).drew = w1 at *
  obtain ⟨e0, e1, e2, e3, e4, el⟩ := ctO_cells G1
  have CR1 := Mr.hid (CR.out _ U1)
  replace X1 := Mr.hid X1
  replace U1 := Mr.hid U1
  replace G1 := Mr.hid G1
  clear CR hsz0 hb1 w0
  go_upto_region 3 with (first | (go_at_call 19; refine CR1.out.mono ?_; clear CR1; rintro e w2 ⟨k0, k1, k2, k3, k4, rfl, hk, hB2⟩; have DK := Dk.first (fx := fun _ => none) (fun b o ho => by cases ho) X1.out G1.out U1.out hB2 hk; clear X1 G1 U1 hB2; obtain ⟨p0, q0, rfl, _⟩ := hk.cell.form; obtain ⟨p1, q1, rfl, _⟩ := hk.stack.form; obtain ⟨p2, q2, rfl, _⟩ := hk.queue.form; obtain ⟨p3, q3, rfl, _⟩ := hk.set.form; obtain ⟨p4, q4, rfl, _⟩ := hk.table.form;  clear hk e0 e1 e2 e3 e4; replace DK := Mr.hid DK))
  obtain ⟨bk, hbk⟩ : ∃ b, b = w2.heap.size := ⟨_, rfl⟩
  rw [← hbk] at DK ⊢
  clear hbk
  replace DK := DK.out
  conv at DK => arg 2; unfold ctO
  generalize w2.alloc (.cells #[.slice p0 x.cell.length q0, .slice p1 x.stack.length q1, .slice p2 x.queue.length q2, .slice p3 x.set.length q3, .slice p4 x.table.length q4] 25 (0, 0)) = w3 at *
  obtain ⟨e0, e1, e2, e3, e4, el⟩ := ctO_cells DK.s
  have CD1 := Mr.hid (CD.out _ DK.sat)
  replace DK := Mr.hid DK
  clear CD el
  go_upto_region 4 with (first | (go_at_call 10; refine CD1.out.mono ?_; clear CD1; rintro e w4 ⟨l0, l1, l2, l3, l4, rfl, hl, hB4⟩; unfold ans; have DZ := Dk.then2 (ansO 0 0) DK.out hB4 hl; clear DK hB4; obtain ⟨z0, m0, rfl, _⟩ := hl.cell.form; obtain ⟨z1, m1, rfl, _⟩ := hl.stack.form; obtain ⟨z2, m2, rfl, _⟩ := hl.queue.form; obtain ⟨z3, m3, rfl, _⟩ := hl.set.form; obtain ⟨z4, m4, rfl, _⟩ := hl.table.form;  clear hl e0 e1 e2 e3 e4; replace DZ := Mr.hid DZ))
  obtain ⟨bl, hbl⟩ : ∃ b, b = w4.heap.size := ⟨_, rfl⟩
  rw [← hbl] at DZ ⊢
  clear hbl
  replace DZ := DZ.out
  conv at DZ => arg 2; unfold ctO ansO
  generalize (w4.alloc (.cells #[.slice z0 y.cell.length m0, .slice z1 y.stack.length m1, .slice z2 y.queue.length m2, .slice z3 y.set.length m3, .slice z4 y.table.length m4] 25 (0, 0))).alloc (.cells #[.int .i64 0, .int .i64 0] 31 (0, 0)) = w5 at *
  have CS1 := fun w' (h : Dz W w' b1 bk bl (.slice a0 x.cell.length c0) (.slice a1 x.stack.length c1) (.slice a2 x.queue.length c2) (.slice a3 x.set.length c3) (.slice a4 x.table.length c4) (.slice p0 x.cell.length q0) (.slice p1 x.stack.length q1) (.slice p2 x.queue.length q2) (.slice p3 x.set.length q3) (.slice p4 x.table.length q4) (.slice z0 y.cell.length m0) (.slice z1 y.stack.length m1) (.slice z2 y.queue.length m2) (.slice z3 y.set.length m3) (.slice z4 y.table.length m4) x y (some (ansO 0 0)) (fun _ => none)) => CS.out w' _ _ _ _ _ h.sat h.kat
  have CM1 := fun w' (h : Dz W w' b1 bk bl (.slice a0 x.cell.length c0) (.slice a1 x.stack.length c1) (.slice a2 x.queue.length c2) (.slice a3 x.set.length c3) (.slice a4 x.table.length c4) (.slice p0 x.cell.length q0) (.slice p1 x.stack.length q1) (.slice p2 x.queue.length q2) (.slice p3 x.set.length q3) (.slice p4 x.table.length q4) (.slice z0 y.cell.length m0) (.slice z1 y.stack.length m1) (.slice z2 y.queue.length m2) (.slice z3 y.set.length m3) (.slice z4 y.table.length m4) x y (some (ansO 0 0)) (fun _ => none)) => CM.out w' h.sat
  have CL := fun w' (h : Dz W w' b1 bk bl (.slice a0 x.cell.length c0) (.slice a1 x.stack.length c1) (.slice a2 x.queue.length c2) (.slice a3 x.set.length c3) (.slice a4 x.table.length c4) (.slice p0 x.cell.length q0) (.slice p1 x.stack.length q1) (.slice p2 x.queue.length q2) (.slice p3 x.set.length q3) (.slice p4 x.table.length q4) (.slice z0 y.cell.length m0) (.slice z1 y.stack.length m1) (.slice z2 y.queue.length m2) (.slice z3 y.set.length m3) (.slice z4 y.table.length m4) x y (some (ansO 0 0)) (fun _ => none)) => (⟨ctO_cells h.s, ctO_cells h.kept, ctO_cells h.left, ansO_cells (h.more _ rfl)⟩ : _ ∧ _ ∧ _ ∧ _)
  replace CS1 := Mr.hid CS1
  replace CM1 := Mr.hid CM1
  replace CL := Mr.hid CL
  replace DZ := Mr.hid DZ
  clear CS CM
  go_upto_region 6 with (first | (go_at_call 11; refine (awake_any _).mono ?_; rintro e w6 ⟨rfl, hB6⟩; have DZ := Mr.hid (DZ.out.next hB6); clear hB6; obtain ⟨⟨e0, e1, e2, e3, e4, e5⟩, ⟨g0, g1, g2, g3, g4, g5⟩, -, -⟩ := CL.out _ DZ.out) | (go_at_call 21; refine (CS1.out _ DZ.out).mono ?_; clear CS1 e0 e1 e2 e3 e4 e5 g0 g1 g2 g3 g4 g5; rintro e w7 ⟨rfl, hB7⟩; have DZ := Mr.hid (DZ.out.next hB7); clear hB7; obtain ⟨⟨e0, e1, e2, e3, e4, e5⟩, ⟨g0, g1, g2, g3, g4, g5⟩, -, -⟩ := CL.out _ DZ.out))
  have sy : CtSm y := by rw [hy.out]; exact ⟨by decide, by decide, by decide, by decide, by decide⟩
  have SF := fun w' (h : Dz W w' b1 bk bl (.slice a0 x.cell.length c0) (.slice a1 x.stack.length c1) (.slice a2 x.queue.length c2) (.slice a3 x.set.length c3) (.slice a4 x.table.length c4) (.slice p0 x.cell.length q0) (.slice p1 x.stack.length q1) (.slice p2 x.queue.length q2) (.slice p3 x.set.length q3) (.slice p4 x.table.length q4) (.slice z0 y.cell.length m0) (.slice z1 y.stack.length m1) (.slice z2 y.queue.length m2) (.slice z3 y.set.length m3) (.slice z4 y.table.length m4) x y (some (ansO 0 0)) (fun _ => none)) => rSame_any (T := fun _ => True) h.lat (ct0_at w' _) sy ⟨by decide, by decide, by decide, by decide, by decide⟩
  rw [show ctB y ct0 = true from by rw [hy.out]; decide] at SF
  replace SF := Mr.hid SF
  have CO := rObject_any op
  rw [ho.out] at CO
  replace CO := Mr.hid CO
  go_wp2_with (first | (go_at_call 23; refine (CM1.out _ DZ.out).mono ?_; clear CM1; rintro e w8 ⟨rfl, hB8⟩; have DZ := Mr.hid (DZ.out.next hB8); clear hB8; clear e0 e1 e2 e3 e4 e5 g0 g1 g2 g3 g4 g5; obtain ⟨⟨e0, e1, e2, e3, e4, e5⟩, ⟨g0, g1, g2, g3, g4, g5⟩, ⟨h0, h1, h2, h3, h4, h5⟩, ⟨j0, j1, j2, -, -⟩⟩ := CL.out _ DZ.out) | (go_at_call 24; refine (CO.out _).mono ?_; clear CO; rintro e w' ⟨rfl, hw'⟩; obtain rfl := hw'.symm; clear hw') | (go_at_call 21; refine (SF.out _ DZ.out).mono ?_; clear SF; rintro e w10 ⟨rfl, hB10⟩; have hE := Mr.hid (DZ.out.next hB10).bel; clear hB10))
  go_ret
  exact ⟨rfl, hE.out⟩
/-- ModelDoes, of any call. -/
theorem walk_does (u0 u1 u2 u3 u4 : Value) (x : Ct) (op arg data : Int) (W : World) (hu : CtAt W (fun _ => True) u0 u1 u2 u3 u4 x) (hx : CtIn 140737488351232 x) :
    Calls Try.prog 7 #[.agg #[u0, u1, u2, u3, u4, .int .i64 op, .int .i64 arg, .int .i64 data]] W fun e w' => e = .returned (.bool true) ∧ Below W.heap.size W w' := by
  by_cases hm : May x
  · by_cases ho : obj op = 0
    · exact does_ill u0 u1 u2 u3 u4 x op arg data W hu hx hm ho
    · exact does_any u0 u1 u2 u3 u4 x op arg data W hu hx hm ho
  · exact does_state u0 u1 u2 u3 u4 x op arg data W hu hx hm
end Go.Proofs.Ytegbcocbopgghab.Md
