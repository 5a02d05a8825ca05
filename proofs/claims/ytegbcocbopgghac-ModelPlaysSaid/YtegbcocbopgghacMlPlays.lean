/-
  ModelPlays: the walk.
-/
import Derived.Test.YtegbcocbopgghacMlDz
import Derived.Test.YtegbcocbopgghacMpPlay
namespace Go.Proofs.Ytegbcocbopgghac.Md
open Go.RowKit Mr Me
set_option linter.unusedVariables false
set_option linter.unusedSimpArgs false
theorem plays_in {B : Nat} {x : Ct} (h : CtIn B x) (cs : List Cq) (n : Nat) : CtIn (B + 16 * cs.length) (plays x cs n).1 := by
  induction cs generalizing x n B with
  | nil => exact h.mono (by simp)
  | cons c cs ih =>
    unfold plays
    split
    · exact (ih (alw_in h c) (n + 1)).mono (by simp; omega)
    · exact h.mono (by omega)
set_option maxRecDepth 100000 in
set_option maxHeartbeats 16000000 in
theorem plays_state (u0 u1 u2 u3 u4 : Value) (x : Ct) (uc : Value) (cs : List Cq) (W : World) (hu : CtAt W (fun _ => True) u0 u1 u2 u3 u4 x) (hx : CtIn 140737488351232 x) (hc : Sl W (fun _ => True) 9 uc cs.length (cqs cs)) (hsm : cs.length * 72 ≤ 140737488351232) (hm : ¬ May x) :
    Calls Try.prog 3 #[.agg #[u0, u1, u2, u3, u4], uc] W fun e w' => e = .returned (.bool true) ∧ Below W.heap.size W w' := by
  obtain ⟨a0, c0, rfl, _⟩ := hu.cell.form
  obtain ⟨a1, c1, rfl, _⟩ := hu.stack.form
  obtain ⟨a2, c2, rfl, _⟩ := hu.queue.form
  obtain ⟨a3, c3, rfl, _⟩ := hu.set.form
  obtain ⟨a4, c4, rfl, _⟩ := hu.table.form
  obtain ⟨ac, cc, rfl, hcc⟩ := hc.form
  have hi := hx.mono (show 140737488351232 ≤ 225000000000000 by decide)
  have hi2 := hx.mono (show 140737488351232 ≤ 140737488355328 by decide)
  have sx := hx.sm (by decide)
  obtain ⟨y, hy⟩ : ∃ y, y = ct0 := ⟨_, rfl⟩
  have CR := fun w' (h : CtAt w' (fun _ => True) (.slice a0 x.cell.length c0) (.slice a1 x.stack.length c1) (.slice a2 x.queue.length c2) (.slice a3 x.set.length c3) (.slice a4 x.table.length c4) x) => rCopy_any h hi
  have CD := fun w' (h : CtAt w' (fun _ => True) (.slice a0 x.cell.length c0) (.slice a1 x.stack.length c1) (.slice a2 x.queue.length c2) (.slice a3 x.set.length c3) (.slice a4 x.table.length c4) x) (hc : Sl w' (fun _ => True) 9 (.slice ac cs.length cc) cs.length (cqs cs)) => mPlay_state h hi2 hc (by omega) hm
  have CM := fun w' (h : CtAt w' (fun _ => True) (.slice a0 x.cell.length c0) (.slice a1 x.stack.length c1) (.slice a2 x.queue.length c2) (.slice a3 x.set.length c3) (.slice a4 x.table.length c4) x) => rMay_any h sx false (by simp [hm])
  have CS := fun w' k0 k1 k2 k3 k4 (h : CtAt w' (fun _ => True) (.slice a0 x.cell.length c0) (.slice a1 x.stack.length c1) (.slice a2 x.queue.length c2) (.slice a3 x.set.length c3) (.slice a4 x.table.length c4) x) (hk : CtAt w' (fun _ => True) k0 k1 k2 k3 k4 x) => rSame_any h hk sx sx
  simp only [ctB_same] at CS
  rw [← hy] at CD
  have X0 := (Below.refl W.heap.size W).alloc (Nat.le_refl _) (ctO (.slice a0 x.cell.length c0) (.slice a1 x.stack.length c1) (.slice a2 x.queue.length c2) (.slice a3 x.set.length c3) (.slice a4 x.table.length c4))
  have G0 : (W.alloc (ctO (.slice a0 x.cell.length c0) (.slice a1 x.stack.length c1) (.slice a2 x.queue.length c2) (.slice a3 x.set.length c3) (.slice a4 x.table.length c4))).heap[W.heap.size]? = some (ctO (.slice a0 x.cell.length c0) (.slice a1 x.stack.length c1) (.slice a2 x.queue.length c2) (.slice a3 x.set.length c3) (.slice a4 x.table.length c4)) := new_at W _ _ rfl
  have U0 := hu.below X0
  have HC := fun w' (hB : Below W.heap.size W w') => hc.below hB
  obtain ⟨n, hn⟩ : ∃ n, n = cs.length := ⟨_, rfl⟩
  rw [← hn] at HC hsm hcc CD ⊢
  clear hu hc
  replace hn := Mr.hid hn
  replace HC := Mr.hid HC
  replace X0 := Mr.hid X0
  replace U0 := Mr.hid U0
  replace G0 := Mr.hid G0
  replace CR := Mr.hid CR
  replace CD := Mr.hid CD
  replace CM := Mr.hid CM
  replace CS := Mr.hid CS
  replace hm := Mr.hid hm
  replace hy := Mr.hid hy
  go_enter Try.func3, Try.ntmps3
  go_upto_region 1 with (fail)
  replace X0 := X0.out
  replace U0 := U0.out
  replace G0 := G0.out
  unfold ctO at X0 U0
  conv at G0 => lhs; unfold ctO
  generalize W.alloc (.cells #[.slice a0 x.cell.length c0, .slice a1 x.stack.length c1, .slice a2 x.queue.length c2, .slice a3 x.set.length c3, .slice a4 x.table.length c4] 25 (0, 0)) = w1 at *
  obtain ⟨e0, e1, e2, e3, e4, el⟩ := ctO_cells G0
  have CR1 := Mr.hid (CR.out _ U0)
  replace X0 := Mr.hid X0
  replace U0 := Mr.hid U0
  replace G0 := Mr.hid G0
  clear CR
  go_upto_region 2 with (first | (go_at_call 4; refine CR1.out.mono ?_; clear CR1; rintro e w2 ⟨k0, k1, k2, k3, k4, rfl, hk, hB2⟩; have DK := Dk.first (fx := (fun _ => none)) (fun b o ho => by cases ho) X0.out G0.out U0.out hB2 hk; clear X0 G0 U0 hB2; obtain ⟨p0, q0, rfl, _⟩ := hk.cell.form; obtain ⟨p1, q1, rfl, _⟩ := hk.stack.form; obtain ⟨p2, q2, rfl, _⟩ := hk.queue.form; obtain ⟨p3, q3, rfl, _⟩ := hk.set.form; obtain ⟨p4, q4, rfl, _⟩ := hk.table.form;  clear hk e0 e1 e2 e3 e4; replace DK := Mr.hid DK))
  obtain ⟨bk, hbk⟩ : ∃ b, b = w2.heap.size := ⟨_, rfl⟩
  rw [← hbk] at DK ⊢
  clear hbk
  replace DK := DK.out
  conv at DK => arg 2; unfold ctO
  generalize w2.alloc (.cells #[.slice p0 x.cell.length q0, .slice p1 x.stack.length q1, .slice p2 x.queue.length q2, .slice p3 x.set.length q3, .slice p4 x.table.length q4] 25 (0, 0)) = w3 at *
  obtain ⟨e0, e1, e2, e3, e4, el⟩ := ctO_cells DK.s
  have CD1 := Mr.hid (CD.out _ DK.sat (HC.out _ DK.bel))
  replace DK := Mr.hid DK
  clear CD
  go_upto_region 3 with (first | (go_at_call 5; refine CD1.out.mono ?_; clear CD1; rintro e w4 ⟨l0, l1, l2, l3, l4, rfl, hl, hB4⟩; have DZ := Dk.then1 DK.out hB4 hl; clear DK hB4; obtain ⟨z0, m0, rfl, _⟩ := hl.cell.form; obtain ⟨z1, m1, rfl, _⟩ := hl.stack.form; obtain ⟨z2, m2, rfl, _⟩ := hl.queue.form; obtain ⟨z3, m3, rfl, _⟩ := hl.set.form; obtain ⟨z4, m4, rfl, _⟩ := hl.table.form;  clear hl e0 e1 e2 e3 e4 el; replace DZ := Mr.hid DZ))
  obtain ⟨bl, hbl⟩ : ∃ b, b = w4.heap.size := ⟨_, rfl⟩
  rw [← hbl] at DZ ⊢
  clear hbl
  replace DZ := DZ.out
  conv at DZ => arg 2; unfold ctO
  generalize (w4.alloc (.cells #[.slice z0 y.cell.length m0, .slice z1 y.stack.length m1, .slice z2 y.queue.length m2, .slice z3 y.set.length m3, .slice z4 y.table.length m4] 25 (0, 0))) = w5 at *
  have CS1 := fun w' (h : Dz W w' W.heap.size bk bl (.slice a0 x.cell.length c0) (.slice a1 x.stack.length c1) (.slice a2 x.queue.length c2) (.slice a3 x.set.length c3) (.slice a4 x.table.length c4) (.slice p0 x.cell.length q0) (.slice p1 x.stack.length q1) (.slice p2 x.queue.length q2) (.slice p3 x.set.length q3) (.slice p4 x.table.length q4) (.slice z0 y.cell.length m0) (.slice z1 y.stack.length m1) (.slice z2 y.queue.length m2) (.slice z3 y.set.length m3) (.slice z4 y.table.length m4) x y none (fun _ => none)) => CS.out w' _ _ _ _ _ h.sat h.kat
  have CM1 := fun w' (h : Dz W w' W.heap.size bk bl (.slice a0 x.cell.length c0) (.slice a1 x.stack.length c1) (.slice a2 x.queue.length c2) (.slice a3 x.set.length c3) (.slice a4 x.table.length c4) (.slice p0 x.cell.length q0) (.slice p1 x.stack.length q1) (.slice p2 x.queue.length q2) (.slice p3 x.set.length q3) (.slice p4 x.table.length q4) (.slice z0 y.cell.length m0) (.slice z1 y.stack.length m1) (.slice z2 y.queue.length m2) (.slice z3 y.set.length m3) (.slice z4 y.table.length m4) x y none (fun _ => none)) => CM.out w' h.sat
  have CL := fun w' (h : Dz W w' W.heap.size bk bl (.slice a0 x.cell.length c0) (.slice a1 x.stack.length c1) (.slice a2 x.queue.length c2) (.slice a3 x.set.length c3) (.slice a4 x.table.length c4) (.slice p0 x.cell.length q0) (.slice p1 x.stack.length q1) (.slice p2 x.queue.length q2) (.slice p3 x.set.length q3) (.slice p4 x.table.length q4) (.slice z0 y.cell.length m0) (.slice z1 y.stack.length m1) (.slice z2 y.queue.length m2) (.slice z3 y.set.length m3) (.slice z4 y.table.length m4) x y none (fun _ => none)) => (⟨ctO_cells h.s, ctO_cells h.kept, ctO_cells h.left⟩ : _ ∧ _ ∧ _)
  replace CS1 := Mr.hid CS1
  replace CM1 := Mr.hid CM1
  replace CL := Mr.hid CL
  replace DZ := Mr.hid DZ
  clear CS CM
  go_upto_region 5 with (first | (go_at_call 6; refine (awake_any _).mono ?_; rintro e w6 ⟨rfl, hB6⟩; have DZ := Mr.hid (DZ.out.next hB6); clear hB6; obtain ⟨⟨e0, e1, e2, e3, e4, e5⟩, ⟨g0, g1, g2, g3, g4, g5⟩, -⟩ := CL.out _ DZ.out) | (go_at_call 7; refine (CS1.out _ DZ.out).mono ?_; clear CS1 e0 e1 e2 e3 e4 e5 g0 g1 g2 g3 g4 g5; rintro e w7 ⟨rfl, hB7⟩; have DZ := Mr.hid (DZ.out.next hB7); clear hB7; obtain ⟨⟨e0, e1, e2, e3, e4, e5⟩, ⟨g0, g1, g2, g3, g4, g5⟩, -⟩ := CL.out _ DZ.out))
  have sy : CtSm y := by rw [hy.out]; exact ⟨by decide, by decide, by decide, by decide, by decide⟩
  have SF := fun w' (h : Dz W w' W.heap.size bk bl (.slice a0 x.cell.length c0) (.slice a1 x.stack.length c1) (.slice a2 x.queue.length c2) (.slice a3 x.set.length c3) (.slice a4 x.table.length c4) (.slice p0 x.cell.length q0) (.slice p1 x.stack.length q1) (.slice p2 x.queue.length q2) (.slice p3 x.set.length q3) (.slice p4 x.table.length q4) (.slice z0 y.cell.length m0) (.slice z1 y.stack.length m1) (.slice z2 y.queue.length m2) (.slice z3 y.set.length m3) (.slice z4 y.table.length m4) x y none (fun _ => none)) => rSame_any (T := fun _ => True) h.lat (ct0_at w' _) sy ⟨by decide, by decide, by decide, by decide, by decide⟩
  rw [show ctB y ct0 = true from by rw [hy.out]; decide] at SF
  replace SF := Mr.hid SF
  go_wp2_with (first | (go_at_call 8; refine (CM1.out _ DZ.out).mono ?_; clear CM1; rintro e w8 ⟨rfl, hB8⟩; have DZ := Mr.hid (DZ.out.next hB8); clear hB8; clear e0 e1 e2 e3 e4 e5 g0 g1 g2 g3 g4 g5; obtain ⟨⟨e0, e1, e2, e3, e4, e5⟩, ⟨g0, g1, g2, g3, g4, g5⟩, ⟨h0, h1, h2, h3, h4, h5⟩⟩ := CL.out _ DZ.out) | (go_at_call 7; refine (SF.out _ DZ.out).mono ?_; clear SF; rintro e w10 ⟨rfl, hB10⟩; have hE := Mr.hid (DZ.out.next hB10).bel; clear hB10))
  go_ret
  exact ⟨rfl, hE.out⟩
set_option maxRecDepth 100000 in
set_option maxHeartbeats 16000000 in
theorem plays_any (u0 u1 u2 u3 u4 : Value) (x : Ct) (uc : Value) (cs : List Cq) (W : World) (hu : CtAt W (fun _ => True) u0 u1 u2 u3 u4 x) (hx : CtIn 140737488351232 x) (hc : Sl W (fun _ => True) 9 uc cs.length (cqs cs)) (hsm : cs.length * 72 ≤ 140737488351232) (hm : May x) (ho : ∀ c ∈ cs, obj c.op ≠ 0) :
    Calls Try.prog 3 #[.agg #[u0, u1, u2, u3, u4], uc] W fun e w' => e = .returned (.bool true) ∧ Below W.heap.size W w' := by
  obtain ⟨a0, c0, rfl, _⟩ := hu.cell.form
  obtain ⟨a1, c1, rfl, _⟩ := hu.stack.form
  obtain ⟨a2, c2, rfl, _⟩ := hu.queue.form
  obtain ⟨a3, c3, rfl, _⟩ := hu.set.form
  obtain ⟨a4, c4, rfl, _⟩ := hu.table.form
  obtain ⟨ac, cc, rfl, hcc⟩ := hc.form
  have hi := hx.mono (show 140737488351232 ≤ 225000000000000 by decide)
  have hi2 := hx.mono (show 140737488351232 ≤ 140737488355328 by decide)
  have sx := hx.sm (by decide)
  obtain ⟨nn, hnn⟩ : ∃ b, b = (plays x cs 0).2 := ⟨_, rfl⟩
  obtain ⟨y, hy⟩ : ∃ y, y = (plays x cs 0).1 := ⟨_, rfl⟩
  have CR := fun w' (h : CtAt w' (fun _ => True) (.slice a0 x.cell.length c0) (.slice a1 x.stack.length c1) (.slice a2 x.queue.length c2) (.slice a3 x.set.length c3) (.slice a4 x.table.length c4) x) => rCopy_any h hi
  have CD := fun w' (h : CtAt w' (fun _ => True) (.slice a0 x.cell.length c0) (.slice a1 x.stack.length c1) (.slice a2 x.queue.length c2) (.slice a3 x.set.length c3) (.slice a4 x.table.length c4) x) (hc : Sl w' (fun _ => True) 9 (.slice ac cs.length cc) cs.length (cqs cs)) => mPlay_any h hi2 hc (by omega) hm ho
  have CM := fun w' (h : CtAt w' (fun _ => True) (.slice a0 x.cell.length c0) (.slice a1 x.stack.length c1) (.slice a2 x.queue.length c2) (.slice a3 x.set.length c3) (.slice a4 x.table.length c4) x) => rMay_any h sx true (by simp [hm])
  have CS := fun w' k0 k1 k2 k3 k4 (h : CtAt w' (fun _ => True) (.slice a0 x.cell.length c0) (.slice a1 x.stack.length c1) (.slice a2 x.queue.length c2) (.slice a3 x.set.length c3) (.slice a4 x.table.length c4) x) (hk : CtAt w' (fun _ => True) k0 k1 k2 k3 k4 x) => rSame_any h hk sx sx
  simp only [ctB_same] at CS
  have RD := fun w' (h : CtAt w' (fun _ => True) (.slice a0 x.cell.length c0) (.slice a1 x.stack.length c1) (.slice a2 x.queue.length c2) (.slice a3 x.set.length c3) (.slice a4 x.table.length c4) x) (hc : Sl w' (fun _ => True) 9 (.slice ac cs.length cc) cs.length (cqs cs)) => rPlay_any h hi2 hc (by omega) ho
  rw [← hnn, ← hy] at CD RD
  have X0 := (Below.refl W.heap.size W).alloc (Nat.le_refl _) (ctO (.slice a0 x.cell.length c0) (.slice a1 x.stack.length c1) (.slice a2 x.queue.length c2) (.slice a3 x.set.length c3) (.slice a4 x.table.length c4))
  have G0 : (W.alloc (ctO (.slice a0 x.cell.length c0) (.slice a1 x.stack.length c1) (.slice a2 x.queue.length c2) (.slice a3 x.set.length c3) (.slice a4 x.table.length c4))).heap[W.heap.size]? = some (ctO (.slice a0 x.cell.length c0) (.slice a1 x.stack.length c1) (.slice a2 x.queue.length c2) (.slice a3 x.set.length c3) (.slice a4 x.table.length c4)) := new_at W _ _ rfl
  have U0 := hu.below X0
  have HC := fun w' (hB : Below W.heap.size W w') => hc.below hB
  obtain ⟨n, hn⟩ : ∃ n, n = cs.length := ⟨_, rfl⟩
  rw [← hn] at HC hsm hcc CD RD ⊢
  clear hu hc
  replace hn := Mr.hid hn
  replace HC := Mr.hid HC
  replace X0 := Mr.hid X0
  replace U0 := Mr.hid U0
  replace G0 := Mr.hid G0
  replace CR := Mr.hid CR
  replace CD := Mr.hid CD
  replace CM := Mr.hid CM
  replace CS := Mr.hid CS
  replace hm := Mr.hid hm
  replace ho := Mr.hid ho
  replace hnn := Mr.hid hnn
  replace hy := Mr.hid hy
  replace RD := Mr.hid RD
  go_enter Try.func3, Try.ntmps3
  go_upto_region 1 with (fail)
  replace X0 := X0.out
  replace U0 := U0.out
  replace G0 := G0.out
  unfold ctO at X0 U0
  conv at G0 => lhs; unfold ctO
  generalize W.alloc (.cells #[.slice a0 x.cell.length c0, .slice a1 x.stack.length c1, .slice a2 x.queue.length c2, .slice a3 x.set.length c3, .slice a4 x.table.length c4] 25 (0, 0)) = w1 at *
  obtain ⟨e0, e1, e2, e3, e4, el⟩ := ctO_cells G0
  have CR1 := Mr.hid (CR.out _ U0)
  replace X0 := Mr.hid X0
  replace U0 := Mr.hid U0
  replace G0 := Mr.hid G0
  clear CR
  go_upto_region 2 with (first | (go_at_call 4; refine CR1.out.mono ?_; clear CR1; rintro e w2 ⟨k0, k1, k2, k3, k4, rfl, hk, hB2⟩; have DK := Dk.first (fx := (fun _ => none)) (fun b o ho => by cases ho) X0.out G0.out U0.out hB2 hk; clear X0 G0 U0 hB2; obtain ⟨p0, q0, rfl, _⟩ := hk.cell.form; obtain ⟨p1, q1, rfl, _⟩ := hk.stack.form; obtain ⟨p2, q2, rfl, _⟩ := hk.queue.form; obtain ⟨p3, q3, rfl, _⟩ := hk.set.form; obtain ⟨p4, q4, rfl, _⟩ := hk.table.form;  clear hk e0 e1 e2 e3 e4; replace DK := Mr.hid DK))
  obtain ⟨bk, hbk⟩ : ∃ b, b = w2.heap.size := ⟨_, rfl⟩
  rw [← hbk] at DK ⊢
  clear hbk
  replace DK := DK.out
  conv at DK => arg 2; unfold ctO
  generalize w2.alloc (.cells #[.slice p0 x.cell.length q0, .slice p1 x.stack.length q1, .slice p2 x.queue.length q2, .slice p3 x.set.length q3, .slice p4 x.table.length q4] 25 (0, 0)) = w3 at *
  obtain ⟨e0, e1, e2, e3, e4, el⟩ := ctO_cells DK.s
  have CD1 := Mr.hid (CD.out _ DK.sat (HC.out _ DK.bel))
  replace DK := Mr.hid DK
  clear CD
  go_upto_region 3 with (first | (go_at_call 5; refine CD1.out.mono ?_; clear CD1; rintro e w4 ⟨l0, l1, l2, l3, l4, rfl, hl, hB4⟩; have DZ := Dk.then1 DK.out hB4 hl; clear DK hB4; obtain ⟨z0, m0, rfl, _⟩ := hl.cell.form; obtain ⟨z1, m1, rfl, _⟩ := hl.stack.form; obtain ⟨z2, m2, rfl, _⟩ := hl.queue.form; obtain ⟨z3, m3, rfl, _⟩ := hl.set.form; obtain ⟨z4, m4, rfl, _⟩ := hl.table.form;  clear hl e0 e1 e2 e3 e4 el; replace DZ := Mr.hid DZ))
  obtain ⟨bl, hbl⟩ : ∃ b, b = w4.heap.size := ⟨_, rfl⟩
  rw [← hbl] at DZ ⊢
  clear hbl
  replace DZ := DZ.out
  conv at DZ => arg 2; unfold ctO
  generalize (w4.alloc (.cells #[.slice z0 y.cell.length m0, .slice z1 y.stack.length m1, .slice z2 y.queue.length m2, .slice z3 y.set.length m3, .slice z4 y.table.length m4] 25 (0, 0))) = w5 at *
  have CS1 := fun w' (h : Dz W w' W.heap.size bk bl (.slice a0 x.cell.length c0) (.slice a1 x.stack.length c1) (.slice a2 x.queue.length c2) (.slice a3 x.set.length c3) (.slice a4 x.table.length c4) (.slice p0 x.cell.length q0) (.slice p1 x.stack.length q1) (.slice p2 x.queue.length q2) (.slice p3 x.set.length q3) (.slice p4 x.table.length q4) (.slice z0 y.cell.length m0) (.slice z1 y.stack.length m1) (.slice z2 y.queue.length m2) (.slice z3 y.set.length m3) (.slice z4 y.table.length m4) x y none (fun _ => none)) => CS.out w' _ _ _ _ _ h.sat h.kat
  have CM1 := fun w' (h : Dz W w' W.heap.size bk bl (.slice a0 x.cell.length c0) (.slice a1 x.stack.length c1) (.slice a2 x.queue.length c2) (.slice a3 x.set.length c3) (.slice a4 x.table.length c4) (.slice p0 x.cell.length q0) (.slice p1 x.stack.length q1) (.slice p2 x.queue.length q2) (.slice p3 x.set.length q3) (.slice p4 x.table.length q4) (.slice z0 y.cell.length m0) (.slice z1 y.stack.length m1) (.slice z2 y.queue.length m2) (.slice z3 y.set.length m3) (.slice z4 y.table.length m4) x y none (fun _ => none)) => CM.out w' h.sat
  have CL := fun w' (h : Dz W w' W.heap.size bk bl (.slice a0 x.cell.length c0) (.slice a1 x.stack.length c1) (.slice a2 x.queue.length c2) (.slice a3 x.set.length c3) (.slice a4 x.table.length c4) (.slice p0 x.cell.length q0) (.slice p1 x.stack.length q1) (.slice p2 x.queue.length q2) (.slice p3 x.set.length q3) (.slice p4 x.table.length q4) (.slice z0 y.cell.length m0) (.slice z1 y.stack.length m1) (.slice z2 y.queue.length m2) (.slice z3 y.set.length m3) (.slice z4 y.table.length m4) x y none (fun _ => none)) => (⟨ctO_cells h.s, ctO_cells h.kept, ctO_cells h.left⟩ : _ ∧ _ ∧ _)
  replace CS1 := Mr.hid CS1
  replace CM1 := Mr.hid CM1
  replace CL := Mr.hid CL
  replace DZ := Mr.hid DZ
  clear CS CM
  go_upto_region 5 with (first | (go_at_call 6; refine (awake_any _).mono ?_; rintro e w6 ⟨rfl, hB6⟩; have DZ := Mr.hid (DZ.out.next hB6); clear hB6; obtain ⟨⟨e0, e1, e2, e3, e4, e5⟩, ⟨g0, g1, g2, g3, g4, g5⟩, -⟩ := CL.out _ DZ.out) | (go_at_call 7; refine (CS1.out _ DZ.out).mono ?_; clear CS1 e0 e1 e2 e3 e4 e5 g0 g1 g2 g3 g4 g5; rintro e w7 ⟨rfl, hB7⟩; have DZ := Mr.hid (DZ.out.next hB7); clear hB7; obtain ⟨⟨e0, e1, e2, e3, e4, e5⟩, ⟨g0, g1, g2, g3, g4, g5⟩, -⟩ := CL.out _ DZ.out))
  have sy : CtSm y := by rw [hy.out]; exact (plays_in hx cs 0).sm (by have := hn.out; omega)
  have nn0 : (nn == nn) = true := by simp
  go_upto_region 7 with (first | (go_at_call 8; refine (CM1.out _ DZ.out).mono ?_; clear CM1; rintro e w8 ⟨rfl, hB8⟩; have DZ := Mr.hid (DZ.out.next hB8); clear hB8; clear e0 e1 e2 e3 e4 e5 g0 g1 g2 g3 g4 g5; obtain ⟨⟨e0, e1, e2, e3, e4, e5⟩, ⟨g0, g1, g2, g3, g4, g5⟩, ⟨h0, h1, h2, h3, h4, h5⟩⟩ := CL.out _ DZ.out))
  clear e0 e1 e2 e3 e4 e5 g0 g1 g2 g3 g4 g5 h0 h1 h2 h3 h4 h5
  go_wp2
  go_loopg [46] n (fun k s wr => ∃ i : Nat, s = .int .i64 (i : Int) ∧ i + k = n ∧ (∀ (j : Nat) c, j < i → cs[j]? = some c → obj c.op ≠ 0) ∧ Dz W wr W.heap.size bk bl (.slice a0 x.cell.length c0) (.slice a1 x.stack.length c1) (.slice a2 x.queue.length c2) (.slice a3 x.set.length c3) (.slice a4 x.table.length c4) (.slice p0 x.cell.length q0) (.slice p1 x.stack.length q1) (.slice p2 x.queue.length q2) (.slice p3 x.set.length q3) (.slice p4 x.table.length q4) (.slice z0 y.cell.length m0) (.slice z1 y.stack.length m1) (.slice z2 y.queue.length m2) (.slice z3 y.set.length m3) (.slice z4 y.table.length m4) x y none (fun _ => none))
  case atStart => exact ⟨0, rfl, by omega, fun j c hj => by omega, DZ.out⟩
  case round =>
    clear DZ
    obtain ⟨i, rfl, hi', hob, DZ⟩ := hrel
    by_cases hlt : i < n
    · obtain ⟨c, hci⟩ : ∃ c, cs[i]? = some c := ⟨cs[i]'(by have := hn.out; omega), List.getElem?_eq_getElem _⟩
      obtain ⟨bc, oc, cc', hcv, _, _, hcl, hcr⟩ := (HC.out _ DZ.bel).there (by omega)
      cases hcv
      have hg := fun j (hj : j < 9) => cqs_get cs i c hci j hj
      have G0 : wr.cell? ⟨bc, oc + i * 9, none⟩ = some (.int .i64 c.th) := hcr (i * 9 + 0) _ (hg 0 (by omega))
      have G1 : wr.cell? ⟨bc, oc + i * 9 + 1, none⟩ = some (.int .i64 c.op) := hcr (i * 9 + 1) _ (hg 1 (by omega))
      have G2 : wr.cell? ⟨bc, oc + i * 9 + 2, none⟩ = some (.int .i64 c.arg) := hcr (i * 9 + 2) _ (hg 2 (by omega))
      have G3 : wr.cell? ⟨bc, oc + i * 9 + 3, none⟩ = some (.int .i64 c.data) := hcr (i * 9 + 3) _ (hg 3 (by omega))
      have G4 : wr.cell? ⟨bc, oc + i * 9 + 4, none⟩ = some (.int .i64 c.beg) := hcr (i * 9 + 4) _ (hg 4 (by omega))
      have G5 : wr.cell? ⟨bc, oc + i * 9 + 5, none⟩ = some (.int .i64 c.fin) := hcr (i * 9 + 5) _ (hg 5 (by omega))
      have G6 : wr.cell? ⟨bc, oc + i * 9 + 6, none⟩ = some (.int .i64 c.pt) := hcr (i * 9 + 6) _ (hg 6 (by omega))
      have G7 : wr.cell? ⟨bc, oc + i * 9 + 7, none⟩ = some (.int .i64 c.ak) := hcr (i * 9 + 7) _ (hg 7 (by omega))
      have G8 : wr.cell? ⟨bc, oc + i * 9 + 8, none⟩ = some (.int .i64 c.av) := hcr (i * 9 + 8) _ (hg 8 (by omega))
      clear hg hcr
      have hlI : (i : Int) < (n : Int) := by omega
      have DN := DZ.next ((Below.refl wr.heap.size wr).alloc (Nat.le_refl _) (cqO c))
      unfold cqO at DN
      obtain ⟨ob, hobj⟩ : ∃ b, b = obj c.op := ⟨_, rfl⟩
      have CO := rObject_any c.op
      rw [← hobj] at CO
      replace CO := Mr.hid CO
      replace DN := Mr.hid DN
      replace hob := Mr.hid hob
      replace hci := Mr.hid hci
      clear DZ
      have hne : ob ≠ 0 := by rw [hobj]; exact ho.out c (List.mem_of_getElem? hci.out)
      have ob0 : (ob == 0) = false := by rw [beq_eq_false_iff_ne]; exact hne
      replace hobj := Mr.hid hobj
      have hob2 : ∀ (j : Nat) c', j < i + 1 → cs[j]? = some c' → obj c'.op ≠ 0 := fun j c' hj hc' => by
        by_cases e : j = i
        · subst e; rw [hci.out] at hc'; cases hc'; rw [← hobj.out]; exact hne
        · exact hob.out j c' (by omega) hc'
      replace hob2 := Mr.hid hob2
      replace hne := Mr.hid hne
      go_wp2_with (first | (go_at_call 9; refine (CO.out _).mono ?_; clear CO; rintro e w' ⟨rfl, hw'⟩; obtain rfl := hw'.symm; clear hw'))
      go_roundg (gk - 1)
      case measure => omega
      case rel => exact ⟨i + 1, by simp, by omega, hob2.out, DN.out⟩
    · have hge : decide ((i : Int) < (n : Int)) = false := decide_eq_false (by omega)
      have RD1 := RD.out _ DZ.sat (HC.out _ DZ.bel)
      obtain ⟨⟨e0, e1, e2, e3, e4, e5⟩, -, ⟨h0, h1, h2, h3, h4, h5⟩⟩ := CL.out _ DZ
      replace RD1 := Mr.hid RD1
      replace DZ := Mr.hid DZ
      clear RD
      go_wp2_with (first | (go_at_call 10; refine RD1.out.mono ?_; clear RD1; rintro e w9 ⟨d0, d1, d2, d3, d4, rfl, hw, hB9⟩; clear h0 h1 h2 h3 h4 h5 e0 e1 e2 e3 e4 e5; have DZ := Mr.hid (DZ.out.next hB9); clear hB9; obtain ⟨⟨e0, e1, e2, e3, e4, e5⟩, -, ⟨h0, h1, h2, h3, h4, h5⟩⟩ := CL.out _ DZ.out; have SF := fun w' (hB : Below w9.heap.size w9 w') => rSame_any (DZ.out.lat.below hB) (hw.below hB) sy sy; simp only [ctB_same] at SF; obtain ⟨s0, t0, rfl, _⟩ := hw.cell.form; obtain ⟨s1, t1, rfl, _⟩ := hw.stack.form; obtain ⟨s2, t2, rfl, _⟩ := hw.queue.form; obtain ⟨s3, t3, rfl, _⟩ := hw.set.form; obtain ⟨s4, t4, rfl, _⟩ := hw.table.form;  clear hw; replace SF := Mr.hid SF) | (go_at_call 7; refine (SF.out _ ((Below.refl _ _).alloc (Nat.le_refl _) _)).mono ?_; clear SF; rintro e w10 ⟨rfl, hB10⟩; have hE := DZ.out.bel.trans (((Below.refl _ _).alloc (Nat.le_refl _) _).trans (hB10.mono (by simp)) |>.mono DZ.out.bel.size); clear hB10; replace hE := Mr.hid hE))
      go_ret
      exact ⟨rfl, hE.out⟩

set_option maxRecDepth 100000 in
set_option maxHeartbeats 16000000 in
theorem plays_ill (u0 u1 u2 u3 u4 : Value) (x : Ct) (uc : Value) (cs : List Cq) (W : World) (hu : CtAt W (fun _ => True) u0 u1 u2 u3 u4 x) (hx : CtIn 140737488351232 x) (hc : Sl W (fun _ => True) 9 uc cs.length (cqs cs)) (hsm : cs.length * 72 ≤ 140737488351232) (hm : May x) (ho : ∃ c ∈ cs, obj c.op = 0) :
    Calls Try.prog 3 #[.agg #[u0, u1, u2, u3, u4], uc] W fun e w' => e = .returned (.bool true) ∧ Below W.heap.size W w' := by
  obtain ⟨a0, c0, rfl, _⟩ := hu.cell.form
  obtain ⟨a1, c1, rfl, _⟩ := hu.stack.form
  obtain ⟨a2, c2, rfl, _⟩ := hu.queue.form
  obtain ⟨a3, c3, rfl, _⟩ := hu.set.form
  obtain ⟨a4, c4, rfl, _⟩ := hu.table.form
  obtain ⟨ac, cc, rfl, hcc⟩ := hc.form
  have hi := hx.mono (show 140737488351232 ≤ 225000000000000 by decide)
  have hi2 := hx.mono (show 140737488351232 ≤ 140737488355328 by decide)
  have sx := hx.sm (by decide)
  obtain ⟨y, hy⟩ : ∃ y, y = ct0 := ⟨_, rfl⟩
  have CR := fun w' (h : CtAt w' (fun _ => True) (.slice a0 x.cell.length c0) (.slice a1 x.stack.length c1) (.slice a2 x.queue.length c2) (.slice a3 x.set.length c3) (.slice a4 x.table.length c4) x) => rCopy_any h hi
  have CD := fun w' (h : CtAt w' (fun _ => True) (.slice a0 x.cell.length c0) (.slice a1 x.stack.length c1) (.slice a2 x.queue.length c2) (.slice a3 x.set.length c3) (.slice a4 x.table.length c4) x) (hc : Sl w' (fun _ => True) 9 (.slice ac cs.length cc) cs.length (cqs cs)) => mPlay_ill h hi2 hc (by omega) hm ho
  have CM := fun w' (h : CtAt w' (fun _ => True) (.slice a0 x.cell.length c0) (.slice a1 x.stack.length c1) (.slice a2 x.queue.length c2) (.slice a3 x.set.length c3) (.slice a4 x.table.length c4) x) => rMay_any h sx true (by simp [hm])
  have CS := fun w' k0 k1 k2 k3 k4 (h : CtAt w' (fun _ => True) (.slice a0 x.cell.length c0) (.slice a1 x.stack.length c1) (.slice a2 x.queue.length c2) (.slice a3 x.set.length c3) (.slice a4 x.table.length c4) x) (hk : CtAt w' (fun _ => True) k0 k1 k2 k3 k4 x) => rSame_any h hk sx sx
  simp only [ctB_same] at CS
  rw [← hy] at CD
  have X0 := (Below.refl W.heap.size W).alloc (Nat.le_refl _) (ctO (.slice a0 x.cell.length c0) (.slice a1 x.stack.length c1) (.slice a2 x.queue.length c2) (.slice a3 x.set.length c3) (.slice a4 x.table.length c4))
  have G0 : (W.alloc (ctO (.slice a0 x.cell.length c0) (.slice a1 x.stack.length c1) (.slice a2 x.queue.length c2) (.slice a3 x.set.length c3) (.slice a4 x.table.length c4))).heap[W.heap.size]? = some (ctO (.slice a0 x.cell.length c0) (.slice a1 x.stack.length c1) (.slice a2 x.queue.length c2) (.slice a3 x.set.length c3) (.slice a4 x.table.length c4)) := new_at W _ _ rfl
  have U0 := hu.below X0
  have HC := fun w' (hB : Below W.heap.size W w') => hc.below hB
  obtain ⟨n, hn⟩ : ∃ n, n = cs.length := ⟨_, rfl⟩
  rw [← hn] at HC hsm hcc CD ⊢
  clear hu hc
  replace hn := Mr.hid hn
  replace HC := Mr.hid HC
  replace X0 := Mr.hid X0
  replace U0 := Mr.hid U0
  replace G0 := Mr.hid G0
  replace CR := Mr.hid CR
  replace CD := Mr.hid CD
  replace CM := Mr.hid CM
  replace CS := Mr.hid CS
  replace hm := Mr.hid hm
  replace ho := Mr.hid ho
  replace hy := Mr.hid hy
  go_enter Try.func3, Try.ntmps3
  go_upto_region 1 with (fail)
  replace X0 := X0.out
  replace U0 := U0.out
  replace G0 := G0.out
  unfold ctO at X0 U0
  conv at G0 => lhs; unfold ctO
  generalize W.alloc (.cells #[.slice a0 x.cell.length c0, .slice a1 x.stack.length c1, .slice a2 x.queue.length c2, .slice a3 x.set.length c3, .slice a4 x.table.length c4] 25 (0, 0)) = w1 at *
  obtain ⟨e0, e1, e2, e3, e4, el⟩ := ctO_cells G0
  have CR1 := Mr.hid (CR.out _ U0)
  replace X0 := Mr.hid X0
  replace U0 := Mr.hid U0
  replace G0 := Mr.hid G0
  clear CR
  go_upto_region 2 with (first | (go_at_call 4; refine CR1.out.mono ?_; clear CR1; rintro e w2 ⟨k0, k1, k2, k3, k4, rfl, hk, hB2⟩; have DK := Dk.first (fx := (fun _ => none)) (fun b o ho => by cases ho) X0.out G0.out U0.out hB2 hk; clear X0 G0 U0 hB2; obtain ⟨p0, q0, rfl, _⟩ := hk.cell.form; obtain ⟨p1, q1, rfl, _⟩ := hk.stack.form; obtain ⟨p2, q2, rfl, _⟩ := hk.queue.form; obtain ⟨p3, q3, rfl, _⟩ := hk.set.form; obtain ⟨p4, q4, rfl, _⟩ := hk.table.form;  clear hk e0 e1 e2 e3 e4; replace DK := Mr.hid DK))
  obtain ⟨bk, hbk⟩ : ∃ b, b = w2.heap.size := ⟨_, rfl⟩
  rw [← hbk] at DK ⊢
  clear hbk
  replace DK := DK.out
  conv at DK => arg 2; unfold ctO
  generalize w2.alloc (.cells #[.slice p0 x.cell.length q0, .slice p1 x.stack.length q1, .slice p2 x.queue.length q2, .slice p3 x.set.length q3, .slice p4 x.table.length q4] 25 (0, 0)) = w3 at *
  obtain ⟨e0, e1, e2, e3, e4, el⟩ := ctO_cells DK.s
  have CD1 := Mr.hid (CD.out _ DK.sat (HC.out _ DK.bel))
  replace DK := Mr.hid DK
  clear CD
  go_upto_region 3 with (first | (go_at_call 5; refine CD1.out.mono ?_; clear CD1; rintro e w4 ⟨l0, l1, l2, l3, l4, rfl, hl, hB4⟩; have DZ := Dk.then1 DK.out hB4 hl; clear DK hB4; obtain ⟨z0, m0, rfl, _⟩ := hl.cell.form; obtain ⟨z1, m1, rfl, _⟩ := hl.stack.form; obtain ⟨z2, m2, rfl, _⟩ := hl.queue.form; obtain ⟨z3, m3, rfl, _⟩ := hl.set.form; obtain ⟨z4, m4, rfl, _⟩ := hl.table.form;  clear hl e0 e1 e2 e3 e4 el; replace DZ := Mr.hid DZ))
  obtain ⟨bl, hbl⟩ : ∃ b, b = w4.heap.size := ⟨_, rfl⟩
  rw [← hbl] at DZ ⊢
  clear hbl
  replace DZ := DZ.out
  conv at DZ => arg 2; unfold ctO
  generalize (w4.alloc (.cells #[.slice z0 y.cell.length m0, .slice z1 y.stack.length m1, .slice z2 y.queue.length m2, .slice z3 y.set.length m3, .slice z4 y.table.length m4] 25 (0, 0))) = w5 at *
  have CS1 := fun w' (h : Dz W w' W.heap.size bk bl (.slice a0 x.cell.length c0) (.slice a1 x.stack.length c1) (.slice a2 x.queue.length c2) (.slice a3 x.set.length c3) (.slice a4 x.table.length c4) (.slice p0 x.cell.length q0) (.slice p1 x.stack.length q1) (.slice p2 x.queue.length q2) (.slice p3 x.set.length q3) (.slice p4 x.table.length q4) (.slice z0 y.cell.length m0) (.slice z1 y.stack.length m1) (.slice z2 y.queue.length m2) (.slice z3 y.set.length m3) (.slice z4 y.table.length m4) x y none (fun _ => none)) => CS.out w' _ _ _ _ _ h.sat h.kat
  have CM1 := fun w' (h : Dz W w' W.heap.size bk bl (.slice a0 x.cell.length c0) (.slice a1 x.stack.length c1) (.slice a2 x.queue.length c2) (.slice a3 x.set.length c3) (.slice a4 x.table.length c4) (.slice p0 x.cell.length q0) (.slice p1 x.stack.length q1) (.slice p2 x.queue.length q2) (.slice p3 x.set.length q3) (.slice p4 x.table.length q4) (.slice z0 y.cell.length m0) (.slice z1 y.stack.length m1) (.slice z2 y.queue.length m2) (.slice z3 y.set.length m3) (.slice z4 y.table.length m4) x y none (fun _ => none)) => CM.out w' h.sat
  have CL := fun w' (h : Dz W w' W.heap.size bk bl (.slice a0 x.cell.length c0) (.slice a1 x.stack.length c1) (.slice a2 x.queue.length c2) (.slice a3 x.set.length c3) (.slice a4 x.table.length c4) (.slice p0 x.cell.length q0) (.slice p1 x.stack.length q1) (.slice p2 x.queue.length q2) (.slice p3 x.set.length q3) (.slice p4 x.table.length q4) (.slice z0 y.cell.length m0) (.slice z1 y.stack.length m1) (.slice z2 y.queue.length m2) (.slice z3 y.set.length m3) (.slice z4 y.table.length m4) x y none (fun _ => none)) => (⟨ctO_cells h.s, ctO_cells h.kept, ctO_cells h.left⟩ : _ ∧ _ ∧ _)
  replace CS1 := Mr.hid CS1
  replace CM1 := Mr.hid CM1
  replace CL := Mr.hid CL
  replace DZ := Mr.hid DZ
  clear CS CM
  go_upto_region 5 with (first | (go_at_call 6; refine (awake_any _).mono ?_; rintro e w6 ⟨rfl, hB6⟩; have DZ := Mr.hid (DZ.out.next hB6); clear hB6; obtain ⟨⟨e0, e1, e2, e3, e4, e5⟩, ⟨g0, g1, g2, g3, g4, g5⟩, -⟩ := CL.out _ DZ.out) | (go_at_call 7; refine (CS1.out _ DZ.out).mono ?_; clear CS1 e0 e1 e2 e3 e4 e5 g0 g1 g2 g3 g4 g5; rintro e w7 ⟨rfl, hB7⟩; have DZ := Mr.hid (DZ.out.next hB7); clear hB7; obtain ⟨⟨e0, e1, e2, e3, e4, e5⟩, ⟨g0, g1, g2, g3, g4, g5⟩, -⟩ := CL.out _ DZ.out))
  have sy : CtSm y := by rw [hy.out]; exact ⟨by decide, by decide, by decide, by decide, by decide⟩
  have SF := fun w' (h : Dz W w' W.heap.size bk bl (.slice a0 x.cell.length c0) (.slice a1 x.stack.length c1) (.slice a2 x.queue.length c2) (.slice a3 x.set.length c3) (.slice a4 x.table.length c4) (.slice p0 x.cell.length q0) (.slice p1 x.stack.length q1) (.slice p2 x.queue.length q2) (.slice p3 x.set.length q3) (.slice p4 x.table.length q4) (.slice z0 y.cell.length m0) (.slice z1 y.stack.length m1) (.slice z2 y.queue.length m2) (.slice z3 y.set.length m3) (.slice z4 y.table.length m4) x y none (fun _ => none)) => rSame_any (T := fun _ => True) h.lat (ct0_at w' _) sy ⟨by decide, by decide, by decide, by decide, by decide⟩
  rw [show ctB y ct0 = true from by rw [hy.out]; decide] at SF
  replace SF := Mr.hid SF
  go_upto_region 7 with (first | (go_at_call 8; refine (CM1.out _ DZ.out).mono ?_; clear CM1; rintro e w8 ⟨rfl, hB8⟩; have DZ := Mr.hid (DZ.out.next hB8); clear hB8; clear e0 e1 e2 e3 e4 e5 g0 g1 g2 g3 g4 g5; obtain ⟨⟨e0, e1, e2, e3, e4, e5⟩, ⟨g0, g1, g2, g3, g4, g5⟩, ⟨h0, h1, h2, h3, h4, h5⟩⟩ := CL.out _ DZ.out))
  clear e0 e1 e2 e3 e4 e5 g0 g1 g2 g3 g4 g5 h0 h1 h2 h3 h4 h5
  go_wp2
  go_loopg [46] n (fun k s wr => ∃ i : Nat, s = .int .i64 (i : Int) ∧ i + k = n ∧ (∀ (j : Nat) c, j < i → cs[j]? = some c → obj c.op ≠ 0) ∧ Dz W wr W.heap.size bk bl (.slice a0 x.cell.length c0) (.slice a1 x.stack.length c1) (.slice a2 x.queue.length c2) (.slice a3 x.set.length c3) (.slice a4 x.table.length c4) (.slice p0 x.cell.length q0) (.slice p1 x.stack.length q1) (.slice p2 x.queue.length q2) (.slice p3 x.set.length q3) (.slice p4 x.table.length q4) (.slice z0 y.cell.length m0) (.slice z1 y.stack.length m1) (.slice z2 y.queue.length m2) (.slice z3 y.set.length m3) (.slice z4 y.table.length m4) x y none (fun _ => none))
  case atStart => exact ⟨0, rfl, by omega, fun j c hj => by omega, DZ.out⟩
  case round =>
    clear DZ
    obtain ⟨i, rfl, hi', hob, DZ⟩ := hrel
    by_cases hlt : i < n
    · obtain ⟨c, hci⟩ : ∃ c, cs[i]? = some c := ⟨cs[i]'(by have := hn.out; omega), List.getElem?_eq_getElem _⟩
      obtain ⟨bc, oc, cc', hcv, _, _, hcl, hcr⟩ := (HC.out _ DZ.bel).there (by omega)
      cases hcv
      have hg := fun j (hj : j < 9) => cqs_get cs i c hci j hj
      have G0 : wr.cell? ⟨bc, oc + i * 9, none⟩ = some (.int .i64 c.th) := hcr (i * 9 + 0) _ (hg 0 (by omega))
      have G1 : wr.cell? ⟨bc, oc + i * 9 + 1, none⟩ = some (.int .i64 c.op) := hcr (i * 9 + 1) _ (hg 1 (by omega))
      have G2 : wr.cell? ⟨bc, oc + i * 9 + 2, none⟩ = some (.int .i64 c.arg) := hcr (i * 9 + 2) _ (hg 2 (by omega))
      have G3 : wr.cell? ⟨bc, oc + i * 9 + 3, none⟩ = some (.int .i64 c.data) := hcr (i * 9 + 3) _ (hg 3 (by omega))
      have G4 : wr.cell? ⟨bc, oc + i * 9 + 4, none⟩ = some (.int .i64 c.beg) := hcr (i * 9 + 4) _ (hg 4 (by omega))
      have G5 : wr.cell? ⟨bc, oc + i * 9 + 5, none⟩ = some (.int .i64 c.fin) := hcr (i * 9 + 5) _ (hg 5 (by omega))
      have G6 : wr.cell? ⟨bc, oc + i * 9 + 6, none⟩ = some (.int .i64 c.pt) := hcr (i * 9 + 6) _ (hg 6 (by omega))
      have G7 : wr.cell? ⟨bc, oc + i * 9 + 7, none⟩ = some (.int .i64 c.ak) := hcr (i * 9 + 7) _ (hg 7 (by omega))
      have G8 : wr.cell? ⟨bc, oc + i * 9 + 8, none⟩ = some (.int .i64 c.av) := hcr (i * 9 + 8) _ (hg 8 (by omega))
      clear hg hcr
      have hlI : (i : Int) < (n : Int) := by omega
      have DN := DZ.next ((Below.refl wr.heap.size wr).alloc (Nat.le_refl _) (cqO c))
      unfold cqO at DN
      obtain ⟨ob, hobj⟩ : ∃ b, b = obj c.op := ⟨_, rfl⟩
      have CO := rObject_any c.op
      rw [← hobj] at CO
      replace CO := Mr.hid CO
      replace DN := Mr.hid DN
      replace hob := Mr.hid hob
      replace hci := Mr.hid hci
      clear DZ
      by_cases hne : ob = 0
      · have CO2 := CO.out
        rw [hne] at CO2
        clear CO
        have CO := Mr.hid CO2
        clear CO2 hobj hne
        obtain ⟨-, -, ⟨h0, h1, h2, h3, h4, h5⟩⟩ := CL.out _ DN.out
        have DZ := DN
        clear DN
        go_wp2_with (first | (go_at_call 9; refine (CO.out _).mono ?_; clear CO; rintro e w' ⟨rfl, hw'⟩; obtain rfl := hw'.symm; clear hw') | (go_at_call 7; refine (SF.out _ DZ.out).mono ?_; clear SF; rintro e w10 ⟨rfl, hB10⟩; have hE := Mr.hid (DZ.out.next hB10).bel; clear hB10))
        go_ret
        exact ⟨rfl, hE.out⟩
      · have ob0 : (ob == 0) = false := by rw [beq_eq_false_iff_ne]; exact hne
        replace hobj := Mr.hid hobj
        have hob2 : ∀ (j : Nat) c', j < i + 1 → cs[j]? = some c' → obj c'.op ≠ 0 := fun j c' hj hc' => by
          by_cases e : j = i
          · subst e; rw [hci.out] at hc'; cases hc'; rw [← hobj.out]; exact hne
          · exact hob.out j c' (by omega) hc'
        replace hob2 := Mr.hid hob2
        replace hne := Mr.hid hne
        go_wp2_with (first | (go_at_call 9; refine (CO.out _).mono ?_; clear CO; rintro e w' ⟨rfl, hw'⟩; obtain rfl := hw'.symm; clear hw'))
        go_roundg (gk - 1)
        case measure => omega
        case rel => exact ⟨i + 1, by simp, by omega, hob2.out, DN.out⟩
    · have hge : decide ((i : Int) < (n : Int)) = false := decide_eq_false (by omega)
      exfalso
      obtain ⟨c, hc1, hc2⟩ := ho.out
      obtain ⟨j, hj⟩ := List.getElem?_of_mem hc1
      exact hob j c (by have := (List.getElem?_eq_some_iff.1 hj).1; have := hn.out; omega) hj hc2

/-- ModelPlays, of any contents and calls. -/
theorem walk_plays (u0 u1 u2 u3 u4 : Value) (x : Ct) (uc : Value) (cs : List Cq) (W : World) (hu : CtAt W (fun _ => True) u0 u1 u2 u3 u4 x) (hx : CtIn 140737488351232 x) (hc : Sl W (fun _ => True) 9 uc cs.length (cqs cs)) (hsm : cs.length * 72 ≤ 140737488351232) :
    Calls Try.prog 3 #[.agg #[u0, u1, u2, u3, u4], uc] W fun e w' => e = .returned (.bool true) ∧ Below W.heap.size W w' := by
  by_cases hm : May x
  · by_cases ho : ∃ c ∈ cs, obj c.op = 0
    · exact plays_ill u0 u1 u2 u3 u4 x uc cs W hu hx hc hsm hm ho
    · exact plays_any u0 u1 u2 u3 u4 x uc cs W hu hx hc hsm hm (fun c hcs h0 => ho ⟨c, hcs, h0⟩)
  · exact plays_state u0 u1 u2 u3 u4 x uc cs W hu hx hc hsm hm
end Go.Proofs.Ytegbcocbopgghac.Md
