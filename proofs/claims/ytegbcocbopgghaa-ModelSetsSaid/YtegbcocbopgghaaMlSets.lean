/-
  ModelSets: the walk.
-/
import Derived.Test.YtegbcocbopgghaaMlEnv
namespace Go.Proofs.Ytegbcocbopgghaa.Md
open Go.RowKit Mr Me
set_option linter.unusedVariables false
set_option linter.unusedSimpArgs false
theorem ctB_sameS (x : Ct) : ctB x x = true := by unfold ctB; simp
theorem ct_set (y : Ct) : { y with set := y.set } = y := rfl
theorem may_set {y : Ct} (h : May y) {l : List Int} (hl : l.Pairwise (· < ·)) : May { y with set := l } := ⟨h.1, ris_pw.2 hl, h.2.2⟩
set_option maxRecDepth 100000 in
set_option maxHeartbeats 32000000 in
theorem sets_in (u0 u1 u2 u3 u4 : Value) (x : Ct) (key other : Int) (W : World) (hu : CtAt W (fun _ => True) u0 u1 u2 u3 u4 x) (y : Ct) (hm : May y) (hy : CtIn 140737488351232 y)
    (CRT : ∀ (W : World) (S : Nat → Prop) (u0 u1 u2 u3 u4 : Value), CtAt W S u0 u1 u2 u3 u4 x → Calls Try.prog 18 #[.agg #[u0, u1, u2, u3, u4]] W fun e w' => ∃ v0 v1 v2 v3 v4, e = .returned (.agg #[v0, v1, v2, v3, v4]) ∧ CtAt w' (fun k => W.heap.size ≤ k) v0 v1 v2 v3 v4 y ∧ Below W.heap.size W w')
    (hk : inB y.set key = true) :
    Calls Try.prog 8 #[.agg #[u0, u1, u2, u3, u4], .int .i64 key, .int .i64 other] W fun e w' => e = .returned (.bool true) ∧ Below W.heap.size W w' := by
  obtain ⟨a0, c0, rfl, _⟩ := hu.cell.form
  obtain ⟨a1, c1, rfl, _⟩ := hu.stack.form
  obtain ⟨a2, c2, rfl, _⟩ := hu.queue.form
  obtain ⟨a3, c3, rfl, _⟩ := hu.set.form
  obtain ⟨a4, c4, rfl, _⟩ := hu.table.form
  have pw : y.set.Pairwise (· < ·) := ris_pw.1 hm.2.1
  obtain ⟨z, hz⟩ : ∃ z, z = ({ y with set := delL y.set key } : Ct) := ⟨_, rfl⟩
  have d52 : dan y 52 key = (5, 0) := by show (if inB y.set key then 5 else 6, 0) = _; rw [hk]; rfl
  have d50 : dan y 50 key = (6, 0) := by rw [dan_50, hk]; rfl
  have n50 : dnx y 50 key 0 = y := by rw [dnx_50, hk]; rfl
  have d51 : dan y 51 key = (5, 0) := by rw [dan_51, hk]; rfl
  have n51 : dnx y 51 key 0 = z := by rw [dnx_51, hk, hz]; rfl
  have hzk : inB z.set key = false := by rw [hz]; exact in_del pw hk
  have mz : May z := by rw [hz]; exact may_set hm (pw_del pw hk)
  have hno : other ≠ key → inB z.set other = inB y.set other := fun h => by rw [hz]; exact in_del_ne pw hk h
  have iz : CtIn 140737488351248 z := by rw [← n51]; exact dnx_in hy 51 key 0
  have E52 : ∀ q : Ct, inB q.set key = false → dan q 52 key = (6, 0) := fun q h => by show (if inB q.set key then 5 else 6, 0) = _; rw [h]; rfl
  have E51 : ∀ q : Ct, inB q.set key = false → dan q 51 key = (6, 0) := fun q h => by rw [dan_51, h]; rfl
  have N51 : ∀ q : Ct, inB q.set key = false → dnx q 51 key 0 = q := fun q h => by rw [dnx_51, h]; rfl
  have hyi := hy.mono (show 140737488351232 ≤ 225000000000000 by decide)
  have hzi := iz.mono (show 140737488351248 ≤ 225000000000000 by decide)
  have sy := hy.sm (show 140737488351232 ≤ 281474976710656 by decide)
  have sz := iz.sm (show 140737488351248 ≤ 281474976710656 by decide)
  have U0 := Mr.hid (hu.below ((Below.refl W.heap.size W).alloc (Nat.le_refl _) (ctO (.slice a0 x.cell.length c0) (.slice a1 x.stack.length c1) (.slice a2 x.queue.length c2) (.slice a3 x.set.length c3) (.slice a4 x.table.length c4))))
  conv at U0 => arg 1; arg 1; unfold ctO
  clear hu
  replace CRT := Mr.hid CRT
  replace hm := Mr.hid hm
  replace mz := Mr.hid mz
  replace hz := Mr.hid hz
  replace hk := Mr.hid hk
  replace hzk := Mr.hid hzk
  replace hno := Mr.hid hno
  replace d52 := Mr.hid d52
  replace d50 := Mr.hid d50
  replace n50 := Mr.hid n50
  replace d51 := Mr.hid d51
  replace n51 := Mr.hid n51
  replace E52 := Mr.hid E52
  replace E51 := Mr.hid E51
  replace N51 := Mr.hid N51
  go_enter Try.func8, Try.ntmps8
  go_upto_region 2 with (go_at_call 18; refine (CRT.out _ _ _ _ _ _ _ U0.out).mono ?_; clear CRT; rintro e w1 ⟨v0, v1, v2, v3, v4, rfl, hv, hB1⟩; simp only [World.size_alloc] at hB1 hv; obtain ⟨hD, hS, hg⟩ := righted (u0 := (.slice a0 x.cell.length c0)) (u1 := (.slice a1 x.stack.length c1)) (u2 := (.slice a2 x.queue.length c2)) (u3 := (.slice a3 x.set.length c3)) (u4 := (.slice a4 x.table.length c4)) rfl hB1 hv; clear hB1; obtain ⟨s0, t0, rfl, _⟩ := hv.cell.form; obtain ⟨s1, t1, rfl, _⟩ := hv.stack.form; obtain ⟨s2, t2, rfl, _⟩ := hv.queue.form; obtain ⟨s3, t3, rfl, _⟩ := hv.set.form; obtain ⟨s4, t4, rfl, _⟩ := hv.table.form;  clear hv; obtain ⟨k0, k1, k2, k3, k4, kl⟩ := ctO_cells hg; obtain ⟨f0, f1, f2, f3, f4⟩ := ctO_thaw hg; clear hg; replace hD := Mr.hid hD; replace hS := Mr.hid hS)
  clear k0 k1 k2 k3 k4 kl f0 f1 f2 f3 f4 U0
  replace hD := hD.out
  replace hS := hS.out
  conv at hD => arg 1; unfold set5
  conv at hS => arg 1; unfold set5
  generalize (((((w1.setCell { block := W.heap.size, off := 0 } (.slice s0 y.cell.length t0)).setCell { block := W.heap.size, off := 1 } (.slice s1 y.stack.length t1)).setCell { block := W.heap.size, off := 2 } (.slice s2 y.queue.length t2)).setCell { block := W.heap.size, off := 3 } (.slice s3 y.set.length t3)).setCell { block := W.heap.size, off := 4 } (.slice s4 y.table.length t4)) = x0 at *
  clear w1
  replace hD := Mr.hid hD
  replace hS := Mr.hid hS
  have C := mDo_any hS.out.at_ (hyi) (hm.out) 52 key 0 (by decide)
  rw [d52.out, show dnx y 52 key 0 = y from rfl] at C
  replace C := Mr.hid C
  obtain ⟨e0, e1, e2, e3, e4, el⟩ := ctO_cells hS.out.box
  go_upto_region 3 with (first | (go_at_call 19; refine C.out.mono ?_; clear C; rintro e y1 ⟨v0, v1, v2, v3, v4, rfl, hl, hB⟩; unfold ans; obtain ⟨z1_0, m1_0, rfl, _⟩ := hl.cell.form; obtain ⟨z1_1, m1_1, rfl, _⟩ := hl.stack.form; obtain ⟨z1_2, m1_2, rfl, _⟩ := hl.queue.form; obtain ⟨z1_3, m1_3, rfl, _⟩ := hl.set.form; obtain ⟨z1_4, m1_4, rfl, _⟩ := hl.table.form;  clear e0 e1 e2 e3 e4 el; replace hl := Mr.hid hl; replace hB := Mr.hid hB))
  obtain ⟨x1, hM⟩ : ∃ w', w' = (y1.alloc (ctO (.slice z1_0 y.cell.length m1_0) (.slice z1_1 y.stack.length m1_1) (.slice z1_2 y.queue.length m1_2) (.slice z1_3 y.set.length m1_3) (.slice z1_4 y.table.length m1_4))).alloc (ansO 5 0) := ⟨_, rfl⟩
  obtain ⟨Z, hadc, hada⟩ := made hM hB.out hl.out
  rw [show (y1.alloc (.cells #[.slice z1_0 y.cell.length m1_0, .slice z1_1 y.stack.length m1_1, .slice z1_2 y.queue.length m1_2, .slice z1_3 y.set.length m1_3, .slice z1_4 y.table.length m1_4] 29 (0, 0))).alloc (.cells #[.int .i64 5, .int .i64 0] 40 (0, 0)) = x1 from by rw [hM]; rfl]
  obtain ⟨b1, hb⟩ : ∃ b, b = y1.heap.size := ⟨_, rfl⟩
  rw [← hb] at hadc hada ⊢
  replace hD := Mr.hid (hD.out.next Z)
  replace hS := Mr.hid (hS.out.next Z)
  replace hadc := Mr.hid hadc
  replace hada := Mr.hid hada
  clear Z hM hb hl hB
  have C := mDo_any hS.out.at_ (hyi) (hm.out) 50 key 0 (by decide)
  rw [d50.out, n50.out] at C
  replace C := Mr.hid C
  obtain ⟨e0, e1, e2, e3, e4, el⟩ := ctO_cells hS.out.box
  go_upto_region 4 with (first | (go_at_call 19; refine C.out.mono ?_; clear C; rintro e y2 ⟨v0, v1, v2, v3, v4, rfl, hl, hB⟩; unfold ans; obtain ⟨z2_0, m2_0, rfl, _⟩ := hl.cell.form; obtain ⟨z2_1, m2_1, rfl, _⟩ := hl.stack.form; obtain ⟨z2_2, m2_2, rfl, _⟩ := hl.queue.form; obtain ⟨z2_3, m2_3, rfl, _⟩ := hl.set.form; obtain ⟨z2_4, m2_4, rfl, _⟩ := hl.table.form;  clear e0 e1 e2 e3 e4 el; replace hl := Mr.hid hl; replace hB := Mr.hid hB))
  obtain ⟨x2, hM⟩ : ∃ w', w' = (y2.alloc (ctO (.slice z2_0 y.cell.length m2_0) (.slice z2_1 y.stack.length m2_1) (.slice z2_2 y.queue.length m2_2) (.slice z2_3 y.set.length m2_3) (.slice z2_4 y.table.length m2_4))).alloc (ansO 6 0) := ⟨_, rfl⟩
  obtain ⟨Z, innc, inna⟩ := made hM hB.out hl.out
  rw [show (y2.alloc (.cells #[.slice z2_0 y.cell.length m2_0, .slice z2_1 y.stack.length m2_1, .slice z2_2 y.queue.length m2_2, .slice z2_3 y.set.length m2_3, .slice z2_4 y.table.length m2_4] 29 (0, 0))).alloc (.cells #[.int .i64 6, .int .i64 0] 40 (0, 0)) = x2 from by rw [hM]; rfl]
  obtain ⟨b2, hb⟩ : ∃ b, b = y2.heap.size := ⟨_, rfl⟩
  rw [← hb] at innc inna ⊢
  replace hD := Mr.hid (hD.out.next Z)
  replace hS := Mr.hid (hS.out.next Z)
  replace hadc := Mr.hid (hadc.out.next Z)
  replace hada := Mr.hid (hada.out.next Z)
  replace innc := Mr.hid innc
  replace inna := Mr.hid inna
  clear Z hM hb hl hB
  have C := mDo_any innc.out.at_ (hyi) (hm.out) 50 key 0 (by decide)
  rw [d50.out, n50.out] at C
  replace C := Mr.hid C
  obtain ⟨e0, e1, e2, e3, e4, el⟩ := ctO_cells innc.out.box
  go_upto_region 5 with (first | (go_at_call 19; refine C.out.mono ?_; clear C; rintro e y3 ⟨v0, v1, v2, v3, v4, rfl, hl, hB⟩; unfold ans; obtain ⟨z3_0, m3_0, rfl, _⟩ := hl.cell.form; obtain ⟨z3_1, m3_1, rfl, _⟩ := hl.stack.form; obtain ⟨z3_2, m3_2, rfl, _⟩ := hl.queue.form; obtain ⟨z3_3, m3_3, rfl, _⟩ := hl.set.form; obtain ⟨z3_4, m3_4, rfl, _⟩ := hl.table.form;  clear e0 e1 e2 e3 e4 el; replace hl := Mr.hid hl; replace hB := Mr.hid hB))
  obtain ⟨x3, hM⟩ : ∃ w', w' = (y3.alloc (ctO (.slice z3_0 y.cell.length m3_0) (.slice z3_1 y.stack.length m3_1) (.slice z3_2 y.queue.length m3_2) (.slice z3_3 y.set.length m3_3) (.slice z3_4 y.table.length m3_4))).alloc (ansO 6 0) := ⟨_, rfl⟩
  obtain ⟨Z, agac, agaa⟩ := made hM hB.out hl.out
  rw [show (y3.alloc (.cells #[.slice z3_0 y.cell.length m3_0, .slice z3_1 y.stack.length m3_1, .slice z3_2 y.queue.length m3_2, .slice z3_3 y.set.length m3_3, .slice z3_4 y.table.length m3_4] 29 (0, 0))).alloc (.cells #[.int .i64 6, .int .i64 0] 40 (0, 0)) = x3 from by rw [hM]; rfl]
  obtain ⟨b3, hb⟩ : ∃ b, b = y3.heap.size := ⟨_, rfl⟩
  rw [← hb] at agac agaa ⊢
  replace hD := Mr.hid (hD.out.next Z)
  replace hS := Mr.hid (hS.out.next Z)
  replace hadc := Mr.hid (hadc.out.next Z)
  replace hada := Mr.hid (hada.out.next Z)
  replace innc := Mr.hid (innc.out.next Z)
  replace inna := Mr.hid (inna.out.next Z)
  replace agac := Mr.hid agac
  replace agaa := Mr.hid agaa
  clear Z hM hb hl hB
  have C := mDo_any agac.out.at_ (hyi) (hm.out) 51 key 0 (by decide)
  rw [d51.out, n51.out] at C
  replace C := Mr.hid C
  obtain ⟨e0, e1, e2, e3, e4, el⟩ := ctO_cells agac.out.box
  go_upto_region 6 with (first | (go_at_call 19; refine C.out.mono ?_; clear C; rintro e y4 ⟨v0, v1, v2, v3, v4, rfl, hl, hB⟩; unfold ans; obtain ⟨z4_0, m4_0, rfl, _⟩ := hl.cell.form; obtain ⟨z4_1, m4_1, rfl, _⟩ := hl.stack.form; obtain ⟨z4_2, m4_2, rfl, _⟩ := hl.queue.form; obtain ⟨z4_3, m4_3, rfl, _⟩ := hl.set.form; obtain ⟨z4_4, m4_4, rfl, _⟩ := hl.table.form;  clear e0 e1 e2 e3 e4 el; replace hl := Mr.hid hl; replace hB := Mr.hid hB))
  obtain ⟨x4, hM⟩ : ∃ w', w' = (y4.alloc (ctO (.slice z4_0 z.cell.length m4_0) (.slice z4_1 z.stack.length m4_1) (.slice z4_2 z.queue.length m4_2) (.slice z4_3 z.set.length m4_3) (.slice z4_4 z.table.length m4_4))).alloc (ansO 5 0) := ⟨_, rfl⟩
  obtain ⟨Z, outc, outa⟩ := made hM hB.out hl.out
  rw [show (y4.alloc (.cells #[.slice z4_0 z.cell.length m4_0, .slice z4_1 z.stack.length m4_1, .slice z4_2 z.queue.length m4_2, .slice z4_3 z.set.length m4_3, .slice z4_4 z.table.length m4_4] 29 (0, 0))).alloc (.cells #[.int .i64 5, .int .i64 0] 40 (0, 0)) = x4 from by rw [hM]; rfl]
  obtain ⟨b4, hb⟩ : ∃ b, b = y4.heap.size := ⟨_, rfl⟩
  rw [← hb] at outc outa ⊢
  replace hD := Mr.hid (hD.out.next Z)
  replace hS := Mr.hid (hS.out.next Z)
  replace hadc := Mr.hid (hadc.out.next Z)
  replace hada := Mr.hid (hada.out.next Z)
  replace innc := Mr.hid (innc.out.next Z)
  replace inna := Mr.hid (inna.out.next Z)
  replace agac := Mr.hid (agac.out.next Z)
  replace agaa := Mr.hid (agaa.out.next Z)
  replace outc := Mr.hid outc
  replace outa := Mr.hid outa
  clear Z hM hb hl hB
  have C := mDo_any outc.out.at_ (hzi) (mz.out) 52 key 0 (by decide)
  rw [E52.out z hzk.out, show dnx z 52 key 0 = z from rfl] at C
  replace C := Mr.hid C
  obtain ⟨e0, e1, e2, e3, e4, el⟩ := ctO_cells outc.out.box
  go_upto_region 7 with (first | (go_at_call 19; refine C.out.mono ?_; clear C; rintro e y5 ⟨v0, v1, v2, v3, v4, rfl, hl, hB⟩; unfold ans; obtain ⟨z5_0, m5_0, rfl, _⟩ := hl.cell.form; obtain ⟨z5_1, m5_1, rfl, _⟩ := hl.stack.form; obtain ⟨z5_2, m5_2, rfl, _⟩ := hl.queue.form; obtain ⟨z5_3, m5_3, rfl, _⟩ := hl.set.form; obtain ⟨z5_4, m5_4, rfl, _⟩ := hl.table.form;  clear e0 e1 e2 e3 e4 el; replace hl := Mr.hid hl; replace hB := Mr.hid hB))
  obtain ⟨x5, hM⟩ : ∃ w', w' = (y5.alloc (ctO (.slice z5_0 z.cell.length m5_0) (.slice z5_1 z.stack.length m5_1) (.slice z5_2 z.queue.length m5_2) (.slice z5_3 z.set.length m5_3) (.slice z5_4 z.table.length m5_4))).alloc (ansO 6 0) := ⟨_, rfl⟩
  obtain ⟨Z, noxc, noxa⟩ := made hM hB.out hl.out
  rw [show (y5.alloc (.cells #[.slice z5_0 z.cell.length m5_0, .slice z5_1 z.stack.length m5_1, .slice z5_2 z.queue.length m5_2, .slice z5_3 z.set.length m5_3, .slice z5_4 z.table.length m5_4] 29 (0, 0))).alloc (.cells #[.int .i64 6, .int .i64 0] 40 (0, 0)) = x5 from by rw [hM]; rfl]
  obtain ⟨b5, hb⟩ : ∃ b, b = y5.heap.size := ⟨_, rfl⟩
  rw [← hb] at noxc noxa ⊢
  replace hD := Mr.hid (hD.out.next Z)
  replace hS := Mr.hid (hS.out.next Z)
  replace hadc := Mr.hid (hadc.out.next Z)
  replace hada := Mr.hid (hada.out.next Z)
  replace innc := Mr.hid (innc.out.next Z)
  replace inna := Mr.hid (inna.out.next Z)
  replace agac := Mr.hid (agac.out.next Z)
  replace agaa := Mr.hid (agaa.out.next Z)
  replace outc := Mr.hid (outc.out.next Z)
  replace outa := Mr.hid (outa.out.next Z)
  replace noxc := Mr.hid noxc
  replace noxa := Mr.hid noxa
  clear Z hM hb hl hB
  have C := mDo_any outc.out.at_ (hzi) (mz.out) 51 key 0 (by decide)
  rw [E51.out z hzk.out, N51.out z hzk.out] at C
  replace C := Mr.hid C
  obtain ⟨e0, e1, e2, e3, e4, el⟩ := ctO_cells outc.out.box
  go_upto_region 8 with (first | (go_at_call 19; refine C.out.mono ?_; clear C; rintro e y6 ⟨v0, v1, v2, v3, v4, rfl, hl, hB⟩; unfold ans; obtain ⟨z6_0, m6_0, rfl, _⟩ := hl.cell.form; obtain ⟨z6_1, m6_1, rfl, _⟩ := hl.stack.form; obtain ⟨z6_2, m6_2, rfl, _⟩ := hl.queue.form; obtain ⟨z6_3, m6_3, rfl, _⟩ := hl.set.form; obtain ⟨z6_4, m6_4, rfl, _⟩ := hl.table.form;  clear e0 e1 e2 e3 e4 el; replace hl := Mr.hid hl; replace hB := Mr.hid hB))
  obtain ⟨x6, hM⟩ : ∃ w', w' = (y6.alloc (ctO (.slice z6_0 z.cell.length m6_0) (.slice z6_1 z.stack.length m6_1) (.slice z6_2 z.queue.length m6_2) (.slice z6_3 z.set.length m6_3) (.slice z6_4 z.table.length m6_4))).alloc (ansO 6 0) := ⟨_, rfl⟩
  obtain ⟨Z, gonc, gona⟩ := made hM hB.out hl.out
  rw [show (y6.alloc (.cells #[.slice z6_0 z.cell.length m6_0, .slice z6_1 z.stack.length m6_1, .slice z6_2 z.queue.length m6_2, .slice z6_3 z.set.length m6_3, .slice z6_4 z.table.length m6_4] 29 (0, 0))).alloc (.cells #[.int .i64 6, .int .i64 0] 40 (0, 0)) = x6 from by rw [hM]; rfl]
  obtain ⟨b6, hb⟩ : ∃ b, b = y6.heap.size := ⟨_, rfl⟩
  rw [← hb] at gonc gona ⊢
  replace hD := Mr.hid (hD.out.next Z)
  replace hS := Mr.hid (hS.out.next Z)
  replace hadc := Mr.hid (hadc.out.next Z)
  replace hada := Mr.hid (hada.out.next Z)
  replace innc := Mr.hid (innc.out.next Z)
  replace inna := Mr.hid (inna.out.next Z)
  replace agac := Mr.hid (agac.out.next Z)
  replace agaa := Mr.hid (agaa.out.next Z)
  replace outc := Mr.hid (outc.out.next Z)
  replace outa := Mr.hid (outa.out.next Z)
  replace noxc := Mr.hid (noxc.out.next Z)
  replace noxa := Mr.hid (noxa.out.next Z)
  replace gonc := Mr.hid gonc
  replace gona := Mr.hid gona
  clear Z hM hb hl hB
  have t0 : Hid True := trivial
  have t1 : Hid True := trivial
  have t2 : Hid True := trivial
  have t3 : Hid True := trivial
  have t4 : Hid True := trivial
  go_upto_region 16 with (first | (clear t0; go_at_call 20; refine (awake_any _).mono ?_; rintro e w8 ⟨rfl, hB⟩; have hD := Mr.hid (hD.out.next hB); have hS := Mr.hid (hS.out.next hB); have hadc := Mr.hid (hadc.out.next hB); have hada := Mr.hid (hada.out.next hB); have innc := Mr.hid (innc.out.next hB); have inna := Mr.hid (inna.out.next hB); have agac := Mr.hid (agac.out.next hB); have agaa := Mr.hid (agaa.out.next hB); have outc := Mr.hid (outc.out.next hB); have outa := Mr.hid (outa.out.next hB); have noxc := Mr.hid (noxc.out.next hB); have noxa := Mr.hid (noxa.out.next hB); have gonc := Mr.hid (gonc.out.next hB); have gona := Mr.hid (gona.out.next hB); clear hB; obtain ⟨q0_0, q0_1, q0_2, q0_3, q0_4, q0_5⟩ := ctO_cells hadc.out.box; obtain ⟨q1_0, q1_1, q1_2, q1_3, q1_4, q1_5⟩ := ctO_cells hS.out.box; obtain ⟨q2_0, q2_1, q2_2, q2_3, q2_4, q2_5⟩ := ctO_cells innc.out.box; obtain ⟨q3_0, q3_1, q3_2, q3_3, q3_4, q3_5⟩ := ctO_cells agac.out.box; obtain ⟨q4_0, q4_1, q4_2, q4_3, q4_4, q4_5⟩ := ctO_cells outc.out.box; obtain ⟨r0_0, r0_1, r0_2, -, -⟩ := ansO_cells hada.out.box; obtain ⟨r1_0, r1_1, r1_2, -, -⟩ := ansO_cells inna.out.box; obtain ⟨r2_0, r2_1, r2_2, -, -⟩ := ansO_cells agaa.out.box; obtain ⟨r3_0, r3_1, r3_2, -, -⟩ := ansO_cells outa.out.box; obtain ⟨r4_0, r4_1, r4_2, -, -⟩ := ansO_cells noxa.out.box; obtain ⟨r5_0, r5_1, r5_2, -, -⟩ := ansO_cells gona.out.box) | (clear t1; go_at_call 12; refine (sameT hadc.out hS.out sy).mono ?_; clear q0_0 q0_1 q0_2 q0_3 q0_4 q0_5 q1_0 q1_1 q1_2 q1_3 q1_4 q1_5 q2_0 q2_1 q2_2 q2_3 q2_4 q2_5 q3_0 q3_1 q3_2 q3_3 q3_4 q3_5 q4_0 q4_1 q4_2 q4_3 q4_4 q4_5; clear r0_0 r0_1 r0_2 r1_0 r1_1 r1_2 r2_0 r2_1 r2_2 r3_0 r3_1 r3_2 r4_0 r4_1 r4_2 r5_0 r5_1 r5_2; rintro e w9 ⟨rfl, hB⟩; have hD := Mr.hid (hD.out.next hB); have hS := Mr.hid (hS.out.next hB); have hadc := Mr.hid (hadc.out.next hB); have hada := Mr.hid (hada.out.next hB); have innc := Mr.hid (innc.out.next hB); have inna := Mr.hid (inna.out.next hB); have agac := Mr.hid (agac.out.next hB); have agaa := Mr.hid (agaa.out.next hB); have outc := Mr.hid (outc.out.next hB); have outa := Mr.hid (outa.out.next hB); have noxc := Mr.hid (noxc.out.next hB); have noxa := Mr.hid (noxa.out.next hB); have gonc := Mr.hid (gonc.out.next hB); have gona := Mr.hid (gona.out.next hB); clear hB; obtain ⟨q0_0, q0_1, q0_2, q0_3, q0_4, q0_5⟩ := ctO_cells hadc.out.box; obtain ⟨q1_0, q1_1, q1_2, q1_3, q1_4, q1_5⟩ := ctO_cells hS.out.box; obtain ⟨q2_0, q2_1, q2_2, q2_3, q2_4, q2_5⟩ := ctO_cells innc.out.box; obtain ⟨q3_0, q3_1, q3_2, q3_3, q3_4, q3_5⟩ := ctO_cells agac.out.box; obtain ⟨q4_0, q4_1, q4_2, q4_3, q4_4, q4_5⟩ := ctO_cells outc.out.box; obtain ⟨r0_0, r0_1, r0_2, -, -⟩ := ansO_cells hada.out.box; obtain ⟨r1_0, r1_1, r1_2, -, -⟩ := ansO_cells inna.out.box; obtain ⟨r2_0, r2_1, r2_2, -, -⟩ := ansO_cells agaa.out.box; obtain ⟨r3_0, r3_1, r3_2, -, -⟩ := ansO_cells outa.out.box; obtain ⟨r4_0, r4_1, r4_2, -, -⟩ := ansO_cells noxa.out.box; obtain ⟨r5_0, r5_1, r5_2, -, -⟩ := ansO_cells gona.out.box) | (clear t2; go_at_call 12; refine (sameT innc.out agac.out sy).mono ?_; clear q0_0 q0_1 q0_2 q0_3 q0_4 q0_5 q1_0 q1_1 q1_2 q1_3 q1_4 q1_5 q2_0 q2_1 q2_2 q2_3 q2_4 q2_5 q3_0 q3_1 q3_2 q3_3 q3_4 q3_5 q4_0 q4_1 q4_2 q4_3 q4_4 q4_5; clear r0_0 r0_1 r0_2 r1_0 r1_1 r1_2 r2_0 r2_1 r2_2 r3_0 r3_1 r3_2 r4_0 r4_1 r4_2 r5_0 r5_1 r5_2; rintro e w10 ⟨rfl, hB⟩; have hD := Mr.hid (hD.out.next hB); have hS := Mr.hid (hS.out.next hB); have hadc := Mr.hid (hadc.out.next hB); have hada := Mr.hid (hada.out.next hB); have innc := Mr.hid (innc.out.next hB); have inna := Mr.hid (inna.out.next hB); have agac := Mr.hid (agac.out.next hB); have agaa := Mr.hid (agaa.out.next hB); have outc := Mr.hid (outc.out.next hB); have outa := Mr.hid (outa.out.next hB); have noxc := Mr.hid (noxc.out.next hB); have noxa := Mr.hid (noxa.out.next hB); have gonc := Mr.hid (gonc.out.next hB); have gona := Mr.hid (gona.out.next hB); clear hB; obtain ⟨q0_0, q0_1, q0_2, q0_3, q0_4, q0_5⟩ := ctO_cells hadc.out.box; obtain ⟨q1_0, q1_1, q1_2, q1_3, q1_4, q1_5⟩ := ctO_cells hS.out.box; obtain ⟨q2_0, q2_1, q2_2, q2_3, q2_4, q2_5⟩ := ctO_cells innc.out.box; obtain ⟨q3_0, q3_1, q3_2, q3_3, q3_4, q3_5⟩ := ctO_cells agac.out.box; obtain ⟨q4_0, q4_1, q4_2, q4_3, q4_4, q4_5⟩ := ctO_cells outc.out.box; obtain ⟨r0_0, r0_1, r0_2, -, -⟩ := ansO_cells hada.out.box; obtain ⟨r1_0, r1_1, r1_2, -, -⟩ := ansO_cells inna.out.box; obtain ⟨r2_0, r2_1, r2_2, -, -⟩ := ansO_cells agaa.out.box; obtain ⟨r3_0, r3_1, r3_2, -, -⟩ := ansO_cells outa.out.box; obtain ⟨r4_0, r4_1, r4_2, -, -⟩ := ansO_cells noxa.out.box; obtain ⟨r5_0, r5_1, r5_2, -, -⟩ := ansO_cells gona.out.box) | (clear t3; go_at_call 11; refine (mayT innc.out sy hm.out).mono ?_; clear q0_0 q0_1 q0_2 q0_3 q0_4 q0_5 q1_0 q1_1 q1_2 q1_3 q1_4 q1_5 q2_0 q2_1 q2_2 q2_3 q2_4 q2_5 q3_0 q3_1 q3_2 q3_3 q3_4 q3_5 q4_0 q4_1 q4_2 q4_3 q4_4 q4_5; clear r0_0 r0_1 r0_2 r1_0 r1_1 r1_2 r2_0 r2_1 r2_2 r3_0 r3_1 r3_2 r4_0 r4_1 r4_2 r5_0 r5_1 r5_2; rintro e w11 ⟨rfl, hB⟩; have hD := Mr.hid (hD.out.next hB); have hS := Mr.hid (hS.out.next hB); have hadc := Mr.hid (hadc.out.next hB); have hada := Mr.hid (hada.out.next hB); have innc := Mr.hid (innc.out.next hB); have inna := Mr.hid (inna.out.next hB); have agac := Mr.hid (agac.out.next hB); have agaa := Mr.hid (agaa.out.next hB); have outc := Mr.hid (outc.out.next hB); have outa := Mr.hid (outa.out.next hB); have noxc := Mr.hid (noxc.out.next hB); have noxa := Mr.hid (noxa.out.next hB); have gonc := Mr.hid (gonc.out.next hB); have gona := Mr.hid (gona.out.next hB); clear hB; obtain ⟨q0_0, q0_1, q0_2, q0_3, q0_4, q0_5⟩ := ctO_cells hadc.out.box; obtain ⟨q1_0, q1_1, q1_2, q1_3, q1_4, q1_5⟩ := ctO_cells hS.out.box; obtain ⟨q2_0, q2_1, q2_2, q2_3, q2_4, q2_5⟩ := ctO_cells innc.out.box; obtain ⟨q3_0, q3_1, q3_2, q3_3, q3_4, q3_5⟩ := ctO_cells agac.out.box; obtain ⟨q4_0, q4_1, q4_2, q4_3, q4_4, q4_5⟩ := ctO_cells outc.out.box; obtain ⟨r0_0, r0_1, r0_2, -, -⟩ := ansO_cells hada.out.box; obtain ⟨r1_0, r1_1, r1_2, -, -⟩ := ansO_cells inna.out.box; obtain ⟨r2_0, r2_1, r2_2, -, -⟩ := ansO_cells agaa.out.box; obtain ⟨r3_0, r3_1, r3_2, -, -⟩ := ansO_cells outa.out.box; obtain ⟨r4_0, r4_1, r4_2, -, -⟩ := ansO_cells noxa.out.box; obtain ⟨r5_0, r5_1, r5_2, -, -⟩ := ansO_cells gona.out.box) | (clear t4; go_at_call 11; refine (mayT outc.out sz mz.out).mono ?_; clear q0_0 q0_1 q0_2 q0_3 q0_4 q0_5 q1_0 q1_1 q1_2 q1_3 q1_4 q1_5 q2_0 q2_1 q2_2 q2_3 q2_4 q2_5 q3_0 q3_1 q3_2 q3_3 q3_4 q3_5 q4_0 q4_1 q4_2 q4_3 q4_4 q4_5; clear r0_0 r0_1 r0_2 r1_0 r1_1 r1_2 r2_0 r2_1 r2_2 r3_0 r3_1 r3_2 r4_0 r4_1 r4_2 r5_0 r5_1 r5_2; rintro e w12 ⟨rfl, hB⟩; have hD := Mr.hid (hD.out.next hB); have hS := Mr.hid (hS.out.next hB); have hadc := Mr.hid (hadc.out.next hB); have hada := Mr.hid (hada.out.next hB); have innc := Mr.hid (innc.out.next hB); have inna := Mr.hid (inna.out.next hB); have agac := Mr.hid (agac.out.next hB); have agaa := Mr.hid (agaa.out.next hB); have outc := Mr.hid (outc.out.next hB); have outa := Mr.hid (outa.out.next hB); have noxc := Mr.hid (noxc.out.next hB); have noxa := Mr.hid (noxa.out.next hB); have gonc := Mr.hid (gonc.out.next hB); have gona := Mr.hid (gona.out.next hB); clear hB; obtain ⟨q0_0, q0_1, q0_2, q0_3, q0_4, q0_5⟩ := ctO_cells hadc.out.box; obtain ⟨q1_0, q1_1, q1_2, q1_3, q1_4, q1_5⟩ := ctO_cells hS.out.box; obtain ⟨q2_0, q2_1, q2_2, q2_3, q2_4, q2_5⟩ := ctO_cells innc.out.box; obtain ⟨q3_0, q3_1, q3_2, q3_3, q3_4, q3_5⟩ := ctO_cells agac.out.box; obtain ⟨q4_0, q4_1, q4_2, q4_3, q4_4, q4_5⟩ := ctO_cells outc.out.box; obtain ⟨r0_0, r0_1, r0_2, -, -⟩ := ansO_cells hada.out.box; obtain ⟨r1_0, r1_1, r1_2, -, -⟩ := ansO_cells inna.out.box; obtain ⟨r2_0, r2_1, r2_2, -, -⟩ := ansO_cells agaa.out.box; obtain ⟨r3_0, r3_1, r3_2, -, -⟩ := ansO_cells outa.out.box; obtain ⟨r4_0, r4_1, r4_2, -, -⟩ := ansO_cells noxa.out.box; obtain ⟨r5_0, r5_1, r5_2, -, -⟩ := ansO_cells gona.out.box))
  clear q0_0 q0_1 q0_2 q0_3 q0_4 q0_5 q1_0 q1_1 q1_2 q1_3 q1_4 q1_5 q2_0 q2_1 q2_2 q2_3 q2_4 q2_5 q3_0 q3_1 q3_2 q3_3 q3_4 q3_5 q4_0 q4_1 q4_2 q4_3 q4_4 q4_5
  clear r0_0 r0_1 r0_2 r1_0 r1_1 r1_2 r2_0 r2_1 r2_2 r3_0 r3_1 r3_2 r4_0 r4_1 r4_2 r5_0 r5_1 r5_2
  by_cases hok : other = key
  · have b1 : (other == key) = true := by rw [hok]; simp
    clear hok
    go_wp2
    go_ret
    exact ⟨rfl, hD.out.bel⟩
  have b1 : (other == key) = false := by simpa using hok
  have hzo : inB z.set other = inB y.set other := hno.out hok
  obtain ⟨ko, hko⟩ : ∃ k : Int, k = if inB y.set other then 5 else 6 := ⟨_, rfl⟩
  have O1 : dan y 52 other = (ko, 0) := by show (if inB y.set other then 5 else 6, 0) = _; rw [hko]
  have O2 : dan z 52 other = (ko, 0) := by show (if inB z.set other then 5 else 6, 0) = _; rw [hko, hzo]
  have bk : (ko == ko) = true := by simp
  replace O1 := Mr.hid O1
  replace O2 := Mr.hid O2
  replace hko := Mr.hid hko
  replace hok := Mr.hid hok
  replace hzo := Mr.hid hzo
  go_upto_region 18 with (fail)
  have C := mDo_any hS.out.at_ (hyi) (hm.out) 52 other 0 (by decide)
  rw [O1.out, show dnx y 52 other 0 = y from rfl] at C
  replace C := Mr.hid C
  obtain ⟨e0, e1, e2, e3, e4, el⟩ := ctO_cells hS.out.box
  go_upto_region 19 with (first | (go_at_call 19; refine C.out.mono ?_; clear C; rintro e y7 ⟨v0, v1, v2, v3, v4, rfl, hl, hB⟩; unfold ans; obtain ⟨z7_0, m7_0, rfl, _⟩ := hl.cell.form; obtain ⟨z7_1, m7_1, rfl, _⟩ := hl.stack.form; obtain ⟨z7_2, m7_2, rfl, _⟩ := hl.queue.form; obtain ⟨z7_3, m7_3, rfl, _⟩ := hl.set.form; obtain ⟨z7_4, m7_4, rfl, _⟩ := hl.table.form;  clear e0 e1 e2 e3 e4 el; replace hl := Mr.hid hl; replace hB := Mr.hid hB))
  obtain ⟨x7, hM⟩ : ∃ w', w' = (y7.alloc (ctO (.slice z7_0 y.cell.length m7_0) (.slice z7_1 y.stack.length m7_1) (.slice z7_2 y.queue.length m7_2) (.slice z7_3 y.set.length m7_3) (.slice z7_4 y.table.length m7_4))).alloc (ansO ko 0) := ⟨_, rfl⟩
  obtain ⟨Z, onec, onea⟩ := made hM hB.out hl.out
  rw [show (y7.alloc (.cells #[.slice z7_0 y.cell.length m7_0, .slice z7_1 y.stack.length m7_1, .slice z7_2 y.queue.length m7_2, .slice z7_3 y.set.length m7_3, .slice z7_4 y.table.length m7_4] 29 (0, 0))).alloc (.cells #[.int .i64 ko, .int .i64 0] 40 (0, 0)) = x7 from by rw [hM]; rfl]
  obtain ⟨b7, hb⟩ : ∃ b, b = y7.heap.size := ⟨_, rfl⟩
  rw [← hb] at onec onea ⊢
  replace hD := Mr.hid (hD.out.next Z)
  replace hS := Mr.hid (hS.out.next Z)
  replace hadc := Mr.hid (hadc.out.next Z)
  replace hada := Mr.hid (hada.out.next Z)
  replace innc := Mr.hid (innc.out.next Z)
  replace inna := Mr.hid (inna.out.next Z)
  replace agac := Mr.hid (agac.out.next Z)
  replace agaa := Mr.hid (agaa.out.next Z)
  replace outc := Mr.hid (outc.out.next Z)
  replace outa := Mr.hid (outa.out.next Z)
  replace noxc := Mr.hid (noxc.out.next Z)
  replace noxa := Mr.hid (noxa.out.next Z)
  replace gonc := Mr.hid (gonc.out.next Z)
  replace gona := Mr.hid (gona.out.next Z)
  replace onec := Mr.hid onec
  replace onea := Mr.hid onea
  clear Z hM hb hl hB
  have C := mDo_any innc.out.at_ (hyi) (hm.out) 52 other 0 (by decide)
  rw [O1.out, show dnx y 52 other 0 = y from rfl] at C
  replace C := Mr.hid C
  obtain ⟨e0, e1, e2, e3, e4, el⟩ := ctO_cells innc.out.box
  go_upto_region 20 with (first | (go_at_call 19; refine C.out.mono ?_; clear C; rintro e y8 ⟨v0, v1, v2, v3, v4, rfl, hl, hB⟩; unfold ans; obtain ⟨z8_0, m8_0, rfl, _⟩ := hl.cell.form; obtain ⟨z8_1, m8_1, rfl, _⟩ := hl.stack.form; obtain ⟨z8_2, m8_2, rfl, _⟩ := hl.queue.form; obtain ⟨z8_3, m8_3, rfl, _⟩ := hl.set.form; obtain ⟨z8_4, m8_4, rfl, _⟩ := hl.table.form;  clear e0 e1 e2 e3 e4 el; replace hl := Mr.hid hl; replace hB := Mr.hid hB))
  obtain ⟨x8, hM⟩ : ∃ w', w' = (y8.alloc (ctO (.slice z8_0 y.cell.length m8_0) (.slice z8_1 y.stack.length m8_1) (.slice z8_2 y.queue.length m8_2) (.slice z8_3 y.set.length m8_3) (.slice z8_4 y.table.length m8_4))).alloc (ansO ko 0) := ⟨_, rfl⟩
  obtain ⟨Z, twoc, twoa⟩ := made hM hB.out hl.out
  rw [show (y8.alloc (.cells #[.slice z8_0 y.cell.length m8_0, .slice z8_1 y.stack.length m8_1, .slice z8_2 y.queue.length m8_2, .slice z8_3 y.set.length m8_3, .slice z8_4 y.table.length m8_4] 29 (0, 0))).alloc (.cells #[.int .i64 ko, .int .i64 0] 40 (0, 0)) = x8 from by rw [hM]; rfl]
  obtain ⟨b8, hb⟩ : ∃ b, b = y8.heap.size := ⟨_, rfl⟩
  rw [← hb] at twoc twoa ⊢
  replace hD := Mr.hid (hD.out.next Z)
  replace hS := Mr.hid (hS.out.next Z)
  replace hadc := Mr.hid (hadc.out.next Z)
  replace hada := Mr.hid (hada.out.next Z)
  replace innc := Mr.hid (innc.out.next Z)
  replace inna := Mr.hid (inna.out.next Z)
  replace agac := Mr.hid (agac.out.next Z)
  replace agaa := Mr.hid (agaa.out.next Z)
  replace outc := Mr.hid (outc.out.next Z)
  replace outa := Mr.hid (outa.out.next Z)
  replace noxc := Mr.hid (noxc.out.next Z)
  replace noxa := Mr.hid (noxa.out.next Z)
  replace gonc := Mr.hid (gonc.out.next Z)
  replace gona := Mr.hid (gona.out.next Z)
  replace onec := Mr.hid (onec.out.next Z)
  replace onea := Mr.hid (onea.out.next Z)
  replace twoc := Mr.hid twoc
  replace twoa := Mr.hid twoa
  clear Z hM hb hl hB
  have C := mDo_any outc.out.at_ (hzi) (mz.out) 52 other 0 (by decide)
  rw [O2.out, show dnx z 52 other 0 = z from rfl] at C
  replace C := Mr.hid C
  obtain ⟨e0, e1, e2, e3, e4, el⟩ := ctO_cells outc.out.box
  go_upto_region 21 with (first | (go_at_call 19; refine C.out.mono ?_; clear C; rintro e y9 ⟨v0, v1, v2, v3, v4, rfl, hl, hB⟩; unfold ans; obtain ⟨z9_0, m9_0, rfl, _⟩ := hl.cell.form; obtain ⟨z9_1, m9_1, rfl, _⟩ := hl.stack.form; obtain ⟨z9_2, m9_2, rfl, _⟩ := hl.queue.form; obtain ⟨z9_3, m9_3, rfl, _⟩ := hl.set.form; obtain ⟨z9_4, m9_4, rfl, _⟩ := hl.table.form;  clear e0 e1 e2 e3 e4 el; replace hl := Mr.hid hl; replace hB := Mr.hid hB))
  obtain ⟨x9, hM⟩ : ∃ w', w' = (y9.alloc (ctO (.slice z9_0 z.cell.length m9_0) (.slice z9_1 z.stack.length m9_1) (.slice z9_2 z.queue.length m9_2) (.slice z9_3 z.set.length m9_3) (.slice z9_4 z.table.length m9_4))).alloc (ansO ko 0) := ⟨_, rfl⟩
  obtain ⟨Z, thrc, thra⟩ := made hM hB.out hl.out
  rw [show (y9.alloc (.cells #[.slice z9_0 z.cell.length m9_0, .slice z9_1 z.stack.length m9_1, .slice z9_2 z.queue.length m9_2, .slice z9_3 z.set.length m9_3, .slice z9_4 z.table.length m9_4] 29 (0, 0))).alloc (.cells #[.int .i64 ko, .int .i64 0] 40 (0, 0)) = x9 from by rw [hM]; rfl]
  obtain ⟨b9, hb⟩ : ∃ b, b = y9.heap.size := ⟨_, rfl⟩
  rw [← hb] at thrc thra ⊢
  replace hD := Mr.hid (hD.out.next Z)
  replace hS := Mr.hid (hS.out.next Z)
  replace hadc := Mr.hid (hadc.out.next Z)
  replace hada := Mr.hid (hada.out.next Z)
  replace innc := Mr.hid (innc.out.next Z)
  replace inna := Mr.hid (inna.out.next Z)
  replace agac := Mr.hid (agac.out.next Z)
  replace agaa := Mr.hid (agaa.out.next Z)
  replace outc := Mr.hid (outc.out.next Z)
  replace outa := Mr.hid (outa.out.next Z)
  replace noxc := Mr.hid (noxc.out.next Z)
  replace noxa := Mr.hid (noxa.out.next Z)
  replace gonc := Mr.hid (gonc.out.next Z)
  replace gona := Mr.hid (gona.out.next Z)
  replace onec := Mr.hid (onec.out.next Z)
  replace onea := Mr.hid (onea.out.next Z)
  replace twoc := Mr.hid (twoc.out.next Z)
  replace twoa := Mr.hid (twoa.out.next Z)
  replace thrc := Mr.hid thrc
  replace thra := Mr.hid thra
  clear Z hM hb hl hB
  obtain ⟨r0_0, r0_1, r0_2, -, -⟩ := ansO_cells onea.out.box
  obtain ⟨r1_0, r1_1, r1_2, -, -⟩ := ansO_cells twoa.out.box
  obtain ⟨r2_0, r2_1, r2_2, -, -⟩ := ansO_cells thra.out.box
  go_wp2
  go_ret
  exact ⟨rfl, hD.out.bel⟩
set_option maxRecDepth 100000 in
set_option maxHeartbeats 32000000 in
theorem sets_out (u0 u1 u2 u3 u4 : Value) (x : Ct) (key other : Int) (W : World) (hu : CtAt W (fun _ => True) u0 u1 u2 u3 u4 x) (y : Ct) (hm : May y) (hy : CtIn 140737488351232 y)
    (CRT : ∀ (W : World) (S : Nat → Prop) (u0 u1 u2 u3 u4 : Value), CtAt W S u0 u1 u2 u3 u4 x → Calls Try.prog 18 #[.agg #[u0, u1, u2, u3, u4]] W fun e w' => ∃ v0 v1 v2 v3 v4, e = .returned (.agg #[v0, v1, v2, v3, v4]) ∧ CtAt w' (fun k => W.heap.size ≤ k) v0 v1 v2 v3 v4 y ∧ Below W.heap.size W w')
    (hk : inB y.set key = false) :
    Calls Try.prog 8 #[.agg #[u0, u1, u2, u3, u4], .int .i64 key, .int .i64 other] W fun e w' => e = .returned (.bool true) ∧ Below W.heap.size W w' := by
  obtain ⟨a0, c0, rfl, _⟩ := hu.cell.form
  obtain ⟨a1, c1, rfl, _⟩ := hu.stack.form
  obtain ⟨a2, c2, rfl, _⟩ := hu.queue.form
  obtain ⟨a3, c3, rfl, _⟩ := hu.set.form
  obtain ⟨a4, c4, rfl, _⟩ := hu.table.form
  have pw : y.set.Pairwise (· < ·) := ris_pw.1 hm.2.1
  obtain ⟨z, hz⟩ : ∃ z, z = ({ y with set := insL y.set key } : Ct) := ⟨_, rfl⟩
  have d52 : dan y 52 key = (6, 0) := by show (if inB y.set key then 5 else 6, 0) = _; rw [hk]; rfl
  have d50 : dan y 50 key = (5, 0) := by rw [dan_50, hk]; rfl
  have n50 : dnx y 50 key 0 = z := by rw [dnx_50, hk, hz]; rfl
  have hzk : inB z.set key = true := by rw [hz]; exact in_ins _ _
  have mz : May z := by rw [hz]; exact may_set hm (pw_ins pw hk)
  have hno : other ≠ key → inB z.set other = inB y.set other := fun h => by rw [hz]; exact in_ins_ne pw hk h
  have e50 : dan z 50 key = (6, 0) := by rw [dan_50, hzk]; rfl
  have m50 : dnx z 50 key 0 = z := by rw [dnx_50, hzk]; rfl
  have d51 : dan z 51 key = (5, 0) := by rw [dan_51, hzk]; rfl
  have n51 : dnx z 51 key 0 = y := by rw [dnx_51, hzk, hz]; show { y with set := delL (insL y.set key) key } = y; rw [del_ins]
  have iz : CtIn 140737488351248 z := by rw [← n50]; exact dnx_in hy 50 key 0
  have f52 : dan y 52 key = (6, 0) := d52
  have E52 : ∀ q : Ct, inB q.set key = false → dan q 52 key = (6, 0) := fun q h => by show (if inB q.set key then 5 else 6, 0) = _; rw [h]; rfl
  have E51 : ∀ q : Ct, inB q.set key = false → dan q 51 key = (6, 0) := fun q h => by rw [dan_51, h]; rfl
  have N51 : ∀ q : Ct, inB q.set key = false → dnx q 51 key 0 = q := fun q h => by rw [dnx_51, h]; rfl
  have hyi := hy.mono (show 140737488351232 ≤ 225000000000000 by decide)
  have hzi := iz.mono (show 140737488351248 ≤ 225000000000000 by decide)
  have sy := hy.sm (show 140737488351232 ≤ 281474976710656 by decide)
  have sz := iz.sm (show 140737488351248 ≤ 281474976710656 by decide)
  have U0 := Mr.hid (hu.below ((Below.refl W.heap.size W).alloc (Nat.le_refl _) (ctO (.slice a0 x.cell.length c0) (.slice a1 x.stack.length c1) (.slice a2 x.queue.length c2) (.slice a3 x.set.length c3) (.slice a4 x.table.length c4))))
  conv at U0 => arg 1; arg 1; unfold ctO
  clear hu
  replace CRT := Mr.hid CRT
  replace hm := Mr.hid hm
  replace mz := Mr.hid mz
  replace hz := Mr.hid hz
  replace hk := Mr.hid hk
  replace hzk := Mr.hid hzk
  replace hno := Mr.hid hno
  replace d52 := Mr.hid d52
  replace d50 := Mr.hid d50
  replace n50 := Mr.hid n50
  replace d51 := Mr.hid d51
  replace n51 := Mr.hid n51
  replace E52 := Mr.hid E52
  replace E51 := Mr.hid E51
  replace N51 := Mr.hid N51
  replace e50 := Mr.hid e50
  replace m50 := Mr.hid m50
  replace f52 := Mr.hid f52
  go_enter Try.func8, Try.ntmps8
  go_upto_region 2 with (go_at_call 18; refine (CRT.out _ _ _ _ _ _ _ U0.out).mono ?_; clear CRT; rintro e w1 ⟨v0, v1, v2, v3, v4, rfl, hv, hB1⟩; simp only [World.size_alloc] at hB1 hv; obtain ⟨hD, hS, hg⟩ := righted (u0 := (.slice a0 x.cell.length c0)) (u1 := (.slice a1 x.stack.length c1)) (u2 := (.slice a2 x.queue.length c2)) (u3 := (.slice a3 x.set.length c3)) (u4 := (.slice a4 x.table.length c4)) rfl hB1 hv; clear hB1; obtain ⟨s0, t0, rfl, _⟩ := hv.cell.form; obtain ⟨s1, t1, rfl, _⟩ := hv.stack.form; obtain ⟨s2, t2, rfl, _⟩ := hv.queue.form; obtain ⟨s3, t3, rfl, _⟩ := hv.set.form; obtain ⟨s4, t4, rfl, _⟩ := hv.table.form;  clear hv; obtain ⟨k0, k1, k2, k3, k4, kl⟩ := ctO_cells hg; obtain ⟨f0, f1, f2, f3, f4⟩ := ctO_thaw hg; clear hg; replace hD := Mr.hid hD; replace hS := Mr.hid hS)
  clear k0 k1 k2 k3 k4 kl f0 f1 f2 f3 f4 U0
  replace hD := hD.out
  replace hS := hS.out
  conv at hD => arg 1; unfold set5
  conv at hS => arg 1; unfold set5
  generalize (((((w1.setCell { block := W.heap.size, off := 0 } (.slice s0 y.cell.length t0)).setCell { block := W.heap.size, off := 1 } (.slice s1 y.stack.length t1)).setCell { block := W.heap.size, off := 2 } (.slice s2 y.queue.length t2)).setCell { block := W.heap.size, off := 3 } (.slice s3 y.set.length t3)).setCell { block := W.heap.size, off := 4 } (.slice s4 y.table.length t4)) = x0 at *
  clear w1
  replace hD := Mr.hid hD
  replace hS := Mr.hid hS
  have C := mDo_any hS.out.at_ (hyi) (hm.out) 52 key 0 (by decide)
  rw [d52.out, show dnx y 52 key 0 = y from rfl] at C
  replace C := Mr.hid C
  obtain ⟨e0, e1, e2, e3, e4, el⟩ := ctO_cells hS.out.box
  go_upto_region 3 with (first | (go_at_call 19; refine C.out.mono ?_; clear C; rintro e y1 ⟨v0, v1, v2, v3, v4, rfl, hl, hB⟩; unfold ans; obtain ⟨z1_0, m1_0, rfl, _⟩ := hl.cell.form; obtain ⟨z1_1, m1_1, rfl, _⟩ := hl.stack.form; obtain ⟨z1_2, m1_2, rfl, _⟩ := hl.queue.form; obtain ⟨z1_3, m1_3, rfl, _⟩ := hl.set.form; obtain ⟨z1_4, m1_4, rfl, _⟩ := hl.table.form;  clear e0 e1 e2 e3 e4 el; replace hl := Mr.hid hl; replace hB := Mr.hid hB))
  obtain ⟨x1, hM⟩ : ∃ w', w' = (y1.alloc (ctO (.slice z1_0 y.cell.length m1_0) (.slice z1_1 y.stack.length m1_1) (.slice z1_2 y.queue.length m1_2) (.slice z1_3 y.set.length m1_3) (.slice z1_4 y.table.length m1_4))).alloc (ansO 6 0) := ⟨_, rfl⟩
  obtain ⟨Z, hadc, hada⟩ := made hM hB.out hl.out
  rw [show (y1.alloc (.cells #[.slice z1_0 y.cell.length m1_0, .slice z1_1 y.stack.length m1_1, .slice z1_2 y.queue.length m1_2, .slice z1_3 y.set.length m1_3, .slice z1_4 y.table.length m1_4] 29 (0, 0))).alloc (.cells #[.int .i64 6, .int .i64 0] 40 (0, 0)) = x1 from by rw [hM]; rfl]
  obtain ⟨b1, hb⟩ : ∃ b, b = y1.heap.size := ⟨_, rfl⟩
  rw [← hb] at hadc hada ⊢
  replace hD := Mr.hid (hD.out.next Z)
  replace hS := Mr.hid (hS.out.next Z)
  replace hadc := Mr.hid hadc
  replace hada := Mr.hid hada
  clear Z hM hb hl hB
  have C := mDo_any hS.out.at_ (hyi) (hm.out) 50 key 0 (by decide)
  rw [d50.out, n50.out] at C
  replace C := Mr.hid C
  obtain ⟨e0, e1, e2, e3, e4, el⟩ := ctO_cells hS.out.box
  go_upto_region 4 with (first | (go_at_call 19; refine C.out.mono ?_; clear C; rintro e y2 ⟨v0, v1, v2, v3, v4, rfl, hl, hB⟩; unfold ans; obtain ⟨z2_0, m2_0, rfl, _⟩ := hl.cell.form; obtain ⟨z2_1, m2_1, rfl, _⟩ := hl.stack.form; obtain ⟨z2_2, m2_2, rfl, _⟩ := hl.queue.form; obtain ⟨z2_3, m2_3, rfl, _⟩ := hl.set.form; obtain ⟨z2_4, m2_4, rfl, _⟩ := hl.table.form;  clear e0 e1 e2 e3 e4 el; replace hl := Mr.hid hl; replace hB := Mr.hid hB))
  obtain ⟨x2, hM⟩ : ∃ w', w' = (y2.alloc (ctO (.slice z2_0 z.cell.length m2_0) (.slice z2_1 z.stack.length m2_1) (.slice z2_2 z.queue.length m2_2) (.slice z2_3 z.set.length m2_3) (.slice z2_4 z.table.length m2_4))).alloc (ansO 5 0) := ⟨_, rfl⟩
  obtain ⟨Z, innc, inna⟩ := made hM hB.out hl.out
  rw [show (y2.alloc (.cells #[.slice z2_0 z.cell.length m2_0, .slice z2_1 z.stack.length m2_1, .slice z2_2 z.queue.length m2_2, .slice z2_3 z.set.length m2_3, .slice z2_4 z.table.length m2_4] 29 (0, 0))).alloc (.cells #[.int .i64 5, .int .i64 0] 40 (0, 0)) = x2 from by rw [hM]; rfl]
  obtain ⟨b2, hb⟩ : ∃ b, b = y2.heap.size := ⟨_, rfl⟩
  rw [← hb] at innc inna ⊢
  replace hD := Mr.hid (hD.out.next Z)
  replace hS := Mr.hid (hS.out.next Z)
  replace hadc := Mr.hid (hadc.out.next Z)
  replace hada := Mr.hid (hada.out.next Z)
  replace innc := Mr.hid innc
  replace inna := Mr.hid inna
  clear Z hM hb hl hB
  have C := mDo_any innc.out.at_ (hzi) (mz.out) 50 key 0 (by decide)
  rw [e50.out, m50.out] at C
  replace C := Mr.hid C
  obtain ⟨e0, e1, e2, e3, e4, el⟩ := ctO_cells innc.out.box
  go_upto_region 5 with (first | (go_at_call 19; refine C.out.mono ?_; clear C; rintro e y3 ⟨v0, v1, v2, v3, v4, rfl, hl, hB⟩; unfold ans; obtain ⟨z3_0, m3_0, rfl, _⟩ := hl.cell.form; obtain ⟨z3_1, m3_1, rfl, _⟩ := hl.stack.form; obtain ⟨z3_2, m3_2, rfl, _⟩ := hl.queue.form; obtain ⟨z3_3, m3_3, rfl, _⟩ := hl.set.form; obtain ⟨z3_4, m3_4, rfl, _⟩ := hl.table.form;  clear e0 e1 e2 e3 e4 el; replace hl := Mr.hid hl; replace hB := Mr.hid hB))
  obtain ⟨x3, hM⟩ : ∃ w', w' = (y3.alloc (ctO (.slice z3_0 z.cell.length m3_0) (.slice z3_1 z.stack.length m3_1) (.slice z3_2 z.queue.length m3_2) (.slice z3_3 z.set.length m3_3) (.slice z3_4 z.table.length m3_4))).alloc (ansO 6 0) := ⟨_, rfl⟩
  obtain ⟨Z, agac, agaa⟩ := made hM hB.out hl.out
  rw [show (y3.alloc (.cells #[.slice z3_0 z.cell.length m3_0, .slice z3_1 z.stack.length m3_1, .slice z3_2 z.queue.length m3_2, .slice z3_3 z.set.length m3_3, .slice z3_4 z.table.length m3_4] 29 (0, 0))).alloc (.cells #[.int .i64 6, .int .i64 0] 40 (0, 0)) = x3 from by rw [hM]; rfl]
  obtain ⟨b3, hb⟩ : ∃ b, b = y3.heap.size := ⟨_, rfl⟩
  rw [← hb] at agac agaa ⊢
  replace hD := Mr.hid (hD.out.next Z)
  replace hS := Mr.hid (hS.out.next Z)
  replace hadc := Mr.hid (hadc.out.next Z)
  replace hada := Mr.hid (hada.out.next Z)
  replace innc := Mr.hid (innc.out.next Z)
  replace inna := Mr.hid (inna.out.next Z)
  replace agac := Mr.hid agac
  replace agaa := Mr.hid agaa
  clear Z hM hb hl hB
  have C := mDo_any agac.out.at_ (hzi) (mz.out) 51 key 0 (by decide)
  rw [d51.out, n51.out] at C
  replace C := Mr.hid C
  obtain ⟨e0, e1, e2, e3, e4, el⟩ := ctO_cells agac.out.box
  go_upto_region 6 with (first | (go_at_call 19; refine C.out.mono ?_; clear C; rintro e y4 ⟨v0, v1, v2, v3, v4, rfl, hl, hB⟩; unfold ans; obtain ⟨z4_0, m4_0, rfl, _⟩ := hl.cell.form; obtain ⟨z4_1, m4_1, rfl, _⟩ := hl.stack.form; obtain ⟨z4_2, m4_2, rfl, _⟩ := hl.queue.form; obtain ⟨z4_3, m4_3, rfl, _⟩ := hl.set.form; obtain ⟨z4_4, m4_4, rfl, _⟩ := hl.table.form;  clear e0 e1 e2 e3 e4 el; replace hl := Mr.hid hl; replace hB := Mr.hid hB))
  obtain ⟨x4, hM⟩ : ∃ w', w' = (y4.alloc (ctO (.slice z4_0 y.cell.length m4_0) (.slice z4_1 y.stack.length m4_1) (.slice z4_2 y.queue.length m4_2) (.slice z4_3 y.set.length m4_3) (.slice z4_4 y.table.length m4_4))).alloc (ansO 5 0) := ⟨_, rfl⟩
  obtain ⟨Z, outc, outa⟩ := made hM hB.out hl.out
  rw [show (y4.alloc (.cells #[.slice z4_0 y.cell.length m4_0, .slice z4_1 y.stack.length m4_1, .slice z4_2 y.queue.length m4_2, .slice z4_3 y.set.length m4_3, .slice z4_4 y.table.length m4_4] 29 (0, 0))).alloc (.cells #[.int .i64 5, .int .i64 0] 40 (0, 0)) = x4 from by rw [hM]; rfl]
  obtain ⟨b4, hb⟩ : ∃ b, b = y4.heap.size := ⟨_, rfl⟩
  rw [← hb] at outc outa ⊢
  replace hD := Mr.hid (hD.out.next Z)
  replace hS := Mr.hid (hS.out.next Z)
  replace hadc := Mr.hid (hadc.out.next Z)
  replace hada := Mr.hid (hada.out.next Z)
  replace innc := Mr.hid (innc.out.next Z)
  replace inna := Mr.hid (inna.out.next Z)
  replace agac := Mr.hid (agac.out.next Z)
  replace agaa := Mr.hid (agaa.out.next Z)
  replace outc := Mr.hid outc
  replace outa := Mr.hid outa
  clear Z hM hb hl hB
  have C := mDo_any outc.out.at_ (hyi) (hm.out) 52 key 0 (by decide)
  rw [E52.out y hk.out, show dnx y 52 key 0 = y from rfl] at C
  replace C := Mr.hid C
  obtain ⟨e0, e1, e2, e3, e4, el⟩ := ctO_cells outc.out.box
  go_upto_region 7 with (first | (go_at_call 19; refine C.out.mono ?_; clear C; rintro e y5 ⟨v0, v1, v2, v3, v4, rfl, hl, hB⟩; unfold ans; obtain ⟨z5_0, m5_0, rfl, _⟩ := hl.cell.form; obtain ⟨z5_1, m5_1, rfl, _⟩ := hl.stack.form; obtain ⟨z5_2, m5_2, rfl, _⟩ := hl.queue.form; obtain ⟨z5_3, m5_3, rfl, _⟩ := hl.set.form; obtain ⟨z5_4, m5_4, rfl, _⟩ := hl.table.form;  clear e0 e1 e2 e3 e4 el; replace hl := Mr.hid hl; replace hB := Mr.hid hB))
  obtain ⟨x5, hM⟩ : ∃ w', w' = (y5.alloc (ctO (.slice z5_0 y.cell.length m5_0) (.slice z5_1 y.stack.length m5_1) (.slice z5_2 y.queue.length m5_2) (.slice z5_3 y.set.length m5_3) (.slice z5_4 y.table.length m5_4))).alloc (ansO 6 0) := ⟨_, rfl⟩
  obtain ⟨Z, noxc, noxa⟩ := made hM hB.out hl.out
  rw [show (y5.alloc (.cells #[.slice z5_0 y.cell.length m5_0, .slice z5_1 y.stack.length m5_1, .slice z5_2 y.queue.length m5_2, .slice z5_3 y.set.length m5_3, .slice z5_4 y.table.length m5_4] 29 (0, 0))).alloc (.cells #[.int .i64 6, .int .i64 0] 40 (0, 0)) = x5 from by rw [hM]; rfl]
  obtain ⟨b5, hb⟩ : ∃ b, b = y5.heap.size := ⟨_, rfl⟩
  rw [← hb] at noxc noxa ⊢
  replace hD := Mr.hid (hD.out.next Z)
  replace hS := Mr.hid (hS.out.next Z)
  replace hadc := Mr.hid (hadc.out.next Z)
  replace hada := Mr.hid (hada.out.next Z)
  replace innc := Mr.hid (innc.out.next Z)
  replace inna := Mr.hid (inna.out.next Z)
  replace agac := Mr.hid (agac.out.next Z)
  replace agaa := Mr.hid (agaa.out.next Z)
  replace outc := Mr.hid (outc.out.next Z)
  replace outa := Mr.hid (outa.out.next Z)
  replace noxc := Mr.hid noxc
  replace noxa := Mr.hid noxa
  clear Z hM hb hl hB
  have C := mDo_any outc.out.at_ (hyi) (hm.out) 51 key 0 (by decide)
  rw [E51.out y hk.out, N51.out y hk.out] at C
  replace C := Mr.hid C
  obtain ⟨e0, e1, e2, e3, e4, el⟩ := ctO_cells outc.out.box
  go_upto_region 8 with (first | (go_at_call 19; refine C.out.mono ?_; clear C; rintro e y6 ⟨v0, v1, v2, v3, v4, rfl, hl, hB⟩; unfold ans; obtain ⟨z6_0, m6_0, rfl, _⟩ := hl.cell.form; obtain ⟨z6_1, m6_1, rfl, _⟩ := hl.stack.form; obtain ⟨z6_2, m6_2, rfl, _⟩ := hl.queue.form; obtain ⟨z6_3, m6_3, rfl, _⟩ := hl.set.form; obtain ⟨z6_4, m6_4, rfl, _⟩ := hl.table.form;  clear e0 e1 e2 e3 e4 el; replace hl := Mr.hid hl; replace hB := Mr.hid hB))
  obtain ⟨x6, hM⟩ : ∃ w', w' = (y6.alloc (ctO (.slice z6_0 y.cell.length m6_0) (.slice z6_1 y.stack.length m6_1) (.slice z6_2 y.queue.length m6_2) (.slice z6_3 y.set.length m6_3) (.slice z6_4 y.table.length m6_4))).alloc (ansO 6 0) := ⟨_, rfl⟩
  obtain ⟨Z, gonc, gona⟩ := made hM hB.out hl.out
  rw [show (y6.alloc (.cells #[.slice z6_0 y.cell.length m6_0, .slice z6_1 y.stack.length m6_1, .slice z6_2 y.queue.length m6_2, .slice z6_3 y.set.length m6_3, .slice z6_4 y.table.length m6_4] 29 (0, 0))).alloc (.cells #[.int .i64 6, .int .i64 0] 40 (0, 0)) = x6 from by rw [hM]; rfl]
  obtain ⟨b6, hb⟩ : ∃ b, b = y6.heap.size := ⟨_, rfl⟩
  rw [← hb] at gonc gona ⊢
  replace hD := Mr.hid (hD.out.next Z)
  replace hS := Mr.hid (hS.out.next Z)
  replace hadc := Mr.hid (hadc.out.next Z)
  replace hada := Mr.hid (hada.out.next Z)
  replace innc := Mr.hid (innc.out.next Z)
  replace inna := Mr.hid (inna.out.next Z)
  replace agac := Mr.hid (agac.out.next Z)
  replace agaa := Mr.hid (agaa.out.next Z)
  replace outc := Mr.hid (outc.out.next Z)
  replace outa := Mr.hid (outa.out.next Z)
  replace noxc := Mr.hid (noxc.out.next Z)
  replace noxa := Mr.hid (noxa.out.next Z)
  replace gonc := Mr.hid gonc
  replace gona := Mr.hid gona
  clear Z hM hb hl hB
  have t0 : Hid True := trivial
  have t1 : Hid True := trivial
  have t2 : Hid True := trivial
  have t3 : Hid True := trivial
  have t4 : Hid True := trivial
  have t5 : Hid True := trivial
  go_upto_region 16 with (first | (clear t0; go_at_call 20; refine (awake_any _).mono ?_; rintro e w8 ⟨rfl, hB⟩; have hD := Mr.hid (hD.out.next hB); have hS := Mr.hid (hS.out.next hB); have hadc := Mr.hid (hadc.out.next hB); have hada := Mr.hid (hada.out.next hB); have innc := Mr.hid (innc.out.next hB); have inna := Mr.hid (inna.out.next hB); have agac := Mr.hid (agac.out.next hB); have agaa := Mr.hid (agaa.out.next hB); have outc := Mr.hid (outc.out.next hB); have outa := Mr.hid (outa.out.next hB); have noxc := Mr.hid (noxc.out.next hB); have noxa := Mr.hid (noxa.out.next hB); have gonc := Mr.hid (gonc.out.next hB); have gona := Mr.hid (gona.out.next hB); clear hB; obtain ⟨q0_0, q0_1, q0_2, q0_3, q0_4, q0_5⟩ := ctO_cells hadc.out.box; obtain ⟨q1_0, q1_1, q1_2, q1_3, q1_4, q1_5⟩ := ctO_cells hS.out.box; obtain ⟨q2_0, q2_1, q2_2, q2_3, q2_4, q2_5⟩ := ctO_cells innc.out.box; obtain ⟨q3_0, q3_1, q3_2, q3_3, q3_4, q3_5⟩ := ctO_cells agac.out.box; obtain ⟨q4_0, q4_1, q4_2, q4_3, q4_4, q4_5⟩ := ctO_cells outc.out.box; obtain ⟨r0_0, r0_1, r0_2, -, -⟩ := ansO_cells hada.out.box; obtain ⟨r1_0, r1_1, r1_2, -, -⟩ := ansO_cells inna.out.box; obtain ⟨r2_0, r2_1, r2_2, -, -⟩ := ansO_cells agaa.out.box; obtain ⟨r3_0, r3_1, r3_2, -, -⟩ := ansO_cells outa.out.box; obtain ⟨r4_0, r4_1, r4_2, -, -⟩ := ansO_cells noxa.out.box; obtain ⟨r5_0, r5_1, r5_2, -, -⟩ := ansO_cells gona.out.box) | (clear t1; go_at_call 12; refine (sameT hadc.out hS.out sy).mono ?_; clear q0_0 q0_1 q0_2 q0_3 q0_4 q0_5 q1_0 q1_1 q1_2 q1_3 q1_4 q1_5 q2_0 q2_1 q2_2 q2_3 q2_4 q2_5 q3_0 q3_1 q3_2 q3_3 q3_4 q3_5 q4_0 q4_1 q4_2 q4_3 q4_4 q4_5; clear r0_0 r0_1 r0_2 r1_0 r1_1 r1_2 r2_0 r2_1 r2_2 r3_0 r3_1 r3_2 r4_0 r4_1 r4_2 r5_0 r5_1 r5_2; rintro e w9 ⟨rfl, hB⟩; have hD := Mr.hid (hD.out.next hB); have hS := Mr.hid (hS.out.next hB); have hadc := Mr.hid (hadc.out.next hB); have hada := Mr.hid (hada.out.next hB); have innc := Mr.hid (innc.out.next hB); have inna := Mr.hid (inna.out.next hB); have agac := Mr.hid (agac.out.next hB); have agaa := Mr.hid (agaa.out.next hB); have outc := Mr.hid (outc.out.next hB); have outa := Mr.hid (outa.out.next hB); have noxc := Mr.hid (noxc.out.next hB); have noxa := Mr.hid (noxa.out.next hB); have gonc := Mr.hid (gonc.out.next hB); have gona := Mr.hid (gona.out.next hB); clear hB; obtain ⟨q0_0, q0_1, q0_2, q0_3, q0_4, q0_5⟩ := ctO_cells hadc.out.box; obtain ⟨q1_0, q1_1, q1_2, q1_3, q1_4, q1_5⟩ := ctO_cells hS.out.box; obtain ⟨q2_0, q2_1, q2_2, q2_3, q2_4, q2_5⟩ := ctO_cells innc.out.box; obtain ⟨q3_0, q3_1, q3_2, q3_3, q3_4, q3_5⟩ := ctO_cells agac.out.box; obtain ⟨q4_0, q4_1, q4_2, q4_3, q4_4, q4_5⟩ := ctO_cells outc.out.box; obtain ⟨r0_0, r0_1, r0_2, -, -⟩ := ansO_cells hada.out.box; obtain ⟨r1_0, r1_1, r1_2, -, -⟩ := ansO_cells inna.out.box; obtain ⟨r2_0, r2_1, r2_2, -, -⟩ := ansO_cells agaa.out.box; obtain ⟨r3_0, r3_1, r3_2, -, -⟩ := ansO_cells outa.out.box; obtain ⟨r4_0, r4_1, r4_2, -, -⟩ := ansO_cells noxa.out.box; obtain ⟨r5_0, r5_1, r5_2, -, -⟩ := ansO_cells gona.out.box) | (clear t2; go_at_call 12; refine (sameT innc.out agac.out sz).mono ?_; clear q0_0 q0_1 q0_2 q0_3 q0_4 q0_5 q1_0 q1_1 q1_2 q1_3 q1_4 q1_5 q2_0 q2_1 q2_2 q2_3 q2_4 q2_5 q3_0 q3_1 q3_2 q3_3 q3_4 q3_5 q4_0 q4_1 q4_2 q4_3 q4_4 q4_5; clear r0_0 r0_1 r0_2 r1_0 r1_1 r1_2 r2_0 r2_1 r2_2 r3_0 r3_1 r3_2 r4_0 r4_1 r4_2 r5_0 r5_1 r5_2; rintro e w10 ⟨rfl, hB⟩; have hD := Mr.hid (hD.out.next hB); have hS := Mr.hid (hS.out.next hB); have hadc := Mr.hid (hadc.out.next hB); have hada := Mr.hid (hada.out.next hB); have innc := Mr.hid (innc.out.next hB); have inna := Mr.hid (inna.out.next hB); have agac := Mr.hid (agac.out.next hB); have agaa := Mr.hid (agaa.out.next hB); have outc := Mr.hid (outc.out.next hB); have outa := Mr.hid (outa.out.next hB); have noxc := Mr.hid (noxc.out.next hB); have noxa := Mr.hid (noxa.out.next hB); have gonc := Mr.hid (gonc.out.next hB); have gona := Mr.hid (gona.out.next hB); clear hB; obtain ⟨q0_0, q0_1, q0_2, q0_3, q0_4, q0_5⟩ := ctO_cells hadc.out.box; obtain ⟨q1_0, q1_1, q1_2, q1_3, q1_4, q1_5⟩ := ctO_cells hS.out.box; obtain ⟨q2_0, q2_1, q2_2, q2_3, q2_4, q2_5⟩ := ctO_cells innc.out.box; obtain ⟨q3_0, q3_1, q3_2, q3_3, q3_4, q3_5⟩ := ctO_cells agac.out.box; obtain ⟨q4_0, q4_1, q4_2, q4_3, q4_4, q4_5⟩ := ctO_cells outc.out.box; obtain ⟨r0_0, r0_1, r0_2, -, -⟩ := ansO_cells hada.out.box; obtain ⟨r1_0, r1_1, r1_2, -, -⟩ := ansO_cells inna.out.box; obtain ⟨r2_0, r2_1, r2_2, -, -⟩ := ansO_cells agaa.out.box; obtain ⟨r3_0, r3_1, r3_2, -, -⟩ := ansO_cells outa.out.box; obtain ⟨r4_0, r4_1, r4_2, -, -⟩ := ansO_cells noxa.out.box; obtain ⟨r5_0, r5_1, r5_2, -, -⟩ := ansO_cells gona.out.box) | (clear t3; go_at_call 11; refine (mayT innc.out sz mz.out).mono ?_; clear q0_0 q0_1 q0_2 q0_3 q0_4 q0_5 q1_0 q1_1 q1_2 q1_3 q1_4 q1_5 q2_0 q2_1 q2_2 q2_3 q2_4 q2_5 q3_0 q3_1 q3_2 q3_3 q3_4 q3_5 q4_0 q4_1 q4_2 q4_3 q4_4 q4_5; clear r0_0 r0_1 r0_2 r1_0 r1_1 r1_2 r2_0 r2_1 r2_2 r3_0 r3_1 r3_2 r4_0 r4_1 r4_2 r5_0 r5_1 r5_2; rintro e w11 ⟨rfl, hB⟩; have hD := Mr.hid (hD.out.next hB); have hS := Mr.hid (hS.out.next hB); have hadc := Mr.hid (hadc.out.next hB); have hada := Mr.hid (hada.out.next hB); have innc := Mr.hid (innc.out.next hB); have inna := Mr.hid (inna.out.next hB); have agac := Mr.hid (agac.out.next hB); have agaa := Mr.hid (agaa.out.next hB); have outc := Mr.hid (outc.out.next hB); have outa := Mr.hid (outa.out.next hB); have noxc := Mr.hid (noxc.out.next hB); have noxa := Mr.hid (noxa.out.next hB); have gonc := Mr.hid (gonc.out.next hB); have gona := Mr.hid (gona.out.next hB); clear hB; obtain ⟨q0_0, q0_1, q0_2, q0_3, q0_4, q0_5⟩ := ctO_cells hadc.out.box; obtain ⟨q1_0, q1_1, q1_2, q1_3, q1_4, q1_5⟩ := ctO_cells hS.out.box; obtain ⟨q2_0, q2_1, q2_2, q2_3, q2_4, q2_5⟩ := ctO_cells innc.out.box; obtain ⟨q3_0, q3_1, q3_2, q3_3, q3_4, q3_5⟩ := ctO_cells agac.out.box; obtain ⟨q4_0, q4_1, q4_2, q4_3, q4_4, q4_5⟩ := ctO_cells outc.out.box; obtain ⟨r0_0, r0_1, r0_2, -, -⟩ := ansO_cells hada.out.box; obtain ⟨r1_0, r1_1, r1_2, -, -⟩ := ansO_cells inna.out.box; obtain ⟨r2_0, r2_1, r2_2, -, -⟩ := ansO_cells agaa.out.box; obtain ⟨r3_0, r3_1, r3_2, -, -⟩ := ansO_cells outa.out.box; obtain ⟨r4_0, r4_1, r4_2, -, -⟩ := ansO_cells noxa.out.box; obtain ⟨r5_0, r5_1, r5_2, -, -⟩ := ansO_cells gona.out.box) | (clear t4; go_at_call 11; refine (mayT outc.out sy hm.out).mono ?_; clear q0_0 q0_1 q0_2 q0_3 q0_4 q0_5 q1_0 q1_1 q1_2 q1_3 q1_4 q1_5 q2_0 q2_1 q2_2 q2_3 q2_4 q2_5 q3_0 q3_1 q3_2 q3_3 q3_4 q3_5 q4_0 q4_1 q4_2 q4_3 q4_4 q4_5; clear r0_0 r0_1 r0_2 r1_0 r1_1 r1_2 r2_0 r2_1 r2_2 r3_0 r3_1 r3_2 r4_0 r4_1 r4_2 r5_0 r5_1 r5_2; rintro e w12 ⟨rfl, hB⟩; have hD := Mr.hid (hD.out.next hB); have hS := Mr.hid (hS.out.next hB); have hadc := Mr.hid (hadc.out.next hB); have hada := Mr.hid (hada.out.next hB); have innc := Mr.hid (innc.out.next hB); have inna := Mr.hid (inna.out.next hB); have agac := Mr.hid (agac.out.next hB); have agaa := Mr.hid (agaa.out.next hB); have outc := Mr.hid (outc.out.next hB); have outa := Mr.hid (outa.out.next hB); have noxc := Mr.hid (noxc.out.next hB); have noxa := Mr.hid (noxa.out.next hB); have gonc := Mr.hid (gonc.out.next hB); have gona := Mr.hid (gona.out.next hB); clear hB; obtain ⟨q0_0, q0_1, q0_2, q0_3, q0_4, q0_5⟩ := ctO_cells hadc.out.box; obtain ⟨q1_0, q1_1, q1_2, q1_3, q1_4, q1_5⟩ := ctO_cells hS.out.box; obtain ⟨q2_0, q2_1, q2_2, q2_3, q2_4, q2_5⟩ := ctO_cells innc.out.box; obtain ⟨q3_0, q3_1, q3_2, q3_3, q3_4, q3_5⟩ := ctO_cells agac.out.box; obtain ⟨q4_0, q4_1, q4_2, q4_3, q4_4, q4_5⟩ := ctO_cells outc.out.box; obtain ⟨r0_0, r0_1, r0_2, -, -⟩ := ansO_cells hada.out.box; obtain ⟨r1_0, r1_1, r1_2, -, -⟩ := ansO_cells inna.out.box; obtain ⟨r2_0, r2_1, r2_2, -, -⟩ := ansO_cells agaa.out.box; obtain ⟨r3_0, r3_1, r3_2, -, -⟩ := ansO_cells outa.out.box; obtain ⟨r4_0, r4_1, r4_2, -, -⟩ := ansO_cells noxa.out.box; obtain ⟨r5_0, r5_1, r5_2, -, -⟩ := ansO_cells gona.out.box) | (clear t5; go_at_call 12; refine (sameT outc.out hS.out sy).mono ?_; clear q0_0 q0_1 q0_2 q0_3 q0_4 q0_5 q1_0 q1_1 q1_2 q1_3 q1_4 q1_5 q2_0 q2_1 q2_2 q2_3 q2_4 q2_5 q3_0 q3_1 q3_2 q3_3 q3_4 q3_5 q4_0 q4_1 q4_2 q4_3 q4_4 q4_5; clear r0_0 r0_1 r0_2 r1_0 r1_1 r1_2 r2_0 r2_1 r2_2 r3_0 r3_1 r3_2 r4_0 r4_1 r4_2 r5_0 r5_1 r5_2; rintro e w13 ⟨rfl, hB⟩; have hD := Mr.hid (hD.out.next hB); have hS := Mr.hid (hS.out.next hB); have hadc := Mr.hid (hadc.out.next hB); have hada := Mr.hid (hada.out.next hB); have innc := Mr.hid (innc.out.next hB); have inna := Mr.hid (inna.out.next hB); have agac := Mr.hid (agac.out.next hB); have agaa := Mr.hid (agaa.out.next hB); have outc := Mr.hid (outc.out.next hB); have outa := Mr.hid (outa.out.next hB); have noxc := Mr.hid (noxc.out.next hB); have noxa := Mr.hid (noxa.out.next hB); have gonc := Mr.hid (gonc.out.next hB); have gona := Mr.hid (gona.out.next hB); clear hB; obtain ⟨q0_0, q0_1, q0_2, q0_3, q0_4, q0_5⟩ := ctO_cells hadc.out.box; obtain ⟨q1_0, q1_1, q1_2, q1_3, q1_4, q1_5⟩ := ctO_cells hS.out.box; obtain ⟨q2_0, q2_1, q2_2, q2_3, q2_4, q2_5⟩ := ctO_cells innc.out.box; obtain ⟨q3_0, q3_1, q3_2, q3_3, q3_4, q3_5⟩ := ctO_cells agac.out.box; obtain ⟨q4_0, q4_1, q4_2, q4_3, q4_4, q4_5⟩ := ctO_cells outc.out.box; obtain ⟨r0_0, r0_1, r0_2, -, -⟩ := ansO_cells hada.out.box; obtain ⟨r1_0, r1_1, r1_2, -, -⟩ := ansO_cells inna.out.box; obtain ⟨r2_0, r2_1, r2_2, -, -⟩ := ansO_cells agaa.out.box; obtain ⟨r3_0, r3_1, r3_2, -, -⟩ := ansO_cells outa.out.box; obtain ⟨r4_0, r4_1, r4_2, -, -⟩ := ansO_cells noxa.out.box; obtain ⟨r5_0, r5_1, r5_2, -, -⟩ := ansO_cells gona.out.box))
  clear q0_0 q0_1 q0_2 q0_3 q0_4 q0_5 q1_0 q1_1 q1_2 q1_3 q1_4 q1_5 q2_0 q2_1 q2_2 q2_3 q2_4 q2_5 q3_0 q3_1 q3_2 q3_3 q3_4 q3_5 q4_0 q4_1 q4_2 q4_3 q4_4 q4_5
  clear r0_0 r0_1 r0_2 r1_0 r1_1 r1_2 r2_0 r2_1 r2_2 r3_0 r3_1 r3_2 r4_0 r4_1 r4_2 r5_0 r5_1 r5_2
  by_cases hok : other = key
  · have b1 : (other == key) = true := by rw [hok]; simp
    clear hok
    go_wp2
    go_ret
    exact ⟨rfl, hD.out.bel⟩
  have b1 : (other == key) = false := by simpa using hok
  have hzo : inB z.set other = inB y.set other := hno.out hok
  obtain ⟨ko, hko⟩ : ∃ k : Int, k = if inB y.set other then 5 else 6 := ⟨_, rfl⟩
  have O1 : dan y 52 other = (ko, 0) := by show (if inB y.set other then 5 else 6, 0) = _; rw [hko]
  have O2 : dan z 52 other = (ko, 0) := by show (if inB z.set other then 5 else 6, 0) = _; rw [hko, hzo]
  have bk : (ko == ko) = true := by simp
  replace O1 := Mr.hid O1
  replace O2 := Mr.hid O2
  replace hko := Mr.hid hko
  replace hok := Mr.hid hok
  replace hzo := Mr.hid hzo
  go_upto_region 18 with (fail)
  have C := mDo_any hS.out.at_ (hyi) (hm.out) 52 other 0 (by decide)
  rw [O1.out, show dnx y 52 other 0 = y from rfl] at C
  replace C := Mr.hid C
  obtain ⟨e0, e1, e2, e3, e4, el⟩ := ctO_cells hS.out.box
  go_upto_region 19 with (first | (go_at_call 19; refine C.out.mono ?_; clear C; rintro e y7 ⟨v0, v1, v2, v3, v4, rfl, hl, hB⟩; unfold ans; obtain ⟨z7_0, m7_0, rfl, _⟩ := hl.cell.form; obtain ⟨z7_1, m7_1, rfl, _⟩ := hl.stack.form; obtain ⟨z7_2, m7_2, rfl, _⟩ := hl.queue.form; obtain ⟨z7_3, m7_3, rfl, _⟩ := hl.set.form; obtain ⟨z7_4, m7_4, rfl, _⟩ := hl.table.form;  clear e0 e1 e2 e3 e4 el; replace hl := Mr.hid hl; replace hB := Mr.hid hB))
  obtain ⟨x7, hM⟩ : ∃ w', w' = (y7.alloc (ctO (.slice z7_0 y.cell.length m7_0) (.slice z7_1 y.stack.length m7_1) (.slice z7_2 y.queue.length m7_2) (.slice z7_3 y.set.length m7_3) (.slice z7_4 y.table.length m7_4))).alloc (ansO ko 0) := ⟨_, rfl⟩
  obtain ⟨Z, onec, onea⟩ := made hM hB.out hl.out
  rw [show (y7.alloc (.cells #[.slice z7_0 y.cell.length m7_0, .slice z7_1 y.stack.length m7_1, .slice z7_2 y.queue.length m7_2, .slice z7_3 y.set.length m7_3, .slice z7_4 y.table.length m7_4] 29 (0, 0))).alloc (.cells #[.int .i64 ko, .int .i64 0] 40 (0, 0)) = x7 from by rw [hM]; rfl]
  obtain ⟨b7, hb⟩ : ∃ b, b = y7.heap.size := ⟨_, rfl⟩
  rw [← hb] at onec onea ⊢
  replace hD := Mr.hid (hD.out.next Z)
  replace hS := Mr.hid (hS.out.next Z)
  replace hadc := Mr.hid (hadc.out.next Z)
  replace hada := Mr.hid (hada.out.next Z)
  replace innc := Mr.hid (innc.out.next Z)
  replace inna := Mr.hid (inna.out.next Z)
  replace agac := Mr.hid (agac.out.next Z)
  replace agaa := Mr.hid (agaa.out.next Z)
  replace outc := Mr.hid (outc.out.next Z)
  replace outa := Mr.hid (outa.out.next Z)
  replace noxc := Mr.hid (noxc.out.next Z)
  replace noxa := Mr.hid (noxa.out.next Z)
  replace gonc := Mr.hid (gonc.out.next Z)
  replace gona := Mr.hid (gona.out.next Z)
  replace onec := Mr.hid onec
  replace onea := Mr.hid onea
  clear Z hM hb hl hB
  have C := mDo_any innc.out.at_ (hzi) (mz.out) 52 other 0 (by decide)
  rw [O2.out, show dnx z 52 other 0 = z from rfl] at C
  replace C := Mr.hid C
  obtain ⟨e0, e1, e2, e3, e4, el⟩ := ctO_cells innc.out.box
  go_upto_region 20 with (first | (go_at_call 19; refine C.out.mono ?_; clear C; rintro e y8 ⟨v0, v1, v2, v3, v4, rfl, hl, hB⟩; unfold ans; obtain ⟨z8_0, m8_0, rfl, _⟩ := hl.cell.form; obtain ⟨z8_1, m8_1, rfl, _⟩ := hl.stack.form; obtain ⟨z8_2, m8_2, rfl, _⟩ := hl.queue.form; obtain ⟨z8_3, m8_3, rfl, _⟩ := hl.set.form; obtain ⟨z8_4, m8_4, rfl, _⟩ := hl.table.form;  clear e0 e1 e2 e3 e4 el; replace hl := Mr.hid hl; replace hB := Mr.hid hB))
  obtain ⟨x8, hM⟩ : ∃ w', w' = (y8.alloc (ctO (.slice z8_0 z.cell.length m8_0) (.slice z8_1 z.stack.length m8_1) (.slice z8_2 z.queue.length m8_2) (.slice z8_3 z.set.length m8_3) (.slice z8_4 z.table.length m8_4))).alloc (ansO ko 0) := ⟨_, rfl⟩
  obtain ⟨Z, twoc, twoa⟩ := made hM hB.out hl.out
  rw [show (y8.alloc (.cells #[.slice z8_0 z.cell.length m8_0, .slice z8_1 z.stack.length m8_1, .slice z8_2 z.queue.length m8_2, .slice z8_3 z.set.length m8_3, .slice z8_4 z.table.length m8_4] 29 (0, 0))).alloc (.cells #[.int .i64 ko, .int .i64 0] 40 (0, 0)) = x8 from by rw [hM]; rfl]
  obtain ⟨b8, hb⟩ : ∃ b, b = y8.heap.size := ⟨_, rfl⟩
  rw [← hb] at twoc twoa ⊢
  replace hD := Mr.hid (hD.out.next Z)
  replace hS := Mr.hid (hS.out.next Z)
  replace hadc := Mr.hid (hadc.out.next Z)
  replace hada := Mr.hid (hada.out.next Z)
  replace innc := Mr.hid (innc.out.next Z)
  replace inna := Mr.hid (inna.out.next Z)
  replace agac := Mr.hid (agac.out.next Z)
  replace agaa := Mr.hid (agaa.out.next Z)
  replace outc := Mr.hid (outc.out.next Z)
  replace outa := Mr.hid (outa.out.next Z)
  replace noxc := Mr.hid (noxc.out.next Z)
  replace noxa := Mr.hid (noxa.out.next Z)
  replace gonc := Mr.hid (gonc.out.next Z)
  replace gona := Mr.hid (gona.out.next Z)
  replace onec := Mr.hid (onec.out.next Z)
  replace onea := Mr.hid (onea.out.next Z)
  replace twoc := Mr.hid twoc
  replace twoa := Mr.hid twoa
  clear Z hM hb hl hB
  have C := mDo_any outc.out.at_ (hyi) (hm.out) 52 other 0 (by decide)
  rw [O1.out, show dnx y 52 other 0 = y from rfl] at C
  replace C := Mr.hid C
  obtain ⟨e0, e1, e2, e3, e4, el⟩ := ctO_cells outc.out.box
  go_upto_region 21 with (first | (go_at_call 19; refine C.out.mono ?_; clear C; rintro e y9 ⟨v0, v1, v2, v3, v4, rfl, hl, hB⟩; unfold ans; obtain ⟨z9_0, m9_0, rfl, _⟩ := hl.cell.form; obtain ⟨z9_1, m9_1, rfl, _⟩ := hl.stack.form; obtain ⟨z9_2, m9_2, rfl, _⟩ := hl.queue.form; obtain ⟨z9_3, m9_3, rfl, _⟩ := hl.set.form; obtain ⟨z9_4, m9_4, rfl, _⟩ := hl.table.form;  clear e0 e1 e2 e3 e4 el; replace hl := Mr.hid hl; replace hB := Mr.hid hB))
  obtain ⟨x9, hM⟩ : ∃ w', w' = (y9.alloc (ctO (.slice z9_0 y.cell.length m9_0) (.slice z9_1 y.stack.length m9_1) (.slice z9_2 y.queue.length m9_2) (.slice z9_3 y.set.length m9_3) (.slice z9_4 y.table.length m9_4))).alloc (ansO ko 0) := ⟨_, rfl⟩
  obtain ⟨Z, thrc, thra⟩ := made hM hB.out hl.out
  rw [show (y9.alloc (.cells #[.slice z9_0 y.cell.length m9_0, .slice z9_1 y.stack.length m9_1, .slice z9_2 y.queue.length m9_2, .slice z9_3 y.set.length m9_3, .slice z9_4 y.table.length m9_4] 29 (0, 0))).alloc (.cells #[.int .i64 ko, .int .i64 0] 40 (0, 0)) = x9 from by rw [hM]; rfl]
  obtain ⟨b9, hb⟩ : ∃ b, b = y9.heap.size := ⟨_, rfl⟩
  rw [← hb] at thrc thra ⊢
  replace hD := Mr.hid (hD.out.next Z)
  replace hS := Mr.hid (hS.out.next Z)
  replace hadc := Mr.hid (hadc.out.next Z)
  replace hada := Mr.hid (hada.out.next Z)
  replace innc := Mr.hid (innc.out.next Z)
  replace inna := Mr.hid (inna.out.next Z)
  replace agac := Mr.hid (agac.out.next Z)
  replace agaa := Mr.hid (agaa.out.next Z)
  replace outc := Mr.hid (outc.out.next Z)
  replace outa := Mr.hid (outa.out.next Z)
  replace noxc := Mr.hid (noxc.out.next Z)
  replace noxa := Mr.hid (noxa.out.next Z)
  replace gonc := Mr.hid (gonc.out.next Z)
  replace gona := Mr.hid (gona.out.next Z)
  replace onec := Mr.hid (onec.out.next Z)
  replace onea := Mr.hid (onea.out.next Z)
  replace twoc := Mr.hid (twoc.out.next Z)
  replace twoa := Mr.hid (twoa.out.next Z)
  replace thrc := Mr.hid thrc
  replace thra := Mr.hid thra
  clear Z hM hb hl hB
  obtain ⟨r0_0, r0_1, r0_2, -, -⟩ := ansO_cells onea.out.box
  obtain ⟨r1_0, r1_1, r1_2, -, -⟩ := ansO_cells twoa.out.box
  obtain ⟨r2_0, r2_1, r2_2, -, -⟩ := ansO_cells thra.out.box
  go_wp2
  go_ret
  exact ⟨rfl, hD.out.bel⟩
/-- ModelSets, of any contents and keys. -/
theorem walk_sets (u0 u1 u2 u3 u4 : Value) (x : Ct) (key other : Int) (W : World) (hu : CtAt W (fun _ => True) u0 u1 u2 u3 u4 x) (hx : CtIn 140737488351232 x) (hw1 : (Lit.int .i64 key).wf = true) (hw2 : (Lit.int .i64 other).wf = true) :
    Calls Try.prog 8 #[.agg #[u0, u1, u2, u3, u4], .int .i64 key, .int .i64 other] W fun e w' => e = .returned (.bool true) ∧ Below W.heap.size W w' := by
  obtain ⟨y, hm, hy, C⟩ := right_any hx
  cases hk : inB y.set key with
  | true => exact sets_in u0 u1 u2 u3 u4 x key other W hu y hm hy C hk
  | false => exact sets_out u0 u1 u2 u3 u4 x key other W hu y hm hy C hk
end Go.Proofs.Ytegbcocbopgghaa.Md
