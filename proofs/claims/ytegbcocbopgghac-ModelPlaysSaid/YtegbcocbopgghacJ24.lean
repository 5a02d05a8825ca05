import Derived.Test.YtegbcocbopgghacJ22
/-
  Package model: Do of the queue.
-/
namespace Go.Proofs.Ytegbcocbopgghac.Md
open Go.RowKit Mr
set_option linter.unusedVariables false
set_option linter.unusedSimpArgs false
set_option maxRecDepth 100000 in
set_option maxHeartbeats 8000000 in
theorem pDo_3 {W : World} {S : Nat → Prop} {u0 u1 u2 u3 u4 : Value} {x : Ct} (hu : CtAt W S u0 u1 u2 u3 u4 x) (hin : CtIn 225000000000000 x) (hm : May x) (op arg data : Int) (ho : obj op = 3) :
    Calls Try.prog 16 #[.agg #[u0, u1, u2, u3, u4], .int .i64 op, .int .i64 arg, .int .i64 data] W fun e w' => ∃ v0 v1 v2 v3 v4 lab, e = .returned (.tuple #[.agg #[v0, v1, v2, v3, v4], ans (dan x op arg).1 (dan x op arg).2, .int .i64 0]) ∧ CtOwn w' W.heap.size lab v0 v1 v2 v3 v4 (dnx x op arg data) ∧ Below W.heap.size W w' := by
  obtain ⟨a0, c0, rfl, _⟩ := hu.cell.form
  obtain ⟨a1, c1, rfl, _⟩ := hu.stack.form
  obtain ⟨a2, c2, rfl, _⟩ := hu.queue.form
  obtain ⟨a3, c3, rfl, _⟩ := hu.set.form
  obtain ⟨a4, c4, rfl, _⟩ := hu.table.form
  have CR := fun w' (hB : Below W.heap.size W w') (b : Nat) (hb : w'.heap[b]? = some (cqM ⟨0, op, arg, data, 0, 0, 0, 0, 0⟩)) => refused_any (hu.below hB) (hin.sm (by decide)) (sl_call hb) (by show 1 * 72 ≤ 281474976710656; omega) true (by simp [hm]) 0 (by simp [bads, ho])
  have CW := fun w' (hB : Below W.heap.size W w') => worldOf_any (hu.below hB) (hin.mono (by decide))
  have hX0 := Dx.new W (.cells #[.slice a0 x.cell.length c0, .slice a1 x.stack.length c1, .slice a2 x.queue.length c2, .slice a3 x.set.length c3, .slice a4 x.table.length c4] 25 (0, 0)) (.cells #[.int .i64 0, .int .i64 op, .int .i64 arg, .int .i64 data, .int .i64 0, .int .i64 0, .int .i64 0, .int .i64 0, .int .i64 0] 39 (0, 0))
  obtain ⟨y0, y1, y2, y3, y4, y5⟩ := ifs_cells hX0.u
  obtain ⟨q0, q1, q2, q3, q4, q5, q6, q7, q8, q9⟩ := nines hX0.c
  have hn := new_at ((((W.alloc (.cells #[.slice a0 x.cell.length c0, .slice a1 x.stack.length c1, .slice a2 x.queue.length c2, .slice a3 x.set.length c3, .slice a4 x.table.length c4] 25 (0, 0))).alloc (.cells #[.slice none 0 0, .slice none 0 0, .slice none 0 0, .slice none 0 0, .slice none 0 0] 25 (0, 0))).alloc (.cells #[.int .i64 0, .int .i64 0] 37 (0, 0))).alloc (.cells #[.int .i64 0, .int .i64 op, .int .i64 arg, .int .i64 data, .int .i64 0, .int .i64 0, .int .i64 0, .int .i64 0, .int .i64 0] 39 (0, 0))) (.cells #[.int .i64 0, .int .i64 op, .int .i64 arg, .int .i64 data, .int .i64 0, .int .i64 0, .int .i64 0, .int .i64 0, .int .i64 0] 39 (0, 0)) (W.heap.size + 1 + 1 + 1 + 1) (by simp)
  have hY0 := hX0.below ((Below.refl _ ((((W.alloc (.cells #[.slice a0 x.cell.length c0, .slice a1 x.stack.length c1, .slice a2 x.queue.length c2, .slice a3 x.set.length c3, .slice a4 x.table.length c4] 25 (0, 0))).alloc (.cells #[.slice none 0 0, .slice none 0 0, .slice none 0 0, .slice none 0 0, .slice none 0 0] 25 (0, 0))).alloc (.cells #[.int .i64 0, .int .i64 0] 37 (0, 0))).alloc (.cells #[.int .i64 0, .int .i64 op, .int .i64 arg, .int .i64 data, .int .i64 0, .int .i64 0, .int .i64 0, .int .i64 0, .int .i64 0] 39 (0, 0)))).alloc (Nat.le_refl _) (.cells #[.int .i64 0, .int .i64 op, .int .i64 arg, .int .i64 data, .int .i64 0, .int .i64 0, .int .i64 0, .int .i64 0, .int .i64 0] 39 (0, 0)))
  have ez : ((((W.alloc (.cells #[.slice a0 x.cell.length c0, .slice a1 x.stack.length c1, .slice a2 x.queue.length c2, .slice a3 x.set.length c3, .slice a4 x.table.length c4] 25 (0, 0))).alloc (.cells #[.slice none 0 0, .slice none 0 0, .slice none 0 0, .slice none 0 0, .slice none 0 0] 25 (0, 0))).alloc (.cells #[.int .i64 0, .int .i64 0] 37 (0, 0))).alloc (.cells #[.int .i64 0, .int .i64 op, .int .i64 arg, .int .i64 data, .int .i64 0, .int .i64 0, .int .i64 0, .int .i64 0, .int .i64 0] 39 (0, 0))).heap.size = W.heap.size + 4 := by simp
  unfold cqM at CR
  clear hu
  replace CR := Mr.hid CR
  replace CW := Mr.hid CW
  replace hX0 := Mr.hid hX0
  replace hY0 := Mr.hid hY0
  replace hn := Mr.hid hn
  have CA := fun (w : World) (B : Nat) (lab : Nat → Nat) (g0 g1 g2 g3 g4 : Nat) (hd : Wd w B lab g0 g1 g2 g3 g4 x) => ans_queue (hd.queue) 0 op arg data 0 0 0 0 0 (dan x op arg) (dan_o3 x ho)
  have CL := fun (w : World) (B : Nat) (lab : Nat → Nat) (g0 g1 g2 g3 g4 : Nat) (hd : Wd w B lab g0 g1 g2 g3 g4 x) => leave_queue (hd.queue) hin.queue 0 op arg data 0 0 0 0 0 _ rfl
  have hin2 : CtIn 225100000000000 (dnx x op arg data) := (dnx_in hin op arg data).mono (by decide)
  rw [dnx_o3 x ho] at hin2 ⊢
  generalize (if op = 40 then x.queue ++ [arg] else x.queue.drop 1) = l2 at *
  obtain ⟨pp, hpp⟩ : ∃ p, p = dan x op arg := ⟨_, rfl⟩
  rw [← hpp] at CA ⊢
  clear hpp
  obtain ⟨p1, p2⟩ := pp
  replace CA := Mr.hid CA
  replace CL := Mr.hid CL
  replace ho := Mr.hid ho
  go_enter Try.func16, Try.ntmps16
  go_upto_region 5 with (first | (go_at_call 12; refine (CR.out _ hY0.out.bel _ hn.out).mono ?_; rintro e w1 ⟨rfl, hB1⟩; have hX1 := Mr.hid (hY0.out.below hB1); clear y0 y1 y2 y3 y4 y5 q0 q1 q2 q3 q4 q5 q6 q7 q8 q9; obtain ⟨y0, y1, y2, y3, y4, y5⟩ := ifs_cells hX1.out.u; obtain ⟨q0, q1, q2, q3, q4, q5, q6, q7, q8, q9⟩ := nines hX1.out.c))
  go_upto_region 6 with (first | (go_at_call 13; refine (CW.out _ hX1.out.bel).mono ?_; rintro e w2 ⟨g0, g1, g2, g3, g4, lab, rfl, hD, hB2⟩; unfold wdV))
  have hX2 := Mr.hid (hX1.out.below hB2)
  have hX3 := Mr.hid (hX2.out.below ((Below.refl _ w2).alloc (Nat.le_refl _) (.cells #[.iface 55 (.pointer (some ⟨g0, 0, none⟩)), .iface 57 (.pointer (some ⟨g1, 0, none⟩)), .iface 59 (.pointer (some ⟨g2, 0, none⟩)), .iface 61 (.pointer (some ⟨g3, 0, none⟩)), .iface 63 (.pointer (some ⟨g4, 0, none⟩))] 48 (0, 0))))
  have hP3 := heap_alloc_new w2 (.cells #[.iface 55 (.pointer (some ⟨g0, 0, none⟩)), .iface 57 (.pointer (some ⟨g1, 0, none⟩)), .iface 59 (.pointer (some ⟨g2, 0, none⟩)), .iface 61 (.pointer (some ⟨g3, 0, none⟩)), .iface 63 (.pointer (some ⟨g4, 0, none⟩))] 48 (0, 0))
  have hD3 := hD.cut ((Below.refl _ w2).alloc (Nat.le_refl _) (.cells #[.iface 55 (.pointer (some ⟨g0, 0, none⟩)), .iface 57 (.pointer (some ⟨g1, 0, none⟩)), .iface 59 (.pointer (some ⟨g2, 0, none⟩)), .iface 61 (.pointer (some ⟨g3, 0, none⟩)), .iface 63 (.pointer (some ⟨g4, 0, none⟩))] 48 (0, 0)))
  have hi3 : ∀ k, labr lab w2.heap.size k < 5 → k < w2.heap.size := fun k h => labr_hi h
  have hs3 : w2.heap.size < (w2.alloc (.cells #[.iface 55 (.pointer (some ⟨g0, 0, none⟩)), .iface 57 (.pointer (some ⟨g1, 0, none⟩)), .iface 59 (.pointer (some ⟨g2, 0, none⟩)), .iface 61 (.pointer (some ⟨g3, 0, none⟩)), .iface 63 (.pointer (some ⟨g4, 0, none⟩))] 48 (0, 0))).heap.size := by simp
  have hs2 := hB2.size
  generalize labr lab w2.heap.size = lab3 at *
  generalize w2.alloc (.cells #[.iface 55 (.pointer (some ⟨g0, 0, none⟩)), .iface 57 (.pointer (some ⟨g1, 0, none⟩)), .iface 59 (.pointer (some ⟨g2, 0, none⟩)), .iface 61 (.pointer (some ⟨g3, 0, none⟩)), .iface 63 (.pointer (some ⟨g4, 0, none⟩))] 48 (0, 0)) = w3 at *
  generalize w2.heap.size = bW at *
  obtain ⟨z0, z1, z2, z3, z4, z5⟩ := ifs_cells hP3
  clear y0 y1 y2 y3 y4 y5 q0 q1 q2 q3 q4 q5 q6 q7 q8 q9 hB2 hD hX2
  obtain ⟨q0, q1, q2, q3, q4, q5, q6, q7, q8, q9⟩ := nines hX3.out.c
  have hlt1 := Mr.hid hX1.out.lt
  replace hP3 := Mr.hid hP3
  replace hD3 := Mr.hid hD3
  replace hi3 := Mr.hid hi3
  go_upto_region 7 with (first | (go_at_call 28; refine (of_2 g0 g1 g2 g3 g4 op ho.out _).mono ?_; rintro e w4 ⟨rfl, hB4⟩))
  have hX4 := Mr.hid (hX3.out.below hB4)
  have hP4 := Mr.hid ((hB4.block bW hs3).trans hP3.out)
  have hD4 := Mr.hid (hD3.out.keep hB4)
  have hs4 : bW < w4.heap.size := Nat.lt_of_lt_of_le hs3 hB4.size
  clear q0 q1 q2 q3 q4 q5 q6 q7 q8 q9 z0 z1 z2 z3 z4 z5 hB4 hX3 hP3 hD3 hs3
  obtain ⟨q0, q1, q2, q3, q4, q5, q6, q7, q8, q9⟩ := nines hX4.out.c
  have hm1 := fun n => me_answers2 n ⟨g2, 0, none⟩
  have hm2 := fun n => me_leave2 n ⟨g2, 0, none⟩
  go_upto_region 8 with (first | (go_at_call 70; refine (CA.out _ _ _ _ _ _ _ _ hD4.out).mono ?_; rintro e w5 ⟨rfl, hB5⟩; unfold ans))
  have hX5 := Mr.hid (hX4.out.below hB5)
  have hP5 := (hB5.block bW hs4).trans hP4.out
  have hD5 := hD4.out.keep hB5
  have hs5 := Nat.lt_of_lt_of_le hs4 hB5.size
  have hX6 := Mr.hid (hX5.out.below ((Below.refl _ w5).alloc (Nat.le_refl _) (.cells #[.int .i64 p1, .int .i64 p2] 37 (0, 0))))
  have hP6 := old_at hP5 (.cells #[.int .i64 p1, .int .i64 p2] 37 (0, 0))
  have hA6 := heap_alloc_new w5 (.cells #[.int .i64 p1, .int .i64 p2] 37 (0, 0))
  have hD6 := hD5.keep ((Below.refl _ w5).alloc (Nat.le_refl _) (.cells #[.int .i64 p1, .int .i64 p2] 37 (0, 0)))
  have hs6 : w5.heap.size < (w5.alloc (.cells #[.int .i64 p1, .int .i64 p2] 37 (0, 0))).heap.size := by simp
  generalize w5.alloc (.cells #[.int .i64 p1, .int .i64 p2] 37 (0, 0)) = w6 at *
  generalize w5.heap.size = bA at *
  clear q0 q1 q2 q3 q4 q5 q6 q7 q8 q9 hB5 hX5 hX4 hP5 hP4 hD5 hD4
  obtain ⟨q0, q1, q2, q3, q4, q5, q6, q7, q8, q9⟩ := nines hX6.out.c
  replace hP6 := Mr.hid hP6
  replace hA6 := Mr.hid hA6
  replace hD6 := Mr.hid hD6
  go_upto_region 9 with (first | (go_at_call 71; refine (CL.out _ _ _ _ _ _ _ _ hD6.out).mono ?_; rintro e w7 ⟨rfl, hO7, hF7⟩))
  have hlow := Mr.hid hD6.out.low
  have hD7 := hD6.out.put2 (by omega) hO7 hF7
  have hX7 := Mr.hid (hX6.out.fr hF7 (fun k e => by have h1 := hlow.out k (by omega); have h2 := hlt1.out; omega))
  have hP7 := (hF7.block bW (by omega) (fun e => by have h1 := hi3.out bW (by omega); omega)).trans hP6.out
  have hA7 := (hF7.block bA hs6 (fun e => by have h1 := hi3.out bA (by omega); omega)).trans hA6.out
  have hs7 : w1.heap.size ≤ w7.heap.size := by have := hF7.size; omega
  have hb7 : bA < w7.heap.size := Nat.lt_of_lt_of_le hs6 hF7.size
  have hbW7 : bW < w7.heap.size := by omega
  have CC := fun w' (hB : Below w7.heap.size w7 w') => contents_any (hD7.keep hB) (Nat.le_trans hs7 hB.size) hin2
  have KP : ∀ w', Below w7.heap.size w7 w' → w'.cell? ⟨bW, 0, none⟩ = some (.iface 55 (.pointer (some ⟨g0, 0, none⟩))) ∧ w'.cell? ⟨bW, 1, none⟩ = some (.iface 57 (.pointer (some ⟨g1, 0, none⟩))) ∧ w'.cell? ⟨bW, 2, none⟩ = some (.iface 59 (.pointer (some ⟨g2, 0, none⟩))) ∧ w'.cell? ⟨bW, 3, none⟩ = some (.iface 61 (.pointer (some ⟨g3, 0, none⟩))) ∧ w'.cell? ⟨bW, 4, none⟩ = some (.iface 63 (.pointer (some ⟨g4, 0, none⟩))) ∧ w'.cell? ⟨bA, 0, none⟩ = some (.int .i64 p1) ∧ w'.cell? ⟨bA, 1, none⟩ = some (.int .i64 p2) := fun w' hB => by
    obtain ⟨e0, e1, e2, e3, e4, _⟩ := ifs_cells ((hB.block bW hbW7).trans hP7)
    have eA := (hB.block bA hb7).trans hA7
    exact ⟨e0, e1, e2, e3, e4, cell_blk eA 0, cell_blk eA 1⟩
  have KP0 := Mr.hid (KP _ (Below.refl _ _).drew)
  have hbWn : W.heap.size + 3 < bW := by have := hlt1.out; omega
  have hbAn : W.heap.size + 3 < bA := by have := hlt1.out; omega
  have KE := fun w8 (hB : Below w7.heap.size w7 w8) (v0 v1 v2 v3 v4 : Value) => do_end (n := W.heap.size) v0 v1 v2 v3 v4 p1 p2 (hX7.out.below hB).bel (Nat.le_refl _) (hX7.out.below hB).r (hX7.out.below hB).a
  have KF := fun w8 (hB : Below w7.heap.size w7 w8) => (⟨ifs_cells (hX7.out.below hB).r, ifs_thaw (hX7.out.below hB).r, ans_set (hX7.out.below hB).a 0 0⟩ : _ ∧ _ ∧ _)
  have KG := fun w8 (hB : Below w7.heap.size w7 w8) (v0 v1 v2 v3 v4 : Value) => do_keep (n := W.heap.size) (bW := bW) (bA := bA) v0 v1 v2 v3 v4 p1 p2 (by omega) (by omega) (KP w8 hB)
  have KH := fun w8 (hB : Below w7.heap.size w7 w8) (v0 v1 v2 v3 v4 : Value) => do_keep5 (n := W.heap.size) (bW := bW) (bA := bA) v0 v1 v2 v3 v4 (by omega) (by omega) (KP w8 hB)
  unfold set7d set5 at KE KG
  unfold set5 at KH
  replace KH := Mr.hid KH
  unfold wdV at CC
  replace KE := Mr.hid KE
  replace KF := Mr.hid KF
  replace KG := Mr.hid KG
  replace KP := Mr.hid KP
  replace CC := Mr.hid CC
  obtain ⟨z0, z1, z2, z3, z4, za, zb⟩ := KP.out w7 (Below.refl _ _)
  clear q0 q1 q2 q3 q4 q5 q6 q7 q8 q9 hD7 hO7 hF7 hP7 hA7 hm1 hm2
  go_region_held3 (fun w' => w'.cell? ⟨bW, 0, none⟩ = some (.iface 55 (.pointer (some ⟨g0, 0, none⟩))) ∧ w'.cell? ⟨bW, 1, none⟩ = some (.iface 57 (.pointer (some ⟨g1, 0, none⟩))) ∧ w'.cell? ⟨bW, 2, none⟩ = some (.iface 59 (.pointer (some ⟨g2, 0, none⟩))) ∧ w'.cell? ⟨bW, 3, none⟩ = some (.iface 61 (.pointer (some ⟨g3, 0, none⟩))) ∧ w'.cell? ⟨bW, 4, none⟩ = some (.iface 63 (.pointer (some ⟨g4, 0, none⟩))) ∧ w'.cell? ⟨bA, 0, none⟩ = some (.int .i64 p1) ∧ w'.cell? ⟨bA, 1, none⟩ = some (.int .i64 p2)) (first | with_reducible exact KY.out | with_reducible exact KX.out | with_reducible exact KZ.out | with_reducible exact KP0.out | go_keep) (first | (go_at_call 15; refine (CC.out _ (Below.refl _ _).drew).mono ?_; rintro e w8 ⟨v0, v1, v2, v3, v4, lab8, rfl, hO8, hB8⟩; replace hB8 : Below w7.heap.size w7 w8 := ⟨hB8.os, hB8.tape, hB8.output, hB8.size, hB8.block⟩; have KZ := Mr.hid (KG.out w8 hB8 v0 v1 v2 v3 v4); have KX := Mr.hid (KH.out w8 hB8 v0 v1 v2 v3 v4); have KV := Mr.hid (KE.out w8 hB8 v0 v1 v2 v3 v4); obtain ⟨d0, b0, rfl, _, _⟩ := hO8.cell.form; obtain ⟨d1, b1, rfl, _, _⟩ := hO8.stack.form; obtain ⟨d2, b2, rfl, _, _⟩ := hO8.queue.form; obtain ⟨d3, b3, rfl, _, _⟩ := hO8.set.form; obtain ⟨d4, b4, rfl, _, _⟩ := hO8.table.form; have KY := Mr.hid (KP.out w8 hB8); obtain ⟨⟨r0, r1, r2, r3, r4, r5⟩, ⟨f0, f1, f2, f3, f4⟩, ⟨e0, e1, h0, h1, e2, e3, e4⟩⟩ := KF.out w8 hB8))
  obtain ⟨m1, m2, m3, m4⟩ := KV.out
  obtain ⟨x0, x1, x2, x3, x4, x5⟩ := ifs_cells m2
  have hO9 := hO8.kept (W' := set7d w8 W.heap.size (.slice d0 x.cell.length b0) (.slice d1 x.stack.length b1) (.slice d2 l2.length b2) (.slice d3 x.set.length b3) (.slice d4 x.table.length b4) p1 p2) (B' := W.heap.size) (fun k hk hl => set7d_far w8 W.heap.size _ _ _ _ _ p1 p2 k (by have := hlt1.out; omega) (by have := hlt1.out; omega)) (by have := hlt1.out; omega)
  unfold set7d set5 at hO9
  replace hO9 := Mr.hid hO9
  replace m1 := Mr.hid m1
  replace hO8 := Mr.hid hO8
  clear m2 KV KX KY KZ KP0 z0 z1 z2 z3 z4 za zb r0 r1 r2 r3 r4 f0 f1 f2 f3 f4 e0 e1 h0 h1 e3 e4
  go_wp2
  refine bodyPost_ret (v := .tuple #[.agg #[.slice d0 x.cell.length b0, .slice d1 x.stack.length b1, .slice d2 l2.length b2, .slice d3 x.set.length b3, .slice d4 x.table.length b4], .agg #[.int .i64 p1, .int .i64 p2], .int .i64 0]) (by simp [results, Try.results16, go_sem, x0, x1, x2, x3, x4, m3, m4]) rfl ⟨_, _, _, _, _, _, rfl, hO9.out, m1.out⟩
end Go.Proofs.Ytegbcocbopgghac.Md
/-
  Package model: Do of the set.
-/
namespace Go.Proofs.Ytegbcocbopgghac.Md
open Go.RowKit Mr
set_option linter.unusedVariables false
set_option linter.unusedSimpArgs false
set_option maxRecDepth 100000 in
set_option maxHeartbeats 8000000 in
theorem pDo_4 {W : World} {S : Nat → Prop} {u0 u1 u2 u3 u4 : Value} {x : Ct} (hu : CtAt W S u0 u1 u2 u3 u4 x) (hin : CtIn 225000000000000 x) (hm : May x) (op arg data : Int) (ho : obj op = 4) :
    Calls Try.prog 16 #[.agg #[u0, u1, u2, u3, u4], .int .i64 op, .int .i64 arg, .int .i64 data] W fun e w' => ∃ v0 v1 v2 v3 v4 lab, e = .returned (.tuple #[.agg #[v0, v1, v2, v3, v4], ans (dan x op arg).1 (dan x op arg).2, .int .i64 0]) ∧ CtOwn w' W.heap.size lab v0 v1 v2 v3 v4 (dnx x op arg data) ∧ Below W.heap.size W w' := by
  obtain ⟨a0, c0, rfl, _⟩ := hu.cell.form
  obtain ⟨a1, c1, rfl, _⟩ := hu.stack.form
  obtain ⟨a2, c2, rfl, _⟩ := hu.queue.form
  obtain ⟨a3, c3, rfl, _⟩ := hu.set.form
  obtain ⟨a4, c4, rfl, _⟩ := hu.table.form
  have CR := fun w' (hB : Below W.heap.size W w') (b : Nat) (hb : w'.heap[b]? = some (cqM ⟨0, op, arg, data, 0, 0, 0, 0, 0⟩)) => refused_any (hu.below hB) (hin.sm (by decide)) (sl_call hb) (by show 1 * 72 ≤ 281474976710656; omega) true (by simp [hm]) 0 (by simp [bads, ho])
  have CW := fun w' (hB : Below W.heap.size W w') => worldOf_any (hu.below hB) (hin.mono (by decide))
  have hX0 := Dx.new W (.cells #[.slice a0 x.cell.length c0, .slice a1 x.stack.length c1, .slice a2 x.queue.length c2, .slice a3 x.set.length c3, .slice a4 x.table.length c4] 25 (0, 0)) (.cells #[.int .i64 0, .int .i64 op, .int .i64 arg, .int .i64 data, .int .i64 0, .int .i64 0, .int .i64 0, .int .i64 0, .int .i64 0] 39 (0, 0))
  obtain ⟨y0, y1, y2, y3, y4, y5⟩ := ifs_cells hX0.u
  obtain ⟨q0, q1, q2, q3, q4, q5, q6, q7, q8, q9⟩ := nines hX0.c
  have hn := new_at ((((W.alloc (.cells #[.slice a0 x.cell.length c0, .slice a1 x.stack.length c1, .slice a2 x.queue.length c2, .slice a3 x.set.length c3, .slice a4 x.table.length c4] 25 (0, 0))).alloc (.cells #[.slice none 0 0, .slice none 0 0, .slice none 0 0, .slice none 0 0, .slice none 0 0] 25 (0, 0))).alloc (.cells #[.int .i64 0, .int .i64 0] 37 (0, 0))).alloc (.cells #[.int .i64 0, .int .i64 op, .int .i64 arg, .int .i64 data, .int .i64 0, .int .i64 0, .int .i64 0, .int .i64 0, .int .i64 0] 39 (0, 0))) (.cells #[.int .i64 0, .int .i64 op, .int .i64 arg, .int .i64 data, .int .i64 0, .int .i64 0, .int .i64 0, .int .i64 0, .int .i64 0] 39 (0, 0)) (W.heap.size + 1 + 1 + 1 + 1) (by simp)
  have hY0 := hX0.below ((Below.refl _ ((((W.alloc (.cells #[.slice a0 x.cell.length c0, .slice a1 x.stack.length c1, .slice a2 x.queue.length c2, .slice a3 x.set.length c3, .slice a4 x.table.length c4] 25 (0, 0))).alloc (.cells #[.slice none 0 0, .slice none 0 0, .slice none 0 0, .slice none 0 0, .slice none 0 0] 25 (0, 0))).alloc (.cells #[.int .i64 0, .int .i64 0] 37 (0, 0))).alloc (.cells #[.int .i64 0, .int .i64 op, .int .i64 arg, .int .i64 data, .int .i64 0, .int .i64 0, .int .i64 0, .int .i64 0, .int .i64 0] 39 (0, 0)))).alloc (Nat.le_refl _) (.cells #[.int .i64 0, .int .i64 op, .int .i64 arg, .int .i64 data, .int .i64 0, .int .i64 0, .int .i64 0, .int .i64 0, .int .i64 0] 39 (0, 0)))
  have ez : ((((W.alloc (.cells #[.slice a0 x.cell.length c0, .slice a1 x.stack.length c1, .slice a2 x.queue.length c2, .slice a3 x.set.length c3, .slice a4 x.table.length c4] 25 (0, 0))).alloc (.cells #[.slice none 0 0, .slice none 0 0, .slice none 0 0, .slice none 0 0, .slice none 0 0] 25 (0, 0))).alloc (.cells #[.int .i64 0, .int .i64 0] 37 (0, 0))).alloc (.cells #[.int .i64 0, .int .i64 op, .int .i64 arg, .int .i64 data, .int .i64 0, .int .i64 0, .int .i64 0, .int .i64 0, .int .i64 0] 39 (0, 0))).heap.size = W.heap.size + 4 := by simp
  unfold cqM at CR
  clear hu
  replace CR := Mr.hid CR
  replace CW := Mr.hid CW
  replace hX0 := Mr.hid hX0
  replace hY0 := Mr.hid hY0
  replace hn := Mr.hid hn
  have CA := fun (w : World) (B : Nat) (lab : Nat → Nat) (g0 g1 g2 g3 g4 : Nat) (hd : Wd w B lab g0 g1 g2 g3 g4 x) => ans_setq (hd.set) (Nat.le_trans hin.set (by decide)) hm.2.1 0 op arg data 0 0 0 0 0 (dan x op arg) (dan_o4 x ho)
  have CL := fun (w : World) (B : Nat) (lab : Nat → Nat) (g0 g1 g2 g3 g4 : Nat) (hd : Wd w B lab g0 g1 g2 g3 g4 x) => leave_set (hd.set) hin.set hm.2.1 0 op arg data 0 0 0 0 0 _ rfl
  have hin2 : CtIn 225100000000000 (dnx x op arg data) := (dnx_in hin op arg data).mono (by decide)
  rw [dnx_o4 x ho] at hin2 ⊢
  generalize (if op = 50 then (if inB x.set arg then x.set else insL x.set arg) else if op = 51 then (if inB x.set arg then delL x.set arg else x.set) else x.set) = l2 at *
  obtain ⟨pp, hpp⟩ : ∃ p, p = dan x op arg := ⟨_, rfl⟩
  rw [← hpp] at CA ⊢
  clear hpp
  obtain ⟨p1, p2⟩ := pp
  replace CA := Mr.hid CA
  replace CL := Mr.hid CL
  replace ho := Mr.hid ho
  go_enter Try.func16, Try.ntmps16
  go_upto_region 5 with (first | (go_at_call 12; refine (CR.out _ hY0.out.bel _ hn.out).mono ?_; rintro e w1 ⟨rfl, hB1⟩; have hX1 := Mr.hid (hY0.out.below hB1); clear y0 y1 y2 y3 y4 y5 q0 q1 q2 q3 q4 q5 q6 q7 q8 q9; obtain ⟨y0, y1, y2, y3, y4, y5⟩ := ifs_cells hX1.out.u; obtain ⟨q0, q1, q2, q3, q4, q5, q6, q7, q8, q9⟩ := nines hX1.out.c))
  go_upto_region 6 with (first | (go_at_call 13; refine (CW.out _ hX1.out.bel).mono ?_; rintro e w2 ⟨g0, g1, g2, g3, g4, lab, rfl, hD, hB2⟩; unfold wdV))
  have hX2 := Mr.hid (hX1.out.below hB2)
  have hX3 := Mr.hid (hX2.out.below ((Below.refl _ w2).alloc (Nat.le_refl _) (.cells #[.iface 55 (.pointer (some ⟨g0, 0, none⟩)), .iface 57 (.pointer (some ⟨g1, 0, none⟩)), .iface 59 (.pointer (some ⟨g2, 0, none⟩)), .iface 61 (.pointer (some ⟨g3, 0, none⟩)), .iface 63 (.pointer (some ⟨g4, 0, none⟩))] 48 (0, 0))))
  have hP3 := heap_alloc_new w2 (.cells #[.iface 55 (.pointer (some ⟨g0, 0, none⟩)), .iface 57 (.pointer (some ⟨g1, 0, none⟩)), .iface 59 (.pointer (some ⟨g2, 0, none⟩)), .iface 61 (.pointer (some ⟨g3, 0, none⟩)), .iface 63 (.pointer (some ⟨g4, 0, none⟩))] 48 (0, 0))
  have hD3 := hD.cut ((Below.refl _ w2).alloc (Nat.le_refl _) (.cells #[.iface 55 (.pointer (some ⟨g0, 0, none⟩)), .iface 57 (.pointer (some ⟨g1, 0, none⟩)), .iface 59 (.pointer (some ⟨g2, 0, none⟩)), .iface 61 (.pointer (some ⟨g3, 0, none⟩)), .iface 63 (.pointer (some ⟨g4, 0, none⟩))] 48 (0, 0)))
  have hi3 : ∀ k, labr lab w2.heap.size k < 5 → k < w2.heap.size := fun k h => labr_hi h
  have hs3 : w2.heap.size < (w2.alloc (.cells #[.iface 55 (.pointer (some ⟨g0, 0, none⟩)), .iface 57 (.pointer (some ⟨g1, 0, none⟩)), .iface 59 (.pointer (some ⟨g2, 0, none⟩)), .iface 61 (.pointer (some ⟨g3, 0, none⟩)), .iface 63 (.pointer (some ⟨g4, 0, none⟩))] 48 (0, 0))).heap.size := by simp
  have hs2 := hB2.size
  generalize labr lab w2.heap.size = lab3 at *
  generalize w2.alloc (.cells #[.iface 55 (.pointer (some ⟨g0, 0, none⟩)), .iface 57 (.pointer (some ⟨g1, 0, none⟩)), .iface 59 (.pointer (some ⟨g2, 0, none⟩)), .iface 61 (.pointer (some ⟨g3, 0, none⟩)), .iface 63 (.pointer (some ⟨g4, 0, none⟩))] 48 (0, 0)) = w3 at *
  generalize w2.heap.size = bW at *
  obtain ⟨z0, z1, z2, z3, z4, z5⟩ := ifs_cells hP3
  clear y0 y1 y2 y3 y4 y5 q0 q1 q2 q3 q4 q5 q6 q7 q8 q9 hB2 hD hX2
  obtain ⟨q0, q1, q2, q3, q4, q5, q6, q7, q8, q9⟩ := nines hX3.out.c
  have hlt1 := Mr.hid hX1.out.lt
  replace hP3 := Mr.hid hP3
  replace hD3 := Mr.hid hD3
  replace hi3 := Mr.hid hi3
  go_upto_region 7 with (first | (go_at_call 28; refine (of_3 g0 g1 g2 g3 g4 op ho.out _).mono ?_; rintro e w4 ⟨rfl, hB4⟩))
  have hX4 := Mr.hid (hX3.out.below hB4)
  have hP4 := Mr.hid ((hB4.block bW hs3).trans hP3.out)
  have hD4 := Mr.hid (hD3.out.keep hB4)
  have hs4 : bW < w4.heap.size := Nat.lt_of_lt_of_le hs3 hB4.size
  clear q0 q1 q2 q3 q4 q5 q6 q7 q8 q9 z0 z1 z2 z3 z4 z5 hB4 hX3 hP3 hD3 hs3
  obtain ⟨q0, q1, q2, q3, q4, q5, q6, q7, q8, q9⟩ := nines hX4.out.c
  have hm1 := fun n => me_answers3 n ⟨g3, 0, none⟩
  have hm2 := fun n => me_leave3 n ⟨g3, 0, none⟩
  go_upto_region 8 with (first | (go_at_call 72; refine (CA.out _ _ _ _ _ _ _ _ hD4.out).mono ?_; rintro e w5 ⟨rfl, hB5⟩; unfold ans))
  have hX5 := Mr.hid (hX4.out.below hB5)
  have hP5 := (hB5.block bW hs4).trans hP4.out
  have hD5 := hD4.out.keep hB5
  have hs5 := Nat.lt_of_lt_of_le hs4 hB5.size
  have hX6 := Mr.hid (hX5.out.below ((Below.refl _ w5).alloc (Nat.le_refl _) (.cells #[.int .i64 p1, .int .i64 p2] 37 (0, 0))))
  have hP6 := old_at hP5 (.cells #[.int .i64 p1, .int .i64 p2] 37 (0, 0))
  have hA6 := heap_alloc_new w5 (.cells #[.int .i64 p1, .int .i64 p2] 37 (0, 0))
  have hD6 := hD5.keep ((Below.refl _ w5).alloc (Nat.le_refl _) (.cells #[.int .i64 p1, .int .i64 p2] 37 (0, 0)))
  have hs6 : w5.heap.size < (w5.alloc (.cells #[.int .i64 p1, .int .i64 p2] 37 (0, 0))).heap.size := by simp
  generalize w5.alloc (.cells #[.int .i64 p1, .int .i64 p2] 37 (0, 0)) = w6 at *
  generalize w5.heap.size = bA at *
  clear q0 q1 q2 q3 q4 q5 q6 q7 q8 q9 hB5 hX5 hX4 hP5 hP4 hD5 hD4
  obtain ⟨q0, q1, q2, q3, q4, q5, q6, q7, q8, q9⟩ := nines hX6.out.c
  replace hP6 := Mr.hid hP6
  replace hA6 := Mr.hid hA6
  replace hD6 := Mr.hid hD6
  go_upto_region 9 with (first | (go_at_call 73; refine (CL.out _ _ _ _ _ _ _ _ hD6.out).mono ?_; rintro e w7 ⟨rfl, hO7, hF7⟩))
  have hlow := Mr.hid hD6.out.low
  have hD7 := hD6.out.put3 (by omega) hO7 hF7
  have hX7 := Mr.hid (hX6.out.fr hF7 (fun k e => by have h1 := hlow.out k (by omega); have h2 := hlt1.out; omega))
  have hP7 := (hF7.block bW (by omega) (fun e => by have h1 := hi3.out bW (by omega); omega)).trans hP6.out
  have hA7 := (hF7.block bA hs6 (fun e => by have h1 := hi3.out bA (by omega); omega)).trans hA6.out
  have hs7 : w1.heap.size ≤ w7.heap.size := by have := hF7.size; omega
  have hb7 : bA < w7.heap.size := Nat.lt_of_lt_of_le hs6 hF7.size
  have hbW7 : bW < w7.heap.size := by omega
  have CC := fun w' (hB : Below w7.heap.size w7 w') => contents_any (hD7.keep hB) (Nat.le_trans hs7 hB.size) hin2
  have KP : ∀ w', Below w7.heap.size w7 w' → w'.cell? ⟨bW, 0, none⟩ = some (.iface 55 (.pointer (some ⟨g0, 0, none⟩))) ∧ w'.cell? ⟨bW, 1, none⟩ = some (.iface 57 (.pointer (some ⟨g1, 0, none⟩))) ∧ w'.cell? ⟨bW, 2, none⟩ = some (.iface 59 (.pointer (some ⟨g2, 0, none⟩))) ∧ w'.cell? ⟨bW, 3, none⟩ = some (.iface 61 (.pointer (some ⟨g3, 0, none⟩))) ∧ w'.cell? ⟨bW, 4, none⟩ = some (.iface 63 (.pointer (some ⟨g4, 0, none⟩))) ∧ w'.cell? ⟨bA, 0, none⟩ = some (.int .i64 p1) ∧ w'.cell? ⟨bA, 1, none⟩ = some (.int .i64 p2) := fun w' hB => by
    obtain ⟨e0, e1, e2, e3, e4, _⟩ := ifs_cells ((hB.block bW hbW7).trans hP7)
    have eA := (hB.block bA hb7).trans hA7
    exact ⟨e0, e1, e2, e3, e4, cell_blk eA 0, cell_blk eA 1⟩
  have KP0 := Mr.hid (KP _ (Below.refl _ _).drew)
  have hbWn : W.heap.size + 3 < bW := by have := hlt1.out; omega
  have hbAn : W.heap.size + 3 < bA := by have := hlt1.out; omega
  have KE := fun w8 (hB : Below w7.heap.size w7 w8) (v0 v1 v2 v3 v4 : Value) => do_end (n := W.heap.size) v0 v1 v2 v3 v4 p1 p2 (hX7.out.below hB).bel (Nat.le_refl _) (hX7.out.below hB).r (hX7.out.below hB).a
  have KF := fun w8 (hB : Below w7.heap.size w7 w8) => (⟨ifs_cells (hX7.out.below hB).r, ifs_thaw (hX7.out.below hB).r, ans_set (hX7.out.below hB).a 0 0⟩ : _ ∧ _ ∧ _)
  have KG := fun w8 (hB : Below w7.heap.size w7 w8) (v0 v1 v2 v3 v4 : Value) => do_keep (n := W.heap.size) (bW := bW) (bA := bA) v0 v1 v2 v3 v4 p1 p2 (by omega) (by omega) (KP w8 hB)
  have KH := fun w8 (hB : Below w7.heap.size w7 w8) (v0 v1 v2 v3 v4 : Value) => do_keep5 (n := W.heap.size) (bW := bW) (bA := bA) v0 v1 v2 v3 v4 (by omega) (by omega) (KP w8 hB)
  unfold set7d set5 at KE KG
  unfold set5 at KH
  replace KH := Mr.hid KH
  unfold wdV at CC
  replace KE := Mr.hid KE
  replace KF := Mr.hid KF
  replace KG := Mr.hid KG
  replace KP := Mr.hid KP
  replace CC := Mr.hid CC
  obtain ⟨z0, z1, z2, z3, z4, za, zb⟩ := KP.out w7 (Below.refl _ _)
  clear q0 q1 q2 q3 q4 q5 q6 q7 q8 q9 hD7 hO7 hF7 hP7 hA7 hm1 hm2
  go_region_held3 (fun w' => w'.cell? ⟨bW, 0, none⟩ = some (.iface 55 (.pointer (some ⟨g0, 0, none⟩))) ∧ w'.cell? ⟨bW, 1, none⟩ = some (.iface 57 (.pointer (some ⟨g1, 0, none⟩))) ∧ w'.cell? ⟨bW, 2, none⟩ = some (.iface 59 (.pointer (some ⟨g2, 0, none⟩))) ∧ w'.cell? ⟨bW, 3, none⟩ = some (.iface 61 (.pointer (some ⟨g3, 0, none⟩))) ∧ w'.cell? ⟨bW, 4, none⟩ = some (.iface 63 (.pointer (some ⟨g4, 0, none⟩))) ∧ w'.cell? ⟨bA, 0, none⟩ = some (.int .i64 p1) ∧ w'.cell? ⟨bA, 1, none⟩ = some (.int .i64 p2)) (first | with_reducible exact KY.out | with_reducible exact KX.out | with_reducible exact KZ.out | with_reducible exact KP0.out | go_keep) (first | (go_at_call 15; refine (CC.out _ (Below.refl _ _).drew).mono ?_; rintro e w8 ⟨v0, v1, v2, v3, v4, lab8, rfl, hO8, hB8⟩; replace hB8 : Below w7.heap.size w7 w8 := ⟨hB8.os, hB8.tape, hB8.output, hB8.size, hB8.block⟩; have KZ := Mr.hid (KG.out w8 hB8 v0 v1 v2 v3 v4); have KX := Mr.hid (KH.out w8 hB8 v0 v1 v2 v3 v4); have KV := Mr.hid (KE.out w8 hB8 v0 v1 v2 v3 v4); obtain ⟨d0, b0, rfl, _, _⟩ := hO8.cell.form; obtain ⟨d1, b1, rfl, _, _⟩ := hO8.stack.form; obtain ⟨d2, b2, rfl, _, _⟩ := hO8.queue.form; obtain ⟨d3, b3, rfl, _, _⟩ := hO8.set.form; obtain ⟨d4, b4, rfl, _, _⟩ := hO8.table.form; have KY := Mr.hid (KP.out w8 hB8); obtain ⟨⟨r0, r1, r2, r3, r4, r5⟩, ⟨f0, f1, f2, f3, f4⟩, ⟨e0, e1, h0, h1, e2, e3, e4⟩⟩ := KF.out w8 hB8))
  obtain ⟨m1, m2, m3, m4⟩ := KV.out
  obtain ⟨x0, x1, x2, x3, x4, x5⟩ := ifs_cells m2
  have hO9 := hO8.kept (W' := set7d w8 W.heap.size (.slice d0 x.cell.length b0) (.slice d1 x.stack.length b1) (.slice d2 x.queue.length b2) (.slice d3 l2.length b3) (.slice d4 x.table.length b4) p1 p2) (B' := W.heap.size) (fun k hk hl => set7d_far w8 W.heap.size _ _ _ _ _ p1 p2 k (by have := hlt1.out; omega) (by have := hlt1.out; omega)) (by have := hlt1.out; omega)
  unfold set7d set5 at hO9
  replace hO9 := Mr.hid hO9
  replace m1 := Mr.hid m1
  replace hO8 := Mr.hid hO8
  clear m2 KV KX KY KZ KP0 z0 z1 z2 z3 z4 za zb r0 r1 r2 r3 r4 f0 f1 f2 f3 f4 e0 e1 h0 h1 e3 e4
  go_wp2
  refine bodyPost_ret (v := .tuple #[.agg #[.slice d0 x.cell.length b0, .slice d1 x.stack.length b1, .slice d2 x.queue.length b2, .slice d3 l2.length b3, .slice d4 x.table.length b4], .agg #[.int .i64 p1, .int .i64 p2], .int .i64 0]) (by simp [results, Try.results16, go_sem, x0, x1, x2, x3, x4, m3, m4]) rfl ⟨_, _, _, _, _, _, rfl, hO9.out, m1.out⟩
end Go.Proofs.Ytegbcocbopgghac.Md
