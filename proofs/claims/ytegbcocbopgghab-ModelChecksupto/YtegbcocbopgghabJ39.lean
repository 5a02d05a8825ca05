import Derived.Test.YtegbcocbopgghabJ38
import Derived.Deep.RegionHeld3
import Derived.BigQuiet
/-
  ModelChecks: the walk.
-/
namespace Go.Proofs.Ytegbcocbopgghab.Md
open Go.RowKit Mr Me
set_option linter.unusedVariables false
set_option linter.unusedSimpArgs false
set_option maxRecDepth 100000 in
set_option maxHeartbeats 64000000 in
theorem walk_checks (u0 u1 u2 u3 u4 : Value) (x : Ct) (um : Value) (ms : List Mw) (wk wv : Int) (W : World) (hu : CtAt W (fun _ => True) u0 u1 u2 u3 u4 x) (hx : CtIn 16777216 x) (hv : Sl W (fun _ => True) 4 um ms.length (mws ms)) (hsm : ms.length ≤ 1048576) :
    Calls Try.prog 5 #[.agg #[u0, u1, u2, u3, u4], um, .agg #[.int .i64 wk, .int .i64 wv]] W fun e w' => e = .returned (.bool true) ∧ Below W.heap.size W w' := by
  obtain ⟨y, hm, hy, CRT⟩ := right_any (hx.mono (show 16777216 ≤ 140737488351232 by decide))
  obtain ⟨a0, c0, rfl, _⟩ := hu.cell.form
  obtain ⟨a1, c1, rfl, _⟩ := hu.stack.form
  obtain ⟨a2, c2, rfl, _⟩ := hu.queue.form
  obtain ⟨a3, c3, rfl, _⟩ := hu.set.form
  obtain ⟨a4, c4, rfl, _⟩ := hu.table.form
  obtain ⟨av, cv, rfl, hcv⟩ := hv.form
  have HV := fun w' (hB : Below W.heap.size W w') => hv.below hB
  obtain ⟨n, hn⟩ : ∃ n, n = ms.length := ⟨_, rfl⟩
  rw [← hn] at HV hsm hcv ⊢
  obtain ⟨w0, hw0⟩ : ∃ w0, w0 = (W.alloc (ctO (.slice a0 x.cell.length c0) (.slice a1 x.stack.length c1) (.slice a2 x.queue.length c2) (.slice a3 x.set.length c3) (.slice a4 x.table.length c4))).alloc (ansO wk wv) := ⟨_, rfl⟩
  have U0 : CtAt w0 (fun _ => True) (.slice a0 x.cell.length c0) (.slice a1 x.stack.length c1) (.slice a2 x.queue.length c2) (.slice a3 x.set.length c3) (.slice a4 x.table.length c4) x := by rw [hw0]; exact hu.below (((Below.refl W.heap.size W).alloc (Nat.le_refl _) _).alloc (by simp) _)
  have hg0 : w0.heap[W.heap.size]? = some (ctO (.slice a0 x.cell.length c0) (.slice a1 x.stack.length c1) (.slice a2 x.queue.length c2) (.slice a3 x.set.length c3) (.slice a4 x.table.length c4)) := by rw [hw0]; exact old_at (new_at W _ _ rfl) _
  clear hu hv
  replace hn := Mr.hid hn
  replace HV := Mr.hid HV
  replace CRT := Mr.hid CRT
  replace hm := Mr.hid hm
  replace hy := Mr.hid hy
  replace U0 := Mr.hid U0
  replace hw0 := Mr.hid hw0
  replace hg0 := Mr.hid hg0
  go_enter Try.func5, Try.ntmps5
  go_upto_region 1 with (fail)
  rw [show (W.alloc (.cells #[.slice a0 x.cell.length c0, .slice a1 x.stack.length c1, .slice a2 x.queue.length c2, .slice a3 x.set.length c3, .slice a4 x.table.length c4] 25 (0, 0))).alloc (.cells #[.int .i64 wk, .int .i64 wv] 31 (0, 0)) = w0 from by rw [hw0.out]; rfl]
  obtain ⟨e0, e1, e2, e3, e4, el⟩ := ctO_cells hg0.out
  clear hg0
  go_upto_region 2 with (go_at_call 9; refine (CRT.out _ _ _ _ _ _ _ U0.out).mono ?_; clear CRT U0; rintro e w1 ⟨v0, v1, v2, v3, v4, rfl, hv, hB1⟩; obtain ⟨hD, hS, hA, hg⟩ := righted2 (u0 := (.slice a0 x.cell.length c0)) (u1 := (.slice a1 x.stack.length c1)) (u2 := (.slice a2 x.queue.length c2)) (u3 := (.slice a3 x.set.length c3)) (u4 := (.slice a4 x.table.length c4)) hw0.out rfl hB1 hv; clear hB1 e0 e1 e2 e3 e4 el; obtain ⟨s0, t0, rfl, _⟩ := hv.cell.form; obtain ⟨s1, t1, rfl, _⟩ := hv.stack.form; obtain ⟨s2, t2, rfl, _⟩ := hv.queue.form; obtain ⟨s3, t3, rfl, _⟩ := hv.set.form; obtain ⟨s4, t4, rfl, _⟩ := hv.table.form; clear hv; obtain ⟨k0, k1, k2, k3, k4, kl⟩ := ctO_cells hg; obtain ⟨f0, f1, f2, f3, f4⟩ := ctO_thaw hg; clear hg; replace hD := Mr.hid hD; replace hS := Mr.hid hS; replace hA := Mr.hid hA)
  clear k0 k1 k2 k3 k4 kl f0 f1 f2 f3 f4 hw0
  replace hD := hD.out
  replace hS := hS.out
  replace hA := hA.out
  conv at hD => arg 1; unfold set5
  conv at hS => arg 1; unfold set5
  conv at hA => arg 1; unfold set5
  generalize (((((w1.setCell { block := W.heap.size, off := 0 } (.slice s0 y.cell.length t0)).setCell { block := W.heap.size, off := 1 } (.slice s1 y.stack.length t1)).setCell { block := W.heap.size, off := 2 } (.slice s2 y.queue.length t2)).setCell { block := W.heap.size, off := 3 } (.slice s3 y.set.length t3)).setCell { block := W.heap.size, off := 4 } (.slice s4 y.table.length t4)) = x0 at *
  clear w1 w0
  replace hD := Mr.hid hD
  replace hS := Mr.hid hS
  replace hA := Mr.hid hA
  obtain ⟨e0, e1, e2, e3, e4, el⟩ := ctO_cells hS.out.box
  go_upto_region 4 with (fail)
  clear e0 e1 e2 e3 e4 el
  have NW := ck_first hD.out hS.out hA.out
  obtain ⟨b5, hb5⟩ : ∃ b, b = x0.heap.size := ⟨_, rfl⟩
  rw [← hb5] at NW ⊢
  conv at NW => arg 2; unfold ctO
  generalize x0.alloc (.cells #[.slice s0 y.cell.length t0, .slice s1 y.stack.length t1, .slice s2 y.queue.length t2, .slice s3 y.set.length t3, .slice s4 y.table.length t4] 25 (0, 0)) = x1 at *
  clear hb5 hD hS hA
  replace NW := Mr.hid NW
  go_wp2
  go_loopg [7, 27] n (fun k s7 s27 wr => ∃ i : Nat, s27 = .int .i64 (i : Int) ∧ i + k = n ∧ ∃ cs q S T v0 v1 v2 v3 v4, Qs y cs q i ∧ Ck W wr b5 S T (.slice s0 y.cell.length t0) (.slice s1 y.stack.length t1) (.slice s2 y.queue.length t2) (.slice s3 y.set.length t3) (.slice s4 y.table.length t4) y v0 v1 v2 v3 v4 q wk wv s7 cs)
  case atStart => exact ⟨0, rfl, by omega, [], y, _, _, _, _, _, _, _, Qs.first hm.out hy.out, NW.out⟩
  case round =>
    clear NW
    obtain ⟨i, rfl, hi', cs, q, S, T, v0, v1, v2, v3, v4, hQ, hC⟩ := hrel
    by_cases hlt : i < n
    · obtain ⟨⟨th, op0, arg, data⟩, hmi⟩ : ∃ m, ms[i]? = some m := ⟨ms[i]'(by have := hn.out; omega), List.getElem?_eq_getElem _⟩
      obtain ⟨bc, oc, rfl, hcl, g0, g1, g2, g3⟩ := mw_cells (HV.out _ hC.bel) hmi hlt
      simp only at g0 g1 g2 g3
      clear hmi
      obtain ⟨op, hop, CP⟩ := pick_any op0
      obtain ⟨dk, dv, hdk⟩ : ∃ k v, dan q op arg = (k, v) := ⟨_, _, rfl⟩
      obtain ⟨z, hz⟩ : ∃ z, z = dnx q op arg data := ⟨_, rfl⟩
      have hqi : CtIn 225000000000000 q := hQ.in_.mono (by omega)
      have QA := hQ.own hop arg data
      have QN := hQ.step hop arg data
      rw [hdk, ← hz] at QA QN
      simp only at QA QN
      have hqm := hQ.may
      have sz : CtSm z := QN.in_.sm (by omega)
      obtain ⟨n0, r0, rfl, _⟩ := hC.nat.cell.form
      obtain ⟨n1, r1, rfl, _⟩ := hC.nat.stack.form
      obtain ⟨n2, r2, rfl, _⟩ := hC.nat.queue.form
      obtain ⟨n3, r3, rfl, _⟩ := hC.nat.set.form
      obtain ⟨n4, r4, rfl, _⟩ := hC.nat.table.form
      have CD := fun (T : Nat → Prop) w' (h : CtAt w' T (.slice n0 q.cell.length r0) (.slice n1 q.stack.length r1) (.slice n2 q.queue.length r2) (.slice n3 q.set.length r3) (.slice n4 q.table.length r4) q) => mDo_any h hqi hqm op arg data hop
      have CA := fun (T : Nat → Prop) w' (h : CtAt w' T (.slice n0 q.cell.length r0) (.slice n1 q.stack.length r1) (.slice n2 q.queue.length r2) (.slice n3 q.set.length r3) (.slice n4 q.table.length r4) q) (wk wv : Int) => mAllows_any h hqi hqm ⟨0, op, arg, data, 0, 0, 0, wk, wv⟩ hop
      have hAO : ∀ wk wv, ((wk, wv) ≠ (dk, dv)) → wk ≠ 0 → wk ≠ 4 → alw q ⟨0, op, arg, data, 0, 0, 0, wk, wv⟩ = (ct0, false) := fun wk wv h h0 h4 => alw_other q _ (by simp only; rw [hdk]; exact fun e => h e.symm) h0 h4
      rw [hdk, ← hz] at CD
      simp only at CD CA
      have hcal := hC.cal
      obtain ⟨ca, cc, rfl, hcc1, hcc2⟩ := hcal.form
      have hLi : cs.length = i := hQ.len
      replace hLi := Mr.hid hLi
      clear hQ hcal
      have hlI : (i : Int) < (n : Int) := by omega
      have hle : (0 : Int) ≤ (i : Int) := by omega
      have Y1 := (Below.refl wr.heap.size wr).alloc (Nat.le_refl _) (mvO th op0 arg data)
      replace hop := Mr.hid hop
      replace CP := Mr.hid CP
      replace QA := Mr.hid QA
      replace QN := Mr.hid QN
      replace CD := Mr.hid CD
      replace CA := Mr.hid CA
      replace hAO := Mr.hid hAO
      replace hdk := Mr.hid hdk
      replace hz := Mr.hid hz
      replace sz := Mr.hid sz
      replace hqi := Mr.hid hqi
      replace hqm := Mr.hid hqm
      replace hC := Mr.hid hC
      go_upto_region 7 with (fail)
      obtain ⟨w1, hw1⟩ : ∃ w1, w1 = wr.alloc (mvO th op0 arg data) := ⟨_, rfl⟩
      rw [show wr.alloc (.cells #[.int .i64 th, .int .i64 op0, .int .i64 arg, .int .i64 data] 41 (0, 0)) = w1 from by rw [hw1]; rfl]
      have M1 : Mb w1 wr.heap.size th op0 arg data := ⟨by rw [hw1]; exact new_at _ _ _ rfl⟩
      rw [← hw1] at Y1
      have hC1 := Mr.hid (hC.out.next Y1)
      obtain ⟨b10, hb10⟩ : ∃ b, b = wr.heap.size := ⟨_, rfl⟩
      rw [← hb10] at M1 ⊢
      clear hw1 hb10 Y1 hC g0 g1 g2 g3 hcl
      obtain ⟨m1, m2, m3, ml⟩ := mvO_cells M1.box
      replace M1 := Mr.hid M1
      go_upto_region 8 with (go_at_call 14; refine (CP.out _).mono ?_; clear CP; rintro e w2 ⟨rfl, hB⟩; replace hB := Mr.hid hB)
      have hC2 := hC1.out.next hB.out
      have M2 := M1.out.next hB.out
      clear hB hC1 M1 m1 m2 m3 ml
      obtain ⟨m1, m2, m3, ml⟩ := mvO_cells M2.box
      obtain ⟨e0, e1, e2, e3, e4, el⟩ := ctO_cells hC2.nb
      have CD1 := Mr.hid (CD.out _ _ hC2.nat)
      replace hC2 := Mr.hid hC2
      replace M2 := Mr.hid M2
      clear CD
      go_upto_region 9 with (go_at_call 10; refine CD1.out.mono ?_; clear CD1; rintro e w3 ⟨l0, l1, l2, l3, l4, rfl, hl, hB⟩; unfold ans; obtain ⟨z0, p0, rfl, _⟩ := hl.cell.form; obtain ⟨z1, p1, rfl, _⟩ := hl.stack.form; obtain ⟨z2, p2, rfl, _⟩ := hl.queue.form; obtain ⟨z3, p3, rfl, _⟩ := hl.set.form; obtain ⟨z4, p4, rfl, _⟩ := hl.table.form; clear e0 e1 e2 e3 e4 el m1 m2 m3 ml; replace hl := Mr.hid hl; replace hB := Mr.hid hB)
      obtain ⟨w4, hM⟩ : ∃ w', w' = (w3.alloc (ctO (.slice z0 z.cell.length p0) (.slice z1 z.stack.length p1) (.slice z2 z.queue.length p2) (.slice z3 z.set.length p3) (.slice z4 z.table.length p4))).alloc (ansO dk dv) := ⟨_, rfl⟩
      obtain ⟨Z, hN4, hA4⟩ := hC2.out.made hM hB.out hl.out
      rw [show (w3.alloc (.cells #[.slice z0 z.cell.length p0, .slice z1 z.stack.length p1, .slice z2 z.queue.length p2, .slice z3 z.set.length p3, .slice z4 z.table.length p4] 25 (0, 0))).alloc (.cells #[.int .i64 dk, .int .i64 dv] 31 (0, 0)) = w4 from by rw [hM]; rfl]
      obtain ⟨b12, hb12⟩ : ∃ b, b = w3.heap.size := ⟨_, rfl⟩
      rw [← hb12] at hN4 hA4 ⊢
      have hC4 := hC2.out.next Z
      have M4 := M2.out.next Z
      clear hM hb12 hl hB hC2 M2 Z
      obtain ⟨r0', r1', rl', -, -⟩ := ansO_cells hA4.box
      obtain ⟨m1, m2, m3, ml⟩ := mvO_cells M4.box
      clear M4
      replace hC4 := Mr.hid hC4
      replace hN4 := Mr.hid hN4
      replace hA4 := Mr.hid hA4
      go_upto_region 12 with (fail)
      obtain ⟨w5, hw5⟩ : ∃ w', w' = w4.alloc (cqO ⟨0, op, arg, data, 0, 0, 0, dk, dv⟩) := ⟨_, rfl⟩
      rw [show w4.alloc (.cells #[.int .i64 0, .int .i64 op, .int .i64 arg, .int .i64 data, .int .i64 0, .int .i64 0, .int .i64 0, .int .i64 dk, .int .i64 dv] 50 (0, 0)) = w5 from by rw [hw5]; rfl]
      obtain ⟨hC5, hN5, B5, n15, Y5⟩ := hC4.out.call hw5 hN4.out
      have hA5 := hA4.out.next Y5
      have h13 : b12 + 1 < w4.heap.size := (Array.getElem?_eq_some_iff.1 hA4.out.box).1
      obtain ⟨b15, hb15⟩ : ∃ b, b = w4.heap.size := ⟨_, rfl⟩
      rw [← hb15] at hC5 hN5 B5 n15 h13 ⊢
      clear hw5 Y5 hb15 hC4 hN4 hA4 r0' r1' rl' m1 m2 m3 ml
      obtain ⟨e0, e1, e2, e3, e4, el⟩ := ctO_cells hC5.nb
      obtain ⟨q0, q1, q2, q3, q4, q5, q6, q7, q8, ql⟩ := cq_cells B5.box
      simp only at q0 q1 q2 q3 q4 q5 q6 q7 q8
      have CA1 := CA.out _ _ hC5.nat dk dv
      rw [QA.out] at CA1
      simp only at CA1
      replace CA1 := Mr.hid CA1
      replace hC5 := Mr.hid hC5
      replace hN5 := Mr.hid hN5
      replace hA5 := Mr.hid hA5
      replace B5 := Mr.hid B5
      replace n15 := Mr.hid n15
      go_upto_region 13 with (go_at_call 17; refine CA1.out.mono ?_; clear CA1; rintro e w6 ⟨l0, l1, l2, l3, l4, rfl, hl, hB⟩; obtain ⟨f0, h0, rfl, _⟩ := hl.cell.form; obtain ⟨f1, h1, rfl, _⟩ := hl.stack.form; obtain ⟨f2, h2, rfl, _⟩ := hl.queue.form; obtain ⟨f3, h3, rfl, _⟩ := hl.set.form; obtain ⟨f4, h4, rfl, _⟩ := hl.table.form; clear e0 e1 e2 e3 e4 el q0 q1 q2 q3 q4 q5 q6 q7 q8 ql; replace hl := Mr.hid hl; replace hB := Mr.hid hB)
      obtain ⟨w7, hM⟩ : ∃ w', w' = w6.alloc (ctO (.slice f0 z.cell.length h0) (.slice f1 z.stack.length h1) (.slice f2 z.queue.length h2) (.slice f3 z.set.length h3) (.slice f4 z.table.length h4)) := ⟨_, rfl⟩
      obtain ⟨Z, hL7⟩ := hC5.out.made1 hM hB.out hl.out
      rw [show w6.alloc (.cells #[.slice f0 z.cell.length h0, .slice f1 z.stack.length h1, .slice f2 z.queue.length h2, .slice f3 z.set.length h3, .slice f4 z.table.length h4] 25 (0, 0)) = w7 from by rw [hM]; rfl]
      obtain ⟨b16, hb16⟩ : ∃ b, b = w6.heap.size := ⟨_, rfl⟩
      rw [← hb16] at hL7 ⊢
      have hC7 := hC5.out.next Z
      have hN7 := hN5.out.next Z
      have hA7 := hA5.out.next Z
      have B7 := B5.out.next Z
      clear hM hb16 hl hB hC5 hN5 hA5 B5 Z
      obtain ⟨e0, e1, e2, e3, e4, el⟩ := ctO_cells hL7.box
      obtain ⟨k0, k1, k2, k3, k4, kl⟩ := ctO_cells hN7.box
      have CS := mSame_any hL7.at_ hN7.at_ sz.out sz.out
      rw [show ctB z z = true from by unfold ctB; simp] at CS
      replace CS := Mr.hid CS
      replace hC7 := Mr.hid hC7
      replace hN7 := Mr.hid hN7
      replace hA7 := Mr.hid hA7
      replace B7 := Mr.hid B7
      clear hL7
      go_upto_region 15 with (go_at_call 12; refine CS.out.mono ?_; clear CS; rintro e w8 ⟨rfl, hB⟩; replace hB := Mr.hid hB)
      have hC8 := hC7.out.next hB.out
      have hN8 := hN7.out.next hB.out
      have hA8 := hA7.out.next hB.out
      have B8 := B7.out.next hB.out
      clear hC7 hN7 hA7 B7 hB e0 e1 e2 e3 e4 el k0 k1 k2 k3 k4 kl
      obtain ⟨r0', r1', rl', -, -⟩ := ansO_cells hA8.box
      obtain ⟨s0', s1', sl', -, -⟩ := ansO_cells hC8.wb
      replace hC8 := Mr.hid hC8
      replace hN8 := Mr.hid hN8
      replace hA8 := Mr.hid hA8
      replace B8 := Mr.hid B8
      by_cases hk : wk = dk
      · have bk : (wk == dk) = true := by simp [hk]
        by_cases hv2 : wv = dv
        · have bv : (wv == dv) = true := by simp [hv2]
          clear hk hv2
          go_upto_region 21 with (fail)
          clear r0' r1' rl' s0' s1' sl' hA8
          obtain ⟨w11, hw11⟩ : ∃ w', w' = w8.alloc (cqO ⟨0, op, arg, data, 0, 0, 0, dk, dv⟩) := ⟨_, rfl⟩
          have Y11 : Below w8.heap.size w8 w11 := by rw [hw11]; exact (Below.refl _ _).alloc (Nat.le_refl _) _
          have G11 : w11.heap[w8.heap.size]? = some (cqO ⟨0, op, arg, data, 0, 0, 0, dk, dv⟩) := by rw [hw11]; exact new_at _ _ _ rfl
          have hC11 := hC8.out.next Y11
          have hN11 := hN8.out.next Y11
          obtain ⟨i0, hinf, hz0, hz1, hz2⟩ := info_parts mp_call
          have hnews : ∀ ad, some (⟨w8.heap.size, 0, none⟩ : Addr) = some ad → ∀ j u, (Cq.row ⟨0, op, arg, data, 0, 0, 0, dk, dv⟩)[j]? = some u → w11.cell? (ad.add j) = some u := by
            rintro ad e j u hu
            cases e
            rw [add1, Nat.zero_add, cell_blk G11]
            simpa [Cq.row] using hu
          have hcl := hC11.cal
          have hLn : cs.length ≤ 1048576 := by have := hLi.out; omega
          obtain ⟨q0, q1, q2, q3, q4, q5, q6, q7, q8, ql⟩ := cq_cells B8.out.box
          simp only at q0 q1 q2 q3 q4 q5 q6 q7 q8
          clear Y11 hC8 hN8 B8
          replace hnews := Mr.hid hnews
          replace hcl := Mr.hid hcl
          replace hC11 := Mr.hid hC11
          replace hN11 := Mr.hid hN11
          replace G11 := Mr.hid G11
          replace hw11 := Mr.hid hw11
          go_upto_region 22 with (at_builtin; rw [show w8.alloc (.cells #[.int .i64 0, .int .i64 op, .int .i64 arg, .int .i64 data, .int .i64 0, .int .i64 0, .int .i64 0, .int .i64 dk, .int .i64 dv] 50 (0, 0)) = w11 from by rw [hw11.out]; rfl]; refine wpList_append_mine _ rfl (.tmp 102) (.tmp 104) 48 rfl S 50 i0 _ 9 72 Try.underlying48 hinf hz0 hz1 hz2 rfl (.slice ca cs.length cc) cs.length (cqs cs) rfl hcl.out (some ⟨w8.heap.size, 0, none⟩) 1 1 (Cq.row ⟨0, op, arg, data, 0, 0, 0, dk, dv⟩) rfl rfl (fun e => by cases e) hnews.out (by simp [Value.oneCell', Cq.row]) (by unfold maxLen; omega) (by omega) ?_; intro b' cap' w12 hown hfr; replace hown := Mr.hid hown; replace hfr := Mr.hid hfr)
          obtain ⟨S', hC12, hN12⟩ := hC11.out.more hN11.out hown.out hfr.out
          have SN := hC12.put hN12
          obtain ⟨e0, e1, e2, e3, e4, el⟩ := ctO_cells hN12.box
          obtain ⟨k0, k1, k2, k3, k4, kl⟩ := ctO_cells hC12.nb
          obtain ⟨d0, d1, d2, d3, d4⟩ := ctO_thaw hC12.nb
          unfold set5 at SN
          replace SN := Mr.hid SN
          clear hown hfr hC11 hN11 hC12 hN12 hw11 hnews hcl q0 q1 q2 q3 q4 q5 q6 q7 q8 ql G11 hinf hz0 hz1 hz2
          go_wp2
          go_roundg (gk - 1)
          case measure => omega
          case rel => exact ⟨i + 1, by simp, by omega, _, z, S', S', _, _, _, _, _, QN.out, SN.out⟩
        · have bv : (wv == dv) = false := by simp [hv2]
          have hne : (wk, wv) ≠ (dk, dv) := fun e => hv2 (congrArg Prod.snd e)
          have dkn := dan_kind q hop.out arg
          rw [hdk.out] at dkn
          have hk0 : wk ≠ 0 := by rw [hk]; exact dkn.1
          have hk4 : wk ≠ 4 := by rw [hk]; exact dkn.2
          clear hk hv2 dkn
          have b0 : (wk != 0) = true := by simp [hk0]
          have b4 : (wk != 4) = true := by simp [hk4]
          have b0' : (wk == 0) = false := by simp [hk0]
          have b4' : (wk == 4) = false := by simp [hk4]
          go_upto_region 16 with (fail)
          obtain ⟨q0, q1, q2, q3, q4, q5, q6, q7, q8, ql⟩ := cq_cells B8.out.box
          simp only at q0 q1 q2 q3 q4 q5 q6 q7 q8
          obtain ⟨c7, c8⟩ := cq_thaw B8.out.box
          go_upto_region 17 with (fail)
          obtain ⟨hC9, hN9, hA9⟩ := hC8.out.fix (.inr rfl) n15.out hN8.out hA8.out h13 (set78_fr w8 b15 wk wv)
          have B9 := B8.out.set78 wk wv
          unfold set78 at hC9 hN9 hA9 B9
          clear hC8 hN8 hA8 B8 q0 q1 q2 q3 q4 q5 q6 q7 q8 ql c7 c8 r0' r1' rl' s0' s1' sl'
          generalize (w8.setCell { block := b15, off := 7 } (.int .i64 wk)).setCell { block := b15, off := 8 } (.int .i64 wv) = w9 at *
          obtain ⟨e0, e1, e2, e3, e4, el⟩ := ctO_cells hC9.nb
          obtain ⟨q0, q1, q2, q3, q4, q5, q6, q7, q8, ql⟩ := cq_cells B9.box
          simp only at q0 q1 q2 q3 q4 q5 q6 q7 q8
          have CA2 := CA.out _ _ hC9.nat wk wv
          rw [hAO.out wk wv hne hk0 hk4] at CA2
          simp only at CA2
          replace CA2 := Mr.hid CA2
          replace hC9 := Mr.hid hC9
          replace hN9 := Mr.hid hN9
          replace hA9 := Mr.hid hA9
          replace B9 := Mr.hid B9
          go_upto_region 20 with (go_at_call 17; refine CA2.out.mono ?_; clear CA2; rintro e w10 ⟨l0, l1, l2, l3, l4, rfl, hl, hB⟩; clear hl e0 e1 e2 e3 e4 el q0 q1 q2 q3 q4 q5 q6 q7 q8 ql; replace hB := Mr.hid hB)
          have hC10 := hC9.out.next hB.out
          have hN10 := hN9.out.next hB.out
          have hA10 := hA9.out.next hB.out
          have B10 := B9.out.next hB.out
          clear hC9 hN9 hA9 B9 hB
          obtain ⟨r0', r1', rl', -, -⟩ := ansO_cells hA10.box
          obtain ⟨q0, q1, q2, q3, q4, q5, q6, q7, q8, ql⟩ := cq_cells B10.box
          simp only at q0 q1 q2 q3 q4 q5 q6 q7 q8
          obtain ⟨c7, c8⟩ := cq_thaw B10.box
          replace hC10 := Mr.hid hC10
          replace hN10 := Mr.hid hN10
          replace hA10 := Mr.hid hA10
          replace B10 := Mr.hid B10
          go_upto_region 21 with (fail)
          obtain ⟨hC8, hN8, -⟩ := hC10.out.fix (.inr rfl) n15.out hN10.out hA10.out h13 (set78_fr w10 b15 dk dv)
          have B8 := B10.out.set78 dk dv
          unfold set78 at hC8 hN8 B8
          clear hC10 hN10 hA10 B10 q0 q1 q2 q3 q4 q5 q6 q7 q8 ql c7 c8 r0' r1' rl' w8
          generalize (w10.setCell { block := b15, off := 7 } (.int .i64 dk)).setCell { block := b15, off := 8 } (.int .i64 dv) = w8 at *
          replace hC8 := Mr.hid hC8
          replace hN8 := Mr.hid hN8
          replace B8 := Mr.hid B8
          obtain ⟨w11, hw11⟩ : ∃ w', w' = w8.alloc (cqO ⟨0, op, arg, data, 0, 0, 0, dk, dv⟩) := ⟨_, rfl⟩
          have Y11 : Below w8.heap.size w8 w11 := by rw [hw11]; exact (Below.refl _ _).alloc (Nat.le_refl _) _
          have G11 : w11.heap[w8.heap.size]? = some (cqO ⟨0, op, arg, data, 0, 0, 0, dk, dv⟩) := by rw [hw11]; exact new_at _ _ _ rfl
          have hC11 := hC8.out.next Y11
          have hN11 := hN8.out.next Y11
          obtain ⟨i0, hinf, hz0, hz1, hz2⟩ := info_parts mp_call
          have hnews : ∀ ad, some (⟨w8.heap.size, 0, none⟩ : Addr) = some ad → ∀ j u, (Cq.row ⟨0, op, arg, data, 0, 0, 0, dk, dv⟩)[j]? = some u → w11.cell? (ad.add j) = some u := by
            rintro ad e j u hu
            cases e
            rw [add1, Nat.zero_add, cell_blk G11]
            simpa [Cq.row] using hu
          have hcl := hC11.cal
          have hLn : cs.length ≤ 1048576 := by have := hLi.out; omega
          obtain ⟨q0, q1, q2, q3, q4, q5, q6, q7, q8, ql⟩ := cq_cells B8.out.box
          simp only at q0 q1 q2 q3 q4 q5 q6 q7 q8
          clear Y11 hC8 hN8 B8
          replace hnews := Mr.hid hnews
          replace hcl := Mr.hid hcl
          replace hC11 := Mr.hid hC11
          replace hN11 := Mr.hid hN11
          replace G11 := Mr.hid G11
          replace hw11 := Mr.hid hw11
          go_upto_region 22 with (at_builtin; rw [show w8.alloc (.cells #[.int .i64 0, .int .i64 op, .int .i64 arg, .int .i64 data, .int .i64 0, .int .i64 0, .int .i64 0, .int .i64 dk, .int .i64 dv] 50 (0, 0)) = w11 from by rw [hw11.out]; rfl]; refine wpList_append_mine _ rfl (.tmp 102) (.tmp 104) 48 rfl S 50 i0 _ 9 72 Try.underlying48 hinf hz0 hz1 hz2 rfl (.slice ca cs.length cc) cs.length (cqs cs) rfl hcl.out (some ⟨w8.heap.size, 0, none⟩) 1 1 (Cq.row ⟨0, op, arg, data, 0, 0, 0, dk, dv⟩) rfl rfl (fun e => by cases e) hnews.out (by simp [Value.oneCell', Cq.row]) (by unfold maxLen; omega) (by omega) ?_; intro b' cap' w12 hown hfr; replace hown := Mr.hid hown; replace hfr := Mr.hid hfr)
          obtain ⟨S', hC12, hN12⟩ := hC11.out.more hN11.out hown.out hfr.out
          have SN := hC12.put hN12
          obtain ⟨e0, e1, e2, e3, e4, el⟩ := ctO_cells hN12.box
          obtain ⟨k0, k1, k2, k3, k4, kl⟩ := ctO_cells hC12.nb
          obtain ⟨d0, d1, d2, d3, d4⟩ := ctO_thaw hC12.nb
          unfold set5 at SN
          replace SN := Mr.hid SN
          clear hown hfr hC11 hN11 hC12 hN12 hw11 hnews hcl q0 q1 q2 q3 q4 q5 q6 q7 q8 ql G11 hinf hz0 hz1 hz2
          go_wp2
          go_roundg (gk - 1)
          case measure => omega
          case rel => exact ⟨i + 1, by simp, by omega, _, z, S', S', _, _, _, _, _, QN.out, SN.out⟩
      · have bk : (wk == dk) = false := by simp [hk]
        have hne : (wk, wv) ≠ (dk, dv) := fun e => hk (congrArg Prod.fst e)
        by_cases hk0 : wk = 0
        · have b0 : (wk != 0) = false := by simp [hk0]
          have b0' : (wk == 0) = true := by simp [hk0]
          clear hk hk0
          go_upto_region 21 with (fail)
          clear r0' r1' rl' s0' s1' sl' hA8
          obtain ⟨w11, hw11⟩ : ∃ w', w' = w8.alloc (cqO ⟨0, op, arg, data, 0, 0, 0, dk, dv⟩) := ⟨_, rfl⟩
          have Y11 : Below w8.heap.size w8 w11 := by rw [hw11]; exact (Below.refl _ _).alloc (Nat.le_refl _) _
          have G11 : w11.heap[w8.heap.size]? = some (cqO ⟨0, op, arg, data, 0, 0, 0, dk, dv⟩) := by rw [hw11]; exact new_at _ _ _ rfl
          have hC11 := hC8.out.next Y11
          have hN11 := hN8.out.next Y11
          obtain ⟨i0, hinf, hz0, hz1, hz2⟩ := info_parts mp_call
          have hnews : ∀ ad, some (⟨w8.heap.size, 0, none⟩ : Addr) = some ad → ∀ j u, (Cq.row ⟨0, op, arg, data, 0, 0, 0, dk, dv⟩)[j]? = some u → w11.cell? (ad.add j) = some u := by
            rintro ad e j u hu
            cases e
            rw [add1, Nat.zero_add, cell_blk G11]
            simpa [Cq.row] using hu
          have hcl := hC11.cal
          have hLn : cs.length ≤ 1048576 := by have := hLi.out; omega
          obtain ⟨q0, q1, q2, q3, q4, q5, q6, q7, q8, ql⟩ := cq_cells B8.out.box
          simp only at q0 q1 q2 q3 q4 q5 q6 q7 q8
          clear Y11 hC8 hN8 B8
          replace hnews := Mr.hid hnews
          replace hcl := Mr.hid hcl
          replace hC11 := Mr.hid hC11
          replace hN11 := Mr.hid hN11
          replace G11 := Mr.hid G11
          replace hw11 := Mr.hid hw11
          go_upto_region 22 with (at_builtin; rw [show w8.alloc (.cells #[.int .i64 0, .int .i64 op, .int .i64 arg, .int .i64 data, .int .i64 0, .int .i64 0, .int .i64 0, .int .i64 dk, .int .i64 dv] 50 (0, 0)) = w11 from by rw [hw11.out]; rfl]; refine wpList_append_mine _ rfl (.tmp 102) (.tmp 104) 48 rfl S 50 i0 _ 9 72 Try.underlying48 hinf hz0 hz1 hz2 rfl (.slice ca cs.length cc) cs.length (cqs cs) rfl hcl.out (some ⟨w8.heap.size, 0, none⟩) 1 1 (Cq.row ⟨0, op, arg, data, 0, 0, 0, dk, dv⟩) rfl rfl (fun e => by cases e) hnews.out (by simp [Value.oneCell', Cq.row]) (by unfold maxLen; omega) (by omega) ?_; intro b' cap' w12 hown hfr; replace hown := Mr.hid hown; replace hfr := Mr.hid hfr)
          obtain ⟨S', hC12, hN12⟩ := hC11.out.more hN11.out hown.out hfr.out
          have SN := hC12.put hN12
          obtain ⟨e0, e1, e2, e3, e4, el⟩ := ctO_cells hN12.box
          obtain ⟨k0, k1, k2, k3, k4, kl⟩ := ctO_cells hC12.nb
          obtain ⟨d0, d1, d2, d3, d4⟩ := ctO_thaw hC12.nb
          unfold set5 at SN
          replace SN := Mr.hid SN
          clear hown hfr hC11 hN11 hC12 hN12 hw11 hnews hcl q0 q1 q2 q3 q4 q5 q6 q7 q8 ql G11 hinf hz0 hz1 hz2
          go_wp2
          go_roundg (gk - 1)
          case measure => omega
          case rel => exact ⟨i + 1, by simp, by omega, _, z, S', S', _, _, _, _, _, QN.out, SN.out⟩
        · by_cases hk4 : wk = 4
          · have b0 : (wk != 0) = true := by simp [hk0]
            have b4 : (wk != 4) = false := by simp [hk4]
            have b0' : (wk == 0) = false := by simp [hk0]
            have b4' : (wk == 4) = true := by simp [hk4]
            clear hk hk0 hk4
            go_upto_region 21 with (fail)
            clear r0' r1' rl' s0' s1' sl' hA8
            obtain ⟨w11, hw11⟩ : ∃ w', w' = w8.alloc (cqO ⟨0, op, arg, data, 0, 0, 0, dk, dv⟩) := ⟨_, rfl⟩
            have Y11 : Below w8.heap.size w8 w11 := by rw [hw11]; exact (Below.refl _ _).alloc (Nat.le_refl _) _
            have G11 : w11.heap[w8.heap.size]? = some (cqO ⟨0, op, arg, data, 0, 0, 0, dk, dv⟩) := by rw [hw11]; exact new_at _ _ _ rfl
            have hC11 := hC8.out.next Y11
            have hN11 := hN8.out.next Y11
            obtain ⟨i0, hinf, hz0, hz1, hz2⟩ := info_parts mp_call
            have hnews : ∀ ad, some (⟨w8.heap.size, 0, none⟩ : Addr) = some ad → ∀ j u, (Cq.row ⟨0, op, arg, data, 0, 0, 0, dk, dv⟩)[j]? = some u → w11.cell? (ad.add j) = some u := by
              rintro ad e j u hu
              cases e
              rw [add1, Nat.zero_add, cell_blk G11]
              simpa [Cq.row] using hu
            have hcl := hC11.cal
            have hLn : cs.length ≤ 1048576 := by have := hLi.out; omega
            obtain ⟨q0, q1, q2, q3, q4, q5, q6, q7, q8, ql⟩ := cq_cells B8.out.box
            simp only at q0 q1 q2 q3 q4 q5 q6 q7 q8
            clear Y11 hC8 hN8 B8
            replace hnews := Mr.hid hnews
            replace hcl := Mr.hid hcl
            replace hC11 := Mr.hid hC11
            replace hN11 := Mr.hid hN11
            replace G11 := Mr.hid G11
            replace hw11 := Mr.hid hw11
            go_upto_region 22 with (at_builtin; rw [show w8.alloc (.cells #[.int .i64 0, .int .i64 op, .int .i64 arg, .int .i64 data, .int .i64 0, .int .i64 0, .int .i64 0, .int .i64 dk, .int .i64 dv] 50 (0, 0)) = w11 from by rw [hw11.out]; rfl]; refine wpList_append_mine _ rfl (.tmp 102) (.tmp 104) 48 rfl S 50 i0 _ 9 72 Try.underlying48 hinf hz0 hz1 hz2 rfl (.slice ca cs.length cc) cs.length (cqs cs) rfl hcl.out (some ⟨w8.heap.size, 0, none⟩) 1 1 (Cq.row ⟨0, op, arg, data, 0, 0, 0, dk, dv⟩) rfl rfl (fun e => by cases e) hnews.out (by simp [Value.oneCell', Cq.row]) (by unfold maxLen; omega) (by omega) ?_; intro b' cap' w12 hown hfr; replace hown := Mr.hid hown; replace hfr := Mr.hid hfr)
            obtain ⟨S', hC12, hN12⟩ := hC11.out.more hN11.out hown.out hfr.out
            have SN := hC12.put hN12
            obtain ⟨e0, e1, e2, e3, e4, el⟩ := ctO_cells hN12.box
            obtain ⟨k0, k1, k2, k3, k4, kl⟩ := ctO_cells hC12.nb
            obtain ⟨d0, d1, d2, d3, d4⟩ := ctO_thaw hC12.nb
            unfold set5 at SN
            replace SN := Mr.hid SN
            clear hown hfr hC11 hN11 hC12 hN12 hw11 hnews hcl q0 q1 q2 q3 q4 q5 q6 q7 q8 ql G11 hinf hz0 hz1 hz2
            go_wp2
            go_roundg (gk - 1)
            case measure => omega
            case rel => exact ⟨i + 1, by simp, by omega, _, z, S', S', _, _, _, _, _, QN.out, SN.out⟩
          · have b0 : (wk != 0) = true := by simp [hk0]
            have b4 : (wk != 4) = true := by simp [hk4]
            have b0' : (wk == 0) = false := by simp [hk0]
            have b4' : (wk == 4) = false := by simp [hk4]
            go_upto_region 16 with (fail)
            obtain ⟨q0, q1, q2, q3, q4, q5, q6, q7, q8, ql⟩ := cq_cells B8.out.box
            simp only at q0 q1 q2 q3 q4 q5 q6 q7 q8
            obtain ⟨c7, c8⟩ := cq_thaw B8.out.box
            go_upto_region 17 with (fail)
            obtain ⟨hC9, hN9, hA9⟩ := hC8.out.fix (.inr rfl) n15.out hN8.out hA8.out h13 (set78_fr w8 b15 wk wv)
            have B9 := B8.out.set78 wk wv
            unfold set78 at hC9 hN9 hA9 B9
            clear hC8 hN8 hA8 B8 q0 q1 q2 q3 q4 q5 q6 q7 q8 ql c7 c8 r0' r1' rl' s0' s1' sl'
            generalize (w8.setCell { block := b15, off := 7 } (.int .i64 wk)).setCell { block := b15, off := 8 } (.int .i64 wv) = w9 at *
            obtain ⟨e0, e1, e2, e3, e4, el⟩ := ctO_cells hC9.nb
            obtain ⟨q0, q1, q2, q3, q4, q5, q6, q7, q8, ql⟩ := cq_cells B9.box
            simp only at q0 q1 q2 q3 q4 q5 q6 q7 q8
            have CA2 := CA.out _ _ hC9.nat wk wv
            rw [hAO.out wk wv hne hk0 hk4] at CA2
            simp only at CA2
            replace CA2 := Mr.hid CA2
            replace hC9 := Mr.hid hC9
            replace hN9 := Mr.hid hN9
            replace hA9 := Mr.hid hA9
            replace B9 := Mr.hid B9
            go_upto_region 20 with (go_at_call 17; refine CA2.out.mono ?_; clear CA2; rintro e w10 ⟨l0, l1, l2, l3, l4, rfl, hl, hB⟩; clear hl e0 e1 e2 e3 e4 el q0 q1 q2 q3 q4 q5 q6 q7 q8 ql; replace hB := Mr.hid hB)
            have hC10 := hC9.out.next hB.out
            have hN10 := hN9.out.next hB.out
            have hA10 := hA9.out.next hB.out
            have B10 := B9.out.next hB.out
            clear hC9 hN9 hA9 B9 hB
            obtain ⟨r0', r1', rl', -, -⟩ := ansO_cells hA10.box
            obtain ⟨q0, q1, q2, q3, q4, q5, q6, q7, q8, ql⟩ := cq_cells B10.box
            simp only at q0 q1 q2 q3 q4 q5 q6 q7 q8
            obtain ⟨c7, c8⟩ := cq_thaw B10.box
            replace hC10 := Mr.hid hC10
            replace hN10 := Mr.hid hN10
            replace hA10 := Mr.hid hA10
            replace B10 := Mr.hid B10
            go_upto_region 21 with (fail)
            obtain ⟨hC8, hN8, -⟩ := hC10.out.fix (.inr rfl) n15.out hN10.out hA10.out h13 (set78_fr w10 b15 dk dv)
            have B8 := B10.out.set78 dk dv
            unfold set78 at hC8 hN8 B8
            clear hC10 hN10 hA10 B10 q0 q1 q2 q3 q4 q5 q6 q7 q8 ql c7 c8 r0' r1' rl' w8
            generalize (w10.setCell { block := b15, off := 7 } (.int .i64 dk)).setCell { block := b15, off := 8 } (.int .i64 dv) = w8 at *
            replace hC8 := Mr.hid hC8
            replace hN8 := Mr.hid hN8
            replace B8 := Mr.hid B8
            obtain ⟨w11, hw11⟩ : ∃ w', w' = w8.alloc (cqO ⟨0, op, arg, data, 0, 0, 0, dk, dv⟩) := ⟨_, rfl⟩
            have Y11 : Below w8.heap.size w8 w11 := by rw [hw11]; exact (Below.refl _ _).alloc (Nat.le_refl _) _
            have G11 : w11.heap[w8.heap.size]? = some (cqO ⟨0, op, arg, data, 0, 0, 0, dk, dv⟩) := by rw [hw11]; exact new_at _ _ _ rfl
            have hC11 := hC8.out.next Y11
            have hN11 := hN8.out.next Y11
            obtain ⟨i0, hinf, hz0, hz1, hz2⟩ := info_parts mp_call
            have hnews : ∀ ad, some (⟨w8.heap.size, 0, none⟩ : Addr) = some ad → ∀ j u, (Cq.row ⟨0, op, arg, data, 0, 0, 0, dk, dv⟩)[j]? = some u → w11.cell? (ad.add j) = some u := by
              rintro ad e j u hu
              cases e
              rw [add1, Nat.zero_add, cell_blk G11]
              simpa [Cq.row] using hu
            have hcl := hC11.cal
            have hLn : cs.length ≤ 1048576 := by have := hLi.out; omega
            obtain ⟨q0, q1, q2, q3, q4, q5, q6, q7, q8, ql⟩ := cq_cells B8.out.box
            simp only at q0 q1 q2 q3 q4 q5 q6 q7 q8
            clear Y11 hC8 hN8 B8
            replace hnews := Mr.hid hnews
            replace hcl := Mr.hid hcl
            replace hC11 := Mr.hid hC11
            replace hN11 := Mr.hid hN11
            replace G11 := Mr.hid G11
            replace hw11 := Mr.hid hw11
            go_upto_region 22 with (at_builtin; rw [show w8.alloc (.cells #[.int .i64 0, .int .i64 op, .int .i64 arg, .int .i64 data, .int .i64 0, .int .i64 0, .int .i64 0, .int .i64 dk, .int .i64 dv] 50 (0, 0)) = w11 from by rw [hw11.out]; rfl]; refine wpList_append_mine _ rfl (.tmp 102) (.tmp 104) 48 rfl S 50 i0 _ 9 72 Try.underlying48 hinf hz0 hz1 hz2 rfl (.slice ca cs.length cc) cs.length (cqs cs) rfl hcl.out (some ⟨w8.heap.size, 0, none⟩) 1 1 (Cq.row ⟨0, op, arg, data, 0, 0, 0, dk, dv⟩) rfl rfl (fun e => by cases e) hnews.out (by simp [Value.oneCell', Cq.row]) (by unfold maxLen; omega) (by omega) ?_; intro b' cap' w12 hown hfr; replace hown := Mr.hid hown; replace hfr := Mr.hid hfr)
            obtain ⟨S', hC12, hN12⟩ := hC11.out.more hN11.out hown.out hfr.out
            have SN := hC12.put hN12
            obtain ⟨e0, e1, e2, e3, e4, el⟩ := ctO_cells hN12.box
            obtain ⟨k0, k1, k2, k3, k4, kl⟩ := ctO_cells hC12.nb
            obtain ⟨d0, d1, d2, d3, d4⟩ := ctO_thaw hC12.nb
            unfold set5 at SN
            replace SN := Mr.hid SN
            clear hown hfr hC11 hN11 hC12 hN12 hw11 hnews hcl q0 q1 q2 q3 q4 q5 q6 q7 q8 ql G11 hinf hz0 hz1 hz2
            go_wp2
            go_roundg (gk - 1)
            case measure => omega
            case rel => exact ⟨i + 1, by simp, by omega, _, z, S', S', _, _, _, _, _, QN.out, SN.out⟩
    · have hge : decide ((i : Int) < (n : Int)) = false := decide_eq_false (by omega)
      have hLi : cs.length * 72 ≤ 140737488355328 := by rw [hQ.len]; omega
      have sq : CtSm q := hQ.in_.sm (by omega)
      have CP := mPlay_any hC.sat (hy.out.mono (by omega)) hC.cal.sl hLi hm.out hQ.ops
      rw [hQ.pl] at CP
      simp only at CP
      obtain ⟨n0, r0, rfl, _⟩ := hC.nat.cell.form
      obtain ⟨n1, r1, rfl, _⟩ := hC.nat.stack.form
      obtain ⟨n2, r2, rfl, _⟩ := hC.nat.queue.form
      obtain ⟨n3, r3, rfl, _⟩ := hC.nat.set.form
      obtain ⟨n4, r4, rfl, _⟩ := hC.nat.table.form
      obtain ⟨ca, cc, rfl, hcc1, hcc2⟩ := hC.cal.form
      obtain ⟨e0, e1, e2, e3, e4, el⟩ := ctO_cells hC.sb
      clear hQ hLi
      replace CP := Mr.hid CP
      replace hC := Mr.hid hC
      replace sq := Mr.hid sq
      go_upto_region 25 with (go_at_call 18; refine CP.out.mono ?_; clear CP; rintro e w3 ⟨l0, l1, l2, l3, l4, rfl, hl, hB⟩; obtain ⟨f0, h0, rfl, _⟩ := hl.cell.form; obtain ⟨f1, h1, rfl, _⟩ := hl.stack.form; obtain ⟨f2, h2, rfl, _⟩ := hl.queue.form; obtain ⟨f3, h3, rfl, _⟩ := hl.set.form; obtain ⟨f4, h4, rfl, _⟩ := hl.table.form; clear e0 e1 e2 e3 e4 el; replace hl := Mr.hid hl; replace hB := Mr.hid hB)
      obtain ⟨w4, hM⟩ : ∃ w', w' = w3.alloc (ctO (.slice f0 q.cell.length h0) (.slice f1 q.stack.length h1) (.slice f2 q.queue.length h2) (.slice f3 q.set.length h3) (.slice f4 q.table.length h4)) := ⟨_, rfl⟩
      obtain ⟨Z, hL4⟩ := hC.out.made1 hM hB.out hl.out
      rw [show w3.alloc (.cells #[.slice f0 q.cell.length h0, .slice f1 q.stack.length h1, .slice f2 q.queue.length h2, .slice f3 q.set.length h3, .slice f4 q.table.length h4] 25 (0, 0)) = w4 from by rw [hM]; rfl]
      obtain ⟨b19, hb19⟩ : ∃ b, b = w3.heap.size := ⟨_, rfl⟩
      rw [← hb19] at hL4 ⊢
      have hC4 := hC.out.next Z
      clear hM hb19 hl hB hC Z
      obtain ⟨e0, e1, e2, e3, e4, el⟩ := ctO_cells hL4.box
      obtain ⟨k0, k1, k2, k3, k4, kl⟩ := ctO_cells hC4.nb
      have CS := mSame_any hL4.at_ hC4.nat sq.out sq.out
      rw [show ctB q q = true from by unfold ctB; simp] at CS
      replace CS := Mr.hid CS
      have hD : Hid (Bl w4 W) := Mr.hid ⟨hC4.bel⟩
      clear hL4 hC4
      go_wp2_with (first | (go_at_call 12; refine CS.out.mono ?_; clear CS; rintro e w8 ⟨rfl, hB⟩; have hD := Mr.hid (hD.out.next hB); clear hB) | (go_at_call 11; refine (awake_any _).mono ?_; rintro e w9 ⟨rfl, hB⟩; have hD := Mr.hid (hD.out.next hB); clear hB))
      go_ret
      exact ⟨rfl, hD.out.bel⟩
end Go.Proofs.Ytegbcocbopgghab.Md
