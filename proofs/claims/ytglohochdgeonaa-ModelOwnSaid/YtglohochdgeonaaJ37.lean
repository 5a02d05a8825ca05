import Derived.Test.YtglohochdgeonaaJ30
import Derived.Test.YtglohochdgeonaaJ32
import Derived.Test.YtglohochdgeonaaJ36
import Derived.Test.YtglohochdgeonaaJ16
import Derived.Test.YtglohochdgeonaaJ11
import Derived.Deep.RegionHeld3
/-
  ModelOwn: the walk.
-/
namespace Go.Proofs.Ytglohochdgeonaa.Md
open Go.RowKit Mr Me
set_option linter.unusedVariables false
set_option linter.unusedSimpArgs false
theorem rightedM {W w0 w1 wM : World} {u0 u1 u2 u3 u4 v0 v1 v2 v3 v4 : Value} {y : Ct} {th op arg data : Int} (h0 : w0 = (W.alloc (ctO u0 u1 u2 u3 u4)).alloc (mvO th op arg data)) (hM : wM = set5 w1 W.heap.size v0 v1 v2 v3 v4) (hB : Below w0.heap.size w0 w1) (hl : CtAt w1 (fun k => w0.heap.size ≤ k) v0 v1 v2 v3 v4 y) :
    Bl wM W ∧ Cb wM W.heap.size v0 v1 v2 v3 v4 y ∧ Mb wM (W.heap.size + 1) th op arg data ∧ w1.heap[W.heap.size]? = some (ctO u0 u1 u2 u3 u4) := by
  subst hM
  have B0 := ((Below.refl W.heap.size W).alloc (Nat.le_refl _) (ctO u0 u1 u2 u3 u4)).alloc (by simp) (mvO th op arg data)
  have g0 : w0.heap[W.heap.size]? = some (ctO u0 u1 u2 u3 u4) := by rw [h0]; exact old_at (new_at W _ _ rfl) _
  have g1 : w0.heap[W.heap.size + 1]? = some (mvO th op arg data) := by rw [h0]; exact new_at _ _ _ (by simp)
  rw [← h0] at B0
  have hs0 : W.heap.size < w0.heap.size := (Array.getElem?_eq_some_iff.1 g0).1
  have B1 := B0.trans (hB.mono B0.size)
  have k0 := (hB.block _ hs0).trans g0
  have k1 := (hB.block _ (Array.getElem?_eq_some_iff.1 g1).1).trans g1
  exact ⟨⟨set5_below v0 v1 v2 v3 v4 B1 (Nat.le_refl _)⟩, ⟨set5_at v0 v1 v2 v3 v4 k0, (hl.fr (set5_fr w1 W.heap.size v0 v1 v2 v3 v4) (fun k hk _ e => by subst e; omega)).mono (fun _ _ => trivial)⟩, ⟨(set5_far w1 W.heap.size v0 v1 v2 v3 v4 _ (by omega)).trans k1⟩, k0⟩
/-- An answer's contents in their box, of one's own. -/
structure Cz (w : World) (b lo hi : Nat) (lab : Nat → Nat) (v0 v1 v2 v3 v4 : Value) (x : Ct) : Prop where
  box : w.heap[b]? = some (ctO v0 v1 v2 v3 v4)
  oc : Oc w lo hi lab v0 v1 v2 v3 v4 x
theorem Cz.next {w w' : World} {b lo hi : Nat} {lab : Nat → Nat} {v0 v1 v2 v3 v4 : Value} {x : Ct} (h : Cz w b lo hi lab v0 v1 v2 v3 v4 x) (hB : Below w.heap.size w w') : Cz w' b lo hi lab v0 v1 v2 v3 v4 x :=
  ⟨(hB.block _ (Array.getElem?_eq_some_iff.1 h.box).1).trans h.box, h.oc.next hB⟩
/-- A part in its box, wherever the box was made. -/
structure Pz (y w : World) (b : Nat) (v0 v1 v2 v3 v4 : Value) (x : Ct) : Prop where
  bel : Below y.heap.size y w
  cz : ∃ lo hi lab, y.heap.size ≤ lo ∧ Cz w b lo hi lab v0 v1 v2 v3 v4 x
theorem Pz.one {y w4 : World} {lab : Nat → Nat} {v0 v1 v2 v3 v4 : Value} {x : Ct} {n : Nat} (hB : Below y.heap.size y w4) (h : CtOwn w4 n lab v0 v1 v2 v3 v4 x) (hn : y.heap.size ≤ n := by simp) : Pz y (w4.alloc (ctO v0 v1 v2 v3 v4)) w4.heap.size v0 v1 v2 v3 v4 x :=
  ⟨hB.alloc hB.size _, n, _, _, hn, new_at _ _ _ rfl, h.cut.next ((Below.refl _ _).alloc (Nat.le_refl _) _)⟩
theorem Pz.two {y w4 : World} {lab : Nat → Nat} {u0 u1 u2 u3 u4 v0 v1 v2 v3 v4 : Value} {x : Ct} {n : Nat} (hB : Below y.heap.size y w4) (hb : w4.heap[y.heap.size]? = some (ctO u0 u1 u2 u3 u4)) (h : CtOwn w4 n lab v0 v1 v2 v3 v4 x) (hn : y.heap.size < n) : Pz y (set5 w4 y.heap.size v0 v1 v2 v3 v4) y.heap.size v0 v1 v2 v3 v4 x :=
  ⟨set5_below _ _ _ _ _ hB (Nat.le_refl _), n, _, _, Nat.le_of_lt hn, set5_at _ _ _ _ _ hb, h.cut.fr (set5_fr w4 y.heap.size _ _ _ _ _) (fun k hk e => by have := h.cut.own.low k hk; omega)⟩
set_option maxRecDepth 100000 in
set_option maxHeartbeats 64000000 in
theorem walk_own (u0 u1 u2 u3 u4 : Value) (x : Ct) (th op0 arg data : Int) (W : World) (hu : CtAt W (fun _ => True) u0 u1 u2 u3 u4 x) (hx : CtIn 140737488351232 x) :
    Calls Try.prog 3 #[.agg #[u0, u1, u2, u3, u4], .agg #[.int .i64 th, .int .i64 op0, .int .i64 arg, .int .i64 data]] W fun e w' => e = .returned (.bool true) ∧ Below W.heap.size W w' := by
  obtain ⟨y, hm, hy, CRT⟩ := right_any hx
  obtain ⟨op, hop, CP⟩ := pick_any op0
  have hyi := hy.mono (show 140737488351232 ≤ 225000000000000 by decide)
  obtain ⟨a0, c0, rfl, _⟩ := hu.cell.form
  obtain ⟨a1, c1, rfl, _⟩ := hu.stack.form
  obtain ⟨a2, c2, rfl, _⟩ := hu.queue.form
  obtain ⟨a3, c3, rfl, _⟩ := hu.set.form
  obtain ⟨a4, c4, rfl, _⟩ := hu.table.form
  obtain ⟨dk, dv, hdk⟩ : ∃ k v, dan y op arg = (k, v) := ⟨_, _, rfl⟩
  obtain ⟨z, hz⟩ : ∃ z, z = dnx y op arg data := ⟨_, rfl⟩
  obtain ⟨w0, hw0⟩ : ∃ w0, w0 = (W.alloc (ctO (.slice a0 x.cell.length c0) (.slice a1 x.stack.length c1) (.slice a2 x.queue.length c2) (.slice a3 x.set.length c3) (.slice a4 x.table.length c4))).alloc (mvO th op0 arg data) := ⟨_, rfl⟩
  have U0 : CtAt w0 (fun _ => True) (.slice a0 x.cell.length c0) (.slice a1 x.stack.length c1) (.slice a2 x.queue.length c2) (.slice a3 x.set.length c3) (.slice a4 x.table.length c4) x := by rw [hw0]; exact hu.below (((Below.refl W.heap.size W).alloc (Nat.le_refl _) _).alloc (by simp) _)
  have hg0 : w0.heap[W.heap.size]? = some (ctO (.slice a0 x.cell.length c0) (.slice a1 x.stack.length c1) (.slice a2 x.queue.length c2) (.slice a3 x.set.length c3) (.slice a4 x.table.length c4)) := by rw [hw0]; exact old_at (new_at W _ _ rfl) _
  clear hu
  replace CRT := Mr.hid CRT
  replace CP := Mr.hid CP
  replace hm := Mr.hid hm
  replace hy := Mr.hid hy
  replace hyi := Mr.hid hyi
  replace hop := Mr.hid hop
  replace hdk := Mr.hid hdk
  replace hz := Mr.hid hz
  replace U0 := Mr.hid U0
  replace hw0 := Mr.hid hw0
  replace hg0 := Mr.hid hg0
  go_enter Try.func3, Try.ntmps3
  go_upto_region 1 with (fail)
  rw [show (W.alloc (.cells #[.slice a0 x.cell.length c0, .slice a1 x.stack.length c1, .slice a2 x.queue.length c2, .slice a3 x.set.length c3, .slice a4 x.table.length c4] 25 (0, 0))).alloc (.cells #[.int .i64 th, .int .i64 op0, .int .i64 arg, .int .i64 data] 28 (0, 0)) = w0 from by rw [hw0.out]; rfl]
  obtain ⟨e0, e1, e2, e3, e4, el⟩ := ctO_cells hg0.out
  clear hg0
  go_upto_region 2 with (go_at_call 4; refine (CRT.out _ _ _ _ _ _ _ U0.out).mono ?_; clear CRT U0; rintro e w1 ⟨v0, v1, v2, v3, v4, rfl, hv, hB1⟩; obtain ⟨hD, hS, hV, hg⟩ := rightedM (u0 := (.slice a0 x.cell.length c0)) (u1 := (.slice a1 x.stack.length c1)) (u2 := (.slice a2 x.queue.length c2)) (u3 := (.slice a3 x.set.length c3)) (u4 := (.slice a4 x.table.length c4)) hw0.out rfl hB1 hv; clear hB1 e0 e1 e2 e3 e4 el; obtain ⟨s0, t0, rfl, _⟩ := hv.cell.form; obtain ⟨s1, t1, rfl, _⟩ := hv.stack.form; obtain ⟨s2, t2, rfl, _⟩ := hv.queue.form; obtain ⟨s3, t3, rfl, _⟩ := hv.set.form; obtain ⟨s4, t4, rfl, _⟩ := hv.table.form; clear hv; obtain ⟨k0, k1, k2, k3, k4, kl⟩ := ctO_cells hg; obtain ⟨f0, f1, f2, f3, f4⟩ := ctO_thaw hg; clear hg; replace hD := Mr.hid hD; replace hS := Mr.hid hS; replace hV := Mr.hid hV)
  clear k0 k1 k2 k3 k4 kl f0 f1 f2 f3 f4 hw0
  replace hD := hD.out
  replace hS := hS.out
  replace hV := hV.out
  conv at hD => arg 1; unfold set5
  conv at hS => arg 1; unfold set5
  conv at hV => arg 1; unfold set5
  generalize (((((w1.setCell { block := W.heap.size, off := 0 } (.slice s0 y.cell.length t0)).setCell { block := W.heap.size, off := 1 } (.slice s1 y.stack.length t1)).setCell { block := W.heap.size, off := 2 } (.slice s2 y.queue.length t2)).setCell { block := W.heap.size, off := 3 } (.slice s3 y.set.length t3)).setCell { block := W.heap.size, off := 4 } (.slice s4 y.table.length t4)) = x0 at *
  clear w1 w0
  obtain ⟨m1, m2, m3, ml⟩ := mvO_cells hV.box
  replace hD := Mr.hid hD
  replace hS := Mr.hid hS
  replace hV := Mr.hid hV
  go_upto_region 3 with (go_at_call 5; refine (CP.out _).mono ?_; clear CP; rintro e x1 ⟨rfl, hB⟩; have hD := Mr.hid (hD.out.next hB); have hS := Mr.hid (hS.out.next hB); have hV := Mr.hid (hV.out.next hB); clear hB m1 m2 m3 ml)
  obtain ⟨e0, e1, e2, e3, e4, el⟩ := ctO_cells hS.out.box
  have C := Mr.hid (rCopy_any hS.out.at_ hyi.out)
  go_upto_region 4 with (go_at_call 6; refine C.out.mono ?_; clear C; rintro e w2 ⟨k0, k1, k2, k3, k4, rfl, hl, hB⟩; obtain ⟨p0, q0, rfl, _⟩ := hl.cell.form; obtain ⟨p1, q1, rfl, _⟩ := hl.stack.form; obtain ⟨p2, q2, rfl, _⟩ := hl.queue.form; obtain ⟨p3, q3, rfl, _⟩ := hl.set.form; obtain ⟨p4, q4, rfl, _⟩ := hl.table.form; clear e0 e1 e2 e3 e4 el; replace hl := Mr.hid hl; replace hB := Mr.hid hB)
  obtain ⟨x2, hM⟩ : ∃ w', w' = w2.alloc (ctO (.slice p0 y.cell.length q0) (.slice p1 y.stack.length q1) (.slice p2 y.queue.length q2) (.slice p3 y.set.length q3) (.slice p4 y.table.length q4)) := ⟨_, rfl⟩
  obtain ⟨Z, hK⟩ := made1 hM hB.out hl.out
  rw [show w2.alloc (.cells #[.slice p0 y.cell.length q0, .slice p1 y.stack.length q1, .slice p2 y.queue.length q2, .slice p3 y.set.length q3, .slice p4 y.table.length q4] 25 (0, 0)) = x2 from by rw [hM]; rfl]
  obtain ⟨bk, hbk⟩ : ∃ b, b = w2.heap.size := ⟨_, rfl⟩
  rw [← hbk] at hK ⊢
  have hD := Mr.hid (hD.out.next Z)
  have hS := Mr.hid (hS.out.next Z)
  have hV := Mr.hid (hV.out.next Z)
  replace hK := Mr.hid hK
  clear hM hbk hl hB Z
  have hSl := Mr.hid (Lw.of hS.out.box hS.out.at_)
  have hKl := Mr.hid (Lw.of hK.out.box hK.out.at_)
  obtain ⟨e0, e1, e2, e3, e4, el⟩ := ctO_cells hS.out.box
  obtain ⟨m1, m2, m3, ml⟩ := mvO_cells hV.out.box
  have C := (pDo_any hS.out.at_ hyi.out hm.out op arg data hop.out)
  rw [hdk.out, ← hz.out] at C
  simp only at C
  replace C := Mr.hid C
  go_upto_region 5 with (go_at_call 7; refine C.out.mono ?_; clear C; rintro e wA ⟨l0, l1, l2, l3, l4, lab, rfl, hl, hB⟩; unfold ans; obtain ⟨vA0, hA0, rfl, _, _⟩ := hl.cell.form; obtain ⟨vA1, hA1, rfl, _, _⟩ := hl.stack.form; obtain ⟨vA2, hA2, rfl, _, _⟩ := hl.queue.form; obtain ⟨vA3, hA3, rfl, _, _⟩ := hl.set.form; obtain ⟨vA4, hA4, rfl, _, _⟩ := hl.table.form; clear e0 e1 e2 e3 e4 el m1 m2 m3 ml; replace hl := Mr.hid hl; replace hB := Mr.hid hB)
  obtain ⟨yA, hM⟩ : ∃ w', w' = (wA.alloc (ctO (.slice vA0 z.cell.length hA0) (.slice vA1 z.stack.length hA1) (.slice vA2 z.queue.length hA2) (.slice vA3 z.set.length hA3) (.slice vA4 z.table.length hA4))).alloc (ansO dk dv) := ⟨_, rfl⟩
  obtain ⟨Z, bx, laA, oc⟩ := oc_made2 hM hB.out hl.out
  rw [show (wA.alloc (.cells #[.slice vA0 z.cell.length hA0, .slice vA1 z.stack.length hA1, .slice vA2 z.queue.length hA2, .slice vA3 z.set.length hA3, .slice vA4 z.table.length hA4] 25 (0, 0))).alloc (.cells #[.int .i64 dk, .int .i64 dv] 33 (0, 0)) = yA from by rw [hM]; rfl]
  obtain ⟨bA, hb⟩ : ∃ b, b = wA.heap.size := ⟨_, rfl⟩
  rw [← hb] at bx oc ⊢
  have zA := Mr.hid (Cz.mk bx oc)
  have tpA := Mr.hid zA.out.oc.top
  have lhA := hB.out.size
  rw [← hb] at lhA
  replace lhA := Mr.hid lhA
  replace hD := Mr.hid (hD.out.next Z)
  replace hS := Mr.hid (hS.out.next Z)
  replace hV := Mr.hid (hV.out.next Z)
  replace hK := Mr.hid (hK.out.next Z)
  replace hSl := Mr.hid (hSl.out.next Z)
  replace hKl := Mr.hid (hKl.out.next Z)
  clear hM hb hl hB Z bx oc
  obtain ⟨e0, e1, e2, e3, e4, el⟩ := ctO_cells hS.out.box
  obtain ⟨m1, m2, m3, ml⟩ := mvO_cells hV.out.box
  have C := (pDo_any hS.out.at_ hyi.out hm.out op arg data hop.out)
  rw [hdk.out, ← hz.out] at C
  simp only at C
  replace C := Mr.hid C
  go_upto_region 6 with (go_at_call 7; refine C.out.mono ?_; clear C; rintro e wB ⟨l0, l1, l2, l3, l4, lab, rfl, hl, hB⟩; unfold ans; obtain ⟨vB0, hB0, rfl, _, _⟩ := hl.cell.form; obtain ⟨vB1, hB1, rfl, _, _⟩ := hl.stack.form; obtain ⟨vB2, hB2, rfl, _, _⟩ := hl.queue.form; obtain ⟨vB3, hB3, rfl, _, _⟩ := hl.set.form; obtain ⟨vB4, hB4, rfl, _, _⟩ := hl.table.form; clear e0 e1 e2 e3 e4 el m1 m2 m3 ml; replace hl := Mr.hid hl; replace hB := Mr.hid hB)
  obtain ⟨yB, hM⟩ : ∃ w', w' = (wB.alloc (ctO (.slice vB0 z.cell.length hB0) (.slice vB1 z.stack.length hB1) (.slice vB2 z.queue.length hB2) (.slice vB3 z.set.length hB3) (.slice vB4 z.table.length hB4))).alloc (ansO dk dv) := ⟨_, rfl⟩
  obtain ⟨Z, bx, laB, oc⟩ := oc_made2 hM hB.out hl.out
  rw [show (wB.alloc (.cells #[.slice vB0 z.cell.length hB0, .slice vB1 z.stack.length hB1, .slice vB2 z.queue.length hB2, .slice vB3 z.set.length hB3, .slice vB4 z.table.length hB4] 25 (0, 0))).alloc (.cells #[.int .i64 dk, .int .i64 dv] 33 (0, 0)) = yB from by rw [hM]; rfl]
  obtain ⟨bB, hb⟩ : ∃ b, b = wB.heap.size := ⟨_, rfl⟩
  rw [← hb] at bx oc ⊢
  have zB := Mr.hid (Cz.mk bx oc)
  have tpB := Mr.hid zB.out.oc.top
  have lhB := hB.out.size
  rw [← hb] at lhB
  replace lhB := Mr.hid lhB
  replace hD := Mr.hid (hD.out.next Z)
  replace hS := Mr.hid (hS.out.next Z)
  replace hV := Mr.hid (hV.out.next Z)
  replace hK := Mr.hid (hK.out.next Z)
  replace hSl := Mr.hid (hSl.out.next Z)
  replace hKl := Mr.hid (hKl.out.next Z)
  replace zA := Mr.hid (zA.out.next Z)
  clear hM hb hl hB Z bx oc
  obtain ⟨e0, e1, e2, e3, e4, el⟩ := ctO_cells hS.out.box
  obtain ⟨m1, m2, m3, ml⟩ := mvO_cells hV.out.box
  have C := (pAllows_any hS.out.at_ hyi.out hm.out ⟨0, op, arg, data, 0, 0, 0, 0, 0⟩ hop.out)
  rw [show alw y ⟨0, op, arg, data, 0, 0, 0, 0, 0⟩ = (z, true) from by rw [hz.out]; rfl] at C
  simp only at C
  replace C := Mr.hid C
  go_upto_region 7 with (go_at_call 8; refine C.out.mono ?_; clear C; rintro e wC ⟨l0, l1, l2, l3, l4, lab, rfl, hl, hB⟩; obtain ⟨vC0, hC0, rfl, _, _⟩ := hl.cell.form; obtain ⟨vC1, hC1, rfl, _, _⟩ := hl.stack.form; obtain ⟨vC2, hC2, rfl, _, _⟩ := hl.queue.form; obtain ⟨vC3, hC3, rfl, _, _⟩ := hl.set.form; obtain ⟨vC4, hC4, rfl, _, _⟩ := hl.table.form; clear e0 e1 e2 e3 e4 el m1 m2 m3 ml; replace hl := Mr.hid hl; replace hB := Mr.hid hB)
  obtain ⟨yC, hM⟩ : ∃ w', w' = wC.alloc (ctO (.slice vC0 z.cell.length hC0) (.slice vC1 z.stack.length hC1) (.slice vC2 z.queue.length hC2) (.slice vC3 z.set.length hC3) (.slice vC4 z.table.length hC4)) := ⟨_, rfl⟩
  obtain ⟨Z, bx, laC, oc⟩ := oc_made hM hB.out hl.out
  rw [show wC.alloc (.cells #[.slice vC0 z.cell.length hC0, .slice vC1 z.stack.length hC1, .slice vC2 z.queue.length hC2, .slice vC3 z.set.length hC3, .slice vC4 z.table.length hC4] 25 (0, 0)) = yC from by rw [hM]; rfl]
  obtain ⟨bC, hb⟩ : ∃ b, b = wC.heap.size := ⟨_, rfl⟩
  rw [← hb] at bx oc ⊢
  have zC := Mr.hid (Cz.mk bx oc)
  have tpC := Mr.hid zC.out.oc.top
  have lhC := hB.out.size
  rw [← hb] at lhC
  replace lhC := Mr.hid lhC
  replace hD := Mr.hid (hD.out.next Z)
  replace hS := Mr.hid (hS.out.next Z)
  replace hV := Mr.hid (hV.out.next Z)
  replace hK := Mr.hid (hK.out.next Z)
  replace hSl := Mr.hid (hSl.out.next Z)
  replace hKl := Mr.hid (hKl.out.next Z)
  replace zA := Mr.hid (zA.out.next Z)
  replace zB := Mr.hid (zB.out.next Z)
  clear hM hb hl hB Z bx oc
  obtain ⟨e0, e1, e2, e3, e4, el⟩ := ctO_cells hS.out.box
  obtain ⟨m1, m2, m3, ml⟩ := mvO_cells hV.out.box
  have C := (pAllows_any hS.out.at_ hyi.out hm.out ⟨0, 30, 1, 0, 0, 0, 0, 4, 0⟩ (by decide))
  rw [show alw y ⟨0, 30, 1, 0, 0, 0, 0, 4, 0⟩ = (y, true) from by unfold alw fullOp; simp] at C
  simp only at C
  replace C := Mr.hid C
  go_upto_region 8 with (go_at_call 8; refine C.out.mono ?_; clear C; rintro e wD ⟨l0, l1, l2, l3, l4, lab, rfl, hl, hB⟩; obtain ⟨vD0, hD0, rfl, _, _⟩ := hl.cell.form; obtain ⟨vD1, hD1, rfl, _, _⟩ := hl.stack.form; obtain ⟨vD2, hD2, rfl, _, _⟩ := hl.queue.form; obtain ⟨vD3, hD3, rfl, _, _⟩ := hl.set.form; obtain ⟨vD4, hD4, rfl, _, _⟩ := hl.table.form; clear e0 e1 e2 e3 e4 el m1 m2 m3 ml; replace hl := Mr.hid hl; replace hB := Mr.hid hB)
  obtain ⟨yD, hM⟩ : ∃ w', w' = wD.alloc (ctO (.slice vD0 y.cell.length hD0) (.slice vD1 y.stack.length hD1) (.slice vD2 y.queue.length hD2) (.slice vD3 y.set.length hD3) (.slice vD4 y.table.length hD4)) := ⟨_, rfl⟩
  obtain ⟨Z, bx, laD, oc⟩ := oc_made hM hB.out hl.out
  rw [show wD.alloc (.cells #[.slice vD0 y.cell.length hD0, .slice vD1 y.stack.length hD1, .slice vD2 y.queue.length hD2, .slice vD3 y.set.length hD3, .slice vD4 y.table.length hD4] 25 (0, 0)) = yD from by rw [hM]; rfl]
  obtain ⟨bD, hb⟩ : ∃ b, b = wD.heap.size := ⟨_, rfl⟩
  rw [← hb] at bx oc ⊢
  have zD := Mr.hid (Cz.mk bx oc)
  have tpD := Mr.hid zD.out.oc.top
  have lhD := hB.out.size
  rw [← hb] at lhD
  replace lhD := Mr.hid lhD
  replace hD := Mr.hid (hD.out.next Z)
  replace hS := Mr.hid (hS.out.next Z)
  replace hV := Mr.hid (hV.out.next Z)
  replace hK := Mr.hid (hK.out.next Z)
  replace hSl := Mr.hid (hSl.out.next Z)
  replace hKl := Mr.hid (hKl.out.next Z)
  replace zA := Mr.hid (zA.out.next Z)
  replace zB := Mr.hid (zB.out.next Z)
  replace zC := Mr.hid (zC.out.next Z)
  clear hM hb hl hB Z bx oc
  have ob := obj_in hop.out
  obtain ⟨pp, hpp⟩ : ∃ p, p = prt y (obj op) := ⟨_, rfl⟩
  have CO := Mr.hid (mObj op)
  have CPt := fun w' (h : Below yD.heap.size yD w') => pPart_any (hS.out.next h).at_ hyi.out hm.out (obj op) ob.1 ob.2
  rw [← hpp] at CPt
  replace CPt := Mr.hid CPt
  replace hpp := Mr.hid hpp
  replace ob := Mr.hid ob
  have hwy : W.heap.size < yD.heap.size := (Array.getElem?_eq_some_iff.1 hS.out.box).1
  obtain ⟨e0, e1, e2, e3, e4, el⟩ := ctO_cells hS.out.box
  go_cut [19, 20] from 78 to 84 (fun s19 s20 wx => ∃ (b : Nat) (v0 v1 v2 v3 v4 : Value), s19 = .pointer (some ⟨b, 0, none⟩) ∧ s20 = .int .i64 0 ∧ Pz yD wx b v0 v1 v2 v3 v4 pp)
  case first =>
    go_region_held3 (fun w' => w'.cell? ⟨W.heap.size, 0, none⟩ = some (.slice s0 y.cell.length t0) ∧ w'.cell? ⟨W.heap.size, 1, none⟩ = some (.slice s1 y.stack.length t1) ∧ w'.cell? ⟨W.heap.size, 2, none⟩ = some (.slice s2 y.queue.length t2) ∧ w'.cell? ⟨W.heap.size, 3, none⟩ = some (.slice s3 y.set.length t3) ∧ w'.cell? ⟨W.heap.size, 4, none⟩ = some (.slice s4 y.table.length t4)) (first | with_reducible exact K5.out | go_keep) (first | (go_at_call 10; refine (CO.out _).mono ?_; rintro e xO ⟨rfl, rfl⟩) | (go_at_call 9; refine (CPt.out _ (Below.refl _ _).drew).mono ?_; rintro e w4 ⟨v0, v1, v2, v3, v4, lab, rfl, hat4, hB4⟩; have B4 : Below yD.heap.size yD w4 := (((Below.refl _ _).drew).trans hB4); obtain ⟨x0, j0, rfl, _, _⟩ := hat4.cell.form; obtain ⟨x1, j1, rfl, _, _⟩ := hat4.stack.form; obtain ⟨x2, j2, rfl, _, _⟩ := hat4.queue.form; obtain ⟨x3, j3, rfl, _, _⟩ := hat4.set.form; obtain ⟨x4, j4, rfl, _, _⟩ := hat4.table.form; obtain ⟨k0, k1, k2, k3, k4, kl4⟩ := ctO_cells (hS.out.next B4).box; have E5 := Pz.one B4 hat4; clear hat4 hB4; unfold ctO at E5; replace E5 := Mr.hid E5; replace B4 := Mr.hid B4) | (go_at_call 9; refine (CPt.out _ ((Below.refl _ _).alloc (Nat.le_refl _) _).drew).mono ?_; rintro e w4 ⟨v0, v1, v2, v3, v4, lab, rfl, hat4, hB4⟩; have B4 : Below yD.heap.size yD w4 := (((Below.refl _ _).alloc (Nat.le_refl _) _).drew.trans (hB4.mono (by simp))); have bx4 := (hB4.block yD.heap.size (by simp)).trans (new_at yD nil5 _ rfl); obtain ⟨h0, h1, h2, h3, h4, hl4⟩ := ctO_cells bx4; obtain ⟨f0, f1, f2, f3, f4⟩ := ctO_thaw bx4; obtain ⟨x0, j0, rfl, _, _⟩ := hat4.cell.form; obtain ⟨x1, j1, rfl, _, _⟩ := hat4.stack.form; obtain ⟨x2, j2, rfl, _, _⟩ := hat4.queue.form; obtain ⟨x3, j3, rfl, _, _⟩ := hat4.set.form; obtain ⟨x4, j4, rfl, _, _⟩ := hat4.table.form; obtain ⟨k0, k1, k2, k3, k4, kl4⟩ := ctO_cells (hS.out.next B4).box; have E5 := Pz.two B4 bx4 hat4 (by simp); have K5 := And.intro (far5 (b := yD.heap.size) (v0 := (.slice x0 pp.cell.length j0)) (v1 := (.slice x1 pp.stack.length j1)) (v2 := (.slice x2 pp.queue.length j2)) (v3 := (.slice x3 pp.set.length j3)) (v4 := (.slice x4 pp.table.length j4)) k0 (by omega)) (And.intro (far5 (b := yD.heap.size) (v0 := (.slice x0 pp.cell.length j0)) (v1 := (.slice x1 pp.stack.length j1)) (v2 := (.slice x2 pp.queue.length j2)) (v3 := (.slice x3 pp.set.length j3)) (v4 := (.slice x4 pp.table.length j4)) k1 (by omega)) (And.intro (far5 (b := yD.heap.size) (v0 := (.slice x0 pp.cell.length j0)) (v1 := (.slice x1 pp.stack.length j1)) (v2 := (.slice x2 pp.queue.length j2)) (v3 := (.slice x3 pp.set.length j3)) (v4 := (.slice x4 pp.table.length j4)) k2 (by omega)) (And.intro (far5 (b := yD.heap.size) (v0 := (.slice x0 pp.cell.length j0)) (v1 := (.slice x1 pp.stack.length j1)) (v2 := (.slice x2 pp.queue.length j2)) (v3 := (.slice x3 pp.set.length j3)) (v4 := (.slice x4 pp.table.length j4)) k3 (by omega)) (far5 (b := yD.heap.size) (v0 := (.slice x0 pp.cell.length j0)) (v1 := (.slice x1 pp.stack.length j1)) (v2 := (.slice x2 pp.queue.length j2)) (v3 := (.slice x3 pp.set.length j3)) (v4 := (.slice x4 pp.table.length j4)) k4 (by omega))))); unfold set5 at K5; replace K5 := Mr.hid K5; clear hat4 bx4 hB4; unfold set5 at E5; replace E5 := Mr.hid E5; replace B4 := Mr.hid B4))
    all_goals
      go_wp2
      go_meet
      case rel => exact ⟨_, _, _, _, _, _, rfl, rfl, E5.out⟩
  case rest =>
    obtain ⟨bP, vP0, vP1, vP2, vP3, vP4, rfl, rfl, hPz⟩ := hcut
    clear CO CPt e0 e1 e2 e3 e4 el
    have Z := hPz.bel
    replace hD := Mr.hid (hD.out.next Z)
    replace hS := Mr.hid (hS.out.next Z)
    replace hV := Mr.hid (hV.out.next Z)
    replace hK := Mr.hid (hK.out.next Z)
    replace hSl := Mr.hid (hSl.out.next Z)
    replace hKl := Mr.hid (hKl.out.next Z)
    replace zA := Mr.hid (zA.out.next Z)
    replace zB := Mr.hid (zB.out.next Z)
    replace zC := Mr.hid (zC.out.next Z)
    replace zD := Mr.hid (zD.out.next Z)
    obtain ⟨loP, hiP, laP, hloP, hzP⟩ := hPz.cz
    have zP := Mr.hid hzP
    have tpP := Mr.hid hzP.oc.top
    replace hloP := Mr.hid hloP
    have hbP := Mr.hid Z.size
    clear Z hzP hPz
    obtain ⟨xP0, jP0, rfl, _, _⟩ := zP.out.oc.own.cell.form
    obtain ⟨xP1, jP1, rfl, _, _⟩ := zP.out.oc.own.stack.form
    obtain ⟨xP2, jP2, rfl, _, _⟩ := zP.out.oc.own.queue.form
    obtain ⟨xP3, jP3, rfl, _, _⟩ := zP.out.oc.own.set.form
    obtain ⟨xP4, jP4, rfl, _, _⟩ := zP.out.oc.own.table.form
    obtain ⟨e0, e1, e2, e3, e4, el⟩ := ctO_cells hS.out.box
    obtain ⟨m1, m2, m3, ml⟩ := mvO_cells hV.out.box
    have C := (pPlay_any (cs := []) (T := fun _ => True) (uc := .slice none 0 0) hS.out.at_ (hy.out.mono (by decide)) (Sl.nil _ _ _) (by simp) hm.out (by simp))
    rw [show plays y [] 0 = (y, -1) from rfl] at C
    simp only at C
    replace C := Mr.hid C
    go_upto_region 10 with (go_at_call 11; refine C.out.mono ?_; clear C; rintro e wE ⟨l0, l1, l2, l3, l4, lab, rfl, hl, hB⟩; obtain ⟨vE0, hE0, rfl, _, _⟩ := hl.cell.form; obtain ⟨vE1, hE1, rfl, _, _⟩ := hl.stack.form; obtain ⟨vE2, hE2, rfl, _, _⟩ := hl.queue.form; obtain ⟨vE3, hE3, rfl, _, _⟩ := hl.set.form; obtain ⟨vE4, hE4, rfl, _, _⟩ := hl.table.form; clear e0 e1 e2 e3 e4 el m1 m2 m3 ml; replace hl := Mr.hid hl; replace hB := Mr.hid hB)
    obtain ⟨yE, hM⟩ : ∃ w', w' = wE.alloc (ctO (.slice vE0 y.cell.length hE0) (.slice vE1 y.stack.length hE1) (.slice vE2 y.queue.length hE2) (.slice vE3 y.set.length hE3) (.slice vE4 y.table.length hE4)) := ⟨_, rfl⟩
    obtain ⟨Z, bx, laE, oc⟩ := oc_made hM hB.out hl.out
    rw [show wE.alloc (.cells #[.slice vE0 y.cell.length hE0, .slice vE1 y.stack.length hE1, .slice vE2 y.queue.length hE2, .slice vE3 y.set.length hE3, .slice vE4 y.table.length hE4] 25 (0, 0)) = yE from by rw [hM]; rfl]
    obtain ⟨bE, hb⟩ : ∃ b, b = wE.heap.size := ⟨_, rfl⟩
    rw [← hb] at bx oc ⊢
    have zE := Mr.hid (Cz.mk bx oc)
    have tpE := Mr.hid zE.out.oc.top
    have lhE := hB.out.size
    rw [← hb] at lhE
    replace lhE := Mr.hid lhE
    replace hD := Mr.hid (hD.out.next Z)
    replace hS := Mr.hid (hS.out.next Z)
    replace hV := Mr.hid (hV.out.next Z)
    replace hK := Mr.hid (hK.out.next Z)
    replace hSl := Mr.hid (hSl.out.next Z)
    replace hKl := Mr.hid (hKl.out.next Z)
    replace zA := Mr.hid (zA.out.next Z)
    replace zB := Mr.hid (zB.out.next Z)
    replace zC := Mr.hid (zC.out.next Z)
    replace zD := Mr.hid (zD.out.next Z)
    replace zP := Mr.hid (zP.out.next Z)
    clear hM hb hl hB Z bx oc
    have CW := Mr.hid (fun w => awake_any w)
    go_upto_region 12 with (go_at_call 12; refine (CW.out _).mono ?_; clear CW; rintro e w10 ⟨rfl, hB10⟩; replace hB10 := Mr.hid hB10)
    replace hD := Mr.hid (hD.out.next hB10.out)
    replace hS := Mr.hid (hS.out.next hB10.out)
    replace hV := Mr.hid (hV.out.next hB10.out)
    replace hK := Mr.hid (hK.out.next hB10.out)
    replace hSl := Mr.hid (hSl.out.next hB10.out)
    replace hKl := Mr.hid (hKl.out.next hB10.out)
    replace zA := Mr.hid (zA.out.next hB10.out)
    replace zB := Mr.hid (zB.out.next hB10.out)
    replace zC := Mr.hid (zC.out.next hB10.out)
    replace zD := Mr.hid (zD.out.next hB10.out)
    replace zP := Mr.hid (zP.out.next hB10.out)
    replace zE := Mr.hid (zE.out.next hB10.out)
    have tp10 := Mr.hid hB10.out.size
    clear hB10
    have zin := Mr.hid (show CtIn 225000000000000 z by rw [hz.out]; exact (dnx_in hy.out op arg data).mono (by decide))
    have pin := Mr.hid (show CtIn 225000000000000 pp by rw [hpp.out]; exact prt_inA hyi.out (obj op))
    have CA := Mr.hid (fun w' (hB : Below w10.heap.size w10 w') => rCopy_any (zA.out.oc.next hB).at zin.out)
    obtain ⟨cA0, cA1, cA2, cA3, cA4, clA⟩ := ctO_cells zA.out.box
    have CB := Mr.hid (fun w' (hB : Below w10.heap.size w10 w') => rCopy_any (zB.out.oc.next hB).at zin.out)
    obtain ⟨cB0, cB1, cB2, cB3, cB4, clB⟩ := ctO_cells zB.out.box
    have CC := Mr.hid (fun w' (hB : Below w10.heap.size w10 w') => rCopy_any (zC.out.oc.next hB).at zin.out)
    obtain ⟨cC0, cC1, cC2, cC3, cC4, clC⟩ := ctO_cells zC.out.box
    have CD := Mr.hid (fun w' (hB : Below w10.heap.size w10 w') => rCopy_any (zD.out.oc.next hB).at hyi.out)
    obtain ⟨cD0, cD1, cD2, cD3, cD4, clD⟩ := ctO_cells zD.out.box
    have CP := Mr.hid (fun w' (hB : Below w10.heap.size w10 w') => rCopy_any (zP.out.oc.next hB).at pin.out)
    obtain ⟨cP0, cP1, cP2, cP3, cP4, clP⟩ := ctO_cells zP.out.box
    have CE := Mr.hid (fun w' (hB : Below w10.heap.size w10 w') => rCopy_any (zE.out.oc.next hB).at hyi.out)
    obtain ⟨cE0, cE1, cE2, cE3, cE4, clE⟩ := ctO_cells zE.out.box
    have KSf : Hid (∀ w', Below w10.heap.size w10 w' → w'.cell? ⟨bA, 0, none⟩ = some (.slice vA0 z.cell.length hA0) ∧ w'.cell? ⟨bA, 1, none⟩ = some (.slice vA1 z.stack.length hA1) ∧ w'.cell? ⟨bA, 2, none⟩ = some (.slice vA2 z.queue.length hA2) ∧ w'.cell? ⟨bA, 3, none⟩ = some (.slice vA3 z.set.length hA3) ∧ w'.cell? ⟨bA, 4, none⟩ = some (.slice vA4 z.table.length hA4) ∧ w'.cell? ⟨bB, 0, none⟩ = some (.slice vB0 z.cell.length hB0) ∧ w'.cell? ⟨bB, 1, none⟩ = some (.slice vB1 z.stack.length hB1) ∧ w'.cell? ⟨bB, 2, none⟩ = some (.slice vB2 z.queue.length hB2) ∧ w'.cell? ⟨bB, 3, none⟩ = some (.slice vB3 z.set.length hB3) ∧ w'.cell? ⟨bB, 4, none⟩ = some (.slice vB4 z.table.length hB4) ∧ w'.cell? ⟨bC, 0, none⟩ = some (.slice vC0 z.cell.length hC0) ∧ w'.cell? ⟨bC, 1, none⟩ = some (.slice vC1 z.stack.length hC1) ∧ w'.cell? ⟨bC, 2, none⟩ = some (.slice vC2 z.queue.length hC2) ∧ w'.cell? ⟨bC, 3, none⟩ = some (.slice vC3 z.set.length hC3) ∧ w'.cell? ⟨bC, 4, none⟩ = some (.slice vC4 z.table.length hC4) ∧ w'.cell? ⟨bD, 0, none⟩ = some (.slice vD0 y.cell.length hD0) ∧ w'.cell? ⟨bD, 1, none⟩ = some (.slice vD1 y.stack.length hD1) ∧ w'.cell? ⟨bD, 2, none⟩ = some (.slice vD2 y.queue.length hD2) ∧ w'.cell? ⟨bD, 3, none⟩ = some (.slice vD3 y.set.length hD3) ∧ w'.cell? ⟨bD, 4, none⟩ = some (.slice vD4 y.table.length hD4) ∧ w'.cell? ⟨bP, 0, none⟩ = some (.slice xP0 pp.cell.length jP0) ∧ w'.cell? ⟨bP, 1, none⟩ = some (.slice xP1 pp.stack.length jP1) ∧ w'.cell? ⟨bP, 2, none⟩ = some (.slice xP2 pp.queue.length jP2) ∧ w'.cell? ⟨bP, 3, none⟩ = some (.slice xP3 pp.set.length jP3) ∧ w'.cell? ⟨bP, 4, none⟩ = some (.slice xP4 pp.table.length jP4) ∧ w'.cell? ⟨bE, 0, none⟩ = some (.slice vE0 y.cell.length hE0) ∧ w'.cell? ⟨bE, 1, none⟩ = some (.slice vE1 y.stack.length hE1) ∧ w'.cell? ⟨bE, 2, none⟩ = some (.slice vE2 y.queue.length hE2) ∧ w'.cell? ⟨bE, 3, none⟩ = some (.slice vE3 y.set.length hE3) ∧ w'.cell? ⟨bE, 4, none⟩ = some (.slice vE4 y.table.length hE4)) := fun w' hB => ⟨(hB.cell (p := ⟨bA, _, none⟩) clA).trans cA0, (hB.cell (p := ⟨bA, _, none⟩) clA).trans cA1, (hB.cell (p := ⟨bA, _, none⟩) clA).trans cA2, (hB.cell (p := ⟨bA, _, none⟩) clA).trans cA3, (hB.cell (p := ⟨bA, _, none⟩) clA).trans cA4, (hB.cell (p := ⟨bB, _, none⟩) clB).trans cB0, (hB.cell (p := ⟨bB, _, none⟩) clB).trans cB1, (hB.cell (p := ⟨bB, _, none⟩) clB).trans cB2, (hB.cell (p := ⟨bB, _, none⟩) clB).trans cB3, (hB.cell (p := ⟨bB, _, none⟩) clB).trans cB4, (hB.cell (p := ⟨bC, _, none⟩) clC).trans cC0, (hB.cell (p := ⟨bC, _, none⟩) clC).trans cC1, (hB.cell (p := ⟨bC, _, none⟩) clC).trans cC2, (hB.cell (p := ⟨bC, _, none⟩) clC).trans cC3, (hB.cell (p := ⟨bC, _, none⟩) clC).trans cC4, (hB.cell (p := ⟨bD, _, none⟩) clD).trans cD0, (hB.cell (p := ⟨bD, _, none⟩) clD).trans cD1, (hB.cell (p := ⟨bD, _, none⟩) clD).trans cD2, (hB.cell (p := ⟨bD, _, none⟩) clD).trans cD3, (hB.cell (p := ⟨bD, _, none⟩) clD).trans cD4, (hB.cell (p := ⟨bP, _, none⟩) clP).trans cP0, (hB.cell (p := ⟨bP, _, none⟩) clP).trans cP1, (hB.cell (p := ⟨bP, _, none⟩) clP).trans cP2, (hB.cell (p := ⟨bP, _, none⟩) clP).trans cP3, (hB.cell (p := ⟨bP, _, none⟩) clP).trans cP4, (hB.cell (p := ⟨bE, _, none⟩) clE).trans cE0, (hB.cell (p := ⟨bE, _, none⟩) clE).trans cE1, (hB.cell (p := ⟨bE, _, none⟩) clE).trans cE2, (hB.cell (p := ⟨bE, _, none⟩) clE).trans cE3, (hB.cell (p := ⟨bE, _, none⟩) clE).trans cE4⟩
    have hZ0 : Below w10.heap.size w10 w10.drew := (Below.refl _ _).drew
    go_region_held3 (fun w' => w'.cell? ⟨bA, 0, none⟩ = some (.slice vA0 z.cell.length hA0) ∧ w'.cell? ⟨bA, 1, none⟩ = some (.slice vA1 z.stack.length hA1) ∧ w'.cell? ⟨bA, 2, none⟩ = some (.slice vA2 z.queue.length hA2) ∧ w'.cell? ⟨bA, 3, none⟩ = some (.slice vA3 z.set.length hA3) ∧ w'.cell? ⟨bA, 4, none⟩ = some (.slice vA4 z.table.length hA4) ∧ w'.cell? ⟨bB, 0, none⟩ = some (.slice vB0 z.cell.length hB0) ∧ w'.cell? ⟨bB, 1, none⟩ = some (.slice vB1 z.stack.length hB1) ∧ w'.cell? ⟨bB, 2, none⟩ = some (.slice vB2 z.queue.length hB2) ∧ w'.cell? ⟨bB, 3, none⟩ = some (.slice vB3 z.set.length hB3) ∧ w'.cell? ⟨bB, 4, none⟩ = some (.slice vB4 z.table.length hB4) ∧ w'.cell? ⟨bC, 0, none⟩ = some (.slice vC0 z.cell.length hC0) ∧ w'.cell? ⟨bC, 1, none⟩ = some (.slice vC1 z.stack.length hC1) ∧ w'.cell? ⟨bC, 2, none⟩ = some (.slice vC2 z.queue.length hC2) ∧ w'.cell? ⟨bC, 3, none⟩ = some (.slice vC3 z.set.length hC3) ∧ w'.cell? ⟨bC, 4, none⟩ = some (.slice vC4 z.table.length hC4) ∧ w'.cell? ⟨bD, 0, none⟩ = some (.slice vD0 y.cell.length hD0) ∧ w'.cell? ⟨bD, 1, none⟩ = some (.slice vD1 y.stack.length hD1) ∧ w'.cell? ⟨bD, 2, none⟩ = some (.slice vD2 y.queue.length hD2) ∧ w'.cell? ⟨bD, 3, none⟩ = some (.slice vD3 y.set.length hD3) ∧ w'.cell? ⟨bD, 4, none⟩ = some (.slice vD4 y.table.length hD4) ∧ w'.cell? ⟨bP, 0, none⟩ = some (.slice xP0 pp.cell.length jP0) ∧ w'.cell? ⟨bP, 1, none⟩ = some (.slice xP1 pp.stack.length jP1) ∧ w'.cell? ⟨bP, 2, none⟩ = some (.slice xP2 pp.queue.length jP2) ∧ w'.cell? ⟨bP, 3, none⟩ = some (.slice xP3 pp.set.length jP3) ∧ w'.cell? ⟨bP, 4, none⟩ = some (.slice xP4 pp.table.length jP4) ∧ w'.cell? ⟨bE, 0, none⟩ = some (.slice vE0 y.cell.length hE0) ∧ w'.cell? ⟨bE, 1, none⟩ = some (.slice vE1 y.stack.length hE1) ∧ w'.cell? ⟨bE, 2, none⟩ = some (.slice vE2 y.queue.length hE2) ∧ w'.cell? ⟨bE, 3, none⟩ = some (.slice vE3 y.set.length hE3) ∧ w'.cell? ⟨bE, 4, none⟩ = some (.slice vE4 y.table.length hE4)) (first | exact KSf.out _ (by assumption) | exact KSf.out _ (hZ0.alloc hZ0.size _) | go_keep) (first | (go_at_call 6; refine (CA.out _ (by assumption)).mono ?_; clear CA; rintro e wcA ⟨l0, l1, l2, l3, l4, rfl, hat, hB⟩; obtain ⟨gA0, qA0, rfl, _⟩ := hat.cell.form; obtain ⟨gA1, qA1, rfl, _⟩ := hat.stack.form; obtain ⟨gA2, qA2, rfl, _⟩ := hat.queue.form; obtain ⟨gA3, qA3, rfl, _⟩ := hat.set.form; obtain ⟨gA4, qA4, rfl, _⟩ := hat.table.form; have WA := Mr.hid (hat.mono (T' := fun k => w10.heap.size ≤ k) (fun k hk => Nat.le_trans hZ0.size hk)); clear hat;  replace hZ0 := hZ0.trans (hB.mono hZ0.size); clear hB) | (go_at_call 6; refine (CB.out _ (by assumption)).mono ?_; clear CB; rintro e wcB ⟨l0, l1, l2, l3, l4, rfl, hat, hB⟩; obtain ⟨gB0, qB0, rfl, _⟩ := hat.cell.form; obtain ⟨gB1, qB1, rfl, _⟩ := hat.stack.form; obtain ⟨gB2, qB2, rfl, _⟩ := hat.queue.form; obtain ⟨gB3, qB3, rfl, _⟩ := hat.set.form; obtain ⟨gB4, qB4, rfl, _⟩ := hat.table.form; have WB := Mr.hid (hat.mono (T' := fun k => w10.heap.size ≤ k) (fun k hk => Nat.le_trans hZ0.size hk)); clear hat; replace WA := Mr.hid (WA.out.below hB); replace hZ0 := hZ0.trans (hB.mono hZ0.size); clear hB) | (go_at_call 6; refine (CC.out _ (by assumption)).mono ?_; clear CC; rintro e wcC ⟨l0, l1, l2, l3, l4, rfl, hat, hB⟩; obtain ⟨gC0, qC0, rfl, _⟩ := hat.cell.form; obtain ⟨gC1, qC1, rfl, _⟩ := hat.stack.form; obtain ⟨gC2, qC2, rfl, _⟩ := hat.queue.form; obtain ⟨gC3, qC3, rfl, _⟩ := hat.set.form; obtain ⟨gC4, qC4, rfl, _⟩ := hat.table.form; have WC := Mr.hid (hat.mono (T' := fun k => w10.heap.size ≤ k) (fun k hk => Nat.le_trans hZ0.size hk)); clear hat; replace WA := Mr.hid (WA.out.below hB); replace WB := Mr.hid (WB.out.below hB); replace hZ0 := hZ0.trans (hB.mono hZ0.size); clear hB) | (go_at_call 6; refine (CD.out _ (by assumption)).mono ?_; clear CD; rintro e wcD ⟨l0, l1, l2, l3, l4, rfl, hat, hB⟩; obtain ⟨gD0, qD0, rfl, _⟩ := hat.cell.form; obtain ⟨gD1, qD1, rfl, _⟩ := hat.stack.form; obtain ⟨gD2, qD2, rfl, _⟩ := hat.queue.form; obtain ⟨gD3, qD3, rfl, _⟩ := hat.set.form; obtain ⟨gD4, qD4, rfl, _⟩ := hat.table.form; have WD := Mr.hid (hat.mono (T' := fun k => w10.heap.size ≤ k) (fun k hk => Nat.le_trans hZ0.size hk)); clear hat; replace WA := Mr.hid (WA.out.below hB); replace WB := Mr.hid (WB.out.below hB); replace WC := Mr.hid (WC.out.below hB); replace hZ0 := hZ0.trans (hB.mono hZ0.size); clear hB) | (go_at_call 6; refine (CP.out _ (by assumption)).mono ?_; clear CP; rintro e wcP ⟨l0, l1, l2, l3, l4, rfl, hat, hB⟩; obtain ⟨gP0, qP0, rfl, _⟩ := hat.cell.form; obtain ⟨gP1, qP1, rfl, _⟩ := hat.stack.form; obtain ⟨gP2, qP2, rfl, _⟩ := hat.queue.form; obtain ⟨gP3, qP3, rfl, _⟩ := hat.set.form; obtain ⟨gP4, qP4, rfl, _⟩ := hat.table.form; have WP := Mr.hid (hat.mono (T' := fun k => w10.heap.size ≤ k) (fun k hk => Nat.le_trans hZ0.size hk)); clear hat; replace WA := Mr.hid (WA.out.below hB); replace WB := Mr.hid (WB.out.below hB); replace WC := Mr.hid (WC.out.below hB); replace WD := Mr.hid (WD.out.below hB); replace hZ0 := hZ0.trans (hB.mono hZ0.size); clear hB) | (go_at_call 6; refine (CE.out _ (by assumption)).mono ?_; clear CE; rintro e wcE ⟨l0, l1, l2, l3, l4, rfl, hat, hB⟩; obtain ⟨gE0, qE0, rfl, _⟩ := hat.cell.form; obtain ⟨gE1, qE1, rfl, _⟩ := hat.stack.form; obtain ⟨gE2, qE2, rfl, _⟩ := hat.queue.form; obtain ⟨gE3, qE3, rfl, _⟩ := hat.set.form; obtain ⟨gE4, qE4, rfl, _⟩ := hat.table.form; have WE := Mr.hid (hat.mono (T' := fun k => w10.heap.size ≤ k) (fun k hk => Nat.le_trans hZ0.size hk)); clear hat; replace WA := Mr.hid (WA.out.below hB); replace WB := Mr.hid (WB.out.below hB); replace WC := Mr.hid (WC.out.below hB); replace WD := Mr.hid (WD.out.below hB); replace WP := Mr.hid (WP.out.below hB); replace hZ0 := hZ0.trans (hB.mono hZ0.size); clear hB))
    clear cA0 cA1 cA2 cA3 cA4 cB0 cB1 cB2 cB3 cB4 cC0 cC1 cC2 cC3 cC4 cD0 cD1 cD2 cD3 cD4 cP0 cP1 cP2 cP3 cP4 cE0 cE1 cE2 cE3 cE4
    obtain ⟨cA0, cA1, cA2, cA3, cA4, cB0, cB1, cB2, cB3, cB4, cC0, cC1, cC2, cC3, cC4, cD0, cD1, cD2, cD3, cD4, cP0, cP1, cP2, cP3, cP4, cE0, cE1, cE2, cE3, cE4⟩ := KSf.out _ (hZ0.alloc hZ0.size (.cells #[.slice gA0 z.cell.length qA0, .slice gA1 z.stack.length qA1, .slice gA2 z.queue.length qA2, .slice gA3 z.set.length qA3, .slice gA4 z.table.length qA4, .slice gB0 z.cell.length qB0, .slice gB1 z.stack.length qB1, .slice gB2 z.queue.length qB2, .slice gB3 z.set.length qB3, .slice gB4 z.table.length qB4, .slice gC0 z.cell.length qC0, .slice gC1 z.stack.length qC1, .slice gC2 z.queue.length qC2, .slice gC3 z.set.length qC3, .slice gC4 z.table.length qC4, .slice gD0 y.cell.length qD0, .slice gD1 y.stack.length qD1, .slice gD2 y.queue.length qD2, .slice gD3 y.set.length qD3, .slice gD4 y.table.length qD4, .slice gP0 pp.cell.length qP0, .slice gP1 pp.stack.length qP1, .slice gP2 pp.queue.length qP2, .slice gP3 pp.set.length qP3, .slice gP4 pp.table.length qP4, .slice gE0 y.cell.length qE0, .slice gE1 y.stack.length qE1, .slice gE2 y.queue.length qE2, .slice gE3 y.set.length qE3, .slice gE4 y.table.length qE4] 25 (0, 0)))
    clear KSf
    go_upto_region 14 with (fail)
    obtain ⟨w13, hw13⟩ : ∃ w', w' = (wcE.alloc (.cells #[.slice gA0 z.cell.length qA0, .slice gA1 z.stack.length qA1, .slice gA2 z.queue.length qA2, .slice gA3 z.set.length qA3, .slice gA4 z.table.length qA4, .slice gB0 z.cell.length qB0, .slice gB1 z.stack.length qB1, .slice gB2 z.queue.length qB2, .slice gB3 z.set.length qB3, .slice gB4 z.table.length qB4, .slice gC0 z.cell.length qC0, .slice gC1 z.stack.length qC1, .slice gC2 z.queue.length qC2, .slice gC3 z.set.length qC3, .slice gC4 z.table.length qC4, .slice gD0 y.cell.length qD0, .slice gD1 y.stack.length qD1, .slice gD2 y.queue.length qD2, .slice gD3 y.set.length qD3, .slice gD4 y.table.length qD4, .slice gP0 pp.cell.length qP0, .slice gP1 pp.stack.length qP1, .slice gP2 pp.queue.length qP2, .slice gP3 pp.set.length qP3, .slice gP4 pp.table.length qP4, .slice gE0 y.cell.length qE0, .slice gE1 y.stack.length qE1, .slice gE2 y.queue.length qE2, .slice gE3 y.set.length qE3, .slice gE4 y.table.length qE4] 25 (0, 0))).alloc (.cells #[.slice vA0 z.cell.length hA0, .slice vA1 z.stack.length hA1, .slice vA2 z.queue.length hA2, .slice vA3 z.set.length hA3, .slice vA4 z.table.length hA4, .slice vB0 z.cell.length hB0, .slice vB1 z.stack.length hB1, .slice vB2 z.queue.length hB2, .slice vB3 z.set.length hB3, .slice vB4 z.table.length hB4, .slice vC0 z.cell.length hC0, .slice vC1 z.stack.length hC1, .slice vC2 z.queue.length hC2, .slice vC3 z.set.length hC3, .slice vC4 z.table.length hC4, .slice vD0 y.cell.length hD0, .slice vD1 y.stack.length hD1, .slice vD2 y.queue.length hD2, .slice vD3 y.set.length hD3, .slice vD4 y.table.length hD4, .slice xP0 pp.cell.length jP0, .slice xP1 pp.stack.length jP1, .slice xP2 pp.queue.length jP2, .slice xP3 pp.set.length jP3, .slice xP4 pp.table.length jP4, .slice vE0 y.cell.length hE0, .slice vE1 y.stack.length hE1, .slice vE2 y.queue.length hE2, .slice vE3 y.set.length hE3, .slice vE4 y.table.length hE4] 25 (0, 0)) := ⟨_, rfl⟩
    rw [← hw13]
    have B13 : Below w10.heap.size w10 w13 := by rw [hw13]; exact (hZ0.alloc hZ0.size _).alloc (Nat.le_trans hZ0.size (by simp)) _
    have BE13 : Below wcE.heap.size wcE w13 := by rw [hw13]; exact ((Below.refl _ _).alloc (Nat.le_refl _) _).alloc (by simp) _
    have hSo : ∃ (L M : List Value) (X : Nat → Ct) (LO HI : Nat → Nat) (LAB : Nat → Nat → Nat), L.length = 30 ∧ M.length = 30 ∧ (∀ i, i < 6 → CtIn 225000000000000 (X i)) ∧ So W w13 x2.heap.size w10.heap.size bk (wcE.heap.size + 1) wcE.heap.size (.slice s0 y.cell.length t0) (.slice s1 y.stack.length t1) (.slice s2 y.queue.length t2) (.slice s3 y.set.length t3) (.slice s4 y.table.length t4) (.slice p0 y.cell.length q0) (.slice p1 y.stack.length q1) (.slice p2 y.queue.length q2) (.slice p3 y.set.length q3) (.slice p4 y.table.length q4) y L M X LO HI LAB 0 := by
      refine ⟨[.slice vA0 z.cell.length hA0, .slice vA1 z.stack.length hA1, .slice vA2 z.queue.length hA2, .slice vA3 z.set.length hA3, .slice vA4 z.table.length hA4, .slice vB0 z.cell.length hB0, .slice vB1 z.stack.length hB1, .slice vB2 z.queue.length hB2, .slice vB3 z.set.length hB3, .slice vB4 z.table.length hB4, .slice vC0 z.cell.length hC0, .slice vC1 z.stack.length hC1, .slice vC2 z.queue.length hC2, .slice vC3 z.set.length hC3, .slice vC4 z.table.length hC4, .slice vD0 y.cell.length hD0, .slice vD1 y.stack.length hD1, .slice vD2 y.queue.length hD2, .slice vD3 y.set.length hD3, .slice vD4 y.table.length hD4, .slice xP0 pp.cell.length jP0, .slice xP1 pp.stack.length jP1, .slice xP2 pp.queue.length jP2, .slice xP3 pp.set.length jP3, .slice xP4 pp.table.length jP4, .slice vE0 y.cell.length hE0, .slice vE1 y.stack.length hE1, .slice vE2 y.queue.length hE2, .slice vE3 y.set.length hE3, .slice vE4 y.table.length hE4], [.slice gA0 z.cell.length qA0, .slice gA1 z.stack.length qA1, .slice gA2 z.queue.length qA2, .slice gA3 z.set.length qA3, .slice gA4 z.table.length qA4, .slice gB0 z.cell.length qB0, .slice gB1 z.stack.length qB1, .slice gB2 z.queue.length qB2, .slice gB3 z.set.length qB3, .slice gB4 z.table.length qB4, .slice gC0 z.cell.length qC0, .slice gC1 z.stack.length qC1, .slice gC2 z.queue.length qC2, .slice gC3 z.set.length qC3, .slice gC4 z.table.length qC4, .slice gD0 y.cell.length qD0, .slice gD1 y.stack.length qD1, .slice gD2 y.queue.length qD2, .slice gD3 y.set.length qD3, .slice gD4 y.table.length qD4, .slice gP0 pp.cell.length qP0, .slice gP1 pp.stack.length qP1, .slice gP2 pp.queue.length qP2, .slice gP3 pp.set.length qP3, .slice gP4 pp.table.length qP4, .slice gE0 y.cell.length qE0, .slice gE1 y.stack.length qE1, .slice gE2 y.queue.length qE2, .slice gE3 y.set.length qE3, .slice gE4 y.table.length qE4], fun i => match i with | 0 => z | 1 => z | 2 => z | 3 => y | 4 => pp | _ => y, fun i => match i with | 0 => x2.heap.size | 1 => yA.heap.size | 2 => yB.heap.size | 3 => yC.heap.size | 4 => loP | _ => wc.heap.size, fun i => match i with | 0 => bA | 1 => bB | 2 => bC | 3 => bD | 4 => hiP | _ => bE, fun i => match i with | 0 => laA | 1 => laB | 2 => laC | 3 => laD | 4 => laP | _ => laE, rfl, rfl, ?_, ?_⟩
      · intro i hi
        have : i = 0 ∨ i = 1 ∨ i = 2 ∨ i = 3 ∨ i = 4 ∨ i = 5 := by omega
        rcases this with rfl | rfl | rfl | rfl | rfl | rfl
        · exact zin.out
        · exact zin.out
        · exact zin.out
        · exact hyi.out
        · exact pin.out
        · exact hyi.out
      · have tA := tpA.out; have tB := tpB.out; have tC := tpC.out; have tD := tpD.out; have tP := tpP.out; have tE := tpE.out; have t10 := tp10.out
        have lA := lhA.out; have lB := lhB.out; have lC := lhC.out; have lD := lhD.out; have lE := lhE.out; have lP := hloP.out; have bP := hbP.out
        refine ⟨(hD.out.next B13).bel, hSl.out.next B13, hKl.out.next B13, ⟨fun i h => by omega, fun i _ hi => ?_, fun i q hi hq => ?_, fun i j hij hj => ?_⟩, by rw [hw13]; exact new_at _ _ _ (by simp), by rw [hw13]; exact old_at (new_at _ _ _ rfl) _, fun i hi => ?_, fun i hi => ?_, fun i hi => ?_, by have := hZ0.size; omega⟩
        · have : i = 0 ∨ i = 1 ∨ i = 2 ∨ i = 3 ∨ i = 4 ∨ i = 5 := by omega
          rcases this with rfl | rfl | rfl | rfl | rfl | rfl
          · exact zA.out.oc.next B13
          · exact zB.out.oc.next B13
          · exact zC.out.oc.next B13
          · exact zD.out.oc.next B13
          · exact zP.out.oc.next B13
          · exact zE.out.oc.next B13
        · have : i = 0 ∨ i = 1 ∨ i = 2 ∨ i = 3 ∨ i = 4 ∨ i = 5 := by omega
          rcases this with rfl | rfl | rfl | rfl | rfl | rfl
          · exact ⟨zA.out.oc.own.low q hq, zA.out.oc.up q hq⟩
          · exact ⟨zB.out.oc.own.low q hq, zB.out.oc.up q hq⟩
          · exact ⟨zC.out.oc.own.low q hq, zC.out.oc.up q hq⟩
          · exact ⟨zD.out.oc.own.low q hq, zD.out.oc.up q hq⟩
          · exact ⟨zP.out.oc.own.low q hq, zP.out.oc.up q hq⟩
          · exact ⟨zE.out.oc.own.low q hq, zE.out.oc.up q hq⟩
        · have a1 : i = 0 ∨ i = 1 ∨ i = 2 ∨ i = 3 ∨ i = 4 := by omega
          have a2 : j = 1 ∨ j = 2 ∨ j = 3 ∨ j = 4 ∨ j = 5 := by omega
          rcases a1 with rfl | rfl | rfl | rfl | rfl <;> rcases a2 with rfl | rfl | rfl | rfl | rfl <;> first | (exfalso; omega) | (simp only; omega)
        · have : i = 0 ∨ i = 1 ∨ i = 2 ∨ i = 3 ∨ i = 4 ∨ i = 5 := by omega
          rcases this with rfl | rfl | rfl | rfl | rfl | rfl
          · exact WA.out.below BE13
          · exact WB.out.below BE13
          · exact WC.out.below BE13
          · exact WD.out.below BE13
          · exact WP.out.below BE13
          · exact WE.out.below BE13
        · have : i = 0 ∨ i = 1 ∨ i = 2 ∨ i = 3 ∨ i = 4 ∨ i = 5 := by omega
          rcases this with rfl | rfl | rfl | rfl | rfl | rfl <;> simp only <;> omega
        · have : i = 0 ∨ i = 1 ∨ i = 2 ∨ i = 3 ∨ i = 4 ∨ i = 5 := by omega
          rcases this with rfl | rfl | rfl | rfl | rfl | rfl <;> simp only <;> omega
    obtain ⟨L, M, X, LO, HI, LAB, hL30, hM30, hXi, hO⟩ := hSo
    clear hw13 B13 BE13 hZ0 zA zB zC zD zP zE WA WB WC WD WP WE tpA tpB tpC tpD tpP tpE tp10 lhA lhB lhC lhD lhE hloP hbP hD hS hV hK hSl hKl zin pin hpp hz cA0 cA1 cA2 cA3 cA4 cB0 cB1 cB2 cB3 cB4 cC0 cC1 cC2 cC3 cC4 cD0 cD1 cD2 cD3 cD4 cP0 cP1 cP2 cP3 cP4 cE0 cE1 cE2 cE3 cE4 clA clB clC clD clP clE
    generalize x2.heap.size = n0 at *
    generalize w10.heap.size = top at *
    obtain ⟨ba, hba⟩ : ∃ b, b = wcE.heap.size + 1 := ⟨_, rfl⟩
    rw [← hba] at hO ⊢
    clear hba
    generalize wcE.heap.size = bw at *
    have hXs := Mr.hid (fun i (hi : i < 6) => (hXi i hi).sm (by decide))
    have hys := Mr.hid (hyi.out.sm (by decide))
    replace hO := Mr.hid hO
    replace hL30 := Mr.hid hL30
    replace hM30 := Mr.hid hM30
    replace hXi := Mr.hid hXi
    go_wp2
    go_loopg [26] 6 (fun q s26 wr => ∃ k : Nat, s26 = .int .i64 (k : Int) ∧ k + q = 6 ∧ So W wr n0 top bk ba bw (.slice s0 y.cell.length t0) (.slice s1 y.stack.length t1) (.slice s2 y.queue.length t2) (.slice s3 y.set.length t3) (.slice s4 y.table.length t4) (.slice p0 y.cell.length q0) (.slice p1 y.stack.length q1) (.slice p2 y.queue.length q2) (.slice p3 y.set.length q3) (.slice p4 y.table.length q4) y L M X LO HI LAB k)
    case atStart => exact ⟨0, rfl, rfl, hO.out⟩
    case round =>
      clear hO
      obtain ⟨k, rfl, hk, hO⟩ := hrel
      by_cases hlt : k < 6
      · have a0 : wr.cell? ⟨ba, k * 5, none⟩ = some (at5 L k 0) := hO.all hL30.out hlt (j := 0) (by omega)
        have a1 := hO.all hL30.out hlt (j := 1) (by omega)
        have a2 := hO.all hL30.out hlt (j := 2) (by omega)
        have a3 := hO.all hL30.out hlt (j := 3) (by omega)
        have a4 := hO.all hL30.out hlt (j := 4) (by omega)
        have SP := Mr.hid ((hO.fam.rest k (Nat.le_refl _) hlt).spoil (hXi.out k hlt) (m := 1000 * ((k : Int) + 1)) (by omega) (by omega))
        have hlI : (k : Int) < 6 := by omega
        have hw1 : IntKind.i64.wrap ((k : Int) + 1) = (k : Int) + 1 := i64w _ (by omega) (by omega)
        have hw2 : IntKind.i64.wrap (1000 * ((k : Int) + 1)) = 1000 * ((k : Int) + 1) := i64w _ (by omega) (by omega)
        have SPn := Mr.hid (fun w' hf hc => hO.spoil (w' := w') hlt hf hc)
        clear hO
        generalize hv0 : at5 L k 0 = V0 at *
        generalize hv1 : at5 L k 1 = V1 at *
        generalize hv2 : at5 L k 2 = V2 at *
        generalize hv3 : at5 L k 3 = V3 at *
        generalize hv4 : at5 L k 4 = V4 at *
        clear hv0 hv1 hv2 hv3 hv4
        go_wp2_with (go_at_call 13; refine SP.out.mono ?_; clear SP; rintro e w17 ⟨rfl, hf17, hc17⟩; have hO := Mr.hid (SPn.out _ hf17 hc17); clear hf17 hc17 SPn a0 a1 a2 a3 a4)
        go_loopg [27] (6 - (k + 1)) (fun q s27 wr => ∃ n : Nat, s27 = .int .i64 (n : Int) ∧ k + 1 ≤ n ∧ n ≤ 6 ∧ q = 6 - n ∧ So W wr n0 top bk ba bw (.slice s0 y.cell.length t0) (.slice s1 y.stack.length t1) (.slice s2 y.queue.length t2) (.slice s3 y.set.length t3) (.slice s4 y.table.length t4) (.slice p0 y.cell.length q0) (.slice p1 y.stack.length q1) (.slice p2 y.queue.length q2) (.slice p3 y.set.length q3) (.slice p4 y.table.length q4) y L M X LO HI LAB (k + 1))
        case atStart => exact ⟨k + 1, by simp, Nat.le_refl _, by omega, rfl, hO.out⟩
        case round =>
          clear hO
          obtain ⟨n, rfl, hn0, hn6, hq, hO⟩ := hrel
          by_cases hnl : n < 6
          · have a0 : wr.cell? ⟨ba, n * 5, none⟩ = some (at5 L n 0) := hO.all hL30.out hnl (j := 0) (by omega)
            have a1 := hO.all hL30.out hnl (j := 1) (by omega)
            have a2 := hO.all hL30.out hnl (j := 2) (by omega)
            have a3 := hO.all hL30.out hnl (j := 3) (by omega)
            have a4 := hO.all hL30.out hnl (j := 4) (by omega)
            have b0 : wr.cell? ⟨bw, n * 5, none⟩ = some (at5 M n 0) := hO.wants hM30.out hnl (j := 0) (by omega)
            have b1 := hO.wants hM30.out hnl (j := 1) (by omega)
            have b2 := hO.wants hM30.out hnl (j := 2) (by omega)
            have b3 := hO.wants hM30.out hnl (j := 3) (by omega)
            have b4 := hO.wants hM30.out hnl (j := 4) (by omega)
            have hla : ba < wr.heap.size := (Array.getElem?_eq_some_iff.1 hO.al).1
            have hlb : bw < wr.heap.size := (Array.getElem?_eq_some_iff.1 hO.wa).1
            have SM := fun w' (hB : Below wr.heap.size wr w') => rSame_any ((hO.fam.rest n hn0 hnl).at.below hB) ((hO.want n hnl).below hB) (hXs.out n hnl) (hXs.out n hnl)
            rw [show ctB (X n) (X n) = true from by unfold ctB; simp] at SM
            replace SM := Mr.hid SM
            replace hO := Mr.hid hO
            have hlI2 : (n : Int) < 6 := by omega
            have hw3 : IntKind.i64.wrap ((n : Int) + 1) = (n : Int) + 1 := i64w _ (by omega) (by omega)
            generalize at5 L n 0 = V0 at *
            generalize at5 L n 1 = V1 at *
            generalize at5 L n 2 = V2 at *
            generalize at5 L n 3 = V3 at *
            generalize at5 L n 4 = V4 at *
            generalize at5 M n 0 = G0 at *
            generalize at5 M n 1 = G1 at *
            generalize at5 M n 2 = G2 at *
            generalize at5 M n 3 = G3 at *
            generalize at5 M n 4 = G4 at *
            go_upto_region 21 with (fail)
            have KK : Hid (∀ w', Below wr.heap.size wr w' → w'.cell? ⟨ba, n * 5, none⟩ = some V0 ∧ w'.cell? ⟨ba, n * 5 + 1, none⟩ = some V1 ∧ w'.cell? ⟨ba, n * 5 + 2, none⟩ = some V2 ∧ w'.cell? ⟨ba, n * 5 + 3, none⟩ = some V3 ∧ w'.cell? ⟨ba, n * 5 + 4, none⟩ = some V4 ∧ w'.cell? ⟨bw, n * 5, none⟩ = some G0 ∧ w'.cell? ⟨bw, n * 5 + 1, none⟩ = some G1 ∧ w'.cell? ⟨bw, n * 5 + 2, none⟩ = some G2 ∧ w'.cell? ⟨bw, n * 5 + 3, none⟩ = some G3 ∧ w'.cell? ⟨bw, n * 5 + 4, none⟩ = some G4) := fun w' hB => ⟨(hB.cell (p := ⟨ba, _, none⟩) hla).trans a0, (hB.cell (p := ⟨ba, _, none⟩) hla).trans a1, (hB.cell (p := ⟨ba, _, none⟩) hla).trans a2, (hB.cell (p := ⟨ba, _, none⟩) hla).trans a3, (hB.cell (p := ⟨ba, _, none⟩) hla).trans a4, (hB.cell (p := ⟨bw, _, none⟩) hlb).trans b0, (hB.cell (p := ⟨bw, _, none⟩) hlb).trans b1, (hB.cell (p := ⟨bw, _, none⟩) hlb).trans b2, (hB.cell (p := ⟨bw, _, none⟩) hlb).trans b3, (hB.cell (p := ⟨bw, _, none⟩) hlb).trans b4⟩
            have hdr : Below wr.heap.size wr wr.drew := (Below.refl _ _).drew
            go_region_held3 (fun w' => w'.cell? ⟨ba, n * 5, none⟩ = some V0 ∧ w'.cell? ⟨ba, n * 5 + 1, none⟩ = some V1 ∧ w'.cell? ⟨ba, n * 5 + 2, none⟩ = some V2 ∧ w'.cell? ⟨ba, n * 5 + 3, none⟩ = some V3 ∧ w'.cell? ⟨ba, n * 5 + 4, none⟩ = some V4 ∧ w'.cell? ⟨bw, n * 5, none⟩ = some G0 ∧ w'.cell? ⟨bw, n * 5 + 1, none⟩ = some G1 ∧ w'.cell? ⟨bw, n * 5 + 2, none⟩ = some G2 ∧ w'.cell? ⟨bw, n * 5 + 3, none⟩ = some G3 ∧ w'.cell? ⟨bw, n * 5 + 4, none⟩ = some G4) (first | exact KK.out _ (by assumption) | go_keep) (first | (go_at_call 14; refine (SM.out _ (by assumption)).mono ?_; rintro e w21 ⟨rfl, hB21⟩; replace hB21 : Below wr.heap.size wr w21 := ⟨hB21.os, hB21.tape, hB21.output, hB21.size, hB21.block⟩))
            all_goals
              replace hO := Mr.hid (hO.out.next hB21)
              clear KK SM a0 a1 a2 a3 a4 b0 b1 b2 b3 b4 hdr
              go_wp2
              go_roundg (gk - 1)
              case measure => omega
              case rel => exact ⟨n + 1, by simp, by omega, by omega, by omega, hO.out⟩
          · obtain ⟨e0, e1, e2, e3, e4, el⟩ := ctO_cells hO.s.box
            obtain ⟨d0, d1, d2, d3, d4, dl⟩ := ctO_cells hO.kp.box
            have SM := rSame_any hO.s.at_ hO.kp.at_ hys.out hys.out
            rw [show ctB y y = true from by unfold ctB; simp] at SM
            replace SM := Mr.hid SM
            replace hO := Mr.hid hO
            have hge : decide ((n : Int) < 6) = false := decide_eq_false (by omega)
            go_wp2_with (go_at_call 14; refine SM.out.mono ?_; clear SM; rintro e w23 ⟨rfl, hB23⟩; replace hO := Mr.hid (hO.out.next hB23); clear hB23)
            go_roundg (6 - (k + 1))
            case measure => omega
            case rel => exact ⟨k + 1, by simp, by omega, hO.out⟩
      · have hk6 : k = 6 := by omega
        rw [hk6] at hO
        clear hk6
        have hge : decide ((k : Int) < 6) = false := decide_eq_false (by omega)
        replace hO := Mr.hid hO
        go_wp2
        go_loopg [28] 6 (fun q s28 wr => ∃ n : Nat, s28 = .int .i64 (n : Int) ∧ n + q = 6 ∧ So W wr n0 top bk ba bw (.slice s0 y.cell.length t0) (.slice s1 y.stack.length t1) (.slice s2 y.queue.length t2) (.slice s3 y.set.length t3) (.slice s4 y.table.length t4) (.slice p0 y.cell.length q0) (.slice p1 y.stack.length q1) (.slice p2 y.queue.length q2) (.slice p3 y.set.length q3) (.slice p4 y.table.length q4) y L M X LO HI LAB 6)
        case atStart => exact ⟨0, rfl, rfl, hO.out⟩
        case round =>
          clear hO
          obtain ⟨n, rfl, hn, hO⟩ := hrel
          by_cases hnl : n < 6
          · have a0 : wr.cell? ⟨ba, n * 5, none⟩ = some (at5 L n 0) := hO.all hL30.out hnl (j := 0) (by omega)
            have a1 := hO.all hL30.out hnl (j := 1) (by omega)
            have a2 := hO.all hL30.out hnl (j := 2) (by omega)
            have a3 := hO.all hL30.out hnl (j := 3) (by omega)
            have a4 := hO.all hL30.out hnl (j := 4) (by omega)
            have SP := Mr.hid (spoilt_any (hO.fam.done n hnl) (hXi.out n hnl) (by omega) (by omega))
            replace hO := Mr.hid hO
            have hlI : (n : Int) < 6 := by omega
            have hw1 : IntKind.i64.wrap ((n : Int) + 1) = (n : Int) + 1 := i64w _ (by omega) (by omega)
            have hw2 : IntKind.i64.wrap (1000 * ((n : Int) + 1)) = 1000 * ((n : Int) + 1) := i64w _ (by omega) (by omega)
            generalize at5 L n 0 = V0 at *
            generalize at5 L n 1 = V1 at *
            generalize at5 L n 2 = V2 at *
            generalize at5 L n 3 = V3 at *
            generalize at5 L n 4 = V4 at *
            go_wp2_with (go_at_call 15; refine SP.out.mono ?_; clear SP; rintro e w28 ⟨rfl, hB28⟩; replace hO := Mr.hid (hO.out.next hB28); clear hB28)
            go_roundg (gk - 1)
            case measure => omega
            case rel => exact ⟨n + 1, by simp, by omega, hO.out⟩
          · have hge2 : decide ((n : Int) < 6) = false := decide_eq_false (by omega)
            replace hO := Mr.hid hO
            go_wp2
            go_ret
            exact ⟨rfl, hO.out.bel⟩
end Go.Proofs.Ytglohochdgeonaa.Md
