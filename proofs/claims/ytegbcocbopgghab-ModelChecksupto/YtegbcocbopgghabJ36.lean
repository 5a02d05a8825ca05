import Derived.Test.YtegbcocbopgghabJ34
import Derived.Test.YtegbcocbopgghabJ35
import Derived.Deep.RegionHeld3
/-
  ModelApart: the walk.
-/
namespace Go.Proofs.Ytegbcocbopgghab.Md
open Go.RowKit Mr Me
set_option linter.unusedVariables false
set_option linter.unusedSimpArgs false
def mvO (th op arg data : Int) : Obj := .cells #[.int .i64 th, .int .i64 op, .int .i64 arg, .int .i64 data] 41 (0, 0)
/-- A move in its box. -/
structure Mb (w : World) (b : Nat) (th op arg data : Int) : Prop where
  box : w.heap[b]? = some (mvO th op arg data)
theorem Mb.next {w w' : World} {b : Nat} {th op arg data : Int} (h : Mb w b th op arg data) (hB : Below w.heap.size w w') : Mb w' b th op arg data :=
  ⟨(hB.block _ (Array.getElem?_eq_some_iff.1 h.box).1).trans h.box⟩
theorem mvO_cells {W : World} {b : Nat} {th op arg data : Int} (h : W.heap[b]? = some (mvO th op arg data)) : W.cell? ⟨b, 1, none⟩ = some (.int .i64 op) ∧ W.cell? ⟨b, 2, none⟩ = some (.int .i64 arg) ∧ W.cell? ⟨b, 3, none⟩ = some (.int .i64 data) ∧ b < W.heap.size :=
  ⟨cell_blk h 1, cell_blk h 2, cell_blk h 3, (Array.getElem?_eq_some_iff.1 h).1⟩
theorem righted3 {W w0 w1 wM : World} {u0 u1 u2 u3 u4 v0 v1 v2 v3 v4 : Value} {y : Ct} {t1 o1 r1 d1 t2 o2 r2 d2 : Int} (h0 : w0 = ((W.alloc (ctO u0 u1 u2 u3 u4)).alloc (mvO t1 o1 r1 d1)).alloc (mvO t2 o2 r2 d2)) (hM : wM = set5 w1 W.heap.size v0 v1 v2 v3 v4) (hB : Below w0.heap.size w0 w1) (hl : CtAt w1 (fun k => w0.heap.size ≤ k) v0 v1 v2 v3 v4 y) :
    Bl wM W ∧ Cb wM W.heap.size v0 v1 v2 v3 v4 y ∧ Mb wM (W.heap.size + 1) t1 o1 r1 d1 ∧ Mb wM (W.heap.size + 2) t2 o2 r2 d2 ∧ w1.heap[W.heap.size]? = some (ctO u0 u1 u2 u3 u4) := by
  subst hM
  have B0 := (((Below.refl W.heap.size W).alloc (Nat.le_refl _) (ctO u0 u1 u2 u3 u4)).alloc (by simp) (mvO t1 o1 r1 d1)).alloc (by simp; omega) (mvO t2 o2 r2 d2)
  have g0 : w0.heap[W.heap.size]? = some (ctO u0 u1 u2 u3 u4) := by rw [h0]; exact old_at (old_at (new_at W _ _ rfl) _) _
  have g1 : w0.heap[W.heap.size + 1]? = some (mvO t1 o1 r1 d1) := by rw [h0]; exact old_at (new_at _ _ _ (by simp)) _
  have g2 : w0.heap[W.heap.size + 2]? = some (mvO t2 o2 r2 d2) := by rw [h0]; exact new_at _ _ _ (by simp)
  rw [← h0] at B0
  have hs0 : W.heap.size < w0.heap.size := (Array.getElem?_eq_some_iff.1 g0).1
  have B1 := B0.trans (hB.mono B0.size)
  have k0 := (hB.block _ hs0).trans g0
  have k1 := (hB.block _ (Array.getElem?_eq_some_iff.1 g1).1).trans g1
  have k2 := (hB.block _ (Array.getElem?_eq_some_iff.1 g2).1).trans g2
  exact ⟨⟨set5_below v0 v1 v2 v3 v4 B1 (Nat.le_refl _)⟩, ⟨set5_at v0 v1 v2 v3 v4 k0, (hl.fr (set5_fr w1 W.heap.size v0 v1 v2 v3 v4) (fun k hk _ e => by subst e; omega)).mono (fun _ _ => trivial)⟩, ⟨(set5_far w1 W.heap.size v0 v1 v2 v3 v4 _ (by omega)).trans k1⟩, ⟨(set5_far w1 W.heap.size v0 v1 v2 v3 v4 _ (by omega)).trans k2⟩, k0⟩
theorem made1 {w w1 wM : World} {l0 l1 l2 l3 l4 : Value} {y : Ct} {T : Nat → Prop} (hM : wM = w1.alloc (ctO l0 l1 l2 l3 l4)) (hB : Below w.heap.size w w1) (hl : CtAt w1 T l0 l1 l2 l3 l4 y) :
    Below w.heap.size w wM ∧ Cb wM w1.heap.size l0 l1 l2 l3 l4 y := by
  subst hM
  have Y := (Below.refl w1.heap.size w1).alloc (Nat.le_refl _) (ctO l0 l1 l2 l3 l4)
  exact ⟨hB.trans (Y.mono hB.size), ⟨new_at _ _ _ rfl, (hl.mono (fun _ _ => trivial)).below Y⟩⟩
theorem prt_inA {B : Nat} {x : Ct} (h : CtIn B x) (o : Int) : CtIn B (prt x o) := by
  obtain ⟨h0, h1, h2, h3, h4⟩ := h
  refine ⟨?_, ?_, ?_, ?_, ?_⟩
  · show (if o = 1 then x.cell else []).length * 8 ≤ B; split; exact h0; simp
  · show (if o = 2 then x.stack else []).length * 8 ≤ B; split; exact h1; simp
  · show (if o = 3 then x.queue else []).length * 8 ≤ B; split; exact h2; simp
  · show (if o = 4 then x.set else []).length * 8 ≤ B; split; exact h3; simp
  · show (if o = 5 then x.table else []).length * 16 ≤ B; split; exact h4; simp
set_option maxRecDepth 100000 in
set_option maxHeartbeats 64000000 in
theorem walk_apart (u0 u1 u2 u3 u4 : Value) (x : Ct) (th1 op1 r1 d1 th2 op2 r2 d2 : Int) (W : World) (hu : CtAt W (fun _ => True) u0 u1 u2 u3 u4 x) (hx : CtIn 140737488351232 x) :
    Calls Try.prog 4 #[.agg #[u0, u1, u2, u3, u4], .agg #[.int .i64 th1, .int .i64 op1, .int .i64 r1, .int .i64 d1], .agg #[.int .i64 th2, .int .i64 op2, .int .i64 r2, .int .i64 d2]] W fun e w' => e = .returned (.bool true) ∧ Below W.heap.size W w' := by
  obtain ⟨y, hm, hy, CRT⟩ := right_any hx
  obtain ⟨a, ha, CP1⟩ := pick_any op1
  obtain ⟨b, hb, CP2⟩ := pick_any op2
  obtain ⟨a0, c0, rfl, _⟩ := hu.cell.form
  obtain ⟨a1, c1, rfl, _⟩ := hu.stack.form
  obtain ⟨a2, c2, rfl, _⟩ := hu.queue.form
  obtain ⟨a3, c3, rfl, _⟩ := hu.set.form
  obtain ⟨a4, c4, rfl, _⟩ := hu.table.form
  obtain ⟨z, hz⟩ : ∃ z, z = dnx y a r1 d1 := ⟨_, rfl⟩
  obtain ⟨ka, va, hka⟩ : ∃ k v, dan y a r1 = (k, v) := ⟨_, _, rfl⟩
  obtain ⟨o, ho⟩ : ∃ o, o = obj a := ⟨_, rfl⟩
  obtain ⟨p, hp⟩ : ∃ p, p = prt y o := ⟨_, rfl⟩
  obtain ⟨q, hq⟩ : ∃ q, q = prt z o := ⟨_, rfl⟩
  have mz : May z := by rw [hz]; exact may_dnx hm ha r1 d1
  have mp : May p := by rw [hp]; exact may_prt hm o
  have npq : dnx p a r1 d1 = q := by rw [hp, ho, dnx_prt y ha, hq, hz, ho]
  have npa : dan p a r1 = (ka, va) := by rw [hp, ho, dan_prt y ha, hka]
  have iz : CtIn 140737488351248 z := by rw [hz]; exact dnx_in hy a r1 d1
  have ip : CtIn 140737488351232 p := by rw [hp]; exact prt_inA hy o
  have hyi := hy.mono (show 140737488351232 ≤ 225000000000000 by decide)
  have hzi := iz.mono (show 140737488351248 ≤ 225000000000000 by decide)
  have hpi := ip.mono (show 140737488351232 ≤ 225000000000000 by decide)
  have sz := iz.sm (show 140737488351248 ≤ 281474976710656 by decide)
  have ob := obj_in ha
  rw [← ho] at ob
  obtain ⟨w0, hw0⟩ : ∃ w0, w0 = ((W.alloc (ctO (.slice a0 x.cell.length c0) (.slice a1 x.stack.length c1) (.slice a2 x.queue.length c2) (.slice a3 x.set.length c3) (.slice a4 x.table.length c4))).alloc (mvO th1 op1 r1 d1)).alloc (mvO th2 op2 r2 d2) := ⟨_, rfl⟩
  have X0 : Below W.heap.size W w0 := by rw [hw0]; exact (((Below.refl W.heap.size W).alloc (Nat.le_refl _) _).alloc (by simp) _).alloc (by simp; omega) _
  have U0 := hu.below X0
  have CR1 := CRT w0 _ _ _ _ _ _ U0
  have g0 : w0.heap[W.heap.size]? = some (ctO (.slice a0 x.cell.length c0) (.slice a1 x.stack.length c1) (.slice a2 x.queue.length c2) (.slice a3 x.set.length c3) (.slice a4 x.table.length c4)) := by rw [hw0]; exact old_at (old_at (new_at W _ _ rfl) _) _
  clear hu U0 X0 CRT
  replace CR1 := Mr.hid CR1
  replace CP1 := Mr.hid CP1
  replace CP2 := Mr.hid CP2
  replace hm := Mr.hid hm
  replace mz := Mr.hid mz
  replace mp := Mr.hid mp
  replace hz := Mr.hid hz
  replace hka := Mr.hid hka
  replace ho := Mr.hid ho
  replace hp := Mr.hid hp
  replace hq := Mr.hid hq
  replace npq := Mr.hid npq
  replace npa := Mr.hid npa
  replace ha := Mr.hid ha
  replace hb := Mr.hid hb
  replace hw0 := Mr.hid hw0
  replace g0 := Mr.hid g0
  go_enter Try.func4, Try.ntmps4
  go_upto_region 1 with (fail)
  rw [show ((W.alloc (.cells #[.slice a0 x.cell.length c0, .slice a1 x.stack.length c1, .slice a2 x.queue.length c2, .slice a3 x.set.length c3, .slice a4 x.table.length c4] 25 (0, 0))).alloc (.cells #[.int .i64 th1, .int .i64 op1, .int .i64 r1, .int .i64 d1] 41 (0, 0))).alloc (.cells #[.int .i64 th2, .int .i64 op2, .int .i64 r2, .int .i64 d2] 41 (0, 0)) = w0 from by rw [hw0.out]; rfl]
  obtain ⟨e0, e1, e2, e3, e4, el⟩ := ctO_cells g0.out
  go_upto_region 2 with (go_at_call 9; refine CR1.out.mono ?_; clear CR1; rintro e w1 ⟨v0, v1, v2, v3, v4, rfl, hv, hB1⟩; obtain ⟨hD, hS, m1, m2, hg⟩ := righted3 hw0.out rfl hB1 hv; clear hB1 e0 e1 e2 e3 e4 el; obtain ⟨s0, t0, rfl, _⟩ := hv.cell.form; obtain ⟨s1, t1, rfl, _⟩ := hv.stack.form; obtain ⟨s2, t2, rfl, _⟩ := hv.queue.form; obtain ⟨s3, t3, rfl, _⟩ := hv.set.form; obtain ⟨s4, t4, rfl, _⟩ := hv.table.form;  clear hv; obtain ⟨k0, k1, k2, k3, k4, kl⟩ := ctO_cells hg; obtain ⟨f0, f1, f2, f3, f4⟩ := ctO_thaw hg; clear hg; replace hD := Mr.hid hD; replace hS := Mr.hid hS; replace m1 := Mr.hid m1; replace m2 := Mr.hid m2)
  rw [show W.heap.size + 1 + 1 = W.heap.size + 2 from rfl]
  clear k0 k1 k2 k3 k4 kl f0 f1 f2 f3 f4 g0
  replace hD := hD.out
  replace hS := hS.out
  replace m1 := m1.out
  replace m2 := m2.out
  conv at hD => arg 1; unfold set5
  conv at hS => arg 1; unfold set5
  conv at m1 => arg 1; unfold set5
  conv at m2 => arg 1; unfold set5
  generalize (((((w1.setCell { block := W.heap.size, off := 0 } (.slice s0 y.cell.length t0)).setCell { block := W.heap.size, off := 1 } (.slice s1 y.stack.length t1)).setCell { block := W.heap.size, off := 2 } (.slice s2 y.queue.length t2)).setCell { block := W.heap.size, off := 3 } (.slice s3 y.set.length t3)).setCell { block := W.heap.size, off := 4 } (.slice s4 y.table.length t4)) = x0 at *
  clear w1 hw0 w0
  have dr := (Below.refl x0.heap.size x0).drew
  replace hD := Mr.hid (hD.next dr)
  replace hS := Mr.hid (hS.next dr)
  replace m1 := Mr.hid (m1.next dr)
  replace m2 := Mr.hid (m2.next dr)
  clear dr
  obtain ⟨i1, i2, i3, i4⟩ := mvO_cells m1.out.box
  obtain ⟨j1, j2, j3, j4⟩ := mvO_cells m2.out.box
  have t1 : Hid True := trivial
  go_region_held3 (fun w' => w'.cell? ⟨W.heap.size + 1, 1, none⟩ = some (.int .i64 op1) ∧ w'.cell? ⟨W.heap.size + 2, 1, none⟩ = some (.int .i64 op2)) (first | with_reducible exact KS.out | go_keep) (first | (clear t1; go_at_call 14; refine (CP1.out _).mono ?_; rintro e wa ⟨rfl, hB⟩; have hD := Mr.hid (hD.out.next hB); have hS := Mr.hid (hS.out.next hB); have m1 := Mr.hid (m1.out.next hB); have m2 := Mr.hid (m2.out.next hB); have KS := Mr.hid (And.intro (mvO_cells m1.out.box).1 (mvO_cells m2.out.box).1); clear hB) | (go_at_call 14; refine (CP2.out _).mono ?_; rintro e wb ⟨rfl, hB⟩; have hD := Mr.hid (hD.out.next hB); have hS := Mr.hid (hS.out.next hB); have m1 := Mr.hid (m1.out.next hB); have m2 := Mr.hid (m2.out.next hB); have KS := Mr.hid (And.intro (mvO_cells m1.out.box).1 (mvO_cells m2.out.box).1); clear hB))
  rename_i hHd
  clear hHd i1 i2 i3 i4 j1 j2 j3 j4 KS CP1 CP2
  go_upto_region 3 with (fail)
  have C := mDo_any hS.out.at_ (hyi) (hm.out) a r1 d1 (ha.out)
  rw [hka.out, ← hz.out] at C
  replace C := Mr.hid C
  obtain ⟨e0, e1, e2, e3, e4, el⟩ := ctO_cells hS.out.box
  obtain ⟨wm1_1, wm1_2, wm1_3, wm1_4⟩ := mvO_cells m1.out.box
  go_upto_region 4 with (first | (go_at_call 10; refine C.out.mono ?_; clear C; rintro e y1 ⟨v0, v1, v2, v3, v4, rfl, hl, hB⟩; unfold ans; obtain ⟨z1_0, m1_0, rfl, _⟩ := hl.cell.form; obtain ⟨z1_1, m1_1, rfl, _⟩ := hl.stack.form; obtain ⟨z1_2, m1_2, rfl, _⟩ := hl.queue.form; obtain ⟨z1_3, m1_3, rfl, _⟩ := hl.set.form; obtain ⟨z1_4, m1_4, rfl, _⟩ := hl.table.form;  clear e0 e1 e2 e3 e4 el; clear wm1_1 wm1_2 wm1_3 wm1_4; replace hl := Mr.hid hl; replace hB := Mr.hid hB))
  obtain ⟨x1, hM⟩ : ∃ w', w' = (y1.alloc (ctO (.slice z1_0 z.cell.length m1_0) (.slice z1_1 z.stack.length m1_1) (.slice z1_2 z.queue.length m1_2) (.slice z1_3 z.set.length m1_3) (.slice z1_4 z.table.length m1_4))).alloc (ansO ka va) := ⟨_, rfl⟩
  obtain ⟨Z, lefc, lefa⟩ := made hM hB.out hl.out
  rw [show (y1.alloc (.cells #[.slice z1_0 z.cell.length m1_0, .slice z1_1 z.stack.length m1_1, .slice z1_2 z.queue.length m1_2, .slice z1_3 z.set.length m1_3, .slice z1_4 z.table.length m1_4] 25 (0, 0))).alloc (.cells #[.int .i64 ka, .int .i64 va] 31 (0, 0)) = x1 from by rw [hM]; rfl]
  obtain ⟨b1, hb⟩ : ∃ b, b = y1.heap.size := ⟨_, rfl⟩
  rw [← hb] at lefc lefa ⊢
  replace hD := Mr.hid (hD.out.next Z)
  replace hS := Mr.hid (hS.out.next Z)
  replace m1 := Mr.hid (m1.out.next Z)
  replace m2 := Mr.hid (m2.out.next Z)
  replace lefc := Mr.hid lefc
  replace lefa := Mr.hid lefa
  clear Z hM hb hl hB
  have t0 : Hid True := trivial
  have t2 : Hid True := trivial
  have CO := mObject_any a
  rw [← ho.out] at CO
  replace CO := Mr.hid CO
  go_upto_region 7 with (first | (clear t0; go_at_call 11; refine (awake_any _).mono ?_; rintro e w8 ⟨rfl, hB⟩; have hD := Mr.hid (hD.out.next hB); have hS := Mr.hid (hS.out.next hB); have m1 := Mr.hid (m1.out.next hB); have m2 := Mr.hid (m2.out.next hB); have lefc := Mr.hid (lefc.out.next hB); have lefa := Mr.hid (lefa.out.next hB); clear hB; obtain ⟨q0_0, q0_1, q0_2, q0_3, q0_4, q0_5⟩ := ctO_cells lefc.out.box) | (clear t2; go_at_call 13; refine (mayT lefc.out sz mz.out).mono ?_; clear q0_0 q0_1 q0_2 q0_3 q0_4 q0_5; rintro e w9 ⟨rfl, hB⟩; have hD := Mr.hid (hD.out.next hB); have hS := Mr.hid (hS.out.next hB); have m1 := Mr.hid (m1.out.next hB); have m2 := Mr.hid (m2.out.next hB); have lefc := Mr.hid (lefc.out.next hB); have lefa := Mr.hid (lefa.out.next hB); clear hB) | (go_at_call 15; refine (CO.out _).mono ?_; clear CO; rintro e w10 ⟨rfl, hB⟩; have hD := Mr.hid (hD.out.next hB); have hS := Mr.hid (hS.out.next hB); have m1 := Mr.hid (m1.out.next hB); have m2 := Mr.hid (m2.out.next hB); have lefc := Mr.hid (lefc.out.next hB); have lefa := Mr.hid (lefa.out.next hB); clear hB))
  have C := mPart_any hS.out.at_ (hyi) (hm.out) o (ob.1) (ob.2)
  rw [← hp.out] at C
  replace C := Mr.hid C
  obtain ⟨e0, e1, e2, e3, e4, el⟩ := ctO_cells hS.out.box
  go_upto_region 8 with (first | (go_at_call 16; refine C.out.mono ?_; clear C; rintro e y2 ⟨v0, v1, v2, v3, v4, rfl, hl, hB⟩; obtain ⟨z2_0, m2_0, rfl, _⟩ := hl.cell.form; obtain ⟨z2_1, m2_1, rfl, _⟩ := hl.stack.form; obtain ⟨z2_2, m2_2, rfl, _⟩ := hl.queue.form; obtain ⟨z2_3, m2_3, rfl, _⟩ := hl.set.form; obtain ⟨z2_4, m2_4, rfl, _⟩ := hl.table.form;  clear e0 e1 e2 e3 e4 el; replace hl := Mr.hid hl; replace hB := Mr.hid hB))
  obtain ⟨x2, hM⟩ : ∃ w', w' = y2.alloc (ctO (.slice z2_0 p.cell.length m2_0) (.slice z2_1 p.stack.length m2_1) (.slice z2_2 p.queue.length m2_2) (.slice z2_3 p.set.length m2_3) (.slice z2_4 p.table.length m2_4)) := ⟨_, rfl⟩
  obtain ⟨Z, parc⟩ := made1 hM hB.out hl.out
  rw [show y2.alloc (.cells #[.slice z2_0 p.cell.length m2_0, .slice z2_1 p.stack.length m2_1, .slice z2_2 p.queue.length m2_2, .slice z2_3 p.set.length m2_3, .slice z2_4 p.table.length m2_4] 25 (0, 0)) = x2 from by rw [hM]; rfl]
  obtain ⟨b2, hb⟩ : ∃ b, b = y2.heap.size := ⟨_, rfl⟩
  rw [← hb] at parc ⊢
  replace hD := Mr.hid (hD.out.next Z)
  replace hS := Mr.hid (hS.out.next Z)
  replace m1 := Mr.hid (m1.out.next Z)
  replace m2 := Mr.hid (m2.out.next Z)
  replace lefc := Mr.hid (lefc.out.next Z)
  replace lefa := Mr.hid (lefa.out.next Z)
  replace parc := Mr.hid parc
  clear Z hM hb hl hB
  go_upto_region 10 with (fail)
  have C := mDo_any parc.out.at_ (hpi) (mp.out) a r1 d1 (ha.out)
  rw [npa.out, npq.out] at C
  replace C := Mr.hid C
  obtain ⟨e0, e1, e2, e3, e4, el⟩ := ctO_cells parc.out.box
  obtain ⟨wm1_1, wm1_2, wm1_3, wm1_4⟩ := mvO_cells m1.out.box
  go_upto_region 11 with (first | (go_at_call 10; refine C.out.mono ?_; clear C; rintro e y3 ⟨v0, v1, v2, v3, v4, rfl, hl, hB⟩; unfold ans; obtain ⟨z3_0, m3_0, rfl, _⟩ := hl.cell.form; obtain ⟨z3_1, m3_1, rfl, _⟩ := hl.stack.form; obtain ⟨z3_2, m3_2, rfl, _⟩ := hl.queue.form; obtain ⟨z3_3, m3_3, rfl, _⟩ := hl.set.form; obtain ⟨z3_4, m3_4, rfl, _⟩ := hl.table.form;  clear e0 e1 e2 e3 e4 el; clear wm1_1 wm1_2 wm1_3 wm1_4; replace hl := Mr.hid hl; replace hB := Mr.hid hB))
  obtain ⟨x3, hM⟩ : ∃ w', w' = (y3.alloc (ctO (.slice z3_0 q.cell.length m3_0) (.slice z3_1 q.stack.length m3_1) (.slice z3_2 q.queue.length m3_2) (.slice z3_3 q.set.length m3_3) (.slice z3_4 q.table.length m3_4))).alloc (ansO ka va) := ⟨_, rfl⟩
  obtain ⟨Z, aloc, aloa⟩ := made hM hB.out hl.out
  rw [show (y3.alloc (.cells #[.slice z3_0 q.cell.length m3_0, .slice z3_1 q.stack.length m3_1, .slice z3_2 q.queue.length m3_2, .slice z3_3 q.set.length m3_3, .slice z3_4 q.table.length m3_4] 25 (0, 0))).alloc (.cells #[.int .i64 ka, .int .i64 va] 31 (0, 0)) = x3 from by rw [hM]; rfl]
  obtain ⟨b3, hb⟩ : ∃ b, b = y3.heap.size := ⟨_, rfl⟩
  rw [← hb] at aloc aloa ⊢
  replace hD := Mr.hid (hD.out.next Z)
  replace hS := Mr.hid (hS.out.next Z)
  replace m1 := Mr.hid (m1.out.next Z)
  replace m2 := Mr.hid (m2.out.next Z)
  replace lefc := Mr.hid (lefc.out.next Z)
  replace lefa := Mr.hid (lefa.out.next Z)
  replace parc := Mr.hid (parc.out.next Z)
  replace aloc := Mr.hid aloc
  replace aloa := Mr.hid aloa
  clear Z hM hb hl hB
  obtain ⟨r0_0, r0_1, r0_2, -, -⟩ := ansO_cells lefa.out.box
  obtain ⟨r1_0, r1_1, r1_2, -, -⟩ := ansO_cells aloa.out.box
  have bk : (ka != ka) = false := by simp
  have bv : (va != va) = false := by simp
  have bk2 : (ka == ka) = true := by simp
  have bv2 : (va == va) = true := by simp
  go_upto_region 13 with (fail)
  clear r0_0 r0_1 r0_2 r1_0 r1_1 r1_2
  have hko0 : ∀ i : Nat, ((i : Int) + 1 == o) = true ∨ ((i : Int) + 1 == o) = false := fun i => by cases ((i : Int) + 1 == o) <;> simp
  replace hko0 := Mr.hid hko0
  have sq : CtSm q := by rw [hq.out]; exact (prt_inA iz o).sm (by decide)
  go_wp2
  go_loopg [16] 5 (fun k s wr => ∃ i : Nat, s = .int .i64 ((i : Int) + 1) ∧ i + k = 5 ∧ Bl wr W ∧ Cb wr W.heap.size (.slice s0 y.cell.length t0) (.slice s1 y.stack.length t1) (.slice s2 y.queue.length t2) (.slice s3 y.set.length t3) (.slice s4 y.table.length t4) y ∧ Mb wr (W.heap.size + 1) th1 op1 r1 d1 ∧ Mb wr (W.heap.size + 2) th2 op2 r2 d2 ∧ Cb wr b1 (.slice z1_0 z.cell.length m1_0) (.slice z1_1 z.stack.length m1_1) (.slice z1_2 z.queue.length m1_2) (.slice z1_3 z.set.length m1_3) (.slice z1_4 z.table.length m1_4) z ∧ Ab wr (b1 + 1) ka va ∧ Cb wr b3 (.slice z3_0 q.cell.length m3_0) (.slice z3_1 q.stack.length m3_1) (.slice z3_2 q.queue.length m3_2) (.slice z3_3 q.set.length m3_3) (.slice z3_4 q.table.length m3_4) q)
  case atStart => exact ⟨0, rfl, by omega, hD.out, hS.out, m1.out, m2.out, lefc.out, lefa.out, aloc.out⟩
  case round =>
    clear hD hS m1 m2 lefc lefa aloc parc aloa
    obtain ⟨i, rfl, hi', hD, hS, m1, m2, lefc, lefa, aloc⟩ := hrel
    replace hD := Mr.hid hD
    replace hS := Mr.hid hS
    replace m1 := Mr.hid m1
    replace m2 := Mr.hid m2
    replace lefc := Mr.hid lefc
    replace lefa := Mr.hid lefa
    replace aloc := Mr.hid aloc
    by_cases hlt : i < 5
    · have dle : decide ((i : Int) + 1 ≤ 5) = true := decide_eq_true (by omega)
      have hw1 : IntKind.i64.wrap ((i : Int) + 1 + 1) = (i : Int) + 1 + 1 := i64w _ (by omega) (by omega)
      rcases hko0.out i with hko | hko
      · have hke : (i : Int) + 1 = o := by simpa using hko
        have e1' : prt y ((i : Int) + 1) = p := by rw [hke, hp.out]
        have e2' : prt z ((i : Int) + 1) = q := by rw [hke, hq.out]
        have hkn : ((i : Int) + 1 != o) = false := by simp [hke]
        replace e1' := Mr.hid e1'
        replace e2' := Mr.hid e2'
        replace hke := Mr.hid hke
        have C := mPart_any hS.out.at_ (hyi) (hm.out) ((i : Int) + 1) (by omega) (by omega)
        rw [e1'.out] at C
        replace C := Mr.hid C
        obtain ⟨e0, e1, e2, e3, e4, el⟩ := ctO_cells hS.out.box
        go_upto_region 17 with (first | (go_at_call 16; refine C.out.mono ?_; clear C; rintro e y11 ⟨v0, v1, v2, v3, v4, rfl, hl, hB⟩; obtain ⟨z11_0, m11_0, rfl, _⟩ := hl.cell.form; obtain ⟨z11_1, m11_1, rfl, _⟩ := hl.stack.form; obtain ⟨z11_2, m11_2, rfl, _⟩ := hl.queue.form; obtain ⟨z11_3, m11_3, rfl, _⟩ := hl.set.form; obtain ⟨z11_4, m11_4, rfl, _⟩ := hl.table.form;  clear e0 e1 e2 e3 e4 el; replace hl := Mr.hid hl; replace hB := Mr.hid hB))
        obtain ⟨x11, hM⟩ : ∃ w', w' = y11.alloc (ctO (.slice z11_0 p.cell.length m11_0) (.slice z11_1 p.stack.length m11_1) (.slice z11_2 p.queue.length m11_2) (.slice z11_3 p.set.length m11_3) (.slice z11_4 p.table.length m11_4)) := ⟨_, rfl⟩
        obtain ⟨Z, befc⟩ := made1 hM hB.out hl.out
        rw [show y11.alloc (.cells #[.slice z11_0 p.cell.length m11_0, .slice z11_1 p.stack.length m11_1, .slice z11_2 p.queue.length m11_2, .slice z11_3 p.set.length m11_3, .slice z11_4 p.table.length m11_4] 25 (0, 0)) = x11 from by rw [hM]; rfl]
        obtain ⟨b11, hb⟩ : ∃ b, b = y11.heap.size := ⟨_, rfl⟩
        rw [← hb] at befc ⊢
        replace hD := Mr.hid (hD.out.next Z)
        replace hS := Mr.hid (hS.out.next Z)
        replace m1 := Mr.hid (m1.out.next Z)
        replace m2 := Mr.hid (m2.out.next Z)
        replace lefc := Mr.hid (lefc.out.next Z)
        replace lefa := Mr.hid (lefa.out.next Z)
        replace aloc := Mr.hid (aloc.out.next Z)
        replace befc := Mr.hid befc
        clear Z hM hb hl hB
        have C := mPart_any lefc.out.at_ (hzi) (mz.out) ((i : Int) + 1) (by omega) (by omega)
        rw [e2'.out] at C
        replace C := Mr.hid C
        obtain ⟨e0, e1, e2, e3, e4, el⟩ := ctO_cells lefc.out.box
        go_upto_region 18 with (first | (go_at_call 16; refine C.out.mono ?_; clear C; rintro e y12 ⟨v0, v1, v2, v3, v4, rfl, hl, hB⟩; obtain ⟨z12_0, m12_0, rfl, _⟩ := hl.cell.form; obtain ⟨z12_1, m12_1, rfl, _⟩ := hl.stack.form; obtain ⟨z12_2, m12_2, rfl, _⟩ := hl.queue.form; obtain ⟨z12_3, m12_3, rfl, _⟩ := hl.set.form; obtain ⟨z12_4, m12_4, rfl, _⟩ := hl.table.form;  clear e0 e1 e2 e3 e4 el; replace hl := Mr.hid hl; replace hB := Mr.hid hB))
        obtain ⟨x12, hM⟩ : ∃ w', w' = y12.alloc (ctO (.slice z12_0 q.cell.length m12_0) (.slice z12_1 q.stack.length m12_1) (.slice z12_2 q.queue.length m12_2) (.slice z12_3 q.set.length m12_3) (.slice z12_4 q.table.length m12_4)) := ⟨_, rfl⟩
        obtain ⟨Z, aftc⟩ := made1 hM hB.out hl.out
        rw [show y12.alloc (.cells #[.slice z12_0 q.cell.length m12_0, .slice z12_1 q.stack.length m12_1, .slice z12_2 q.queue.length m12_2, .slice z12_3 q.set.length m12_3, .slice z12_4 q.table.length m12_4] 25 (0, 0)) = x12 from by rw [hM]; rfl]
        obtain ⟨b12, hb⟩ : ∃ b, b = y12.heap.size := ⟨_, rfl⟩
        rw [← hb] at aftc ⊢
        replace hD := Mr.hid (hD.out.next Z)
        replace hS := Mr.hid (hS.out.next Z)
        replace m1 := Mr.hid (m1.out.next Z)
        replace m2 := Mr.hid (m2.out.next Z)
        replace lefc := Mr.hid (lefc.out.next Z)
        replace lefa := Mr.hid (lefa.out.next Z)
        replace aloc := Mr.hid (aloc.out.next Z)
        replace befc := Mr.hid (befc.out.next Z)
        replace aftc := Mr.hid aftc
        clear Z hM hb hl hB
        obtain ⟨r0_0, r0_1, r0_2, r0_3, r0_4, r0_5⟩ := ctO_cells befc.out.box
        obtain ⟨r1_0, r1_1, r1_2, r1_3, r1_4, r1_5⟩ := ctO_cells aftc.out.box
        obtain ⟨r2_0, r2_1, r2_2, r2_3, r2_4, r2_5⟩ := ctO_cells aloc.out.box
        go_wp2_with (first | (go_at_call 12; refine (sameT aloc.out aftc.out sq).mono ?_; rintro e w8 ⟨rfl, hB⟩; have hD := Mr.hid (hD.out.next hB); have hS := Mr.hid (hS.out.next hB); have m1 := Mr.hid (m1.out.next hB); have m2 := Mr.hid (m2.out.next hB); have lefc := Mr.hid (lefc.out.next hB); have lefa := Mr.hid (lefa.out.next hB); have aloc := Mr.hid (aloc.out.next hB); clear hB))
        go_roundg (gk - 1)
        case measure => omega
        case rel => exact ⟨i + 1, by simp, by omega, hD.out, hS.out, m1.out, m2.out, lefc.out, lefa.out, aloc.out⟩
      · have hke : (i : Int) + 1 ≠ o := by simpa using hko
        obtain ⟨f, hf⟩ : ∃ f, f = prt y ((i : Int) + 1) := ⟨_, rfl⟩
        have e1' : prt y ((i : Int) + 1) = f := hf.symm
        have e2' : prt z ((i : Int) + 1) = f := by rw [hz.out, prt_ne y ha.out r1 d1 _ (by rw [← ho.out]; exact hke), hf]
        have hkn : ((i : Int) + 1 != o) = true := by simpa using hke
        have sf : CtSm f := by rw [hf]; exact (prt_inA hy _).sm (by decide)
        replace e1' := Mr.hid e1'
        replace e2' := Mr.hid e2'
        replace hke := Mr.hid hke
        replace hf := Mr.hid hf
        have C := mPart_any hS.out.at_ (hyi) (hm.out) ((i : Int) + 1) (by omega) (by omega)
        rw [e1'.out] at C
        replace C := Mr.hid C
        obtain ⟨e0, e1, e2, e3, e4, el⟩ := ctO_cells hS.out.box
        go_upto_region 17 with (first | (go_at_call 16; refine C.out.mono ?_; clear C; rintro e y21 ⟨v0, v1, v2, v3, v4, rfl, hl, hB⟩; obtain ⟨z21_0, m21_0, rfl, _⟩ := hl.cell.form; obtain ⟨z21_1, m21_1, rfl, _⟩ := hl.stack.form; obtain ⟨z21_2, m21_2, rfl, _⟩ := hl.queue.form; obtain ⟨z21_3, m21_3, rfl, _⟩ := hl.set.form; obtain ⟨z21_4, m21_4, rfl, _⟩ := hl.table.form;  clear e0 e1 e2 e3 e4 el; replace hl := Mr.hid hl; replace hB := Mr.hid hB))
        obtain ⟨x21, hM⟩ : ∃ w', w' = y21.alloc (ctO (.slice z21_0 f.cell.length m21_0) (.slice z21_1 f.stack.length m21_1) (.slice z21_2 f.queue.length m21_2) (.slice z21_3 f.set.length m21_3) (.slice z21_4 f.table.length m21_4)) := ⟨_, rfl⟩
        obtain ⟨Z, befc⟩ := made1 hM hB.out hl.out
        rw [show y21.alloc (.cells #[.slice z21_0 f.cell.length m21_0, .slice z21_1 f.stack.length m21_1, .slice z21_2 f.queue.length m21_2, .slice z21_3 f.set.length m21_3, .slice z21_4 f.table.length m21_4] 25 (0, 0)) = x21 from by rw [hM]; rfl]
        obtain ⟨b21, hb⟩ : ∃ b, b = y21.heap.size := ⟨_, rfl⟩
        rw [← hb] at befc ⊢
        replace hD := Mr.hid (hD.out.next Z)
        replace hS := Mr.hid (hS.out.next Z)
        replace m1 := Mr.hid (m1.out.next Z)
        replace m2 := Mr.hid (m2.out.next Z)
        replace lefc := Mr.hid (lefc.out.next Z)
        replace lefa := Mr.hid (lefa.out.next Z)
        replace aloc := Mr.hid (aloc.out.next Z)
        replace befc := Mr.hid befc
        clear Z hM hb hl hB
        have C := mPart_any lefc.out.at_ (hzi) (mz.out) ((i : Int) + 1) (by omega) (by omega)
        rw [e2'.out] at C
        replace C := Mr.hid C
        obtain ⟨e0, e1, e2, e3, e4, el⟩ := ctO_cells lefc.out.box
        go_upto_region 18 with (first | (go_at_call 16; refine C.out.mono ?_; clear C; rintro e y22 ⟨v0, v1, v2, v3, v4, rfl, hl, hB⟩; obtain ⟨z22_0, m22_0, rfl, _⟩ := hl.cell.form; obtain ⟨z22_1, m22_1, rfl, _⟩ := hl.stack.form; obtain ⟨z22_2, m22_2, rfl, _⟩ := hl.queue.form; obtain ⟨z22_3, m22_3, rfl, _⟩ := hl.set.form; obtain ⟨z22_4, m22_4, rfl, _⟩ := hl.table.form;  clear e0 e1 e2 e3 e4 el; replace hl := Mr.hid hl; replace hB := Mr.hid hB))
        obtain ⟨x22, hM⟩ : ∃ w', w' = y22.alloc (ctO (.slice z22_0 f.cell.length m22_0) (.slice z22_1 f.stack.length m22_1) (.slice z22_2 f.queue.length m22_2) (.slice z22_3 f.set.length m22_3) (.slice z22_4 f.table.length m22_4)) := ⟨_, rfl⟩
        obtain ⟨Z, aftc⟩ := made1 hM hB.out hl.out
        rw [show y22.alloc (.cells #[.slice z22_0 f.cell.length m22_0, .slice z22_1 f.stack.length m22_1, .slice z22_2 f.queue.length m22_2, .slice z22_3 f.set.length m22_3, .slice z22_4 f.table.length m22_4] 25 (0, 0)) = x22 from by rw [hM]; rfl]
        obtain ⟨b22, hb⟩ : ∃ b, b = y22.heap.size := ⟨_, rfl⟩
        rw [← hb] at aftc ⊢
        replace hD := Mr.hid (hD.out.next Z)
        replace hS := Mr.hid (hS.out.next Z)
        replace m1 := Mr.hid (m1.out.next Z)
        replace m2 := Mr.hid (m2.out.next Z)
        replace lefc := Mr.hid (lefc.out.next Z)
        replace lefa := Mr.hid (lefa.out.next Z)
        replace aloc := Mr.hid (aloc.out.next Z)
        replace befc := Mr.hid (befc.out.next Z)
        replace aftc := Mr.hid aftc
        clear Z hM hb hl hB
        obtain ⟨r0_0, r0_1, r0_2, r0_3, r0_4, r0_5⟩ := ctO_cells befc.out.box
        obtain ⟨r1_0, r1_1, r1_2, r1_3, r1_4, r1_5⟩ := ctO_cells aftc.out.box
        obtain ⟨r2_0, r2_1, r2_2, r2_3, r2_4, r2_5⟩ := ctO_cells aloc.out.box
        go_wp2_with (first | (go_at_call 12; refine (sameT befc.out aftc.out sf).mono ?_; rintro e w8 ⟨rfl, hB⟩; have hD := Mr.hid (hD.out.next hB); have hS := Mr.hid (hS.out.next hB); have m1 := Mr.hid (m1.out.next hB); have m2 := Mr.hid (m2.out.next hB); have lefc := Mr.hid (lefc.out.next hB); have lefa := Mr.hid (lefa.out.next hB); have aloc := Mr.hid (aloc.out.next hB); clear hB))
        go_roundg (gk - 1)
        case measure => omega
        case rel => exact ⟨i + 1, by simp, by omega, hD.out, hS.out, m1.out, m2.out, lefc.out, lefa.out, aloc.out⟩
    · have dle : decide ((i : Int) + 1 ≤ 5) = false := decide_eq_false (by omega)
      obtain ⟨o2, ho2⟩ : ∃ o, o = obj b := ⟨_, rfl⟩
      have CO2 := mObject_any b
      rw [← ho2] at CO2
      replace CO2 := Mr.hid CO2
      by_cases hoo : o2 = o
      · have hb1 : (o2 == o) = true := by rw [hoo]; simp
        replace hoo := Mr.hid hoo
        replace ho2 := Mr.hid ho2
        go_wp2_with (first | (go_at_call 15; refine (CO2.out _).mono ?_; clear CO2; rintro e w9 ⟨rfl, hB⟩; have hD := Mr.hid (hD.out.next hB); clear hB))
        go_ret
        exact ⟨rfl, hD.out.bel⟩
      have hb1 : (o2 == o) = false := by simpa using hoo
      have hne : obj b ≠ obj a := by rw [← ho2, ← ho.out]; exact hoo
      obtain ⟨kb, vb, hkb⟩ : ∃ k v, dan y b r2 = (k, v) := ⟨_, _, rfl⟩
      obtain ⟨g, hg⟩ : ∃ g, g = dnx z b r2 d2 := ⟨_, rfl⟩
      obtain ⟨h, hh⟩ : ∃ h, h = dnx y b r2 d2 := ⟨_, rfl⟩
      have s1' : dan z b r2 = (kb, vb) := by rw [hz.out, (swap_ops y ha.out hb.out hne r1 d1 r2 d2).1, hkb]
      have s2' : dan h a r1 = (ka, va) := by rw [hh, (swap_ops y hb.out ha.out hne.symm r2 d2 r1 d1).1, hka.out]
      have s3' : dnx h a r1 d1 = g := by rw [hh, hg, hz.out, (swap_ops y ha.out hb.out hne r1 d1 r2 d2).2]
      have mh : May h := by rw [hh]; exact may_dnx hm.out hb.out r2 d2
      have ih : CtIn 140737488351248 h := by rw [hh]; exact dnx_in hy b r2 d2
      have hhi := ih.mono (show 140737488351248 ≤ 225000000000000 by decide)
      have sg : CtSm g := by rw [hg]; exact (dnx_in iz b r2 d2).sm (by decide)
      replace hoo := Mr.hid hoo
      replace ho2 := Mr.hid ho2
      replace hne := Mr.hid hne
      replace hkb := Mr.hid hkb
      replace hg := Mr.hid hg
      replace hh := Mr.hid hh
      replace s1' := Mr.hid s1'
      replace s2' := Mr.hid s2'
      replace s3' := Mr.hid s3'
      replace mh := Mr.hid mh
      have cb1 : (kb == kb) = true := by simp
      have cb2 : (vb == vb) = true := by simp
      go_upto_region 22 with (first | (go_at_call 15; refine (CO2.out _).mono ?_; clear CO2; rintro e w9 ⟨rfl, hB⟩; have hD := Mr.hid (hD.out.next hB); have hS := Mr.hid (hS.out.next hB); have m1 := Mr.hid (m1.out.next hB); have m2 := Mr.hid (m2.out.next hB); have lefc := Mr.hid (lefc.out.next hB); have lefa := Mr.hid (lefa.out.next hB); have aloc := Mr.hid (aloc.out.next hB); clear hB))
      have C := mDo_any lefc.out.at_ (hzi) (mz.out) b r2 d2 (hb.out)
      rw [s1'.out, ← hg.out] at C
      replace C := Mr.hid C
      obtain ⟨e0, e1, e2, e3, e4, el⟩ := ctO_cells lefc.out.box
      obtain ⟨wm2_1, wm2_2, wm2_3, wm2_4⟩ := mvO_cells m2.out.box
      go_upto_region 23 with (first | (go_at_call 10; refine C.out.mono ?_; clear C; rintro e y31 ⟨v0, v1, v2, v3, v4, rfl, hl, hB⟩; unfold ans; obtain ⟨z31_0, m31_0, rfl, _⟩ := hl.cell.form; obtain ⟨z31_1, m31_1, rfl, _⟩ := hl.stack.form; obtain ⟨z31_2, m31_2, rfl, _⟩ := hl.queue.form; obtain ⟨z31_3, m31_3, rfl, _⟩ := hl.set.form; obtain ⟨z31_4, m31_4, rfl, _⟩ := hl.table.form;  clear e0 e1 e2 e3 e4 el; clear wm2_1 wm2_2 wm2_3 wm2_4; replace hl := Mr.hid hl; replace hB := Mr.hid hB))
      obtain ⟨x31, hM⟩ : ∃ w', w' = (y31.alloc (ctO (.slice z31_0 g.cell.length m31_0) (.slice z31_1 g.stack.length m31_1) (.slice z31_2 g.queue.length m31_2) (.slice z31_3 g.set.length m31_3) (.slice z31_4 g.table.length m31_4))).alloc (ansO kb vb) := ⟨_, rfl⟩
      obtain ⟨Z, abxc, abxa⟩ := made hM hB.out hl.out
      rw [show (y31.alloc (.cells #[.slice z31_0 g.cell.length m31_0, .slice z31_1 g.stack.length m31_1, .slice z31_2 g.queue.length m31_2, .slice z31_3 g.set.length m31_3, .slice z31_4 g.table.length m31_4] 25 (0, 0))).alloc (.cells #[.int .i64 kb, .int .i64 vb] 31 (0, 0)) = x31 from by rw [hM]; rfl]
      obtain ⟨b31, hb⟩ : ∃ b, b = y31.heap.size := ⟨_, rfl⟩
      rw [← hb] at abxc abxa ⊢
      replace hD := Mr.hid (hD.out.next Z)
      replace hS := Mr.hid (hS.out.next Z)
      replace m1 := Mr.hid (m1.out.next Z)
      replace m2 := Mr.hid (m2.out.next Z)
      replace lefc := Mr.hid (lefc.out.next Z)
      replace lefa := Mr.hid (lefa.out.next Z)
      replace aloc := Mr.hid (aloc.out.next Z)
      replace abxc := Mr.hid abxc
      replace abxa := Mr.hid abxa
      clear Z hM hb hl hB
      have C := mDo_any hS.out.at_ (hyi) (hm.out) b r2 d2 (hb.out)
      rw [hkb.out, ← hh.out] at C
      replace C := Mr.hid C
      obtain ⟨e0, e1, e2, e3, e4, el⟩ := ctO_cells hS.out.box
      obtain ⟨wm2_1, wm2_2, wm2_3, wm2_4⟩ := mvO_cells m2.out.box
      go_upto_region 24 with (first | (go_at_call 10; refine C.out.mono ?_; clear C; rintro e y32 ⟨v0, v1, v2, v3, v4, rfl, hl, hB⟩; unfold ans; obtain ⟨z32_0, m32_0, rfl, _⟩ := hl.cell.form; obtain ⟨z32_1, m32_1, rfl, _⟩ := hl.stack.form; obtain ⟨z32_2, m32_2, rfl, _⟩ := hl.queue.form; obtain ⟨z32_3, m32_3, rfl, _⟩ := hl.set.form; obtain ⟨z32_4, m32_4, rfl, _⟩ := hl.table.form;  clear e0 e1 e2 e3 e4 el; clear wm2_1 wm2_2 wm2_3 wm2_4; replace hl := Mr.hid hl; replace hB := Mr.hid hB))
      obtain ⟨x32, hM⟩ : ∃ w', w' = (y32.alloc (ctO (.slice z32_0 h.cell.length m32_0) (.slice z32_1 h.stack.length m32_1) (.slice z32_2 h.queue.length m32_2) (.slice z32_3 h.set.length m32_3) (.slice z32_4 h.table.length m32_4))).alloc (ansO kb vb) := ⟨_, rfl⟩
      obtain ⟨Z, othc, otha⟩ := made hM hB.out hl.out
      rw [show (y32.alloc (.cells #[.slice z32_0 h.cell.length m32_0, .slice z32_1 h.stack.length m32_1, .slice z32_2 h.queue.length m32_2, .slice z32_3 h.set.length m32_3, .slice z32_4 h.table.length m32_4] 25 (0, 0))).alloc (.cells #[.int .i64 kb, .int .i64 vb] 31 (0, 0)) = x32 from by rw [hM]; rfl]
      obtain ⟨b32, hb⟩ : ∃ b, b = y32.heap.size := ⟨_, rfl⟩
      rw [← hb] at othc otha ⊢
      replace hD := Mr.hid (hD.out.next Z)
      replace hS := Mr.hid (hS.out.next Z)
      replace m1 := Mr.hid (m1.out.next Z)
      replace m2 := Mr.hid (m2.out.next Z)
      replace lefc := Mr.hid (lefc.out.next Z)
      replace lefa := Mr.hid (lefa.out.next Z)
      replace aloc := Mr.hid (aloc.out.next Z)
      replace abxc := Mr.hid (abxc.out.next Z)
      replace abxa := Mr.hid (abxa.out.next Z)
      replace othc := Mr.hid othc
      replace otha := Mr.hid otha
      clear Z hM hb hl hB
      have C := mDo_any othc.out.at_ (hhi) (mh.out) a r1 d1 (ha.out)
      rw [s2'.out, s3'.out] at C
      replace C := Mr.hid C
      obtain ⟨e0, e1, e2, e3, e4, el⟩ := ctO_cells othc.out.box
      obtain ⟨wm1_1, wm1_2, wm1_3, wm1_4⟩ := mvO_cells m1.out.box
      go_upto_region 25 with (first | (go_at_call 10; refine C.out.mono ?_; clear C; rintro e y33 ⟨v0, v1, v2, v3, v4, rfl, hl, hB⟩; unfold ans; obtain ⟨z33_0, m33_0, rfl, _⟩ := hl.cell.form; obtain ⟨z33_1, m33_1, rfl, _⟩ := hl.stack.form; obtain ⟨z33_2, m33_2, rfl, _⟩ := hl.queue.form; obtain ⟨z33_3, m33_3, rfl, _⟩ := hl.set.form; obtain ⟨z33_4, m33_4, rfl, _⟩ := hl.table.form;  clear e0 e1 e2 e3 e4 el; clear wm1_1 wm1_2 wm1_3 wm1_4; replace hl := Mr.hid hl; replace hB := Mr.hid hB))
      obtain ⟨x33, hM⟩ : ∃ w', w' = (y33.alloc (ctO (.slice z33_0 g.cell.length m33_0) (.slice z33_1 g.stack.length m33_1) (.slice z33_2 g.queue.length m33_2) (.slice z33_3 g.set.length m33_3) (.slice z33_4 g.table.length m33_4))).alloc (ansO ka va) := ⟨_, rfl⟩
      obtain ⟨Z, baxc, baxa⟩ := made hM hB.out hl.out
      rw [show (y33.alloc (.cells #[.slice z33_0 g.cell.length m33_0, .slice z33_1 g.stack.length m33_1, .slice z33_2 g.queue.length m33_2, .slice z33_3 g.set.length m33_3, .slice z33_4 g.table.length m33_4] 25 (0, 0))).alloc (.cells #[.int .i64 ka, .int .i64 va] 31 (0, 0)) = x33 from by rw [hM]; rfl]
      obtain ⟨b33, hb⟩ : ∃ b, b = y33.heap.size := ⟨_, rfl⟩
      rw [← hb] at baxc baxa ⊢
      replace hD := Mr.hid (hD.out.next Z)
      replace hS := Mr.hid (hS.out.next Z)
      replace m1 := Mr.hid (m1.out.next Z)
      replace m2 := Mr.hid (m2.out.next Z)
      replace lefc := Mr.hid (lefc.out.next Z)
      replace lefa := Mr.hid (lefa.out.next Z)
      replace aloc := Mr.hid (aloc.out.next Z)
      replace abxc := Mr.hid (abxc.out.next Z)
      replace abxa := Mr.hid (abxa.out.next Z)
      replace othc := Mr.hid (othc.out.next Z)
      replace otha := Mr.hid (otha.out.next Z)
      replace baxc := Mr.hid baxc
      replace baxa := Mr.hid baxa
      clear Z hM hb hl hB
      obtain ⟨r0_0, r0_1, r0_2, -, -⟩ := ansO_cells abxa.out.box
      obtain ⟨r1_0, r1_1, r1_2, -, -⟩ := ansO_cells otha.out.box
      obtain ⟨r2_0, r2_1, r2_2, -, -⟩ := ansO_cells baxa.out.box
      obtain ⟨r3_0, r3_1, r3_2, -, -⟩ := ansO_cells lefa.out.box
      obtain ⟨r4_0, r4_1, r4_2, r4_3, r4_4, r4_5⟩ := ctO_cells abxc.out.box
      obtain ⟨r5_0, r5_1, r5_2, r5_3, r5_4, r5_5⟩ := ctO_cells baxc.out.box
      go_wp2_with (first | (go_at_call 12; refine (sameT abxc.out baxc.out sg).mono ?_; rintro e w8 ⟨rfl, hB⟩; have hD := Mr.hid (hD.out.next hB); clear hB))
      go_ret
      exact ⟨rfl, hD.out.bel⟩
end Go.Proofs.Ytegbcocbopgghab.Md
