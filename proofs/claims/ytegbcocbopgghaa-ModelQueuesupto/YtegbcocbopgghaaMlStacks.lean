/-
  ModelStacks: the walk.
-/
import Derived.Test.YtegbcocbopgghaaMlEnv
import Derived.Deep.RegionHeld3
namespace Go.Proofs.Ytegbcocbopgghaa.Md
open Go.RowKit Mr Me
set_option linter.unusedVariables false
set_option linter.unusedSimpArgs false
/-- Contents in their box, their rows elsewhere than at b5. -/
structure Cn (w : World) (b b5 : Nat) (v0 v1 v2 v3 v4 : Value) (x : Ct) : Prop where
  box : w.heap[b]? = some (ctO v0 v1 v2 v3 v4)
  at_ : CtAt w (fun k => k ≠ b5) v0 v1 v2 v3 v4 x
theorem Cn.next {w w' : World} {b b5 : Nat} {v0 v1 v2 v3 v4 : Value} {x : Ct} (h : Cn w b b5 v0 v1 v2 v3 v4 x) (hB : Below w.heap.size w w') : Cn w' b b5 v0 v1 v2 v3 v4 x :=
  ⟨(hB.block _ (Array.getElem?_eq_some_iff.1 h.box).1).trans h.box, h.at_.below hB⟩
theorem step_now {W wr w1 wM : World} {b5 : Nat} {s0 s1 s2 s3 s4 n0 n1 n2 n3 n4 l0 l1 l2 l3 l4 : Value} {y q q' : Ct} {a c : Int} (hM : wM = (w1.alloc (ctO l0 l1 l2 l3 l4)).alloc (ansO a c)) (hb5 : W.heap.size < b5) (hD : Bl wr W) (hS : Cn wr W.heap.size b5 s0 s1 s2 s3 s4 y) (hN : Cn wr b5 b5 n0 n1 n2 n3 n4 q) (hB : Below wr.heap.size wr w1) (hl : CtAt w1 (fun k => wr.heap.size ≤ k) l0 l1 l2 l3 l4 q') :
    (Bl (set5 wM b5 l0 l1 l2 l3 l4) W ∧ Cn (set5 wM b5 l0 l1 l2 l3 l4) W.heap.size b5 s0 s1 s2 s3 s4 y ∧ Cn (set5 wM b5 l0 l1 l2 l3 l4) b5 b5 l0 l1 l2 l3 l4 q') ∧ Cn wM b5 b5 n0 n1 n2 n3 n4 q ∧ Bl wM W ∧ Cn wM W.heap.size b5 s0 s1 s2 s3 s4 y ∧ CtAt wM (fun k => k ≠ b5) l0 l1 l2 l3 l4 q' := by
  have hlt := (Array.getElem?_eq_some_iff.1 hN.box).1
  subst hM
  have Y := ((Below.refl w1.heap.size w1).alloc (Nat.le_refl _) (ctO l0 l1 l2 l3 l4)).alloc (by simp) (ansO a c)
  have Z := hB.trans (Y.mono hB.size)
  have D := hD.next Z
  have S := hS.next Z
  have N := hN.next Z
  have hl2 := hl.below Y
  generalize (w1.alloc (ctO l0 l1 l2 l3 l4)).alloc (ansO a c) = wM at *
  have fr := set5_fr wM b5 l0 l1 l2 l3 l4
  exact ⟨⟨⟨set5_below l0 l1 l2 l3 l4 D.bel (by omega)⟩, ⟨(set5_far wM b5 l0 l1 l2 l3 l4 _ (by omega)).trans S.box, S.at_.fr fr (fun k hk _ e => hk e)⟩, ⟨set5_at l0 l1 l2 l3 l4 N.box, (hl2.fr fr (fun k hk _ e => by subst e; omega)).mono (fun k hk => by omega)⟩⟩, N, D, S, hl2.mono (fun k hk => by omega)⟩
theorem put_now {W w : World} {b5 : Nat} {s0 s1 s2 s3 s4 n0 n1 n2 n3 n4 l0 l1 l2 l3 l4 : Value} {y q q' : Ct} (hb5 : W.heap.size < b5) (D : Bl w W) (S : Cn w W.heap.size b5 s0 s1 s2 s3 s4 y) (N : Cn w b5 b5 n0 n1 n2 n3 n4 q) (hl : CtAt w (fun k => k ≠ b5) l0 l1 l2 l3 l4 q') :
    Bl (set5 w b5 l0 l1 l2 l3 l4) W ∧ Cn (set5 w b5 l0 l1 l2 l3 l4) W.heap.size b5 s0 s1 s2 s3 s4 y ∧ Cn (set5 w b5 l0 l1 l2 l3 l4) b5 b5 l0 l1 l2 l3 l4 q' := by
  have fr := set5_fr w b5 l0 l1 l2 l3 l4
  exact ⟨⟨set5_below l0 l1 l2 l3 l4 D.bel (by omega)⟩, ⟨(set5_far w b5 l0 l1 l2 l3 l4 _ (by omega)).trans S.box, S.at_.fr fr (fun k hk _ e => hk e)⟩, ⟨set5_at l0 l1 l2 l3 l4 N.box, hl.fr fr (fun k hk _ e => hk e)⟩⟩
/-- What stands behind i pushes. -/
def stq (y : Ct) (vals : List Int) (i : Nat) : Ct := { y with stack := (vals.take i).reverse ++ y.stack }
theorem stq_push (y : Ct) (vals : List Int) (i : Nat) (v : Int) (h : vals[i]? = some v) : dnx (stq y vals i) 30 v 0 = stq y vals (i + 1) := by
  show ({ stq y vals i with stack := v :: (stq y vals i).stack } : Ct) = _
  unfold stq
  rw [List.take_add_one, h]
  simp
theorem stq_pop (y : Ct) (vals : List Int) (i : Nat) (v : Int) (h : vals[i]? = some v) : dnx (stq y vals (i + 1)) 31 0 0 = stq y vals i ∧ dan (stq y vals (i + 1)) 31 0 = (2, v) := by
  have e : (stq y vals (i + 1)).stack = v :: (stq y vals i).stack := by
    unfold stq
    rw [List.take_add_one, h]
    simp
  constructor
  · show ({ stq y vals (i + 1) with stack := (stq y vals (i + 1)).stack.drop 1 } : Ct) = _
    rw [e]
    rfl
  · show top (stq y vals (i + 1)).stack = _
    rw [e]
    rfl
theorem stq_may {y : Ct} (h : May y) (vals : List Int) (i : Nat) : May (stq y vals i) := ⟨h.1, h.2⟩
theorem stq_in {B : Nat} {y : Ct} (h : CtIn B y) (vals : List Int) (i : Nat) : CtIn (B + 8 * vals.length) (stq y vals i) := by
  obtain ⟨h0, h1, h2, h3, h4⟩ := h
  refine ⟨by show y.cell.length * 8 ≤ _; omega, ?_, by show y.queue.length * 8 ≤ _; omega, by show y.set.length * 8 ≤ _; omega, by show y.table.length * 16 ≤ _; omega⟩
  show ((vals.take i).reverse ++ y.stack).length * 8 ≤ _
  simp only [List.length_append, List.length_reverse, List.length_take]
  omega
theorem stq_zero (y : Ct) (vals : List Int) : stq y vals 0 = y := by unfold stq; simp
theorem now_first {W x0 : World} {s0 s1 s2 s3 s4 : Value} {y : Ct} (hD : Bl x0 W) (hS : Cb x0 W.heap.size s0 s1 s2 s3 s4 y) (hl : W.heap.size < x0.heap.size) :
    W.heap.size < x0.heap.size ∧ Bl (x0.alloc (ctO s0 s1 s2 s3 s4)) W ∧ Cn (x0.alloc (ctO s0 s1 s2 s3 s4)) W.heap.size x0.heap.size s0 s1 s2 s3 s4 y ∧ Cn (x0.alloc (ctO s0 s1 s2 s3 s4)) x0.heap.size x0.heap.size s0 s1 s2 s3 s4 y := by
  have Y := (Below.refl x0.heap.size x0).alloc (Nat.le_refl _) (ctO s0 s1 s2 s3 s4)
  have lt : ∀ {size n : Nat} {v : Value} {xs : List Value}, Sl x0 (fun _ => True) size v n xs → Sl (x0.alloc (ctO s0 s1 s2 s3 s4)) (fun k => k ≠ x0.heap.size) size v n xs := fun {size n v xs} h => by
    obtain ⟨h1, a, cap, hv, hc, h2⟩ := h
    refine ⟨h1, a, cap, hv, hc, ?_⟩
    rcases h2 with h2 | ⟨b, o, ha, hb, hl, hr⟩
    · exact .inl h2
    · exact .inr ⟨b, o, ha, by omega, Nat.lt_of_lt_of_le hl Y.size, fun j u hu => (Y.cell (p := ⟨b, o + j, none⟩) hl).trans (hr j u hu)⟩
  have at_ : CtAt (x0.alloc (ctO s0 s1 s2 s3 s4)) (fun k => k ≠ x0.heap.size) s0 s1 s2 s3 s4 y := ⟨lt hS.at_.cell, lt hS.at_.stack, lt hS.at_.queue, lt hS.at_.set, lt hS.at_.table⟩
  exact ⟨hl, hD.next Y, ⟨old_at hS.box _, at_⟩, ⟨new_at _ _ _ rfl, at_⟩⟩
set_option maxRecDepth 100000 in
set_option maxHeartbeats 32000000 in
theorem walk_stacks (u0 u1 u2 u3 u4 : Value) (x : Ct) (uv : Value) (vals : List Int) (W : World) (hu : CtAt W (fun _ => True) u0 u1 u2 u3 u4 x) (hx : CtIn 16777216 x) (hv : Sl W (fun _ => True) 1 uv vals.length (ints vals)) (hsm : vals.length ≤ 1048576) :
    Calls Try.prog 7 #[.agg #[u0, u1, u2, u3, u4], uv] W fun e w' => e = .returned (.bool true) ∧ Below W.heap.size W w' := by
  obtain ⟨y, hm, hy, CRT⟩ := right_any (hx.mono (show 16777216 ≤ 140737488351232 by decide))
  obtain ⟨a0, c0, rfl, _⟩ := hu.cell.form
  obtain ⟨a1, c1, rfl, _⟩ := hu.stack.form
  obtain ⟨a2, c2, rfl, _⟩ := hu.queue.form
  obtain ⟨a3, c3, rfl, _⟩ := hu.set.form
  obtain ⟨a4, c4, rfl, _⟩ := hu.table.form
  obtain ⟨av, cv, rfl, hcv⟩ := hv.form
  have hyi : ∀ i, CtIn 225000000000000 (stq y vals i) := fun i => (stq_in hy vals i).mono (by omega)
  have hmi : ∀ i, May (stq y vals i) := fun i => stq_may hm vals i
  have sy := hy.sm (show 140737488351232 ≤ 281474976710656 by decide)
  have HV := fun w' (hB : Below W.heap.size W w') => hv.below hB
  obtain ⟨n, hn⟩ : ∃ n, n = vals.length := ⟨_, rfl⟩
  rw [← hn] at HV hsm hcv ⊢
  have U0 := Mr.hid (hu.below ((Below.refl W.heap.size W).alloc (Nat.le_refl _) (ctO (.slice a0 x.cell.length c0) (.slice a1 x.stack.length c1) (.slice a2 x.queue.length c2) (.slice a3 x.set.length c3) (.slice a4 x.table.length c4))))
  conv at U0 => arg 1; arg 1; unfold ctO
  clear hu hv
  replace hn := Mr.hid hn
  replace HV := Mr.hid HV
  replace hyi := Mr.hid hyi
  replace hmi := Mr.hid hmi
  replace CRT := Mr.hid CRT
  replace hm := Mr.hid hm
  go_enter Try.func7, Try.ntmps7
  go_upto_region 2 with (go_at_call 18; refine (CRT.out _ _ _ _ _ _ _ U0.out).mono ?_; clear CRT; rintro e w1 ⟨v0, v1, v2, v3, v4, rfl, hv, hB1⟩; simp only [World.size_alloc] at hB1 hv; obtain ⟨hD, hS, hg⟩ := righted (u0 := (.slice a0 x.cell.length c0)) (u1 := (.slice a1 x.stack.length c1)) (u2 := (.slice a2 x.queue.length c2)) (u3 := (.slice a3 x.set.length c3)) (u4 := (.slice a4 x.table.length c4)) rfl hB1 hv; clear hB1; obtain ⟨s0, t0, rfl, _⟩ := hv.cell.form; obtain ⟨s1, t1, rfl, _⟩ := hv.stack.form; obtain ⟨s2, t2, rfl, _⟩ := hv.queue.form; obtain ⟨s3, t3, rfl, _⟩ := hv.set.form; obtain ⟨s4, t4, rfl, _⟩ := hv.table.form;  clear hv; obtain ⟨k0, k1, k2, k3, k4, kl⟩ := ctO_cells hg; obtain ⟨f0, f1, f2, f3, f4⟩ := ctO_thaw hg; clear hg; replace hD := Mr.hid hD; replace hS := Mr.hid hS)
  clear k0 k1 k2 k3 k4 kl f0 f1 f2 f3 f4 U0
  replace hD := hD.out
  replace hS := hS.out
  conv at hD => arg 1; unfold set5
  conv at hS => arg 1; unfold set5
  generalize (((((w1.setCell { block := W.heap.size, off := 0 } (.slice s0 y.cell.length t0)).setCell { block := W.heap.size, off := 1 } (.slice s1 y.stack.length t1)).setCell { block := W.heap.size, off := 2 } (.slice s2 y.queue.length t2)).setCell { block := W.heap.size, off := 3 } (.slice s3 y.set.length t3)).setCell { block := W.heap.size, off := 4 } (.slice s4 y.table.length t4)) = x0 at *
  clear w1
  replace hD := Mr.hid hD
  replace hS := Mr.hid hS
  obtain ⟨e0, e1, e2, e3, e4, el⟩ := ctO_cells hS.out.box
  go_upto_region 3 with (fail)
  clear e0 e1 e2 e3 e4
  have NW := now_first hD.out hS.out el
  obtain ⟨b5, hb5⟩ : ∃ b, b = x0.heap.size := ⟨_, rfl⟩
  rw [← hb5] at NW ⊢
  conv at NW => arg 2; arg 1; arg 1; unfold ctO
  conv at NW => arg 2; arg 2; arg 1; arg 1; unfold ctO
  conv at NW => arg 2; arg 2; arg 2; arg 1; unfold ctO
  generalize x0.alloc (.cells #[.slice s0 y.cell.length t0, .slice s1 y.stack.length t1, .slice s2 y.queue.length t2, .slice s3 y.set.length t3, .slice s4 y.table.length t4] 29 (0, 0)) = x1 at *
  obtain ⟨hlo, hD1, hS1, hN1⟩ := NW
  clear hb5 hD hS el
  replace hD1 := Mr.hid hD1
  replace hS1 := Mr.hid hS1
  replace hN1 := Mr.hid hN1
  go_wp2
  go_loopg [20] n (fun k s wr => ∃ i : Nat, s = .int .i64 (i : Int) ∧ i + k = n ∧ Bl wr W ∧ Cn wr W.heap.size b5 (.slice s0 y.cell.length t0) (.slice s1 y.stack.length t1) (.slice s2 y.queue.length t2) (.slice s3 y.set.length t3) (.slice s4 y.table.length t4) y ∧ ∃ v0 v1 v2 v3 v4, Cn wr b5 b5 v0 v1 v2 v3 v4 (stq y vals i))
  case atStart => exact ⟨0, rfl, by omega, hD1.out, hS1.out, _, _, _, _, _, by rw [stq_zero]; exact hN1.out⟩
  case round =>
    clear hD1 hS1 hN1
    obtain ⟨i, rfl, hi', hD, hS, v0, v1, v2, v3, v4, hN⟩ := hrel
    by_cases hlt : i < n
    · obtain ⟨v, hvi⟩ : ∃ v, vals[i]? = some v := ⟨vals[i]'(by have := hn.out; omega), List.getElem?_eq_getElem _⟩
      obtain ⟨bc, oc, cc', hcv', _, _, hcl, hcr⟩ := (HV.out _ hD.bel).there (by omega)
      cases hcv'
      have G0 := hcr i (.int .i64 v) (by simp [ints, hvi])
      clear hcr
      have C := mDo_any hN.at_ (hyi.out i) (hmi.out i) 30 v 0 (by decide)
      rw [show dan (stq y vals i) 30 v = (1, 0) from rfl, stq_push y vals i v hvi] at C
      obtain ⟨n0, g0, rfl, _⟩ := hN.at_.cell.form
      obtain ⟨n1, g1, rfl, _⟩ := hN.at_.stack.form
      obtain ⟨n2, g2, rfl, _⟩ := hN.at_.queue.form
      obtain ⟨n3, g3, rfl, _⟩ := hN.at_.set.form
      obtain ⟨n4, g4, rfl, _⟩ := hN.at_.table.form
      generalize (stq y vals i).cell.length = l0 at *
      generalize (stq y vals i).stack.length = l1 at *
      generalize (stq y vals i).queue.length = l2 at *
      generalize (stq y vals i).set.length = l3 at *
      generalize (stq y vals i).table.length = l4 at *
      obtain ⟨q, hq⟩ : ∃ q, q = stq y vals (i + 1) := ⟨_, rfl⟩
      rw [← hq] at C
      replace C := Mr.hid C
      replace hq := Mr.hid hq
      replace hvi := Mr.hid hvi
      obtain ⟨e0, e1, e2, e3, e4, el⟩ := ctO_cells hN.box
      have hlI : (i : Int) < (n : Int) := by omega
      replace hD := Mr.hid hD
      replace hS := Mr.hid hS
      replace hN := Mr.hid hN
      go_upto_region 7 with (first | (go_at_call 19; refine C.out.mono ?_; clear C; rintro e y1 ⟨v0, v1, v2, v3, v4, rfl, hl, hB⟩; unfold ans; obtain ⟨z0, m0, rfl, _⟩ := hl.cell.form; obtain ⟨z1, m1, rfl, _⟩ := hl.stack.form; obtain ⟨z2, m2, rfl, _⟩ := hl.queue.form; obtain ⟨z3, m3, rfl, _⟩ := hl.set.form; obtain ⟨z4, m4, rfl, _⟩ := hl.table.form;  clear e0 e1 e2 e3 e4 el G0; replace hl := Mr.hid hl; replace hB := Mr.hid hB))
      obtain ⟨xM, hM⟩ : ∃ w', w' = (y1.alloc (ctO (.slice z0 q.cell.length m0) (.slice z1 q.stack.length m1) (.slice z2 q.queue.length m2) (.slice z3 q.set.length m3) (.slice z4 q.table.length m4))).alloc (ansO 1 0) := ⟨_, rfl⟩
      obtain ⟨-, nwc, nwa⟩ := made hM hB.out hl.out
      obtain ⟨SN, hN2, -, -, -⟩ := step_now hM hlo hD.out hS.out hN.out hB.out hl.out
      rw [show (y1.alloc (.cells #[.slice z0 q.cell.length m0, .slice z1 q.stack.length m1, .slice z2 q.queue.length m2, .slice z3 q.set.length m3, .slice z4 q.table.length m4] 29 (0, 0))).alloc (.cells #[.int .i64 1, .int .i64 0] 40 (0, 0)) = xM from by rw [hM]; rfl]
      obtain ⟨b8, hb8⟩ : ∃ b, b = y1.heap.size := ⟨_, rfl⟩
      rw [← hb8] at nwc nwa ⊢
      obtain ⟨r0, r1, rl, -, -⟩ := ansO_cells nwa.box
      obtain ⟨p0, p1, p2, p3, p4, pl⟩ := ctO_cells nwc.box
      obtain ⟨k0, k1, k2, k3, k4, kl⟩ := ctO_cells hN2.box
      obtain ⟨f0, f1, f2, f3, f4⟩ := ctO_thaw hN2.box
      unfold set5 at SN
      replace SN := Mr.hid SN
      clear hM hb8 hl hB nwc nwa hN2 hD hS hN
      go_wp2
      go_roundg (gk - 1)
      case measure => omega
      case rel => exact ⟨i + 1, by simp, by omega, SN.out.1, SN.out.2.1, _, _, _, _, _, by rw [← hq.out]; exact SN.out.2.2⟩
    · have hin' : i = n := by omega
      have hge : decide ((i : Int) < (n : Int)) = false := decide_eq_false (by omega)
      replace hD := Mr.hid hD
      replace hS := Mr.hid hS
      replace hin' := Mr.hid hin'
      replace hN := Mr.hid hN
      have hw1 : IntKind.i64.wrap ((n : Int) - 1) = (n : Int) - 1 := i64w _ (by omega) (by omega)
      go_wp2
      go_loopg [11] n (fun k s wr => s = .int .i64 ((k : Int) - 1) ∧ k ≤ n ∧ Bl wr W ∧ Cn wr W.heap.size b5 (.slice s0 y.cell.length t0) (.slice s1 y.stack.length t1) (.slice s2 y.queue.length t2) (.slice s3 y.set.length t3) (.slice s4 y.table.length t4) y ∧ ∃ v0 v1 v2 v3 v4, Cn wr b5 b5 v0 v1 v2 v3 v4 (stq y vals k))
      case atStart => exact ⟨rfl, Nat.le_refl _, hD.out, hS.out, _, _, _, _, _, by rw [← hin'.out]; exact hN.out⟩
      case round =>
        clear hD hS hN hin' hge hw1
        obtain ⟨rfl, hkn, hD, hS, v0, v1, v2, v3, v4, hN⟩ := hrel
        by_cases hk0 : gk = 0
        · subst hk0
          rw [stq_zero] at hN
          have hS2 : Cb _ W.heap.size (.slice s0 y.cell.length t0) (.slice s1 y.stack.length t1) (.slice s2 y.queue.length t2) (.slice s3 y.set.length t3) (.slice s4 y.table.length t4) y := ⟨hS.box, hS.at_.mono (fun _ _ => trivial)⟩
          have hN2 : Cb _ b5 _ _ _ _ _ y := ⟨hN.box, hN.at_.mono (fun _ _ => trivial)⟩
          have C := Mr.hid (sameT hN2 hS2 sy)
          obtain ⟨n0, g0, rfl, _⟩ := hN.at_.cell.form
          obtain ⟨n1, g1, rfl, _⟩ := hN.at_.stack.form
          obtain ⟨n2, g2, rfl, _⟩ := hN.at_.queue.form
          obtain ⟨n3, g3, rfl, _⟩ := hN.at_.set.form
          obtain ⟨n4, g4, rfl, _⟩ := hN.at_.table.form
          obtain ⟨e0, e1, e2, e3, e4, el⟩ := ctO_cells hN.box
          obtain ⟨k0, k1, k2, k3, k4, kl⟩ := ctO_cells hS.box
          have hge : decide ((0 : Int) ≤ ((0 : Nat) : Int) - 1) = false := by decide
          have hge2 : decide ((0 : Int) ≤ -1) = false := by decide
          replace hD := Mr.hid hD
          clear hS hN hS2 hN2
          go_wp2_with (first | (go_at_call 12; refine C.out.mono ?_; clear C; rintro e w8 ⟨rfl, hB⟩; have hD := Mr.hid (hD.out.next hB); clear hB) | (go_at_call 20; refine (awake_any _).mono ?_; rintro e w9 ⟨rfl, hB⟩; have hD := Mr.hid (hD.out.next hB); clear hB))
          go_ret
          exact ⟨rfl, hD.out.bel⟩
        · obtain ⟨m, rfl⟩ : ∃ m, gk = m + 1 := ⟨gk - 1, by omega⟩
          obtain ⟨v, hvi⟩ : ∃ v, vals[m]? = some v := ⟨vals[m]'(by have := hn.out; omega), List.getElem?_eq_getElem _⟩
          obtain ⟨bc, oc, cc', hcv', _, _, hcl, hcr⟩ := (HV.out _ hD.bel).there (by omega)
          cases hcv'
          have G0 := hcr m (.int .i64 v) (by simp [ints, hvi])
          clear hcr
          have C := mDo_any hN.at_ (hyi.out (m + 1)) (hmi.out (m + 1)) 31 0 0 (by decide)
          obtain ⟨pp1, pp2⟩ := stq_pop y vals m v hvi
          rw [pp1, pp2] at C
          clear pp1 pp2
          obtain ⟨n0, g0, rfl, _⟩ := hN.at_.cell.form
          obtain ⟨n1, g1, rfl, _⟩ := hN.at_.stack.form
          obtain ⟨n2, g2, rfl, _⟩ := hN.at_.queue.form
          obtain ⟨n3, g3, rfl, _⟩ := hN.at_.set.form
          obtain ⟨n4, g4, rfl, _⟩ := hN.at_.table.form
          generalize (stq y vals (m + 1)).cell.length = l0 at *
          generalize (stq y vals (m + 1)).stack.length = l1 at *
          generalize (stq y vals (m + 1)).queue.length = l2 at *
          generalize (stq y vals (m + 1)).set.length = l3 at *
          generalize (stq y vals (m + 1)).table.length = l4 at *
          obtain ⟨q, hq⟩ : ∃ q, q = stq y vals m := ⟨_, rfl⟩
          rw [← hq] at C
          rw [show (((m + 1 : Nat) : Int) - 1) = (m : Int) from by omega]
          replace C := Mr.hid C
          replace hq := Mr.hid hq
          replace hvi := Mr.hid hvi
          obtain ⟨e0, e1, e2, e3, e4, el⟩ := ctO_cells hN.box
          have hge : decide ((0 : Int) ≤ (m : Int)) = true := decide_eq_true (by omega)
          replace hD := Mr.hid hD
          replace hS := Mr.hid hS
          replace hN := Mr.hid hN
          go_upto_region 15 with (first | (go_at_call 19; refine C.out.mono ?_; clear C; rintro e y1 ⟨v0, v1, v2, v3, v4, rfl, hl, hB⟩; unfold ans; obtain ⟨z0, m0, rfl, _⟩ := hl.cell.form; obtain ⟨z1, m1, rfl, _⟩ := hl.stack.form; obtain ⟨z2, m2, rfl, _⟩ := hl.queue.form; obtain ⟨z3, m3, rfl, _⟩ := hl.set.form; obtain ⟨z4, m4, rfl, _⟩ := hl.table.form;  clear e0 e1 e2 e3 e4 el; replace hl := Mr.hid hl; replace hB := Mr.hid hB))
          obtain ⟨xM, hM⟩ : ∃ w', w' = (y1.alloc (ctO (.slice z0 q.cell.length m0) (.slice z1 q.stack.length m1) (.slice z2 q.queue.length m2) (.slice z3 q.set.length m3) (.slice z4 q.table.length m4))).alloc (ansO 2 v) := ⟨_, rfl⟩
          obtain ⟨Z, nwc, nwa⟩ := made hM hB.out hl.out
          obtain ⟨-, hN2, hD2, hS2, hl2⟩ := step_now hM hlo hD.out hS.out hN.out hB.out hl.out
          rw [show (y1.alloc (.cells #[.slice z0 q.cell.length m0, .slice z1 q.stack.length m1, .slice z2 q.queue.length m2, .slice z3 q.set.length m3, .slice z4 q.table.length m4] 29 (0, 0))).alloc (.cells #[.int .i64 2, .int .i64 v] 40 (0, 0)) = xM from by rw [hM]; rfl]
          obtain ⟨b8, hb8⟩ : ∃ b, b = y1.heap.size := ⟨_, rfl⟩
          rw [← hb8] at nwc nwa ⊢
          obtain ⟨r0, r1, rl, -, -⟩ := ansO_cells nwa.box
          have G1 := (Z.cell (p := ⟨bc, oc + m, none⟩) hcl).trans G0
          have hcl2 : bc < xM.heap.size := Nat.lt_of_lt_of_le hcl Z.size
          have hlI : (m : Int) < (n : Int) := by omega
          have hle : (0 : Int) ≤ (m : Int) := by omega
          have bv : (v == v) = true := by simp
          have bw : (v != v) = false := by simp
          clear hM hb8 hl hB hD hS hN Z G0 hcl
          replace nwc := Mr.hid nwc
          replace hN2 := Mr.hid hN2
          replace hD2 := Mr.hid hD2
          replace hS2 := Mr.hid hS2
          replace hl2 := Mr.hid hl2
          go_region_held3 (fun w' => w'.cell? ⟨b8 + 1, 0, none⟩ = some (.int .i64 2) ∧ w'.cell? ⟨b8 + 1, 1, none⟩ = some (.int .i64 v) ∧ w'.cell? ⟨bc, oc + m, none⟩ = some (.int .i64 v)) (go_keep) (fail)
          rename_i hHd
          clear hHd r0 r1 G1
          have dr := (Below.refl xM.heap.size xM).drew
          have SN := put_now hlo (hD2.out.next dr) (hS2.out.next dr) (hN2.out.next dr) (hl2.out.below dr)
          have nw3 := nwc.out.next dr
          have nN3 := hN2.out.next dr
          obtain ⟨p0, p1, p2, p3, p4, pl⟩ := ctO_cells nw3.box
          obtain ⟨k0, k1, k2, k3, k4, kl⟩ := ctO_cells nN3.box
          obtain ⟨f0, f1, f2, f3, f4⟩ := ctO_thaw nN3.box
          unfold set5 at SN
          replace SN := Mr.hid SN
          clear nw3 nN3 dr nwc hN2 hD2 hS2 hl2
          generalize xM.drew = xD at *
          have hw1 : IntKind.i64.wrap ((m : Int) - 1) = (m : Int) - 1 := i64w _ (by omega) (by omega)
          go_wp2
          go_roundg m
          case measure => omega
          case rel => exact ⟨rfl, by omega, SN.out.1, SN.out.2.1, _, _, _, _, _, by rw [← hq.out]; exact SN.out.2.2⟩
end Go.Proofs.Ytegbcocbopgghaa.Md
