/-
  ModelQueues: the walk.
-/
import Derived.Test.YtegbcocbopgghaaMlStacks
import Derived.Test.YtegbcocbopgghaaMdApp
namespace Go.Proofs.Ytegbcocbopgghaa.Md
open Go.RowKit Mr Me
set_option linter.unusedVariables false
set_option linter.unusedSimpArgs false
/-- What stands behind i enqueues; behind i dequeues of all. -/
def quq (y : Ct) (vals : List Int) (i : Nat) : Ct := { y with queue := y.queue ++ vals.take i }
def deq (y : Ct) (all : List Int) (i : Nat) : Ct := { y with queue := all.drop i }
theorem quq_push (y : Ct) (vals : List Int) (i : Nat) (v : Int) (h : vals[i]? = some v) : dnx (quq y vals i) 40 v 0 = quq y vals (i + 1) := by
  show ({ quq y vals i with queue := (quq y vals i).queue ++ [v] } : Ct) = _
  unfold quq
  rw [List.take_add_one, h]
  simp
theorem deq_pop (y : Ct) (all : List Int) (i : Nat) (v : Int) (h : all[i]? = some v) : dnx (deq y all i) 41 0 0 = deq y all (i + 1) ∧ dan (deq y all i) 41 0 = (2, v) := by
  have hi := (List.getElem?_eq_some_iff.1 h).1
  have hv := (List.getElem?_eq_some_iff.1 h).2
  have e : (deq y all i).queue = v :: all.drop (i + 1) := by
    show all.drop i = _
    rw [List.drop_eq_getElem_cons hi, hv]
  constructor
  · show ({ deq y all i with queue := (deq y all i).queue.drop 1 } : Ct) = _
    rw [e]
    rfl
  · show top (deq y all i).queue = _
    rw [e]
    rfl
theorem deq_end (y : Ct) (all : List Int) : dan (deq y all all.length) 41 0 = (3, 0) ∧ dnx (deq y all all.length) 41 0 0 = deq y all all.length := by
  have e : (deq y all all.length).queue = [] := by show all.drop all.length = []; simp
  constructor
  · show top (deq y all all.length).queue = _
    rw [e]; rfl
  · show ({ deq y all all.length with queue := (deq y all all.length).queue.drop 1 } : Ct) = _
    rw [e]
    unfold deq
    simp
theorem quq_may {y : Ct} (h : May y) (vals : List Int) (i : Nat) : May (quq y vals i) := ⟨h.1, h.2⟩
theorem deq_may {y : Ct} (h : May y) (all : List Int) (i : Nat) : May (deq y all i) := ⟨h.1, h.2⟩
theorem quq_in {B : Nat} {y : Ct} (h : CtIn B y) (vals : List Int) (i : Nat) : CtIn (B + 8 * vals.length) (quq y vals i) := by
  obtain ⟨h0, h1, h2, h3, h4⟩ := h
  refine ⟨by show y.cell.length * 8 ≤ _; omega, by show y.stack.length * 8 ≤ _; omega, ?_, by show y.set.length * 8 ≤ _; omega, by show y.table.length * 16 ≤ _; omega⟩
  show (y.queue ++ vals.take i).length * 8 ≤ _
  simp only [List.length_append, List.length_take]
  omega
theorem deq_in {B : Nat} {y : Ct} (h : CtIn B y) (vals : List Int) (i : Nat) : CtIn (B + 8 * vals.length) (deq y (y.queue ++ vals) i) := by
  obtain ⟨h0, h1, h2, h3, h4⟩ := h
  refine ⟨by show y.cell.length * 8 ≤ _; omega, by show y.stack.length * 8 ≤ _; omega, ?_, by show y.set.length * 8 ≤ _; omega, by show y.table.length * 16 ≤ _; omega⟩
  show ((y.queue ++ vals).drop i).length * 8 ≤ _
  simp only [List.length_append, List.length_drop]
  omega
theorem quq_zero (y : Ct) (vals : List Int) : quq y vals 0 = y := by unfold quq; simp
theorem quq_all (y : Ct) (vals : List Int) : quq y vals vals.length = deq y (y.queue ++ vals) 0 := by unfold quq deq; simp
set_option maxRecDepth 100000 in
set_option maxHeartbeats 32000000 in
theorem walk_queues (u0 u1 u2 u3 u4 : Value) (x : Ct) (uv : Value) (vals : List Int) (W : World) (hu : CtAt W (fun _ => True) u0 u1 u2 u3 u4 x) (hx : CtIn 16777216 x) (hv : Sl W (fun _ => True) 1 uv vals.length (ints vals)) (hsm : vals.length ≤ 1048576) :
    Calls Try.prog 6 #[.agg #[u0, u1, u2, u3, u4], uv] W fun e w' => e = .returned (.bool true) ∧ Below W.heap.size W w' := by
  obtain ⟨y, hm, hy, CRT⟩ := right_any (hx.mono (show 16777216 ≤ 140737488351232 by decide))
  obtain ⟨a0, c0, rfl, _⟩ := hu.cell.form
  obtain ⟨a1, c1, rfl, _⟩ := hu.stack.form
  obtain ⟨a2, c2, rfl, _⟩ := hu.queue.form
  obtain ⟨a3, c3, rfl, _⟩ := hu.set.form
  obtain ⟨a4, c4, rfl, _⟩ := hu.table.form
  obtain ⟨av, cv, rfl, hcv⟩ := hv.form
  have hyi : ∀ i, CtIn 225000000000000 (quq y vals i) := fun i => (quq_in hy vals i).mono (by omega)
  have hmi : ∀ i, May (quq y vals i) := fun i => quq_may hm vals i
  have hei : ∀ i, CtIn 225000000000000 (deq y (y.queue ++ vals) i) := fun i => (deq_in hy vals i).mono (by omega)
  have hfi : ∀ i, May (deq y (y.queue ++ vals) i) := fun i => deq_may hm _ i
  have hyq := hy.queue
  have sy := hy.sm (show 140737488351232 ≤ 281474976710656 by decide)
  have HV := fun w' (hB : Below W.heap.size W w') => hv.below hB
  obtain ⟨n, hn⟩ : ∃ n, n = vals.length := ⟨_, rfl⟩
  rw [← hn] at HV hsm hcv ⊢
  have U0 := Mr.hid (hu.below ((Below.refl W.heap.size W).alloc (Nat.le_refl _) (ctO (.slice a0 x.cell.length c0) (.slice a1 x.stack.length c1) (.slice a2 x.queue.length c2) (.slice a3 x.set.length c3) (.slice a4 x.table.length c4))))
  conv at U0 => arg 1; arg 1; unfold ctO
  clear hu hv
  replace hn := Mr.hid hn
  replace HV := Mr.hid HV
  replace hyi := Mr.hid hyi
  replace hmi := Mr.hid hmi
  replace hei := Mr.hid hei
  replace hfi := Mr.hid hfi
  replace CRT := Mr.hid CRT
  replace hm := Mr.hid hm
  go_enter Try.func6, Try.ntmps6
  go_upto_region 2 with (go_at_call 18; refine (CRT.out _ _ _ _ _ _ _ U0.out).mono ?_; clear CRT; rintro e w1 ⟨v0, v1, v2, v3, v4, rfl, hv, hB1⟩; simp only [World.size_alloc] at hB1 hv; obtain ⟨hD, hS, hg⟩ := righted (u0 := (.slice a0 x.cell.length c0)) (u1 := (.slice a1 x.stack.length c1)) (u2 := (.slice a2 x.queue.length c2)) (u3 := (.slice a3 x.set.length c3)) (u4 := (.slice a4 x.table.length c4)) rfl hB1 hv; clear hB1; obtain ⟨s0, t0, rfl, _⟩ := hv.cell.form; obtain ⟨s1, t1, rfl, _⟩ := hv.stack.form; obtain ⟨s2, t2, rfl, _⟩ := hv.queue.form; obtain ⟨s3, t3, rfl, _⟩ := hv.set.form; obtain ⟨s4, t4, rfl, _⟩ := hv.table.form;  clear hv; obtain ⟨k0, k1, k2, k3, k4, kl⟩ := ctO_cells hg; obtain ⟨f0, f1, f2, f3, f4⟩ := ctO_thaw hg; clear hg; replace hD := Mr.hid hD; replace hS := Mr.hid hS)
  clear k0 k1 k2 k3 k4 kl f0 f1 f2 f3 f4 U0
  replace hD := hD.out
  replace hS := hS.out
  conv at hD => arg 1; unfold set5
  conv at hS => arg 1; unfold set5
  generalize (((((w1.setCell { block := W.heap.size, off := 0 } (.slice s0 y.cell.length t0)).setCell { block := W.heap.size, off := 1 } (.slice s1 y.stack.length t1)).setCell { block := W.heap.size, off := 2 } (.slice s2 y.queue.length t2)).setCell { block := W.heap.size, off := 3 } (.slice s3 y.set.length t3)).setCell { block := W.heap.size, off := 4 } (.slice s4 y.table.length t4)) = x0 at *
  clear w1
  replace hD := Mr.hid hD
  replace hS := Mr.hid hS
  obtain ⟨e0, e1, e2, e3, e4, el⟩ := ctO_cells hS.out.box
  go_upto_region 3 with (fail)
  clear e0 e1 e2 e3 e4
  have NW := now_first hD.out hS.out el
  obtain ⟨b5, hb5⟩ : ∃ b, b = x0.heap.size := ⟨_, rfl⟩
  rw [← hb5] at NW ⊢
  conv at NW => arg 2; arg 1; arg 1; unfold ctO
  conv at NW => arg 2; arg 2; arg 1; arg 1; unfold ctO
  conv at NW => arg 2; arg 2; arg 2; arg 1; unfold ctO
  generalize x0.alloc (.cells #[.slice s0 y.cell.length t0, .slice s1 y.stack.length t1, .slice s2 y.queue.length t2, .slice s3 y.set.length t3, .slice s4 y.table.length t4] 29 (0, 0)) = x1 at *
  obtain ⟨hlo, hD1, hS1, hN1⟩ := NW
  clear hb5 hD hS el
  replace hD1 := Mr.hid hD1
  replace hS1 := Mr.hid hS1
  replace hN1 := Mr.hid hN1
  go_wp2
  go_loopg [25] n (fun k s wr => ∃ i : Nat, s = .int .i64 (i : Int) ∧ i + k = n ∧ Bl wr W ∧ Cn wr W.heap.size b5 (.slice s0 y.cell.length t0) (.slice s1 y.stack.length t1) (.slice s2 y.queue.length t2) (.slice s3 y.set.length t3) (.slice s4 y.table.length t4) y ∧ ∃ v0 v1 v2 v3 v4, Cn wr b5 b5 v0 v1 v2 v3 v4 (quq y vals i))
  case atStart => exact ⟨0, rfl, by omega, hD1.out, hS1.out, _, _, _, _, _, by rw [quq_zero]; exact hN1.out⟩
  case round =>
    clear hD1 hS1 hN1
    obtain ⟨i, rfl, hi', hD, hS, v0, v1, v2, v3, v4, hN⟩ := hrel
    by_cases hlt : i < n
    · obtain ⟨v, hvi⟩ : ∃ v, vals[i]? = some v := ⟨vals[i]'(by have := hn.out; omega), List.getElem?_eq_getElem _⟩
      obtain ⟨bc, oc, cc', hcv', _, _, hcl, hcr⟩ := (HV.out _ hD.bel).there (by omega)
      cases hcv'
      have G0 := hcr i (.int .i64 v) (by simp [ints, hvi])
      clear hcr
      have C := mDo_any hN.at_ (hyi.out i) (hmi.out i) 40 v 0 (by decide)
      rw [show dan (quq y vals i) 40 v = (1, 0) from rfl, quq_push y vals i v hvi] at C
      obtain ⟨n0, g0, rfl, _⟩ := hN.at_.cell.form
      obtain ⟨n1, g1, rfl, _⟩ := hN.at_.stack.form
      obtain ⟨n2, g2, rfl, _⟩ := hN.at_.queue.form
      obtain ⟨n3, g3, rfl, _⟩ := hN.at_.set.form
      obtain ⟨n4, g4, rfl, _⟩ := hN.at_.table.form
      generalize (quq y vals i).cell.length = l0 at *
      generalize (quq y vals i).stack.length = l1 at *
      generalize (quq y vals i).queue.length = l2 at *
      generalize (quq y vals i).set.length = l3 at *
      generalize (quq y vals i).table.length = l4 at *
      obtain ⟨q, hq⟩ : ∃ q, q = quq y vals (i + 1) := ⟨_, rfl⟩
      rw [← hq] at C
      replace C := Mr.hid C
      replace hq := Mr.hid hq
      replace hvi := Mr.hid hvi
      obtain ⟨e0, e1, e2, e3, e4, el⟩ := ctO_cells hN.box
      have hlI : (i : Int) < (n : Int) := by omega
      replace hD := Mr.hid hD
      replace hS := Mr.hid hS
      replace hN := Mr.hid hN
      go_upto_region 7 with (first | (go_at_call 19; refine C.out.mono ?_; clear C; rintro e y1 ⟨v0, v1, v2, v3, v4, rfl, hl, hB⟩; unfold ans; obtain ⟨z0, m0, rfl, _⟩ := hl.cell.form; obtain ⟨z1, m1, rfl, _⟩ := hl.stack.form; obtain ⟨z2, m2, rfl, _⟩ := hl.queue.form; obtain ⟨z3, m3, rfl, _⟩ := hl.set.form; obtain ⟨z4, m4, rfl, _⟩ := hl.table.form;  clear e0 e1 e2 e3 e4 el G0; replace hl := Mr.hid hl; replace hB := Mr.hid hB))
      obtain ⟨xM, hM⟩ : ∃ w', w' = (y1.alloc (ctO (.slice z0 q.cell.length m0) (.slice z1 q.stack.length m1) (.slice z2 q.queue.length m2) (.slice z3 q.set.length m3) (.slice z4 q.table.length m4))).alloc (ansO 1 0) := ⟨_, rfl⟩
      obtain ⟨-, nwc, nwa⟩ := made hM hB.out hl.out
      obtain ⟨SN, hN2, -, -, -⟩ := step_now hM hlo hD.out hS.out hN.out hB.out hl.out
      rw [show (y1.alloc (.cells #[.slice z0 q.cell.length m0, .slice z1 q.stack.length m1, .slice z2 q.queue.length m2, .slice z3 q.set.length m3, .slice z4 q.table.length m4] 29 (0, 0))).alloc (.cells #[.int .i64 1, .int .i64 0] 40 (0, 0)) = xM from by rw [hM]; rfl]
      obtain ⟨b8, hb8⟩ : ∃ b, b = y1.heap.size := ⟨_, rfl⟩
      rw [← hb8] at nwc nwa ⊢
      obtain ⟨r0, r1, rl, -, -⟩ := ansO_cells nwa.box
      obtain ⟨p0, p1, p2, p3, p4, pl⟩ := ctO_cells nwc.box
      obtain ⟨k0, k1, k2, k3, k4, kl⟩ := ctO_cells hN2.box
      obtain ⟨f0, f1, f2, f3, f4⟩ := ctO_thaw hN2.box
      unfold set5 at SN
      replace SN := Mr.hid SN
      clear hM hb8 hl hB nwc nwa hN2 hD hS hN
      go_wp2
      go_roundg (gk - 1)
      case measure => omega
      case rel => exact ⟨i + 1, by simp, by omega, SN.out.1, SN.out.2.1, _, _, _, _, _, by rw [← hq.out]; exact SN.out.2.2⟩
    · have hin' : i = n := by omega
      have hge : decide ((i : Int) < (n : Int)) = false := decide_eq_false (by omega)
      replace hD := Mr.hid hD
      replace hS := Mr.hid hS
      replace hin' := Mr.hid hin'
      replace hN := Mr.hid hN
      obtain ⟨ii, p1, p2, p3, p4⟩ := info_parts info_i
      obtain ⟨aq, cq, eq, na, nb⟩ := hS.out.at_.queue.src
      cases eq
      obtain ⟨av', cv', ev, va, vb⟩ := (HV.out _ hD.out.bel).src
      cases ev
      have oQ := one_ints y.queue
      have eQ : (ints y.queue).length = y.queue.length * 1 := by simp [ints]
      have oV := one_ints vals
      have eV : (ints vals).length = n * 1 := by have := hn.out; simp [ints]; omega
      obtain ⟨k0, k1, k2, k3, k4, kl⟩ := ctO_cells hS.out.box
      have hbw : b5 < wr.heap.size := (Array.getElem?_eq_some_iff.1 hN.out.box).1
      replace na := Mr.hid na
      replace nb := Mr.hid nb
      replace va := Mr.hid va
      replace vb := Mr.hid vb
      replace oQ := Mr.hid oQ
      replace eQ := Mr.hid eQ
      replace oV := Mr.hid oV
      replace eV := Mr.hid eV
      go_upto_region 12 with (first | (at_builtin; refine wpList_append_fresh _ rfl (.const (.slice none 0 0)) (.tmp 46) 26 rfl (fun k => wr.heap.size ≤ k) 3 ii _ 1 8 Try.underlying26 p1 p2 p3 p4 rfl rfl s2 y.queue.length t2 (ints y.queue) rfl eQ.out na.out (nb.out _ (Below.refl _ _)) oQ.out (by unfold maxLen; omega) (by omega) (Nat.le_refl _) ?_; intro r6 w6 h6 hg6 hat6; have B6 := (Below.refl wr.heap.size wr).grown hg6 (Nat.le_refl _) (by simp); obtain ⟨p6, q6, rfl, _⟩ := h6.form; replace h6 := Mr.hid h6; replace hat6 := Mr.hid hat6; clear hg6; replace B6 := Mr.hid B6) | (at_builtin; refine wpList_append_any _ rfl (.tmp 47) (.tmp 48) 26 rfl (fun k => wr.heap.size ≤ k) 3 ii _ 1 8 Try.underlying26 p1 p2 p3 p4 rfl (.slice p6 y.queue.length q6) y.queue.length (ints y.queue) rfl h6.out av n cv (ints vals) rfl eV.out va.out (vb.out _ B6.out) oV.out (by unfold maxLen; omega) (by omega) B6.out.size ?_; intro b7 c7 w7 h7 hg7 hat7; have B7 := B6.out.grown hg7 B6.out.size (fun k hk => (h6.out.lt k hk).1); clear hg7 hat7 h6 hat6; replace h7 := Mr.hid h7; replace B7 := Mr.hid B7))
      have AL : Sl w7 (fun k => k ≠ b5) 1 (.slice b7 (y.queue.length + n) c7) (y.queue.length + n) (ints (y.queue ++ vals)) := by
        have := (Sl.of_has h7.out).mono (T' := fun k => k ≠ b5) (fun k hk => by omega)
        simpa [ints] using this
      have D7 := hD.out.next B7.out
      have S7 := hS.out.next B7.out
      have N7 := hN.out.next B7.out
      obtain ⟨all, hall⟩ : ∃ l, l = y.queue ++ vals := ⟨_, rfl⟩
      obtain ⟨A, hA⟩ : ∃ A, A = y.queue.length + n := ⟨_, rfl⟩
      have hAl : all.length = A := by rw [hall, hA, hn.out]; simp
      rw [hin'.out, show quq y vals n = deq y all 0 from by rw [hall, hn.out, quq_all]] at N7
      rw [← hall] at AL hei hfi
      rw [← hA] at AL ⊢
      have hAs : A * 8 ≤ 225000000000000 := by omega
      clear k0 k1 k2 k3 k4 kl hbw na nb va vb oQ eQ oV eV p1 p2 p3 p4 B6 B7 h7 hD hS hN hge
      replace hA := Mr.hid hA
      replace hall := Mr.hid hall
      replace hAl := Mr.hid hAl
      replace AL := Mr.hid AL
      replace D7 := Mr.hid D7
      replace S7 := Mr.hid S7
      replace N7 := Mr.hid N7
      go_wp2
      go_loopg [52] A (fun k s wr => ∃ i : Nat, s = .int .i64 (i : Int) ∧ i + k = A ∧ Bl wr W ∧ Cn wr W.heap.size b5 (.slice s0 y.cell.length t0) (.slice s1 y.stack.length t1) (.slice s2 y.queue.length t2) (.slice s3 y.set.length t3) (.slice s4 y.table.length t4) y ∧ Sl wr (fun k => k ≠ b5) 1 (.slice b7 A c7) A (ints all) ∧ ∃ v0 v1 v2 v3 v4, Cn wr b5 b5 v0 v1 v2 v3 v4 (deq y all i))
      case atStart => exact ⟨0, rfl, by omega, D7.out, S7.out, AL.out, _, _, _, _, _, N7.out⟩
      case round =>
        clear D7 S7 AL N7
        obtain ⟨j, rfl, hj, hD, hS, AL, v0, v1, v2, v3, v4, hN⟩ := hrel
        by_cases hjl : j < A
        · obtain ⟨v, hvi⟩ : ∃ v, all[j]? = some v := ⟨all[j]'(by have := hAl.out; omega), List.getElem?_eq_getElem _⟩
          obtain ⟨bc, oc, cc', hcv', _, _, hcl, hcr⟩ := AL.there (by omega)
          cases hcv'
          have G0 := hcr j (.int .i64 v) (by simp [ints, hvi])
          clear hcr
          have C := mDo_any hN.at_ (hei.out j) (hfi.out j) 41 0 0 (by decide)
          obtain ⟨pp1, pp2⟩ := deq_pop y all j v hvi
          rw [pp1, pp2] at C
          clear pp1 pp2
          obtain ⟨n0, g0, rfl, _⟩ := hN.at_.cell.form
          obtain ⟨n1, g1, rfl, _⟩ := hN.at_.stack.form
          obtain ⟨n2, g2, rfl, _⟩ := hN.at_.queue.form
          obtain ⟨n3, g3, rfl, _⟩ := hN.at_.set.form
          obtain ⟨n4, g4, rfl, _⟩ := hN.at_.table.form
          generalize (deq y all j).cell.length = l0 at *
          generalize (deq y all j).stack.length = l1 at *
          generalize (deq y all j).queue.length = l2 at *
          generalize (deq y all j).set.length = l3 at *
          generalize (deq y all j).table.length = l4 at *
          obtain ⟨q, hq⟩ : ∃ q, q = deq y all (j + 1) := ⟨_, rfl⟩
          rw [← hq] at C
          replace C := Mr.hid C
          replace hq := Mr.hid hq
          replace hvi := Mr.hid hvi
          obtain ⟨e0, e1, e2, e3, e4, el⟩ := ctO_cells hN.box
          have hlI : (j : Int) < (A : Int) := by omega
          replace hD := Mr.hid hD
          replace hS := Mr.hid hS
          replace hN := Mr.hid hN
          replace AL := Mr.hid AL
          go_upto_region 16 with (first | (go_at_call 19; refine C.out.mono ?_; clear C; rintro e y1 ⟨v0, v1, v2, v3, v4, rfl, hl, hB⟩; unfold ans; obtain ⟨z0, m0, rfl, _⟩ := hl.cell.form; obtain ⟨z1, m1, rfl, _⟩ := hl.stack.form; obtain ⟨z2, m2, rfl, _⟩ := hl.queue.form; obtain ⟨z3, m3, rfl, _⟩ := hl.set.form; obtain ⟨z4, m4, rfl, _⟩ := hl.table.form;  clear e0 e1 e2 e3 e4 el G0; replace hl := Mr.hid hl; replace hB := Mr.hid hB))
          obtain ⟨xM, hM⟩ : ∃ w', w' = (y1.alloc (ctO (.slice z0 q.cell.length m0) (.slice z1 q.stack.length m1) (.slice z2 q.queue.length m2) (.slice z3 q.set.length m3) (.slice z4 q.table.length m4))).alloc (ansO 2 v) := ⟨_, rfl⟩
          obtain ⟨Z, nwc, nwa⟩ := made hM hB.out hl.out
          obtain ⟨SN, hN2, -, -, -⟩ := step_now hM hlo hD.out hS.out hN.out hB.out hl.out
          have AL2 := (AL.out.below Z).fr (set5_fr xM b5 (.slice z0 q.cell.length m0) (.slice z1 q.stack.length m1) (.slice z2 q.queue.length m2) (.slice z3 q.set.length m3) (.slice z4 q.table.length m4)) (fun k hk _ e => hk e)
          rw [show (y1.alloc (.cells #[.slice z0 q.cell.length m0, .slice z1 q.stack.length m1, .slice z2 q.queue.length m2, .slice z3 q.set.length m3, .slice z4 q.table.length m4] 29 (0, 0))).alloc (.cells #[.int .i64 2, .int .i64 v] 40 (0, 0)) = xM from by rw [hM]; rfl]
          obtain ⟨b8, hb8⟩ : ∃ b, b = y1.heap.size := ⟨_, rfl⟩
          rw [← hb8] at nwc nwa ⊢
          obtain ⟨r0, r1, rl, -, -⟩ := ansO_cells nwa.box
          obtain ⟨o0, o1, o2, o3, o4, pl⟩ := ctO_cells nwc.box
          obtain ⟨k0, k1, k2, k3, k4, kl⟩ := ctO_cells hN2.box
          obtain ⟨f0, f1, f2, f3, f4⟩ := ctO_thaw hN2.box
          have bv : (v == v) = true := by simp
          have bw : (v != v) = false := by simp
          unfold set5 at SN AL2
          replace SN := Mr.hid SN
          replace AL2 := Mr.hid AL2
          clear hM hb8 hl hB nwc nwa hN2 hD hS hN Z AL
          go_wp2
          go_roundg (gk - 1)
          case measure => omega
          case rel => exact ⟨j + 1, by simp, by omega, SN.out.1, SN.out.2.1, AL2.out, _, _, _, _, _, by rw [← hq.out]; exact SN.out.2.2⟩
        · have hjA : j = all.length := by have := hAl.out; omega
          have hge : decide ((j : Int) < (A : Int)) = false := decide_eq_false (by omega)
          have C := mDo_any hN.at_ (hei.out j) (hfi.out j) 41 0 0 (by decide)
          obtain ⟨pp1, pp2⟩ := deq_end y all
          rw [hjA] at C
          rw [pp1, pp2, ← hjA] at C
          clear pp1 pp2 hjA
          obtain ⟨n0, g0, rfl, _⟩ := hN.at_.cell.form
          obtain ⟨n1, g1, rfl, _⟩ := hN.at_.stack.form
          obtain ⟨n2, g2, rfl, _⟩ := hN.at_.queue.form
          obtain ⟨n3, g3, rfl, _⟩ := hN.at_.set.form
          obtain ⟨n4, g4, rfl, _⟩ := hN.at_.table.form
          obtain ⟨q, hq⟩ : ∃ q, q = deq y all j := ⟨_, rfl⟩
          rw [← hq] at C hN
          replace C := Mr.hid C
          replace hq := Mr.hid hq
          obtain ⟨e0, e1, e2, e3, e4, el⟩ := ctO_cells hN.box
          replace hD := Mr.hid hD
          clear hS hN AL
          go_upto_region 21 with (first | (go_at_call 19; refine C.out.mono ?_; clear C; rintro e y1 ⟨v0, v1, v2, v3, v4, rfl, hl, hB⟩; unfold ans; obtain ⟨z0, m0, rfl, _⟩ := hl.cell.form; obtain ⟨z1, m1, rfl, _⟩ := hl.stack.form; obtain ⟨z2, m2, rfl, _⟩ := hl.queue.form; obtain ⟨z3, m3, rfl, _⟩ := hl.set.form; obtain ⟨z4, m4, rfl, _⟩ := hl.table.form;  clear e0 e1 e2 e3 e4 el; replace hl := Mr.hid hl; replace hB := Mr.hid hB))
          obtain ⟨xM, hM⟩ : ∃ w', w' = (y1.alloc (ctO (.slice z0 q.cell.length m0) (.slice z1 q.stack.length m1) (.slice z2 q.queue.length m2) (.slice z3 q.set.length m3) (.slice z4 q.table.length m4))).alloc (ansO 3 0) := ⟨_, rfl⟩
          obtain ⟨Z, -, nwa⟩ := made hM hB.out hl.out
          rw [show (y1.alloc (.cells #[.slice z0 q.cell.length m0, .slice z1 q.stack.length m1, .slice z2 q.queue.length m2, .slice z3 q.set.length m3, .slice z4 q.table.length m4] 29 (0, 0))).alloc (.cells #[.int .i64 3, .int .i64 0] 40 (0, 0)) = xM from by rw [hM]; rfl]
          obtain ⟨b8, hb8⟩ : ∃ b, b = y1.heap.size := ⟨_, rfl⟩
          rw [← hb8] at nwa ⊢
          obtain ⟨r0, r1, rl, -, -⟩ := ansO_cells nwa.box
          have hD := Mr.hid (hD.out.next Z)
          clear hM hb8 hl hB nwa Z
          go_wp2_with (first | (go_at_call 20; refine (awake_any _).mono ?_; rintro e w9 ⟨rfl, hB⟩; have hD := Mr.hid (hD.out.next hB); clear hB))
          go_ret
          exact ⟨rfl, hD.out.bel⟩
end Go.Proofs.Ytegbcocbopgghaa.Md
