import Derived.Test.YtfgnaffomglmdaaGreatJ12
import Derived.Test.YtfgnaffomglmdaaGreatJ43
import Derived.Deep.LoopGhost
import Derived.BigQuiet
/-
  ModelOwn: append keeps what stands ahead of it; a row that has grown behind an elder slice; a cell of one's own row written.
-/
namespace Go.Proofs.YtfgnaffomglmdaaGreat.Md
open Go.RowKit Mr
set_option linter.unusedVariables false
section
variable {P : Program} (w : World)
end
section
variable {w w' : World} {S T : Nat → Prop} {e : TypeId} {size n0 n : Nat} {v0 v : Value} {xs0 : List Value}
/-- A cell of one's own row is written. -/
theorem Own.put {xs : List Value} {g o cap : Nat} (h : Own w S e size (.slice (some ⟨g, o, none⟩) n cap) n xs) (hn : 0 < n) {j : Nat} (hj : j < n * size) (u : Value) : Own (w.setCell ⟨g, o + j, none⟩ u) S e size (.slice (some ⟨g, o, none⟩) n cap) n (xs.set j u) := by
  obtain ⟨h1, a, c, hv, hc, hm, h2⟩ := h
  cases hv
  refine ⟨by rw [List.length_set]; exact h1, _, _, rfl, hc, hm, .inr ?_⟩
  rcases h2 with h2 | ⟨g', o', cur, ha, hS, hg, hs, hx⟩
  · omega
  · cases ha
    refine ⟨g, o, _, rfl, hS, setBlk hg (o + j) u, by simpa using hs, ?_⟩
    apply List.ext_getElem?
    intro k
    rw [List.getElem?_take, List.getElem?_set, ← hx]
    simp only [Array.toList_setIfInBounds, List.getElem?_drop, List.getElem?_set, List.getElem?_take, List.length_take, List.length_drop, Array.length_toList]
    have : n * size ≤ cap * size := Nat.mul_le_mul_right _ hc
    by_cases hk : k < n * size
    · rw [if_pos hk]
      by_cases hjk : j = k
      · subst hjk
        rw [if_pos rfl, if_pos rfl, if_pos (by omega), if_pos (by omega)]
      · rw [if_neg (by omega), if_neg hjk, if_pos hk]
    · rw [if_neg hk, if_neg (by omega), if_neg hk]
end
end Go.Proofs.YtfgnaffomglmdaaGreat.Md
/-
  The document's Points.
-/
namespace Go.Proofs.YtfgnaffomglmdaaGreat.Wt
open Go.RowKit Mr Md
set_option linter.unusedVariables false
set_option linter.unusedSimpArgs false
set_option maxRecDepth 100000
/-- A row of numbers of one's own. -/
structure Nw (W w : World) (u : Value) (l : List Int) : Prop where
  bel : Below W.heap.size W w
  own : Own w (fun k => W.heap.size ≤ k) 3 1 u l.length (ints l)
theorem Nw.below {W w w' : World} {u : Value} {l : List Int} (h : Nw W w u l) (hB : Below w.heap.size w w') : Nw W w' u l := ⟨h.bel.trans (hB.mono h.bel.size), h.own.below hB⟩
theorem Nw.app {W w w1 w2 : World} {u u' : Value} {l : List Int} {x : Int} {o : Obj} (h : Nw W w u l) (h1 : w1 = w.alloc o) (ho : Own w2 (fun k => W.heap.size ≤ k ∨ k = w1.heap.size) 3 1 u' (l.length + 1) (ints l ++ [.int .i64 x])) (hf : Fr w1 w2 (fun k => W.heap.size ≤ k)) : Nw W w2 u' (l ++ [x]) := by
  have B1 : Below W.heap.size W w1 := by subst h1; exact h.bel.alloc h.bel.size _
  have e : ints l ++ [Value.int .i64 x] = ints (l ++ [x]) := by simp [ints]
  rw [e] at ho
  refine ⟨⟨hf.os.trans B1.os, hf.tape.trans B1.tape, hf.output.trans B1.output, Nat.le_trans B1.size hf.size, fun k hk => (hf.block k (Nat.lt_of_lt_of_le hk B1.size) (by omega)).trans (B1.block k hk)⟩, ?_⟩
  rw [List.length_append]
  exact ho.mono (fun k hk => by have := B1.size; omega)
/-- Two of its places written. -/
theorem Nw.put2 {W w : World} {g o n cap : Nat} {l : List Int} (h : Nw W w (.slice (some ⟨g, o, none⟩) n cap) l) (hn : l.length = n) {j k : Nat} (hj : j < n) (hk : k < n) (x y : Int) : Nw W ((w.setCell ⟨g, o + j, none⟩ (.int .i64 x)).setCell ⟨g, o + k, none⟩ (.int .i64 y)) (.slice (some ⟨g, o, none⟩) n cap) ((l.set j x).set k y) := by
  obtain ⟨g', o', cap', cur, e, _, _, hS, _⟩ := h.own.there (by omega)
  have e1 := h.own
  rw [hn] at e e1
  cases e
  have e2 := (e1.put (by omega) (j := j) (by omega) (.int .i64 x)).put (by omega) (j := k) (by omega) (.int .i64 y)
  refine ⟨(h.bel.setCell (p := ⟨g, _, none⟩) hS _).setCell (p := ⟨g, _, none⟩) hS _, ?_⟩
  have e3 : ((ints l).set j (.int .i64 x)).set k (.int .i64 y) = ints ((l.set j x).set k y) := by simp [ints, List.map_set]
  rw [e3] at e2
  simpa [hn] using e2
theorem Nw.cell {W w : World} {g o n cap : Nat} {l : List Int} (h : Nw W w (.slice (some ⟨g, o, none⟩) n cap) l) {k : Nat} {x : Int} (hx : l[k]? = some x) : w.cell? ⟨g, o + k, none⟩ = some (.int .i64 x) ∧ w.frozen? ⟨g, o + k, none⟩ = false ∧ g < w.heap.size := by
  have hk := (List.getElem?_eq_some_iff.1 hx).1
  obtain ⟨g', o', cap', cur, e, _, _, hS, hg, hs, hxx⟩ := h.own.there (by omega)
  cases e
  exact ⟨own_cells hg hxx k _ (by rw [ints, List.getElem?_map, hx]; rfl), by simp [World.frozen?, hg], (Array.getElem?_eq_some_iff.1 hg).1⟩
theorem Nw.len {W w : World} {a : Option Addr} {n cap : Nat} {l : List Int} (h : Nw W w (.slice a n cap) l) : l.length = n := by
  obtain ⟨_, _, e, _⟩ := h.own.form; cases e; rfl
section
variable {W : World} {T : Nat → Prop} {v : Value} {cs : List Cq}
set_option maxHeartbeats 16000000 in
theorem rPoints_any (hv : Sl W T 9 v cs.length (cqs cs)) (hsm : cs.length * 72 ≤ 281474976710656) :
    Calls Tryz.prog 8 #[v] W fun e w' => ∃ u l, e = .returned u ∧ Nw W w' u l ∧ l.Perm (pix cs 0) ∧ l.Pairwise (fun a b => ptAt cs a ≤ ptAt cs b) := by
  obtain ⟨i0, hi0, hz0, hz1, hz2⟩ := parts_of wt_int
  obtain ⟨a, cap, rfl, hcap⟩ := hv.form
  obtain ⟨n, hn⟩ : ∃ n, n = cs.length := ⟨_, rfl⟩
  rw [← hn] at hsm hcap ⊢
  replace hn := Mr.hid hn
  replace hv := Mr.hid hv
  go_enter Tryz.func8, Tryz.ntmps8
  go_wp2
  go_loopg [3, 4] n (fun k s3 s4 wr => ∃ (i : Nat) (l : List Int), s4 = .int .i64 (i : Int) ∧ i + k = n ∧ Nw W wr s3 l ∧ l.Perm (pix (cs.take i) 0) ∧ l.Pairwise (fun a b => ptAt cs a ≤ ptAt cs b))
  case atStart => exact ⟨0, [], rfl, by omega, ⟨Below.refl _ _, Own.zero _ _ _ _ _⟩, by simp [pix], List.Pairwise.nil⟩
  case round =>
    obtain ⟨i, l, rfl, hi, hA, hP, hL⟩ := hrel
    by_cases hlt : i < n
    · obtain ⟨c, hci⟩ := get_of_lt (cs := cs) (i := i) (by have := hn.out; omega)
      obtain ⟨bc, oc, rfl, -⟩ := call_at (hv.out.below hA.bel) hci
      have RC : ∀ w, Below W.heap.size W w → At9 w bc (oc + i * 9) c := fun w hB => by
        obtain ⟨b', o', e, h⟩ := call_at (hv.out.below hB) hci
        cases e; exact h
      have RD : ∀ (j : Nat) (d : Cq), cs[j]? = some d → ∀ w, Below W.heap.size W w → At9 w bc (oc + j * 9) d := fun j d hd w hB => by
        obtain ⟨b', o', e, h⟩ := call_at (hv.out.below hB) hd
        cases e; exact h
      obtain ⟨u, cu, rfl, hcu, hcm⟩ := hA.own.form
      have hll : l.length ≤ i := by rw [hP.length_eq]; exact Nat.le_trans (pix_len _ _) (by simp; omega)
      have hnx := pix_take cs i c hci
      have hpc : ptAt cs (i : Int) = c.pt := ptAt_get hci
      obtain ⟨hbl, g0, g1, g2, g3, g4, g5, g6, g7, g8⟩ := RC _ hA.bel
      have hlI : (i : Int) < (n : Int) := by omega
      have hw1 : IntKind.i64.wrap ((i : Int) + 1) = (i : Int) + 1 := i64x _ (by omega) (by omega)
      have CT := fun w => rCounts_any c w
      unfold Cq.val at CT
      replace RC := Mr.hid RC
      replace RD := Mr.hid RD
      replace hci := Mr.hid hci
      replace hnx := Mr.hid hnx
      replace hP := Mr.hid hP
      replace hL := Mr.hid hL
      replace hA := Mr.hid hA
      replace hpc := Mr.hid hpc
      by_cases hct : obj c.op ≠ 0 ∧ c.pt ≠ -1
      · have hct1 : (obj c.op != 0) = true := by simp [hct.1]
        have hct2 : (c.pt == -1) = false := by simp [hct.2]
        rw [hct1] at CT
        have hnx2 := Mr.hid (show pix (cs.take (i + 1)) 0 = pix (cs.take i) 0 ++ [(i : Int)] by rw [hnx.out, if_pos hct])
        replace hct := Mr.hid hct
        replace CT := Mr.hid CT
        go_upto_region 6 with (go_at_call 18; refine (CT.out _).mono ?_; clear CT; rintro e w6 ⟨rfl, hB6⟩; replace hA := Mr.hid (hA.out.below hB6); clear g0 g1 g2 g3 g4 g5 g6 g7 g8 hbl hB6; obtain ⟨hbl, g0, g1, g2, g3, g4, g5, g6, g7, g8⟩ := RC.out _ hA.out.bel)
        clear g0 g1 g2 g3 g4 g5 g6 g7 g8 hbl
        go_upto_region 7 with (at_builtin; refine wpList_append_mine _ rfl (.tmp 26) (.tmp 28) 23 rfl (fun k => W.heap.size ≤ k) 3 i0 _ 1 8 Tryz.underlying23 hi0 hz0 hz1 hz2 rfl _ l.length (ints l) rfl (hA.out.own.below ((Below.refl _ _).alloc (Nat.le_refl _) _)) (some ⟨w6.heap.size, 0, none⟩) 1 1 [.int .i64 (i : Int)] rfl rfl (fun e => by cases e) (new1 rfl) (by simp [Value.oneCell']) (by unfold maxLen; omega) (by omega) ?_; intro b9 cap9 w9 hown hfr; have hX := Mr.hid (hA.out.app rfl hown hfr); clear hown hfr)
        have hX2 := hX.out
        rw [← insAt_end] at hX2
        have hq : Hid (∀ w, Nw W w (.slice b9 (l.length + 1) cap9) (insAt l l.length (i : Int)) → True) := fun _ _ => trivial
        replace hX := Mr.hid hX2
        clear hX2 hA hq
        have hw2 : IntKind.i64.wrap ((l.length : Int) + 1 - 1) = (l.length : Int) := by rw [show (l.length : Int) + 1 - 1 = (l.length : Int) from by omega]; exact i64x _ (by omega) (by omega)
        have hw3 : IntKind.i64.wrap (l.length : Int) = (l.length : Int) := i64x _ (by omega) (by omega)
        obtain ⟨m, hm⟩ : ∃ m, m = l.length := ⟨_, rfl⟩
        rw [← hm] at hX hw2 hw3 hll
        rw [← hm]
        replace hm := Mr.hid hm
        go_wp2
        go_loopg [5] m (fun q s5 wr => ∃ k : Nat, s5 = .int .i64 (k : Int) ∧ k = q ∧ k ≤ m ∧ Nw W wr (.slice b9 (m + 1) cap9) (insAt l k (i : Int)) ∧ ∀ y ∈ l.drop k, c.pt < ptAt cs y)
        case atStart => exact ⟨m, rfl, rfl, Nat.le_refl _, hX.out, fun y hy => by rw [hm.out, List.drop_length] at hy; simp at hy⟩
        case round =>
          clear hX
          obtain ⟨k, rfl, hk, hkm, hA, hgt⟩ := hrel
          subst hk
          by_cases hk0 : k = 0
          · subst hk0
            have hUp := insAt_up (f := ptAt cs) hL.out (k := 0) (x := (i : Int)) (by rw [hpc.out]; exact hgt) (fun q y h => by omega) (by omega)
            have hPm := (insAt_perm l 0 (i : Int)).trans (List.Perm.append_right _ hP.out)
            rw [← hnx2.out] at hPm
            replace hUp := Mr.hid hUp
            replace hPm := Mr.hid hPm
            replace hA := Mr.hid hA
            replace hgt := Mr.hid hgt
            go_upto_region 8 with (fail)
            go_quiet (fail)
            replace hA := Mr.hid (hA.out.below (Bx.draws _ _ nq))
            generalize wr.drewN nq = w8 at *
            go_wp2
            go_roundg (n - (i + 1))
            case measure => omega
            case rel => exact ⟨i + 1, _, by simp, by omega, hA.out, hPm.out, hUp.out⟩
          · obtain ⟨q, rfl⟩ : ∃ q, k = q + 1 := ⟨k - 1, by omega⟩
            obtain ⟨y, hy⟩ : ∃ y, l[q]? = some y := ⟨l[q]'(by have := hm.out; omega), List.getElem?_eq_getElem _⟩
            obtain ⟨j, d, hyj, hdj, hji⟩ := pix_call hP.out (List.mem_of_getElem? hy)
            subst hyj
            have hpd : ptAt cs (j : Int) = d.pt := ptAt_get hdj
            have x1 := insAt_at (l := l) (k := q + 1) (by have := hm.out; omega) (i : Int)
            have x0 := (insAt_pred (l := l) (k := q) (by have := hm.out; omega) (i : Int)).trans hy
            obtain ⟨gb, ob, cb, cur, e9, _⟩ := hA.own.there (by rw [insAt_len]; omega)
            injection e9 with e91 e92 e93
            subst e91
            clear e92 e93
            obtain ⟨k1, f1, kl⟩ := hA.cell x1
            obtain ⟨k0, f0, -⟩ := hA.cell x0
            obtain ⟨hbd, -, -, -, -, -, -, d6, -, -⟩ := RD.out j d hdj _ hA.bel
            obtain ⟨hbl, -, -, -, -, -, -, g6, -, -⟩ := RC.out _ hA.bel
            have q1 : (0 : Int) < (q : Int) + 1 := by omega
            have q2 : IntKind.i64.wrap (q : Int) = (q : Int) := i64x _ (by omega) (by omega)
            have q3 : IntKind.i64.wrap ((q : Int) + 1 - 1) = (q : Int) := by rw [show (q : Int) + 1 - 1 = (q : Int) from by omega]; exact q2
            have q4 : (q : Int) < (m : Int) + 1 := by omega
            have q5 : (q : Int) + 1 < (m : Int) + 1 := by omega
            have q5' : (q : Int) < (m : Int) := by omega
            have q6 : (0 : Int) ≤ (q : Int) + 1 := by omega
            have q7 : ((q : Int) + 1).toNat = q + 1 := by omega
            have q8 : (j : Int) < (n : Int) := by omega
            have q9 : (0 : Int) ≤ (q : Int) := by omega
            by_cases hgtd : c.pt < d.pt
            · have hgt2 : decide (c.pt < d.pt) = true := decide_eq_true hgtd
              have hnext := insAt_swap hy (i : Int)
              have hgt3 : ∀ y ∈ l.drop q, c.pt < ptAt cs y := fun z hz => by
                rcases drop_at hy hz with rfl | hz
                · rw [hpd]; exact hgtd
                · exact hgt z hz
              have hPut : ∀ w, Nw W w (.slice (some ⟨gb, ob, none⟩) (m + 1) cap9) (insAt l (q + 1) (i : Int)) → Nw W ((w.setCell ⟨gb, ob + q, none⟩ (.int .i64 (i : Int))).setCell ⟨gb, ob + (q + 1), none⟩ (.int .i64 (j : Int))) (.slice (some ⟨gb, ob, none⟩) (m + 1) cap9) (insAt l q (i : Int)) := fun w h => by
                have h2 := h.put2 (by rw [insAt_len]; have := hm.out; omega) (j := q) (k := q + 1) (by omega) (by omega) (i : Int) (j : Int)
                rwa [hnext] at h2
              have hne : ob + q ≠ ob + (q + 1) := by omega
              replace hgtd := Mr.hid hgtd
              replace hgt3 := Mr.hid hgt3
              replace hgt := Mr.hid hgt
              replace hPut := Mr.hid hPut
              replace hy := Mr.hid hy
              replace x1 := Mr.hid x1
              replace x0 := Mr.hid x0
              replace hnext := Mr.hid hnext
              replace hA := Mr.hid hA
              go_upto_region 8 with (fail)
              go_quiet (fail)
              replace hA := Mr.hid (hA.out.below (Bx.draws _ _ nq))
              clear k1 f1 kl k0 f0 d6 g6 hbd hbl
              generalize wr.drewN nq = w8 at *
              obtain ⟨k1, f1, kl⟩ := hA.out.cell x1.out
              obtain ⟨k0, f0, -⟩ := hA.out.cell x0.out
              go_upto_region 10 with (fail)
              go_region
              have hA10 := Mr.hid ((hPut.out _ hA.out).below ((Below.refl _ _).drew))
              clear k1 f1 kl k0 f0 hA
              generalize World.drew _ = w10 at *
              go_wp2
              go_roundg q
              case measure => omega
              case rel => exact ⟨q, by simp, rfl, by omega, hA10.out, hgt3.out⟩
            · have hgt2 : decide (c.pt < d.pt) = false := decide_eq_false hgtd
              have hUp := insAt_up (f := ptAt cs) hL.out (k := q + 1) (x := (i : Int)) (by rw [hpc.out]; exact hgt) (fun q' y' h h2 => by
                have : q' = q := by omega
                subst this
                rw [hy] at h2; cases h2
                rw [hpd, hpc.out]; omega) (by have := hm.out; omega)
              have hPm := (insAt_perm l (q + 1) (i : Int)).trans (List.Perm.append_right _ hP.out)
              rw [← hnx2.out] at hPm
              replace hUp := Mr.hid hUp
              replace hPm := Mr.hid hPm
              replace hA := Mr.hid hA
              replace hgt := Mr.hid hgt
              replace hgtd := Mr.hid hgtd
              replace hy := Mr.hid hy
              replace x1 := Mr.hid x1
              replace x0 := Mr.hid x0
              go_upto_region 8 with (fail)
              go_quiet (fail)
              replace hA := Mr.hid (hA.out.below (Bx.draws _ _ nq))
              clear k1 f1 kl k0 f0 d6 g6 hbd hbl
              generalize wr.drewN nq = w8 at *
              go_wp2
              go_roundg (n - (i + 1))
              case measure => omega
              case rel => exact ⟨i + 1, _, by simp, by omega, hA.out, hPm.out, hUp.out⟩
      · have hnx2 := Mr.hid (show l.Perm (pix (cs.take (i + 1)) 0) by rw [hnx.out, if_neg hct, List.append_nil]; exact hP.out)
        by_cases ho : obj c.op = 0
        · have hct1 : (obj c.op != 0) = false := by simp [ho]
          rw [hct1] at CT
          replace CT := Mr.hid CT
          replace ho := Mr.hid ho
          replace hct := Mr.hid hct
          go_wp2_with (go_at_call 18; refine (CT.out _).mono ?_; clear CT; rintro e w6 ⟨rfl, hB6⟩; replace hA := Mr.hid (hA.out.below hB6); clear g0 g1 g2 g3 g4 g5 g6 g7 g8 hbl hB6)
          go_roundg (gk - 1)
          case measure => omega
          case rel => exact ⟨i + 1, l, by simp, by omega, hA.out, hnx2.out, hL.out⟩
        · have hpt : c.pt = -1 := Classical.byContradiction (fun h => hct ⟨ho, h⟩)
          have hct1 : (obj c.op != 0) = true := by simp [ho]
          have hct2 : (c.pt == -1) = true := by simp [hpt]
          rw [hct1] at CT
          replace CT := Mr.hid CT
          replace ho := Mr.hid ho
          replace hct := Mr.hid hct
          replace hpt := Mr.hid hpt
          go_wp2_with (go_at_call 18; refine (CT.out _).mono ?_; clear CT; rintro e w6 ⟨rfl, hB6⟩; replace hA := Mr.hid (hA.out.below hB6); clear g0 g1 g2 g3 g4 g5 g6 g7 g8 hbl hB6; obtain ⟨hbl, g0, g1, g2, g3, g4, g5, g6, g7, g8⟩ := RC.out _ hA.out.bel)
          go_roundg (gk - 1)
          case measure => omega
          case rel => exact ⟨i + 1, l, by simp, by omega, hA.out, hnx2.out, hL.out⟩
    · have hin : i = cs.length := by have := hn.out; omega
      rw [hin, List.take_length] at hP
      have dl : decide ((i : Int) < (n : Int)) = false := decide_eq_false (by omega)
      replace hP := Mr.hid hP
      replace hL := Mr.hid hL
      obtain ⟨u, cu, rfl, hcu, hcm⟩ := hA.own.form
      replace hA := Mr.hid hA
      go_wp2
      go_ret
      exact ⟨_, l, rfl, hA.out, hP.out, hL.out⟩
end
end Go.Proofs.YtfgnaffomglmdaaGreat.Wt
