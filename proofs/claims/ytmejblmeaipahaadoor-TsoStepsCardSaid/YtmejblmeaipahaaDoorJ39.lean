import Derived.Test.YtmejblmeaipahaaDoorJ37
import Derived.Test.YtmejblmeaipahaaDoorJ34
import Derived.Test.YtmejblmeaipahaaDoorJ35
import Derived.Test.YtmejblmeaipahaaDoorJ38
/-
  TSO: the document's Belongs.
-/
namespace Go.Proofs.YtmejblmeaipahaaDoor.Ts
open Go.RowKit Mr
set_option linter.unusedVariables false
set_option linter.unusedSimpArgs false
set_option maxRecDepth 100000
theorem draws' {w W : World} (h : Below w.heap.size w W) (n : Nat) : Below w.heap.size w (W.drewN n) := h.trans ⟨rfl, rfl, rfl, Nat.le_refl _, fun _ _ => rfl⟩
theorem drewN_two (w : World) (a b : Nat) : (w.drewN a).drewN b = w.drewN (a + b) := by rw [World.drewN_drewN]
set_option maxHeartbeats 16000000 in
theorem rBel_any (l : Lt) (o : Int) (s : Sv) (aw ah : Option Addr) (nw cw nt ct : Nat) (a0 : Option Addr) (n0 c0 : Nat) (a1 : Option Addr) (n1 c1 : Nat) (a2 : Option Addr) (n2 c2 : Nat) (a3 : Option Addr) (n3 c3 : Nat) (w : World) (hc : chkB l = true) (hI : nw = l.ws.length) (hT : ThAt w ah nt l.th) (h0 : n0 = s.ws.length) (h1 : n1 = s.rg.length) (h2 : IsAt w a2 n2 s.pl) (h3 : BfAt w a3 n3 s.bf) :
    Calls Tryd.prog 19 #[.agg #[.slice aw nw cw, .slice ah nt ct], .int .i64 o, .agg #[.slice a0 n0 c0, .slice a1 n1 c1, .slice a2 n2 c2, .slice a3 n3 c3]] w fun e w' => e = .returned (.bool (belB l o s)) ∧ Below w.heap.size w w' := by
  obtain ⟨k1, k2, k3⟩ := chk_len hc
  have hl := hT.1
  have B0 := bx1_below w aw ah nw cw nt ct #[.slice a0 n0 c0, .slice a1 n1 c1, .slice a2 n2 c2, .slice a3 n3 c3]
  have b0 := bx1_0 w aw ah nw cw nt ct #[.slice a0 n0 c0, .slice a1 n1 c1, .slice a2 n2 c2, .slice a3 n3 c3]
  have b1 := bx1_1 w aw ah nw cw nt ct #[.slice a0 n0 c0, .slice a1 n1 c1, .slice a2 n2 c2, .slice a3 n3 c3]
  have hl2 := h2.1
  have hl3 := h3.1
  have OFF : Hid (n0 ≠ nw ∨ n1 ≠ nt ∨ n2 ≠ nt ∨ n3 ≠ nt → belB l o s = false) := fun h => bel_off l o s (by omega)
  obtain ⟨R, hR⟩ : ∃ R, belB l o s = R := ⟨_, rfl⟩
  rw [hR] at OFF ⊢
  replace hR := Mr.hid hR
  by_cases e0 : n0 = nw
  case neg =>
    obtain rfl := OFF.out (.inl e0)
    have z0 : ((n0 : Int) != (nw : Int)) = true := bne_iff_ne.2 (by omega)
    replace B0 := Mr.hid B0
    clear OFF hR h2 h3 hT hl hl2 hl3 e0 b0 b1 hI h0 h1 k1 k2 k3 hc
    go_enter Tryd.func19, Tryd.ntmps19
    go_wp2
    go_ret
    exact ⟨rfl, B0.out⟩
  have z0 : ((n0 : Int) != (nw : Int)) = false := by rw [e0]; simp
  by_cases e1 : n1 = nt
  case neg =>
    obtain rfl := OFF.out (.inr (.inl e1))
    have z1 : ((n1 : Int) != (nt : Int)) = true := bne_iff_ne.2 (by omega)
    replace B0 := Mr.hid B0
    clear OFF hR h2 h3 hT hl hl2 hl3 e0 e1 b0 b1 hI h0 h1 k1 k2 k3 hc
    go_enter Tryd.func19, Tryd.ntmps19
    go_wp2
    go_ret
    exact ⟨rfl, B0.out⟩
  have z1 : ((n1 : Int) != (nt : Int)) = false := by rw [e1]; simp
  by_cases e2 : n2 = nt
  case neg =>
    obtain rfl := OFF.out (.inr (.inr (.inl e2)))
    have z2 : ((n2 : Int) != (nt : Int)) = true := bne_iff_ne.2 (by omega)
    replace B0 := Mr.hid B0
    clear OFF hR h2 h3 hT hl hl2 hl3 e0 e1 e2 b0 b1 hI h0 h1 k1 k2 k3 hc
    go_enter Tryd.func19, Tryd.ntmps19
    go_wp2
    go_ret
    exact ⟨rfl, B0.out⟩
  have z2 : ((n2 : Int) != (nt : Int)) = false := by rw [e2]; simp
  by_cases e3 : n3 = nt
  case neg =>
    obtain rfl := OFF.out (.inr (.inr (.inr e3)))
    have z3 : ((n3 : Int) != (nt : Int)) = true := bne_iff_ne.2 (by omega)
    replace B0 := Mr.hid B0
    clear OFF hR h2 h3 hT hl hl2 hl3 e0 e1 e2 e3 b0 b1 hI h0 h1 k1 k2 k3 hc
    go_enter Tryd.func19, Tryd.ntmps19
    go_wp2
    go_ret
    exact ⟨rfl, B0.out⟩
  have z3 : ((n3 : Int) != (nt : Int)) = false := by rw [e3]; simp
  have hck : Hid (R = (List.range l.th.length).all (belT l o s)) := by
    show _ = _
    rw [← hR.out]
    unfold belB
    rw [decide_eq_true (show s.ws.length = l.ws.length by omega), decide_eq_true (show s.rg.length = l.th.length by omega), decide_eq_true (show s.pl.length = l.th.length by omega), decide_eq_true (show s.bf.length = l.th.length by omega)]
    rfl
  have hTx : Hid (∀ i, i < nt → ∃ (cd : List In) (pc : Int) (bf : List Pd) (g q : Nat) (a' : Option Addr) (n' c' : Nat) (g2 q2 g3 q3 : Nat) (ab : Option Addr) (nb cb : Nat), nb = bf.length ∧ ah = some ⟨g, q, none⟩ ∧ a2 = some ⟨g2, q2, none⟩ ∧ a3 = some ⟨g3, q3, none⟩ ∧ g < w.heap.size ∧ g2 < w.heap.size ∧ g3 < w.heap.size ∧ w.cell? ⟨g, q + i, none⟩ = some (.slice a' n' c') ∧ w.cell? ⟨g2, q2 + i, none⟩ = some (.int .i64 pc) ∧ w.cell? ⟨g3, q3 + i, none⟩ = some (.slice ab nb cb) ∧ PdAt w ab nb bf ∧ n' ≤ 1000000 ∧ belT l o s i = (inB pc 0 (n' : Int) && bfB o (nw : Int) bf)) := fun i hi => by
    obtain ⟨cd, hcd⟩ : ∃ c, l.th[i]? = some c := ⟨_, List.getElem?_eq_getElem (by omega)⟩
    obtain ⟨pc, hpc⟩ : ∃ c, s.pl[i]? = some c := ⟨_, List.getElem?_eq_getElem (by omega)⟩
    obtain ⟨bf, hbf⟩ : ∃ c, s.bf[i]? = some c := ⟨_, List.getElem?_eq_getElem (by omega)⟩
    obtain ⟨g, q, rfl, hg, hgc⟩ := hT.2.resolve_left (by intro e; rw [e] at hcd; simp at hcd)
    obtain ⟨g2, q2, rfl, hg2, hgc2⟩ := h2.2.resolve_left (by intro e; rw [e] at hpc; simp at hpc)
    obtain ⟨g3, q3, ab, nb, cb, rfl, hg3, hgc3, hnb, hP⟩ := h3.at hbf
    obtain ⟨a', n', c', hcell, hnk, hC⟩ := hgc i cd hcd
    have hn10 := (k3 cd (List.mem_of_getElem? hcd)).1
    refine ⟨cd, pc, bf, g, q, a', n', c', g2, q2, g3, q3, ab, nb, cb, hnb, rfl, rfl, rfl, hg, hg2, hg3, hcell, hgc2 i pc hpc, hgc3, hP, by have := hC.1; omega, ?_⟩
    unfold belT
    rw [hI, hC.1]
    simp [List.getD_eq_getElem?_getD, hcd, hpc, hbf]
  have hn4 : Hid (nt ≤ 4 ∧ nt = l.th.length) := ⟨by omega, hl⟩
  have q1 := cell_blk b0 1
  have hb0 := Mr.hid b0
  have hb1 := Mr.hid b1
  replace B0 := Mr.hid B0
  subst e0 e1
  obtain rfl : n1 = n2 := e2.symm
  obtain rfl : n1 = n3 := e3.symm
  clear e2 e3
  clear OFF h2 h3 hT hl hl2 hl3 b0 hI h0 h1 k1 k2 k3 hc hR
  go_enter Tryd.func19, Tryd.ntmps19
  go_upto_region 5 with fail
  clear z0 z1 z2 z3
  show Code.wp _ _ _ _ (bx1 w aw ah n0 cw n1 ct #[.slice a0 n0 c0, .slice a1 n1 c1, .slice a2 n1 c2, .slice a3 n1 c3])
  generalize (bx1 w aw ah n0 cw n1 ct #[.slice a0 n0 c0, .slice a1 n1 c1, .slice a2 n1 c2, .slice a3 n1 c3]) = w1 at *
  clear q1
  go_loopg [8] n1 (fun gk s8 wr => ∃ i : Nat, s8 = .int .i64 (i : Int) ∧ i + gk = n1 ∧ (List.range i).all (belT l o s) = true ∧ Below w1.heap.size w1 wr)
  case atStart => exact ⟨0, rfl, by omega, rfl, Below.refl _ _⟩
  case round =>
    obtain ⟨i, rfl, hi, hall, hB⟩ := hrel
    have hBw : Hid (Below w.heap.size w wr) := B0.out.trans (hB.mono B0.out.size)
    by_cases hlt : i < n1
    · obtain ⟨cd, pc, bf, g, q, a', n', c', g2, q2, g3, q3, ab, nb, cb, hnb, rfl, rfl, rfl, hg, hg2, hg3, y0, y2, y3, hP, hn', hbt⟩ := hTx.out i hlt
      have r0 := (hB.block _ (Array.getElem?_eq_some_iff.1 hb0.out).1).trans hb0.out
      have r1 := (hB.block _ (Array.getElem?_eq_some_iff.1 hb1.out).1).trans hb1.out
      have x0 := cell_blk r0 0
      have x1 := cell_blk r0 1
      have x2 := cell_blk r1 2
      have x3 := cell_blk r1 3
      have l0 := (Array.getElem?_eq_some_iff.1 r0).1
      have l1 := (Array.getElem?_eq_some_iff.1 r1).1
      replace y0 := (hBw.out.cell (p := ⟨g, q + i, none⟩) hg).trans y0
      replace y2 := (hBw.out.cell (p := ⟨g2, q2 + i, none⟩) hg2).trans y2
      replace y3 := (hBw.out.cell (p := ⟨g3, q3 + i, none⟩) hg3).trans y3
      have hP' := Mr.hid (hP.below hBw.out)
      replace hg := Nat.lt_of_lt_of_le hg hBw.out.size
      replace hg2 := Nat.lt_of_lt_of_le hg2 hBw.out.size
      replace hg3 := Nat.lt_of_lt_of_le hg3 hBw.out.size
      have hlI : (i : Int) < (n1 : Int) := by omega
      have dl : decide ((i : Int) < (n1 : Int)) = true := by simpa using hlI
      have hw : IntKind.i64.wrap ((i : Int) + 1) = (i : Int) + 1 := i64x _ (by have := hn4.out; omega) (by have := hn4.out; omega)
      have hi' := Mr.hid hi
      have hnext : Hid (inB pc 0 (n' : Int) = true → bfB o (n0 : Int) bf = true → (List.range (i + 1)).all (belT l o s) = true) := fun h h' => by rw [List.range_succ, List.all_append, hall]; simp [hbt, h, h']
      have hbad : Hid ((inB pc 0 (n' : Int) = false ∨ bfB o (n0 : Int) bf = false) → R = false) := fun h => by
        rw [hck.out]
        cases ha : (List.range l.th.length).all (belT l o s) with
        | false => rfl
        | true =>
          have := List.all_eq_true.1 ha i (by rw [List.mem_range]; have := hn4.out; omega)
          rw [hbt] at this
          rcases h with h | h <;> simp [h] at this
      replace hB := Mr.hid hB
      replace hnb := Mr.hid hnb
      clear hi hall hbt hP r0 r1 hTx hck
      go_upto_region 7 with fail
      by_cases p0 : pc < 0
      · have d0 : decide (pc < 0) = true := decide_eq_true p0
        have r0 : Hid (R = false) := hbad.out (.inl (by unfold inB; rw [decide_eq_false (by omega)]; rfl))
        go_quiet (fail)
        go_wp2
        go_ret
        exact ⟨by rw [r0.out]; rfl, draws' hBw.out _⟩
      have d0 : decide (pc < 0) = false := decide_eq_false p0
      by_cases p1 : (n' : Int) < pc
      · have d1 : decide ((n' : Int) < pc) = true := decide_eq_true p1
        have r0 : Hid (R = false) := hbad.out (.inl (by unfold inB; rw [decide_eq_false (show ¬ pc ≤ (n' : Int) by omega)]; simp))
        go_quiet (fail)
        go_wp2
        go_ret
        exact ⟨by rw [r0.out]; rfl, draws' hBw.out _⟩
      have d1 : decide ((n' : Int) < pc) = false := decide_eq_false p1
      by_cases p2 : (10 : Int) < (nb : Int)
      · have d2 : decide ((10 : Int) < (nb : Int)) = true := decide_eq_true p2
        have r0 : Hid (R = false) := hbad.out (.inr (by unfold bfB; rw [decide_eq_false (show ¬ bf.length ≤ 10 by have := hnb.out; omega)]; rfl))
        go_quiet (fail)
        go_wp2
        go_ret
        exact ⟨by rw [r0.out]; rfl, draws' hBw.out _⟩
      have d2 : decide ((10 : Int) < (nb : Int)) = false := decide_eq_false p2
      by_cases p3 : o = 1 ∧ (0 : Int) < (nb : Int)
      · have d3 : (o == 1) = true := by rw [p3.1]; rfl
        have d4 : decide ((0 : Int) < (nb : Int)) = true := decide_eq_true p3.2
        have d5 := p3.2
        have r0 : Hid (R = false) := hbad.out (.inr (by unfold bfB; rw [decide_eq_true p3.1, decide_eq_true (show 0 < bf.length by have := hnb.out; omega)]; simp))
        replace p3 := Mr.hid p3
        go_quiet (fail)
        go_wp2
        go_ret
        exact ⟨by rw [r0.out]; rfl, draws' hBw.out _⟩
      have ok1 : Hid (inB pc 0 (n' : Int) = true) := by show _ = _; unfold inB; rw [decide_eq_true (show (0 : Int) ≤ pc by omega), decide_eq_true (show pc ≤ (n' : Int) by omega)]; rfl
      have ok2 : Hid (bfB o (n0 : Int) bf = bf.all (fun p => inB p.ad 0 ((n0 : Int) - 1))) := by
        show _ = _
        unfold bfB
        rw [decide_eq_true (show bf.length ≤ 10 by have := hnb.out; omega)]
        by_cases ho : o = 1
        · rw [decide_eq_false (show ¬ 0 < bf.length by have := hnb.out; intro h; exact p3 ⟨ho, by omega⟩)]; simp
        · rw [decide_eq_false ho]; simp
      by_cases ho : o = 1
      · have d3 : (o == 1) = true := by rw [ho]; rfl
        have p4 : ¬ (0 : Int) < (nb : Int) := fun h => p3 ⟨ho, h⟩
        have d4 : decide ((0 : Int) < (nb : Int)) = false := decide_eq_false p4
        have hb0 : bf = [] := List.eq_nil_of_length_eq_zero (by have := hnb.out; omega)
        have hgo : Hid ((List.range (i + 1)).all (belT l o s) = true) := hnext.out ok1.out (by rw [ok2.out, hb0]; rfl)
        obtain rfl : nb = 0 := by omega
        replace p3 := Mr.hid p3
        clear ho hb0
        go_quiet (fail)
        have hBz : Hid (Below w.heap.size w (wr.drewN nq)) := draws' hBw.out _
        have hBy : Hid (Below w1.heap.size w1 (wr.drewN nq)) := draws' hB.out _
        have z0 : (wr.drewN nq).cell? ⟨w.heap.size, 0, none⟩ = _ := x0
        have z1 : (wr.drewN nq).cell? ⟨w.heap.size, 1, none⟩ = _ := x1
        have z2 : (wr.drewN nq).cell? ⟨w.heap.size + 1, 2, none⟩ = _ := x2
        have z3 : (wr.drewN nq).cell? ⟨w.heap.size + 1, 3, none⟩ = _ := x3
        have z4 : (wr.drewN nq).cell? ⟨g3, q3 + i, none⟩ = _ := y3
        have l0' : w.heap.size < (wr.drewN nq).heap.size := l0
        have l1' : w.heap.size + 1 < (wr.drewN nq).heap.size := l1
        have lg' : g3 < (wr.drewN nq).heap.size := hg3
        clear x0 x1 x2 x3 y0 y2 y3 l0 l1 hg hg2 hg3
        generalize wr.drewN nq = wo at *
        go_upto_region 10 with fail
        go_loopg [9] 0 (fun gk9 s9 wq => s9 = .int .i64 0 ∧ wq = wo)
        case atStart => exact ⟨rfl, rfl⟩
        case round =>
          obtain ⟨rfl, hwq⟩ := hrel
          obtain rfl := hwq.symm
          go_wp2
          go_roundg (n1 - (i + 1))
          case measure => have := hi'.out; omega
          case rel => exact ⟨i + 1, by simp, by have := hi'.out; omega, hgo.out, hBy.out⟩
      · have d3 : (o == 1) = false := by simpa using ho
        clear ho
        replace p3 := Mr.hid p3
        go_quiet (fail)
        have hBz : Hid (Below w.heap.size w (wr.drewN nq)) := draws' hBw.out _
        have hBy : Hid (Below w1.heap.size w1 (wr.drewN nq)) := draws' hB.out _
        have z0 : (wr.drewN nq).cell? ⟨w.heap.size, 0, none⟩ = _ := x0
        have z1 : (wr.drewN nq).cell? ⟨w.heap.size, 1, none⟩ = _ := x1
        have z2 : (wr.drewN nq).cell? ⟨w.heap.size + 1, 2, none⟩ = _ := x2
        have z3 : (wr.drewN nq).cell? ⟨w.heap.size + 1, 3, none⟩ = _ := x3
        have z4 : (wr.drewN nq).cell? ⟨g3, q3 + i, none⟩ = _ := y3
        have l0' : w.heap.size < (wr.drewN nq).heap.size := l0
        have l1' : w.heap.size + 1 < (wr.drewN nq).heap.size := l1
        have lg' : g3 < (wr.drewN nq).heap.size := hg3
        have hP2 : Hid (PdAt (wr.drewN nq) ab nb bf) := hP'.out
        clear x0 x1 x2 x3 y0 y2 y3 l0 l1 hg hg2 hg3
        generalize wr.drewN nq = wo at *
        go_upto_region 10 with fail
        clear d0 d1 d2 d3
        go_loopg [9] nb (fun gk9 s9 wq => ∃ k : Nat, s9 = .int .i64 (k : Int) ∧ k + gk9 = nb ∧ (bf.take k).all (fun p => inB p.ad 0 ((n0 : Int) - 1)) = true ∧ (∃ nz, wq = wo.drewN nz))
        case atStart => exact ⟨0, rfl, by omega, rfl, 0, rfl⟩
        case round =>
          obtain ⟨k, rfl, hk, hallk, nz, rfl⟩ := hrel
          have x0 : (wo.drewN nz).cell? ⟨w.heap.size, 0, none⟩ = _ := z0
          have x3 : (wo.drewN nz).cell? ⟨w.heap.size + 1, 3, none⟩ = _ := z3
          have x4 : (wo.drewN nz).cell? ⟨g3, q3 + i, none⟩ = _ := z4
          have l0 : w.heap.size < (wo.drewN nz).heap.size := l0'
          have l1 : w.heap.size + 1 < (wo.drewN nz).heap.size := l1'
          have lg : g3 < (wo.drewN nz).heap.size := lg'
          have hBk : Hid (Below w.heap.size w (wo.drewN nz)) := draws' hBz.out _
          have hBj : Hid (Below w1.heap.size w1 (wo.drewN nz)) := draws' hBy.out _
          have hPk : Hid (PdAt (wo.drewN nz) ab nb bf) := hP2.out
          have hwd : Hid (∀ j, ∃ nz', (wo.drewN nz).drewN j = wo.drewN nz') := fun j => ⟨_, drewN_two wo nz j⟩
          generalize wo.drewN nz = wq at *
          by_cases hkl : k < nb
          · have hkx : k < bf.length := by have := hnb.out; omega
            obtain ⟨y, hy⟩ : ∃ y, bf[k]? = some y := ⟨bf[k], List.getElem?_eq_getElem hkx⟩
            obtain ⟨f1, o1, rfl, hf1, hcc⟩ := hPk.out.2.resolve_left (by intro e; rw [e] at hkx; simp at hkx)
            obtain ⟨u0, u1⟩ := hcc k y hy
            have hty := take_succ_of hy
            have hmy := List.mem_of_getElem? hy
            have hkI : (k : Int) < (nb : Int) := by omega
            have dk : decide ((k : Int) < (nb : Int)) = true := by simpa using hkI
            have hwk : IntKind.i64.wrap ((k : Int) + 1) = (k : Int) + 1 := i64x _ (by omega) (by omega)
            have hk' := Mr.hid hk
            have hnk : Hid (inB y.ad 0 ((n0 : Int) - 1) = true → (bf.take (k + 1)).all (fun p => inB p.ad 0 ((n0 : Int) - 1)) = true) := fun h => by rw [hty, List.all_append, hallk]; simp [h]
            have hbk : Hid (inB y.ad 0 ((n0 : Int) - 1) = false → R = false) := fun h => by
              refine hbad.out (.inr ?_)
              rw [ok2.out]
              cases ha : bf.all (fun p => inB p.ad 0 ((n0 : Int) - 1)) with
              | false => rfl
              | true => have := List.all_eq_true.1 ha y hmy; rw [h] at this; cases this
            obtain ⟨ad, vl⟩ := y
            dsimp only at u0 hnk hbk
            clear hcc hy hty hkx hk hallk hmy u1
            go_upto_region 12 with fail
            by_cases p5 : ad < 0
            · have d5 : decide (ad < 0) = true := decide_eq_true p5
              have r0 : Hid (R = false) := hbk.out (by unfold inB; rw [decide_eq_false (by omega)]; rfl)
              go_quiet (fail)
              go_wp2
              go_ret
              exact ⟨by rw [r0.out]; rfl, draws' hBk.out _⟩
            have d5 : decide (ad < 0) = false := decide_eq_false p5
            by_cases p6 : (n0 : Int) ≤ ad
            · have d6 : decide ((n0 : Int) ≤ ad) = true := decide_eq_true p6
              have r0 : Hid (R = false) := hbk.out (by unfold inB; rw [decide_eq_false (show ¬ ad ≤ (n0 : Int) - 1 by omega)]; simp)
              go_quiet (fail)
              go_wp2
              go_ret
              exact ⟨by rw [r0.out]; rfl, draws' hBk.out _⟩
            have d6 : decide ((n0 : Int) ≤ ad) = false := decide_eq_false p6
            have hn1 := Mr.hid (hnk.out (by unfold inB; rw [decide_eq_true (show (0 : Int) ≤ ad by omega), decide_eq_true (show ad ≤ (n0 : Int) - 1 by omega)]; rfl))
            go_quiet (fail)
            obtain ⟨nz2, hwq0'⟩ := hwd.out nq
            have hwq0 := Mr.hid hwq0'
            clear hwq0'
            go_wp2
            go_roundg (gk - 1)
            case measure => have := hk'.out; omega
            case rel => exact ⟨k + 1, by simp, by have := hk'.out; omega, hn1.out, _, hwq0.out⟩
          · have hfk : bf.take k = bf := List.take_of_length_le (by have := hnb.out; omega)
            rw [hfk] at hallk
            have hgo : Hid ((List.range (i + 1)).all (belT l o s) = true) := hnext.out ok1.out (by rw [ok2.out]; exact hallk)
            have dk : decide ((k : Int) < (nb : Int)) = false := decide_eq_false (by omega)
            have dk2 : ¬ (k : Int) < (nb : Int) := by omega
            clear hk hfk hallk hkl hPk
            go_wp2
            go_roundg (n1 - (i + 1))
            case measure => have := hi'.out; omega
            case rel => exact ⟨i + 1, by simp, by have := hi'.out; omega, hgo.out, hBj.out⟩
    · have r1 : Hid (R = true) := by
        show _ = _
        rw [hck.out, ← hn4.out.2, show n1 = i by omega]
        exact hall
      have dl : decide ((i : Int) < (n1 : Int)) = false := decide_eq_false (by omega)
      have dl2 : ¬ (i : Int) < (n1 : Int) := by omega
      clear hlt hi hB hall
      go_wp2
      go_ret
      exact ⟨by rw [r1.out]; rfl, hBw.out⟩
end Go.Proofs.YtmejblmeaipahaaDoor.Ts
/-
  TSO: what the law of steps leans on.
-/
namespace Go.Proofs.YtmejblmeaipahaaDoor.Ts
open Go.RowKit Mr
set_option linter.unusedVariables false
set_option linter.unusedSimpArgs false
set_option maxRecDepth 100000
theorem Bg.sv {w w' : World} {l : Lt} {nw nt g1 g2 g3 g4 c1 : Nat} (h : Bg w w' l nw nt g1 g2 g3 g4 c1) (hw : nw = l.ws.length) (ht : nt = l.th.length) : SvAt w' #[.slice (some ⟨g1, 0, none⟩) nw c1, .slice (some ⟨g2, 0, none⟩) nt nt, .slice (some ⟨g3, 0, none⟩) nt nt, .slice (some ⟨g4, 0, none⟩) nt nt] (begS l) nw nt nt nt := by
  obtain ⟨A, a, p⟩ := h.h1
  have l1 := (Array.getElem?_eq_some_iff.1 a).1
  have l2 := (Array.getElem?_eq_some_iff.1 h.h2).1
  have l3 := (Array.getElem?_eq_some_iff.1 h.h3).1
  have l4 := (Array.getElem?_eq_some_iff.1 h.h4).1
  refine ⟨_, _, _, _, _, _, _, _, rfl, ⟨hw, .inr ⟨g1, 0, rfl, l1, fun j x hx => by rw [Nat.zero_add, cell_blk a]; exact p j x hx⟩⟩, ⟨by simp [begS, ht], .inr ⟨g2, 0, rfl, l2, fun j x hx => ?_⟩⟩, ⟨by simp [begS, ht], .inr ⟨g3, 0, rfl, l3, fun j x hx => ?_⟩⟩, ⟨by simp [begS, ht], .inr ⟨g4, 0, rfl, l4, fun j c hc => ?_⟩⟩⟩
  · have hj : j < nt := by rw [ht]; simpa [begS] using (List.getElem?_eq_some_iff.1 hx).1
    have ex : x = noRg := by
      have h2 := hx
      simp only [begS, List.getElem?_replicate] at h2
      split at h2 <;> simp at h2
      exact h2.symm
    subst ex
    have k : ∀ q, q < 4 → w'.cell? ⟨g2, 0 + j * 4 + q, none⟩ = some (.int .i64 0) := fun q hq => by rw [cell_blk h.h2]; exact mkR_get _ _ (by omega)
    exact ⟨k 0 (by decide), k 1 (by decide), k 2 (by decide), k 3 (by decide)⟩
  · have hj : j < nt := by rw [ht]; simpa [begS] using (List.getElem?_eq_some_iff.1 hx).1
    have ex : x = 0 := by
      have h2 := hx
      simp only [begS, List.getElem?_replicate] at h2
      split at h2 <;> simp at h2
      exact h2.symm
    subst ex
    rw [Nat.zero_add, cell_blk h.h3]; exact mkI_get _ _ hj
  · have hj : j < nt := by rw [ht]; simpa [begS] using (List.getElem?_eq_some_iff.1 hc).1
    have ex : c = [] := by
      have h2 := hc
      simp only [begS, List.getElem?_replicate] at h2
      split at h2 <;> simp at h2
      exact h2
    subst ex
    exact ⟨none, 0, 0, by rw [Nat.zero_add, cell_blk h.h4]; exact mkB_get _ _ hj, Nat.le_refl _, rfl, .inl rfl⟩
theorem has_is {W : World} {S : Nat → Prop} {a : Option Addr} {n c : Nat} {xs : List Int} (h : Has W S 3 1 (.slice a n c) n (intsV xs)) : IsAt W a n xs := by
  have hl := h.1
  simp only [intsV, List.length_map, Nat.mul_one] at hl
  by_cases h0 : 0 < n
  · obtain ⟨g, c', e, -, -, -, -⟩ := h.there h0
    cases e
    exact IsAt.of h
  · exact ⟨hl.symm, .inl (List.eq_nil_of_length_eq_zero (by omega))⟩
theorem has_rg {W : World} {S : Nat → Prop} {a : Option Addr} {n c : Nat} {xs : List Rg} (h : Has W S 67 4 (.slice a n c) n (rgV xs)) : RgAt W a n xs := by
  have hl := h.1
  rw [rgV_len] at hl
  by_cases h0 : 0 < n
  · obtain ⟨g, c', e, -, hg, -, -⟩ := h.there h0
    cases e
    refine ⟨by omega, .inr ⟨g, 0, rfl, hg, fun j x hx => ?_⟩⟩
    have k : ∀ q, q < 4 → W.cell? ⟨g, 0 + j * 4 + q, none⟩ = some (.int .i64 (x.get q)) := fun q hq => by rw [Nat.zero_add]; exact h.cells (g := g) rfl _ _ (rgV_get xs j x hx q hq)
    exact ⟨k 0 (by decide), k 1 (by decide), k 2 (by decide), k 3 (by decide)⟩
  · exact ⟨by omega, .inl (List.eq_nil_of_length_eq_zero (by omega))⟩
theorem CpO.sv {w W : World} {s : Sv} {n0 n1 n2 n3 : Nat} {a0 : Option Addr} {c0 : Nat} {a1 : Option Addr} {c1 : Nat} {a2 : Option Addr} {c2 : Nat} {a3 : Option Addr} {c3 m0 m1 m2 : Nat} (h : CpO w W s n0 n1 n2 n3 a0 c0 a1 c1 a2 c2 a3 c3 m0 m1 m2) (h3 : n3 = s.bf.length) : IsAt W a0 n0 s.ws ∧ RgAt W a1 n1 s.rg ∧ IsAt W a2 n2 s.pl ∧ BfAt W a3 n3 s.bf := by
  refine ⟨has_is h.r0, has_rg h.r1, has_is h.r2, h3, ?_⟩
  by_cases h0 : 0 < n3
  · obtain ⟨rv, hr, hb1, -⟩ := h.row
    obtain ⟨g, c', e, -, hg, -, -⟩ := hr.there h0
    cases e
    refine .inr ⟨g, 0, rfl, hg, fun j c hc => ?_⟩
    obtain ⟨a', c', q1, q2⟩ := hb1 j c (by have := (List.getElem?_eq_some_iff.1 hc).1; omega) hc
    obtain ⟨a9, c9, e9, hle, hP, -⟩ := has_pd q2
    cases e9
    exact ⟨a', _, c', by rw [Nat.zero_add]; exact hr.cells (g := g) rfl j _ q1, hle, hP⟩
  · exact .inl (List.eq_nil_of_length_eq_zero (by omega))
def bxS (w : World) (aw ah : Option Addr) (nw cw nt ct : Nat) (vs : Array Value) (t : Tn) : World := (bx1 w aw ah nw cw nt ct vs).alloc (.cells #[.int .i64 t.th, .bool t.ou, .int .i64 t.ad] 44)
theorem bxS_below (w : World) (aw ah : Option Addr) (nw cw nt ct : Nat) (vs : Array Value) (t : Tn) : Below w.heap.size w (bxS w aw ah nw cw nt ct vs t) := (bx1_below w aw ah nw cw nt ct vs).alloc (by simp [bx1]; omega) _
theorem bxS_0 (w : World) (aw ah : Option Addr) (nw cw nt ct : Nat) (vs : Array Value) (t : Tn) : (bxS w aw ah nw cw nt ct vs t).heap[w.heap.size]? = some (.cells #[.slice aw nw cw, .slice ah nt ct] 25 (0, 0)) := (Lib.alloc_old _ _ _ (by simp [bx1]; omega)).trans (bx1_0 w aw ah nw cw nt ct vs)
theorem bxS_1 (w : World) (aw ah : Option Addr) (nw cw nt ct : Nat) (vs : Array Value) (t : Tn) : (bxS w aw ah nw cw nt ct vs t).heap[w.heap.size + 1]? = some (.cells vs 32 (0, 0)) := (Lib.alloc_old _ _ _ (by simp [bx1])).trans (bx1_1 w aw ah nw cw nt ct vs)
theorem bxS_2 (w : World) (aw ah : Option Addr) (nw cw nt ct : Nat) (vs : Array Value) (t : Tn) : (bxS w aw ah nw cw nt ct vs t).heap[w.heap.size + 1 + 1]? = some (.cells #[.int .i64 t.th, .bool t.ou, .int .i64 t.ad] 44 (0, 0)) := new_at _ _ _ (by simp [bx1])
end Go.Proofs.YtmejblmeaipahaaDoor.Ts
