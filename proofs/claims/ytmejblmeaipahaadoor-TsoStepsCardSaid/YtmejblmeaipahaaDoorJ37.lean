import Derived.Test.YtmejblmeaipahaaDoorJ36
import Derived.Test.YtmejblmeaipahaaDoorJ17
import Derived.Test.YtmejblmeaipahaaDoorJ22
/-
  TSO: whether a state is one of a program's and an order's.
-/
namespace Go.Proofs.YtmejblmeaipahaaDoor.Ts
open Go.RowKit Mr
set_option linter.unusedVariables false
set_option linter.unusedSimpArgs false
set_option maxRecDepth 100000
theorem bel_off (l : Lt) (o : Int) (s : Sv) (h : s.ws.length ≠ l.ws.length ∨ s.rg.length ≠ l.th.length ∨ s.pl.length ≠ l.th.length ∨ s.bf.length ≠ l.th.length) : belB l o s = false := by
  unfold belB
  rcases h with h | h | h | h <;> simp [h]
def bx1 (w : World) (aw ah : Option Addr) (nw cw nt ct : Nat) (vs : Array Value) : World := (w.alloc (.cells #[.slice aw nw cw, .slice ah nt ct] 25)).alloc (.cells vs 32)
theorem bx1_below (w : World) (aw ah : Option Addr) (nw cw nt ct : Nat) (vs : Array Value) : Below w.heap.size w (bx1 w aw ah nw cw nt ct vs) := ((Below.refl _ _).alloc (Nat.le_refl _) _).alloc (by simp) _
theorem bx1_0 (w : World) (aw ah : Option Addr) (nw cw nt ct : Nat) (vs : Array Value) : (bx1 w aw ah nw cw nt ct vs).heap[w.heap.size]? = some (.cells #[.slice aw nw cw, .slice ah nt ct] 25 (0, 0)) := (Lib.alloc_old _ _ _ (by simp)).trans (new_at _ _ _ rfl)
theorem bx1_1 (w : World) (aw ah : Option Addr) (nw cw nt ct : Nat) (vs : Array Value) : (bx1 w aw ah nw cw nt ct vs).heap[w.heap.size + 1]? = some (.cells vs 32 (0, 0)) := new_at _ _ _ (by simp)
set_option maxHeartbeats 16000000 in
theorem one_any (l : Lt) (o : Int) (s : Sv) (aw ah : Option Addr) (nw cw nt ct : Nat) (a0 : Option Addr) (n0 c0 : Nat) (a1 : Option Addr) (n1 c1 : Nat) (a2 : Option Addr) (n2 c2 : Nat) (a3 : Option Addr) (n3 c3 : Nat) (w : World) (hc : chkB l = true) (hI : nw = l.ws.length) (hT : ThAt w ah nt l.th) (h0 : n0 = s.ws.length) (h1 : n1 = s.rg.length) (h2 : IsAt w a2 n2 s.pl) (h3 : BfAt w a3 n3 s.bf) :
    Calls Tryd.prog 30 #[.agg #[.slice aw nw cw, .slice ah nt ct], .int .i64 o, .agg #[.slice a0 n0 c0, .slice a1 n1 c1, .slice a2 n2 c2, .slice a3 n3 c3]] w fun e w' => e = .returned (.bool (belB l o s)) ∧ Below w.heap.size w w' := by
  obtain ⟨k1, k2, k3⟩ := chk_len hc
  have hl := hT.1
  have B0 := bx1_below w aw ah nw cw nt ct #[.slice a0 n0 c0, .slice a1 n1 c1, .slice a2 n2 c2, .slice a3 n3 c3]
  have b0 := bx1_0 w aw ah nw cw nt ct #[.slice a0 n0 c0, .slice a1 n1 c1, .slice a2 n2 c2, .slice a3 n3 c3]
  have b1 := bx1_1 w aw ah nw cw nt ct #[.slice a0 n0 c0, .slice a1 n1 c1, .slice a2 n2 c2, .slice a3 n3 c3]
  have hl2 := h2.1
  have hl3 := h3.1
  have OFF : Hid (n0 ≠ nw ∨ n1 ≠ nt ∨ n2 ≠ nt ∨ n3 ≠ nt → belB l o s = false) := fun h => bel_off l o s (by omega)
  obtain ⟨R, hR⟩ : ∃ R, belB l o s = R := ⟨_, rfl⟩
  rw [hR] at OFF ⊢
  replace hR := Mr.hid hR
  by_cases e0 : n0 = nw
  case neg =>
    obtain rfl := OFF.out (.inl e0)
    have z0 : ((n0 : Int) != (nw : Int)) = true := bne_iff_ne.2 (by omega)
    replace B0 := Mr.hid B0
    clear OFF hR h2 h3 hT hl hl2 hl3 e0 b0 b1 hI h0 h1 k1 k2 k3 hc
    go_enter Tryd.func30, Tryd.ntmps30
    go_wp2
    go_ret
    exact ⟨rfl, B0.out⟩
  have z0 : ((n0 : Int) != (nw : Int)) = false := by rw [e0]; simp
  by_cases e1 : n1 = nt
  case neg =>
    obtain rfl := OFF.out (.inr (.inl e1))
    have z1 : ((n1 : Int) != (nt : Int)) = true := bne_iff_ne.2 (by omega)
    replace B0 := Mr.hid B0
    clear OFF hR h2 h3 hT hl hl2 hl3 e0 e1 b0 b1 hI h0 h1 k1 k2 k3 hc
    go_enter Tryd.func30, Tryd.ntmps30
    go_wp2
    go_ret
    exact ⟨rfl, B0.out⟩
  have z1 : ((n1 : Int) != (nt : Int)) = false := by rw [e1]; simp
  by_cases e2 : n2 = nt
  case neg =>
    obtain rfl := OFF.out (.inr (.inr (.inl e2)))
    have z2 : ((n2 : Int) != (nt : Int)) = true := bne_iff_ne.2 (by omega)
    replace B0 := Mr.hid B0
    clear OFF hR h2 h3 hT hl hl2 hl3 e0 e1 e2 b0 b1 hI h0 h1 k1 k2 k3 hc
    go_enter Tryd.func30, Tryd.ntmps30
    go_wp2
    go_ret
    exact ⟨rfl, B0.out⟩
  have z2 : ((n2 : Int) != (nt : Int)) = false := by rw [e2]; simp
  by_cases e3 : n3 = nt
  case neg =>
    obtain rfl := OFF.out (.inr (.inr (.inr e3)))
    have z3 : ((n3 : Int) != (nt : Int)) = true := bne_iff_ne.2 (by omega)
    replace B0 := Mr.hid B0
    clear OFF hR h2 h3 hT hl hl2 hl3 e0 e1 e2 e3 b0 b1 hI h0 h1 k1 k2 k3 hc
    go_enter Tryd.func30, Tryd.ntmps30
    go_wp2
    go_ret
    exact ⟨rfl, B0.out⟩
  have z3 : ((n3 : Int) != (nt : Int)) = false := by rw [e3]; simp
  have hck : Hid (R = (List.range l.th.length).all (belT l o s)) := by
    show _ = _
    rw [← hR.out]
    unfold belB
    rw [decide_eq_true (show s.ws.length = l.ws.length by omega), decide_eq_true (show s.rg.length = l.th.length by omega), decide_eq_true (show s.pl.length = l.th.length by omega), decide_eq_true (show s.bf.length = l.th.length by omega)]
    rfl
  have BM : Hid (∀ b a m cp W, PdAt W a m b → Calls Tryd.prog 44 #[.slice a m cp, .int .i64 o, .int .i64 (nw : Int)] W fun e w' => e = .returned (.bool (bfB o (nw : Int) b)) ∧ Below W.heap.size W w') := fun b a m cp W hP => buf_any b a m cp o nw W (by omega) hP
  have WI : Hid (∀ x n W, Calls Tryd.prog 36 #[.int .i64 x, .int .i64 0, .int .i64 n] W fun e w' => e = .returned (.bool (inB x 0 n)) ∧ w' = W) := fun x n W => within_any x 0 n W
  have hTx : Hid (∀ i, i < nt → ∃ (cd : List In) (pc : Int) (bf : List Pd) (g q : Nat) (a' : Option Addr) (n' c' : Nat) (g2 q2 g3 q3 : Nat) (ab : Option Addr) (nb cb : Nat), ah = some ⟨g, q, none⟩ ∧ a2 = some ⟨g2, q2, none⟩ ∧ a3 = some ⟨g3, q3, none⟩ ∧ g < w.heap.size ∧ g2 < w.heap.size ∧ g3 < w.heap.size ∧ w.cell? ⟨g, q + i, none⟩ = some (.slice a' n' c') ∧ w.cell? ⟨g2, q2 + i, none⟩ = some (.int .i64 pc) ∧ w.cell? ⟨g3, q3 + i, none⟩ = some (.slice ab nb cb) ∧ PdAt w ab nb bf ∧ n' ≤ 1000000 ∧ belT l o s i = (inB pc 0 (n' : Int) && bfB o (nw : Int) bf)) := fun i hi => by
    obtain ⟨cd, hcd⟩ : ∃ c, l.th[i]? = some c := ⟨_, List.getElem?_eq_getElem (by omega)⟩
    obtain ⟨pc, hpc⟩ : ∃ c, s.pl[i]? = some c := ⟨_, List.getElem?_eq_getElem (by omega)⟩
    obtain ⟨bf, hbf⟩ : ∃ c, s.bf[i]? = some c := ⟨_, List.getElem?_eq_getElem (by omega)⟩
    obtain ⟨g, q, rfl, hg, hgc⟩ := hT.2.resolve_left (by intro e; rw [e] at hcd; simp at hcd)
    obtain ⟨g2, q2, rfl, hg2, hgc2⟩ := h2.2.resolve_left (by intro e; rw [e] at hpc; simp at hpc)
    obtain ⟨g3, q3, ab, nb, cb, rfl, hg3, hgc3, hnb, hP⟩ := h3.at hbf
    obtain ⟨a', n', c', hcell, hnk, hC⟩ := hgc i cd hcd
    have hn10 := (k3 cd (List.mem_of_getElem? hcd)).1
    refine ⟨cd, pc, bf, g, q, a', n', c', g2, q2, g3, q3, ab, nb, cb, rfl, rfl, rfl, hg, hg2, hg3, hcell, hgc2 i pc hpc, hgc3, hP, by have := hC.1; omega, ?_⟩
    unfold belT
    rw [hI, hC.1]
    simp [List.getD_eq_getElem?_getD, hcd, hpc, hbf]
  have hn4 : Hid (nt ≤ 4 ∧ nt = l.th.length) := ⟨by omega, hl⟩
  have q1 := cell_blk b0 1
  have hb0 := Mr.hid b0
  have hb1 := Mr.hid b1
  replace B0 := Mr.hid B0
  subst e0 e1
  obtain rfl : n1 = n2 := e2.symm
  obtain rfl : n1 = n3 := e3.symm
  clear e2 e3
  clear OFF h2 h3 hT hl hl2 hl3 b0 hI h0 h1 k1 k2 k3 hc hR
  go_enter Tryd.func30, Tryd.ntmps30
  go_upto_region 5 with fail
  clear z0 z1 z2 z3
  show Code.wp _ _ _ _ (bx1 w aw ah n0 cw n1 ct #[.slice a0 n0 c0, .slice a1 n1 c1, .slice a2 n1 c2, .slice a3 n1 c3])
  generalize (bx1 w aw ah n0 cw n1 ct #[.slice a0 n0 c0, .slice a1 n1 c1, .slice a2 n1 c2, .slice a3 n1 c3]) = w1 at *
  clear q1
  go_loopg [44] n1 (fun gk s44 wr => ∃ i : Nat, s44 = .int .i64 (i : Int) ∧ i + gk = n1 ∧ (List.range i).all (belT l o s) = true ∧ Below w1.heap.size w1 wr)
  case atStart => exact ⟨0, rfl, by omega, rfl, Below.refl _ _⟩
  case round =>
    obtain ⟨i, rfl, hi, hall, hB⟩ := hrel
    have hBw : Hid (Below w.heap.size w wr) := B0.out.trans (hB.mono B0.out.size)
    by_cases hlt : i < n1
    · obtain ⟨cd, pc, bf, g, q, a', n', c', g2, q2, g3, q3, ab, nb, cb, rfl, rfl, rfl, hg, hg2, hg3, y0, y2, y3, hP, hn', hbt⟩ := hTx.out i hlt
      have r0 := (hB.block _ (Array.getElem?_eq_some_iff.1 hb0.out).1).trans hb0.out
      have r1 := (hB.block _ (Array.getElem?_eq_some_iff.1 hb1.out).1).trans hb1.out
      have x0 := cell_blk r0 0
      have x2 := cell_blk r1 2
      have x3 := cell_blk r1 3
      have l0 := (Array.getElem?_eq_some_iff.1 r0).1
      have l1 := (Array.getElem?_eq_some_iff.1 r1).1
      replace y0 := (hBw.out.cell (p := ⟨g, q + i, none⟩) hg).trans y0
      replace y2 := (hBw.out.cell (p := ⟨g2, q2 + i, none⟩) hg2).trans y2
      replace y3 := (hBw.out.cell (p := ⟨g3, q3 + i, none⟩) hg3).trans y3
      replace hg := Nat.lt_of_lt_of_le hg hBw.out.size
      replace hg2 := Nat.lt_of_lt_of_le hg2 hBw.out.size
      replace hg3 := Nat.lt_of_lt_of_le hg3 hBw.out.size
      have C1 := Mr.hid (fun W => WI.out pc (n' : Int) W)
      have C2 := Mr.hid (fun (W : World) (h : Below w.heap.size w W) => BM.out bf ab nb cb W (hP.below h))
      have hlI : (i : Int) < (n1 : Int) := by omega
      have dl : decide ((i : Int) < (n1 : Int)) = true := by simpa using hlI
      have hw : IntKind.i64.wrap ((i : Int) + 1) = (i : Int) + 1 := i64x _ (by have := hn4.out; omega) (by have := hn4.out; omega)
      have hi' := Mr.hid hi
      have hnext : Hid (inB pc 0 (n' : Int) = true → bfB o (n0 : Int) bf = true → (List.range (i + 1)).all (belT l o s) = true) := fun h h' => by rw [List.range_succ, List.all_append, hall]; simp [hbt, h, h']
      have hbad : Hid ((inB pc 0 (n' : Int) = false ∨ bfB o (n0 : Int) bf = false) → R = false) := fun h => by
        rw [hck.out]
        cases ha : (List.range l.th.length).all (belT l o s) with
        | false => rfl
        | true =>
          have := List.all_eq_true.1 ha i (by rw [List.mem_range]; have := hn4.out; omega)
          rw [hbt] at this
          rcases h with h | h <;> simp [h] at this
      generalize inB pc 0 (n' : Int) = f1 at *
      generalize bfB o (n0 : Int) bf = f2 at *
      replace hB := Mr.hid hB
      clear hi hall hbt hP r0 r1 WI BM hTx hck
      go_upto_region 7 with fail
      cases f1 with
      | false =>
        have r0 : Hid (R = false) := hbad.out (.inl (by trivial))
        go_quiet ((go_at_call 36; exact Calls.quiet_of_same (C1.out _)))
        go_wp2
        go_ret
        exact ⟨by rw [r0.out]; rfl, hBw.out.trans ⟨rfl, rfl, rfl, Nat.le_refl _, fun _ _ => rfl⟩⟩
      | true =>
        have hBd : Hid (Below wr.heap.size wr wr.drew) := (Below.refl _ _).drew
        go_region_held3 (fun W => W.cell? ⟨w.heap.size, 0, none⟩ = some (.slice aw n0 cw) ∧ W.cell? ⟨w.heap.size + 1, 2, none⟩ = some (.slice (some ⟨g2, q2, none⟩) n1 c2) ∧ W.cell? ⟨w.heap.size + 1, 3, none⟩ = some (.slice (some ⟨g3, q3, none⟩) n1 c3) ∧ W.cell? ⟨g2, q2 + i, none⟩ = some (.int .i64 pc) ∧ W.cell? ⟨g3, q3 + i, none⟩ = some (.slice ab nb cb)) (simp [*, go_sem])
          (first
            | (go_at_call 36; refine (C1.out _).mono ?_; rintro e w8 ⟨rfl, hw8⟩; obtain rfl := hw8.symm)
            | (go_at_call 44; refine (C2.out _ hBw.out.drew).mono ?_; rintro e w9 ⟨rfl, B9⟩; have z0 := (B9.cell (p := ⟨w.heap.size, 0, none⟩) l0).trans x0; have z2 := (B9.cell (p := ⟨w.heap.size + 1, 2, none⟩) l1).trans x2; have z3 := (B9.cell (p := ⟨w.heap.size + 1, 3, none⟩) l1).trans x3; have z4 := (B9.cell (p := ⟨g2, q2 + i, none⟩) hg2).trans y2; have z5 := (B9.cell (p := ⟨g3, q3 + i, none⟩) hg3).trans y3; have hB9 : Hid (Below wr.heap.size wr w9) := hBd.out.trans (B9.mono hBd.out.size); clear B9))
        clear x0 x2 x3 y0 y2 y3 z0 z2 z3 z4 z5
        cases f2 with
        | true =>
          go_wp2
          go_roundg (gk - 1)
          case measure => have := hi'.out; omega
          case rel => exact ⟨i + 1, by simp, by have := hi'.out; omega, hnext.out (by trivial) (by trivial), hB.out.trans (hB9.out.mono hB.out.size)⟩
        | false =>
          have r0 : Hid (R = false) := hbad.out (.inr (by trivial))
          go_wp2
          go_ret
          exact ⟨by rw [r0.out]; rfl, hBw.out.trans (hB9.out.mono hBw.out.size)⟩
    · have r1 : Hid (R = true) := by
        show _ = _
        rw [hck.out, ← hn4.out.2, show n1 = i by omega]
        exact hall
      have dl : decide ((i : Int) < (n1 : Int)) = false := decide_eq_false (by omega)
      have dl2 : ¬ (i : Int) < (n1 : Int) := by omega
      clear hlt hi hB hall
      go_wp2
      go_ret
      exact ⟨by rw [r1.out]; rfl, hBw.out⟩
end Go.Proofs.YtmejblmeaipahaaDoor.Ts
/-
  TSO: the program's Begin, checkBoth.
-/
namespace Go.Proofs.YtmejblmeaipahaaDoor.Ts
open Go.RowKit Mr
set_option linter.unusedVariables false
set_option linter.unusedSimpArgs false
set_option maxRecDepth 100000
/-- The error of a program and an order. -/
def bothE (l : Lt) (o : Int) : Int := if chkB l = false then 190 else if ordB o = false then 191 else 0
set_option maxHeartbeats 4000000 in
theorem both_any (l : Lt) (o : Int) (aw : Option Addr) (nw cw : Nat) (ah : Option Addr) (nt ct : Nat) (w : World) (E : Env w) (hI : nw = l.ws.length) (hT : ThAt w ah nt l.th) :
    Calls Tryd.prog 29 #[.agg #[.slice aw nw cw, .slice ah nt ct], .int .i64 o] w fun e w' => e = .returned (.int .i64 (bothE l o)) ∧ Below w.heap.size w w' := by
  have B0 : Below w.heap.size w (w.alloc (.cells #[.slice aw nw cw, .slice ah nt ct] 25)) := (Below.refl _ _).alloc (Nat.le_refl _) _
  have CK := Mr.hid (Check_any l aw nw cw ah nt ct _ (E.below B0) hI (hT.below B0))
  have OR := Mr.hid (fun W => isOrder_any o W)
  have b0 : (w.alloc (.cells #[.slice aw nw cw, .slice ah nt ct] 25)).heap[w.heap.size]? = some (.cells #[.slice aw nw cw, .slice ah nt ct] 25 (0, 0)) := new_at _ _ _ rfl
  have c0 := cell_blk b0 0
  have c1 := cell_blk b0 1
  unfold bothE
  obtain ⟨R, hR⟩ : ∃ R, chkB l = R := ⟨_, rfl⟩
  obtain ⟨O, hO⟩ : ∃ R, ordB o = R := ⟨_, rfl⟩
  rw [hR] at CK ⊢
  rw [hO] at OR ⊢
  replace B0 := Mr.hid B0
  clear E hI hT hR hO b0
  cases R with
  | false =>
    rw [if_pos rfl]
    go_enter Tryd.func29, Tryd.ntmps29
    go_wp2_with (go_at_call 12; refine CK.out.mono ?_; clear CK; rintro e w9 ⟨rfl, B9⟩; have BB : Hid (Below w.heap.size w w9) := B0.out.trans (B9.mono B0.out.size); clear B9)
    go_ret
    exact ⟨rfl, BB.out⟩
  | true =>
    rw [if_neg (by decide)]
    cases O with
    | false =>
      rw [if_pos rfl]
      go_enter Tryd.func29, Tryd.ntmps29
      go_wp2_with (first | (go_at_call 12; refine CK.out.mono ?_; clear CK; rintro e w9 ⟨rfl, B9⟩; have BB : Hid (Below w.heap.size w w9) := B0.out.trans (B9.mono B0.out.size); clear B9) | (go_at_call 21; refine (OR.out _).mono ?_; clear OR; rintro e w8 ⟨rfl, hw8⟩; obtain rfl := hw8.symm))
      go_ret
      exact ⟨rfl, BB.out⟩
    | true =>
      rw [if_neg (by decide)]
      go_enter Tryd.func29, Tryd.ntmps29
      go_wp2_with (first | (go_at_call 12; refine CK.out.mono ?_; clear CK; rintro e w9 ⟨rfl, B9⟩; have BB : Hid (Below w.heap.size w w9) := B0.out.trans (B9.mono B0.out.size); clear B9) | (go_at_call 21; refine (OR.out _).mono ?_; clear OR; rintro e w8 ⟨rfl, hw8⟩; obtain rfl := hw8.symm))
      go_ret
      exact ⟨rfl, BB.out⟩
/-- What Begin answers. -/
def BegP (l : Lt) (w w' : World) (e : Ending) : Prop := ∃ v, e = .returned (.tuple #[.agg v, .int .i64 (if chkB l = true then 0 else 190)]) ∧ (if chkB l = true then SvAt w' v (begS l) l.ws.length l.th.length l.th.length l.th.length else SvAt w' v nilS 0 0 0 0) ∧ Below w.heap.size w w'
set_option maxHeartbeats 8000000 in
theorem Begin_no (l : Lt) (aw ah : Option Addr) (nw cw nt ct : Nat) (w : World) (E : Env w) (hI : IsAt w aw nw l.ws) (hT : ThAt w ah nt l.th) (hc : chkB l = false) :
    Calls Tryd.prog 14 #[.agg #[.slice aw nw cw, .slice ah nt ct]] w fun e w' => BegP l w w' e := by
  have B0 := bxR_below w aw ah nw cw nt ct
  have b0 := bxR_0 w aw ah nw cw nt ct
  have b1 := bxR_1 w aw ah nw cw nt ct
  have CK := Mr.hid (Check_any l aw nw cw ah nt ct _ (E.below B0) hI.1 (hT.below B0))
  have c0 := cell_blk b0 0
  have c1 := cell_blk b0 1
  rw [hc] at CK
  have hfin : Hid (∀ W, Below w.heap.size w W → BegP l w W (.returned (.tuple #[.agg #[.slice none 0 0, .slice none 0 0, .slice none 0 0, .slice none 0 0], .int .i64 190]))) := fun W hW => by
    unfold BegP; rw [hc]; exact ⟨_, rfl, SvAt.nil W, hW⟩
  replace B0 := Mr.hid B0
  clear E hI hT b0 hc
  unfold bxR at *
  go_enter Tryd.func14, Tryd.ntmps14
  go_wp2_with (go_at_call 12; refine CK.out.mono ?_; clear CK; rintro e w2 ⟨rfl, B2⟩; have d1 := (B2.block _ (Array.getElem?_eq_some_iff.1 b1).1).trans b1; have y0 := cell_blk d1 0; have y1 := cell_blk d1 1; have y2 := cell_blk d1 2; have y3 := cell_blk d1 3; have ly := (Array.getElem?_eq_some_iff.1 d1).1; have fy : ∀ k, w2.frozen? ⟨w.heap.size + 1, k, none⟩ = false := fun k => fz_of d1; have BB : Hid (Below w.heap.size w w2) := B0.out.trans (B2.mono B0.out.size); clear B2 b1 d1)
  have BE := Mr.hid (emp4_below BB.out (show w.heap.size ≤ w.heap.size + 1 by omega))
  refine bodyPost_ret (v := .tuple #[.agg #[.slice none 0 0, .slice none 0 0, .slice none 0 0, .slice none 0 0], .int .i64 190]) (by simp [results, Tryd.results14, go_sem, *]) rfl (hfin.out _ BE.out)
set_option maxHeartbeats 8000000 in
theorem Begin_ok (l : Lt) (aw ah : Option Addr) (nw cw nt ct : Nat) (w : World) (E : Env w) (hI : IsAt w aw nw l.ws) (hT : ThAt w ah nt l.th) (hc : chkB l = true) :
    Calls Tryd.prog 14 #[.agg #[.slice aw nw cw, .slice ah nt ct]] w fun e w' => BegP l w w' e := by
  have hlen := chk_len hc
  have hl1 := hI.1
  have hl2 := hT.1
  have B0 := bxR_below w aw ah nw cw nt ct
  have b0 := bxR_0 w aw ah nw cw nt ct
  have b1 := bxR_1 w aw ah nw cw nt ct
  have CK := Mr.hid (Check_any l aw nw cw ah nt ct _ (E.below B0) hI.1 (hT.below B0))
  have c0 := cell_blk b0 0
  have c1 := cell_blk b0 1
  rw [hc] at CK
  have hz := zero_z
  obtain ⟨zs, hzs⟩ : ∃ zs, zs = z118 := ⟨_, rfl⟩
  rw [← hzs] at hz
  have hzz : zs.size = 118 := by rw [hzs]; rfl
  have hsz := fstA_size l.ws (by omega)
  have szf : Hid ((Tryd.prog.info? 62).map (·.size) = some (fstA l.ws).size) := by show _ = _; rw [hsz]; exact szz
  have hszf : Hid (zs.size = (fstA l.ws).size) := by show _ = _; rw [hzz, hsz]
  have hfo := Mr.hid (fstA_one l.ws)
  have hfe : Hid (Enc (fstA l.ws) (begS l)) := fstA_enc l (by omega) (by omega)
  have FI : Hid (∀ W, Below w.heap.size w W → Calls Tryd.prog 23 #[.agg #[.slice aw nw cw, .slice ah nt ct]] W fun e w' => e = .returned (.agg (fstA l.ws)) ∧ Below W.heap.size W w') := fun W hW => first_any l aw ah nw cw nt ct W (hI.below hW) (by omega) (by omega)
  have TO : Hid (∀ (g : Nat) (W : World) (cs : Array Value), Ar W g cs → Enc cs (begS l) → Calls Tryd.prog 25 #[.pointer (some ⟨g, 0, none⟩), .agg #[.slice aw nw cw, .slice ah nt ct]] W fun e w' => ∃ v, e = .returned (.agg v) ∧ (∀ W', (∀ k, W.heap.size + 2 ≤ k → W'.heap[k]? = w'.heap[k]?) → SvAt W' v (begS l) nw nt nt nt) ∧ Below W.heap.size W w') := fun g W cs hA hE =>
    told_any _ g cs aw ah nw cw nt ct W hA hE (by omega) (by omega) (by omega) (by show l.ws.length = nw; omega) (by simp [begS]; omega) (by simp [begS]; omega) (by simp [begS]; omega) (fun x hx => by simp [begS] at hx; rw [hx.2]; simp)
  have hfin : Hid (∀ v W, SvAt W v (begS l) nw nt nt nt → Below w.heap.size w W → BegP l w W (.returned (.tuple #[.agg v, .int .i64 0]))) := fun v W hv hW => by
    unfold BegP; rw [hc]; refine ⟨_, rfl, ?_, hW⟩
    rw [if_pos rfl, ← hl1, ← hl2]; exact hv
  have hb0 := Mr.hid b0
  have hb1 := Mr.hid b1
  replace B0 := Mr.hid B0
  replace hzs := Mr.hid hzs
  replace hsz := Mr.hid hsz
  clear E hI hT b0 b1 hc hzz hlen hl1 hl2
  unfold bxR at *
  go_enter Tryd.func14, Tryd.ntmps14
  go_upto_region 4 with (go_at_call 12; refine CK.out.mono ?_; clear CK; rintro e w2 ⟨rfl, B2⟩; have d0 := (B2.block _ (Array.getElem?_eq_some_iff.1 hb0.out).1).trans hb0.out; have d1 := (B2.block _ (Array.getElem?_eq_some_iff.1 hb1.out).1).trans hb1.out; have BB : Hid (Below w.heap.size w w2) := B0.out.trans (B2.mono B0.out.size); clear B2)
  have y0 := cell_blk d0 0
  have y1 := cell_blk d0 1
  have F1 := Mr.hid (FI.out w2 BB.out)
  clear c0 c1 FI hb0 hb1
  have d0' := Mr.hid d0
  have d1' := Mr.hid d1
  clear d0 d1
  go_upto_region 5 with (first
    | (go_at_call 23; refine F1.out.mono ?_; clear F1; rintro e w3 ⟨rfl, B3⟩; have hG := new_at w3 (.cells zs 62) _ rfl; replace B3 := Mr.hid B3)
    | (refine wpList_store_row rfl 62 _ _ rfl w3.heap.size (fstA l.ws) rfl rfl 62 zs hG szf.out hszf.out hfo.out ?_))
  have B4 : Below w3.heap.size w3 ((w3.alloc (.cells zs 62)).setRow w3.heap.size (fstA l.ws)) := ⟨rfl, rfl, rfl, by simp, fun k hk => (setRow_other _ _ k _ (by omega)).trans (Below.heap_alloc _ _ _ hk)⟩
  have BW : Below w2.heap.size w2 ((w3.alloc (.cells zs 62)).setRow w3.heap.size (fstA l.ws)) := B3.out.trans (B4.mono B3.out.size)
  have hA4 : Ar ((w3.alloc (.cells zs 62)).setRow w3.heap.size (fstA l.ws)) w3.heap.size (fstA l.ws) := ⟨setRow_heap _ w3.heap.size zs _ 62 _ hG, hsz.out⟩
  have e0 := (BW.block _ (Array.getElem?_eq_some_iff.1 d0'.out).1).trans d0'.out
  have e1 := (BW.block _ (Array.getElem?_eq_some_iff.1 d1'.out).1).trans d1'.out
  have B05 : Hid (Below w.heap.size w ((w3.alloc (.cells zs 62)).setRow w3.heap.size (fstA l.ws))) := BB.out.trans (BW.mono BB.out.size)
  have T1 := Mr.hid (TO.out _ _ _ hA4 hfe.out)
  clear B4 BW hG B3 TO hA4 y0 y1 d0' d1'
  generalize (w3.alloc (.cells zs 62)).setRow w3.heap.size (fstA l.ws) = w5 at *
  have z0 := cell_blk e0 0
  have z1 := cell_blk e0 1
  have e1' := Mr.hid e1
  have lW5 : Hid (w.heap.size + 1 < w5.heap.size) := (Array.getElem?_eq_some_iff.1 e1).1
  clear e0 e1
  go_wp2_with (go_at_call 25; refine T1.out.mono ?_; clear T1; rintro e w9 ⟨v, rfl, D1, D2⟩; obtain ⟨v1, v2, v3, v4, v5, v6, v7, v8, rfl, D1'⟩ := (D1 w9 (fun _ _ => rfl)).ex; have f1 := (D2.block _ (Array.getElem?_eq_some_iff.1 e1'.out).1).trans e1'.out; have y0 := cell_blk f1 0; have y1 := cell_blk f1 1; have y2 := cell_blk f1 2; have y3 := cell_blk f1 3; have ly := (Array.getElem?_eq_some_iff.1 f1).1; have fy : ∀ j, w9.frozen? ⟨w.heap.size + 1, j, none⟩ = false := fun j => fz_of f1; have B9 : Hid (Below w.heap.size w w9) := B05.out.trans (D2.mono B05.out.size); replace D1 := Mr.hid D1; clear D1' D2 f1)
  have lw9 := lW5.out
  have BE : Hid (Below w.heap.size w ((((w9.setCell ⟨w.heap.size + 1, 0, none⟩ (.slice v1 nw v2)).setCell ⟨w.heap.size + 1, 1, none⟩ (.slice v3 nt v4)).setCell ⟨w.heap.size + 1, 2, none⟩ (.slice v5 nt v6)).setCell ⟨w.heap.size + 1, 3, none⟩ (.slice v7 nt v8))) := (((B9.out.setCell (p := ⟨w.heap.size + 1, 0, none⟩) (by show w.heap.size ≤ w.heap.size + 1; omega) _).setCell (p := ⟨w.heap.size + 1, 1, none⟩) (by show w.heap.size ≤ w.heap.size + 1; omega) _).setCell (p := ⟨w.heap.size + 1, 2, none⟩) (by show w.heap.size ≤ w.heap.size + 1; omega) _).setCell (p := ⟨w.heap.size + 1, 3, none⟩) (by show w.heap.size ≤ w.heap.size + 1; omega) _
  have DE := Mr.hid (D1.out ((((w9.setCell ⟨w.heap.size + 1, 0, none⟩ (.slice v1 nw v2)).setCell ⟨w.heap.size + 1, 1, none⟩ (.slice v3 nt v4)).setCell ⟨w.heap.size + 1, 2, none⟩ (.slice v5 nt v6)).setCell ⟨w.heap.size + 1, 3, none⟩ (.slice v7 nt v8)) (fun j hj => by
    have hj' : j ≠ w.heap.size + 1 := by omega
    exact (Below.heap_setCell _ _ _ _ hj').trans ((Below.heap_setCell _ _ _ _ hj').trans ((Below.heap_setCell _ _ _ _ hj').trans (Below.heap_setCell _ _ _ _ hj')))))
  refine bodyPost_ret (v := .tuple #[.agg #[.slice v1 nw v2, .slice v3 nt v4, .slice v5 nt v6, .slice v7 nt v8], .int .i64 0]) (by simp [results, Tryd.results14, go_sem, *]) rfl (hfin.out _ _ DE.out BE.out)
theorem Begin_any (l : Lt) (aw ah : Option Addr) (nw cw nt ct : Nat) (w : World) (E : Env w) (hI : IsAt w aw nw l.ws) (hT : ThAt w ah nt l.th) :
    Calls Tryd.prog 14 #[.agg #[.slice aw nw cw, .slice ah nt ct]] w fun e w' => BegP l w w' e := by
  cases hc : chkB l with
  | true => exact Begin_ok l aw ah nw cw nt ct w E hI hT hc
  | false => exact Begin_no l aw ah nw cw nt ct w E hI hT hc
end Go.Proofs.YtmejblmeaipahaaDoor.Ts
