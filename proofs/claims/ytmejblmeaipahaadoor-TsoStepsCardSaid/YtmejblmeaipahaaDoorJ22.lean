import Derived.Test.YtmejblmeaipahaaDoorJ21
import Derived.Test.YtmejblmeaipahaaDoorJ18
import Derived.Test.YtmejblmeaipahaaDoorJ20
/-
  TSO: mayBe, Check.
-/
namespace Go.Proofs.YtmejblmeaipahaaDoor.Ts
open Go.RowKit Mr
set_option linter.unusedVariables false
set_option linter.unusedSimpArgs false
set_option maxRecDepth 100000
theorem chk_off (l : Lt) (h : inB l.th.length 1 4 = false ∨ inB l.ws.length 1 6 = false) : chkB l = false := by unfold chkB; rcases h with h | h <;> simp [h]
set_option maxHeartbeats 8000000 in
theorem may_any (l : Lt) (aw : Option Addr) (nw cw : Nat) (ah : Option Addr) (nt ct : Nat) (w : World) (E : Env w) (hI : nw = l.ws.length) (hT : ThAt w ah nt l.th) :
    Calls Tryd.prog 27 #[.agg #[.slice aw nw cw, .slice ah nt ct]] w fun e w' => e = .returned (.bool (chkB l)) ∧ Below w.heap.size w w' := by
  have hl := hT.1
  have WB : Hid (∀ x lo hi W, Calls Tryd.prog 36 #[.int .i64 x, .int .i64 lo, .int .i64 hi] W fun e w' => e = .returned (.bool (inB x lo hi)) ∧ w' = W) := fun x lo hi W => within_any x lo hi W
  obtain ⟨R, hR⟩ : ∃ R, chkB l = R := ⟨_, rfl⟩
  rw [hR]
  replace hR := Mr.hid hR
  have B0 : Below w.heap.size w (w.alloc (.cells #[.slice aw nw cw, .slice ah nt ct] 25)) := (Below.refl _ _).alloc (Nat.le_refl _) _
  have hb0 : (w.alloc (.cells #[.slice aw nw cw, .slice ah nt ct] 25)).heap[w.heap.size]? = some (.cells #[.slice aw nw cw, .slice ah nt ct] 25 (0, 0)) := new_at _ _ _ rfl
  obtain ⟨bT, eT⟩ : ∃ b, inB (nt : Int) 1 4 = b := ⟨_, rfl⟩
  obtain ⟨bW, eW⟩ : ∃ b, inB (nw : Int) 1 6 = b := ⟨_, rfl⟩
  have hoff : Hid (bT = false ∨ bW = false → R = false) := fun h => by
    rw [← hR.out]
    refine chk_off l ?_
    rw [← hl, ← hI, eT, eW]
    exact h
  cases bT with
  | false =>
    have r0 := hoff.out (.inl rfl)
    subst r0
    replace B0 := Mr.hid B0
    clear hT E hb0 hoff hR hI hl
    go_enter Tryd.func27, Tryd.ntmps27
    go_wp2_with (go_at_call 36; refine (WB.out _ _ _ _).mono ?_; rintro e w9 ⟨rfl, hw9⟩; obtain rfl := hw9.symm)
    go_ret
    exact ⟨rfl, B0.out⟩
  | true =>
  cases bW with
  | false =>
    have r0 := hoff.out (.inr rfl)
    subst r0
    replace B0 := Mr.hid B0
    clear hT E hb0 hoff hR hI hl
    go_enter Tryd.func27, Tryd.ntmps27
    go_wp2_with (go_at_call 36; refine (WB.out _ _ _ _).mono ?_; rintro e w9 ⟨rfl, hw9⟩; obtain rfl := hw9.symm)
    go_ret
    exact ⟨rfl, B0.out⟩
  | true =>
    have hbt : 1 ≤ nt ∧ nt ≤ 4 := by have h := eT; unfold inB at h; simp at h; omega
    have hbw : 1 ≤ nw ∧ nw ≤ 6 := by have h := eW; unfold inB at h; simp at h; omega
    have hck : Hid (R = l.th.all (codeB (nw : Int))) := by
      show _ = _
      rw [← hR.out]
      unfold chkB
      rw [← hl, ← hI, eT, eW]
      rfl
    have CM : Hid (∀ c a m cp W, Below w.heap.size w W → CdAt W a m c → Calls Tryd.prog 43 #[.slice a m cp, .int .i64 (nw : Int)] W fun e w' => e = .returned (.bool (codeB (nw : Int) c)) ∧ Below W.heap.size W w') := fun c a m cp W hB hC => code_any c a m cp nw W (E.below hB) (by omega) hC
    have hl' := Mr.hid hl
    replace hT := Mr.hid hT
    replace hb0 := Mr.hid hb0
    have B0' := Mr.hid B0
    clear E hoff hR hl hI B0
    go_enter Tryd.func27, Tryd.ntmps27
    go_upto_region 4 with (go_at_call 36; refine (WB.out _ _ _ _).mono ?_; rintro e w9 ⟨rfl, hw9⟩; obtain rfl := hw9.symm)
    clear eT eW WB
    generalize w.alloc (.cells #[.slice aw nw cw, .slice ah nt ct] 25) = w1 at *
    go_loopg [20] nt (fun gk s20 wr => ∃ i : Nat, s20 = .int .i64 (i : Int) ∧ i + gk = nt ∧ (l.th.take i).all (codeB (nw : Int)) = true ∧ Below w1.heap.size w1 wr)
    case atStart => exact ⟨0, rfl, by omega, rfl, Below.refl _ _⟩
    case round =>
      obtain ⟨i, rfl, hi, hall, hB⟩ := hrel
      have hBw : Below w.heap.size w wr := B0'.out.trans (hB.mono B0'.out.size)
      have hbr : wr.heap[w.heap.size]? = some (.cells #[.slice aw nw cw, .slice ah nt ct] 25 (0, 0)) := (hB.block _ (Array.getElem?_eq_some_iff.1 hb0.out).1).trans hb0.out
      have q0 := cell_blk hbr 0
      have q1 := cell_blk hbr 1
      have lb := (Array.getElem?_eq_some_iff.1 hbr).1
      by_cases hlt : i < nt
      · have hli : i < l.th.length := by have := hl'.out; omega
        obtain ⟨x, hx⟩ : ∃ x, l.th[i]? = some x := ⟨l.th[i], List.getElem?_eq_getElem hli⟩
        have hTr := hT.out.below hBw
        obtain ⟨g, o, hae, hg, hc⟩ := hTr.2.resolve_left (by intro e; rw [e] at hli; simp at hli)
        subst hae
        obtain ⟨a', n', c', c0, -, hC⟩ := hc i x hx
        have hts := take_succ_of hx
        have hmem := List.mem_of_getElem? hx
        have C1 := Mr.hid (CM.out x a' n' c' wr hBw hC)
        have hlI : (i : Int) < (nt : Int) := by omega
        have dl : decide ((i : Int) < (nt : Int)) = true := by simpa using hlI
        have hw : IntKind.i64.wrap ((i : Int) + 1) = (i : Int) + 1 := i64x _ (by omega) (by omega)
        have hi' := Mr.hid hi
        have hnext : Hid (codeB (nw : Int) x = true → (l.th.take (i + 1)).all (codeB (nw : Int)) = true) := fun h => by rw [hts, List.all_append, hall]; simp [h]
        have hbad : Hid (codeB (nw : Int) x = false → R = false) := fun h => by
          rw [hck.out]
          cases ha : l.th.all (codeB (nw : Int)) with
          | false => rfl
          | true => have := List.all_eq_true.1 ha x hmem; rw [h] at this; cases this
        have hB' := Mr.hid hB
        replace hBw := Mr.hid hBw
        generalize codeB (nw : Int) x = cx at *
        clear hc hx hts hli hi hall hmem hC hTr hbr hB
        cases cx with
        | true =>
          go_wp2_with (go_at_call 43; refine C1.out.mono ?_; clear C1; rintro e w9 ⟨rfl, B9⟩; have hB9 : Hid (Below w1.heap.size w1 w9) := hB'.out.trans (B9.mono hB'.out.size); clear B9)
          go_roundg (gk - 1)
          case measure => have := hi'.out; omega
          case rel => exact ⟨i + 1, by simp, by have := hi'.out; omega, hnext.out (by trivial), hB9.out⟩
        | false =>
          have r0 := hbad.out (by trivial)
          replace r0 := Mr.hid r0
          go_wp2_with (go_at_call 43; refine C1.out.mono ?_; clear C1; rintro e w9 ⟨rfl, B9⟩; have hB9 : Hid (Below w.heap.size w w9) := hBw.out.trans (B9.mono hBw.out.size); clear B9)
          go_ret
          exact ⟨by rw [r0.out]; rfl, hB9.out⟩
      · have hfin : l.th.take i = l.th := List.take_of_length_le (by have := hl'.out; omega)
        rw [hfin] at hall
        have r1 : Hid (R = true) := by show _ = _; rw [hck.out, hall]
        have dl : decide ((i : Int) < (nt : Int)) = false := decide_eq_false (by omega)
        have dl2 : ¬ (i : Int) < (nt : Int) := by omega
        replace hBw := Mr.hid hBw
        clear hlt hi hfin hB hbr hall
        go_wp2
        go_ret
        exact ⟨by rw [r1.out]; rfl, hBw.out⟩
set_option maxHeartbeats 4000000 in
theorem Check_any (l : Lt) (aw : Option Addr) (nw cw : Nat) (ah : Option Addr) (nt ct : Nat) (w : World) (E : Env w) (hI : nw = l.ws.length) (hT : ThAt w ah nt l.th) :
    Calls Tryd.prog 12 #[.agg #[.slice aw nw cw, .slice ah nt ct]] w fun e w' => e = .returned (.int .i64 (if chkB l = true then 0 else 190)) ∧ Below w.heap.size w w' := by
  have B0 : Below w.heap.size w (w.alloc (.cells #[.slice aw nw cw, .slice ah nt ct] 25)) := (Below.refl _ _).alloc (Nat.le_refl _) _
  have M := Mr.hid (may_any l aw nw cw ah nt ct _ (E.below B0) hI (hT.below B0))
  obtain ⟨R, hR⟩ : ∃ R, chkB l = R := ⟨_, rfl⟩
  rw [hR] at M ⊢
  replace B0 := Mr.hid B0
  clear E hI hT hR
  cases R with
  | true =>
    rw [if_pos rfl]
    go_enter Tryd.func12, Tryd.ntmps12
    go_wp2_with (go_at_call 27; refine M.out.mono ?_; clear M; rintro e w9 ⟨rfl, B9⟩; replace B9 := Mr.hid B9)
    go_ret
    exact ⟨rfl, B0.out.trans (B9.out.mono B0.out.size)⟩
  | false =>
    rw [if_neg (by decide)]
    go_enter Tryd.func12, Tryd.ntmps12
    go_wp2_with (go_at_call 27; refine M.out.mono ?_; clear M; rintro e w9 ⟨rfl, B9⟩; replace B9 := Mr.hid B9)
    go_ret
    exact ⟨rfl, B0.out.trans (B9.out.mono B0.out.size)⟩
end Go.Proofs.YtmejblmeaipahaaDoor.Ts
/-
  TSO: boxes of a call; what the law of steps leans on.
-/
namespace Go.Proofs.YtmejblmeaipahaaDoor.Ts
open Go.RowKit Mr
set_option linter.unusedVariables false
set_option linter.unusedSimpArgs false
set_option maxRecDepth 100000
def bxR (w : World) (aw ah : Option Addr) (nw cw nt ct : Nat) : World := (w.alloc (.cells #[.slice aw nw cw, .slice ah nt ct] 25)).alloc (.cells #[.slice none 0 0, .slice none 0 0, .slice none 0 0, .slice none 0 0] 32)
theorem bxR_below (w : World) (aw ah : Option Addr) (nw cw nt ct : Nat) : Below w.heap.size w (bxR w aw ah nw cw nt ct) := ((Below.refl _ _).alloc (Nat.le_refl _) _).alloc (by simp) _
theorem bxR_0 (w : World) (aw ah : Option Addr) (nw cw nt ct : Nat) : (bxR w aw ah nw cw nt ct).heap[w.heap.size]? = some (.cells #[.slice aw nw cw, .slice ah nt ct] 25 (0, 0)) := (Lib.alloc_old _ _ _ (by simp)).trans (new_at _ _ _ rfl)
theorem bxR_1 (w : World) (aw ah : Option Addr) (nw cw nt ct : Nat) : (bxR w aw ah nw cw nt ct).heap[w.heap.size + 1]? = some (.cells #[.slice none 0 0, .slice none 0 0, .slice none 0 0, .slice none 0 0] 32 (0, 0)) := new_at _ _ _ (by simp)
def emp4 (W : World) (r : Nat) : World := (((W.setCell ⟨r, 0, none⟩ (.slice none 0 0)).setCell ⟨r, 1, none⟩ (.slice none 0 0)).setCell ⟨r, 2, none⟩ (.slice none 0 0)).setCell ⟨r, 3, none⟩ (.slice none 0 0)
theorem emp4_below {w W : World} {r : Nat} (h : Below w.heap.size w W) (hr : w.heap.size ≤ r) : Below w.heap.size w (emp4 W r) := (((h.setCell (p := ⟨r, 0, none⟩) hr _).setCell (p := ⟨r, 1, none⟩) hr _).setCell (p := ⟨r, 2, none⟩) hr _).setCell (p := ⟨r, 3, none⟩) hr _
theorem SvAt.below {W W' : World} {v : Array Value} {s : Sv} {nw nr np nb : Nat} (h : SvAt W v s nw nr np nb) (hB : Below W.heap.size W W') : SvAt W' v s nw nr np nb := by
  obtain ⟨a1, c1, a2, c2, a3, c3, a4, c4, e, i1, i2, i3, i4⟩ := h.ex
  exact ⟨a1, c1, a2, c2, a3, c3, a4, c4, e, i1.below hB, i2.below hB, i3.below hB, i4.below hB⟩
set_option maxHeartbeats 4000000 in
theorem num_any (x : Int) (w : World) : Calls Tryd.prog 9 #[.int .i64 x] w fun e w' => e = .returned (.int .i64 x) ∧ w' = w := by
  go_enter Tryd.func9, Tryd.ntmps9
  go_wp2
  go_ret
  exact ⟨rfl, rfl⟩
end Go.Proofs.YtmejblmeaipahaaDoor.Ts
