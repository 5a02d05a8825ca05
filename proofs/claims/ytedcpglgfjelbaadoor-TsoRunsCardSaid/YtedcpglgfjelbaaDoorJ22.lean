import Derived.Test.YtedcpglgfjelbaaDoorJ21
import Derived.Test.YtedcpglgfjelbaaDoorJ18
import Derived.Test.YtedcpglgfjelbaaDoorJ20
/-
  TSO: mayBe, Check.
-/
namespace Go.Proofs.YtedcpglgfjelbaaDoor.Ts
open Go.RowKit Mr
set_option linter.unusedVariables false
set_option linter.unusedSimpArgs false
set_option maxRecDepth 100000
theorem chk_off (l : Lt) (h : inB l.th.length 1 4 = false ∨ inB l.ws.length 1 6 = false) : chkB l = false := by unfold chkB; rcases h with h | h <;> simp [h]
set_option maxHeartbeats 8000000 in
theorem may_any (l : Lt) (aw : Option Addr) (nw cw : Nat) (ah : Option Addr) (nt ct : Nat) (w : World) (E : Env w) (hI : nw = l.ws.length) (hT : ThAt w ah nt l.th) :
    Calls Tryd.prog 27 #[.agg #[.slice aw nw cw, .slice ah nt ct]] w fun e w' => e = .returned (.bool (chkB l)) ∧ Below w.heap.size w w' := by
  have hl := hT.1
  have WB : Hid (∀ x lo hi W, Calls Tryd.prog 36 #[.int .i64 x, .int .i64 lo, .int .i64 hi] W fun e w' => e = .returned (.bool (inB x lo hi)) ∧ w' = W) := fun x lo hi W => within_any x lo hi W
  obtain ⟨R, hR⟩ : ∃ R, chkB l = R := ⟨_, rfl⟩
  rw [hR]
  replace hR := Mr.hid hR
  have B0 : Below w.heap.size w (w.alloc (.cells #[.slice aw nw cw, .slice ah nt ct] 25)) := (Below.refl _ _).alloc (Nat.le_refl _) _
  have hb0 : (w.alloc (.cells #[.slice aw nw cw, .slice ah nt ct] 25)).heap[w.heap.size]? = some (.cells #[.slice aw nw cw, .slice ah nt ct] 25 (0, 0)) := new_at _ _ _ rfl
  obtain ⟨bT, eT⟩ : ∃ b, inB (nt : Int) 1 4 = b := ⟨_, rfl⟩
  obtain ⟨bW, eW⟩ : ∃ b, inB (nw : Int) 1 6 = b := ⟨_, rfl⟩
  have hoff : Hid (bT = false ∨ bW = false → R = false) := fun h => by
    rw [← hR.out]
    refine chk_off l ?_
    rw [← hl, ← hI, eT, eW]
    exact h
  cases bT with
  | false =>
    have r0 := hoff.out (.inl rfl)
    subst r0
    replace B0 := Mr.hid B0
    clear hT E hb0 hoff hR hI hl
    go_enter Tryd.func27, Tryd.ntmps27
    go_wp2_with (go_at_call 36; refine (WB.out _ _ _ _).mono ?_; rintro e w9 ⟨rfl, hw9⟩; obtain rfl := hw9.symm)
    go_ret
    exact ⟨rfl, B0.out⟩
  | true =>
  cases bW with
  | false =>
    have r0 := hoff.out (.inr rfl)
    subst r0
    replace B0 := Mr.hid B0
    clear hT E hb0 hoff hR hI hl
    go_enter Tryd.func27, Tryd.ntmps27
    go_wp2_with (go_at_call 36; refine (WB.out _ _ _ _).mono ?_; rintro e w9 ⟨rfl, hw9⟩; obtain rfl := hw9.symm)
    go_ret
    exact ⟨rfl, B0.out⟩
  | true =>
    have hbt : 1 ≤ nt ∧ nt ≤ 4 := by have h := eT; unfold inB at h; simp at h; omega
    have hbw : 1 ≤ nw ∧ nw ≤ 6 := by have h := eW; unfold inB at h; simp at h; omega
    have hck : Hid (R = l.th.all (codeB (nw : Int))) := by
      show _ = _
      rw [← hR.out]
      unfold chkB
      rw [← hl, ← hI, eT, eW]
      rfl
    have CM : Hid (∀ c a m cp W, Below w.heap.size w W → CdAt W a m c → Calls Tryd.prog 43 #[.slice a m cp, .int .i64 (nw : Int)] W fun e w' => e = .returned (.bool (codeB (nw : Int) c)) ∧ Below W.heap.size W w') := fun c a m cp W hB hC => code_any c a m cp nw W (E.below hB) (by omega) hC
    have hl' := Mr.hid hl
    replace hT := Mr.hid hT
    replace hb0 := Mr.hid hb0
    have B0' := Mr.hid B0
    clear E hoff hR hl hI B0
    go_enter Tryd.func27, Tryd.ntmps27
    go_upto_region 4 with (go_at_call 36; refine (WB.out _ _ _ _).mono ?_; rintro e w9 ⟨rfl, hw9⟩; obtain rfl := hw9.symm)
    clear eT eW WB
    generalize w.alloc (.cells #[.slice aw nw cw, .slice ah nt ct] 25) = w1 at *
    go_loopg [20] nt (fun gk s20 wr => ∃ i : Nat, s20 = .int .i64 (i : Int) ∧ i + gk = nt ∧ (l.th.take i).all (codeB (nw : Int)) = true ∧ Below w1.heap.size w1 wr)
    case atStart => exact ⟨0, rfl, by omega, rfl, Below.refl _ _⟩
    case round =>
      obtain ⟨i, rfl, hi, hall, hB⟩ := hrel
      have hBw : Below w.heap.size w wr := B0'.out.trans (hB.mono B0'.out.size)
      have hbr : wr.heap[w.heap.size]? = some (.cells #[.slice aw nw cw, .slice ah nt ct] 25 (0, 0)) := (hB.block _ (Array.getElem?_eq_some_iff.1 hb0.out).1).trans hb0.out
      have q0 := cell_blk hbr 0
      have q1 := cell_blk hbr 1
      have lb := (Array.getElem?_eq_some_iff.1 hbr).1
      by_cases hlt : i < nt
      · have hli : i < l.th.length := by have := hl'.out; omega
        obtain ⟨x, hx⟩ : ∃ x, l.th[i]? = some x := ⟨l.th[i], List.getElem?_eq_getElem hli⟩
        have hTr := hT.out.below hBw
        obtain ⟨g, o, hae, hg, hc⟩ := hTr.2.resolve_left (by intro e; rw [e] at hli; simp at hli)
        subst hae
        obtain ⟨a', n', c', c0, -, hC⟩ := hc i x hx
        have hts := take_succ_of hx
        have hmem := List.mem_of_getElem? hx
        have C1 := Mr.hid (CM.out x a' n' c' wr hBw hC)
        have hlI : (i : Int) < (nt : Int) := by omega
        have dl : decide ((i : Int) < (nt : Int)) = true := by simpa using hlI
        have hw : IntKind.i64.wrap ((i : Int) + 1) = (i : Int) + 1 := i64x _ (by omega) (by omega)
        have hi' := Mr.hid hi
        have hnext : Hid (codeB (nw : Int) x = true → (l.th.take (i + 1)).all (codeB (nw : Int)) = true) := fun h => by rw [hts, List.all_append, hall]; simp [h]
        have hbad : Hid (codeB (nw : Int) x = false → R = false) := fun h => by
          rw [hck.out]
          cases ha : l.th.all (codeB (nw : Int)) with
          | false => rfl
          | true => have := List.all_eq_true.1 ha x hmem; rw [h] at this; cases this
        have hB' := Mr.hid hB
        replace hBw := Mr.hid hBw
        generalize codeB (nw : Int) x = cx at *
        clear hc hx hts hli hi hall hmem hC hTr hbr hB
        cases cx with
        | true =>
          go_wp2_with (go_at_call 43; refine C1.out.mono ?_; clear C1; rintro e w9 ⟨rfl, B9⟩; have hB9 : Hid (Below w1.heap.size w1 w9) := hB'.out.trans (B9.mono hB'.out.size); clear B9)
          go_roundg (gk - 1)
          case measure => have := hi'.out; omega
          case rel => exact ⟨i + 1, by simp, by have := hi'.out; omega, hnext.out (by trivial), hB9.out⟩
        | false =>
          have r0 := hbad.out (by trivial)
          replace r0 := Mr.hid r0
          go_wp2_with (go_at_call 43; refine C1.out.mono ?_; clear C1; rintro e w9 ⟨rfl, B9⟩; have hB9 : Hid (Below w.heap.size w w9) := hBw.out.trans (B9.mono hBw.out.size); clear B9)
          go_ret
          exact ⟨by rw [r0.out]; rfl, hB9.out⟩
      · have hfin : l.th.take i = l.th := List.take_of_length_le (by have := hl'.out; omega)
        rw [hfin] at hall
        have r1 : Hid (R = true) := by show _ = _; rw [hck.out, hall]
        have dl : decide ((i : Int) < (nt : Int)) = false := decide_eq_false (by omega)
        have dl2 : ¬ (i : Int) < (nt : Int) := by omega
        replace hBw := Mr.hid hBw
        clear hlt hi hfin hB hbr hall
        go_wp2
        go_ret
        exact ⟨by rw [r1.out]; rfl, hBw.out⟩
set_option maxHeartbeats 4000000 in
theorem Check_any (l : Lt) (aw : Option Addr) (nw cw : Nat) (ah : Option Addr) (nt ct : Nat) (w : World) (E : Env w) (hI : nw = l.ws.length) (hT : ThAt w ah nt l.th) :
    Calls Tryd.prog 12 #[.agg #[.slice aw nw cw, .slice ah nt ct]] w fun e w' => e = .returned (.int .i64 (if chkB l = true then 0 else 190)) ∧ Below w.heap.size w w' := by
  have B0 : Below w.heap.size w (w.alloc (.cells #[.slice aw nw cw, .slice ah nt ct] 25)) := (Below.refl _ _).alloc (Nat.le_refl _) _
  have M := Mr.hid (may_any l aw nw cw ah nt ct _ (E.below B0) hI (hT.below B0))
  obtain ⟨R, hR⟩ : ∃ R, chkB l = R := ⟨_, rfl⟩
  rw [hR] at M ⊢
  replace B0 := Mr.hid B0
  clear E hI hT hR
  cases R with
  | true =>
    rw [if_pos rfl]
    go_enter Tryd.func12, Tryd.ntmps12
    go_wp2_with (go_at_call 27; refine M.out.mono ?_; clear M; rintro e w9 ⟨rfl, B9⟩; replace B9 := Mr.hid B9)
    go_ret
    exact ⟨rfl, B0.out.trans (B9.out.mono B0.out.size)⟩
  | false =>
    rw [if_neg (by decide)]
    go_enter Tryd.func12, Tryd.ntmps12
    go_wp2_with (go_at_call 27; refine M.out.mono ?_; clear M; rintro e w9 ⟨rfl, B9⟩; replace B9 := Mr.hid B9)
    go_ret
    exact ⟨rfl, B0.out.trans (B9.out.mono B0.out.size)⟩
end Go.Proofs.YtedcpglgfjelbaaDoor.Ts
/-
  TSO: the program's Run.
-/
namespace Go.Proofs.YtedcpglgfjelbaaDoor.Ts
open Go.RowKit Mr
set_option linter.unusedVariables false
set_option linter.unusedSimpArgs false
set_option maxRecDepth 100000
/-- What Run is asked. -/
structure Rq (w : World) (l : Lt) (ts : List Tn) (aw ah a : Option Addr) (nw nt n : Nat) : Prop where
  E : Env w
  I : IsAt w aw nw l.ws
  T : ThAt w ah nt l.th
  S : TnAt w a n ts
  n1 : n ≤ 1000000000000000000
theorem Rq.below {w W : World} {l : Lt} {ts : List Tn} {aw ah a : Option Addr} {nw nt n : Nat} (h : Rq w l ts aw ah a nw nt n) (hB : Below w.heap.size w W) : Rq W l ts aw ah a nw nt n := ⟨h.E.below hB, h.I.below hB, h.T.below hB, h.S.below hB, h.n1⟩
/-- What Run answers. -/
def RunP (w w' : World) (x : Sv × Nat × Int) (e : Ending) : Prop := ∃ v, e = .returned (.tuple #[.agg v, .int .i64 (x.2.1 : Int), .int .i64 x.2.2]) ∧ SvAt w' v x.1 x.1.ws.length x.1.rg.length x.1.pl.length x.1.bf.length ∧ Below w.heap.size w w'
def bxR (w : World) (aw ah : Option Addr) (nw cw nt ct : Nat) : World := (w.alloc (.cells #[.slice aw nw cw, .slice ah nt ct] 25)).alloc (.cells #[.slice none 0 0, .slice none 0 0, .slice none 0 0, .slice none 0 0] 32)
theorem bxR_below (w : World) (aw ah : Option Addr) (nw cw nt ct : Nat) : Below w.heap.size w (bxR w aw ah nw cw nt ct) := ((Below.refl _ _).alloc (Nat.le_refl _) _).alloc (by simp) _
theorem bxR_0 (w : World) (aw ah : Option Addr) (nw cw nt ct : Nat) : (bxR w aw ah nw cw nt ct).heap[w.heap.size]? = some (.cells #[.slice aw nw cw, .slice ah nt ct] 25 (0, 0)) := (Lib.alloc_old _ _ _ (by simp)).trans (new_at _ _ _ rfl)
theorem bxR_1 (w : World) (aw ah : Option Addr) (nw cw nt ct : Nat) : (bxR w aw ah nw cw nt ct).heap[w.heap.size + 1]? = some (.cells #[.slice none 0 0, .slice none 0 0, .slice none 0 0, .slice none 0 0] 32 (0, 0)) := new_at _ _ _ (by simp)
/-- A state's box that is written with an empty one. -/
def emp4 (W : World) (r : Nat) : World := (((W.setCell ⟨r, 0, none⟩ (.slice none 0 0)).setCell ⟨r, 1, none⟩ (.slice none 0 0)).setCell ⟨r, 2, none⟩ (.slice none 0 0)).setCell ⟨r, 3, none⟩ (.slice none 0 0)
theorem emp4_below {w W : World} {r : Nat} (h : Below w.heap.size w W) (hr : w.heap.size ≤ r) : Below w.heap.size w (emp4 W r) := (((h.setCell (p := ⟨r, 0, none⟩) hr _).setCell (p := ⟨r, 1, none⟩) hr _).setCell (p := ⟨r, 2, none⟩) hr _).setCell (p := ⟨r, 3, none⟩) hr _
set_option maxHeartbeats 8000000 in
theorem Run_chk (l : Lt) (o : Int) (ts : List Tn) (aw ah a : Option Addr) (nw cw nt ct n c : Nat) (w : World) (h : Rq w l ts aw ah a nw nt n) (hc : chkB l = false) :
    Calls Tryd.prog 6 #[.agg #[.slice aw nw cw, .slice ah nt ct], .int .i64 o, .slice a n c] w fun e w' => RunP w w' (runR l o ts) e := by
  have B0 := bxR_below w aw ah nw cw nt ct
  have b0 := bxR_0 w aw ah nw cw nt ct
  have b1 := bxR_1 w aw ah nw cw nt ct
  have h1 := h.below B0
  have CK := Mr.hid (Check_any l aw nw cw ah nt ct _ h1.E h1.I.1 h1.T)
  have c0 := cell_blk b0 0
  have c1 := cell_blk b0 1
  rw [hc] at CK
  have hfin : Hid (∀ W, Below w.heap.size w W → RunP w W (runR l o ts) (.returned (.tuple #[.agg #[.slice none 0 0, .slice none 0 0, .slice none 0 0, .slice none 0 0], .int .i64 0, .int .i64 190]))) := fun W hW => by
    unfold runR; rw [if_pos hc]; exact ⟨_, rfl, SvAt.nil W, hW⟩
  replace B0 := Mr.hid B0
  clear h h1 b0
  unfold bxR at *
  go_enter Tryd.func6, Tryd.ntmps6
  go_wp2_with (go_at_call 12; refine CK.out.mono ?_; clear CK; rintro e w2 ⟨rfl, B2⟩; have d1 := (B2.block _ (Array.getElem?_eq_some_iff.1 b1).1).trans b1; have y0 := cell_blk d1 0; have y1 := cell_blk d1 1; have y2 := cell_blk d1 2; have y3 := cell_blk d1 3; have ly := (Array.getElem?_eq_some_iff.1 d1).1; have fy : ∀ k, w2.frozen? ⟨w.heap.size + 1, k, none⟩ = false := fun k => fz_of d1; have BB : Hid (Below w.heap.size w w2) := B0.out.trans (B2.mono B0.out.size); clear B2 b1 d1)
  have BE := Mr.hid (emp4_below BB.out (show w.heap.size ≤ w.heap.size + 1 by omega))
  refine bodyPost_ret (v := .tuple #[.agg #[.slice none 0 0, .slice none 0 0, .slice none 0 0, .slice none 0 0], .int .i64 0, .int .i64 190]) (by simp [results, Tryd.results6, go_sem, *]) rfl (hfin.out _ BE.out)
set_option maxHeartbeats 8000000 in
theorem Run_long (l : Lt) (o : Int) (ts : List Tn) (aw ah a : Option Addr) (nw cw nt ct n c : Nat) (w : World) (h : Rq w l ts aw ah a nw nt n) (hc : chkB l = true) (hn : 4096 < ts.length) :
    Calls Tryd.prog 6 #[.agg #[.slice aw nw cw, .slice ah nt ct], .int .i64 o, .slice a n c] w fun e w' => RunP w w' (runR l o ts) e := by
  have B0 := bxR_below w aw ah nw cw nt ct
  have b0 := bxR_0 w aw ah nw cw nt ct
  have b1 := bxR_1 w aw ah nw cw nt ct
  have h1 := h.below B0
  have CK := Mr.hid (Check_any l aw nw cw ah nt ct _ h1.E h1.I.1 h1.T)
  have c0 := cell_blk b0 0
  have c1 := cell_blk b0 1
  rw [hc] at CK
  have hnI : (4096 : Int) < (n : Int) := by have := h.S.1; omega
  have dn : decide ((4096 : Int) < (n : Int)) = true := decide_eq_true hnI
  have hfin : Hid (∀ W, Below w.heap.size w W → RunP w W (runR l o ts) (.returned (.tuple #[.agg #[.slice none 0 0, .slice none 0 0, .slice none 0 0, .slice none 0 0], .int .i64 0, .int .i64 3]))) := fun W hW => by
    unfold runR; rw [if_neg (by rw [hc]; simp), if_pos hn]; exact ⟨_, rfl, SvAt.nil W, hW⟩
  replace B0 := Mr.hid B0
  clear h h1 b0
  unfold bxR at *
  go_enter Tryd.func6, Tryd.ntmps6
  go_wp2_with (go_at_call 12; refine CK.out.mono ?_; clear CK; rintro e w2 ⟨rfl, B2⟩; have d1 := (B2.block _ (Array.getElem?_eq_some_iff.1 b1).1).trans b1; have y0 := cell_blk d1 0; have y1 := cell_blk d1 1; have y2 := cell_blk d1 2; have y3 := cell_blk d1 3; have ly := (Array.getElem?_eq_some_iff.1 d1).1; have fy : ∀ k, w2.frozen? ⟨w.heap.size + 1, k, none⟩ = false := fun k => fz_of d1; have BB : Hid (Below w.heap.size w w2) := B0.out.trans (B2.mono B0.out.size); clear B2 b1 d1)
  have BE := Mr.hid (emp4_below BB.out (show w.heap.size ≤ w.heap.size + 1 by omega))
  refine bodyPost_ret (v := .tuple #[.agg #[.slice none 0 0, .slice none 0 0, .slice none 0 0, .slice none 0 0], .int .i64 0, .int .i64 3]) (by simp [results, Tryd.results6, go_sem, *]) rfl (hfin.out _ BE.out)
set_option maxHeartbeats 8000000 in
theorem Run_ord (l : Lt) (o : Int) (ts : List Tn) (aw ah a : Option Addr) (nw cw nt ct n c : Nat) (w : World) (h : Rq w l ts aw ah a nw nt n) (hc : chkB l = true) (hn : ¬ 4096 < ts.length) (ho : ordB o = false) :
    Calls Tryd.prog 6 #[.agg #[.slice aw nw cw, .slice ah nt ct], .int .i64 o, .slice a n c] w fun e w' => RunP w w' (runR l o ts) e := by
  have B0 := bxR_below w aw ah nw cw nt ct
  have b0 := bxR_0 w aw ah nw cw nt ct
  have b1 := bxR_1 w aw ah nw cw nt ct
  have h1 := h.below B0
  have CK := Mr.hid (Check_any l aw nw cw ah nt ct _ h1.E h1.I.1 h1.T)
  have OR := Mr.hid (fun W => isOrder_any o W)
  rw [ho] at OR
  have c0 := cell_blk b0 0
  have c1 := cell_blk b0 1
  rw [hc] at CK
  have hnI : ¬ (4096 : Int) < (n : Int) := by have := h.S.1; omega
  have dn : decide ((4096 : Int) < (n : Int)) = false := decide_eq_false hnI
  have hfin : Hid (∀ W, Below w.heap.size w W → RunP w W (runR l o ts) (.returned (.tuple #[.agg #[.slice none 0 0, .slice none 0 0, .slice none 0 0, .slice none 0 0], .int .i64 0, .int .i64 191]))) := fun W hW => by
    unfold runR; rw [if_neg (by rw [hc]; simp), if_neg hn, if_pos ho]; exact ⟨_, rfl, SvAt.nil W, hW⟩
  replace B0 := Mr.hid B0
  clear h h1 b0
  unfold bxR at *
  go_enter Tryd.func6, Tryd.ntmps6
  go_wp2_with (first | (go_at_call 12; refine CK.out.mono ?_; clear CK; rintro e w2 ⟨rfl, B2⟩; have d1 := (B2.block _ (Array.getElem?_eq_some_iff.1 b1).1).trans b1; have y0 := cell_blk d1 0; have y1 := cell_blk d1 1; have y2 := cell_blk d1 2; have y3 := cell_blk d1 3; have ly := (Array.getElem?_eq_some_iff.1 d1).1; have fy : ∀ k, w2.frozen? ⟨w.heap.size + 1, k, none⟩ = false := fun k => fz_of d1; have BB : Hid (Below w.heap.size w w2) := B0.out.trans (B2.mono B0.out.size); clear B2 b1 d1) | (go_at_call 21; refine (OR.out _).mono ?_; clear OR; rintro e w9 ⟨rfl, hw9⟩; obtain rfl := hw9.symm))
  have BE := Mr.hid (emp4_below BB.out (show w.heap.size ≤ w.heap.size + 1 by omega))
  refine bodyPost_ret (v := .tuple #[.agg #[.slice none 0 0, .slice none 0 0, .slice none 0 0, .slice none 0 0], .int .i64 0, .int .i64 191]) (by simp [results, Tryd.results6, go_sem, *]) rfl (hfin.out _ BE.out)
set_option maxHeartbeats 16000000 in
theorem Run_ok (l : Lt) (o : Int) (ts : List Tn) (aw ah a : Option Addr) (nw cw nt ct n c : Nat) (w : World) (h : Rq w l ts aw ah a nw nt n) (hc : chkB l = true) (hn : ¬ 4096 < ts.length) (ho : ordB o = true) :
    Calls Tryd.prog 6 #[.agg #[.slice aw nw cw, .slice ah nt ct], .int .i64 o, .slice a n c] w fun e w' => RunP w w' (runR l o ts) e := by
  have B0 := bxR_below w aw ah nw cw nt ct
  have b0 := bxR_0 w aw ah nw cw nt ct
  have b1 := bxR_1 w aw ah nw cw nt ct
  have h1 := h.below B0
  have CK := Mr.hid (Check_any l aw nw cw ah nt ct _ h1.E h1.I.1 h1.T)
  have OR := Mr.hid (fun W => isOrder_any o W)
  rw [ho] at OR
  have c0 := cell_blk b0 0
  have c1 := cell_blk b0 1
  rw [hc] at CK
  have hnI : ¬ (4096 : Int) < (n : Int) := by have := h.S.1; omega
  have dn : decide ((4096 : Int) < (n : Int)) = false := decide_eq_false hnI
  replace B0 := Mr.hid B0
  unfold bxR at *
  go_enter Tryd.func6, Tryd.ntmps6
  go_upto_region 8 with (first | (go_at_call 12; refine CK.out.mono ?_; clear CK; rintro e w2 ⟨rfl, B2⟩; have d0 := (B2.block _ (Array.getElem?_eq_some_iff.1 b0).1).trans b0; have d1 := (B2.block _ (Array.getElem?_eq_some_iff.1 b1).1).trans b1; have BB : Hid (Below w.heap.size w w2) := B0.out.trans (B2.mono B0.out.size); clear B2) | (go_at_call 21; refine (OR.out _).mono ?_; clear OR; rintro e w9 ⟨rfl, hw9⟩; obtain rfl := hw9.symm))
  -- HAND
  have h2 := h.below BB.out
  have hlen := chk_len hc
  have hsz := fstA_size l.ws (by omega)
  have hl1 := h.I.1
  have hl2 := h.T.1
  have hl3 := h.S.1
  have NR : Hid (∀ W, Calls Tryd.prog 22 #[.agg #[.slice aw nw cw, .slice ah nt ct], .int .i64 o] W fun e w' => ∃ R, e = .returned (.pointer (some ⟨R, 0, none⟩)) ∧ w'.heap[R]? = some (.cells (rnV (.slice aw nw cw) (.slice ah nt ct) o) 84 (0, 0)) ∧ W.heap.size ≤ R ∧ Below W.heap.size W w') := fun W => newRunner_any aw ah nw cw nt ct o W
  have FI : Hid (∀ W, Below w.heap.size w W → Calls Tryd.prog 23 #[.agg #[.slice aw nw cw, .slice ah nt ct]] W fun e w' => e = .returned (.agg (fstA l.ws)) ∧ Below W.heap.size W w') := fun W hW => first_any l aw ah nw cw nt ct W (h.I.below hW) (by omega) (by omega)
  have hz := zero_z
  obtain ⟨zs, hzs⟩ : ∃ zs, zs = z118 := ⟨_, rfl⟩
  rw [← hzs] at hz
  have hzz : zs.size = 118 := by rw [hzs]; rfl
  have szf : Hid ((Tryd.prog.info? 62).map (·.size) = some (fstA l.ws).size) := by show _ = _; rw [hsz]; exact szz
  have hszf : Hid (zs.size = (fstA l.ws).size) := by show _ = _; rw [hzz, hsz]
  have hfo := Mr.hid (fstA_one l.ws)
  have TU : Hid (∀ (R g k : Nat) (t : Tn) (W : World) (cs : Array Value), Ar W g cs → Enc cs (goS l o (begS l, 0) (ts.take k)).1 → W.heap[R]? = some (.cells (rnV (.slice aw nw cw) (.slice ah nt ct) o) 84 (0, 0)) → R ≠ g → Below w.heap.size w W → Calls Tryd.prog 24 #[.pointer (some ⟨R, 0, none⟩), .pointer (some ⟨g, 0, none⟩), tnV t] W fun e w' => e = .returned (.bool (act l o (goS l o (begS l, 0) (ts.take k)).1 t).isSome) ∧ (∃ cs', Ar w' g cs' ∧ Enc cs' (trn l o (goS l o (begS l, 0) (ts.take k)).1 t)) ∧ Fr W w' (fun k => k = g)) := fun R g k t W cs hA hE hR hne hW =>
    turn_any l _ R g o _ ah nt ct cs W ⟨hA, hE, hc, (goS_wg hc _).sh, fun k c hk => ((goS_wg hc _).tp k c hk).1, hR, h.T.below hW, hne⟩ t
  have TO : Hid (∀ (g : Nat) (W : World) (cs : Array Value), Ar W g cs → Enc cs (goS l o (begS l, 0) ts).1 → Calls Tryd.prog 25 #[.pointer (some ⟨g, 0, none⟩), .agg #[.slice aw nw cw, .slice ah nt ct]] W fun e w' => ∃ v, e = .returned (.agg v) ∧ (∀ W', (∀ k, W.heap.size + 2 ≤ k → W'.heap[k]? = w'.heap[k]?) → SvAt W' v (goS l o (begS l, 0) ts).1 nw nt nt nt) ∧ Below W.heap.size W w') := fun g W cs hA hE => by
    have hg := goS_wg (o := o) hc ts
    refine told_any _ g cs aw ah nw cw nt ct W hA hE (by omega) (by omega) (by omega) (by rw [hg.sh.w]; omega) (by rw [hg.sh.r]; omega) (by rw [hg.sh.p]; omega) (by rw [hg.sh.b]; omega) (fun x hx => ?_)
    obtain ⟨k, hk⟩ := List.getElem?_of_mem hx
    have hkl := (List.getElem?_eq_some_iff.1 hk).1
    rw [hg.sh.b] at hkl
    have hT := (hg.tp k _ (List.getElem?_eq_getElem hkl)).1.b1
    have e : (vw (goS l o (begS l, 0) ts).1 k).b = x := by simp [vw, List.getD_eq_getElem?_getD, hk]
    rw [e] at hT; omega
  have hsn : Hid (∀ (k : Nat) (t : Tn), ts[k]? = some t → goS l o (begS l, 0) (ts.take (k + 1)) = (trn l o (goS l o (begS l, 0) (ts.take k)).1 t, if (act l o (goS l o (begS l, 0) (ts.take k)).1 t).isSome then (goS l o (begS l, 0) (ts.take k)).2 + 1 else (goS l o (begS l, 0) (ts.take k)).2)) := fun k t hk => by rw [take_succ_of hk]; exact goS_snoc l o _ _ t
  have hcn : Hid (∀ k, k ≤ 4096 → (goS l o (begS l, 0) (ts.take k)).2 ≤ 4096) := fun k hk => by
    have h1 := goS_le l o (ts.take k) (begS l, 0)
    have h2 : (ts.take k).length ≤ k := List.length_take_le _ _
    dsimp only at h1; omega
  have hrR : Hid (runR l o ts = ((goS l o (begS l, 0) ts).1, (goS l o (begS l, 0) ts).2, 0)) := by
    show _ = _
    unfold runR; rw [if_neg (by rw [hc]; simp), if_neg hn, if_neg (by rw [ho]; simp)]
  have hSt := Mr.hid h.S
  have hgl : Hid ((goS l o (begS l, 0) ts).1.ws.length = nw ∧ (goS l o (begS l, 0) ts).1.rg.length = nt ∧ (goS l o (begS l, 0) ts).1.pl.length = nt ∧ (goS l o (begS l, 0) ts).1.bf.length = nt) := by
    have hg := goS_wg (o := o) hc ts
    exact ⟨by rw [hg.sh.w]; omega, by rw [hg.sh.r]; omega, by rw [hg.sh.p]; omega, by rw [hg.sh.b]; omega⟩
  have hfe : Hid (Enc (fstA l.ws) (goS l o (begS l, 0) (ts.take 0)).1) := fstA_enc l (by omega) (by omega)
  have k0 := cell_blk d0 0
  have k1 := cell_blk d0 1
  have lx := (Array.getElem?_eq_some_iff.1 d0).1
  have lr := (Array.getElem?_eq_some_iff.1 d1).1
  replace hzs := Mr.hid hzs
  replace hl3 := Mr.hid hl3
  replace hsz := Mr.hid hsz
  clear h h1 h2 b0 b1 c0 c1 hlen hl1 hl2 hn B0 dn hc hzz ho
  rename_i Q' K aK
  have KEY : Hid (∀ (R g : Nat) (W : World), Below w2.heap.size w2 W → W.heap[R]? = some (.cells (rnV (.slice aw nw cw) (.slice ah nt ct) o) 84 (0, 0)) → W.heap[g]? = some (.cells (fstA l.ws) 62 (0, 0)) → R ≠ g → w2.heap.size ≤ g → Exit.then K Q' Exit.normal ⟨#[.agg #[.slice aw nw cw, .slice ah nt ct], .int .i64 o, .slice a n c, .pointer (some ⟨w.heap.size, 0, none⟩), undef, undef, .pointer (some ⟨w.heap.size + 1, 0, none⟩), .int .i64 0, .int .i64 0, .int .i64 0, .pointer (some ⟨R, 0, none⟩), .pointer (some ⟨g, 0, none⟩), .int .i64 0, undef, undef, .agg #[.slice aw nw cw, .slice ah nt ct], .int .i64 0, .int .i64 0, .bool false, undef, undef, .slice a n c, .int .i64 (n : Int), .bool false, undef, .int .i64 o, .bool true, .bool false, undef, .agg #[.slice aw nw cw, .slice ah nt ct], .int .i64 o, .pointer (some ⟨R, 0, none⟩), .agg #[.slice aw nw cw, .slice ah nt ct], .agg (fstA l.ws), undef, undef, undef, undef, undef, undef, undef, undef, undef, undef, undef, undef, undef, undef, undef], []⟩ W) := by
    intro R g W hBW hR hg hne hlg
    have hAg : Ar W g (fstA l.ws) := ⟨hg, hsz.out⟩
    clear hg NR FI
    go_upto_region 10 with fail
    go_loopg [36, 12] n (fun gk s36 s12 wr => ∃ k : Nat, s36 = .int .i64 (k : Int) ∧ s12 = .int .i64 ((goS l o (begS l, 0) (ts.take k)).2 : Int) ∧ k + gk = n ∧ (∃ cs, Ar wr g cs ∧ Enc cs (goS l o (begS l, 0) (ts.take k)).1) ∧ Fr W wr (fun k => k = g))
    case atStart => exact ⟨0, rfl, rfl, by omega, ⟨_, hAg, hfe.out⟩, Fr.refl _ _⟩
    case round =>
      obtain ⟨k, rfl, rfl, hk, ⟨cs, hA, hE⟩, hF⟩ := hrel
      have hBr : Below w2.heap.size w2 wr := hBW.trans (hF.below (fun k e => by rw [e]; exact hlg) hBW.size)
      have hBw : Below w.heap.size w wr := BB.out.trans (hBr.mono BB.out.size)
      have e0 := (hBr.block _ lx).trans d0
      have e1 := (hBr.block _ lr).trans d1
      have hRr := (hF.block R (Array.getElem?_eq_some_iff.1 hR).1 hne).trans hR
      clear hAg
      by_cases hlt : k < n
      · have dk : decide ((k : Int) < (n : Int)) = true := decide_eq_true (by omega)
        have kI : (k : Int) < (n : Int) := by omega
        have hwk : IntKind.i64.wrap ((k : Int) + 1) = (k : Int) + 1 := i64x _ (by omega) (by omega)
        obtain ⟨t, ht⟩ : ∃ t, ts[k]? = some t := ⟨_, List.getElem?_eq_getElem (by have := hl3.out; omega)⟩
        obtain ⟨b5, q5, rfl, lb5, hc5⟩ := (hSt.out.below hBw).2.resolve_left (by intro e; rw [e] at ht; simp at ht)
        obtain ⟨u0, u1, u2⟩ := hc5 k t ht
        have hcb := hcn.out k (by omega)
        have hs := hsn.out k t ht
        have hwc : IntKind.i64.wrap (((goS l o (begS l, 0) (ts.take k)).2 : Int) + 1) = ((goS l o (begS l, 0) (ts.take k)).2 : Int) + 1 := i64x _ (by omega) (by omega)
        have B1 : Below wr.heap.size wr (wr.alloc (.cells #[.int .i64 t.th, .bool t.ou, .int .i64 t.ad] 44)) := (Below.refl _ _).alloc (Nat.le_refl _) _
        have T1 := Mr.hid (TU.out R g k t _ cs (hA.below B1) hE ((B1.block R (Array.getElem?_eq_some_iff.1 hRr).1).trans hRr) hne (hBw.trans (B1.mono hBw.size)))
        have F1 : Hid (∀ w', Fr (wr.alloc (.cells #[.int .i64 t.th, .bool t.ou, .int .i64 t.ad] 44)) w' (fun k => k = g) → Fr W w' (fun k => k = g)) := fun w' hw => fr_two (fr_two hF (Fr.of_below B1)) hw
        unfold tnV at T1
        obtain ⟨tth, tou, tad⟩ := t
        dsimp only at u0 u1 u2 T1 F1 hs
        replace hs := Mr.hid hs
        replace hk := Mr.hid hk
        replace hA := Mr.hid hA
        clear hE hF hBr e0 e1 hRr hc5 ht B1 hBw hcb
        generalize hga : act l o (goS l o (begS l, 0) (List.take k ts)).1 ⟨tth, tou, tad⟩ = res at *
        generalize hgc : (goS l o (begS l, 0) (List.take k ts)).2 = cnt at *
        replace hga := Mr.hid hga
        replace hgc := Mr.hid hgc
        cases hb : res.isSome with
        | true =>
          rw [hb] at T1
          have hs2 : Hid (goS l o (begS l, 0) (List.take (k + 1) ts) = (trn l o (goS l o (begS l, 0) (List.take k ts)).1 ⟨tth, tou, tad⟩, cnt + 1)) := by have h9 := hs.out; rw [hb] at h9; exact h9
          replace hb := Mr.hid hb
          clear hs
          go_wp2_with (go_at_call 24; refine T1.out.mono ?_; clear T1; rintro e w9 ⟨rfl, D1, D2⟩; replace D1 := Mr.hid D1; replace D2 := Mr.hid (F1.out _ D2))
          go_roundg (gk - 1)
          case measure => have := hk.out; omega
          case rel => exact ⟨k + 1, by simp, by rw [hs2.out]; simp, by have := hk.out; omega, by rw [hs2.out]; exact D1.out, D2.out⟩
        | false =>
          rw [hb] at T1
          have hs2 : Hid (goS l o (begS l, 0) (List.take (k + 1) ts) = (trn l o (goS l o (begS l, 0) (List.take k ts)).1 ⟨tth, tou, tad⟩, cnt)) := by have h9 := hs.out; rw [hb] at h9; exact h9
          replace hb := Mr.hid hb
          clear hs
          go_wp2_with (go_at_call 24; refine T1.out.mono ?_; clear T1; rintro e w9 ⟨rfl, D1, D2⟩; replace D1 := Mr.hid D1; replace D2 := Mr.hid (F1.out _ D2))
          go_roundg (gk - 1)
          case measure => have := hk.out; omega
          case rel => exact ⟨k + 1, by simp, by rw [hs2.out], by have := hk.out; omega, by rw [hs2.out]; exact D1.out, D2.out⟩
      · obtain rfl : k = n := by omega
        have dk : decide ((k : Int) < (k : Int)) = false := decide_eq_false (by omega)
        have dk2 : ¬ (k : Int) < (k : Int) := by omega
        have htk : ts.take k = ts := List.take_of_length_le (by have := hl3.out; omega)
        rw [htk] at hE ⊢
        have c0 := cell_blk e0 0
        have c1 := cell_blk e0 1
        have l0 := (Array.getElem?_eq_some_iff.1 e0).1
        have T1 := Mr.hid (TO.out g wr cs hA hE)
        have lWr : Hid (w.heap.size + 1 < wr.heap.size) := (Array.getElem?_eq_some_iff.1 e1).1
        have e1' := Mr.hid e1
        have hBw' := Mr.hid hBw
        clear hA hE hF hBr e0 e1 hRr hk hlt hBw htk
        go_wp2_with (go_at_call 25; refine T1.out.mono ?_; clear T1; rintro e w9 ⟨v, rfl, D1, D2⟩; obtain ⟨v1, v2, v3, v4, v5, v6, v7, v8, rfl, D1'⟩ := (D1 w9 (fun _ _ => rfl)).ex; have f1 := (D2.block _ (Array.getElem?_eq_some_iff.1 e1'.out).1).trans e1'.out; have y0 := cell_blk f1 0; have y1 := cell_blk f1 1; have y2 := cell_blk f1 2; have y3 := cell_blk f1 3; have ly := (Array.getElem?_eq_some_iff.1 f1).1; have fy : ∀ j, w9.frozen? ⟨w.heap.size + 1, j, none⟩ = false := fun j => fz_of f1; have B9 : Hid (Below w.heap.size w w9) := hBw'.out.trans (D2.mono hBw'.out.size); replace D1 := Mr.hid D1; clear D1' D2 f1)
        have lw9 := lWr.out
        have BE : Hid (Below w.heap.size w ((((w9.setCell ⟨w.heap.size + 1, 0, none⟩ (.slice v1 nw v2)).setCell ⟨w.heap.size + 1, 1, none⟩ (.slice v3 nt v4)).setCell ⟨w.heap.size + 1, 2, none⟩ (.slice v5 nt v6)).setCell ⟨w.heap.size + 1, 3, none⟩ (.slice v7 nt v8))) := (((B9.out.setCell (p := ⟨w.heap.size + 1, 0, none⟩) (by show w.heap.size ≤ w.heap.size + 1; omega) _).setCell (p := ⟨w.heap.size + 1, 1, none⟩) (by show w.heap.size ≤ w.heap.size + 1; omega) _).setCell (p := ⟨w.heap.size + 1, 2, none⟩) (by show w.heap.size ≤ w.heap.size + 1; omega) _).setCell (p := ⟨w.heap.size + 1, 3, none⟩) (by show w.heap.size ≤ w.heap.size + 1; omega) _
        have DE := Mr.hid (D1.out ((((w9.setCell ⟨w.heap.size + 1, 0, none⟩ (.slice v1 nw v2)).setCell ⟨w.heap.size + 1, 1, none⟩ (.slice v3 nt v4)).setCell ⟨w.heap.size + 1, 2, none⟩ (.slice v5 nt v6)).setCell ⟨w.heap.size + 1, 3, none⟩ (.slice v7 nt v8)) (fun j hj => by
          have hj' : j ≠ w.heap.size + 1 := by omega
          exact (Below.heap_setCell _ _ _ _ hj').trans ((Below.heap_setCell _ _ _ _ hj').trans ((Below.heap_setCell _ _ _ _ hj').trans (Below.heap_setCell _ _ _ _ hj')))))
        refine bodyPost_ret (v := .tuple #[.agg #[.slice v1 nw v2, .slice v3 nt v4, .slice v5 nt v6, .slice v7 nt v8], .int .i64 ((goS l o (begS l, 0) ts).2 : Int), .int .i64 0]) (by simp [results, Tryd.results6, go_sem, *]) rfl ?_
        have h9 := hrR.out
        obtain ⟨z1, z2, z3, z4⟩ := hgl.out
        show RunP w _ (runR l o ts) _
        rw [h9]
        refine ⟨_, rfl, ?_, BE.out⟩
        dsimp only
        rw [z1, z2, z3, z4]
        exact DE.out
  refine wp_region_held_drew (S := (fun W => W.cell? ⟨w.heap.size, 0, none⟩ = some (.slice aw nw cw) ∧ W.cell? ⟨w.heap.size, 1, none⟩ = some (.slice ah nt ct))) (by kernel_rfl) ⟨k0, k1⟩ (fun hHeld => ?_)
  try simp only [Act.put, List.setIfInBounds_toArray, List.set_cons_zero, List.set_cons_succ]
  refine wpAnyH_take (i := 0) (oi := (⟨_, _, _, _, _, _⟩ : Oper)) (v := ?_) rfl (by kernel_rfl) (by kernel_rfl) (by kernel_rfl) (fun _ _ _ h => h) (Or.inl ⟨by rfl, ?_⟩) (by assumption) ?_
  rotate_left
  · intro w9 hSw
    (try dsimp only at hSw)
    go_simp
    all_goals (with_reducible rfl)
  try simp only [Act.put, List.setIfInBounds_toArray, List.set_cons_zero, List.set_cons_succ]
  refine wpAnyH_take (i := 1) (oi := (⟨_, _, _, _, _, _⟩ : Oper)) (v := ?_) rfl (by kernel_rfl) (by kernel_rfl) (by kernel_rfl) (fun _ _ _ h => h) (Or.inl ⟨by rfl, ?_⟩) (by assumption) ?_
  rotate_left
  · intro w9 hSw
    (try dsimp only at hSw)
    go_simp
    all_goals (with_reducible rfl)
  try simp only [Act.put, List.setIfInBounds_toArray, List.set_cons_zero, List.set_cons_succ]
  refine wpAnyH_take (i := 3) (oi := (⟨_, _, _, _, _, _⟩ : Oper)) (v := ?_) rfl (by kernel_rfl) (by kernel_rfl) (by kernel_rfl) (fun _ _ _ h => h) (Or.inl ⟨by rfl, ?_⟩) (by assumption) ?_
  rotate_left
  · intro w9 hSw
    (try dsimp only at hSw)
    go_simp
    all_goals (with_reducible rfl)
  try simp only [Act.put, List.setIfInBounds_toArray, List.set_cons_zero, List.set_cons_succ]
  generalize hw3 : w2.drew = w3 at *
  have B3 : Below w2.heap.size w2 w3 := by rw [← hw3]; exact (Below.refl _ _).drew
  replace hw3 := Mr.hid hw3
  refine wpAnyH_ready (rs := [2, 5]) (by kernel_rfl) (by simp) ?_
  refine AllReadyH.cons (o := (⟨_, _, _, _, _, _⟩ : Oper)) rfl (fun K hK => ?_) (AllReadyH.cons (o := (⟨_, _, _, _, _, _⟩ : Oper)) rfl (fun K hK => ?_) (AllReadyH.nil))
  · go_simp
    go_at_call 22
    refine (NR.out _).mono ?_
    clear NR
    rintro e w4 ⟨R, rfl, hR, lR, hBw4⟩
    have Bw4 : Below w2.heap.size w2 w4 := B3.trans (hBw4.mono B3.size)
    have a0 := (Bw4.cell (p := ⟨w.heap.size, 0, none⟩) lx).trans k0
    have a1 := (Bw4.cell (p := ⟨w.heap.size, 1, none⟩) lx).trans k1
    try (go_wp2_with fail)
    refine hK.out _ _ ⟨a0, a1⟩ (fun hHeld9 => ?_)
    clear hK K hHeld
    have hHeld := hHeld9
    clear hHeld9
    try simp only [Act.put, List.setIfInBounds_toArray, List.set_cons_zero, List.set_cons_succ]
    clear a0 a1
    refine wpAnyH_ready (rs := [4, 5]) (by kernel_rfl) (by simp) ?_
    refine AllReadyH.cons (o := (⟨_, _, _, _, _, _⟩ : Oper)) rfl (fun K hK => ?_) (AllReadyH.cons (o := (⟨_, _, _, _, _, _⟩ : Oper)) rfl (fun K hK => ?_) (AllReadyH.nil))
    · go_simp
      go_at_call 23
      refine (FI.out _ (BB.out.trans (Bw4.mono BB.out.size))).mono ?_
      clear FI
      rintro e w5 ⟨rfl, hBw5⟩
      have Bw5 : Below w2.heap.size w2 w5 := Bw4.trans (hBw5.mono Bw4.size)
      have hR := (hBw5.block R (Array.getElem?_eq_some_iff.1 hR).1).trans hR
      have a0 := (Bw5.cell (p := ⟨w.heap.size, 0, none⟩) lx).trans k0
      have a1 := (Bw5.cell (p := ⟨w.heap.size, 1, none⟩) lx).trans k1
      try (go_wp2_with fail)
      refine hK.out _ _ ⟨a0, a1⟩ (fun hHeld9 => ?_)
      clear hK K hHeld
      have hHeld := hHeld9
      clear hHeld9
      try simp only [Act.put, List.setIfInBounds_toArray, List.set_cons_zero, List.set_cons_succ]
      clear a0 a1
      refine wpAnyH_ready (rs := [5]) (by kernel_rfl) (by simp) ?_
      refine AllReadyH.cons (o := (⟨_, _, _, _, _, _⟩ : Oper)) rfl (fun K hK => ?_) (AllReadyH.nil)
      have Bw6 : Below w2.heap.size w2 (w5.alloc (.cells zs 62)) := Bw5.alloc Bw5.size _
      have hG : (w5.alloc (.cells zs 62)).heap[w5.heap.size]? = some (.cells zs 62 (0, 0)) := new_at _ _ _ rfl
      have lG := Bw5.size
      have hR := (Lib.alloc_old w5 (.cells zs 62) R (Array.getElem?_eq_some_iff.1 hR).1).trans hR
      have hne : R ≠ w5.heap.size := by have := (Array.getElem?_eq_some_iff.1 (show w5.heap[R]? = some _ by assumption)).1; omega
      have a0 := (Bw6.cell (p := ⟨w.heap.size, 0, none⟩) lx).trans k0
      have a1 := (Bw6.cell (p := ⟨w.heap.size, 1, none⟩) lx).trans k1
      go_simp
      refine hK.out _ _ ⟨a0, a1⟩ (fun hHeld9 => ?_)
      clear hK K hHeld
      have hHeld := hHeld9
      clear hHeld9
      try simp only [Act.put, List.setIfInBounds_toArray, List.set_cons_zero, List.set_cons_succ]
      generalize w5.alloc (.cells zs 62) = w6 at *
      clear a0 a1
      generalize w5.heap.size = gg at *
      refine wpAnyH_take (i := 6) (oi := (⟨_, _, _, _, _, _⟩ : Oper)) (v := ?_) rfl (by kernel_rfl) (by kernel_rfl) (by kernel_rfl) (fun _ _ _ h => h) (Or.inl ⟨by rfl, ?_⟩) (by assumption) ?_
      rotate_left
      · intro w9 hSw
        (try dsimp only at hSw)
        go_simp
        all_goals (with_reducible rfl)
      try simp only [Act.put, List.setIfInBounds_toArray, List.set_cons_zero, List.set_cons_succ]
      refine wpAnyH_ready (rs := [7]) (by kernel_rfl) (by simp) ?_
      refine AllReadyH.cons (o := (⟨_, _, _, _, _, _⟩ : Oper)) rfl (fun K hK => ?_) (AllReadyH.nil)
      refine wp_store_row 62 _ _ rfl gg (fstA l.ws) rfl rfl 62 zs hG szf.out hszf.out hfo.out ?_
      have BZ : Below w2.heap.size w2 (w6.setRow gg (fstA l.ws)) := ⟨Bw6.os, Bw6.tape, Bw6.output, by have := Bw6.size; simpa using this, fun k hk => (setRow_other w6 gg k _ (by omega)).trans (Bw6.block k hk)⟩
      have a0 := (BZ.cell (p := ⟨w.heap.size, 0, none⟩) lx).trans k0
      have a1 := (BZ.cell (p := ⟨w.heap.size, 1, none⟩) lx).trans k1
      refine hK.out _ _ ⟨a0, a1⟩ (fun hHeld9 => ?_)
      clear hK K hHeld
      have hHeld := hHeld9
      clear hHeld9
      try simp only [Act.put, List.setIfInBounds_toArray, List.set_cons_zero, List.set_cons_succ]
      refine wpAnyH_take (i := 8) (oi := (⟨_, _, _, _, _, _⟩ : Oper)) (v := ?_) rfl (by kernel_rfl) (by kernel_rfl) (by kernel_rfl) (fun _ _ _ h => h) (Or.inl ⟨by rfl, ?_⟩) (by assumption) ?_
      rotate_left
      · intro w9 hSw
        (try dsimp only at hSw)
        go_simp
        all_goals (with_reducible rfl)
      try simp only [Act.put, List.setIfInBounds_toArray, List.set_cons_zero, List.set_cons_succ]
      refine wpAnyH_done (by kernel_rfl) ?_ _
      refine KEY.out R gg _ BZ ((setRow_other w6 gg R _ hne).trans hR) (setRow_heap w6 gg zs _ 62 _ hG) hne lG
    · have Bw5 : Below w2.heap.size w2 (w4.alloc (.cells zs 62)) := Bw4.alloc Bw4.size _
      have hG : (w4.alloc (.cells zs 62)).heap[w4.heap.size]? = some (.cells zs 62 (0, 0)) := new_at _ _ _ rfl
      have lG := Bw4.size
      have hR := (Lib.alloc_old w4 (.cells zs 62) R (Array.getElem?_eq_some_iff.1 hR).1).trans hR
      have hne : R ≠ w4.heap.size := by have := (Array.getElem?_eq_some_iff.1 (show w4.heap[R]? = some _ by assumption)).1; omega
      have a0 := (Bw5.cell (p := ⟨w.heap.size, 0, none⟩) lx).trans k0
      have a1 := (Bw5.cell (p := ⟨w.heap.size, 1, none⟩) lx).trans k1
      go_simp
      refine hK.out _ _ ⟨a0, a1⟩ (fun hHeld9 => ?_)
      clear hK K hHeld
      have hHeld := hHeld9
      clear hHeld9
      try simp only [Act.put, List.setIfInBounds_toArray, List.set_cons_zero, List.set_cons_succ]
      generalize w4.alloc (.cells zs 62) = w5 at *
      clear a0 a1
      generalize w4.heap.size = gg at *
      refine wpAnyH_ready (rs := [4]) (by kernel_rfl) (by simp) ?_
      refine AllReadyH.cons (o := (⟨_, _, _, _, _, _⟩ : Oper)) rfl (fun K hK => ?_) (AllReadyH.nil)
      go_simp
      go_at_call 23
      refine (FI.out _ (BB.out.trans (Bw5.mono BB.out.size))).mono ?_
      clear FI
      rintro e w6 ⟨rfl, hBw6⟩
      have Bw6 : Below w2.heap.size w2 w6 := Bw5.trans (hBw6.mono Bw5.size)
      have hR := (hBw6.block R (Array.getElem?_eq_some_iff.1 hR).1).trans hR
      have hG := (hBw6.block gg (Array.getElem?_eq_some_iff.1 hG).1).trans hG
      have a0 := (Bw6.cell (p := ⟨w.heap.size, 0, none⟩) lx).trans k0
      have a1 := (Bw6.cell (p := ⟨w.heap.size, 1, none⟩) lx).trans k1
      try (go_wp2_with fail)
      refine hK.out _ _ ⟨a0, a1⟩ (fun hHeld9 => ?_)
      clear hK K hHeld
      have hHeld := hHeld9
      clear hHeld9
      try simp only [Act.put, List.setIfInBounds_toArray, List.set_cons_zero, List.set_cons_succ]
      clear a0 a1
      refine wpAnyH_take (i := 6) (oi := (⟨_, _, _, _, _, _⟩ : Oper)) (v := ?_) rfl (by kernel_rfl) (by kernel_rfl) (by kernel_rfl) (fun _ _ _ h => h) (Or.inl ⟨by rfl, ?_⟩) (by assumption) ?_
      rotate_left
      · intro w9 hSw
        (try dsimp only at hSw)
        go_simp
        all_goals (with_reducible rfl)
      try simp only [Act.put, List.setIfInBounds_toArray, List.set_cons_zero, List.set_cons_succ]
      refine wpAnyH_ready (rs := [7]) (by kernel_rfl) (by simp) ?_
      refine AllReadyH.cons (o := (⟨_, _, _, _, _, _⟩ : Oper)) rfl (fun K hK => ?_) (AllReadyH.nil)
      refine wp_store_row 62 _ _ rfl gg (fstA l.ws) rfl rfl 62 zs hG szf.out hszf.out hfo.out ?_
      have BZ : Below w2.heap.size w2 (w6.setRow gg (fstA l.ws)) := ⟨Bw6.os, Bw6.tape, Bw6.output, by have := Bw6.size; simpa using this, fun k hk => (setRow_other w6 gg k _ (by omega)).trans (Bw6.block k hk)⟩
      have a0 := (BZ.cell (p := ⟨w.heap.size, 0, none⟩) lx).trans k0
      have a1 := (BZ.cell (p := ⟨w.heap.size, 1, none⟩) lx).trans k1
      refine hK.out _ _ ⟨a0, a1⟩ (fun hHeld9 => ?_)
      clear hK K hHeld
      have hHeld := hHeld9
      clear hHeld9
      try simp only [Act.put, List.setIfInBounds_toArray, List.set_cons_zero, List.set_cons_succ]
      refine wpAnyH_take (i := 8) (oi := (⟨_, _, _, _, _, _⟩ : Oper)) (v := ?_) rfl (by kernel_rfl) (by kernel_rfl) (by kernel_rfl) (fun _ _ _ h => h) (Or.inl ⟨by rfl, ?_⟩) (by assumption) ?_
      rotate_left
      · intro w9 hSw
        (try dsimp only at hSw)
        go_simp
        all_goals (with_reducible rfl)
      try simp only [Act.put, List.setIfInBounds_toArray, List.set_cons_zero, List.set_cons_succ]
      refine wpAnyH_done (by kernel_rfl) ?_ _
      refine KEY.out R gg _ BZ ((setRow_other w6 gg R _ hne).trans hR) (setRow_heap w6 gg zs _ 62 _ hG) hne lG
  · have Bw4 : Below w2.heap.size w2 (w3.alloc (.cells zs 62)) := B3.alloc B3.size _
    have hG : (w3.alloc (.cells zs 62)).heap[w3.heap.size]? = some (.cells zs 62 (0, 0)) := new_at _ _ _ rfl
    have lG := B3.size
    have a0 := (Bw4.cell (p := ⟨w.heap.size, 0, none⟩) lx).trans k0
    have a1 := (Bw4.cell (p := ⟨w.heap.size, 1, none⟩) lx).trans k1
    go_simp
    refine hK.out _ _ ⟨a0, a1⟩ (fun hHeld9 => ?_)
    clear hK K hHeld
    have hHeld := hHeld9
    clear hHeld9
    try simp only [Act.put, List.setIfInBounds_toArray, List.set_cons_zero, List.set_cons_succ]
    generalize w3.alloc (.cells zs 62) = w4 at *
    clear a0 a1
    have hgz : w3.heap.size < w4.heap.size := (Array.getElem?_eq_some_iff.1 hG).1
    generalize w3.heap.size = gg at *
    refine wpAnyH_ready (rs := [2]) (by kernel_rfl) (by simp) ?_
    refine AllReadyH.cons (o := (⟨_, _, _, _, _, _⟩ : Oper)) rfl (fun K hK => ?_) (AllReadyH.nil)
    go_simp
    go_at_call 22
    refine (NR.out _).mono ?_
    clear NR
    rintro e w5 ⟨R, rfl, hR, lR, hBw5⟩
    have Bw5 : Below w2.heap.size w2 w5 := Bw4.trans (hBw5.mono Bw4.size)
    have hG := (hBw5.block gg (Array.getElem?_eq_some_iff.1 hG).1).trans hG
    have hne : R ≠ gg := by omega
    have a0 := (Bw5.cell (p := ⟨w.heap.size, 0, none⟩) lx).trans k0
    have a1 := (Bw5.cell (p := ⟨w.heap.size, 1, none⟩) lx).trans k1
    try (go_wp2_with fail)
    refine hK.out _ _ ⟨a0, a1⟩ (fun hHeld9 => ?_)
    clear hK K hHeld
    have hHeld := hHeld9
    clear hHeld9
    try simp only [Act.put, List.setIfInBounds_toArray, List.set_cons_zero, List.set_cons_succ]
    clear a0 a1
    refine wpAnyH_ready (rs := [4]) (by kernel_rfl) (by simp) ?_
    refine AllReadyH.cons (o := (⟨_, _, _, _, _, _⟩ : Oper)) rfl (fun K hK => ?_) (AllReadyH.nil)
    go_simp
    go_at_call 23
    refine (FI.out _ (BB.out.trans (Bw5.mono BB.out.size))).mono ?_
    clear FI
    rintro e w6 ⟨rfl, hBw6⟩
    have Bw6 : Below w2.heap.size w2 w6 := Bw5.trans (hBw6.mono Bw5.size)
    have hR := (hBw6.block R (Array.getElem?_eq_some_iff.1 hR).1).trans hR
    have hG := (hBw6.block gg (Array.getElem?_eq_some_iff.1 hG).1).trans hG
    have a0 := (Bw6.cell (p := ⟨w.heap.size, 0, none⟩) lx).trans k0
    have a1 := (Bw6.cell (p := ⟨w.heap.size, 1, none⟩) lx).trans k1
    try (go_wp2_with fail)
    refine hK.out _ _ ⟨a0, a1⟩ (fun hHeld9 => ?_)
    clear hK K hHeld
    have hHeld := hHeld9
    clear hHeld9
    try simp only [Act.put, List.setIfInBounds_toArray, List.set_cons_zero, List.set_cons_succ]
    clear a0 a1
    refine wpAnyH_take (i := 6) (oi := (⟨_, _, _, _, _, _⟩ : Oper)) (v := ?_) rfl (by kernel_rfl) (by kernel_rfl) (by kernel_rfl) (fun _ _ _ h => h) (Or.inl ⟨by rfl, ?_⟩) (by assumption) ?_
    rotate_left
    · intro w9 hSw
      (try dsimp only at hSw)
      go_simp
      all_goals (with_reducible rfl)
    try simp only [Act.put, List.setIfInBounds_toArray, List.set_cons_zero, List.set_cons_succ]
    refine wpAnyH_ready (rs := [7]) (by kernel_rfl) (by simp) ?_
    refine AllReadyH.cons (o := (⟨_, _, _, _, _, _⟩ : Oper)) rfl (fun K hK => ?_) (AllReadyH.nil)
    refine wp_store_row 62 _ _ rfl gg (fstA l.ws) rfl rfl 62 zs hG szf.out hszf.out hfo.out ?_
    have BZ : Below w2.heap.size w2 (w6.setRow gg (fstA l.ws)) := ⟨Bw6.os, Bw6.tape, Bw6.output, by have := Bw6.size; simpa using this, fun k hk => (setRow_other w6 gg k _ (by omega)).trans (Bw6.block k hk)⟩
    have a0 := (BZ.cell (p := ⟨w.heap.size, 0, none⟩) lx).trans k0
    have a1 := (BZ.cell (p := ⟨w.heap.size, 1, none⟩) lx).trans k1
    refine hK.out _ _ ⟨a0, a1⟩ (fun hHeld9 => ?_)
    clear hK K hHeld
    have hHeld := hHeld9
    clear hHeld9
    try simp only [Act.put, List.setIfInBounds_toArray, List.set_cons_zero, List.set_cons_succ]
    refine wpAnyH_take (i := 8) (oi := (⟨_, _, _, _, _, _⟩ : Oper)) (v := ?_) rfl (by kernel_rfl) (by kernel_rfl) (by kernel_rfl) (fun _ _ _ h => h) (Or.inl ⟨by rfl, ?_⟩) (by assumption) ?_
    rotate_left
    · intro w9 hSw
      (try dsimp only at hSw)
      go_simp
      all_goals (with_reducible rfl)
    try simp only [Act.put, List.setIfInBounds_toArray, List.set_cons_zero, List.set_cons_succ]
    refine wpAnyH_done (by kernel_rfl) ?_ _
    refine KEY.out R gg _ BZ ((setRow_other w6 gg R _ hne).trans hR) (setRow_heap w6 gg zs _ 62 _ hG) hne lG
theorem Run_any (l : Lt) (o : Int) (ts : List Tn) (aw ah a : Option Addr) (nw cw nt ct n c : Nat) (w : World) (h : Rq w l ts aw ah a nw nt n) :
    Calls Tryd.prog 6 #[.agg #[.slice aw nw cw, .slice ah nt ct], .int .i64 o, .slice a n c] w fun e w' => RunP w w' (runR l o ts) e := by
  cases hc : chkB l with
  | false => exact Run_chk l o ts aw ah a nw cw nt ct n c w h hc
  | true =>
    by_cases hn : 4096 < ts.length
    · exact Run_long l o ts aw ah a nw cw nt ct n c w h hc hn
    · cases ho : ordB o with
      | false => exact Run_ord l o ts aw ah a nw cw nt ct n c w h hc hn ho
      | true => exact Run_ok l o ts aw ah a nw cw nt ct n c w h hc hn ho
end Go.Proofs.YtedcpglgfjelbaaDoor.Ts
