import Derived.Test.YtmejblmeaipahaaDoorJ06
/-
  TSO: the law's twin.
-/
namespace Go.Proofs.YtmejblmeaipahaaDoor.Ts
open Go.RowKit Mr
set_option linter.unusedVariables false
set_option linter.unusedSimpArgs false
set_option maxRecDepth 100000
theorem setBlk {W : World} {b : Nat} {cs : Array Value} {t : TypeId} {fr : Nat × Nat} (h : W.heap[b]? = some (.cells cs t fr)) (o : Nat) (v : Value) : (W.setCell ⟨b, o, none⟩ v).heap[b]? = some (.cells (cs.setIfInBounds o v) t fr) := by
  obtain ⟨hlt, hk⟩ := Array.getElem?_eq_some_iff.1 h
  show (W.heap.modify b _)[b]? = _
  rw [Array.getElem?_eq_getElem (by rw [Array.size_modify]; exact hlt), Array.getElem_modify_self, hk]
  rfl
theorem Tw.next {w wr wd w4 : World} {l : Lt} {vl : Array Value} {bx : Nat} {aw : Option Addr} {nw cw i : Nat} {av : Option Addr} {cv : Nat} {x : List In} {ga n1 ca g4 cap4 : Nat} {rv : List Value} (h : Tw w wr l vl bx aw nw cw i (.slice av i cv)) (hx : l.th[i]? = some x) (hBc : Below wr.heap.size wr wd) (hCc : CdAt wd (some ⟨ga, 0, none⟩) n1 x) (hcb : n1 ≤ ca) (hgb : wr.heap.size ≤ ga) (hgc : ga < wd.heap.size)
    (hrow : Has wr (fun k => bx < k) 58 1 (.slice av i cv) i rv) (hcd : ∀ j c, j < i → l.th[j]? = some c → ∃ a' n' c', rv[j]? = some (.slice a' n' c') ∧ n' ≤ c' ∧ CdAt wr a' n' c ∧ ∀ b o, a' = some ⟨b, o, none⟩ → bx < b ∧ b < wr.heap.size ∧ (Value.slice av i cv).ownBlock ≠ some b)
    (hgr : wd.grownBy w4 (Value.slice av i cv).ownBlock) (hh : Has w4 (fun k => bx < k) 58 1 (.slice (some ⟨g4, 0, none⟩) (i + 1) cap4) (i + 1) (rv ++ [.slice (some ⟨ga, 0, none⟩) n1 ca])) (hgg : (Value.slice av i cv).ownBlock = some g4 ∨ g4 = wd.heap.size) :
    Tw w (w4.setCell ⟨bx, 1, none⟩ (.slice (some ⟨g4, 0, none⟩) (i + 1) cap4)) l vl bx aw nw cw (i + 1) (.slice (some ⟨g4, 0, none⟩) (i + 1) cap4) := by
  have hb := h.hbx
  have hbl := (Array.getElem?_eq_some_iff.1 h.xbx).1
  have hs1 := hBc.size
  have hs2 := hgr.size
  have own : ∀ k, (Value.slice av i cv).ownBlock = some k → bx < k ∧ k < wr.heap.size := fun k hk => hrow.lt k hk
  have hg4 : bx < g4 ∧ g4 < w4.heap.size := hh.lt g4 rfl
  have hz : ∀ k, k ≠ bx → (w4.setCell ⟨bx, 1, none⟩ (.slice (some ⟨g4, 0, none⟩) (i + 1) cap4)).heap[k]? = w4.heap[k]? := fun k hk => Below.heap_setCell w4 _ _ _ hk
  have hd : ∀ k, k < wd.heap.size → (Value.slice av i cv).ownBlock ≠ some k → w4.heap[k]? = wd.heap[k]? := fun k hk hn => hgr.block k hk (fun e => hn e.symm)
  have hr : ∀ k, k < wr.heap.size → (Value.slice av i cv).ownBlock ≠ some k → w4.heap[k]? = wr.heap[k]? := fun k hk hn => (hd k (by omega) hn).trans (hBc.block k hk)
  have hlow : ∀ k, k ≤ bx → w4.heap[k]? = wr.heap[k]? := fun k hk => hr k (by omega) (fun e => by have := (own k e).1; omega)
  have hsz : (w4.setCell ⟨bx, 1, none⟩ (.slice (some ⟨g4, 0, none⟩) (i + 1) cap4)).heap.size = w4.heap.size := by simp
  have hrl : rv.length = i := by have := hrow.1; omega
  refine ⟨(hz _ (by omega)).trans ((hlow _ (by omega)).trans h.lbx), (hz _ (by omega)).trans ((hlow _ (by omega)).trans h.rbx), ?_, hb, h.cap, h.wds.kept (by rw [hsz]; omega) (fun b o e => (hz b (by have := h.low b o e; omega)).trans (hlow b (by have := h.low b o e; omega))), h.low, ⟨_, hh.setCell _ _ (by show some g4 ≠ some bx; intro e; cases e; omega), fun j c hj hc => ?_⟩, ?_⟩
  · exact (setBlk ((hlow bx (Nat.le_refl _)).trans h.xbx) 1 _).trans rfl
  · by_cases hji : j < i
    · obtain ⟨a', n', c', h1, h2, h3, h4⟩ := hcd j c hji hc
      refine ⟨a', n', c', by rw [List.getElem?_append_left (by omega)]; exact h1, h2, h3.kept (by rw [hsz]; omega) (fun b o e => ?_), fun b o e => ?_⟩
      · obtain ⟨q1, q2, q3⟩ := h4 b o e
        exact (hz b (by omega)).trans (hr b q2 q3)
      · obtain ⟨q1, q2, q3⟩ := h4 b o e
        refine ⟨q1, by rw [hsz]; omega, ?_⟩
        rcases hgg with hg | hg
        · rw [hg] at q3; exact q3
        · show some g4 ≠ some b
          intro e; cases e; omega
    · obtain rfl : j = i := by omega
      rw [hx] at hc
      cases hc
      refine ⟨some ⟨ga, 0, none⟩, n1, ca, by rw [List.getElem?_append_right (by omega), hrl]; simp, hcb, hCc.kept (by rw [hsz]; omega) (fun b o e => ?_), fun b o e => ?_⟩
      · cases e
        exact (hz ga (by omega)).trans (hd ga hgc (fun e => by have := (own ga e).2; omega))
      · cases e
        refine ⟨by omega, by rw [hsz]; omega, ?_⟩
        show some g4 ≠ some ga
        intro e
        injection e with e
        rcases hgg with hg | hg
        · have := (own g4 hg).2; omega
        · omega
  · have hw := h.bel.size
    exact ((h.bel.trans (hBc.mono hw)).grown hgr (by omega) (fun k hk => by have := (own k hk).1; omega)).setCell (p := ⟨bx, 1, none⟩) (by show w.heap.size ≤ bx; omega) _
set_option maxHeartbeats 16000000 in
theorem twin_any (l : Lt) (aw : Option Addr) (nw cw : Nat) (ah : Option Addr) (nt ct : Nat) (w : World) (hI : IsAt w aw nw l.ws) (hT : ThAt w ah nt l.th) (hz1 : nw * 8 ≤ 140737488351232) (hz2 : nt * 24 ≤ 140737488351232) (hz3 : ∀ c ∈ l.th, c.length * 56 ≤ 140737488351232) :
    Calls Tryd.prog 5 #[.agg #[.slice aw nw cw, .slice ah nt ct]] w fun e w' => ∃ aw' cw' ah' ct', e = .returned (.agg #[.slice aw' nw cw', .slice ah' nt ct']) ∧ IsAt w' aw' nw l.ws ∧ ThAt w' ah' nt l.th ∧ nw ≤ cw' ∧ nt ≤ ct' ∧ Below w.heap.size w w' := by
  obtain ⟨ii, hii, hi0, hi1, hi2⟩ := info_i
  obtain ⟨nn, hnn, hn0, hn1, hn2⟩ := info_n
  obtain ⟨rr, hrr, hr0, hr1, hr2⟩ := info_r
  have hli := Mr.hid hI.1
  have hlt := Mr.hid hT.1
  replace hI := Mr.hid hI
  replace hT := Mr.hid hT
  replace hz3 := Mr.hid hz3
  go_enter Tryd.func5, Tryd.ntmps5
  go_upto_region 1 with fail
  go_cut [3] (fun s3 wq => ∃ bx aw' cw', s3 = .pointer (some ⟨bx, 0, none⟩) ∧ Tw w wq l #[.slice aw nw cw, .slice ah nt ct] bx aw' nw cw' 0 (.slice none 0 0))
  case first =>
    have hL : Hid (((w.alloc (.cells #[.slice aw nw cw, .slice ah nt ct] 25)).alloc (.cells #[.slice none 0 0, .slice none 0 0] 25)).heap[w.heap.size]? = some (.cells #[.slice aw nw cw, .slice ah nt ct] 25 (0, 0))) := (Lib.alloc_old _ _ _ (by simp)).trans (new_at _ _ _ rfl)
    have hR : Hid (((w.alloc (.cells #[.slice aw nw cw, .slice ah nt ct] 25)).alloc (.cells #[.slice none 0 0, .slice none 0 0] 25)).heap[w.heap.size + 1]? = some (.cells #[.slice none 0 0, .slice none 0 0] 25 (0, 0))) := new_at _ _ _ (by simp)
    have hS : Hid (((w.alloc (.cells #[.slice aw nw cw, .slice ah nt ct] 25)).alloc (.cells #[.slice none 0 0, .slice none 0 0] 25)).heap.size = w.heap.size + 2) := by show _ = _; simp
    have hB1 : Hid (Below w.heap.size w ((w.alloc (.cells #[.slice aw nw cw, .slice ah nt ct] 25)).alloc (.cells #[.slice none 0 0, .slice none 0 0] 25))) := ((Below.refl _ _).alloc (Nat.le_refl _) _).alloc (by simp) _
    have y0 : ((w.alloc (.cells #[.slice aw nw cw, .slice ah nt ct] 25)).alloc (.cells #[.slice none 0 0, .slice none 0 0] 25)).cell? ⟨w.heap.size, 0, none⟩ = some (.slice aw nw cw) := cell_blk hL.out 0
    have ly : w.heap.size < ((w.alloc (.cells #[.slice aw nw cw, .slice ah nt ct] 25)).alloc (.cells #[.slice none 0 0, .slice none 0 0] 25)).heap.size := by simp; omega
    generalize (w.alloc (.cells #[.slice aw nw cw, .slice ah nt ct] 25)).alloc (.cells #[.slice none 0 0, .slice none 0 0] 25) = w1 at *
    have hA : Hid (Below w1.heap.size w1 (w1.alloc (.cells #[] 3))) := (Below.refl _ _).alloc (Nat.le_refl _) _
    have hl2 : Hid ((w1.alloc (.cells #[] 3)).heap[w.heap.size]? = some (.cells #[.slice aw nw cw, .slice ah nt ct] 25 (0, 0))) := (hA.out.block _ ly).trans hL.out
    have hr2' : Hid ((w1.alloc (.cells #[] 3)).heap[w.heap.size + 1]? = some (.cells #[.slice none 0 0, .slice none 0 0] 25 (0, 0))) := (hA.out.block _ (by have := hS.out; omega)).trans hR.out
    have hB2 : Hid (Below w.heap.size w (w1.alloc (.cells #[] 3))) := hB1.out.trans (hA.out.mono hB1.out.size)
    have hS2 : Hid ((w1.alloc (.cells #[] 3)).heap.size = w1.heap.size + 1) := by show _ = _; simp
    have hE : Hid (Has (w1.alloc (.cells #[] 3)) (fun k => w.heap.size + 2 ≤ k) 3 1 (.slice (some ⟨w1.heap.size, 0, none⟩) 0 0) 0 []) := ⟨by simp, .inr ⟨w1.heap.size, 0, #[], rfl, by have := hS.out; omega, new_at _ _ _ rfl, Nat.le_refl _, by decide, by simp, by simp⟩⟩
    by_cases h0 : nw = 0
    · have hws : l.ws = [] := List.eq_nil_of_length_eq_zero (by have := hli.out; omega)
      subst h0
      have hfin : Hid (Tw w ((w1.alloc (.cells #[] 3)).alloc (.cells #[.slice (some ⟨w1.heap.size, 0, none⟩) 0 0, .slice none 0 0] 25)) l #[.slice aw 0 cw, .slice ah nt ct] (w1.alloc (.cells #[] 3)).heap.size (some ⟨w1.heap.size, 0, none⟩) 0 0 0 (.slice none 0 0)) := Tw.start hl2.out hr2'.out (by have := hS2.out; have := hS.out; omega) (Nat.le_refl _) ⟨by rw [hws]; rfl, .inl hws⟩ (fun b o e => by cases e; have := hS2.out; have := hS.out; omega) hB2.out
      rw [hS2.out] at hfin
      replace hws := Mr.hid hws
      go_wp2_with (at_builtin; refine wpList_append_zero rfl _ _ 22 rfl 3 ii Tryd.underlying22 hii _ 0 0 (Nat.le_refl _) rfl _ _ rfl ?_)
      go_meet
      case rel => exact ⟨_, _, _, rfl, hfin.out⟩
    · have hne : l.ws ≠ [] := fun e => h0 (by have := hli.out; rw [e] at this; simpa using this)
      obtain ⟨g, o, rfl, hg, hc⟩ := (hI.out.below hB2.out).2.resolve_left hne
      have hnews : Hid (∀ j u, (intsV l.ws)[j]? = some u → (w1.alloc (.cells #[] 3)).cell? ((⟨g, o, none⟩ : Addr).add j) = some u) := fun j u hu => by
        rw [add1]
        simp only [intsV, List.getElem?_map] at hu
        cases hx : l.ws[j]? with
        | none => rw [hx] at hu; cases hu
        | some x => rw [hx] at hu; cases hu; exact hc j x hx
      have hnl : Hid ((intsV l.ws).length = nw * 1) := by show _ = _; rw [Nat.mul_one, hli.out]; simp [intsV]
      have hpos : 0 < nw := by omega
      clear hc hne
      go_wp2_with (at_builtin; refine wpList_append_has _ rfl _ _ 22 rfl (fun k => w.heap.size + 2 ≤ k) 3 ii (.int .i64 0) 1 8 Tryd.underlying22 hii hi0 hi1 hi2 rfl _ _ _ rfl hE.out ⟨g, o, none⟩ nw cw (intsV l.ws) rfl hnl.out hnews.out (intsV_one l.ws) hpos (by unfold maxLen; omega) (by omega) (by have := hS2.out; have := hS.out; omega) ?_; intro g2 cap2 w3 hh3 hgr hgg)
      have hB3 : Below (w.heap.size + 2) (w1.alloc (.cells #[] 3)) w3 := (Below.refl _ _).grown hgr (by have := hS2.out; have := hS.out; omega) (fun k hk => (hE.out.lt k hk).1)
      simp only [Nat.zero_add, List.nil_append] at hh3
      obtain ⟨g9, cp9, hv9, -, hg9, hc9, -⟩ := hh3.there hpos
      cases hv9
      have hfin : Hid (Tw w (w3.alloc (.cells #[.slice (some ⟨g2, 0, none⟩) nw cap2, .slice none 0 0] 25)) l #[.slice (some ⟨g, o, none⟩) nw cw, .slice ah nt ct] w3.heap.size (some ⟨g2, 0, none⟩) nw cap2 0 (.slice none 0 0)) := Tw.start ((hB3.block _ (by omega)).trans hl2.out) ((hB3.block _ (by omega)).trans hr2'.out) (by have := hB3.size; have := hS2.out; have := hS.out; omega) hc9 (IsAt.of hh3) (fun b o e => by cases e; exact ⟨(hh3.lt g2 rfl).1, hg9⟩) (hB2.out.trans (hB3.mono (by omega)))
      clear hh3 hgr hgg hB3
      go_meet
      case rel => exact ⟨_, _, _, rfl, hfin.out⟩
  case rest =>
    obtain ⟨bx, aw', cw', rfl, hTw⟩ := hcut
    have c0 := cell_blk hTw.lbx 1
    have l0 := (Array.getElem?_eq_some_iff.1 hTw.lbx).1
    generalize wc = w3 at *
    go_upto_region 3 with fail
    clear c0 l0
    go_loopg [4] nt (fun gk s4 wr => ∃ (i : Nat) (v : Value), s4 = .int .i64 (i : Int) ∧ i + gk = nt ∧ Tw w wr l #[.slice aw nw cw, .slice ah nt ct] bx aw' nw cw' i v)
    case atStart => exact ⟨0, _, rfl, by omega, hTw⟩
    case round =>
      obtain ⟨i, v, rfl, hi, hW⟩ := hrel
      have c0 := cell_blk hW.lbx 1
      have l0 := (Array.getElem?_eq_some_iff.1 hW.lbx).1
      clear hTw
      by_cases hltn : i < nt
      · have hlI : (i : Int) < (nt : Int) := by omega
        have dl : decide ((i : Int) < (nt : Int)) = true := by simpa using hlI
        have hli2 : i < l.th.length := by have := hlt.out; omega
        obtain ⟨x, hx⟩ : ∃ x, l.th[i]? = some x := ⟨l.th[i], List.getElem?_eq_getElem hli2⟩
        obtain ⟨g, o, a1, n1, k1, rfl, hg0, tc0, e1, hC0⟩ := hT.out.at hx
        have tc := (hW.bel.cell (p := ⟨g, o + i, none⟩) hg0).trans tc0
        have hC := Mr.hid (hC0.below hW.bel)
        have hg : g < wr.heap.size := Nat.lt_of_lt_of_le hg0 hW.bel.size
        obtain ⟨rv, hrow, hcd⟩ := hW.row
        obtain ⟨av, cv, rfl, hcv⟩ := hrow.form
        have xc := cell_blk hW.xbx 1
        have lx := (Array.getElem?_eq_some_iff.1 hW.xbx).1
        have hxz := hz3.out x (List.mem_of_getElem? hx)
        have hw : IntKind.i64.wrap ((i : Int) + 1) = (i : Int) + 1 := i64x _ (by omega) (by omega)
        have hi' := Mr.hid hi
        have hx' := Mr.hid hx
        replace hrow := Mr.hid hrow
        replace hcd := Mr.hid hcd
        have hW' := Mr.hid hW
        rw [← e1] at hxz
        have hB0 : Below wr.heap.size wr wr.drew := (Below.refl _ _).drew
        have hz0 : wr.drew.heap.size = wr.heap.size := rfl
        have hx0 : wr.drew.cell? ⟨bx, 1, none⟩ = some (.slice av i cv) := xc
        have hl0 : wr.drew.cell? ⟨w.heap.size, 1, none⟩ = some (.slice (some ⟨g, o, none⟩) nt ct) := c0
        have ht0 : wr.drew.cell? ⟨g, o + i, none⟩ = some (.slice a1 n1 k1) := tc
        clear hW hx hi hli2 e1 hC0 tc0
        go_upto_region 5 with fail
        clear dl
        refine wp_region_held_drew (S := (fun W => W.cell? ⟨w.heap.size, 1, none⟩ = some (.slice (some ⟨g, o, none⟩) nt ct) ∧ W.cell? ⟨g, o + i, none⟩ = some (.slice a1 n1 k1))) (by kernel_rfl) ⟨hl0, ht0⟩ (fun hHeld => ?_)
        generalize wr.drew = w0 at *
        refine wpAnyH_take (i := 0) (oi := (⟨_, _, _, _, _, _⟩ : Oper)) (v := ?_) rfl (by kernel_rfl) (by kernel_rfl) (by kernel_rfl) (fun _ _ _ h => h) (Or.inl ⟨by rfl, ?_⟩) (by assumption) ?_
        rotate_left
        · intro w9 hSw
          (try dsimp only at hSw)
          go_simp
          all_goals (with_reducible rfl)
        try simp only [Act.put, List.setIfInBounds_toArray, List.set_cons_zero, List.set_cons_succ]
        refine wpAnyH_take (i := 3) (oi := (⟨_, _, _, _, _, _⟩ : Oper)) (v := ?_) rfl (by kernel_rfl) (by kernel_rfl) (by kernel_rfl) (fun _ _ _ h => h) (Or.inl ⟨by rfl, ?_⟩) (by assumption) ?_
        rotate_left
        · intro w9 hSw
          (try dsimp only at hSw)
          go_simp
          all_goals (with_reducible rfl)
        try simp only [Act.put, List.setIfInBounds_toArray, List.set_cons_zero, List.set_cons_succ]
        refine wpAnyH_take (i := 4) (oi := (⟨_, _, _, _, _, _⟩ : Oper)) (v := ?_) rfl (by kernel_rfl) (by kernel_rfl) (by kernel_rfl) (fun _ _ _ h => h) (Or.inl ⟨by rfl, ?_⟩) (by assumption) ?_
        rotate_left
        · intro w9 hSw
          (try dsimp only at hSw)
          go_simp
          all_goals (with_reducible rfl)
        try simp only [Act.put, List.setIfInBounds_toArray, List.set_cons_zero, List.set_cons_succ]
        refine wpAnyH_take (i := 5) (oi := (⟨_, _, _, _, _, _⟩ : Oper)) (v := ?_) rfl (by kernel_rfl) (by kernel_rfl) (by kernel_rfl) (fun _ _ _ h => h) (Or.inl ⟨by rfl, ?_⟩) (by assumption) ?_
        rotate_left
        · intro w9 hSw
          (try dsimp only at hSw)
          go_simp
          all_goals (with_reducible rfl)
        try simp only [Act.put, List.setIfInBounds_toArray, List.set_cons_zero, List.set_cons_succ]
        refine wpAnyH_take (i := 6) (oi := (⟨_, _, _, _, _, _⟩ : Oper)) (v := ?_) rfl (by kernel_rfl) (by kernel_rfl) (by kernel_rfl) (fun _ _ _ h => h) (Or.inl ⟨by rfl, ?_⟩) (by assumption) ?_
        rotate_left
        · intro w9 hSw
          (try dsimp only at hSw)
          go_simp
          all_goals (with_reducible rfl)
        try simp only [Act.put, List.setIfInBounds_toArray, List.set_cons_zero, List.set_cons_succ]
        refine wpAnyH_take (i := 7) (oi := (⟨_, _, _, _, _, _⟩ : Oper)) (v := ?_) rfl (by kernel_rfl) (by kernel_rfl) (by kernel_rfl) (fun _ _ _ h => h) (Or.inl ⟨by rfl, ?_⟩) (by assumption) ?_
        rotate_left
        · intro w9 hSw
          (try dsimp only at hSw)
          go_simp
          all_goals (with_reducible rfl)
        try simp only [Act.put, List.setIfInBounds_toArray, List.set_cons_zero, List.set_cons_succ]
        refine wpAnyH_ready (rs := [1, 2]) (by kernel_rfl) (by simp) ?_
        refine AllReadyH.cons (o := (⟨_, _, _, _, _, _⟩ : Oper)) rfl (fun K hK => ?_) (AllReadyH.cons (o := (⟨_, _, _, _, _, _⟩ : Oper)) rfl (fun K hK => ?_) (AllReadyH.nil))
        · go_simp
          refine hK.out _ _ ⟨hl0, ht0⟩ (fun hHeld9 => ?_)
          clear hK K hHeld
          have hHeld := hHeld9
          clear hHeld9
          try simp only [Act.put, List.setIfInBounds_toArray, List.set_cons_zero, List.set_cons_succ]
          refine wpAnyH_ready (rs := [2]) (by kernel_rfl) (by simp) ?_
          refine AllReadyH.cons (o := (⟨_, _, _, _, _, _⟩ : Oper)) rfl (fun K hK => ?_) (AllReadyH.nil)
          go_simp
          have hBa : Below wr.heap.size wr (w0.alloc (.cells #[] 73)) := hB0.alloc (by rw [hz0]; exact Nat.le_refl _) _
          have hxa := (hBa.cell (p := ⟨bx, 1, none⟩) lx).trans xc
          have hla := (hBa.cell (p := ⟨w.heap.size, 1, none⟩) l0).trans c0
          have hta := (hBa.cell (p := ⟨g, o + i, none⟩) hg).trans tc
          have hEa : Has (w0.alloc (.cells #[] 73)) (fun k => wr.heap.size ≤ k) 73 7 (.slice (some ⟨wr.heap.size, 0, none⟩) 0 0) 0 [] := ⟨by simp, .inr ⟨wr.heap.size, 0, #[], rfl, Nat.le_refl _, new_at _ _ _ hz0.symm, Nat.le_refl _, by decide, by simp, by simp⟩⟩
          refine hK.out _ _ ⟨hla, hta⟩ (fun hHeld9 => ?_)
          clear hK K hHeld
          have hHeld := hHeld9
          clear hHeld9
          try simp only [Act.put, List.setIfInBounds_toArray, List.set_cons_zero, List.set_cons_succ]
          generalize (w0.alloc (.cells #[] 73)) = wa at *
          clear hx0 hl0 ht0
          refine wpAnyH_ready (rs := [8]) (by kernel_rfl) (by simp) ?_
          refine AllReadyH.cons (o := (⟨_, _, _, _, _, _⟩ : Oper)) rfl (fun K hK => ?_) (AllReadyH.nil)
          refine wp_append_code (.tmp 19) (.tmp 24) rfl wr.heap.size wr.heap.size rfl hEa a1 n1 k1 x rfl (hC.out.below hBa) hxz hBa.size ?_
          intro ga ca wb hCb hcb hgb hgl hBb
          have hBb2 : Below wr.heap.size wr wb := hBa.trans hBb
          have hxb := (hBb2.cell (p := ⟨bx, 1, none⟩) lx).trans xc
          have hlb := (hBb2.cell (p := ⟨w.heap.size, 1, none⟩) l0).trans c0
          have htb := (hBb2.cell (p := ⟨g, o + i, none⟩) hg).trans tc
          refine hK.out _ _ ⟨hlb, htb⟩ (fun hHeld9 => ?_)
          clear hK K hHeld
          have hHeld := hHeld9
          clear hHeld9
          try simp only [Act.put, List.setIfInBounds_toArray, List.set_cons_zero, List.set_cons_succ]
          clear hxa hla hta hEa hBb hBa
          refine wpAnyH_ready (rs := [9]) (by kernel_rfl) (by simp) ?_
          refine AllReadyH.cons (o := (⟨_, _, _, _, _, _⟩ : Oper)) rfl (fun K hK => ?_) (AllReadyH.nil)
          go_simp
          have hBc : Below wr.heap.size wr (wb.alloc (.cells #[.slice (some ⟨ga, 0, none⟩) n1 ca] 58)) := hBb2.alloc hBb2.size _
          have hxd := (hBc.cell (p := ⟨bx, 1, none⟩) lx).trans xc
          have hld := (hBc.cell (p := ⟨w.heap.size, 1, none⟩) l0).trans c0
          have htd := (hBc.cell (p := ⟨g, o + i, none⟩) hg).trans tc
          have hCc : CdAt (wb.alloc (.cells #[.slice (some ⟨ga, 0, none⟩) n1 ca] 58)) (some ⟨ga, 0, none⟩) n1 x := hCb.below ((Below.refl _ _).alloc (Nat.le_refl _) _)
          have hgc : ga < (wb.alloc (.cells #[.slice (some ⟨ga, 0, none⟩) n1 ca] 58)).heap.size := by simp; omega
          have hnw : (wb.alloc (.cells #[.slice (some ⟨ga, 0, none⟩) n1 ca] 58)).cell? ⟨wb.heap.size, 0, none⟩ = some (.slice (some ⟨ga, 0, none⟩) n1 ca) := cell_blk (new_at wb _ _ rfl) 0
          refine hK.out _ _ ⟨hld, htd⟩ (fun hHeld9 => ?_)
          clear hK K hHeld
          have hHeld := hHeld9
          clear hHeld9
          try simp only [Act.put, List.setIfInBounds_toArray, List.set_cons_zero, List.set_cons_succ]
          generalize (wb.alloc (.cells #[.slice (some ⟨ga, 0, none⟩) n1 ca] 58)) = wd at *
          generalize wb.heap.size = bn at *
          clear hxb hlb htb hCb hgl hBb2
          refine wpAnyH_ready (rs := [10]) (by kernel_rfl) (by simp) ?_
          refine AllReadyH.cons (o := (⟨_, _, _, _, _, _⟩ : Oper)) rfl (fun K hK => ?_) (AllReadyH.nil)
          refine wp_append_has _ (.tmp 18) (.tmp 26) 23 rfl (fun k => bx < k) 58 rr (.slice none 0 0) 1 24 Tryd.underlying23 hrr hr0 hr1 hr2 rfl _ i rv rfl (hrow.out.below hBc) ⟨bn, 0, none⟩ 1 1 [.slice (some ⟨ga, 0, none⟩) n1 ca] rfl rfl (by intro j u hj; match j, hj with | 0, hj => simp at hj; subst hj; rw [add1]; exact hnw) (by intro u hu; simp at hu; subst hu; rfl) (by decide) (by unfold maxLen; omega) (by omega) (by have := hBc.size; omega) ?_
          intro g4 cap4 w4 hh4 hgr4 hgg4
          have hTn := Tw.next hW'.out hx'.out hBc hCc hcb hgb hgc hrow.out hcd.out hgr4 hh4 hgg4
          have hB4 : Below (bx + 1) wd w4 := (Below.refl _ _).grown hgr4 (by have := hBc.size; omega) (fun k hk => (hrow.out.lt k hk).1)
          have hx4 : w4.heap[bx]? = some (.cells #[.slice aw' nw cw', .slice av i cv] 25 (0, 0)) := (hB4.block _ (by omega)).trans ((hBc.block _ lx).trans hW'.out.xbx)
          have hl4 := (hB4.cell (p := ⟨w.heap.size, 1, none⟩) (by show w.heap.size < bx + 1; have := hW'.out.hbx; omega)).trans hld
          have ht4 := (hB4.cell (p := ⟨g, o + i, none⟩) (by show g < bx + 1; have := hW'.out.hbx; omega)).trans htd
          refine hK.out _ _ ⟨hl4, ht4⟩ (fun hHeld9 => ?_)
          clear hK K hHeld
          have hHeld := hHeld9
          clear hHeld9
          try simp only [Act.put, List.setIfInBounds_toArray, List.set_cons_zero, List.set_cons_succ]
          have y0 := cell_blk hx4 0
          have y1 := cell_blk hx4 1
          have ly := (Array.getElem?_eq_some_iff.1 hx4).1
          have hfz : ∀ k, w4.frozen? ⟨bx, k, none⟩ = false := fun k => by simp [World.frozen?, hx4]
          replace hTn := Mr.hid hTn
          have hls : (w4.setCell ⟨bx, 1, none⟩ (.slice (some ⟨g4, 0, none⟩) (i + 1) cap4)).cell? ⟨w.heap.size, 1, none⟩ = some (.slice (some ⟨g, o, none⟩) nt ct) := (World.cell?_of_block (a := ⟨w.heap.size, 1, none⟩) (Below.heap_setCell _ _ _ _ (by show w.heap.size ≠ bx; have := hW'.out.hbx; omega))).trans hl4
          have hts : (w4.setCell ⟨bx, 1, none⟩ (.slice (some ⟨g4, 0, none⟩) (i + 1) cap4)).cell? ⟨g, o + i, none⟩ = some (.slice a1 n1 k1) := (World.cell?_of_block (a := ⟨g, o + i, none⟩) (Below.heap_setCell _ _ _ _ (by show g ≠ bx; have := hW'.out.hbx; omega))).trans ht4
          clear hh4 hgr4 hgg4 hB4 hnw hCc hxd hld htd
          refine wpAnyH_take (i := 11) (oi := (⟨_, _, _, _, _, _⟩ : Oper)) (v := ?_) rfl (by kernel_rfl) (by kernel_rfl) (by kernel_rfl) (fun _ _ _ h => h) (Or.inl ⟨by rfl, ?_⟩) (by assumption) ?_
          rotate_left
          · intro w9 hSw
            (try dsimp only at hSw)
            go_simp
            all_goals (with_reducible rfl)
          try simp only [Act.put, List.setIfInBounds_toArray, List.set_cons_zero, List.set_cons_succ]
          refine wpAnyH_ready (rs := [12]) (by kernel_rfl) (by simp) ?_
          refine AllReadyH.cons (o := (⟨_, _, _, _, _, _⟩ : Oper)) rfl (fun K hK => ?_) (AllReadyH.nil)
          go_simp
          refine hK.out _ _ ⟨hls, hts⟩ (fun hHeld9 => ?_)
          clear hK K hHeld
          have hHeld := hHeld9
          clear hHeld9
          try simp only [Act.put, List.setIfInBounds_toArray, List.set_cons_zero, List.set_cons_succ]
          refine wpAnyH_done (by kernel_rfl) ?_ _
          clear hHeld hls hts hl4 ht4 y0 y1 ly hfz hx4 xc c0 tc
          generalize w4.setCell ⟨bx, 1, none⟩ (.slice (some ⟨g4, 0, none⟩) (i + 1) cap4) = w5 at *
          go_wp2
          go_roundg (gk - 1)
          case measure => have := hi'.out; omega
          case rel => exact ⟨i + 1, _, by simp, by have := hi'.out; omega, hTn.out⟩
        · go_simp
          have hBa : Below wr.heap.size wr (w0.alloc (.cells #[] 73)) := hB0.alloc (by rw [hz0]; exact Nat.le_refl _) _
          have hxa := (hBa.cell (p := ⟨bx, 1, none⟩) lx).trans xc
          have hla := (hBa.cell (p := ⟨w.heap.size, 1, none⟩) l0).trans c0
          have hta := (hBa.cell (p := ⟨g, o + i, none⟩) hg).trans tc
          have hEa : Has (w0.alloc (.cells #[] 73)) (fun k => wr.heap.size ≤ k) 73 7 (.slice (some ⟨wr.heap.size, 0, none⟩) 0 0) 0 [] := ⟨by simp, .inr ⟨wr.heap.size, 0, #[], rfl, Nat.le_refl _, new_at _ _ _ hz0.symm, Nat.le_refl _, by decide, by simp, by simp⟩⟩
          refine hK.out _ _ ⟨hla, hta⟩ (fun hHeld9 => ?_)
          clear hK K hHeld
          have hHeld := hHeld9
          clear hHeld9
          try simp only [Act.put, List.setIfInBounds_toArray, List.set_cons_zero, List.set_cons_succ]
          generalize (w0.alloc (.cells #[] 73)) = wa at *
          clear hx0 hl0 ht0
          refine wpAnyH_ready (rs := [1, 8]) (by kernel_rfl) (by simp) ?_
          refine AllReadyH.cons (o := (⟨_, _, _, _, _, _⟩ : Oper)) rfl (fun K hK => ?_) (AllReadyH.cons (o := (⟨_, _, _, _, _, _⟩ : Oper)) rfl (fun K hK => ?_) (AllReadyH.nil))
          · go_simp
            refine hK.out _ _ ⟨hla, hta⟩ (fun hHeld9 => ?_)
            clear hK K hHeld
            have hHeld := hHeld9
            clear hHeld9
            try simp only [Act.put, List.setIfInBounds_toArray, List.set_cons_zero, List.set_cons_succ]
            refine wpAnyH_ready (rs := [8]) (by kernel_rfl) (by simp) ?_
            refine AllReadyH.cons (o := (⟨_, _, _, _, _, _⟩ : Oper)) rfl (fun K hK => ?_) (AllReadyH.nil)
            refine wp_append_code (.tmp 19) (.tmp 24) rfl wr.heap.size wr.heap.size rfl hEa a1 n1 k1 x rfl (hC.out.below hBa) hxz hBa.size ?_
            intro ga ca wb hCb hcb hgb hgl hBb
            have hBb2 : Below wr.heap.size wr wb := hBa.trans hBb
            have hxb := (hBb2.cell (p := ⟨bx, 1, none⟩) lx).trans xc
            have hlb := (hBb2.cell (p := ⟨w.heap.size, 1, none⟩) l0).trans c0
            have htb := (hBb2.cell (p := ⟨g, o + i, none⟩) hg).trans tc
            refine hK.out _ _ ⟨hlb, htb⟩ (fun hHeld9 => ?_)
            clear hK K hHeld
            have hHeld := hHeld9
            clear hHeld9
            try simp only [Act.put, List.setIfInBounds_toArray, List.set_cons_zero, List.set_cons_succ]
            clear hxa hla hta hEa hBb hBa
            refine wpAnyH_ready (rs := [9]) (by kernel_rfl) (by simp) ?_
            refine AllReadyH.cons (o := (⟨_, _, _, _, _, _⟩ : Oper)) rfl (fun K hK => ?_) (AllReadyH.nil)
            go_simp
            have hBc : Below wr.heap.size wr (wb.alloc (.cells #[.slice (some ⟨ga, 0, none⟩) n1 ca] 58)) := hBb2.alloc hBb2.size _
            have hxd := (hBc.cell (p := ⟨bx, 1, none⟩) lx).trans xc
            have hld := (hBc.cell (p := ⟨w.heap.size, 1, none⟩) l0).trans c0
            have htd := (hBc.cell (p := ⟨g, o + i, none⟩) hg).trans tc
            have hCc : CdAt (wb.alloc (.cells #[.slice (some ⟨ga, 0, none⟩) n1 ca] 58)) (some ⟨ga, 0, none⟩) n1 x := hCb.below ((Below.refl _ _).alloc (Nat.le_refl _) _)
            have hgc : ga < (wb.alloc (.cells #[.slice (some ⟨ga, 0, none⟩) n1 ca] 58)).heap.size := by simp; omega
            have hnw : (wb.alloc (.cells #[.slice (some ⟨ga, 0, none⟩) n1 ca] 58)).cell? ⟨wb.heap.size, 0, none⟩ = some (.slice (some ⟨ga, 0, none⟩) n1 ca) := cell_blk (new_at wb _ _ rfl) 0
            refine hK.out _ _ ⟨hld, htd⟩ (fun hHeld9 => ?_)
            clear hK K hHeld
            have hHeld := hHeld9
            clear hHeld9
            try simp only [Act.put, List.setIfInBounds_toArray, List.set_cons_zero, List.set_cons_succ]
            generalize (wb.alloc (.cells #[.slice (some ⟨ga, 0, none⟩) n1 ca] 58)) = wd at *
            generalize wb.heap.size = bn at *
            clear hxb hlb htb hCb hgl hBb2
            refine wpAnyH_ready (rs := [10]) (by kernel_rfl) (by simp) ?_
            refine AllReadyH.cons (o := (⟨_, _, _, _, _, _⟩ : Oper)) rfl (fun K hK => ?_) (AllReadyH.nil)
            refine wp_append_has _ (.tmp 18) (.tmp 26) 23 rfl (fun k => bx < k) 58 rr (.slice none 0 0) 1 24 Tryd.underlying23 hrr hr0 hr1 hr2 rfl _ i rv rfl (hrow.out.below hBc) ⟨bn, 0, none⟩ 1 1 [.slice (some ⟨ga, 0, none⟩) n1 ca] rfl rfl (by intro j u hj; match j, hj with | 0, hj => simp at hj; subst hj; rw [add1]; exact hnw) (by intro u hu; simp at hu; subst hu; rfl) (by decide) (by unfold maxLen; omega) (by omega) (by have := hBc.size; omega) ?_
            intro g4 cap4 w4 hh4 hgr4 hgg4
            have hTn := Tw.next hW'.out hx'.out hBc hCc hcb hgb hgc hrow.out hcd.out hgr4 hh4 hgg4
            have hB4 : Below (bx + 1) wd w4 := (Below.refl _ _).grown hgr4 (by have := hBc.size; omega) (fun k hk => (hrow.out.lt k hk).1)
            have hx4 : w4.heap[bx]? = some (.cells #[.slice aw' nw cw', .slice av i cv] 25 (0, 0)) := (hB4.block _ (by omega)).trans ((hBc.block _ lx).trans hW'.out.xbx)
            have hl4 := (hB4.cell (p := ⟨w.heap.size, 1, none⟩) (by show w.heap.size < bx + 1; have := hW'.out.hbx; omega)).trans hld
            have ht4 := (hB4.cell (p := ⟨g, o + i, none⟩) (by show g < bx + 1; have := hW'.out.hbx; omega)).trans htd
            refine hK.out _ _ ⟨hl4, ht4⟩ (fun hHeld9 => ?_)
            clear hK K hHeld
            have hHeld := hHeld9
            clear hHeld9
            try simp only [Act.put, List.setIfInBounds_toArray, List.set_cons_zero, List.set_cons_succ]
            have y0 := cell_blk hx4 0
            have y1 := cell_blk hx4 1
            have ly := (Array.getElem?_eq_some_iff.1 hx4).1
            have hfz : ∀ k, w4.frozen? ⟨bx, k, none⟩ = false := fun k => by simp [World.frozen?, hx4]
            replace hTn := Mr.hid hTn
            have hls : (w4.setCell ⟨bx, 1, none⟩ (.slice (some ⟨g4, 0, none⟩) (i + 1) cap4)).cell? ⟨w.heap.size, 1, none⟩ = some (.slice (some ⟨g, o, none⟩) nt ct) := (World.cell?_of_block (a := ⟨w.heap.size, 1, none⟩) (Below.heap_setCell _ _ _ _ (by show w.heap.size ≠ bx; have := hW'.out.hbx; omega))).trans hl4
            have hts : (w4.setCell ⟨bx, 1, none⟩ (.slice (some ⟨g4, 0, none⟩) (i + 1) cap4)).cell? ⟨g, o + i, none⟩ = some (.slice a1 n1 k1) := (World.cell?_of_block (a := ⟨g, o + i, none⟩) (Below.heap_setCell _ _ _ _ (by show g ≠ bx; have := hW'.out.hbx; omega))).trans ht4
            clear hh4 hgr4 hgg4 hB4 hnw hCc hxd hld htd
            refine wpAnyH_take (i := 11) (oi := (⟨_, _, _, _, _, _⟩ : Oper)) (v := ?_) rfl (by kernel_rfl) (by kernel_rfl) (by kernel_rfl) (fun _ _ _ h => h) (Or.inl ⟨by rfl, ?_⟩) (by assumption) ?_
            rotate_left
            · intro w9 hSw
              (try dsimp only at hSw)
              go_simp
              all_goals (with_reducible rfl)
            try simp only [Act.put, List.setIfInBounds_toArray, List.set_cons_zero, List.set_cons_succ]
            refine wpAnyH_ready (rs := [12]) (by kernel_rfl) (by simp) ?_
            refine AllReadyH.cons (o := (⟨_, _, _, _, _, _⟩ : Oper)) rfl (fun K hK => ?_) (AllReadyH.nil)
            go_simp
            refine hK.out _ _ ⟨hls, hts⟩ (fun hHeld9 => ?_)
            clear hK K hHeld
            have hHeld := hHeld9
            clear hHeld9
            try simp only [Act.put, List.setIfInBounds_toArray, List.set_cons_zero, List.set_cons_succ]
            refine wpAnyH_done (by kernel_rfl) ?_ _
            clear hHeld hls hts hl4 ht4 y0 y1 ly hfz hx4 xc c0 tc
            generalize w4.setCell ⟨bx, 1, none⟩ (.slice (some ⟨g4, 0, none⟩) (i + 1) cap4) = w5 at *
            go_wp2
            go_roundg (gk - 1)
            case measure => have := hi'.out; omega
            case rel => exact ⟨i + 1, _, by simp, by have := hi'.out; omega, hTn.out⟩
          · refine wp_append_code (.tmp 19) (.tmp 24) rfl wr.heap.size wr.heap.size rfl hEa a1 n1 k1 x rfl (hC.out.below hBa) hxz hBa.size ?_
            intro ga ca wb hCb hcb hgb hgl hBb
            have hBb2 : Below wr.heap.size wr wb := hBa.trans hBb
            have hxb := (hBb2.cell (p := ⟨bx, 1, none⟩) lx).trans xc
            have hlb := (hBb2.cell (p := ⟨w.heap.size, 1, none⟩) l0).trans c0
            have htb := (hBb2.cell (p := ⟨g, o + i, none⟩) hg).trans tc
            refine hK.out _ _ ⟨hlb, htb⟩ (fun hHeld9 => ?_)
            clear hK K hHeld
            have hHeld := hHeld9
            clear hHeld9
            try simp only [Act.put, List.setIfInBounds_toArray, List.set_cons_zero, List.set_cons_succ]
            clear hxa hla hta hEa hBb hBa
            refine wpAnyH_ready (rs := [1, 9]) (by kernel_rfl) (by simp) ?_
            refine AllReadyH.cons (o := (⟨_, _, _, _, _, _⟩ : Oper)) rfl (fun K hK => ?_) (AllReadyH.cons (o := (⟨_, _, _, _, _, _⟩ : Oper)) rfl (fun K hK => ?_) (AllReadyH.nil))
            · go_simp
              refine hK.out _ _ ⟨hlb, htb⟩ (fun hHeld9 => ?_)
              clear hK K hHeld
              have hHeld := hHeld9
              clear hHeld9
              try simp only [Act.put, List.setIfInBounds_toArray, List.set_cons_zero, List.set_cons_succ]
              refine wpAnyH_ready (rs := [9]) (by kernel_rfl) (by simp) ?_
              refine AllReadyH.cons (o := (⟨_, _, _, _, _, _⟩ : Oper)) rfl (fun K hK => ?_) (AllReadyH.nil)
              go_simp
              have hBc : Below wr.heap.size wr (wb.alloc (.cells #[.slice (some ⟨ga, 0, none⟩) n1 ca] 58)) := hBb2.alloc hBb2.size _
              have hxd := (hBc.cell (p := ⟨bx, 1, none⟩) lx).trans xc
              have hld := (hBc.cell (p := ⟨w.heap.size, 1, none⟩) l0).trans c0
              have htd := (hBc.cell (p := ⟨g, o + i, none⟩) hg).trans tc
              have hCc : CdAt (wb.alloc (.cells #[.slice (some ⟨ga, 0, none⟩) n1 ca] 58)) (some ⟨ga, 0, none⟩) n1 x := hCb.below ((Below.refl _ _).alloc (Nat.le_refl _) _)
              have hgc : ga < (wb.alloc (.cells #[.slice (some ⟨ga, 0, none⟩) n1 ca] 58)).heap.size := by simp; omega
              have hnw : (wb.alloc (.cells #[.slice (some ⟨ga, 0, none⟩) n1 ca] 58)).cell? ⟨wb.heap.size, 0, none⟩ = some (.slice (some ⟨ga, 0, none⟩) n1 ca) := cell_blk (new_at wb _ _ rfl) 0
              refine hK.out _ _ ⟨hld, htd⟩ (fun hHeld9 => ?_)
              clear hK K hHeld
              have hHeld := hHeld9
              clear hHeld9
              try simp only [Act.put, List.setIfInBounds_toArray, List.set_cons_zero, List.set_cons_succ]
              generalize (wb.alloc (.cells #[.slice (some ⟨ga, 0, none⟩) n1 ca] 58)) = wd at *
              generalize wb.heap.size = bn at *
              clear hxb hlb htb hCb hgl hBb2
              refine wpAnyH_ready (rs := [10]) (by kernel_rfl) (by simp) ?_
              refine AllReadyH.cons (o := (⟨_, _, _, _, _, _⟩ : Oper)) rfl (fun K hK => ?_) (AllReadyH.nil)
              refine wp_append_has _ (.tmp 18) (.tmp 26) 23 rfl (fun k => bx < k) 58 rr (.slice none 0 0) 1 24 Tryd.underlying23 hrr hr0 hr1 hr2 rfl _ i rv rfl (hrow.out.below hBc) ⟨bn, 0, none⟩ 1 1 [.slice (some ⟨ga, 0, none⟩) n1 ca] rfl rfl (by intro j u hj; match j, hj with | 0, hj => simp at hj; subst hj; rw [add1]; exact hnw) (by intro u hu; simp at hu; subst hu; rfl) (by decide) (by unfold maxLen; omega) (by omega) (by have := hBc.size; omega) ?_
              intro g4 cap4 w4 hh4 hgr4 hgg4
              have hTn := Tw.next hW'.out hx'.out hBc hCc hcb hgb hgc hrow.out hcd.out hgr4 hh4 hgg4
              have hB4 : Below (bx + 1) wd w4 := (Below.refl _ _).grown hgr4 (by have := hBc.size; omega) (fun k hk => (hrow.out.lt k hk).1)
              have hx4 : w4.heap[bx]? = some (.cells #[.slice aw' nw cw', .slice av i cv] 25 (0, 0)) := (hB4.block _ (by omega)).trans ((hBc.block _ lx).trans hW'.out.xbx)
              have hl4 := (hB4.cell (p := ⟨w.heap.size, 1, none⟩) (by show w.heap.size < bx + 1; have := hW'.out.hbx; omega)).trans hld
              have ht4 := (hB4.cell (p := ⟨g, o + i, none⟩) (by show g < bx + 1; have := hW'.out.hbx; omega)).trans htd
              refine hK.out _ _ ⟨hl4, ht4⟩ (fun hHeld9 => ?_)
              clear hK K hHeld
              have hHeld := hHeld9
              clear hHeld9
              try simp only [Act.put, List.setIfInBounds_toArray, List.set_cons_zero, List.set_cons_succ]
              have y0 := cell_blk hx4 0
              have y1 := cell_blk hx4 1
              have ly := (Array.getElem?_eq_some_iff.1 hx4).1
              have hfz : ∀ k, w4.frozen? ⟨bx, k, none⟩ = false := fun k => by simp [World.frozen?, hx4]
              replace hTn := Mr.hid hTn
              have hls : (w4.setCell ⟨bx, 1, none⟩ (.slice (some ⟨g4, 0, none⟩) (i + 1) cap4)).cell? ⟨w.heap.size, 1, none⟩ = some (.slice (some ⟨g, o, none⟩) nt ct) := (World.cell?_of_block (a := ⟨w.heap.size, 1, none⟩) (Below.heap_setCell _ _ _ _ (by show w.heap.size ≠ bx; have := hW'.out.hbx; omega))).trans hl4
              have hts : (w4.setCell ⟨bx, 1, none⟩ (.slice (some ⟨g4, 0, none⟩) (i + 1) cap4)).cell? ⟨g, o + i, none⟩ = some (.slice a1 n1 k1) := (World.cell?_of_block (a := ⟨g, o + i, none⟩) (Below.heap_setCell _ _ _ _ (by show g ≠ bx; have := hW'.out.hbx; omega))).trans ht4
              clear hh4 hgr4 hgg4 hB4 hnw hCc hxd hld htd
              refine wpAnyH_take (i := 11) (oi := (⟨_, _, _, _, _, _⟩ : Oper)) (v := ?_) rfl (by kernel_rfl) (by kernel_rfl) (by kernel_rfl) (fun _ _ _ h => h) (Or.inl ⟨by rfl, ?_⟩) (by assumption) ?_
              rotate_left
              · intro w9 hSw
                (try dsimp only at hSw)
                go_simp
                all_goals (with_reducible rfl)
              try simp only [Act.put, List.setIfInBounds_toArray, List.set_cons_zero, List.set_cons_succ]
              refine wpAnyH_ready (rs := [12]) (by kernel_rfl) (by simp) ?_
              refine AllReadyH.cons (o := (⟨_, _, _, _, _, _⟩ : Oper)) rfl (fun K hK => ?_) (AllReadyH.nil)
              go_simp
              refine hK.out _ _ ⟨hls, hts⟩ (fun hHeld9 => ?_)
              clear hK K hHeld
              have hHeld := hHeld9
              clear hHeld9
              try simp only [Act.put, List.setIfInBounds_toArray, List.set_cons_zero, List.set_cons_succ]
              refine wpAnyH_done (by kernel_rfl) ?_ _
              clear hHeld hls hts hl4 ht4 y0 y1 ly hfz hx4 xc c0 tc
              generalize w4.setCell ⟨bx, 1, none⟩ (.slice (some ⟨g4, 0, none⟩) (i + 1) cap4) = w5 at *
              go_wp2
              go_roundg (gk - 1)
              case measure => have := hi'.out; omega
              case rel => exact ⟨i + 1, _, by simp, by have := hi'.out; omega, hTn.out⟩
            · go_simp
              have hBc : Below wr.heap.size wr (wb.alloc (.cells #[.slice (some ⟨ga, 0, none⟩) n1 ca] 58)) := hBb2.alloc hBb2.size _
              have hxd := (hBc.cell (p := ⟨bx, 1, none⟩) lx).trans xc
              have hld := (hBc.cell (p := ⟨w.heap.size, 1, none⟩) l0).trans c0
              have htd := (hBc.cell (p := ⟨g, o + i, none⟩) hg).trans tc
              have hCc : CdAt (wb.alloc (.cells #[.slice (some ⟨ga, 0, none⟩) n1 ca] 58)) (some ⟨ga, 0, none⟩) n1 x := hCb.below ((Below.refl _ _).alloc (Nat.le_refl _) _)
              have hgc : ga < (wb.alloc (.cells #[.slice (some ⟨ga, 0, none⟩) n1 ca] 58)).heap.size := by simp; omega
              have hnw : (wb.alloc (.cells #[.slice (some ⟨ga, 0, none⟩) n1 ca] 58)).cell? ⟨wb.heap.size, 0, none⟩ = some (.slice (some ⟨ga, 0, none⟩) n1 ca) := cell_blk (new_at wb _ _ rfl) 0
              refine hK.out _ _ ⟨hld, htd⟩ (fun hHeld9 => ?_)
              clear hK K hHeld
              have hHeld := hHeld9
              clear hHeld9
              try simp only [Act.put, List.setIfInBounds_toArray, List.set_cons_zero, List.set_cons_succ]
              generalize (wb.alloc (.cells #[.slice (some ⟨ga, 0, none⟩) n1 ca] 58)) = wd at *
              generalize wb.heap.size = bn at *
              clear hxb hlb htb hCb hgl hBb2
              refine wpAnyH_ready (rs := [1]) (by kernel_rfl) (by simp) ?_
              refine AllReadyH.cons (o := (⟨_, _, _, _, _, _⟩ : Oper)) rfl (fun K hK => ?_) (AllReadyH.nil)
              go_simp
              refine hK.out _ _ ⟨hld, htd⟩ (fun hHeld9 => ?_)
              clear hK K hHeld
              have hHeld := hHeld9
              clear hHeld9
              try simp only [Act.put, List.setIfInBounds_toArray, List.set_cons_zero, List.set_cons_succ]
              refine wpAnyH_ready (rs := [10]) (by kernel_rfl) (by simp) ?_
              refine AllReadyH.cons (o := (⟨_, _, _, _, _, _⟩ : Oper)) rfl (fun K hK => ?_) (AllReadyH.nil)
              refine wp_append_has _ (.tmp 18) (.tmp 26) 23 rfl (fun k => bx < k) 58 rr (.slice none 0 0) 1 24 Tryd.underlying23 hrr hr0 hr1 hr2 rfl _ i rv rfl (hrow.out.below hBc) ⟨bn, 0, none⟩ 1 1 [.slice (some ⟨ga, 0, none⟩) n1 ca] rfl rfl (by intro j u hj; match j, hj with | 0, hj => simp at hj; subst hj; rw [add1]; exact hnw) (by intro u hu; simp at hu; subst hu; rfl) (by decide) (by unfold maxLen; omega) (by omega) (by have := hBc.size; omega) ?_
              intro g4 cap4 w4 hh4 hgr4 hgg4
              have hTn := Tw.next hW'.out hx'.out hBc hCc hcb hgb hgc hrow.out hcd.out hgr4 hh4 hgg4
              have hB4 : Below (bx + 1) wd w4 := (Below.refl _ _).grown hgr4 (by have := hBc.size; omega) (fun k hk => (hrow.out.lt k hk).1)
              have hx4 : w4.heap[bx]? = some (.cells #[.slice aw' nw cw', .slice av i cv] 25 (0, 0)) := (hB4.block _ (by omega)).trans ((hBc.block _ lx).trans hW'.out.xbx)
              have hl4 := (hB4.cell (p := ⟨w.heap.size, 1, none⟩) (by show w.heap.size < bx + 1; have := hW'.out.hbx; omega)).trans hld
              have ht4 := (hB4.cell (p := ⟨g, o + i, none⟩) (by show g < bx + 1; have := hW'.out.hbx; omega)).trans htd
              refine hK.out _ _ ⟨hl4, ht4⟩ (fun hHeld9 => ?_)
              clear hK K hHeld
              have hHeld := hHeld9
              clear hHeld9
              try simp only [Act.put, List.setIfInBounds_toArray, List.set_cons_zero, List.set_cons_succ]
              have y0 := cell_blk hx4 0
              have y1 := cell_blk hx4 1
              have ly := (Array.getElem?_eq_some_iff.1 hx4).1
              have hfz : ∀ k, w4.frozen? ⟨bx, k, none⟩ = false := fun k => by simp [World.frozen?, hx4]
              replace hTn := Mr.hid hTn
              have hls : (w4.setCell ⟨bx, 1, none⟩ (.slice (some ⟨g4, 0, none⟩) (i + 1) cap4)).cell? ⟨w.heap.size, 1, none⟩ = some (.slice (some ⟨g, o, none⟩) nt ct) := (World.cell?_of_block (a := ⟨w.heap.size, 1, none⟩) (Below.heap_setCell _ _ _ _ (by show w.heap.size ≠ bx; have := hW'.out.hbx; omega))).trans hl4
              have hts : (w4.setCell ⟨bx, 1, none⟩ (.slice (some ⟨g4, 0, none⟩) (i + 1) cap4)).cell? ⟨g, o + i, none⟩ = some (.slice a1 n1 k1) := (World.cell?_of_block (a := ⟨g, o + i, none⟩) (Below.heap_setCell _ _ _ _ (by show g ≠ bx; have := hW'.out.hbx; omega))).trans ht4
              clear hh4 hgr4 hgg4 hB4 hnw hCc hxd hld htd
              refine wpAnyH_take (i := 11) (oi := (⟨_, _, _, _, _, _⟩ : Oper)) (v := ?_) rfl (by kernel_rfl) (by kernel_rfl) (by kernel_rfl) (fun _ _ _ h => h) (Or.inl ⟨by rfl, ?_⟩) (by assumption) ?_
              rotate_left
              · intro w9 hSw
                (try dsimp only at hSw)
                go_simp
                all_goals (with_reducible rfl)
              try simp only [Act.put, List.setIfInBounds_toArray, List.set_cons_zero, List.set_cons_succ]
              refine wpAnyH_ready (rs := [12]) (by kernel_rfl) (by simp) ?_
              refine AllReadyH.cons (o := (⟨_, _, _, _, _, _⟩ : Oper)) rfl (fun K hK => ?_) (AllReadyH.nil)
              go_simp
              refine hK.out _ _ ⟨hls, hts⟩ (fun hHeld9 => ?_)
              clear hK K hHeld
              have hHeld := hHeld9
              clear hHeld9
              try simp only [Act.put, List.setIfInBounds_toArray, List.set_cons_zero, List.set_cons_succ]
              refine wpAnyH_done (by kernel_rfl) ?_ _
              clear hHeld hls hts hl4 ht4 y0 y1 ly hfz hx4 xc c0 tc
              generalize w4.setCell ⟨bx, 1, none⟩ (.slice (some ⟨g4, 0, none⟩) (i + 1) cap4) = w5 at *
              go_wp2
              go_roundg (gk - 1)
              case measure => have := hi'.out; omega
              case rel => exact ⟨i + 1, _, by simp, by have := hi'.out; omega, hTn.out⟩
      · obtain rfl : i = nt := by omega
        have dl : decide ((i : Int) < (i : Int)) = false := by simp
        have dl2 : ¬ (i : Int) < (i : Int) := by omega
        have hvf : ∃ av cv, v = .slice av i cv ∧ i ≤ cv := by
          obtain ⟨rv, hrow, -⟩ := hW.row
          obtain ⟨av, cv, h1, h2⟩ := hrow.form
          exact ⟨av, cv, h1, h2⟩
        obtain ⟨av, cv, rfl, hcv⟩ := hvf
        have x0 := cell_blk hW.xbx 0
        have x1 := cell_blk hW.xbx 1
        have lx := (Array.getElem?_eq_some_iff.1 hW.xbx).1
        have r0 := cell_blk hW.rbx 0
        have r1 := cell_blk hW.rbx 1
        have lr := (Array.getElem?_eq_some_iff.1 hW.rbx).1
        have rb := hW.rbx
        have hfz : ∀ k, wr.frozen? ⟨w.heap.size + 1, k, none⟩ = false := fun k => by simp [World.frozen?, rb]
        have hfin : Hid (IsAt ((wr.setCell ⟨w.heap.size + 1, 0, none⟩ (.slice aw' nw cw')).setCell ⟨w.heap.size + 1, 1, none⟩ (.slice av i cv)) aw' nw l.ws ∧ ThAt ((wr.setCell ⟨w.heap.size + 1, 0, none⟩ (.slice aw' nw cw')).setCell ⟨w.heap.size + 1, 1, none⟩ (.slice av i cv)) av i l.th) := Tw.done hW hlt.out (by simp) (fun k hk => (Below.heap_setCell _ _ _ _ (by show k ≠ w.heap.size + 1; omega)).trans (Below.heap_setCell _ _ _ _ (by show k ≠ w.heap.size + 1; omega)))
        have hBf : Hid (Below w.heap.size w ((wr.setCell ⟨w.heap.size + 1, 0, none⟩ (.slice aw' nw cw')).setCell ⟨w.heap.size + 1, 1, none⟩ (.slice av i cv))) := (hW.bel.setCell (p := ⟨w.heap.size + 1, 0, none⟩) (by show _ ≤ w.heap.size + 1; omega) _).setCell (p := ⟨w.heap.size + 1, 1, none⟩) (by show _ ≤ w.heap.size + 1; omega) _
        have hcw := Mr.hid hW.cap
        have hne : w.heap.size + 1 ≠ bx := by have := hW.hbx; omega
        clear hW rb hi hltn
        go_wp2
        refine bodyPost_ret (v := .agg #[.slice aw' nw cw', .slice av i cv]) (by simp [results, Tryd.results5, go_sem, *]) rfl ⟨_, _, _, _, rfl, hfin.out.1, hfin.out.2, hcw.out, hcv, hBf.out⟩
end Go.Proofs.YtmejblmeaipahaaDoor.Ts
/-
  TSO: the document's see.
-/
namespace Go.Proofs.YtmejblmeaipahaaDoor.Ts
open Go.RowKit Mr
set_option linter.unusedVariables false
set_option linter.unusedSimpArgs false
set_option maxRecDepth 100000
/-- What a thread sees in a word: its newest store to it, or the word. -/
def seeP (v : Int) (b : List Pd) (ad : Int) : Int := b.foldl (fun v p => if p.ad = ad then p.vl else v) v
theorem seeP_snoc (v : Int) (b : List Pd) (p : Pd) (ad : Int) : seeP v (b ++ [p]) ad = if p.ad = ad then p.vl else seeP v b ad := by simp [seeP]
/-- A state behind a pointer. -/
structure StAt (W : World) (p : Nat) (s : Sv) (nw nt : Nat) : Prop where
  ex : ∃ a1 c1 a2 c2 a3 c3 a4 c4, W.heap[p]? = some (.cells #[.slice a1 nw c1, .slice a2 nt c2, .slice a3 nt c3, .slice a4 nt c4] 32 (0, 0)) ∧ IsAt W a1 nw s.ws ∧ RgAt W a2 nt s.rg ∧ IsAt W a3 nt s.pl ∧ BfAt W a4 nt s.bf
set_option maxHeartbeats 8000000 in
theorem see_any (s : Sv) (p nw nt t ad : Nat) (v : Int) (b : List Pd) (w : World) (h : StAt w p s nw nt) (hv : s.ws[ad]? = some v) (hb : s.bf[t]? = some b) (hbl : b.length ≤ 1000000) (htl : t ≤ 1000000) (hal : ad ≤ 1000000) :
    Calls Tryd.prog 33 #[.pointer (some ⟨p, 0, none⟩), .int .i64 (t : Int), .int .i64 (ad : Int)] w fun e w' => e = .returned (.int .i64 (seeP v b (ad : Int))) ∧ w' = w := by
  obtain ⟨a1, c1, a2, c2, a3, c3, a4, c4, hbx, i1, i2, i3, i4⟩ := h.ex
  have x0 := cell_blk hbx 0
  have x3 := cell_blk hbx 3
  have lx := (Array.getElem?_eq_some_iff.1 hbx).1
  have had : ad < nw := by have := (List.getElem?_eq_some_iff.1 hv).1; have := i1.1; omega
  have htn : t < nt := by have := (List.getElem?_eq_some_iff.1 hb).1; have := i4.1; omega
  obtain ⟨g1, o1, rfl, hg1, hc1⟩ := i1.2.resolve_left (by intro e; rw [e] at hv; simp at hv)
  have y0 := hc1 ad v hv
  obtain ⟨g, o, a', n', k', rfl, hg, m0, hnl, hC⟩ := i4.at hb
  have hadI : (ad : Int) < (nw : Int) := by omega
  have htI : (t : Int) < (nt : Int) := by omega
  have hn'b : n' ≤ 1000000 := by omega
  replace hnl := Mr.hid hnl
  replace hC := Mr.hid hC
  clear h i1 i2 i3 i4 hc1 hv hb hbx hbl
  go_enter Tryd.func33, Tryd.ntmps33
  go_upto_region 3 with fail
  clear y0 hg1 x0
  go_loopg [7, 8] n' (fun gk s7 s8 wr => ∃ k : Nat, s7 = .int .i64 (seeP v (b.take k) (ad : Int)) ∧ s8 = .int .i64 (k : Int) ∧ k + gk = n' ∧ w = wr)
  case atStart => exact ⟨0, rfl, rfl, by omega, rfl⟩
  case round =>
    obtain ⟨k, rfl, rfl, hk, hww⟩ := hrel
    obtain rfl := hww
    by_cases hkl : k < n'
    · have hkx : k < b.length := by have := hnl.out; omega
      obtain ⟨y, hy⟩ : ∃ y, b[k]? = some y := ⟨b[k], List.getElem?_eq_getElem hkx⟩
      obtain ⟨f1, q1, rfl, hf1, hcc⟩ := hC.out.2.resolve_left (by intro e; rw [e] at hkx; simp at hkx)
      obtain ⟨u0, u9⟩ := hcc k y hy
      have U0 := u0
      have hts := Mr.hid (take_succ_of hy)
      have hkI : (k : Int) < (n' : Int) := by omega
      have dk : decide ((k : Int) < (n' : Int)) = true := by simpa using hkI
      have hwk : IntKind.i64.wrap ((k : Int) + 1) = (k : Int) + 1 := i64x _ (by omega) (by omega)
      have hk' := Mr.hid hk
      have hsn := seeP_snoc v (b.take k) y (ad : Int)
      rw [← hts.out] at hsn
      replace hsn := Mr.hid hsn
      generalize seeP v (b.take k) (ad : Int) = cur at *
      obtain ⟨pa, pv⟩ := y
      dsimp only at U0 u9
      clear u0 hcc hy hkx hk
      by_cases he : pa = (ad : Int)
      · have q : (pa == (ad : Int)) = true := by rw [he]; simp
        have hnx : Hid (seeP v (b.take (k + 1)) (ad : Int) = pv) := by have h := hsn.out; rw [if_pos he] at h; exact h
        clear hsn
        go_wp2
        go_roundg (gk - 1)
        case measure => have := hk'.out; omega
        case rel => exact ⟨k + 1, by rw [hnx.out], by simp, by have := hk'.out; omega, rfl⟩
      · have q : (pa == (ad : Int)) = false := beq_eq_false_iff_ne.2 he
        have hnx : Hid (seeP v (b.take (k + 1)) (ad : Int) = cur) := by have h := hsn.out; rw [if_neg he] at h; exact h
        clear hsn
        go_wp2
        go_roundg (gk - 1)
        case measure => have := hk'.out; omega
        case rel => exact ⟨k + 1, by rw [hnx.out], by simp, by have := hk'.out; omega, rfl⟩
    · have hfin : b.take k = b := List.take_of_length_le (by have := hnl.out; omega)
      have dk : decide ((k : Int) < (n' : Int)) = false := decide_eq_false (by omega)
      have dk2 : ¬ (k : Int) < (n' : Int) := by omega
      rw [hfin]
      generalize hcur : seeP v b (ad : Int) = cur
      replace hcur := Mr.hid hcur
      clear hk hkl hfin
      go_wp2
      go_ret
      exact ⟨by rw [hcur.out]; rfl, rfl⟩
end Go.Proofs.YtmejblmeaipahaaDoor.Ts
