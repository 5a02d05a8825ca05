import Derived.Test.YtmejblmeaipahaaDoorJ39
import Derived.Test.YtmejblmeaipahaaDoorJ22
import Derived.Test.YtmejblmeaipahaaDoorJ43
/-
  TSO: the law of steps, a program that may not be.
-/
namespace Go.Proofs.YtmejblmeaipahaaDoor.Ts
open Go.RowKit Mr
set_option linter.unusedVariables false
set_option linter.unusedSimpArgs false
set_option maxRecDepth 100000
set_option maxHeartbeats 32000000 in
theorem steps_N (aw : Option Addr) (nw cw : Nat) (ah : Option Addr) (nt ct : Nat) (l : Lt) (o : Int) (a0 : Option Addr) (n0 k0 : Nat) (a1 : Option Addr) (n1 k1 : Nat) (a2 : Option Addr) (n2 k2 : Nat) (a3 : Option Addr) (n3 k3 : Nat) (s : Sv) (t : Tn) (w : World) (hI : IsAt w aw nw l.ws) (hT : ThAt w ah nt l.th) (hz1 : nw * 8 ≤ 140737488351232) (hz2 : nt * 24 ≤ 140737488351232) (hz3 : ∀ c ∈ l.th, c.length * 56 ≤ 140737488351232) (h0 : IsAt w a0 n0 s.ws) (h1 : RgAt w a1 n1 s.rg) (h2 : IsAt w a2 n2 s.pl) (h3 : BfAt w a3 n3 s.bf) (y0 : n0 * 8 ≤ 140737488351232) (y1 : n1 * 32 ≤ 140737488351232) (y2 : n2 * 8 ≤ 140737488351232) (y3 : n3 * 24 ≤ 140737488351232) (y4 : ∀ b ∈ s.bf, b.length * 16 ≤ 140737488351232) (E : Env w) (hc : chkB l = false) :
    Calls Tryd.prog 4 #[.agg #[.slice aw nw cw, .slice ah nt ct], .int .i64 o, .agg #[.slice a0 n0 k0, .slice a1 n1 k1, .slice a2 n2 k2, .slice a3 n3 k3], tnV t] w fun e w' => e = .returned (.bool true) ∧ Below w.heap.size w w' := by
  have B0 := bxS_below w aw ah nw cw nt ct #[.slice a0 n0 k0, .slice a1 n1 k1, .slice a2 n2 k2, .slice a3 n3 k3] t
  have b0 := bxS_0 w aw ah nw cw nt ct #[.slice a0 n0 k0, .slice a1 n1 k1, .slice a2 n2 k2, .slice a3 n3 k3] t
  have b1 := bxS_1 w aw ah nw cw nt ct #[.slice a0 n0 k0, .slice a1 n1 k1, .slice a2 n2 k2, .slice a3 n3 k3] t
  have b2 := bxS_2 w aw ah nw cw nt ct #[.slice a0 n0 k0, .slice a1 n1 k1, .slice a2 n2 k2, .slice a3 n3 k3] t
  have li := hI.1
  have lt := hT.1
  have l0 := h0.1
  have l1 := h1.1
  have l2 := h2.1
  have l3 := h3.1
  have TW := Mr.hid (twin_any l aw nw cw ah nt ct _ (hI.below B0) (hT.below B0) hz1 hz2 hz3)
  have CK : Hid (∀ (W : World) (aw' ah' : Option Addr) (cw' ct' : Nat), Below w.heap.size w W → IsAt W aw' nw l.ws → ThAt W ah' nt l.th → Calls Tryd.prog 12 #[.agg #[.slice aw' nw cw', .slice ah' nt ct']] W fun e w' => e = .returned (.int .i64 190) ∧ Below W.heap.size W w') := fun W aw' ah' cw' ct' hW i1 i2 => by
    have := Check_any l aw' nw cw' ah' nt ct' W (E.below hW) i1.1 i2
    rw [hc] at this; exact this
  have RC : Hid (∀ (W : World), Below w.heap.size w W → Calls Tryd.prog 13 #[.agg #[.slice aw nw cw, .slice ah nt ct]] W fun e w' => e = .returned (.bool false) ∧ Below W.heap.size W w') := fun W hW => by
    have := rCheck_any l aw nw cw ah nt ct W hI.1 (hT.below hW)
    rw [hc] at this; exact this
  have BG : Hid (∀ (W : World) (aw' ah' : Option Addr) (cw' ct' : Nat), Below w.heap.size w W → IsAt W aw' nw l.ws → ThAt W ah' nt l.th → Calls Tryd.prog 14 #[.agg #[.slice aw' nw cw', .slice ah' nt ct']] W fun e w' => BegP l W w' e) := fun W aw' ah' cw' ct' hW i1 i2 => Begin_any l aw' ah' nw cw' nt ct' W (E.below hW) i1 i2
  have CP : Hid (∀ (W : World), Below w.heap.size w W → Calls Tryd.prog 16 #[.agg #[.slice a0 n0 k0, .slice a1 n1 k1, .slice a2 n2 k2, .slice a3 n3 k3]] W fun e w' => ∃ b0 c0 b1 c1 b2 c2 b3 c3 m0 m1 m2, e = .returned (.agg #[.slice b0 n0 c0, .slice b1 n1 c1, .slice b2 n2 c2, .slice b3 n3 c3]) ∧ CpO W w' s n0 n1 n2 n3 b0 c0 b1 c1 b2 c2 b3 c3 m0 m1 m2) := fun W hW => rCopy_any s a0 n0 k0 a1 n1 k1 a2 n2 k2 a3 n3 k3 W (h0.below hW) (h1.below hW) (h2.below hW) (h3.below hW) y0 y1 y2 y3 y4
  have SG : Hid (∀ (W : World) (b0 b1 b2 b3 : Option Addr) (c0 c1 c2 c3 : Nat), Below w.heap.size w W → IsAt W b0 n0 s.ws → RgAt W b1 n1 s.rg → IsAt W b2 n2 s.pl → BfAt W b3 n3 s.bf → Calls Tryd.prog 8 #[.agg #[.slice b0 n0 c0, .slice b1 n1 c1, .slice b2 n2 c2, .slice b3 n3 c3], .agg #[.slice a0 n0 k0, .slice a1 n1 k1, .slice a2 n2 k2, .slice a3 n3 k3]] W fun e w' => e = .returned (.bool true) ∧ Below W.heap.size W w') := fun W b0 b1 b2 b3 c0 c1 c2 c3 hW i0 i1 i2 i3 => sameState_eq s _ _ n0 n1 n2 n3 W ⟨_, _, _, _, _, _, _, _, rfl, i0, i1, i2, i3⟩ ⟨_, _, _, _, _, _, _, _, rfl, h0.below hW, h1.below hW, h2.below hW, h3.below hW⟩ (by omega) (by omega) (by omega) (by omega) (fun b hb => by have := y4 b hb; omega)
  have SL : Hid (∀ (W : World) (aw' ah' : Option Addr) (cw' ct' : Nat), Below w.heap.size w W → IsAt W aw' nw l.ws → ThAt W ah' nt l.th → Calls Tryd.prog 10 #[.agg #[.slice aw' nw cw', .slice ah' nt ct'], .agg #[.slice aw nw cw, .slice ah nt ct]] W fun e w' => e = .returned (.bool true) ∧ Below W.heap.size W w') := fun W aw' ah' cw' ct' hW i1 i2 => sameLitmus_eq l aw' aw nw cw' cw ah' ah nt ct' ct W i1 (hI.below hW) i2 (hT.below hW) (by omega) (by omega) (fun c hc => by have := hz3 c hc; omega)
  have NU := Mr.hid num_any
  have SF : Hid (∀ (W : World) (v : Array Value), SvAt W v nilS 0 0 0 0 → Calls Tryd.prog 8 #[.agg v, .agg #[.slice none 0 0, .slice none 0 0, .slice none 0 0, .slice none 0 0]] W fun e w' => e = .returned (.bool true) ∧ Below W.heap.size W w') := fun W v i1 => sameState_eq _ v _ _ _ _ _ W i1 (SvAt.nil W) (by omega) (by omega) (by omega) (by omega) (fun b hb => by simp [nilS] at hb)
  have SN : Hid (∀ (W : World) (v : Array Value), SvAt W v nilS 0 0 0 0 → Calls Tryd.prog 8 #[.agg v, .agg #[.slice none 0 0, .slice none 0 0, .slice none 0 0, .slice none 0 0]] W fun e w' => e = .returned (.bool true) ∧ Below W.heap.size W w') := fun W v i1 => sameState_eq _ v _ _ _ _ _ W i1 (SvAt.nil W) (by omega) (by omega) (by omega) (by omega) (fun b hb => by simp [nilS] at hb)
  have hnr : nxtR l o s t = (nilS, false, 190) := by unfold nxtR bothE; rw [hc]; simp
  have NX : Hid (∀ (W : World) (aw' ah' b0 b1 b2 b3 : Option Addr) (cw' ct' c0 c1 c2 c3 : Nat), Below w.heap.size w W → IsAt W aw' nw l.ws → ThAt W ah' nt l.th → IsAt W b0 n0 s.ws → RgAt W b1 n1 s.rg → IsAt W b2 n2 s.pl → BfAt W b3 n3 s.bf → Calls Tryd.prog 17 #[.agg #[.slice aw' nw cw', .slice ah' nt ct'], .int .i64 o, .agg #[.slice b0 n0 c0, .slice b1 n1 c1, .slice b2 n2 c2, .slice b3 n3 c3], tnV t] W fun e w' => ∃ v, e = .returned (.tuple #[.agg v, .bool false, .int .i64 190]) ∧ SvAt w' v nilS 0 0 0 0 ∧ Below W.heap.size W w') := fun W aw' ah' b0 b1 b2 b3 cw' ct' c0 c1 c2 c3 hW i1 i2 j0 j1 j2 j3 => by
    have hq : Nq W l s aw' ah' b0 b1 b2 b3 nw nt n0 n1 n2 n3 := ⟨E.below hW, i1, i2, j0, j1, j2, j3⟩
    have := Next_err l o s t aw' ah' b0 b1 b2 b3 nw cw' nt ct' n0 c0 n1 c1 n2 c2 n3 c3 W hq (by unfold bothE; rw [hc]; simp)
    rw [hnr] at this; exact this
  have hl3 := Mr.hid l3
  have hli : Hid (l.ws.length = nw) := li.symm
  have hlt : Hid (l.th.length = nt) := lt.symm
  obtain ⟨th, ou, ad⟩ := t
  unfold tnV at *
  have x0 := cell_blk b0 0
  have x1 := cell_blk b0 1
  have b0' := Mr.hid b0
  have b1' := Mr.hid b1
  have b2' := Mr.hid b2
  replace B0 := Mr.hid B0
  replace hc := Mr.hid hc
  clear hI hT hz1 hz2 hz3 h0 h1 h2 h3 y0 y1 y2 y3 y4 E li lt l0 l1 l2 l3 b0 b1 b2 hnr
  unfold bxS bx1 at *
  go_enter Tryd.func4, Tryd.ntmps4
  go_upto_region 2 with (go_at_call 5; refine TW.out.mono ?_; clear TW; rintro e w2 ⟨aw', cw', ah', ct', rfl, I2, T2, hc1, hc2, B2⟩; have e0 := (B2.block _ (Array.getElem?_eq_some_iff.1 b0'.out).1).trans b0'.out; have e1 := Mr.hid ((B2.block _ (Array.getElem?_eq_some_iff.1 b1'.out).1).trans b1'.out); have e2 := Mr.hid ((B2.block _ (Array.getElem?_eq_some_iff.1 b2'.out).1).trans b2'.out); have BB : Below w.heap.size w w2 := B0.out.trans (B2.mono B0.out.size); replace I2 := Mr.hid I2; replace T2 := Mr.hid T2; clear B2 b0' b1' b2' x0 x1)
  have hx2L : Hid (w.heap.size + 1 + 1 < w2.heap.size) := (Array.getElem?_eq_some_iff.1 e2.out).1
  have B3 : Below w2.heap.size w2 (w2.alloc (.cells #[.slice aw' nw cw', .slice ah' nt ct'] 25)) := (Below.refl _ _).alloc (Nat.le_refl _) _
  have f0 : (w2.alloc (.cells #[.slice aw' nw cw', .slice ah' nt ct'] 25)).heap[w2.heap.size]? = some (.cells #[.slice aw' nw cw', .slice ah' nt ct'] 25 (0, 0)) := new_at _ _ _ rfl
  replace e0 := (B3.block _ (Array.getElem?_eq_some_iff.1 e0).1).trans e0
  replace e1 := Mr.hid ((B3.block _ (Array.getElem?_eq_some_iff.1 e1.out).1).trans e1.out)
  replace e2 := Mr.hid ((B3.block _ (Array.getElem?_eq_some_iff.1 e2.out).1).trans e2.out)
  replace I2 := Mr.hid (I2.out.below B3)
  replace T2 := Mr.hid (T2.out.below B3)
  replace BB := Mr.hid (BB.trans (B3.mono BB.size))
  clear B3
  generalize hx2 : w2.heap.size = x2 at *
  replace hx2 := Mr.hid hx2
  generalize (w2.alloc (.cells #[.slice aw' nw cw', .slice ah' nt ct'] 25)) = w3 at *
  have C3 := Mr.hid (CK.out w3 aw' ah' cw' ct' BB.out I2.out T2.out)
  have z0 := cell_blk f0 0
  have z1 := cell_blk f0 1
  clear CK
  go_upto_region 3 with (go_at_call 12; refine C3.out.mono ?_; clear C3; rintro e w4 ⟨rfl, B4⟩)
  replace e0 := (B4.block _ (Array.getElem?_eq_some_iff.1 e0).1).trans e0
  replace e1 := Mr.hid ((B4.block _ (Array.getElem?_eq_some_iff.1 e1.out).1).trans e1.out)
  replace e2 := Mr.hid ((B4.block _ (Array.getElem?_eq_some_iff.1 e2.out).1).trans e2.out)
  replace f0 := (B4.block _ (Array.getElem?_eq_some_iff.1 f0).1).trans f0
  replace I2 := Mr.hid (I2.out.below B4)
  replace T2 := Mr.hid (T2.out.below B4)
  replace BB := Mr.hid (BB.out.trans (B4.mono BB.out.size))
  have C4 := Mr.hid (RC.out w4 BB.out)
  have x0 := cell_blk e0 0
  have x1 := cell_blk e0 1
  clear B4 z0 z1 RC
  go_upto_region 4 with (go_at_call 13; refine C4.out.mono ?_; clear C4; rintro e w5 ⟨rfl, B5⟩)
  replace e0 := (B5.block _ (Array.getElem?_eq_some_iff.1 e0).1).trans e0
  replace e1 := Mr.hid ((B5.block _ (Array.getElem?_eq_some_iff.1 e1.out).1).trans e1.out)
  replace e2 := Mr.hid ((B5.block _ (Array.getElem?_eq_some_iff.1 e2.out).1).trans e2.out)
  replace f0 := (B5.block _ (Array.getElem?_eq_some_iff.1 f0).1).trans f0
  replace I2 := Mr.hid (I2.out.below B5)
  replace T2 := Mr.hid (T2.out.below B5)
  replace BB := Mr.hid (BB.out.trans (B5.mono BB.out.size))
  have C5 := Mr.hid (BG.out w5 aw' ah' cw' ct' BB.out I2.out T2.out)
  have z0 := cell_blk f0 0
  have z1 := cell_blk f0 1
  clear B5 BG x0 x1
  go_upto_region 5 with (go_at_call 14; refine C5.out.mono ?_; clear C5; rintro e w6 ⟨v6, rfl, D6, B6⟩; rw [hc.out] at D6 ⊢; simp only [if_true, if_false, Bool.false_eq_true] at D6 ⊢; obtain ⟨p1, u1, p2, u2, p3, u3, p4, u4, rfl, D6'⟩ := D6.ex; clear D6'; replace D6 := Mr.hid D6; replace B6 := Mr.hid B6)
  have B7 : Below w6.heap.size w6 (w6.alloc (.cells #[.slice p1 0 u1, .slice p2 0 u2, .slice p3 0 u3, .slice p4 0 u4] 32)) := (Below.refl _ _).alloc (Nat.le_refl _) _
  have B57 : Below w5.heap.size w5 (w6.alloc (.cells #[.slice p1 0 u1, .slice p2 0 u2, .slice p3 0 u3, .slice p4 0 u4] 32)) := B6.out.trans (B7.mono B6.out.size)
  have g0 : (w6.alloc (.cells #[.slice p1 0 u1, .slice p2 0 u2, .slice p3 0 u3, .slice p4 0 u4] 32)).heap[w6.heap.size]? = some (.cells #[.slice p1 0 u1, .slice p2 0 u2, .slice p3 0 u3, .slice p4 0 u4] 32 (0, 0)) := new_at _ _ _ rfl
  replace D6 := Mr.hid (D6.out.below B7)
  replace e0 := (B57.block _ (Array.getElem?_eq_some_iff.1 e0).1).trans e0
  replace e1 := Mr.hid ((B57.block _ (Array.getElem?_eq_some_iff.1 e1.out).1).trans e1.out)
  replace e2 := Mr.hid ((B57.block _ (Array.getElem?_eq_some_iff.1 e2.out).1).trans e2.out)
  replace f0 := (B57.block _ (Array.getElem?_eq_some_iff.1 f0).1).trans f0
  replace I2 := Mr.hid (I2.out.below B57)
  replace T2 := Mr.hid (T2.out.below B57)
  replace BB := Mr.hid (BB.out.trans (B57.mono BB.out.size))
  clear B7 B57 B6 z0 z1
  generalize hx6 : w6.heap.size = x6 at *
  replace hx6 := Mr.hid hx6
  generalize (w6.alloc (.cells #[.slice p1 0 u1, .slice p2 0 u2, .slice p3 0 u3, .slice p4 0 u4] 32)) = w7 at *
  have k0 := cell_blk g0 0
  have k1 := cell_blk g0 1
  have k2 := cell_blk g0 2
  have k3 := cell_blk g0 3
  have m0 := cell_blk e0 0
  have m1 := cell_blk e0 1
  have lk := (Array.getElem?_eq_some_iff.1 g0).1
  have lm := (Array.getElem?_eq_some_iff.1 e0).1
  clear g0
  refine wp_region_held_drew (S := (fun W => W.cell? ⟨x6, 0, none⟩ = some (.slice p1 0 u1) ∧ W.cell? ⟨x6, 1, none⟩ = some (.slice p2 0 u2) ∧ W.cell? ⟨x6, 2, none⟩ = some (.slice p3 0 u3) ∧ W.cell? ⟨x6, 3, none⟩ = some (.slice p4 0 u4) ∧ W.cell? ⟨w.heap.size, 0, none⟩ = some (.slice aw nw cw) ∧ W.cell? ⟨w.heap.size, 1, none⟩ = some (.slice ah nt ct))) (by kernel_rfl) ⟨k0, k1, k2, k3, m0, m1⟩ (fun hHeld => ?_)
  try simp only [Act.put, List.setIfInBounds_toArray, List.set_cons_zero, List.set_cons_succ]
  refine wpAnyH_take (i := 0) (oi := (⟨_, _, _, _, _, _⟩ : Oper)) (v := ?_) rfl (by kernel_rfl) (by kernel_rfl) (by kernel_rfl) (fun _ _ _ h => h) (Or.inl ⟨by rfl, ?_⟩) (by assumption) ?_
  rotate_left
  · intro w9 hSw
    (try dsimp only at hSw)
    go_simp
    all_goals (with_reducible rfl)
  try simp only [Act.put, List.setIfInBounds_toArray, List.set_cons_zero, List.set_cons_succ]
  refine wpAnyH_take (i := 1) (oi := (⟨_, _, _, _, _, _⟩ : Oper)) (v := ?_) rfl (by kernel_rfl) (by kernel_rfl) (by kernel_rfl) (fun _ _ _ h => h) (Or.inl ⟨by rfl, ?_⟩) (by assumption) ?_
  rotate_left
  · intro w9 hSw
    (try dsimp only at hSw)
    go_simp
    all_goals (with_reducible rfl)
  try simp only [Act.put, List.setIfInBounds_toArray, List.set_cons_zero, List.set_cons_succ]
  refine wpAnyH_ready (rs := [2]) (by kernel_rfl) (by simp) ?_
  refine AllReadyH.cons (o := (⟨_, _, _, _, _, _⟩ : Oper)) rfl (fun K hK => ?_) (AllReadyH.nil)
  go_simp
  go_at_call 9
  refine (NU.out _ _).mono ?_
  rintro e w99 ⟨rfl, hw99⟩
  obtain rfl := hw99.symm
  try (go_wp2_with fail)
  refine hK.out _ _ ⟨k0, k1, k2, k3, m0, m1⟩ (fun hHeld9 => ?_)
  clear hK K hHeld
  have hHeld := hHeld9
  clear hHeld9
  try simp only [Act.put, List.setIfInBounds_toArray, List.set_cons_zero, List.set_cons_succ]
  refine wpAnyH_take (i := 3) (oi := (⟨_, _, _, _, _, _⟩ : Oper)) (v := ?_) rfl (by kernel_rfl) (by kernel_rfl) (by kernel_rfl) (fun _ _ _ h => h) (Or.inl ⟨by rfl, ?_⟩) (by assumption) ?_
  rotate_left
  · intro w9 hSw
    (try dsimp only at hSw)
    go_simp
    all_goals (with_reducible rfl)
  try simp only [Act.put, List.setIfInBounds_toArray, List.set_cons_zero, List.set_cons_succ]
  refine wpAnyH_take (i := 4) (oi := (⟨_, _, _, _, _, _⟩ : Oper)) (v := ?_) rfl (by kernel_rfl) (by kernel_rfl) (by kernel_rfl) (fun _ _ _ h => h) (Or.inl ⟨by rfl, ?_⟩) (by assumption) ?_
  rotate_left
  · intro w9 hSw
    (try dsimp only at hSw)
    go_simp
    all_goals (with_reducible rfl)
  try simp only [Act.put, List.setIfInBounds_toArray, List.set_cons_zero, List.set_cons_succ]
  refine wpAnyH_take (i := 5) (oi := (⟨_, _, _, _, _, _⟩ : Oper)) (v := ?_) rfl (by kernel_rfl) (by kernel_rfl) (by kernel_rfl) (fun _ _ _ h => h) (Or.inl ⟨by rfl, ?_⟩) (by assumption) ?_
  rotate_left
  · intro w9 hSw
    (try dsimp only at hSw)
    go_simp
    all_goals (with_reducible rfl)
  try simp only [Act.put, List.setIfInBounds_toArray, List.set_cons_zero, List.set_cons_succ]
  refine wpAnyH_take (i := 6) (oi := (⟨_, _, _, _, _, _⟩ : Oper)) (v := ?_) rfl (by kernel_rfl) (by kernel_rfl) (by kernel_rfl) (fun _ _ _ h => h) (Or.inl ⟨by rfl, ?_⟩) (by assumption) ?_
  rotate_left
  · intro w9 hSw
    (try dsimp only at hSw)
    go_simp
    all_goals (with_reducible rfl)
  try simp only [Act.put, List.setIfInBounds_toArray, List.set_cons_zero, List.set_cons_succ]
  refine wpAnyH_take (i := 7) (oi := (⟨_, _, _, _, _, _⟩ : Oper)) (v := ?_) rfl (by kernel_rfl) (by kernel_rfl) (by kernel_rfl) (fun _ _ _ h => h) (Or.inl ⟨by rfl, ?_⟩) (by assumption) ?_
  rotate_left
  · intro w9 hSw
    (try dsimp only at hSw)
    go_simp
    all_goals (with_reducible rfl)
  try simp only [Act.put, List.setIfInBounds_toArray, List.set_cons_zero, List.set_cons_succ]
  refine wpAnyH_take (i := 8) (oi := (⟨_, _, _, _, _, _⟩ : Oper)) (v := ?_) rfl (by kernel_rfl) (by kernel_rfl) (by kernel_rfl) (fun _ _ _ h => h) (Or.inl ⟨by rfl, ?_⟩) (by assumption) ?_
  rotate_left
  · intro w9 hSw
    (try dsimp only at hSw)
    go_simp
    all_goals (with_reducible rfl)
  try simp only [Act.put, List.setIfInBounds_toArray, List.set_cons_zero, List.set_cons_succ]
  refine wpAnyH_take (i := 9) (oi := (⟨_, _, _, _, _, _⟩ : Oper)) (v := ?_) rfl (by kernel_rfl) (by kernel_rfl) (by kernel_rfl) (fun _ _ _ h => h) (Or.inl ⟨by rfl, ?_⟩) (by assumption) ?_
  rotate_left
  · intro w9 hSw
    (try dsimp only at hSw)
    go_simp
    all_goals (with_reducible rfl)
  try simp only [Act.put, List.setIfInBounds_toArray, List.set_cons_zero, List.set_cons_succ]
  refine wpAnyH_take (i := 10) (oi := (⟨_, _, _, _, _, _⟩ : Oper)) (v := ?_) rfl (by kernel_rfl) (by kernel_rfl) (by kernel_rfl) (fun _ _ _ h => h) (Or.inl ⟨by rfl, ?_⟩) (by assumption) ?_
  rotate_left
  · intro w9 hSw
    (try dsimp only at hSw)
    go_simp
    all_goals (with_reducible rfl)
  try simp only [Act.put, List.setIfInBounds_toArray, List.set_cons_zero, List.set_cons_succ]
  refine wpAnyH_take (i := 11) (oi := (⟨_, _, _, _, _, _⟩ : Oper)) (v := ?_) rfl (by kernel_rfl) (by kernel_rfl) (by kernel_rfl) (fun _ _ _ h => h) (Or.inl ⟨by rfl, ?_⟩) (by assumption) ?_
  rotate_left
  · intro w9 hSw
    (try dsimp only at hSw)
    go_simp
    all_goals (with_reducible rfl)
  try simp only [Act.put, List.setIfInBounds_toArray, List.set_cons_zero, List.set_cons_succ]
  refine wpAnyH_take (i := 12) (oi := (⟨_, _, _, _, _, _⟩ : Oper)) (v := ?_) rfl (by kernel_rfl) (by kernel_rfl) (by kernel_rfl) (fun _ _ _ h => h) (Or.inl ⟨by rfl, ?_⟩) (by assumption) ?_
  rotate_left
  · intro w9 hSw
    (try dsimp only at hSw)
    go_simp
    all_goals (with_reducible rfl)
  try simp only [Act.put, List.setIfInBounds_toArray, List.set_cons_zero, List.set_cons_succ]
  refine wpAnyH_take (i := 13) (oi := (⟨_, _, _, _, _, _⟩ : Oper)) (v := ?_) rfl (by kernel_rfl) (by kernel_rfl) (by kernel_rfl) (fun _ _ _ h => h) (Or.inl ⟨by rfl, ?_⟩) (by assumption) ?_
  rotate_left
  · intro w9 hSw
    (try dsimp only at hSw)
    go_simp
    all_goals (with_reducible rfl)
  try simp only [Act.put, List.setIfInBounds_toArray, List.set_cons_zero, List.set_cons_succ]
  refine wpAnyH_take (i := 14) (oi := (⟨_, _, _, _, _, _⟩ : Oper)) (v := ?_) rfl (by kernel_rfl) (by kernel_rfl) (by kernel_rfl) (fun _ _ _ h => h) (Or.inl ⟨by rfl, ?_⟩) (by assumption) ?_
  rotate_left
  · intro w9 hSw
    (try dsimp only at hSw)
    go_simp
    all_goals (with_reducible rfl)
  try simp only [Act.put, List.setIfInBounds_toArray, List.set_cons_zero, List.set_cons_succ]
  refine wpAnyH_ready (rs := [15]) (by kernel_rfl) (by simp) ?_
  refine AllReadyH.cons (o := (⟨_, _, _, _, _, _⟩ : Oper)) rfl (fun K hK => ?_) (AllReadyH.nil)
  go_simp
  go_at_call 9
  refine (NU.out _ _).mono ?_
  rintro e w99 ⟨rfl, hw99⟩
  obtain rfl := hw99.symm
  try (go_wp2_with fail)
  refine hK.out _ _ ⟨k0, k1, k2, k3, m0, m1⟩ (fun hHeld9 => ?_)
  clear hK K hHeld
  have hHeld := hHeld9
  clear hHeld9
  try simp only [Act.put, List.setIfInBounds_toArray, List.set_cons_zero, List.set_cons_succ]
  refine wpAnyH_take (i := 16) (oi := (⟨_, _, _, _, _, _⟩ : Oper)) (v := ?_) rfl (by kernel_rfl) (by kernel_rfl) (by kernel_rfl) (fun _ _ _ h => h) (Or.inl ⟨by rfl, ?_⟩) (by assumption) ?_
  rotate_left
  · intro w9 hSw
    (try dsimp only at hSw)
    go_simp
    all_goals (with_reducible rfl)
  try simp only [Act.put, List.setIfInBounds_toArray, List.set_cons_zero, List.set_cons_succ]
  refine wpAnyH_take (i := 17) (oi := (⟨_, _, _, _, _, _⟩ : Oper)) (v := ?_) rfl (by kernel_rfl) (by kernel_rfl) (by kernel_rfl) (fun _ _ _ h => h) (Or.inl ⟨by rfl, ?_⟩) (by assumption) ?_
  rotate_left
  · intro w9 hSw
    (try dsimp only at hSw)
    go_simp
    all_goals (with_reducible rfl)
  try simp only [Act.put, List.setIfInBounds_toArray, List.set_cons_zero, List.set_cons_succ]
  refine wpAnyH_take (i := 18) (oi := (⟨_, _, _, _, _, _⟩ : Oper)) (v := ?_) rfl (by kernel_rfl) (by kernel_rfl) (by kernel_rfl) (fun _ _ _ h => h) (Or.inl ⟨by rfl, ?_⟩) (by assumption) ?_
  rotate_left
  · intro w9 hSw
    (try dsimp only at hSw)
    go_simp
    all_goals (with_reducible rfl)
  try simp only [Act.put, List.setIfInBounds_toArray, List.set_cons_zero, List.set_cons_succ]
  refine wpAnyH_take (i := 19) (oi := (⟨_, _, _, _, _, _⟩ : Oper)) (v := ?_) rfl (by kernel_rfl) (by kernel_rfl) (by kernel_rfl) (fun _ _ _ h => h) (Or.inl ⟨by rfl, ?_⟩) (by assumption) ?_
  rotate_left
  · intro w9 hSw
    (try dsimp only at hSw)
    go_simp
    all_goals (with_reducible rfl)
  try simp only [Act.put, List.setIfInBounds_toArray, List.set_cons_zero, List.set_cons_succ]
  refine wpAnyH_take (i := 20) (oi := (⟨_, _, _, _, _, _⟩ : Oper)) (v := ?_) rfl (by kernel_rfl) (by kernel_rfl) (by kernel_rfl) (fun _ _ _ h => h) (Or.inl ⟨by rfl, ?_⟩) (by assumption) ?_
  rotate_left
  · intro w9 hSw
    (try dsimp only at hSw)
    go_simp
    all_goals (with_reducible rfl)
  try simp only [Act.put, List.setIfInBounds_toArray, List.set_cons_zero, List.set_cons_succ]
  refine wpAnyH_take (i := 21) (oi := (⟨_, _, _, _, _, _⟩ : Oper)) (v := ?_) rfl (by kernel_rfl) (by kernel_rfl) (by kernel_rfl) (fun _ _ _ h => h) (Or.inl ⟨by rfl, ?_⟩) (by assumption) ?_
  rotate_left
  · intro w9 hSw
    (try dsimp only at hSw)
    go_simp
    all_goals (with_reducible rfl)
  try simp only [Act.put, List.setIfInBounds_toArray, List.set_cons_zero, List.set_cons_succ]
  refine wpAnyH_take (i := 22) (oi := (⟨_, _, _, _, _, _⟩ : Oper)) (v := ?_) rfl (by kernel_rfl) (by kernel_rfl) (by kernel_rfl) (fun _ _ _ h => h) (Or.inl ⟨by rfl, ?_⟩) (by assumption) ?_
  rotate_left
  · intro w9 hSw
    (try dsimp only at hSw)
    go_simp
    all_goals (with_reducible rfl)
  try simp only [Act.put, List.setIfInBounds_toArray, List.set_cons_zero, List.set_cons_succ]
  refine wpAnyH_take (i := 23) (oi := (⟨_, _, _, _, _, _⟩ : Oper)) (v := ?_) rfl (by kernel_rfl) (by kernel_rfl) (by kernel_rfl) (fun _ _ _ h => h) (Or.inl ⟨by rfl, ?_⟩) (by assumption) ?_
  rotate_left
  · intro w9 hSw
    (try dsimp only at hSw)
    go_simp
    all_goals (with_reducible rfl)
  try simp only [Act.put, List.setIfInBounds_toArray, List.set_cons_zero, List.set_cons_succ]
  refine wpAnyH_take (i := 24) (oi := (⟨_, _, _, _, _, _⟩ : Oper)) (v := ?_) rfl (by kernel_rfl) (by kernel_rfl) (by kernel_rfl) (fun _ _ _ h => h) (Or.inl ⟨by rfl, ?_⟩) (by assumption) ?_
  rotate_left
  · intro w9 hSw
    (try dsimp only at hSw)
    go_simp
    all_goals (with_reducible rfl)
  try simp only [Act.put, List.setIfInBounds_toArray, List.set_cons_zero, List.set_cons_succ]
  refine wpAnyH_ready (rs := [25]) (by kernel_rfl) (by simp) ?_
  refine AllReadyH.cons (o := (⟨_, _, _, _, _, _⟩ : Oper)) rfl (fun K hK => ?_) (AllReadyH.nil)
  go_simp
  go_at_call 8
  refine (SF.out w7.drew _ (D6.out.below (Below.refl _ _).drew)).mono ?_
  rintro e w9 ⟨rfl, B9⟩
  have B79 : Below w7.heap.size w7 w9 := (Below.refl _ _).drew.trans (B9.mono (Nat.le_refl _))
  replace k0 := (B79.cell (p := ⟨x6, 0, none⟩) lk).trans k0
  replace k1 := (B79.cell (p := ⟨x6, 1, none⟩) lk).trans k1
  replace k2 := (B79.cell (p := ⟨x6, 2, none⟩) lk).trans k2
  replace k3 := (B79.cell (p := ⟨x6, 3, none⟩) lk).trans k3
  replace m0 := (B79.cell (p := ⟨w.heap.size, 0, none⟩) lm).trans m0
  replace m1 := (B79.cell (p := ⟨w.heap.size, 1, none⟩) lm).trans m1
  try (go_wp2_with fail)
  refine hK.out _ _ ⟨k0, k1, k2, k3, m0, m1⟩ (fun hHeld9 => ?_)
  clear hK K hHeld
  have hHeld := hHeld9
  clear hHeld9
  try simp only [Act.put, List.setIfInBounds_toArray, List.set_cons_zero, List.set_cons_succ]
  refine wpAnyH_take (i := 26) (oi := (⟨_, _, _, _, _, _⟩ : Oper)) (v := ?_) rfl (by kernel_rfl) (by kernel_rfl) (by kernel_rfl) (fun _ _ _ h => h) (Or.inl ⟨by rfl, ?_⟩) (by assumption) ?_
  rotate_left
  · intro w9 hSw
    (try dsimp only at hSw)
    go_simp
    all_goals (with_reducible rfl)
  try simp only [Act.put, List.setIfInBounds_toArray, List.set_cons_zero, List.set_cons_succ]
  refine wpAnyH_take (i := 27) (oi := (⟨_, _, _, _, _, _⟩ : Oper)) (v := ?_) rfl (by kernel_rfl) (by kernel_rfl) (by kernel_rfl) (fun _ _ _ h => h) (Or.inl ⟨by rfl, ?_⟩) (by assumption) ?_
  rotate_left
  · intro w9 hSw
    (try dsimp only at hSw)
    go_simp
    all_goals (with_reducible rfl)
  try simp only [Act.put, List.setIfInBounds_toArray, List.set_cons_zero, List.set_cons_succ]
  refine wpAnyH_take (i := 28) (oi := (⟨_, _, _, _, _, _⟩ : Oper)) (v := ?_) rfl (by kernel_rfl) (by kernel_rfl) (by kernel_rfl) (fun _ _ _ h => h) (Or.inl ⟨by rfl, ?_⟩) (by assumption) ?_
  rotate_left
  · intro w9 hSw
    (try dsimp only at hSw)
    go_simp
    all_goals (with_reducible rfl)
  try simp only [Act.put, List.setIfInBounds_toArray, List.set_cons_zero, List.set_cons_succ]
  refine wpAnyH_take (i := 29) (oi := (⟨_, _, _, _, _, _⟩ : Oper)) (v := ?_) rfl (by kernel_rfl) (by kernel_rfl) (by kernel_rfl) (fun _ _ _ h => h) (Or.inl ⟨by rfl, ?_⟩) (by assumption) ?_
  rotate_left
  · intro w9 hSw
    (try dsimp only at hSw)
    go_simp
    all_goals (with_reducible rfl)
  try simp only [Act.put, List.setIfInBounds_toArray, List.set_cons_zero, List.set_cons_succ]
  refine wpAnyH_take (i := 30) (oi := (⟨_, _, _, _, _, _⟩ : Oper)) (v := ?_) rfl (by kernel_rfl) (by kernel_rfl) (by kernel_rfl) (fun _ _ _ h => h) (Or.inl ⟨by rfl, ?_⟩) (by assumption) ?_
  rotate_left
  · intro w9 hSw
    (try dsimp only at hSw)
    go_simp
    all_goals (with_reducible rfl)
  try simp only [Act.put, List.setIfInBounds_toArray, List.set_cons_zero, List.set_cons_succ]
  refine wpAnyH_take (i := 31) (oi := (⟨_, _, _, _, _, _⟩ : Oper)) (v := ?_) rfl (by kernel_rfl) (by kernel_rfl) (by kernel_rfl) (fun _ _ _ h => h) (Or.inl ⟨by rfl, ?_⟩) (by assumption) ?_
  rotate_left
  · intro w9 hSw
    (try dsimp only at hSw)
    go_simp
    all_goals (with_reducible rfl)
  try simp only [Act.put, List.setIfInBounds_toArray, List.set_cons_zero, List.set_cons_succ]
  refine wpAnyH_take (i := 32) (oi := (⟨_, _, _, _, _, _⟩ : Oper)) (v := undef) rfl (by kernel_rfl) (by kernel_rfl) (by kernel_rfl) (fun _ _ _ h => h) (Or.inr ⟨by kernel_rfl, rfl⟩) (by assumption) ?_
  try simp only [Act.put, List.setIfInBounds_toArray, List.set_cons_zero, List.set_cons_succ]
  refine wpAnyH_take (i := 33) (oi := (⟨_, _, _, _, _, _⟩ : Oper)) (v := undef) rfl (by kernel_rfl) (by kernel_rfl) (by kernel_rfl) (fun _ _ _ h => h) (Or.inr ⟨by kernel_rfl, rfl⟩) (by assumption) ?_
  try simp only [Act.put, List.setIfInBounds_toArray, List.set_cons_zero, List.set_cons_succ]
  refine wpAnyH_take (i := 34) (oi := (⟨_, _, _, _, _, _⟩ : Oper)) (v := undef) rfl (by kernel_rfl) (by kernel_rfl) (by kernel_rfl) (fun _ _ _ h => h) (Or.inr ⟨by kernel_rfl, rfl⟩) (by assumption) ?_
  try simp only [Act.put, List.setIfInBounds_toArray, List.set_cons_zero, List.set_cons_succ]
  refine wpAnyH_take (i := 35) (oi := (⟨_, _, _, _, _, _⟩ : Oper)) (v := undef) rfl (by kernel_rfl) (by kernel_rfl) (by kernel_rfl) (fun _ _ _ h => h) (Or.inr ⟨by kernel_rfl, rfl⟩) (by assumption) ?_
  try simp only [Act.put, List.setIfInBounds_toArray, List.set_cons_zero, List.set_cons_succ]
  refine wpAnyH_take (i := 36) (oi := (⟨_, _, _, _, _, _⟩ : Oper)) (v := undef) rfl (by kernel_rfl) (by kernel_rfl) (by kernel_rfl) (fun _ _ _ h => h) (Or.inr ⟨by kernel_rfl, rfl⟩) (by assumption) ?_
  try simp only [Act.put, List.setIfInBounds_toArray, List.set_cons_zero, List.set_cons_succ]
  refine wpAnyH_take (i := 37) (oi := (⟨_, _, _, _, _, _⟩ : Oper)) (v := ?_) rfl (by kernel_rfl) (by kernel_rfl) (by kernel_rfl) (fun _ _ _ h => h) (Or.inl ⟨by rfl, ?_⟩) (by assumption) ?_
  rotate_left
  · intro w9 hSw
    (try dsimp only at hSw)
    go_simp
    all_goals (with_reducible rfl)
  try simp only [Act.put, List.setIfInBounds_toArray, List.set_cons_zero, List.set_cons_succ]
  refine wpAnyH_take (i := 38) (oi := (⟨_, _, _, _, _, _⟩ : Oper)) (v := ?_) rfl (by kernel_rfl) (by kernel_rfl) (by kernel_rfl) (fun _ _ _ h => h) (Or.inl ⟨by rfl, ?_⟩) (by assumption) ?_
  rotate_left
  · intro w9 hSw
    (try dsimp only at hSw)
    go_simp
    all_goals (with_reducible rfl)
  try simp only [Act.put, List.setIfInBounds_toArray, List.set_cons_zero, List.set_cons_succ]
  refine wpAnyH_done (by kernel_rfl) ?_ _
  replace B79 := Mr.hid B79
  clear hHeld k0 k1 k2 k3 m0 m1 lk lm SF
  replace e0 := (B79.out.block _ (Array.getElem?_eq_some_iff.1 e0).1).trans e0
  replace e1 := Mr.hid ((B79.out.block _ (Array.getElem?_eq_some_iff.1 e1.out).1).trans e1.out)
  replace e2 := Mr.hid ((B79.out.block _ (Array.getElem?_eq_some_iff.1 e2.out).1).trans e2.out)
  replace f0 := (B79.out.block _ (Array.getElem?_eq_some_iff.1 f0).1).trans f0
  replace I2 := Mr.hid (I2.out.below B79.out)
  replace T2 := Mr.hid (T2.out.below B79.out)
  replace BB := Mr.hid (BB.out.trans (B79.out.mono BB.out.size))
  have C9 := Mr.hid (CP.out w9 BB.out)
  have s0 := cell_blk e1.out 0
  have s1 := cell_blk e1.out 1
  have s2 := cell_blk e1.out 2
  have s3 := cell_blk e1.out 3
  have ls := (Array.getElem?_eq_some_iff.1 e1.out).1
  replace e0 := Mr.hid e0
  replace f0 := Mr.hid f0
  clear B79
  go_upto_region 8 with (go_at_call 16; refine C9.out.mono ?_; clear C9; rintro e w10 ⟨b0, c0, b1, c1, b2, c2, b3, c3, m0, m1, m2, rfl, hCp⟩)
  obtain ⟨j0, j1, j2, j3⟩ := hCp.sv hl3.out
  replace j0 := Mr.hid j0
  replace j1 := Mr.hid j1
  replace j2 := Mr.hid j2
  replace j3 := Mr.hid j3
  have B11 : Below w10.heap.size w10 (w10.alloc (.cells #[.slice b0 n0 c0, .slice b1 n1 c1, .slice b2 n2 c2, .slice b3 n3 c3] 32)) := (Below.refl _ _).alloc (Nat.le_refl _) _
  have B911 : Below w9.heap.size w9 (w10.alloc (.cells #[.slice b0 n0 c0, .slice b1 n1 c1, .slice b2 n2 c2, .slice b3 n3 c3] 32)) := hCp.bel.trans (B11.mono hCp.bel.size)
  have h0 : (w10.alloc (.cells #[.slice b0 n0 c0, .slice b1 n1 c1, .slice b2 n2 c2, .slice b3 n3 c3] 32)).heap[w10.heap.size]? = some (.cells #[.slice b0 n0 c0, .slice b1 n1 c1, .slice b2 n2 c2, .slice b3 n3 c3] 32 (0, 0)) := new_at _ _ _ rfl
  replace h0 := Mr.hid h0
  clear s0 s1 s2 s3 ls hCp
  replace e1 := Mr.hid ((B911.block _ (Array.getElem?_eq_some_iff.1 e1.out).1).trans e1.out)
  replace e2 := Mr.hid ((B911.block _ (Array.getElem?_eq_some_iff.1 e2.out).1).trans e2.out)
  replace I2 := Mr.hid (I2.out.below B911)
  replace T2 := Mr.hid (T2.out.below B911)
  replace BB := Mr.hid (BB.out.trans (B911.mono BB.out.size))
  replace e0 := Mr.hid ((B911.block _ (Array.getElem?_eq_some_iff.1 e0.out).1).trans e0.out)
  replace f0 := Mr.hid ((B911.block _ (Array.getElem?_eq_some_iff.1 f0.out).1).trans f0.out)
  replace j0 := Mr.hid (j0.out.below B11)
  replace j1 := Mr.hid (j1.out.below B11)
  replace j2 := Mr.hid (j2.out.below B11)
  replace j3 := Mr.hid (j3.out.below B11)
  clear B11 B911
  generalize hx10 : w10.heap.size = x10 at *
  replace hx10 := Mr.hid hx10
  generalize (w10.alloc (.cells #[.slice b0 n0 c0, .slice b1 n1 c1, .slice b2 n2 c2, .slice b3 n3 c3] 32)) = w11 at *
  have C11 := Mr.hid (NX.out w11 aw' ah' b0 b1 b2 b3 cw' ct' c0 c1 c2 c3 BB.out I2.out T2.out j0.out j1.out j2.out j3.out)
  have z0 := cell_blk f0.out 0
  have z1 := cell_blk f0.out 1
  have q0 := cell_blk h0.out 0
  have q1 := cell_blk h0.out 1
  have q2 := cell_blk h0.out 2
  have q3 := cell_blk h0.out 3
  have r0 := cell_blk e2.out 0
  have r1 := cell_blk e2.out 1
  have r2 := cell_blk e2.out 2
  have lz := (Array.getElem?_eq_some_iff.1 f0.out).1
  have lq := (Array.getElem?_eq_some_iff.1 h0.out).1
  have lr := (Array.getElem?_eq_some_iff.1 e2.out).1
  clear NX
  go_upto_region 9 with (go_at_call 17; refine C11.out.mono ?_; clear C11; rintro e w12 ⟨v, rfl, D12, B12⟩; obtain ⟨o1, v1, o2, v2, o3, v3, o4, v4, rfl, D12'⟩ := D12.ex; clear D12')
  have B13 : Below w12.heap.size w12 (w12.alloc (.cells #[.slice o1 0 v1, .slice o2 0 v2, .slice o3 0 v3, .slice o4 0 v4] 32)) := (Below.refl _ _).alloc (Nat.le_refl _) _
  have B113 : Below w11.heap.size w11 (w12.alloc (.cells #[.slice o1 0 v1, .slice o2 0 v2, .slice o3 0 v3, .slice o4 0 v4] 32)) := B12.trans (B13.mono B12.size)
  have i0 : Hid ((w12.alloc (.cells #[.slice o1 0 v1, .slice o2 0 v2, .slice o3 0 v3, .slice o4 0 v4] 32)).heap[w12.heap.size]? = some (.cells #[.slice o1 0 v1, .slice o2 0 v2, .slice o3 0 v3, .slice o4 0 v4] 32 (0, 0))) := new_at _ _ _ rfl
  have sv : Hid ((w12.alloc (.cells #[.slice o1 0 v1, .slice o2 0 v2, .slice o3 0 v3, .slice o4 0 v4] 32)).heap.size = w12.heap.size + 1) := by show _ = _; simp
  have D13 := Mr.hid (D12.below B13)
  clear z0 z1 q0 q1 q2 q3 r0 r1 r2 lz lq lr D12
  replace e0 := Mr.hid ((B113.block _ (Array.getElem?_eq_some_iff.1 e0.out).1).trans e0.out)
  replace e1 := Mr.hid ((B113.block _ (Array.getElem?_eq_some_iff.1 e1.out).1).trans e1.out)
  replace e2 := Mr.hid ((B113.block _ (Array.getElem?_eq_some_iff.1 e2.out).1).trans e2.out)
  replace f0 := Mr.hid ((B113.block _ (Array.getElem?_eq_some_iff.1 f0.out).1).trans f0.out)
  replace h0 := Mr.hid ((B113.block _ (Array.getElem?_eq_some_iff.1 h0.out).1).trans h0.out)
  replace I2 := Mr.hid (I2.out.below B113)
  replace T2 := Mr.hid (T2.out.below B113)
  replace j0 := Mr.hid (j0.out.below B113)
  replace j1 := Mr.hid (j1.out.below B113)
  replace j2 := Mr.hid (j2.out.below B113)
  replace j3 := Mr.hid (j3.out.below B113)
  replace BB := Mr.hid (BB.out.trans (B113.mono BB.out.size))
  clear B13 B113 B12
  go_upto_region 11 with fail
  generalize hx12 : w12.heap.size = x12 at *
  replace hx12 := Mr.hid hx12
  generalize (w12.alloc (.cells #[.slice o1 0 v1, .slice o2 0 v2, .slice o3 0 v3, .slice o4 0 v4] 32)) = v13 at *
  try rw [sv.out]
  have n0' : Hid ((v13.alloc (.cells #[.slice none 0 0, .slice none 0 0, .slice none 0 0, .slice none 0 0] 32)).heap[x12 + 1]? = some (.cells #[.slice none 0 0, .slice none 0 0, .slice none 0 0, .slice none 0 0] 32 (0, 0))) := new_at _ _ _ sv.out.symm
  have B14 : Below v13.heap.size v13 (v13.alloc (.cells #[.slice none 0 0, .slice none 0 0, .slice none 0 0, .slice none 0 0] 32)) := (Below.refl _ _).alloc (Nat.le_refl _) _
  have B14' := Mr.hid B14
  replace e0 := Mr.hid ((B14.block _ (Array.getElem?_eq_some_iff.1 e0.out).1).trans e0.out)
  replace e1 := Mr.hid ((B14.block _ (Array.getElem?_eq_some_iff.1 e1.out).1).trans e1.out)
  replace e2 := Mr.hid ((B14.block _ (Array.getElem?_eq_some_iff.1 e2.out).1).trans e2.out)
  replace f0 := Mr.hid ((B14.block _ (Array.getElem?_eq_some_iff.1 f0.out).1).trans f0.out)
  replace h0 := Mr.hid ((B14.block _ (Array.getElem?_eq_some_iff.1 h0.out).1).trans h0.out)
  replace I2 := Mr.hid (I2.out.below B14)
  replace T2 := Mr.hid (T2.out.below B14)
  replace j0 := Mr.hid (j0.out.below B14)
  replace j1 := Mr.hid (j1.out.below B14)
  replace j2 := Mr.hid (j2.out.below B14)
  replace j3 := Mr.hid (j3.out.below B14)
  replace BB := Mr.hid (BB.out.trans (B14.mono BB.out.size))
  replace i0 := Mr.hid ((B14.block _ (Array.getElem?_eq_some_iff.1 i0.out).1).trans i0.out)
  replace D13 := Mr.hid (D13.out.below B14)
  clear B14 B14'
  generalize v13.alloc (.cells #[.slice none 0 0, .slice none 0 0, .slice none 0 0, .slice none 0 0] 32) = w14 at *
  have t0 := cell_blk i0.out 0
  have t1 := cell_blk i0.out 1
  have t2 := cell_blk i0.out 2
  have t3 := cell_blk i0.out 3
  have lt := (Array.getElem?_eq_some_iff.1 i0.out).1
  have u0 := cell_blk n0'.out 0
  have u1 := cell_blk n0'.out 1
  have u2 := cell_blk n0'.out 2
  have u3 := cell_blk n0'.out 3
  have lu' := (Array.getElem?_eq_some_iff.1 n0'.out).1
  have S1 := Mr.hid (SN.out w14 _ D13.out)
  go_wp2_with (first
    | (go_at_call 9; refine (NU.out _ _).mono ?_; rintro e w99 ⟨rfl, hw99⟩; obtain rfl := hw99.symm)
    | (go_at_call 8; refine S1.out.mono ?_; clear S1; rintro e w21 ⟨rfl, B21⟩; have h1' := Mr.hid ((B21.block _ (Array.getElem?_eq_some_iff.1 h0.out).1).trans h0.out); have e1' := Mr.hid ((B21.block _ (Array.getElem?_eq_some_iff.1 e1.out).1).trans e1.out); have f1' := Mr.hid ((B21.block _ (Array.getElem?_eq_some_iff.1 f0.out).1).trans f0.out); have e0' := Mr.hid ((B21.block _ (Array.getElem?_eq_some_iff.1 e0.out).1).trans e0.out); have BB1 := Mr.hid (BB.out.trans (B21.mono BB.out.size)); have S2 := Mr.hid (SG.out w21 b0 b1 b2 b3 c0 c1 c2 c3 BB1.out (j0.out.below B21) (j1.out.below B21) (j2.out.below B21) (j3.out.below B21)); have I3 := Mr.hid (I2.out.below B21); have T3 := Mr.hid (T2.out.below B21); have q0 := cell_blk h1'.out 0; have q1 := cell_blk h1'.out 1; have q2 := cell_blk h1'.out 2; have q3 := cell_blk h1'.out 3; have lq := (Array.getElem?_eq_some_iff.1 h1'.out).1; have s0 := cell_blk e1'.out 0; have s1 := cell_blk e1'.out 1; have s2 := cell_blk e1'.out 2; have s3 := cell_blk e1'.out 3; have ls := (Array.getElem?_eq_some_iff.1 e1'.out).1; clear B21)
    | (go_at_call 8; refine S2.out.mono ?_; clear S2; rintro e w22 ⟨rfl, B22⟩; have f2' := Mr.hid ((B22.block _ (Array.getElem?_eq_some_iff.1 f1'.out).1).trans f1'.out); have e2' := Mr.hid ((B22.block _ (Array.getElem?_eq_some_iff.1 e0'.out).1).trans e0'.out); have BB2 := Mr.hid (BB1.out.trans (B22.mono BB1.out.size)); have S3 := Mr.hid (SL.out w22 aw' ah' cw' ct' BB2.out (I3.out.below B22) (T3.out.below B22)); have z0 := cell_blk f2'.out 0; have z1 := cell_blk f2'.out 1; have lz := (Array.getElem?_eq_some_iff.1 f2'.out).1; have x0 := cell_blk e2'.out 0; have x1 := cell_blk e2'.out 1; have lx := (Array.getElem?_eq_some_iff.1 e2'.out).1; clear B22)
    | (go_at_call 10; refine S3.out.mono ?_; clear S3; rintro e w23 ⟨rfl, B23⟩; have BB3 : Hid (Below w.heap.size w w23) := BB2.out.trans (B23.mono BB2.out.size); clear B23))
  go_ret
  exact ⟨by simp, BB3.out⟩
end Go.Proofs.YtmejblmeaipahaaDoor.Ts
/-
  TSO: the law of steps, no order.
-/
namespace Go.Proofs.YtmejblmeaipahaaDoor.Ts
open Go.RowKit Mr
set_option linter.unusedVariables false
set_option linter.unusedSimpArgs false
set_option maxRecDepth 100000
set_option maxHeartbeats 32000000 in
theorem steps_O (aw : Option Addr) (nw cw : Nat) (ah : Option Addr) (nt ct : Nat) (l : Lt) (o : Int) (a0 : Option Addr) (n0 k0 : Nat) (a1 : Option Addr) (n1 k1 : Nat) (a2 : Option Addr) (n2 k2 : Nat) (a3 : Option Addr) (n3 k3 : Nat) (s : Sv) (t : Tn) (w : World) (hI : IsAt w aw nw l.ws) (hT : ThAt w ah nt l.th) (hz1 : nw * 8 ≤ 140737488351232) (hz2 : nt * 24 ≤ 140737488351232) (hz3 : ∀ c ∈ l.th, c.length * 56 ≤ 140737488351232) (h0 : IsAt w a0 n0 s.ws) (h1 : RgAt w a1 n1 s.rg) (h2 : IsAt w a2 n2 s.pl) (h3 : BfAt w a3 n3 s.bf) (y0 : n0 * 8 ≤ 140737488351232) (y1 : n1 * 32 ≤ 140737488351232) (y2 : n2 * 8 ≤ 140737488351232) (y3 : n3 * 24 ≤ 140737488351232) (y4 : ∀ b ∈ s.bf, b.length * 16 ≤ 140737488351232) (E : Env w) (hc : chkB l = true) (ho : ordB o = false) :
    Calls Tryd.prog 4 #[.agg #[.slice aw nw cw, .slice ah nt ct], .int .i64 o, .agg #[.slice a0 n0 k0, .slice a1 n1 k1, .slice a2 n2 k2, .slice a3 n3 k3], tnV t] w fun e w' => e = .returned (.bool true) ∧ Below w.heap.size w w' := by
  have B0 := bxS_below w aw ah nw cw nt ct #[.slice a0 n0 k0, .slice a1 n1 k1, .slice a2 n2 k2, .slice a3 n3 k3] t
  have b0 := bxS_0 w aw ah nw cw nt ct #[.slice a0 n0 k0, .slice a1 n1 k1, .slice a2 n2 k2, .slice a3 n3 k3] t
  have b1 := bxS_1 w aw ah nw cw nt ct #[.slice a0 n0 k0, .slice a1 n1 k1, .slice a2 n2 k2, .slice a3 n3 k3] t
  have b2 := bxS_2 w aw ah nw cw nt ct #[.slice a0 n0 k0, .slice a1 n1 k1, .slice a2 n2 k2, .slice a3 n3 k3] t
  have li := hI.1
  have lt := hT.1
  have l0 := h0.1
  have l1 := h1.1
  have l2 := h2.1
  have l3 := h3.1
  have TW := Mr.hid (twin_any l aw nw cw ah nt ct _ (hI.below B0) (hT.below B0) hz1 hz2 hz3)
  have CK : Hid (∀ (W : World) (aw' ah' : Option Addr) (cw' ct' : Nat), Below w.heap.size w W → IsAt W aw' nw l.ws → ThAt W ah' nt l.th → Calls Tryd.prog 12 #[.agg #[.slice aw' nw cw', .slice ah' nt ct']] W fun e w' => e = .returned (.int .i64 0) ∧ Below W.heap.size W w') := fun W aw' ah' cw' ct' hW i1 i2 => by
    have := Check_any l aw' nw cw' ah' nt ct' W (E.below hW) i1.1 i2
    rw [hc] at this; exact this
  have RC : Hid (∀ (W : World), Below w.heap.size w W → Calls Tryd.prog 13 #[.agg #[.slice aw nw cw, .slice ah nt ct]] W fun e w' => e = .returned (.bool true) ∧ Below W.heap.size W w') := fun W hW => by
    have := rCheck_any l aw nw cw ah nt ct W hI.1 (hT.below hW)
    rw [hc] at this; exact this
  have BG : Hid (∀ (W : World) (aw' ah' : Option Addr) (cw' ct' : Nat), Below w.heap.size w W → IsAt W aw' nw l.ws → ThAt W ah' nt l.th → Calls Tryd.prog 14 #[.agg #[.slice aw' nw cw', .slice ah' nt ct']] W fun e w' => BegP l W w' e) := fun W aw' ah' cw' ct' hW i1 i2 => Begin_any l aw' ah' nw cw' nt ct' W (E.below hW) i1 i2
  have CP : Hid (∀ (W : World), Below w.heap.size w W → Calls Tryd.prog 16 #[.agg #[.slice a0 n0 k0, .slice a1 n1 k1, .slice a2 n2 k2, .slice a3 n3 k3]] W fun e w' => ∃ b0 c0 b1 c1 b2 c2 b3 c3 m0 m1 m2, e = .returned (.agg #[.slice b0 n0 c0, .slice b1 n1 c1, .slice b2 n2 c2, .slice b3 n3 c3]) ∧ CpO W w' s n0 n1 n2 n3 b0 c0 b1 c1 b2 c2 b3 c3 m0 m1 m2) := fun W hW => rCopy_any s a0 n0 k0 a1 n1 k1 a2 n2 k2 a3 n3 k3 W (h0.below hW) (h1.below hW) (h2.below hW) (h3.below hW) y0 y1 y2 y3 y4
  have SG : Hid (∀ (W : World) (b0 b1 b2 b3 : Option Addr) (c0 c1 c2 c3 : Nat), Below w.heap.size w W → IsAt W b0 n0 s.ws → RgAt W b1 n1 s.rg → IsAt W b2 n2 s.pl → BfAt W b3 n3 s.bf → Calls Tryd.prog 8 #[.agg #[.slice b0 n0 c0, .slice b1 n1 c1, .slice b2 n2 c2, .slice b3 n3 c3], .agg #[.slice a0 n0 k0, .slice a1 n1 k1, .slice a2 n2 k2, .slice a3 n3 k3]] W fun e w' => e = .returned (.bool true) ∧ Below W.heap.size W w') := fun W b0 b1 b2 b3 c0 c1 c2 c3 hW i0 i1 i2 i3 => sameState_eq s _ _ n0 n1 n2 n3 W ⟨_, _, _, _, _, _, _, _, rfl, i0, i1, i2, i3⟩ ⟨_, _, _, _, _, _, _, _, rfl, h0.below hW, h1.below hW, h2.below hW, h3.below hW⟩ (by omega) (by omega) (by omega) (by omega) (fun b hb => by have := y4 b hb; omega)
  have SL : Hid (∀ (W : World) (aw' ah' : Option Addr) (cw' ct' : Nat), Below w.heap.size w W → IsAt W aw' nw l.ws → ThAt W ah' nt l.th → Calls Tryd.prog 10 #[.agg #[.slice aw' nw cw', .slice ah' nt ct'], .agg #[.slice aw nw cw, .slice ah nt ct]] W fun e w' => e = .returned (.bool true) ∧ Below W.heap.size W w') := fun W aw' ah' cw' ct' hW i1 i2 => sameLitmus_eq l aw' aw nw cw' cw ah' ah nt ct' ct W i1 (hI.below hW) i2 (hT.below hW) (by omega) (by omega) (fun c hc => by have := hz3 c hc; omega)
  have NU := Mr.hid num_any
  obtain ⟨q1, q2, q3⟩ := chk_len hc
  have RB : Hid (∀ (W : World), Below w.heap.size w W → Calls Tryd.prog 15 #[.agg #[.slice aw nw cw, .slice ah nt ct]] W fun e w' => ∃ g1 g2 g3 g4 c1, e = .returned (.agg #[.slice (some ⟨g1, 0, none⟩) nw c1, .slice (some ⟨g2, 0, none⟩) nt nt, .slice (some ⟨g3, 0, none⟩) nt nt, .slice (some ⟨g4, 0, none⟩) nt nt]) ∧ Bg W w' l nw nt g1 g2 g3 g4 c1) := fun W hW => rBegin_any l aw ah nw cw nt ct W (hI.below hW) (by omega) (by omega) (by omega)
  have SF : Hid (∀ (W : World) (v v' : Array Value), SvAt W v (begS l) nw nt nt nt → SvAt W v' (begS l) nw nt nt nt → Calls Tryd.prog 8 #[.agg v, .agg v'] W fun e w' => e = .returned (.bool true) ∧ Below W.heap.size W w') := fun W v v' i1 i2 => sameState_eq _ v v' _ _ _ _ W i1 i2 (by omega) (by omega) (by omega) (by omega) (fun b hb => by simp [begS] at hb; rw [hb.2]; simp)
  have SN : Hid (∀ (W : World) (v : Array Value), SvAt W v nilS 0 0 0 0 → Calls Tryd.prog 8 #[.agg v, .agg #[.slice none 0 0, .slice none 0 0, .slice none 0 0, .slice none 0 0]] W fun e w' => e = .returned (.bool true) ∧ Below W.heap.size W w') := fun W v i1 => sameState_eq _ v _ _ _ _ _ W i1 (SvAt.nil W) (by omega) (by omega) (by omega) (by omega) (fun b hb => by simp [nilS] at hb)
  have hnr : nxtR l o s t = (nilS, false, 191) := by unfold nxtR bothE; rw [hc, ho]; simp
  have NX : Hid (∀ (W : World) (aw' ah' b0 b1 b2 b3 : Option Addr) (cw' ct' c0 c1 c2 c3 : Nat), Below w.heap.size w W → IsAt W aw' nw l.ws → ThAt W ah' nt l.th → IsAt W b0 n0 s.ws → RgAt W b1 n1 s.rg → IsAt W b2 n2 s.pl → BfAt W b3 n3 s.bf → Calls Tryd.prog 17 #[.agg #[.slice aw' nw cw', .slice ah' nt ct'], .int .i64 o, .agg #[.slice b0 n0 c0, .slice b1 n1 c1, .slice b2 n2 c2, .slice b3 n3 c3], tnV t] W fun e w' => ∃ v, e = .returned (.tuple #[.agg v, .bool false, .int .i64 191]) ∧ SvAt w' v nilS 0 0 0 0 ∧ Below W.heap.size W w') := fun W aw' ah' b0 b1 b2 b3 cw' ct' c0 c1 c2 c3 hW i1 i2 j0 j1 j2 j3 => by
    have hq : Nq W l s aw' ah' b0 b1 b2 b3 nw nt n0 n1 n2 n3 := ⟨E.below hW, i1, i2, j0, j1, j2, j3⟩
    have := Next_err l o s t aw' ah' b0 b1 b2 b3 nw cw' nt ct' n0 c0 n1 c1 n2 c2 n3 c3 W hq (by unfold bothE; rw [hc, ho]; simp)
    rw [hnr] at this; exact this
  have IsO := Mr.hid (fun W => rIsOrder_any o W)
  rw [ho] at IsO
  have hl3 := Mr.hid l3
  have hli : Hid (l.ws.length = nw) := li.symm
  have hlt : Hid (l.th.length = nt) := lt.symm
  obtain ⟨th, ou, ad⟩ := t
  unfold tnV at *
  have x0 := cell_blk b0 0
  have x1 := cell_blk b0 1
  have b0' := Mr.hid b0
  have b1' := Mr.hid b1
  have b2' := Mr.hid b2
  replace B0 := Mr.hid B0
  replace hc := Mr.hid hc
  clear hI hT hz1 hz2 hz3 h0 h1 h2 h3 y0 y1 y2 y3 y4 E li lt l0 l1 l2 l3 b0 b1 b2 hnr ho
  unfold bxS bx1 at *
  go_enter Tryd.func4, Tryd.ntmps4
  go_upto_region 2 with (go_at_call 5; refine TW.out.mono ?_; clear TW; rintro e w2 ⟨aw', cw', ah', ct', rfl, I2, T2, hc1, hc2, B2⟩; have e0 := (B2.block _ (Array.getElem?_eq_some_iff.1 b0'.out).1).trans b0'.out; have e1 := Mr.hid ((B2.block _ (Array.getElem?_eq_some_iff.1 b1'.out).1).trans b1'.out); have e2 := Mr.hid ((B2.block _ (Array.getElem?_eq_some_iff.1 b2'.out).1).trans b2'.out); have BB : Below w.heap.size w w2 := B0.out.trans (B2.mono B0.out.size); replace I2 := Mr.hid I2; replace T2 := Mr.hid T2; clear B2 b0' b1' b2' x0 x1)
  have hx2L : Hid (w.heap.size + 1 + 1 < w2.heap.size) := (Array.getElem?_eq_some_iff.1 e2.out).1
  have B3 : Below w2.heap.size w2 (w2.alloc (.cells #[.slice aw' nw cw', .slice ah' nt ct'] 25)) := (Below.refl _ _).alloc (Nat.le_refl _) _
  have f0 : (w2.alloc (.cells #[.slice aw' nw cw', .slice ah' nt ct'] 25)).heap[w2.heap.size]? = some (.cells #[.slice aw' nw cw', .slice ah' nt ct'] 25 (0, 0)) := new_at _ _ _ rfl
  replace e0 := (B3.block _ (Array.getElem?_eq_some_iff.1 e0).1).trans e0
  replace e1 := Mr.hid ((B3.block _ (Array.getElem?_eq_some_iff.1 e1.out).1).trans e1.out)
  replace e2 := Mr.hid ((B3.block _ (Array.getElem?_eq_some_iff.1 e2.out).1).trans e2.out)
  replace I2 := Mr.hid (I2.out.below B3)
  replace T2 := Mr.hid (T2.out.below B3)
  replace BB := Mr.hid (BB.trans (B3.mono BB.size))
  clear B3
  generalize hx2 : w2.heap.size = x2 at *
  replace hx2 := Mr.hid hx2
  generalize (w2.alloc (.cells #[.slice aw' nw cw', .slice ah' nt ct'] 25)) = w3 at *
  have C3 := Mr.hid (CK.out w3 aw' ah' cw' ct' BB.out I2.out T2.out)
  have z0 := cell_blk f0 0
  have z1 := cell_blk f0 1
  clear CK
  go_upto_region 3 with (go_at_call 12; refine C3.out.mono ?_; clear C3; rintro e w4 ⟨rfl, B4⟩)
  replace e0 := (B4.block _ (Array.getElem?_eq_some_iff.1 e0).1).trans e0
  replace e1 := Mr.hid ((B4.block _ (Array.getElem?_eq_some_iff.1 e1.out).1).trans e1.out)
  replace e2 := Mr.hid ((B4.block _ (Array.getElem?_eq_some_iff.1 e2.out).1).trans e2.out)
  replace f0 := (B4.block _ (Array.getElem?_eq_some_iff.1 f0).1).trans f0
  replace I2 := Mr.hid (I2.out.below B4)
  replace T2 := Mr.hid (T2.out.below B4)
  replace BB := Mr.hid (BB.out.trans (B4.mono BB.out.size))
  have C4 := Mr.hid (RC.out w4 BB.out)
  have x0 := cell_blk e0 0
  have x1 := cell_blk e0 1
  clear B4 z0 z1 RC
  go_upto_region 4 with (go_at_call 13; refine C4.out.mono ?_; clear C4; rintro e w5 ⟨rfl, B5⟩)
  replace e0 := (B5.block _ (Array.getElem?_eq_some_iff.1 e0).1).trans e0
  replace e1 := Mr.hid ((B5.block _ (Array.getElem?_eq_some_iff.1 e1.out).1).trans e1.out)
  replace e2 := Mr.hid ((B5.block _ (Array.getElem?_eq_some_iff.1 e2.out).1).trans e2.out)
  replace f0 := (B5.block _ (Array.getElem?_eq_some_iff.1 f0).1).trans f0
  replace I2 := Mr.hid (I2.out.below B5)
  replace T2 := Mr.hid (T2.out.below B5)
  replace BB := Mr.hid (BB.out.trans (B5.mono BB.out.size))
  have C5 := Mr.hid (BG.out w5 aw' ah' cw' ct' BB.out I2.out T2.out)
  have z0 := cell_blk f0 0
  have z1 := cell_blk f0 1
  clear B5 BG x0 x1
  go_upto_region 5 with (go_at_call 14; refine C5.out.mono ?_; clear C5; rintro e w6 ⟨v6, rfl, D6, B6⟩; rw [hc.out] at D6 ⊢; simp only [if_true, if_false, Bool.false_eq_true, hli.out, hlt.out] at D6 ⊢; obtain ⟨p1, u1, p2, u2, p3, u3, p4, u4, rfl, D6'⟩ := D6.ex; clear D6'; replace D6 := Mr.hid D6; replace B6 := Mr.hid B6)
  have B7 : Below w6.heap.size w6 (w6.alloc (.cells #[.slice p1 nw u1, .slice p2 nt u2, .slice p3 nt u3, .slice p4 nt u4] 32)) := (Below.refl _ _).alloc (Nat.le_refl _) _
  have B57 : Below w5.heap.size w5 (w6.alloc (.cells #[.slice p1 nw u1, .slice p2 nt u2, .slice p3 nt u3, .slice p4 nt u4] 32)) := B6.out.trans (B7.mono B6.out.size)
  have g0 : (w6.alloc (.cells #[.slice p1 nw u1, .slice p2 nt u2, .slice p3 nt u3, .slice p4 nt u4] 32)).heap[w6.heap.size]? = some (.cells #[.slice p1 nw u1, .slice p2 nt u2, .slice p3 nt u3, .slice p4 nt u4] 32 (0, 0)) := new_at _ _ _ rfl
  replace D6 := Mr.hid (D6.out.below B7)
  replace e0 := (B57.block _ (Array.getElem?_eq_some_iff.1 e0).1).trans e0
  replace e1 := Mr.hid ((B57.block _ (Array.getElem?_eq_some_iff.1 e1.out).1).trans e1.out)
  replace e2 := Mr.hid ((B57.block _ (Array.getElem?_eq_some_iff.1 e2.out).1).trans e2.out)
  replace f0 := (B57.block _ (Array.getElem?_eq_some_iff.1 f0).1).trans f0
  replace I2 := Mr.hid (I2.out.below B57)
  replace T2 := Mr.hid (T2.out.below B57)
  replace BB := Mr.hid (BB.out.trans (B57.mono BB.out.size))
  clear B7 B57 B6 z0 z1
  generalize hx6 : w6.heap.size = x6 at *
  replace hx6 := Mr.hid hx6
  generalize (w6.alloc (.cells #[.slice p1 nw u1, .slice p2 nt u2, .slice p3 nt u3, .slice p4 nt u4] 32)) = w7 at *
  have k0 := cell_blk g0 0
  have k1 := cell_blk g0 1
  have k2 := cell_blk g0 2
  have k3 := cell_blk g0 3
  have m0 := cell_blk e0 0
  have m1 := cell_blk e0 1
  have lk := (Array.getElem?_eq_some_iff.1 g0).1
  have lm := (Array.getElem?_eq_some_iff.1 e0).1
  clear g0
  refine wp_region_held_drew (S := (fun W => W.cell? ⟨x6, 0, none⟩ = some (.slice p1 nw u1) ∧ W.cell? ⟨x6, 1, none⟩ = some (.slice p2 nt u2) ∧ W.cell? ⟨x6, 2, none⟩ = some (.slice p3 nt u3) ∧ W.cell? ⟨x6, 3, none⟩ = some (.slice p4 nt u4) ∧ W.cell? ⟨w.heap.size, 0, none⟩ = some (.slice aw nw cw) ∧ W.cell? ⟨w.heap.size, 1, none⟩ = some (.slice ah nt ct))) (by kernel_rfl) ⟨k0, k1, k2, k3, m0, m1⟩ (fun hHeld => ?_)
  try simp only [Act.put, List.setIfInBounds_toArray, List.set_cons_zero, List.set_cons_succ]
  refine wpAnyH_take (i := 0) (oi := (⟨_, _, _, _, _, _⟩ : Oper)) (v := ?_) rfl (by kernel_rfl) (by kernel_rfl) (by kernel_rfl) (fun _ _ _ h => h) (Or.inl ⟨by rfl, ?_⟩) (by assumption) ?_
  rotate_left
  · intro w9 hSw
    (try dsimp only at hSw)
    go_simp
    all_goals (with_reducible rfl)
  try simp only [Act.put, List.setIfInBounds_toArray, List.set_cons_zero, List.set_cons_succ]
  refine wpAnyH_take (i := 1) (oi := (⟨_, _, _, _, _, _⟩ : Oper)) (v := ?_) rfl (by kernel_rfl) (by kernel_rfl) (by kernel_rfl) (fun _ _ _ h => h) (Or.inl ⟨by rfl, ?_⟩) (by assumption) ?_
  rotate_left
  · intro w9 hSw
    (try dsimp only at hSw)
    go_simp
    all_goals (with_reducible rfl)
  try simp only [Act.put, List.setIfInBounds_toArray, List.set_cons_zero, List.set_cons_succ]
  refine wpAnyH_ready (rs := [2]) (by kernel_rfl) (by simp) ?_
  refine AllReadyH.cons (o := (⟨_, _, _, _, _, _⟩ : Oper)) rfl (fun K hK => ?_) (AllReadyH.nil)
  go_simp
  go_at_call 9
  refine (NU.out _ _).mono ?_
  rintro e w99 ⟨rfl, hw99⟩
  obtain rfl := hw99.symm
  try (go_wp2_with fail)
  refine hK.out _ _ ⟨k0, k1, k2, k3, m0, m1⟩ (fun hHeld9 => ?_)
  clear hK K hHeld
  have hHeld := hHeld9
  clear hHeld9
  try simp only [Act.put, List.setIfInBounds_toArray, List.set_cons_zero, List.set_cons_succ]
  refine wpAnyH_take (i := 3) (oi := (⟨_, _, _, _, _, _⟩ : Oper)) (v := ?_) rfl (by kernel_rfl) (by kernel_rfl) (by kernel_rfl) (fun _ _ _ h => h) (Or.inl ⟨by rfl, ?_⟩) (by assumption) ?_
  rotate_left
  · intro w9 hSw
    (try dsimp only at hSw)
    go_simp
    all_goals (with_reducible rfl)
  try simp only [Act.put, List.setIfInBounds_toArray, List.set_cons_zero, List.set_cons_succ]
  refine wpAnyH_take (i := 4) (oi := (⟨_, _, _, _, _, _⟩ : Oper)) (v := ?_) rfl (by kernel_rfl) (by kernel_rfl) (by kernel_rfl) (fun _ _ _ h => h) (Or.inl ⟨by rfl, ?_⟩) (by assumption) ?_
  rotate_left
  · intro w9 hSw
    (try dsimp only at hSw)
    go_simp
    all_goals (with_reducible rfl)
  try simp only [Act.put, List.setIfInBounds_toArray, List.set_cons_zero, List.set_cons_succ]
  refine wpAnyH_take (i := 5) (oi := (⟨_, _, _, _, _, _⟩ : Oper)) (v := ?_) rfl (by kernel_rfl) (by kernel_rfl) (by kernel_rfl) (fun _ _ _ h => h) (Or.inl ⟨by rfl, ?_⟩) (by assumption) ?_
  rotate_left
  · intro w9 hSw
    (try dsimp only at hSw)
    go_simp
    all_goals (with_reducible rfl)
  try simp only [Act.put, List.setIfInBounds_toArray, List.set_cons_zero, List.set_cons_succ]
  refine wpAnyH_take (i := 6) (oi := (⟨_, _, _, _, _, _⟩ : Oper)) (v := ?_) rfl (by kernel_rfl) (by kernel_rfl) (by kernel_rfl) (fun _ _ _ h => h) (Or.inl ⟨by rfl, ?_⟩) (by assumption) ?_
  rotate_left
  · intro w9 hSw
    (try dsimp only at hSw)
    go_simp
    all_goals (with_reducible rfl)
  try simp only [Act.put, List.setIfInBounds_toArray, List.set_cons_zero, List.set_cons_succ]
  refine wpAnyH_take (i := 7) (oi := (⟨_, _, _, _, _, _⟩ : Oper)) (v := ?_) rfl (by kernel_rfl) (by kernel_rfl) (by kernel_rfl) (fun _ _ _ h => h) (Or.inl ⟨by rfl, ?_⟩) (by assumption) ?_
  rotate_left
  · intro w9 hSw
    (try dsimp only at hSw)
    go_simp
    all_goals (with_reducible rfl)
  try simp only [Act.put, List.setIfInBounds_toArray, List.set_cons_zero, List.set_cons_succ]
  refine wpAnyH_take (i := 8) (oi := (⟨_, _, _, _, _, _⟩ : Oper)) (v := ?_) rfl (by kernel_rfl) (by kernel_rfl) (by kernel_rfl) (fun _ _ _ h => h) (Or.inl ⟨by rfl, ?_⟩) (by assumption) ?_
  rotate_left
  · intro w9 hSw
    (try dsimp only at hSw)
    go_simp
    all_goals (with_reducible rfl)
  try simp only [Act.put, List.setIfInBounds_toArray, List.set_cons_zero, List.set_cons_succ]
  refine wpAnyH_take (i := 9) (oi := (⟨_, _, _, _, _, _⟩ : Oper)) (v := ?_) rfl (by kernel_rfl) (by kernel_rfl) (by kernel_rfl) (fun _ _ _ h => h) (Or.inl ⟨by rfl, ?_⟩) (by assumption) ?_
  rotate_left
  · intro w9 hSw
    (try dsimp only at hSw)
    go_simp
    all_goals (with_reducible rfl)
  try simp only [Act.put, List.setIfInBounds_toArray, List.set_cons_zero, List.set_cons_succ]
  refine wpAnyH_take (i := 10) (oi := (⟨_, _, _, _, _, _⟩ : Oper)) (v := ?_) rfl (by kernel_rfl) (by kernel_rfl) (by kernel_rfl) (fun _ _ _ h => h) (Or.inl ⟨by rfl, ?_⟩) (by assumption) ?_
  rotate_left
  · intro w9 hSw
    (try dsimp only at hSw)
    go_simp
    all_goals (with_reducible rfl)
  try simp only [Act.put, List.setIfInBounds_toArray, List.set_cons_zero, List.set_cons_succ]
  refine wpAnyH_take (i := 11) (oi := (⟨_, _, _, _, _, _⟩ : Oper)) (v := ?_) rfl (by kernel_rfl) (by kernel_rfl) (by kernel_rfl) (fun _ _ _ h => h) (Or.inl ⟨by rfl, ?_⟩) (by assumption) ?_
  rotate_left
  · intro w9 hSw
    (try dsimp only at hSw)
    go_simp
    all_goals (with_reducible rfl)
  try simp only [Act.put, List.setIfInBounds_toArray, List.set_cons_zero, List.set_cons_succ]
  refine wpAnyH_take (i := 12) (oi := (⟨_, _, _, _, _, _⟩ : Oper)) (v := ?_) rfl (by kernel_rfl) (by kernel_rfl) (by kernel_rfl) (fun _ _ _ h => h) (Or.inl ⟨by rfl, ?_⟩) (by assumption) ?_
  rotate_left
  · intro w9 hSw
    (try dsimp only at hSw)
    go_simp
    all_goals (with_reducible rfl)
  try simp only [Act.put, List.setIfInBounds_toArray, List.set_cons_zero, List.set_cons_succ]
  refine wpAnyH_take (i := 13) (oi := (⟨_, _, _, _, _, _⟩ : Oper)) (v := ?_) rfl (by kernel_rfl) (by kernel_rfl) (by kernel_rfl) (fun _ _ _ h => h) (Or.inl ⟨by rfl, ?_⟩) (by assumption) ?_
  rotate_left
  · intro w9 hSw
    (try dsimp only at hSw)
    go_simp
    all_goals (with_reducible rfl)
  try simp only [Act.put, List.setIfInBounds_toArray, List.set_cons_zero, List.set_cons_succ]
  refine wpAnyH_take (i := 14) (oi := (⟨_, _, _, _, _, _⟩ : Oper)) (v := undef) rfl (by kernel_rfl) (by kernel_rfl) (by kernel_rfl) (fun _ _ _ h => h) (Or.inr ⟨by kernel_rfl, rfl⟩) (by assumption) ?_
  try simp only [Act.put, List.setIfInBounds_toArray, List.set_cons_zero, List.set_cons_succ]
  refine wpAnyH_take (i := 15) (oi := (⟨_, _, _, _, _, _⟩ : Oper)) (v := undef) rfl (by kernel_rfl) (by kernel_rfl) (by kernel_rfl) (fun _ _ _ h => h) (Or.inr ⟨by kernel_rfl, rfl⟩) (by assumption) ?_
  try simp only [Act.put, List.setIfInBounds_toArray, List.set_cons_zero, List.set_cons_succ]
  refine wpAnyH_take (i := 16) (oi := (⟨_, _, _, _, _, _⟩ : Oper)) (v := undef) rfl (by kernel_rfl) (by kernel_rfl) (by kernel_rfl) (fun _ _ _ h => h) (Or.inr ⟨by kernel_rfl, rfl⟩) (by assumption) ?_
  try simp only [Act.put, List.setIfInBounds_toArray, List.set_cons_zero, List.set_cons_succ]
  refine wpAnyH_take (i := 17) (oi := (⟨_, _, _, _, _, _⟩ : Oper)) (v := ?_) rfl (by kernel_rfl) (by kernel_rfl) (by kernel_rfl) (fun _ _ _ h => h) (Or.inl ⟨by rfl, ?_⟩) (by assumption) ?_
  rotate_left
  · intro w9 hSw
    (try dsimp only at hSw)
    go_simp
    all_goals (with_reducible rfl)
  try simp only [Act.put, List.setIfInBounds_toArray, List.set_cons_zero, List.set_cons_succ]
  refine wpAnyH_take (i := 18) (oi := (⟨_, _, _, _, _, _⟩ : Oper)) (v := ?_) rfl (by kernel_rfl) (by kernel_rfl) (by kernel_rfl) (fun _ _ _ h => h) (Or.inl ⟨by rfl, ?_⟩) (by assumption) ?_
  rotate_left
  · intro w9 hSw
    (try dsimp only at hSw)
    go_simp
    all_goals (with_reducible rfl)
  try simp only [Act.put, List.setIfInBounds_toArray, List.set_cons_zero, List.set_cons_succ]
  refine wpAnyH_take (i := 19) (oi := (⟨_, _, _, _, _, _⟩ : Oper)) (v := ?_) rfl (by kernel_rfl) (by kernel_rfl) (by kernel_rfl) (fun _ _ _ h => h) (Or.inl ⟨by rfl, ?_⟩) (by assumption) ?_
  rotate_left
  · intro w9 hSw
    (try dsimp only at hSw)
    go_simp
    all_goals (with_reducible rfl)
  try simp only [Act.put, List.setIfInBounds_toArray, List.set_cons_zero, List.set_cons_succ]
  refine wpAnyH_take (i := 20) (oi := (⟨_, _, _, _, _, _⟩ : Oper)) (v := ?_) rfl (by kernel_rfl) (by kernel_rfl) (by kernel_rfl) (fun _ _ _ h => h) (Or.inl ⟨by rfl, ?_⟩) (by assumption) ?_
  rotate_left
  · intro w9 hSw
    (try dsimp only at hSw)
    go_simp
    all_goals (with_reducible rfl)
  try simp only [Act.put, List.setIfInBounds_toArray, List.set_cons_zero, List.set_cons_succ]
  refine wpAnyH_take (i := 21) (oi := (⟨_, _, _, _, _, _⟩ : Oper)) (v := ?_) rfl (by kernel_rfl) (by kernel_rfl) (by kernel_rfl) (fun _ _ _ h => h) (Or.inl ⟨by rfl, ?_⟩) (by assumption) ?_
  rotate_left
  · intro w9 hSw
    (try dsimp only at hSw)
    go_simp
    all_goals (with_reducible rfl)
  try simp only [Act.put, List.setIfInBounds_toArray, List.set_cons_zero, List.set_cons_succ]
  refine wpAnyH_take (i := 22) (oi := (⟨_, _, _, _, _, _⟩ : Oper)) (v := ?_) rfl (by kernel_rfl) (by kernel_rfl) (by kernel_rfl) (fun _ _ _ h => h) (Or.inl ⟨by rfl, ?_⟩) (by assumption) ?_
  rotate_left
  · intro w9 hSw
    (try dsimp only at hSw)
    go_simp
    all_goals (with_reducible rfl)
  try simp only [Act.put, List.setIfInBounds_toArray, List.set_cons_zero, List.set_cons_succ]
  refine wpAnyH_take (i := 23) (oi := (⟨_, _, _, _, _, _⟩ : Oper)) (v := undef) rfl (by kernel_rfl) (by kernel_rfl) (by kernel_rfl) (fun _ _ _ h => h) (Or.inr ⟨by kernel_rfl, rfl⟩) (by assumption) ?_
  try simp only [Act.put, List.setIfInBounds_toArray, List.set_cons_zero, List.set_cons_succ]
  refine wpAnyH_take (i := 24) (oi := (⟨_, _, _, _, _, _⟩ : Oper)) (v := undef) rfl (by kernel_rfl) (by kernel_rfl) (by kernel_rfl) (fun _ _ _ h => h) (Or.inr ⟨by kernel_rfl, rfl⟩) (by assumption) ?_
  try simp only [Act.put, List.setIfInBounds_toArray, List.set_cons_zero, List.set_cons_succ]
  refine wpAnyH_take (i := 25) (oi := (⟨_, _, _, _, _, _⟩ : Oper)) (v := undef) rfl (by kernel_rfl) (by kernel_rfl) (by kernel_rfl) (fun _ _ _ h => h) (Or.inr ⟨by kernel_rfl, rfl⟩) (by assumption) ?_
  try simp only [Act.put, List.setIfInBounds_toArray, List.set_cons_zero, List.set_cons_succ]
  refine wpAnyH_take (i := 26) (oi := (⟨_, _, _, _, _, _⟩ : Oper)) (v := undef) rfl (by kernel_rfl) (by kernel_rfl) (by kernel_rfl) (fun _ _ _ h => h) (Or.inr ⟨by kernel_rfl, rfl⟩) (by assumption) ?_
  try simp only [Act.put, List.setIfInBounds_toArray, List.set_cons_zero, List.set_cons_succ]
  refine wpAnyH_take (i := 27) (oi := (⟨_, _, _, _, _, _⟩ : Oper)) (v := ?_) rfl (by kernel_rfl) (by kernel_rfl) (by kernel_rfl) (fun _ _ _ h => h) (Or.inl ⟨by rfl, ?_⟩) (by assumption) ?_
  rotate_left
  · intro w9 hSw
    (try dsimp only at hSw)
    go_simp
    all_goals (with_reducible rfl)
  try simp only [Act.put, List.setIfInBounds_toArray, List.set_cons_zero, List.set_cons_succ]
  refine wpAnyH_take (i := 28) (oi := (⟨_, _, _, _, _, _⟩ : Oper)) (v := ?_) rfl (by kernel_rfl) (by kernel_rfl) (by kernel_rfl) (fun _ _ _ h => h) (Or.inl ⟨by rfl, ?_⟩) (by assumption) ?_
  rotate_left
  · intro w9 hSw
    (try dsimp only at hSw)
    go_simp
    all_goals (with_reducible rfl)
  try simp only [Act.put, List.setIfInBounds_toArray, List.set_cons_zero, List.set_cons_succ]
  refine wpAnyH_take (i := 29) (oi := (⟨_, _, _, _, _, _⟩ : Oper)) (v := ?_) rfl (by kernel_rfl) (by kernel_rfl) (by kernel_rfl) (fun _ _ _ h => h) (Or.inl ⟨by rfl, ?_⟩) (by assumption) ?_
  rotate_left
  · intro w9 hSw
    (try dsimp only at hSw)
    go_simp
    all_goals (with_reducible rfl)
  try simp only [Act.put, List.setIfInBounds_toArray, List.set_cons_zero, List.set_cons_succ]
  refine wpAnyH_take (i := 30) (oi := (⟨_, _, _, _, _, _⟩ : Oper)) (v := ?_) rfl (by kernel_rfl) (by kernel_rfl) (by kernel_rfl) (fun _ _ _ h => h) (Or.inl ⟨by rfl, ?_⟩) (by assumption) ?_
  rotate_left
  · intro w9 hSw
    (try dsimp only at hSw)
    go_simp
    all_goals (with_reducible rfl)
  try simp only [Act.put, List.setIfInBounds_toArray, List.set_cons_zero, List.set_cons_succ]
  refine wpAnyH_take (i := 31) (oi := (⟨_, _, _, _, _, _⟩ : Oper)) (v := ?_) rfl (by kernel_rfl) (by kernel_rfl) (by kernel_rfl) (fun _ _ _ h => h) (Or.inl ⟨by rfl, ?_⟩) (by assumption) ?_
  rotate_left
  · intro w9 hSw
    (try dsimp only at hSw)
    go_simp
    all_goals (with_reducible rfl)
  try simp only [Act.put, List.setIfInBounds_toArray, List.set_cons_zero, List.set_cons_succ]
  refine wpAnyH_take (i := 32) (oi := (⟨_, _, _, _, _, _⟩ : Oper)) (v := ?_) rfl (by kernel_rfl) (by kernel_rfl) (by kernel_rfl) (fun _ _ _ h => h) (Or.inl ⟨by rfl, ?_⟩) (by assumption) ?_
  rotate_left
  · intro w9 hSw
    (try dsimp only at hSw)
    go_simp
    all_goals (with_reducible rfl)
  try simp only [Act.put, List.setIfInBounds_toArray, List.set_cons_zero, List.set_cons_succ]
  refine wpAnyH_take (i := 33) (oi := (⟨_, _, _, _, _, _⟩ : Oper)) (v := ?_) rfl (by kernel_rfl) (by kernel_rfl) (by kernel_rfl) (fun _ _ _ h => h) (Or.inl ⟨by rfl, ?_⟩) (by assumption) ?_
  rotate_left
  · intro w9 hSw
    (try dsimp only at hSw)
    go_simp
    all_goals (with_reducible rfl)
  try simp only [Act.put, List.setIfInBounds_toArray, List.set_cons_zero, List.set_cons_succ]
  refine wpAnyH_ready (rs := [34]) (by kernel_rfl) (by simp) ?_
  refine AllReadyH.cons (o := (⟨_, _, _, _, _, _⟩ : Oper)) rfl (fun K hK => ?_) (AllReadyH.nil)
  go_simp
  go_at_call 15
  refine (RB.out w7.drew BB.out.drew).mono ?_
  rintro e w8 ⟨g1, g2, g3, g4, c1, rfl, hBg⟩
  have B78 : Below w7.heap.size w7 w8 := (Below.refl _ _).drew.trans (hBg.B.mono (Nat.le_refl _))
  replace k0 := (B78.cell (p := ⟨x6, 0, none⟩) lk).trans k0
  replace k1 := (B78.cell (p := ⟨x6, 1, none⟩) lk).trans k1
  replace k2 := (B78.cell (p := ⟨x6, 2, none⟩) lk).trans k2
  replace k3 := (B78.cell (p := ⟨x6, 3, none⟩) lk).trans k3
  replace m0 := (B78.cell (p := ⟨w.heap.size, 0, none⟩) lm).trans m0
  replace m1 := (B78.cell (p := ⟨w.heap.size, 1, none⟩) lm).trans m1
  try (go_wp2_with fail)
  refine hK.out _ _ ⟨k0, k1, k2, k3, m0, m1⟩ (fun hHeld9 => ?_)
  clear hK K hHeld
  have hHeld := hHeld9
  clear hHeld9
  try simp only [Act.put, List.setIfInBounds_toArray, List.set_cons_zero, List.set_cons_succ]
  refine wpAnyH_ready (rs := [35]) (by kernel_rfl) (by simp) ?_
  refine AllReadyH.cons (o := (⟨_, _, _, _, _, _⟩ : Oper)) rfl (fun K hK => ?_) (AllReadyH.nil)
  go_simp
  go_at_call 8
  refine (SF.out _ _ _ (D6.out.below B78) (hBg.sv hli.out.symm hlt.out.symm)).mono ?_
  rintro e w9 ⟨rfl, B9⟩
  have B79 : Below w7.heap.size w7 w9 := B78.trans (B9.mono B78.size)
  replace lk := Nat.lt_of_lt_of_le lk B78.size
  replace lm := Nat.lt_of_lt_of_le lm B78.size
  replace k0 := (B9.cell (p := ⟨x6, 0, none⟩) lk).trans k0
  replace k1 := (B9.cell (p := ⟨x6, 1, none⟩) lk).trans k1
  replace k2 := (B9.cell (p := ⟨x6, 2, none⟩) lk).trans k2
  replace k3 := (B9.cell (p := ⟨x6, 3, none⟩) lk).trans k3
  replace m0 := (B9.cell (p := ⟨w.heap.size, 0, none⟩) lm).trans m0
  replace m1 := (B9.cell (p := ⟨w.heap.size, 1, none⟩) lm).trans m1
  try (go_wp2_with fail)
  refine hK.out _ _ ⟨k0, k1, k2, k3, m0, m1⟩ (fun hHeld9 => ?_)
  clear hK K hHeld
  have hHeld := hHeld9
  clear hHeld9
  try simp only [Act.put, List.setIfInBounds_toArray, List.set_cons_zero, List.set_cons_succ]
  refine wpAnyH_take (i := 36) (oi := (⟨_, _, _, _, _, _⟩ : Oper)) (v := ?_) rfl (by kernel_rfl) (by kernel_rfl) (by kernel_rfl) (fun _ _ _ h => h) (Or.inl ⟨by rfl, ?_⟩) (by assumption) ?_
  rotate_left
  · intro w9 hSw
    (try dsimp only at hSw)
    go_simp
    all_goals (with_reducible rfl)
  try simp only [Act.put, List.setIfInBounds_toArray, List.set_cons_zero, List.set_cons_succ]
  refine wpAnyH_take (i := 37) (oi := (⟨_, _, _, _, _, _⟩ : Oper)) (v := ?_) rfl (by kernel_rfl) (by kernel_rfl) (by kernel_rfl) (fun _ _ _ h => h) (Or.inl ⟨by rfl, ?_⟩) (by assumption) ?_
  rotate_left
  · intro w9 hSw
    (try dsimp only at hSw)
    go_simp
    all_goals (with_reducible rfl)
  try simp only [Act.put, List.setIfInBounds_toArray, List.set_cons_zero, List.set_cons_succ]
  refine wpAnyH_take (i := 38) (oi := (⟨_, _, _, _, _, _⟩ : Oper)) (v := ?_) rfl (by kernel_rfl) (by kernel_rfl) (by kernel_rfl) (fun _ _ _ h => h) (Or.inl ⟨by rfl, ?_⟩) (by assumption) ?_
  rotate_left
  · intro w9 hSw
    (try dsimp only at hSw)
    go_simp
    all_goals (with_reducible rfl)
  try simp only [Act.put, List.setIfInBounds_toArray, List.set_cons_zero, List.set_cons_succ]
  refine wpAnyH_done (by kernel_rfl) ?_ _
  replace B79 := Mr.hid B79
  clear hHeld k0 k1 k2 k3 m0 m1 lk lm SF
  replace e0 := (B79.out.block _ (Array.getElem?_eq_some_iff.1 e0).1).trans e0
  replace e1 := Mr.hid ((B79.out.block _ (Array.getElem?_eq_some_iff.1 e1.out).1).trans e1.out)
  replace e2 := Mr.hid ((B79.out.block _ (Array.getElem?_eq_some_iff.1 e2.out).1).trans e2.out)
  replace f0 := (B79.out.block _ (Array.getElem?_eq_some_iff.1 f0).1).trans f0
  replace I2 := Mr.hid (I2.out.below B79.out)
  replace T2 := Mr.hid (T2.out.below B79.out)
  replace BB := Mr.hid (BB.out.trans (B79.out.mono BB.out.size))
  have C9 := Mr.hid (CP.out w9 BB.out)
  have s0 := cell_blk e1.out 0
  have s1 := cell_blk e1.out 1
  have s2 := cell_blk e1.out 2
  have s3 := cell_blk e1.out 3
  have ls := (Array.getElem?_eq_some_iff.1 e1.out).1
  replace e0 := Mr.hid e0
  replace f0 := Mr.hid f0
  clear B79
  go_upto_region 8 with (go_at_call 16; refine C9.out.mono ?_; clear C9; rintro e w10 ⟨b0, c0, b1, c1, b2, c2, b3, c3, m0, m1, m2, rfl, hCp⟩)
  obtain ⟨j0, j1, j2, j3⟩ := hCp.sv hl3.out
  replace j0 := Mr.hid j0
  replace j1 := Mr.hid j1
  replace j2 := Mr.hid j2
  replace j3 := Mr.hid j3
  have B11 : Below w10.heap.size w10 (w10.alloc (.cells #[.slice b0 n0 c0, .slice b1 n1 c1, .slice b2 n2 c2, .slice b3 n3 c3] 32)) := (Below.refl _ _).alloc (Nat.le_refl _) _
  have B911 : Below w9.heap.size w9 (w10.alloc (.cells #[.slice b0 n0 c0, .slice b1 n1 c1, .slice b2 n2 c2, .slice b3 n3 c3] 32)) := hCp.bel.trans (B11.mono hCp.bel.size)
  have h0 : (w10.alloc (.cells #[.slice b0 n0 c0, .slice b1 n1 c1, .slice b2 n2 c2, .slice b3 n3 c3] 32)).heap[w10.heap.size]? = some (.cells #[.slice b0 n0 c0, .slice b1 n1 c1, .slice b2 n2 c2, .slice b3 n3 c3] 32 (0, 0)) := new_at _ _ _ rfl
  replace h0 := Mr.hid h0
  clear s0 s1 s2 s3 ls hCp
  replace e1 := Mr.hid ((B911.block _ (Array.getElem?_eq_some_iff.1 e1.out).1).trans e1.out)
  replace e2 := Mr.hid ((B911.block _ (Array.getElem?_eq_some_iff.1 e2.out).1).trans e2.out)
  replace I2 := Mr.hid (I2.out.below B911)
  replace T2 := Mr.hid (T2.out.below B911)
  replace BB := Mr.hid (BB.out.trans (B911.mono BB.out.size))
  replace e0 := Mr.hid ((B911.block _ (Array.getElem?_eq_some_iff.1 e0.out).1).trans e0.out)
  replace f0 := Mr.hid ((B911.block _ (Array.getElem?_eq_some_iff.1 f0.out).1).trans f0.out)
  replace j0 := Mr.hid (j0.out.below B11)
  replace j1 := Mr.hid (j1.out.below B11)
  replace j2 := Mr.hid (j2.out.below B11)
  replace j3 := Mr.hid (j3.out.below B11)
  clear B11 B911
  generalize hx10 : w10.heap.size = x10 at *
  replace hx10 := Mr.hid hx10
  generalize (w10.alloc (.cells #[.slice b0 n0 c0, .slice b1 n1 c1, .slice b2 n2 c2, .slice b3 n3 c3] 32)) = w11 at *
  have C11 := Mr.hid (NX.out w11 aw' ah' b0 b1 b2 b3 cw' ct' c0 c1 c2 c3 BB.out I2.out T2.out j0.out j1.out j2.out j3.out)
  have z0 := cell_blk f0.out 0
  have z1 := cell_blk f0.out 1
  have q0 := cell_blk h0.out 0
  have q1 := cell_blk h0.out 1
  have q2 := cell_blk h0.out 2
  have q3 := cell_blk h0.out 3
  have r0 := cell_blk e2.out 0
  have r1 := cell_blk e2.out 1
  have r2 := cell_blk e2.out 2
  have lz := (Array.getElem?_eq_some_iff.1 f0.out).1
  have lq := (Array.getElem?_eq_some_iff.1 h0.out).1
  have lr := (Array.getElem?_eq_some_iff.1 e2.out).1
  clear NX
  go_upto_region 9 with (go_at_call 17; refine C11.out.mono ?_; clear C11; rintro e w12 ⟨v, rfl, D12, B12⟩; obtain ⟨o1, v1, o2, v2, o3, v3, o4, v4, rfl, D12'⟩ := D12.ex; clear D12')
  have B13 : Below w12.heap.size w12 (w12.alloc (.cells #[.slice o1 0 v1, .slice o2 0 v2, .slice o3 0 v3, .slice o4 0 v4] 32)) := (Below.refl _ _).alloc (Nat.le_refl _) _
  have B113 : Below w11.heap.size w11 (w12.alloc (.cells #[.slice o1 0 v1, .slice o2 0 v2, .slice o3 0 v3, .slice o4 0 v4] 32)) := B12.trans (B13.mono B12.size)
  have i0 : Hid ((w12.alloc (.cells #[.slice o1 0 v1, .slice o2 0 v2, .slice o3 0 v3, .slice o4 0 v4] 32)).heap[w12.heap.size]? = some (.cells #[.slice o1 0 v1, .slice o2 0 v2, .slice o3 0 v3, .slice o4 0 v4] 32 (0, 0))) := new_at _ _ _ rfl
  have sv : Hid ((w12.alloc (.cells #[.slice o1 0 v1, .slice o2 0 v2, .slice o3 0 v3, .slice o4 0 v4] 32)).heap.size = w12.heap.size + 1) := by show _ = _; simp
  have D13 := Mr.hid (D12.below B13)
  clear z0 z1 q0 q1 q2 q3 r0 r1 r2 lz lq lr D12
  replace e0 := Mr.hid ((B113.block _ (Array.getElem?_eq_some_iff.1 e0.out).1).trans e0.out)
  replace e1 := Mr.hid ((B113.block _ (Array.getElem?_eq_some_iff.1 e1.out).1).trans e1.out)
  replace e2 := Mr.hid ((B113.block _ (Array.getElem?_eq_some_iff.1 e2.out).1).trans e2.out)
  replace f0 := Mr.hid ((B113.block _ (Array.getElem?_eq_some_iff.1 f0.out).1).trans f0.out)
  replace h0 := Mr.hid ((B113.block _ (Array.getElem?_eq_some_iff.1 h0.out).1).trans h0.out)
  replace I2 := Mr.hid (I2.out.below B113)
  replace T2 := Mr.hid (T2.out.below B113)
  replace j0 := Mr.hid (j0.out.below B113)
  replace j1 := Mr.hid (j1.out.below B113)
  replace j2 := Mr.hid (j2.out.below B113)
  replace j3 := Mr.hid (j3.out.below B113)
  replace BB := Mr.hid (BB.out.trans (B113.mono BB.out.size))
  clear B13 B113 B12
  go_upto_region 11 with fail
  generalize hx12 : w12.heap.size = x12 at *
  replace hx12 := Mr.hid hx12
  generalize (w12.alloc (.cells #[.slice o1 0 v1, .slice o2 0 v2, .slice o3 0 v3, .slice o4 0 v4] 32)) = v13 at *
  try rw [sv.out]
  have n0' : Hid ((v13.alloc (.cells #[.slice none 0 0, .slice none 0 0, .slice none 0 0, .slice none 0 0] 32)).heap[x12 + 1]? = some (.cells #[.slice none 0 0, .slice none 0 0, .slice none 0 0, .slice none 0 0] 32 (0, 0))) := new_at _ _ _ sv.out.symm
  have B14 : Below v13.heap.size v13 (v13.alloc (.cells #[.slice none 0 0, .slice none 0 0, .slice none 0 0, .slice none 0 0] 32)) := (Below.refl _ _).alloc (Nat.le_refl _) _
  have B14' := Mr.hid B14
  replace e0 := Mr.hid ((B14.block _ (Array.getElem?_eq_some_iff.1 e0.out).1).trans e0.out)
  replace e1 := Mr.hid ((B14.block _ (Array.getElem?_eq_some_iff.1 e1.out).1).trans e1.out)
  replace e2 := Mr.hid ((B14.block _ (Array.getElem?_eq_some_iff.1 e2.out).1).trans e2.out)
  replace f0 := Mr.hid ((B14.block _ (Array.getElem?_eq_some_iff.1 f0.out).1).trans f0.out)
  replace h0 := Mr.hid ((B14.block _ (Array.getElem?_eq_some_iff.1 h0.out).1).trans h0.out)
  replace I2 := Mr.hid (I2.out.below B14)
  replace T2 := Mr.hid (T2.out.below B14)
  replace j0 := Mr.hid (j0.out.below B14)
  replace j1 := Mr.hid (j1.out.below B14)
  replace j2 := Mr.hid (j2.out.below B14)
  replace j3 := Mr.hid (j3.out.below B14)
  replace BB := Mr.hid (BB.out.trans (B14.mono BB.out.size))
  replace i0 := Mr.hid ((B14.block _ (Array.getElem?_eq_some_iff.1 i0.out).1).trans i0.out)
  replace D13 := Mr.hid (D13.out.below B14)
  clear B14 B14'
  generalize v13.alloc (.cells #[.slice none 0 0, .slice none 0 0, .slice none 0 0, .slice none 0 0] 32) = w14 at *
  have t0 := cell_blk i0.out 0
  have t1 := cell_blk i0.out 1
  have t2 := cell_blk i0.out 2
  have t3 := cell_blk i0.out 3
  have lt := (Array.getElem?_eq_some_iff.1 i0.out).1
  have u0 := cell_blk n0'.out 0
  have u1 := cell_blk n0'.out 1
  have u2 := cell_blk n0'.out 2
  have u3 := cell_blk n0'.out 3
  have lu' := (Array.getElem?_eq_some_iff.1 n0'.out).1
  have S1 := Mr.hid (SN.out w14 _ D13.out)
  go_wp2_with (first
    | (go_at_call 18; refine (IsO.out _).mono ?_; clear IsO; rintro e w98 ⟨rfl, hw98⟩; obtain rfl := hw98.symm)
    | (go_at_call 9; refine (NU.out _ _).mono ?_; rintro e w99 ⟨rfl, hw99⟩; obtain rfl := hw99.symm)
    | (go_at_call 8; refine S1.out.mono ?_; clear S1; rintro e w21 ⟨rfl, B21⟩; have h1' := Mr.hid ((B21.block _ (Array.getElem?_eq_some_iff.1 h0.out).1).trans h0.out); have e1' := Mr.hid ((B21.block _ (Array.getElem?_eq_some_iff.1 e1.out).1).trans e1.out); have f1' := Mr.hid ((B21.block _ (Array.getElem?_eq_some_iff.1 f0.out).1).trans f0.out); have e0' := Mr.hid ((B21.block _ (Array.getElem?_eq_some_iff.1 e0.out).1).trans e0.out); have BB1 := Mr.hid (BB.out.trans (B21.mono BB.out.size)); have S2 := Mr.hid (SG.out w21 b0 b1 b2 b3 c0 c1 c2 c3 BB1.out (j0.out.below B21) (j1.out.below B21) (j2.out.below B21) (j3.out.below B21)); have I3 := Mr.hid (I2.out.below B21); have T3 := Mr.hid (T2.out.below B21); have q0 := cell_blk h1'.out 0; have q1 := cell_blk h1'.out 1; have q2 := cell_blk h1'.out 2; have q3 := cell_blk h1'.out 3; have lq := (Array.getElem?_eq_some_iff.1 h1'.out).1; have s0 := cell_blk e1'.out 0; have s1 := cell_blk e1'.out 1; have s2 := cell_blk e1'.out 2; have s3 := cell_blk e1'.out 3; have ls := (Array.getElem?_eq_some_iff.1 e1'.out).1; clear B21)
    | (go_at_call 8; refine S2.out.mono ?_; clear S2; rintro e w22 ⟨rfl, B22⟩; have f2' := Mr.hid ((B22.block _ (Array.getElem?_eq_some_iff.1 f1'.out).1).trans f1'.out); have e2' := Mr.hid ((B22.block _ (Array.getElem?_eq_some_iff.1 e0'.out).1).trans e0'.out); have BB2 := Mr.hid (BB1.out.trans (B22.mono BB1.out.size)); have S3 := Mr.hid (SL.out w22 aw' ah' cw' ct' BB2.out (I3.out.below B22) (T3.out.below B22)); have z0 := cell_blk f2'.out 0; have z1 := cell_blk f2'.out 1; have lz := (Array.getElem?_eq_some_iff.1 f2'.out).1; have x0 := cell_blk e2'.out 0; have x1 := cell_blk e2'.out 1; have lx := (Array.getElem?_eq_some_iff.1 e2'.out).1; clear B22)
    | (go_at_call 10; refine S3.out.mono ?_; clear S3; rintro e w23 ⟨rfl, B23⟩; have BB3 : Hid (Below w.heap.size w w23) := BB2.out.trans (B23.mono BB2.out.size); clear B23))
  go_ret
  exact ⟨by simp, BB3.out⟩
end Go.Proofs.YtmejblmeaipahaaDoor.Ts
