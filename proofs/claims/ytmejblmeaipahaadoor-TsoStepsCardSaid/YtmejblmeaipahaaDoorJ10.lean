import Derived.Test.YtmejblmeaipahaaDoorJ09
/-
  TSO: the program's rule of loads.
-/
namespace Go.Proofs.YtmejblmeaipahaaDoor.Ts
open Go.RowKit Mr
set_option linter.unusedVariables false
set_option linter.unusedSimpArgs false
set_option maxRecDepth 100000
/-- The boxes that a rule begins with. -/
def bx2 (w : World) (b t : Nat) (o : Int) (i : In) : World := (w.alloc (.cells #[.pointer (some ⟨b, 0, none⟩), .int .i64 (t : Int), .int .i64 o] 88)).alloc (.cells #[.int .i64 i.kd, .int .i64 i.rg, .int .i64 i.ad, .int .i64 i.vl, .int .i64 i.fr, .int .i64 i.ol, .int .i64 i.ct] 73)
theorem bx2_below (w : World) (b t : Nat) (o : Int) (i : In) : Below w.heap.size w (bx2 w b t o i) := ((Below.refl _ _).alloc (Nat.le_refl _) _).alloc (by simp) _
theorem bx2_p (w : World) (b t : Nat) (o : Int) (i : In) : (bx2 w b t o i).heap[w.heap.size]? = some (.cells #[.pointer (some ⟨b, 0, none⟩), .int .i64 (t : Int), .int .i64 o] 88 (0, 0)) := (Lib.alloc_old _ _ _ (by simp)).trans (new_at _ _ _ rfl)
theorem bx2_i (w : World) (b t : Nat) (o : Int) (i : In) : (bx2 w b t o i).heap[w.heap.size + 1]? = some (.cells #[.int .i64 i.kd, .int .i64 i.rg, .int .i64 i.ad, .int .i64 i.vl, .int .i64 i.fr, .int .i64 i.ol, .int .i64 i.ct] 73 (0, 0)) := new_at _ _ _ (by simp)
/-- What a rule's world is, behind a store into the array. -/
theorem Fr.one {w w1 : World} {b i : Nat} {v : Value} (h : Below w.heap.size w w1) : Fr w (w1.setCell ⟨b, i, none⟩ v) (fun k => k = b) := (Fr.of_below h).setCell _ _ (.inl rfl)
set_option maxHeartbeats 8000000 in
theorem loads_any (s : Sv) (b t : Nat) (o : Int) (i : In) (r : Rg) (v : Int) (bf : List Pd) (cs : Array Value) (w : World) (hA : Ar w b cs) (hE : Enc cs s) (ht : t < 4) (hr : s.rg[t]? = some r) (hb : s.bf[t]? = some bf) (hbl : bf.length ≤ 11) (hrg : 0 ≤ i.rg ∧ i.rg < 4) (had : 0 ≤ i.ad ∧ i.ad < 6) (hv : s.ws[i.ad.toNat]? = some v) :
    Calls Tryd.prog 47 #[ptV b t o, i.val] w fun e w' => e = .returned (.bool true) ∧ (∃ cs', Ar w' b cs' ∧ Enc cs' { s with rg := s.rg.set t (r.put i.rg.toNat (seeP v bf i.ad)) }) ∧ Fr w w' (fun k => k = b) := by
  have B0 := bx2_below w b t o i
  have hp := bx2_p w b t o i
  have hi := bx2_i w b t o i
  have hA1 := hA.below B0
  have p0 := cell_blk hp 0
  have p1 := cell_blk hp 1
  have p2 := cell_blk hp 2
  have i1 := cell_blk hi 1
  have i2 := cell_blk hi 2
  have lp := (Array.getElem?_eq_some_iff.1 hp).1
  have li := (Array.getElem?_eq_some_iff.1 hi).1
  have lb := (Array.getElem?_eq_some_iff.1 hA.1).1
  obtain ⟨rn, hrn⟩ := Int.eq_ofNat_of_zero_le hrg.1
  obtain ⟨an, han⟩ := Int.eq_ofNat_of_zero_le had.1
  have hr4 : rn < 4 := by omega
  have ha6 : an < 6 := by omega
  have hvn : s.ws[an]? = some v := by rw [han] at hv; exact hv
  have hen : Hid (∀ x : Int, Enc (cs.setIfInBounds (6 + t * 4 + rn) (.int .i64 x)) { s with rg := s.rg.set t (r.put i.rg.toNat x) }) := fun x => by
    rw [hrn]
    exact hE.set (by omega) (fun j hj => enc_rg s j t rn r x hr ht hr4)
  have RG : Hid (∀ W : World, Below (bx2 w b t o i).heap.size (bx2 w b t o i) W → Calls Tryd.prog 58 #[ptV b t o, .int .i64 (rn : Int)] W fun e w' => e = .returned (.pointer (some ⟨b, 6 + t * 4 + rn, none⟩)) ∧ Below W.heap.size W w') := fun W hW => reg_any b t rn o cs W (hA1.below hW) ht hr4
  have SN : Hid (∀ W : World, Below (bx2 w b t o i).heap.size (bx2 w b t o i) W → Calls Tryd.prog 57 #[ptV b t o, .int .i64 (an : Int)] W fun e w' => e = .returned (.int .i64 (seeP v bf i.ad)) ∧ Below W.heap.size W w') := fun W hW => by
    have h := seen_any b t an o v bf cs W (hA1.below hW) ht ha6 (hE.word hvn ha6) (hE.bfin hb ht hbl)
    rw [han]; exact h
  obtain ⟨x, hx⟩ : ∃ x, seeP v bf i.ad = x := ⟨_, rfl⟩
  rw [hx] at SN ⊢
  have hfin : Hid (∀ W : World, Below (bx2 w b t o i).heap.size (bx2 w b t o i) W → (∃ cs', Ar (W.setCell ⟨b, 6 + t * 4 + rn, none⟩ (.int .i64 x)) b cs' ∧ Enc cs' { s with rg := s.rg.set t (r.put i.rg.toNat x) }) ∧ Fr w (W.setCell ⟨b, 6 + t * 4 + rn, none⟩ (.int .i64 x)) (fun k => k = b)) := fun W hW => ⟨⟨_, (hA1.below hW).set _ _, hen.out x⟩, Fr.one (B0.trans (hW.mono B0.size))⟩
  obtain ⟨kd, rg, ad, vl, fr, ol, ct⟩ := i
  dsimp only at hrn han
  subst hrn
  subst han
  dsimp only at p0 p1 p2 i1 i2
  have bst : Hid (∀ W : World, Below (bx2 w b t o ⟨kd, (rn : Int), (an : Int), vl, fr, ol, ct⟩).heap.size (bx2 w b t o ⟨kd, (rn : Int), (an : Int), vl, fr, ol, ct⟩) W → b < W.heap.size ∧ W.frozen? ⟨b, 6 + t * 4 + rn, none⟩ = false ∧ ∃ u, W.cell? ⟨b, 6 + t * 4 + rn, none⟩ = some u) := fun W hW => by
    have h := hA1.below hW
    refine ⟨(Array.getElem?_eq_some_iff.1 h.1).1, by unfold World.frozen?; rw [h.1]; rfl, _, (cell_blk h.1 _).trans (hE.reg hr ht hr4)⟩
  clear hA hE hr hb hbl hrg had hv hvn hp hi hA1 hen B0
  unfold ptV In.val
  generalize hq : 6 + t * 4 + rn = q at *
  replace hq := Mr.hid hq
  replace hx := Mr.hid hx
  go_enter Tryd.func47, Tryd.ntmps47
  go_upto_region 1 with fail
  show Code.wp _ _ _ _ (bx2 w b t o ⟨kd, (rn : Int), (an : Int), vl, fr, ol, ct⟩)
  generalize bx2 w b t o ⟨kd, (rn : Int), (an : Int), vl, fr, ol, ct⟩ = w1 at *
  have sb1 := lb
  go_region_held3 (fun W => W.cell? ⟨w.heap.size, 0, none⟩ = some (.pointer (some ⟨b, 0, none⟩)) ∧ W.cell? ⟨w.heap.size, 1, none⟩ = some (.int .i64 (t : Int)) ∧ W.cell? ⟨w.heap.size, 2, none⟩ = some (.int .i64 o) ∧ W.cell? ⟨w.heap.size + 1, 1, none⟩ = some (.int .i64 (rn : Int)) ∧ W.cell? ⟨w.heap.size + 1, 2, none⟩ = some (.int .i64 (an : Int))) (simp [*, go_sem])
    (first
      | (go_at_call 58; refine (RG.out _ (by first | exact (Below.refl _ _) | exact (Below.refl _ _).drew | exact X3.out)).mono ?_; clear RG; rintro e w4 ⟨rfl, B4⟩; have X4 : Hid (Below w1.heap.size w1 w4) := (by first | exact ((Below.refl _ _).drew).trans B4 | exact X3.out.trans (B4.mono X3.out.size)); clear B4; have q0 := (X4.out.cell (p := ⟨w.heap.size, 0, none⟩) lp).trans p0; have q1 := (X4.out.cell (p := ⟨w.heap.size, 1, none⟩) lp).trans p1; have q2 := (X4.out.cell (p := ⟨w.heap.size, 2, none⟩) lp).trans p2; have j1 := (X4.out.cell (p := ⟨w.heap.size + 1, 1, none⟩) li).trans i1; have j2 := (X4.out.cell (p := ⟨w.heap.size + 1, 2, none⟩) li).trans i2; obtain ⟨l4, f4, u4, c4⟩ := bst.out _ X4.out)
      | (go_at_call 57; refine (SN.out _ (by first | exact (Below.refl _ _) | exact (Below.refl _ _).drew | exact X4.out)).mono ?_; clear SN; rintro e w3 ⟨rfl, B3⟩; have X3 : Hid (Below w1.heap.size w1 w3) := (by first | exact ((Below.refl _ _).drew).trans B3 | exact X4.out.trans (B3.mono X4.out.size)); clear B3; have q0 := (X3.out.cell (p := ⟨w.heap.size, 0, none⟩) lp).trans p0; have q1 := (X3.out.cell (p := ⟨w.heap.size, 1, none⟩) lp).trans p1; have q2 := (X3.out.cell (p := ⟨w.heap.size, 2, none⟩) lp).trans p2; have j1 := (X3.out.cell (p := ⟨w.heap.size + 1, 1, none⟩) li).trans i1; have j2 := (X3.out.cell (p := ⟨w.heap.size + 1, 2, none⟩) li).trans i2; obtain ⟨l3, f3, u3, c3⟩ := bst.out _ X3.out))
  all_goals (go_wp2; go_ret; first | exact ⟨rfl, hfin.out w3 X3.out⟩ | exact ⟨rfl, hfin.out w4 X4.out⟩)
end Go.Proofs.YtmejblmeaipahaaDoor.Ts
/-
  TSO: where a rule stands: its two boxes and the array.
-/
namespace Go.Proofs.YtmejblmeaipahaaDoor.Ts
open Go.RowKit Mr
set_option linter.unusedVariables false
set_option linter.unusedSimpArgs false
set_option maxRecDepth 100000
/-- A rule on its way: the boxes of the thread and of the instruction, the array of the state s. -/
structure Rl (w W : World) (b t : Nat) (o : Int) (i : In) (s : Sv) : Prop where
  lb : b < w.heap.size
  p : W.heap[w.heap.size]? = some (.cells #[.pointer (some ⟨b, 0, none⟩), .int .i64 (t : Int), .int .i64 o] 88 (0, 0))
  q : W.heap[w.heap.size + 1]? = some (.cells #[.int .i64 i.kd, .int .i64 i.rg, .int .i64 i.ad, .int .i64 i.vl, .int .i64 i.fr, .int .i64 i.ol, .int .i64 i.ct] 73 (0, 0))
  ar : ∃ cs, Ar W b cs ∧ Enc cs s
  fr : Fr w W (fun k => k = b)
section
variable {w W : World} {b t : Nat} {o : Int} {i : In} {s : Sv}
theorem Rl.start {cs : Array Value} (hA : Ar w b cs) (hE : Enc cs s) : Rl w (bx2 w b t o i) b t o i s :=
  ⟨(Array.getElem?_eq_some_iff.1 hA.1).1, bx2_p .., bx2_i .., ⟨cs, hA.below (bx2_below ..), hE⟩, Fr.of_below (bx2_below ..)⟩
theorem Rl.below {W' : World} (h : Rl w W b t o i s) (hB : Below W.heap.size W W') : Rl w W' b t o i s := by
  obtain ⟨cs, hA, hE⟩ := h.ar
  exact ⟨h.lb, (hB.block _ (Array.getElem?_eq_some_iff.1 h.p).1).trans h.p, (hB.block _ (Array.getElem?_eq_some_iff.1 h.q).1).trans h.q, ⟨cs, hA.below hB, hE⟩, h.fr.trans (Fr.of_below hB)⟩
theorem Rl.drew (h : Rl w W b t o i s) : Rl w W.drew b t o i s := h.below (Below.refl _ _).drew
theorem Rl.set {s' : Sv} {j : Nat} {v : Int} (h : Rl w W b t o i s) (hj : j < 118) (he : ∀ k, k < 118 → enc s' k = if k = j then v else enc s k) : Rl w (W.setCell ⟨b, j, none⟩ (.int .i64 v)) b t o i s' := by
  obtain ⟨cs, hA, hE⟩ := h.ar
  have l := h.lb
  exact ⟨l, (Below.heap_setCell W ⟨b, j, none⟩ _ _ (by show _ ≠ b; omega)).trans h.p, (Below.heap_setCell W ⟨b, j, none⟩ _ _ (by show _ ≠ b; omega)).trans h.q, ⟨_, hA.set _ _, hE.set hj he⟩, h.fr.setCell _ _ (.inl rfl)⟩
theorem Rl.lp (h : Rl w W b t o i s) : w.heap.size < W.heap.size := (Array.getElem?_eq_some_iff.1 h.p).1
theorem Rl.lq (h : Rl w W b t o i s) : w.heap.size + 1 < W.heap.size := (Array.getElem?_eq_some_iff.1 h.q).1
theorem Rl.lbW (h : Rl w W b t o i s) : b < W.heap.size := by have := h.lb; have := h.lp; omega
theorem Rl.p0 (h : Rl w W b t o i s) : W.cell? ⟨w.heap.size, 0, none⟩ = some (.pointer (some ⟨b, 0, none⟩)) := cell_blk h.p 0
theorem Rl.p1 (h : Rl w W b t o i s) : W.cell? ⟨w.heap.size, 1, none⟩ = some (.int .i64 (t : Int)) := cell_blk h.p 1
theorem Rl.p2 (h : Rl w W b t o i s) : W.cell? ⟨w.heap.size, 2, none⟩ = some (.int .i64 o) := cell_blk h.p 2
theorem Rl.i1 (h : Rl w W b t o i s) : W.cell? ⟨w.heap.size + 1, 1, none⟩ = some (.int .i64 i.rg) := cell_blk h.q 1
theorem Rl.i2 (h : Rl w W b t o i s) : W.cell? ⟨w.heap.size + 1, 2, none⟩ = some (.int .i64 i.ad) := cell_blk h.q 2
theorem Rl.i3 (h : Rl w W b t o i s) : W.cell? ⟨w.heap.size + 1, 3, none⟩ = some (.int .i64 i.vl) := cell_blk h.q 3
theorem Rl.i4 (h : Rl w W b t o i s) : W.cell? ⟨w.heap.size + 1, 4, none⟩ = some (.int .i64 i.fr) := cell_blk h.q 4
theorem Rl.i5 (h : Rl w W b t o i s) : W.cell? ⟨w.heap.size + 1, 5, none⟩ = some (.int .i64 i.ol) := cell_blk h.q 5
theorem Rl.i6 (h : Rl w W b t o i s) : W.cell? ⟨w.heap.size + 1, 6, none⟩ = some (.int .i64 i.ct) := cell_blk h.q 6
theorem Rl.cell (h : Rl w W b t o i s) {j : Nat} (hj : j < 118) : W.cell? ⟨b, j, none⟩ = some (.int .i64 (enc s j)) := by
  obtain ⟨cs, hA, hE⟩ := h.ar
  exact (cell_blk hA.1 j).trans (hE.2 j hj)
theorem Rl.fz (h : Rl w W b t o i s) (j : Nat) : W.frozen? ⟨b, j, none⟩ = false := by
  obtain ⟨cs, hA, hE⟩ := h.ar
  unfold World.frozen?; rw [hA.1]; rfl
theorem Rl.reg (h : Rl w W b t o i s) {n : Nat} (ht : t < 4) (hn : n < 4) : Calls Tryd.prog 58 #[ptV b t o, .int .i64 (n : Int)] W fun e w' => e = .returned (.pointer (some ⟨b, 6 + t * 4 + n, none⟩)) ∧ Rl w w' b t o i s ∧ Below W.heap.size W w' := by
  obtain ⟨cs, hA, hE⟩ := h.ar
  exact (reg_any b t n o cs W hA ht hn).mono (fun e w' ⟨h1, h2⟩ => ⟨h1, h.below h2, h2⟩)
theorem Rl.isWaiting (h : Rl w W b t o i s) {bf : List Pd} (ht : t < 4) (hb : s.bf[t]? = some bf) : Calls Tryd.prog 59 #[ptV b t o] W fun e w' => e = .returned (.bool (decide (0 < bf.length))) ∧ Rl w w' b t o i s ∧ Below W.heap.size W w' := by
  obtain ⟨cs, hA, hE⟩ := h.ar
  exact (isWaiting_any b t bf.length o cs W hA ht (hE.len hb ht)).mono (fun e w' ⟨h1, h2⟩ => ⟨h1, h.below h2, h2⟩)
theorem Rl.words (h : Rl w W b t o i s) : Calls Tryd.prog 35 #[.pointer (some ⟨b, 0, none⟩)] W fun e w' => e = .returned (.slice (some ⟨b, 0, none⟩) 6 118) ∧ w' = W := by
  obtain ⟨cs, hA, hE⟩ := h.ar
  exact words_any b cs W hA
theorem Rl.place (h : Rl w W b t o i s) (ht : t < 4) : Calls Tryd.prog 40 #[.pointer (some ⟨b, 0, none⟩), .int .i64 (t : Int)] W fun e w' => e = .returned (.pointer (some ⟨b, 22 + t, none⟩)) ∧ w' = W := by
  obtain ⟨cs, hA, hE⟩ := h.ar
  exact place_any b t cs W hA ht
theorem Rl.done (h : Rl w W b t o i s) : (∃ cs, Ar W b cs ∧ Enc cs s) ∧ Fr w W (fun k => k = b) := ⟨h.ar, h.fr⟩
theorem enc_word {s : Sv} {k : Nat} {v : Int} (hk : s.ws[k]? = some v) (h6 : k < 6) : enc s k = v := by
  simp only [enc, h6, if_true, hk]; rfl
theorem enc_reg {s : Sv} {t n : Nat} {r : Rg} (hr : s.rg[t]? = some r) (ht : t < 4) (hn : n < 4) : enc s (6 + t * 4 + n) = r.get n := by
  simp only [enc, show ¬ 6 + t * 4 + n < 6 by omega, show 6 + t * 4 + n < 22 by omega, if_true, if_false, show (6 + t * 4 + n - 6) / 4 = t by omega, show (6 + t * 4 + n - 6) % 4 = n by omega, hr, rgC]
theorem enc_plc {s : Sv} {t : Nat} {v : Int} (hr : s.pl[t]? = some v) (ht : t < 4) : enc s (22 + t) = v := by
  simp only [enc, show ¬ 22 + t < 6 by omega, show ¬ 22 + t < 22 by omega, show 22 + t < 26 by omega, if_true, if_false, show 22 + t - 22 = t by omega, hr]
  rfl
theorem enc_len {s : Sv} {t : Nat} {b : List Pd} (hr : s.bf[t]? = some b) (ht : t < 4) : enc s (26 + t) = (b.length : Int) := by
  simp only [enc, show ¬ 26 + t < 6 by omega, show ¬ 26 + t < 22 by omega, show ¬ 26 + t < 26 by omega, show 26 + t < 30 by omega, if_true, if_false, show 26 + t - 26 = t by omega, hr, lnC]
end
end Go.Proofs.YtmejblmeaipahaaDoor.Ts
