/-
  DEQUE: Spread (the document).
-/
import Derived.Test.YtaojggnflblgnaaHdSprP
namespace Go.Proofs.Ytaojggnflblgnaa.Hd
open Go.RowKit Mr Md
set_option linter.unusedVariables false
set_option linter.unusedSimpArgs false
set_option maxRecDepth 100000
set_option maxHeartbeats 32000000 in
theorem rSpread_any {T : Nat → Prop} (th rm : Int) (ws : List Int) (cs : List Cq) (a : Option Addr) (cap : Nat) (a3 : Option Addr) (n3 c3 : Nat) (v1 v2 : Value) (w : World)
    (hv : Sl w T 9 (.slice a cs.length cap) cs.length (cqs cs)) (hw : Dq.WdAt w a3 n3 ws) (hzn : cs.length * 72 ≤ 140737488351232) :
    Calls Try.prog 9 #[Dq.dV th rm, rnV (.slice a cs.length cap) v1 v2 (.slice a3 n3 c3)] w fun e w' => spO th w w' (spr th.toNat cs) (pE th rm ws cs (srt cs)) e := by
  obtain ⟨n, hnn⟩ : ∃ n, n = cs.length := ⟨_, rfl⟩
  have hv0 := Mr.hid hv
  rw [← hnn] at hzn ⊢
  have B0 := (b1b (w := w) (.cells #[.int .i64 th, .int .i64 rm] 23 (0, 0))).alloc (by simp) (.cells #[.slice a n cap, v1, v2, .slice a3 n3 c3] 29 (0, 0))
  have b0 := old_at (new_at w (.cells #[.int .i64 th, .int .i64 rm] 23 (0, 0)) w.heap.size rfl) (.cells #[.slice a n cap, v1, v2, .slice a3 n3 c3] 29 (0, 0))
  have b1 := new_at (w.alloc (.cells #[.int .i64 th, .int .i64 rm] 23 (0, 0))) (.cells #[.slice a n cap, v1, v2, .slice a3 n3 c3] 29 (0, 0)) (w.heap.size + 1) (by simp)
  have c0 := Dq.cell_blk b0 0
  have c1 := Dq.cell_blk b0 1
  have d0 := Dq.cell_blk b1 0
  have d1 := Dq.cell_blk b1 1
  have d2 := Dq.cell_blk b1 2
  have d3 := Dq.cell_blk b1 3
  have lb := (Array.getElem?_eq_some_iff.1 b1).1
  have CK : Hid (∀ (W : World), Calls Try.prog 15 #[Dq.dV th rm] W fun e w' => e = .returned (.bool (Dq.dqB th rm)) ∧ Below W.heap.size W w') := Mr.hid (fun W => Dq.rCheck_any th rm W)
  have SN : Hid (1 ≤ th → ∀ (W : World), Below w.heap.size w W → Calls Try.prog 16 #[Dq.dV th rm, rnV (.slice a n cap) v1 v2 (.slice a3 n3 c3)] W fun e w' => e = .returned (.bool (sB th rm ws cs)) ∧ Below W.heap.size W w') := Mr.hid (fun hth W h => by
    have := sound_any th rm hth ws cs a cap a3 n3 c3 v1 v2 W (hv.below h) (hw.below h) (by omega)
    rwa [← hnn] at this)
  unfold Dq.dV at CK SN
  unfold rnV at SN
  rw [pE_same]
  have hdb : Dq.dqB th rm = true → 1 ≤ th ∧ th ≤ 16 := fun h => ⟨(Dq.dqB_in h).1, (Dq.dqB_in h).2.1⟩
  have hsb : sB th rm ws cs = true → cs.all (kn th) = true := fun h => by unfold sB at h; rw [Bool.and_eq_true] at h; exact h.1
  generalize sB th rm ws cs = sb at *
  generalize Dq.dqB th rm = db at *
  replace hnn := Mr.hid hnn
  have B0' := Mr.hid B0
  clear B0 b0 b1 hv hw
  unfold Dq.dV rnV
  cases db with
  | false =>
    rw [if_neg (by decide)]
    clear hdb hsb
    go_enter Try.func9, Try.ntmps9
    go_wp2_with (go_at_call 15; refine (CK.out _).mono ?_; clear CK; rintro e w2 ⟨rfl, hB2⟩; have BB := Mr.hid (B0'.out.trans (hB2.mono B0'.out.size)); clear hB2)
    go_ret2
    exact ⟨none, 0, 0, rfl, ⟨rfl, .inl rfl⟩, BB.out⟩
  | true =>
    obtain ⟨hth, hth2⟩ := hdb rfl
    rw [if_pos rfl]
    cases sb with
    | false =>
      rw [if_neg (by decide)]
      have SN1 := Mr.hid (SN.out hth)
      clear hdb hsb SN
      go_enter Try.func9, Try.ntmps9
      go_upto_region 1 with fail
      generalize (World.alloc (World.alloc _ _) _) = w1 at *
      go_wp2_with (first | (go_at_call 15; refine (CK.out _).mono ?_; clear CK; rintro e w2 ⟨rfl, hB2⟩; have BB := Mr.hid (B0'.out.trans (hB2.mono B0'.out.size)); have k0 := (hB2.cell (p := ⟨w.heap.size, 0, none⟩) (by show w.heap.size < _; omega)).trans c0; have k1 := (hB2.cell (p := ⟨w.heap.size, 1, none⟩) (by show w.heap.size < _; omega)).trans c1; have m0 := (hB2.cell (p := ⟨w.heap.size + 1, 0, none⟩) lb).trans d0; have m1 := (hB2.cell (p := ⟨w.heap.size + 1, 1, none⟩) lb).trans d1; have m2 := (hB2.cell (p := ⟨w.heap.size + 1, 2, none⟩) lb).trans d2; have m3 := (hB2.cell (p := ⟨w.heap.size + 1, 3, none⟩) lb).trans d3; clear hB2 c0 c1 d0 d1 d2 d3) | (go_at_call 16; refine (SN1.out _ BB.out).mono ?_; clear SN1; rintro e w3 ⟨rfl, hB3⟩; have BC := Mr.hid (BB.out.trans (hB3.mono BB.out.size)); clear hB3))
      go_ret2
      exact ⟨none, 0, 0, rfl, ⟨rfl, .inl rfl⟩, BC.out⟩
    | true =>
      rw [if_pos rfl]
      have h2 := hsb rfl
      have hall : Hid (∀ x ∈ cs, kn th x = true) := Mr.hid (List.all_eq_true.1 h2)
      have SN1 := Mr.hid (SN.out hth)
      obtain ⟨tn, rfl⟩ : ∃ tn : Nat, th = (tn : Int) := ⟨th.toNat, by omega⟩
      rw [Int.toNat_natCast]
      have MK := fun W => makeI W tn (by omega)
      have mk0 : (0 : Int) ≤ (tn : Int) := by omega
      clear hdb hsb SN h2
      go_enter Try.func9, Try.ntmps9
      go_upto_region 1 with fail
      generalize (World.alloc (World.alloc _ _) _) = w1 at *
      go_upto_region 5 with (first | (go_at_call 15; refine (CK.out _).mono ?_; clear CK; rintro e w3 ⟨rfl, hB2⟩; have BC := Mr.hid (B0'.out.trans (hB2.mono B0'.out.size)); have k0 := (hB2.cell (p := ⟨w.heap.size, 0, none⟩) (by show w.heap.size < _; omega)).trans c0; have k1 := (hB2.cell (p := ⟨w.heap.size, 1, none⟩) (by show w.heap.size < _; omega)).trans c1; have m0 := (hB2.cell (p := ⟨w.heap.size + 1, 0, none⟩) lb).trans d0; have m1 := (hB2.cell (p := ⟨w.heap.size + 1, 1, none⟩) lb).trans d1; have m2 := (hB2.cell (p := ⟨w.heap.size + 1, 2, none⟩) lb).trans d2; have m3 := (hB2.cell (p := ⟨w.heap.size + 1, 3, none⟩) lb).trans d3; have lb3 := Nat.lt_of_lt_of_le lb hB2.size; clear hB2 c0 c1 d0 d1 d2 d3) | (go_at_call 16; refine (SN1.out _ BC.out).mono ?_; clear SN1; rintro e w2 ⟨rfl, hB3⟩; have BB := Mr.hid (BC.out.trans (hB3.mono BC.out.size)); replace k0 := (hB3.cell (p := ⟨w.heap.size, 0, none⟩) (by show w.heap.size < _; omega)).trans k0; replace m0 := (hB3.cell (p := ⟨w.heap.size + 1, 0, none⟩) lb3).trans m0; have lb2 := Nat.lt_of_lt_of_le lb3 hB3.size; clear hB3 k1 m1 m2 m3 BC))
      obtain ⟨B, hBe⟩ : ∃ B, B = w2.heap.size := ⟨_, rfl⟩
      have hR0 : Hid (Rw w2 (w2.alloc (.cells (ints (List.replicate tn 0)).toArray 3)) B (spr tn (cs.take 0))) := Mr.hid ⟨(Below.refl _ _).alloc (Nat.le_refl _) _, by omega, new_at w2 _ B hBe⟩
      have m0' := Mr.hid m0
      have MK2 := MK w2
      rw [← hBe] at MK2
      replace hBe := Mr.hid hBe
      clear MK
      go_upto_region 6 with fail
      go_wp2
      go_loopg [7] n (fun gk si wr => ∃ i : Nat, si = .int .i64 (i : Int) ∧ i + gk = n ∧ Rw w2 wr B (spr tn (cs.take i)) ∧ Hid (bnd (spr tn (cs.take i)) i))
      case atStart => exact ⟨0, rfl, by omega, hR0.out, Mr.hid (bnd_zero tn)⟩
      case round =>
        obtain ⟨i, rfl, hi, hR, hb⟩ := hrel
        by_cases hlt : i < n
        · have q3 : (i : Int) < (n : Int) := by omega
          have q0 : decide ((i : Int) < (n : Int)) = true := decide_eq_true (by omega)
          have q0' : decide (i < n) = true := decide_eq_true hlt
          obtain ⟨x, hx⟩ : ∃ x, cs[i]? = some x := ⟨_, List.getElem?_eq_getElem (by rw [← hnn.out]; omega)⟩
          obtain ⟨b, o, rfl, _, D1⟩ := cqx_at (hv0.out.below (BB.out.trans (hR.bel.mono BB.out.size))) hx
          have hst := Mr.hid (spr_step tn cs i x hx)
          have hbn := Mr.hid (bnd_step hb.out x)
          have hkn := kn_th hth (hall.out x (List.mem_of_getElem? hx))
          obtain ⟨k, hk⟩ : ∃ k : Nat, x.th = (k : Int) := ⟨x.th.toNat, by omega⟩
          have hkt : k < tn := by omega
          have hkl : k < (spr tn (cs.take i)).length := by rw [spr_len]; exact hkt
          obtain ⟨y, hy⟩ : ∃ y, (spr tn (cs.take i))[k]? = some y := ⟨_, List.getElem?_eq_getElem hkl⟩
          have hyb := hb.out y (List.mem_of_getElem? hy)
          have hwr : IntKind.i64.wrap (y + 1) = y + 1 := i64x _ (by omega) (by omega)
          have q4 : (k : Int) < (tn : Int) := by omega
          have hyb' := Mr.hid hyb
          have hi' := Mr.hid hi
          have hk' := Mr.hid hk
          clear hkn hyb hkl hx hi hk
          have m0 := (hR.bel.cell (p := ⟨w.heap.size + 1, 0, none⟩) lb2).trans m0'.out
          obtain ⟨l1, x0, x1, x2, x3, x4, x5, x6, x7, x8⟩ := D1
          have cq := cqO_cells (new_at wr (cqO x) wr.heap.size rfl)
          have hR1 := hR.box (cqO x)
          unfold cqO at cq hR1
          replace hR := Mr.hid hR
          go_upto_region 10 with fail
          generalize wr.alloc _ = wq at *
          obtain ⟨lq, z0, z1, z2, z3, z4, z5, z6, z7, z8⟩ := cq
          simp only [Nat.zero_add] at z1 z2 z3 z4 z5 z6 z7 z8
          clear x0 x1 x2 x3 x4 x5 x6 x7 x8
          obtain ⟨r0, rz⟩ := hR1.cell hy
          have hspF : spF (spr tn (cs.take i)) x = if x.ak = 2 then (spr tn (cs.take i)).set k (y + 1) else spr tn (cs.take i) := by
            unfold spF; rw [hk'.out, Int.toNat_natCast, hy]; rfl
          have hn2 := hR1.put k (y + 1)
          replace hy := Mr.hid hy
          replace hspF := Mr.hid hspF
          replace hn2 := Mr.hid hn2
          replace hR1 := Mr.hid hR1
          obtain ⟨a0, a1, a2, a4, a5, a6, a7, a8, a9⟩ := x
          simp only at *
          obtain rfl : a0 = (k : Int) := hk'.out
          by_cases g : a8 = 2
          · have e1 : (a8 == 2) = true := by simp [g]
            have hfin : Hid (spr tn (cs.take (i + 1)) = (spr tn (cs.take i)).set k (y + 1)) := Mr.hid (by rw [hst.out, hspF.out, if_pos g])
            clear g
            go_wp2
            go_roundg (gk - 1)
            case measure => have := hi'.out; omega
            case rel => exact ⟨i + 1, by simp, by have := hi'.out; omega, by rw [hfin.out]; exact hn2.out, Mr.hid (by rw [hst.out]; exact hbn.out)⟩
          · have e1 : (a8 == 2) = false := by simp [g]
            have hfin : Hid (spr tn (cs.take (i + 1)) = spr tn (cs.take i)) := Mr.hid (by rw [hst.out, hspF.out, if_neg g])
            clear g
            go_wp2
            go_roundg (gk - 1)
            case measure => have := hi'.out; omega
            case rel => exact ⟨i + 1, by simp, by have := hi'.out; omega, by rw [hfin.out]; exact hR1.out, Mr.hid (by rw [hst.out]; exact hbn.out)⟩
        · have q0 : decide ((i : Int) < (n : Int)) = false := decide_eq_false (by omega)
          have q0' : decide (i < n) = false := decide_eq_false hlt
          have hfin : Hid (spr tn (cs.take i) = spr tn cs) := Mr.hid (by rw [List.take_of_length_le (by rw [← hnn.out]; omega)])
          have hRh := Mr.hid hR
          have m0 := (hR.bel.cell (p := ⟨w.heap.size + 1, 0, none⟩) lb2).trans m0'.out
          clear hlt hb hR
          go_wp2
          go_ret2
          refine ⟨some ⟨B, 0, none⟩, tn, tn, rfl, ?_, BB.out.trans (hRh.out.bel.mono BB.out.size)⟩
          have h9 := hRh.out.isAt
          rw [hfin.out, spr_len] at h9
          exact h9
end Go.Proofs.Ytaojggnflblgnaa.Hd
