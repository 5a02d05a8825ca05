import Derived.Test.YtfhkgeoionkonaaGreatDoorJ28
/-
  SCRIPT: ScriptOwn.
-/
namespace Go.Proofs.YtfhkgeoionkonaaGreatDoor.Sc
open Go.RowKit Mr
set_option linter.unusedVariables false
set_option linter.unusedSimpArgs false
set_option maxRecDepth 100000
set_option maxHeartbeats 32000000 in
theorem scriptOwn_any (a0 a1 a2 a3 a4 a5 a6 : Int) (a : Option Addr) (n cap : Nat) (ms : List Mv) (w : World) (V : EnvX w) (hM : MvAt w a n ms) (hcap : n ≤ cap) (hm : ∀ m ∈ ms, MvB m) :
    Calls Tryz.prog 5 #[.agg #[.int .i64 a0, .int .i64 a1, .int .i64 a2, .int .i64 a3, .int .i64 a4, .int .i64 a5, .int .i64 a6], .slice a n cap] w fun e w' => e = .returned (.bool true) ∧ Below w.heap.size w w' := by
  have E := V.env
  have RC := Mr.hid (fun W => Wc.refConfig a0 a1 a2 a3 a4 a5 a6 W)
  have AW := Mr.hid (fun W (hB : Below w.heap.size w W) => awake_any W (E.below hB))
  have SM := Mr.hid (fun W => small_any W)
  have hM' := Mr.hid (fun W (hB : Below w.heap.size w W) => hM.below hB)
  have hln := hM.1
  have PR := Mr.hid (fun x0 x1 x2 x3 x4 x5 x6 n1 (hc : Wc.cfgB x0 x1 x2 x3 x4 x5 x6 = true) (h1 : n1 ≤ n) (h2 : n1 ≤ 2000) W (hB : Below w.heap.size w W) => print_cut x0 x1 x2 x3 x4 x5 x6 a n n1 cap ms W (E.below hB) (hM'.out W hB) hm hc h1 (Nat.le_trans h1 hcap) (Nat.le_trans h2 (by decide)))
  replace hm := Mr.hid hm
  replace V := Mr.hid V
  replace hln := Mr.hid hln
  clear hM E
  have B0 : Hid (Below w.heap.size w (w.alloc (.cells #[.int .i64 a0, .int .i64 a1, .int .i64 a2, .int .i64 a3, .int .i64 a4, .int .i64 a5, .int .i64 a6] 23 (0, 0)))) := (Below.refl _ _).alloc (Nat.le_refl _) _
  go_enter Tryz.func5, Tryz.ntmps5
  go_upto_region 1 with fail
  go_cut [25] (fun t wc => t = .bool (!Wc.cfgB a0 a1 a2 a3 a4 a5 a6) ∧ wc.heap[w.heap.size]? = some (.cells #[.int .i64 a0, .int .i64 a1, .int .i64 a2, .int .i64 a3, .int .i64 a4, .int .i64 a5, .int .i64 a6] 23 (0, 0)) ∧ Below w.heap.size w wc)
  case first =>
    go_wp2_with (go_at_call 13; refine (RC.out _).mono ?_; clear RC; rintro e w1 ⟨rfl, B1⟩; replace B1 := Mr.hid B1)
    go_meet
    case rel => exact ⟨by simp, (B1.out.block _ (by simp)).trans (new_at _ _ _ rfl), B0.out.trans (B1.out.mono (by simp))⟩
  case rest =>
    obtain ⟨rfl, hbx, hBB⟩ := hcut
    clear RC B0
    go_upto_if 25 with fail
    go_cut [] (fun wc => ∃ x0 x1 x2 x3 x4 x5 x6 : Int, Wc.cfgB x0 x1 x2 x3 x4 x5 x6 = true ∧ wc.heap[w.heap.size]? = some (.cells #[.int .i64 x0, .int .i64 x1, .int .i64 x2, .int .i64 x3, .int .i64 x4, .int .i64 x5, .int .i64 x6] 23 (0, 0)) ∧ Below w.heap.size w wc)
    case first =>
      cases hbad : Wc.cfgB a0 a1 a2 a3 a4 a5 a6 with
      | false =>
        have lb := (Array.getElem?_eq_some_iff.1 hbx).1
        replace hbx := Mr.hid hbx
        replace hBB := Mr.hid hBB
        go_wp2_with (go_at_call 14; refine (SM.out _).mono ?_)
        clear SM
        rintro e w2 ⟨rfl, B2⟩
        have hbx2 : w2.heap[w.heap.size]? = some (.cells #[.int .i64 a0, .int .i64 a1, .int .i64 a2, .int .i64 a3, .int .i64 a4, .int .i64 a5, .int .i64 a6] 23 (0, 0)) := (B2.block _ lb).trans hbx.out
        have BB2 : Below w.heap.size w w2 := hBB.out.trans (B2.mono hBB.out.size)
        have k0 := cell_blk hbx2 0
        have k1 := cell_blk hbx2 1
        have k2 := cell_blk hbx2 2
        have k3 := cell_blk hbx2 3
        have k4 := cell_blk hbx2 4
        have k5 := cell_blk hbx2 5
        have k6 := cell_blk hbx2 6
        have fz : ∀ k, w2.frozen? ⟨w.heap.size, k, none⟩ = false := fun k => by simp [World.frozen?, hbx2]
        have l2 := (Array.getElem?_eq_some_iff.1 hbx2).1
        have R2 := Mr.hid (And.intro hbx2 BB2)
        clear B2 hbx2 BB2 hbx hBB
        go_wp2
        go_meet
        case rel =>
          obtain ⟨hbx2, BB2⟩ := R2.out
          exact ⟨2, 2, 3, 1, 0, 4, 1, by decide, (setBlk (setBlk (setBlk (setBlk (setBlk (setBlk (setBlk hbx2 0 (.int .i64 2)) 1 (.int .i64 2)) 2 (.int .i64 3)) 3 (.int .i64 1)) 4 (.int .i64 0)) 5 (.int .i64 4)) 6 (.int .i64 1)).trans rfl, (((((((BB2.setCell (p := ⟨w.heap.size, 0, none⟩) (Nat.le_refl _) (.int .i64 2)).setCell (p := ⟨w.heap.size, 1, none⟩) (Nat.le_refl _) (.int .i64 2)).setCell (p := ⟨w.heap.size, 2, none⟩) (Nat.le_refl _) (.int .i64 3)).setCell (p := ⟨w.heap.size, 3, none⟩) (Nat.le_refl _) (.int .i64 1)).setCell (p := ⟨w.heap.size, 4, none⟩) (Nat.le_refl _) (.int .i64 0)).setCell (p := ⟨w.heap.size, 5, none⟩) (Nat.le_refl _) (.int .i64 4)).setCell (p := ⟨w.heap.size, 6, none⟩) (Nat.le_refl _) (.int .i64 1))⟩
      | true =>
        replace hbx := Mr.hid hbx
        replace hBB := Mr.hid hBB
        go_wp2
        go_meet
        case rel => exact ⟨a0, a1, a2, a3, a4, a5, a6, hbad, hbx.out, hBB.out⟩
    case rest =>
      obtain ⟨x0, x1, x2, x3, x4, x5, x6, hcf, hbx, hBB⟩ := hcut
      replace hbx := Mr.hid hbx
      replace hBB := Mr.hid hBB
      clear SM
      go_upto_region 3 with fail
      go_upto_if 29 with fail
      go_cut [1] (fun s1 wq => ∃ n1 : Nat, s1 = .slice a n1 cap ∧ n1 ≤ n ∧ n1 ≤ 2000 ∧ wq.heap[w.heap.size]? = some (.cells #[.int .i64 x0, .int .i64 x1, .int .i64 x2, .int .i64 x3, .int .i64 x4, .int .i64 x5, .int .i64 x6] 23 (0, 0)) ∧ Below w.heap.size w wq)
      case first =>
        by_cases hcut : n ≤ 2000
        · have d0 : decide ((2000 : Int) < (n : Int)) = false := decide_eq_false (by omega)
          have d1 : ¬ (2000 : Int) < (n : Int) := by omega
          go_wp2
          go_meet
          case rel => exact ⟨n, rfl, Nat.le_refl _, hcut, hbx.out, hBB.out⟩
        · have d0 : decide ((2000 : Int) < (n : Int)) = true := decide_eq_true (by omega)
          have d1 : (2000 : Int) < (n : Int) := by omega
          have d2 : (2000 : Int) ≤ (cap : Int) := by omega
          go_wp2
          go_meet
          case rel => exact ⟨2000, rfl, by omega, Nat.le_refl _, hbx.out, hBB.out⟩
      case rest =>
        obtain ⟨n1, rfl, hn1, hn2, hbx3, hBB3⟩ := hcut
        clear hbx hBB
        have P3 := Mr.hid (PR.out x0 x1 x2 x3 x4 x5 x6 n1 hcf hn1 hn2 _ hBB3)
        have TX := Mr.hid (text_cut x0 x1 x2 x3 x4 x5 x6 n n1 ms hcf hln.out hm.out hn1 (Nat.le_trans hn2 (by decide)))
        have x0_ := cell_blk hbx3 0
        have x1_ := cell_blk hbx3 1
        have x2_ := cell_blk hbx3 2
        have x3_ := cell_blk hbx3 3
        have x4_ := cell_blk hbx3 4
        have x5_ := cell_blk hbx3 5
        have x6_ := cell_blk hbx3 6
        have l3 := (Array.getElem?_eq_some_iff.1 hbx3).1
        replace hbx3 := Mr.hid hbx3
        replace hBB3 := Mr.hid hBB3
        clear PR
        generalize hL : prints [x0, x1, x2, x3, x4, x5, x6] (ms.take n1) = L at *
        replace hL := Mr.hid hL
        go_upto_region 6 with (go_at_call 11; refine P3.out.mono ?_; clear P3; rintro e w4 ⟨rfl, B4⟩)
        have BB4 : Below w.heap.size w w4 := hBB3.out.trans (B4.mono hBB3.out.size)
        have hbx4 : Hid (w4.heap[w.heap.size]? = some (.cells #[.int .i64 x0, .int .i64 x1, .int .i64 x2, .int .i64 x3, .int .i64 x4, .int .i64 x5, .int .i64 x6] 23 (0, 0))) := (B4.block _ l3).trans hbx3.out
        have A4 := Mr.hid (AW.out w4 BB4)
        have l4 : w.heap.size < w4.heap.size := Nat.lt_of_lt_of_le l3 B4.size
        replace BB4 := Mr.hid BB4
        clear x0_ x1_ x2_ x3_ x4_ x5_ x6_ hbx3 hBB3 B4 AW l3
        go_upto_region 8 with (go_at_call 10; refine A4.out.mono ?_; clear A4; rintro e w5 ⟨rfl, B5⟩)
        have BB5 : Below w.heap.size w w5 := BB4.out.trans (B5.mono BB4.out.size)
        have hbx5 : w5.heap[w.heap.size]? = some (.cells #[.int .i64 x0, .int .i64 x1, .int .i64 x2, .int .i64 x3, .int .i64 x4, .int .i64 x5, .int .i64 x6] 23 (0, 0)) := (B5.block _ l4).trans hbx4.out
        clear BB4 B5 hbx4 l4
        obtain ⟨hLl, hcd, hm1, hl1⟩ := TX.out
        obtain ⟨ii, hii, hz0, hz1, hz2⟩ := info_m
        have Mo : Hid (∀ W, Below w.heap.size w W → MvAt W a n1 (ms.take n1)) := fun W hB => (hM'.out W hB).cut n1 hn1
        have hpx : parseO L = some (⟨x0, x1, x2, x3, x4, x5, x6⟩, ms.take n1) := by
          have := back ⟨x0, x1, x2, x3, x4, x5, x6⟩ (ms.take n1) hcd hm1 (by omega) (by unfold cfL; dsimp only; rw [hL.out]; omega)
          unfold cfL at this
          dsimp only at this
          rw [hL.out] at this
          exact this
        have PA := Mr.hid (fun W (hB : Below w.heap.size w W) => Parse_ok L (⟨x0, x1, x2, x3, x4, x5, x6⟩, ms.take n1) W (V.out.env.below hB) hpx)
        have SMV := Mr.hid (fun W a' c' (hB : Below w.heap.size w W) (h1 : MvAt W a' n1 (ms.take n1)) => sameMoves_eq (ms.take n1) a' a n1 c' cap W h1 (Mo.out W hB) (by omega))
        unfold PaA cfV at PA
        dsimp only at PA
        rw [hl1] at PA
        generalize (⟨L.toArray⟩ : ByteArray) = X at *
        generalize hms1 : ms.take n1 = ms1 at *
        have hn2' : n1 ≤ 2000 := hn2
        clear TX hcd hm1 hL hbx5 hM' hm V hln hcf hpx Mo hms1 hLl
        have P5 := Mr.hid (PA.out w5 BB5)
        replace BB5 := Mr.hid BB5
        go_upto_region 9 with (go_at_call 9; refine P5.out.mono ?_; clear P5; rintro e w6 ⟨va, rfl, hva, B6⟩)
        obtain ⟨aa, ca, rfl, hca⟩ := hva.form
        have BB7 : Below w.heap.size w (w6.alloc (.cells #[.int .i64 x0, .int .i64 x1, .int .i64 x2, .int .i64 x3, .int .i64 x4, .int .i64 x5, .int .i64 x6] 23)) := (BB5.out.trans (B6.mono BB5.out.size)).alloc (Nat.le_trans BB5.out.size B6.size) _
        have Ha7 : Has (w6.alloc (.cells #[.int .i64 x0, .int .i64 x1, .int .i64 x2, .int .i64 x3, .int .i64 x4, .int .i64 x5, .int .i64 x6] 23)) (fun k => w.heap.size ≤ k ∧ k < (w6.alloc (.cells #[.int .i64 x0, .int .i64 x1, .int .i64 x2, .int .i64 x3, .int .i64 x4, .int .i64 x5, .int .i64 x6] 23)).heap.size) 38 4 (.slice aa n1 ca) n1 (mvc ms1) := (hva.alloc (.cells #[.int .i64 x0, .int .i64 x1, .int .i64 x2, .int .i64 x3, .int .i64 x4, .int .i64 x5, .int .i64 x6] 23)).kept (fun k _ => rfl) (fun k hk => ⟨Nat.le_trans BB5.out.size (hva.lt k hk).1, Nat.lt_of_lt_of_le (hva.lt k hk).2 (by simp)⟩)
        have P7 := Mr.hid (PA.out _ BB7)
        replace Ha7 := Mr.hid Ha7
        replace BB7 := Mr.hid BB7
        clear hva B6 BB5
        generalize w6.alloc (.cells #[.int .i64 x0, .int .i64 x1, .int .i64 x2, .int .i64 x3, .int .i64 x4, .int .i64 x5, .int .i64 x6] 23) = w7 at *
        go_upto_region 10 with (go_at_call 9; refine P7.out.mono ?_; clear P7; rintro e w8 ⟨vb, rfl, hvb, B8⟩)
        obtain ⟨ab, cb, rfl, hcb⟩ := hvb.form
        obtain ⟨Q, hQ⟩ : ∃ Q, w7.heap.size = Q := ⟨_, rfl⟩
        obtain ⟨R, hR⟩ : ∃ R, (w8.alloc (.cells #[.int .i64 x0, .int .i64 x1, .int .i64 x2, .int .i64 x3, .int .i64 x4, .int .i64 x5, .int .i64 x6] 23)).heap.size = R := ⟨_, rfl⟩
        have BB9 : Below w.heap.size w (w8.alloc (.cells #[.int .i64 x0, .int .i64 x1, .int .i64 x2, .int .i64 x3, .int .i64 x4, .int .i64 x5, .int .i64 x6] 23)) := (BB7.out.trans (B8.mono BB7.out.size)).alloc (Nat.le_trans BB7.out.size B8.size) _
        have Ha9 : Has (w8.alloc (.cells #[.int .i64 x0, .int .i64 x1, .int .i64 x2, .int .i64 x3, .int .i64 x4, .int .i64 x5, .int .i64 x6] 23)) (fun k => w.heap.size ≤ k ∧ k < Q) 38 4 (.slice aa n1 ca) n1 (mvc ms1) := by have := (Ha7.out.below B8).alloc (.cells #[.int .i64 x0, .int .i64 x1, .int .i64 x2, .int .i64 x3, .int .i64 x4, .int .i64 x5, .int .i64 x6] 23); rw [hQ] at this; exact this
        have Hb9 : Has (w8.alloc (.cells #[.int .i64 x0, .int .i64 x1, .int .i64 x2, .int .i64 x3, .int .i64 x4, .int .i64 x5, .int .i64 x6] 23)) (fun k => Q ≤ k ∧ k < R) 38 4 (.slice ab n1 cb) n1 (mvc ms1) := (hvb.alloc (.cells #[.int .i64 x0, .int .i64 x1, .int .i64 x2, .int .i64 x3, .int .i64 x4, .int .i64 x5, .int .i64 x6] 23)).kept (fun k _ => rfl) (fun k hk => ⟨by rw [← hQ]; exact (hvb.lt k hk).1, by rw [← hR]; exact Nat.lt_of_lt_of_le (hvb.lt k hk).2 (by simp)⟩)
        have hQw : w.heap.size ≤ Q := by rw [← hQ]; exact BB7.out.size
        have hQR : Q ≤ R := by rw [← hQ, ← hR]; exact Nat.le_trans B8.size (by simp)
        have S9 := Mr.hid (SMV.out _ aa ca BB9 (MvAt.of Ha9))
        replace hR := Mr.hid hR
        replace Ha9 := Mr.hid Ha9
        replace Hb9 := Mr.hid Hb9
        replace BB9 := Mr.hid BB9
        clear Ha7 BB7 B8 hvb hQ
        generalize w8.alloc (.cells #[.int .i64 x0, .int .i64 x1, .int .i64 x2, .int .i64 x3, .int .i64 x4, .int .i64 x5, .int .i64 x6] 23) = w9 at *
        go_wp2_with (go_at_call 12; refine S9.out.mono ?_; clear S9)
        rintro e w10 ⟨rfl, B10⟩
        have BB10 : Below w.heap.size w w10 := BB9.out.trans (B10.mono BB9.out.size)
        have Ha10 := Mr.hid (Ha9.out.below B10)
        have Hb10 := Hb9.out.below B10
        have S10 := Mr.hid (SMV.out w10 ab cb BB10 (MvAt.of Hb10))
        have hR10 : R ≤ w10.heap.size := by rw [← hR.out]; exact B10.size
        replace Hb10 := Mr.hid Hb10
        replace BB10 := Mr.hid BB10
        clear B10 Ha9 Hb9 BB9 hR
        go_wp2_with (go_at_call 12; refine S10.out.mono ?_; clear S10)
        rintro e w11 ⟨rfl, B11⟩
        have BB11 : Hid (Below w.heap.size w w11) := BB10.out.trans (B11.mono BB10.out.size)
        have Ha11 := Mr.hid (Ha10.out.below B11)
        have Hb11 := Mr.hid (Hb10.out.below B11)
        have hR11 : R ≤ w11.heap.size := Nat.le_trans hR10 B11.size
        clear B11 BB10 Ha10 Hb10 hR10
        go_upto_region 13 with fail
        go_loopg [14] n1 (fun gk s14 wr => ∃ (i : Nat) (l : List Mv), s14 = .int .i64 (i : Int) ∧ i + gk = n1 ∧ Has wr (fun k => w.heap.size ≤ k ∧ k < Q) 38 4 (.slice aa n1 ca) n1 (mvc l) ∧ Mk i l ∧ Has wr (fun k => Q ≤ k ∧ k < R) 38 4 (.slice ab n1 cb) n1 (mvc ms1) ∧ Below w.heap.size w wr ∧ R ≤ wr.heap.size)
        case atStart => exact ⟨0, ms1, rfl, by omega, Ha11.out, fun j hj => by omega, Hb11.out, BB11.out, hR11⟩
        case round =>
          obtain ⟨i, l, rfl, hi, hA, hMk, hBb, hBr, hRr⟩ := hrel
          by_cases hlt : i < n1
          · obtain ⟨g, cap', hv, hgS, hgl, -, -⟩ := hA.there (by omega)
            obtain ⟨rfl, -⟩ : aa = some ⟨g, 0, none⟩ ∧ True := by injection hv with h1 h2 h3; exact ⟨h1, trivial⟩
            have hll := has_len hA
            obtain ⟨m, hm⟩ : ∃ m, l[i]? = some m := ⟨l[i], List.getElem?_eq_getElem (by omega)⟩
            obtain ⟨d0, d1, d2, d3⟩ := has_mv hA i m hm
            have hfz : ∀ j, wr.frozen? ⟨g, j, none⟩ = false := fun j => hA.frozen (g := g) rfl j
            have hlI : (i : Int) < (n1 : Int) := by omega
            have dl : decide ((i : Int) < (n1 : Int)) = true := by simpa using hlI
            have hw : IntKind.i64.wrap ((i : Int) + 1) = (i : Int) + 1 := i64x _ (by omega) (by omega)
            have F1 := Mr.hid (has_put hA (g := g) rfl i (mk77 i) (by omega))
            have F2 := Mr.hid (hMk.set (by omega))
            have hng : (Value.slice ab n1 cb).ownBlock ≠ some g := fun e => by have := (hBb.lt g e).1.1; have := hgS.2; omega
            have F3 := Mr.hid (fun p q r t c0 c1 c2 c3 => has_aside hBb hng p q r t c0 c1 c2 c3)
            have hi' := Mr.hid hi
            have hgw := hgS.1
            replace hBr := Mr.hid hBr
            clear hA hMk hBb hi hm hv hgS hll hng
            unfold mk77 at F1
            dsimp only at F1
            go_wp2
            go_roundg (gk - 1)
            case measure => have := hi'.out; omega
            case rel => exact ⟨i + 1, _, by simp, by have := hi'.out; omega, F1.out, F2.out, F3.out _ _ _ _ _ _ _ _, (((hBr.out.setCell (p := ⟨g, _, none⟩) hgw _).setCell (p := ⟨g, _, none⟩) hgw _).setCell (p := ⟨g, _, none⟩) hgw _).setCell (p := ⟨g, _, none⟩) hgw _, by simpa using hRr⟩
          · have hie : i = n1 := by omega
            rw [hie] at hMk
            have dl : decide ((i : Int) < (n1 : Int)) = false := decide_eq_false (by omega)
            have dn : ¬ i < n1 := hlt
            have dn2 : decide (i < n1) = false := decide_eq_false hlt
            have H1 := Mr.hid (And.intro hA (And.intro hMk (And.intro hBb (And.intro hBr hRr))))
            clear hA hMk hBb hBr hRr hi hie
            go_upto_region 18 with fail
            generalize wr = w20 at *
            go_loopg [15, 16] 70 (fun gk s15 s16 wr => ∃ (k : Nat) (vg : Value) (lg la : List Mv), s15 = vg ∧ s16 = .int .i64 (k : Int) ∧ k + gk = 70 ∧ Has wr (fun k => w.heap.size ≤ k ∧ (k < Q ∨ R ≤ k)) 38 4 vg (n1 + k) (mvc lg) ∧ Mk n1 lg ∧ Has wr (fun k => w.heap.size ≤ k ∧ k < Q) 38 4 (.slice aa n1 ca) n1 (mvc la) ∧ Mk n1 la ∧ Has wr (fun k => Q ≤ k ∧ k < R) 38 4 (.slice ab n1 cb) n1 (mvc ms1) ∧ Below w.heap.size w wr ∧ R ≤ wr.heap.size)
            case atStart =>
              obtain ⟨hA, hMk, hBb, hBr, hRr⟩ := H1.out
              exact ⟨0, _, l, l, rfl, rfl, by omega, by simpa using hA.mono (fun k hk => ⟨hk.1, .inl hk.2⟩), hMk, hA, hMk, hBb, hBr, hRr⟩
            case round =>
              obtain ⟨k, vg, lg, la, rfl, rfl, hk, hG, hMg, hA, hMa, hBb, hBr, hRr⟩ := hrel
              obtain ⟨ag, cg, rfl, hcg⟩ := hG.form
              by_cases hlt2 : k < 70
              · have hlI : (k : Int) < 70 := by omega
                have dl2 : decide ((k : Int) < 70) = true := by simpa using hlI
                have hw : IntKind.i64.wrap ((k : Int) + 1) = (k : Int) + 1 := i64x _ (by omega) (by omega)
                have hk' := Mr.hid hk
                replace hG := Mr.hid hG
                replace hMg := Mr.hid hMg
                replace hA := Mr.hid hA
                replace hMa := Mr.hid hMa
                replace hBb := Mr.hid hBb
                replace hBr := Mr.hid hBr
                clear hk H1
                go_wp2_with (at_builtin; refine wpList_append_keep _ rfl _ _ 24 rfl (fun k => w.heap.size ≤ k ∧ (k < Q ∨ R ≤ k)) 38 ii _ 4 32 Tryz.underlying24 hii hz0 hz1 hz2 rfl _ _ _ rfl (hG.out.alloc _) ⟨wr.heap.size, 0, none⟩ 1 1 mk78.cells rfl rfl (newsM _ _ _ rfl rfl) (by intro u hu; exact mvc_one [mk78] u (by simpa [mvc] using hu)) (by decide) (by unfold maxLen; omega) (by omega) (by simp; have := hBr.out.size; omega) ?_)
                intro g2 cap2 w3 hh3 hgr hkp
                have hB3 : Hid (Below w.heap.size w w3) := (hBr.out.alloc hBr.out.size _).grown hgr (by have := hBr.out.size; simp; omega) (fun k hk => (hG.out.lt k hk).1.1)
                have hA3 := Mr.hid (has_old (hA.out.alloc _) hgr hkp (by omega))
                have hBb3 := Mr.hid ((hBb.out.alloc _).grown hgr (fun j hj e => by have h1 := (hBb.out.lt j hj).1; have h2 := (hG.out.lt j e).1; omega))
                have hG3 : Hid (Has w3 (fun k => w.heap.size ≤ k ∧ (k < Q ∨ R ≤ k)) 38 4 (.slice (some ⟨g2, 0, none⟩) (n1 + k + 1) cap2) (n1 + (k + 1)) (mvc (lg ++ [mk78]))) := by
                  show Has _ _ _ _ _ _ _
                  have e : mvc [mk78] = mk78.cells := by simp [mvc]
                  rw [mvc_append, e]
                  exact hh3
                have hMg3 := Mr.hid (hMg.out.app [mk78])
                have hR3 : Hid (R ≤ w3.heap.size) := Nat.le_trans (Nat.le_trans hRr (by simp)) hgr.size
                clear hh3 hgr hkp hG hMg hA hBb hBr hRr
                go_wp2
                go_roundg (gk - 1)
                case measure => have := hk'.out; omega
                case rel => exact ⟨k + 1, _, _, _, rfl, by simp, by have := hk'.out; omega, hG3.out, hMg3.out, hA3.out, hMa.out, hBb3.out, hB3.out, hR3.out⟩
              · have hke : k = 70 := by omega
                have dl2 : decide ((k : Int) < 70) = false := decide_eq_false (by omega)
                have dk2 : ¬ (k : Int) < 70 := by omega
                have P21 := Mr.hid (PA.out wr hBr)
                obtain ⟨ng, hng⟩ : ∃ ng, n1 + k = ng := ⟨_, rfl⟩
                rw [hng] at hG ⊢
                have hng2 : n1 ≤ ng := by omega
                replace hG := Mr.hid hG
                replace hMg := Mr.hid hMg
                replace hA := Mr.hid hA
                replace hMa := Mr.hid hMa
                replace hBb := Mr.hid hBb
                replace hBr := Mr.hid hBr
                clear hke hk H1 hlt2 hng PA
                generalize wr = w21 at *
                go_upto_region 22 with (go_at_call 9; refine P21.out.mono ?_; clear P21; rintro e w22 ⟨vt, rfl, hvt, B22⟩)
                obtain ⟨at_, ct, rfl, hct⟩ := hvt.form
                have BB23 : Below w.heap.size w (w22.alloc (.cells #[.int .i64 x0, .int .i64 x1, .int .i64 x2, .int .i64 x3, .int .i64 x4, .int .i64 x5, .int .i64 x6] 23)) := (hBr.out.trans (B22.mono hBr.out.size)).alloc (Nat.le_trans hBr.out.size B22.size) _
                have Ht23 : Has (w22.alloc (.cells #[.int .i64 x0, .int .i64 x1, .int .i64 x2, .int .i64 x3, .int .i64 x4, .int .i64 x5, .int .i64 x6] 23)) (fun k => R ≤ k) 38 4 (.slice at_ n1 ct) n1 (mvc ms1) := (hvt.alloc (.cells #[.int .i64 x0, .int .i64 x1, .int .i64 x2, .int .i64 x3, .int .i64 x4, .int .i64 x5, .int .i64 x6] 23)).mono (fun k hk => Nat.le_trans hRr hk)
                have HG23 := Mr.hid ((hG.out.below B22).alloc (.cells #[.int .i64 x0, .int .i64 x1, .int .i64 x2, .int .i64 x3, .int .i64 x4, .int .i64 x5, .int .i64 x6] 23))
                have HA23 := Mr.hid ((hA.out.below B22).alloc (.cells #[.int .i64 x0, .int .i64 x1, .int .i64 x2, .int .i64 x3, .int .i64 x4, .int .i64 x5, .int .i64 x6] 23))
                have Hb23 := (hBb.out.below B22).alloc (.cells #[.int .i64 x0, .int .i64 x1, .int .i64 x2, .int .i64 x3, .int .i64 x4, .int .i64 x5, .int .i64 x6] 23)
                have S23 := Mr.hid (SMV.out _ ab cb BB23 (MvAt.of Hb23))
                replace BB23 := Mr.hid BB23
                replace Ht23 := Mr.hid Ht23
                replace Hb23 := Mr.hid Hb23
                clear hvt B22 hG hA hBb hBr hRr
                generalize w22.alloc (.cells #[.int .i64 x0, .int .i64 x1, .int .i64 x2, .int .i64 x3, .int .i64 x4, .int .i64 x5, .int .i64 x6] 23) = w23 at *
                go_wp2_with (go_at_call 12; refine S23.out.mono ?_; clear S23)
                rintro e w24 ⟨rfl, B24⟩
                have BB24 : Below w.heap.size w w24 := BB23.out.trans (B24.mono BB23.out.size)
                have Ht24 := Ht23.out.below B24
                have HG24 := Mr.hid (HG23.out.below B24)
                have HA24 := Mr.hid (HA23.out.below B24)
                have Hb24 := Mr.hid (Hb23.out.below B24)
                have S24 := Mr.hid (SMV.out w24 at_ ct BB24 (MvAt.of Ht24))
                replace BB24 := Mr.hid BB24
                replace Ht24 := Mr.hid Ht24
                clear B24 BB23 Ht23 HG23 HA23 Hb23
                go_wp2_with (go_at_call 12; refine S24.out.mono ?_; clear S24)
                rintro e w25 ⟨rfl, B25⟩
                have BB25 := Mr.hid (BB24.out.trans (B25.mono BB24.out.size))
                have Ht25 := Mr.hid (Ht24.out.below B25)
                have HG25 := Mr.hid (HG24.out.below B25)
                have HA25 := Mr.hid (HA24.out.below B25)
                have Hb25 := Mr.hid (Hb24.out.below B25)
                clear B25 BB24 Ht24 HG24 HA24 Hb24
                go_upto_region 25 with fail
                go_loopg [21] n1 (fun gk s21 wr => ∃ (i : Nat) (lb : List Mv), s21 = .int .i64 (i : Int) ∧ i + gk = n1 ∧ Has wr (fun k => Q ≤ k ∧ k < R) 38 4 (.slice ab n1 cb) n1 (mvc lb) ∧ Has wr (fun k => w.heap.size ≤ k ∧ (k < Q ∨ R ≤ k)) 38 4 (.slice ag ng cg) ng (mvc lg) ∧ Has wr (fun k => w.heap.size ≤ k ∧ k < Q) 38 4 (.slice aa n1 ca) n1 (mvc la) ∧ Has wr (fun k => R ≤ k) 38 4 (.slice at_ n1 ct) n1 (mvc ms1) ∧ Below w.heap.size w wr)
                case atStart => exact ⟨0, ms1, rfl, by omega, Hb25.out, HG25.out, HA25.out, Ht25.out, BB25.out⟩
                case round =>
                  obtain ⟨j, lb, rfl, hj, hBb, hG, hA, hT, hBr⟩ := hrel
                  by_cases hlt3 : j < n1
                  · obtain ⟨g, cap', hv, hgS, hgl, -, -⟩ := hBb.there (by omega)
                    obtain ⟨rfl, -⟩ : ab = some ⟨g, 0, none⟩ ∧ True := by injection hv with h1 h2 h3; exact ⟨h1, trivial⟩
                    have hll := has_len hBb
                    obtain ⟨m, hm⟩ : ∃ m, lb[j]? = some m := ⟨lb[j], List.getElem?_eq_getElem (by omega)⟩
                    obtain ⟨d0, d1, d2, d3⟩ := has_mv hBb j m hm
                    have hfz : ∀ q, wr.frozen? ⟨g, q, none⟩ = false := fun q => hBb.frozen (g := g) rfl q
                    have hlI : (j : Int) < (n1 : Int) := by omega
                    have dl3 : decide ((j : Int) < (n1 : Int)) = true := by simpa using hlI
                    have hw : IntKind.i64.wrap ((j : Int) + 1) = (j : Int) + 1 := i64x _ (by omega) (by omega)
                    have F1 := Mr.hid (has_put hBb (g := g) rfl j mk79 (by omega))
                    have n1' : (Value.slice ag ng cg).ownBlock ≠ some g := fun e => by have h1 := (hG.lt g e).1; have h2 := hgS; omega
                    have n2' : (Value.slice aa n1 ca).ownBlock ≠ some g := fun e => by have h1 := (hA.lt g e).1; have h2 := hgS; omega
                    have n3' : (Value.slice at_ n1 ct).ownBlock ≠ some g := fun e => by have h1 := (hT.lt g e).1; have h2 := hgS; omega
                    have F2 := Mr.hid (fun p q r t c0 c1 c2 c3 => has_aside hG n1' p q r t c0 c1 c2 c3)
                    have F3 := Mr.hid (fun p q r t c0 c1 c2 c3 => has_aside hA n2' p q r t c0 c1 c2 c3)
                    have F4 := Mr.hid (fun p q r t c0 c1 c2 c3 => has_aside hT n3' p q r t c0 c1 c2 c3)
                    have hj' := Mr.hid hj
                    have hgw : w.heap.size ≤ g := by have := hgS.1; omega
                    replace hBr := Mr.hid hBr
                    clear hA hG hT hBb hj hm hv hgS hll n1' n2' n3' Hb25 HG25 HA25 Ht25 BB25
                    unfold mk79 at F1
                    dsimp only at F1
                    go_wp2
                    go_roundg (gk - 1)
                    case measure => have := hj'.out; omega
                    case rel => exact ⟨j + 1, _, by simp, by have := hj'.out; omega, F1.out, F2.out _ _ _ _ _ _ _ _, F3.out _ _ _ _ _ _ _ _, F4.out _ _ _ _ _ _ _ _, (((hBr.out.setCell (p := ⟨g, _, none⟩) hgw _).setCell (p := ⟨g, _, none⟩) hgw _).setCell (p := ⟨g, _, none⟩) hgw _).setCell (p := ⟨g, _, none⟩) hgw _⟩
                  · have dl3 : decide ((j : Int) < (n1 : Int)) = false := decide_eq_false (by omega)
                    have dn3 : ¬ j < n1 := hlt3
                    have dn4 : decide (j < n1) = false := decide_eq_false hlt3
                    replace hG := Mr.hid hG
                    replace hA := Mr.hid hA
                    replace hT := Mr.hid hT
                    replace hBr := Mr.hid hBr
                    clear hBb hj Hb25 HG25 HA25 Ht25 BB25
                    generalize wr = w26 at *
                    go_upto_region 29 with fail
                    go_loopg [22] n1 (fun gk s22 wr => ∃ (i : Nat), s22 = .int .i64 (i : Int) ∧ i + gk = n1 ∧ Below w26.heap.size w26 wr)
                    case atStart => exact ⟨0, rfl, by omega, Below.refl _ _⟩
                    case round =>
                      obtain ⟨q, rfl, hq, hBq⟩ := hrel
                      by_cases hlt4 : q < n1
                      · have hG4 := hG.out.below hBq
                        have hA4 := hA.out.below hBq
                        obtain ⟨g, cap', hv, -, hgl, -, -⟩ := hA4.there (by omega)
                        obtain ⟨rfl, -⟩ : aa = some ⟨g, 0, none⟩ ∧ True := by injection hv with h1 h2 h3; exact ⟨h1, trivial⟩
                        obtain ⟨g2, cap2', hv2, -, hgl2, -, -⟩ := hG4.there (by omega)
                        obtain ⟨rfl, -⟩ : ag = some ⟨g2, 0, none⟩ ∧ True := by injection hv2 with h1 h2 h3; exact ⟨h1, trivial⟩
                        obtain ⟨d0, d1, d2, d3⟩ := has_mv hA4 q _ (hMa.out q hlt4)
                        obtain ⟨f0, f1, f2, f3⟩ := has_mv hG4 q _ (hMg.out q hlt4)
                        unfold mk77 at d0 d1 d2 d3 f0 f1 f2 f3
                        dsimp only at d0 d1 d2 d3 f0 f1 f2 f3
                        have hlI : (q : Int) < (n1 : Int) := by omega
                        have hlJ : (q : Int) < (ng : Int) := by omega
                        have dl4 : decide ((q : Int) < (n1 : Int)) = true := by simpa using hlI
                        have hw : IntKind.i64.wrap ((q : Int) + 1) = (q : Int) + 1 := i64x _ (by omega) (by omega)
                        have hq' := Mr.hid hq
                        replace hBq := Mr.hid hBq
                        clear hG4 hA4 hv hv2 hq
                        go_upto_region 31 with fail
                        go_quiet (fail)
                        replace hBq := Mr.hid (hBq.out.trans ⟨rfl, rfl, rfl, Nat.le_refl _, fun _ _ => rfl⟩ : Below w26.heap.size w26 (wr.drewN nq))
                        clear d0 d1 d2 d3 f0 f1 f2 f3 hgl hgl2
                        generalize wr.drewN nq = w27 at *
                        go_wp2
                        go_roundg (gk - 1)
                        case measure => have := hq'.out; omega
                        case rel => exact ⟨q + 1, by simp, by have := hq'.out; omega, hBq.out⟩
                      · have dl4 : decide ((q : Int) < (n1 : Int)) = false := decide_eq_false (by omega)
                        have dn5 : ¬ q < n1 := hlt4
                        have dn6 : decide (q < n1) = false := decide_eq_false hlt4
                        have BBq : Below w.heap.size w wr := hBr.out.trans (hBq.mono hBr.out.size)
                        have Sq := Mr.hid (SMV.out wr at_ ct BBq (MvAt.of (hT.out.below hBq)))
                        replace BBq := Mr.hid BBq
                        clear hq hBq hT hG hA hBr
                        go_wp2_with (go_at_call 12; refine Sq.out.mono ?_; clear Sq; rintro e w30 ⟨rfl, B30⟩; replace B30 := Mr.hid B30)
                        go_ret
                        exact ⟨rfl, BBq.out.trans (B30.out.mono BBq.out.size)⟩
theorem law_own (c0 c1 c2 c3 c4 c5 c6 : Int) (a : Option Addr) (n cap : Nat) (ms : List Mv) (w : World) (hw : (Lit.int .i64 c0).wf = true ∧ (Lit.int .i64 c1).wf = true ∧ (Lit.int .i64 c2).wf = true ∧ (Lit.int .i64 c3).wf = true ∧ (Lit.int .i64 c4).wf = true ∧ (Lit.int .i64 c5).wf = true ∧ (Lit.int .i64 c6).wf = true) (hM : MvAt w a n ms) (hcap : n ≤ cap) (hm : ∀ m ∈ ms, MvB m) (V : EnvX w) :
    Calls Tryz.prog 5 #[.agg #[.int .i64 c0, .int .i64 c1, .int .i64 c2, .int .i64 c3, .int .i64 c4, .int .i64 c5, .int .i64 c6], .slice a n cap] w fun e w' => e = .returned (.bool true) ∧ Below w.heap.size w w' :=
  scriptOwn_any c0 c1 c2 c3 c4 c5 c6 a n cap ms w V hM hcap hm
end Go.Proofs.YtfhkgeoionkonaaGreatDoor.Sc
