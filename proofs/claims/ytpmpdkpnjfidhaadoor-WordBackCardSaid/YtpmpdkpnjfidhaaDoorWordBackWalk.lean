/-
  THE WALK of WordBack.
-/
import Derived.Test.YtpmpdkpnjfidhaaDoorWordBackP
import Derived.RegionTactic
import Derived.BigRegion
import Derived.Deep.CutRange
import Derived.Deep.RegionHeld3
import Derived.Deep.Cut
namespace Go.Proofs.YtpmpdkpnjfidhaaDoor.St
open Go.RowKit
open Tr Wp
set_option linter.unusedVariables false
/-- What is named is read as it was. -/
theorem read_back (r i k : Int) (w : World) (V : Env w) (h : nmE r i k = 0) : Calls Tryd.prog 9 #[.string (nmS r i k)] w fun e w' => e = .returned (.tuple #[.agg #[.int .i64 r, .int .i64 i, .int .i64 k], .int .i64 0]) ∧ Below w.heap.size w w' := by
  have hn := nm_named r i k h
  obtain ⟨p1, p2, p3⟩ := name_parts r i k hn
  have es : nmS r i k = nameB r i k := by unfold nmS; rw [if_pos hn]
  have hr : 1 ≤ r ∧ r ≤ 13 := by
    simp only [named, Bool.and_eq_true, decide_eq_true_eq] at hn
    exact ⟨hn.1.1.1.1.1, hn.1.1.1.1.2⟩
  refine (read_any (nmS r i k) w (by have := nmS_size r i k; omega) V).mono ?_
  rintro e w' ⟨⟨q, hq, hor⟩, B⟩
  refine ⟨?_, B⟩
  have es2 := es
  rw [es, p1] at hq
  obtain rfl := isReg_name r q hr.1 hr.2 hq
  rw [es, p2, p3] at hor
  rcases hor with ⟨he, _⟩ | ⟨_, hno⟩
  · exact he
  · exact absurd ⟨h, es2⟩ hno
theorem Hid.mk' {p : Prop} (h : p) : Hid p := h
theorem link_ways (ix : Int) (mk : Bool) : ∃ l le : Int, (∀ W : World, Calls Tryd.prog 11 #[.int .i64 ix, .bool mk] W fun e w' => e = .returned (.tuple #[.int .u64 l, .int .i64 le]) ∧ w' = W) ∧ ((le = 2 ∧ decide (-1 ≤ ix) = false) ∨ (le = 2 ∧ decide (-1 ≤ ix) = true ∧ decide (ix ≤ 2147483646) = false) ∨ (le = 0 ∧ ∀ W : World, Calls Tryd.prog 12 #[.int .u64 l] W fun e w' => e = .returned (.tuple #[.int .i64 ix, .bool mk, .int .i64 0]) ∧ w' = W)) := by
  by_cases hx : ix < -1 ∨ 2147483646 < ix
  · refine ⟨0, 2, fun W => link_bad ix mk W hx, ?_⟩
    by_cases h : ix < -1
    · exact .inl ⟨rfl, by simp; omega⟩
    · exact .inr (.inl ⟨rfl, by simp; omega, by simp; omega⟩)
  · have hm := pl_mod ix mk (by omega) (by omega)
    refine ⟨packLink ix mk, 0, fun W => link_ok ix mk W (by omega) (by omega), .inr (.inr ⟨rfl, fun W => ?_⟩)⟩
    have hu := unlink_ok (packLink ix mk) W hm.1 hm.2.1 hm.2.2.1
    rw [hm.2.2.2.1, hm.2.2.2.2] at hu
    exact hu
theorem head_ways (ix tg : Int) (t0 : 0 ≤ tg) (t1 : tg ≤ 4294967295) : ∃ hh he : Int, (∀ W : World, Calls Tryd.prog 13 #[.int .u32 tg, .int .i64 ix] W fun e w' => e = .returned (.tuple #[.int .u64 hh, .int .i64 he]) ∧ w' = W) ∧ (he = 2 ∨ (he = 0 ∧ ∀ W : World, Calls Tryd.prog 14 #[.int .u64 hh] W fun e w' => e = .returned (.tuple #[.int .u32 tg, .int .i64 ix, .int .i64 0]) ∧ w' = W)) := by
  by_cases hx : ix < -1 ∨ 2147483646 < ix
  · exact ⟨0, 2, fun W => head_bad tg ix W hx, .inl rfl⟩
  · have hm2 := ph_mod tg ix (by omega) (by omega) t0 t1
    refine ⟨packHead tg ix, 0, fun W => head_ok tg ix W (by omega) (by omega) t0 t1, .inr ⟨rfl, fun W => ?_⟩⟩
    have hu := unhead_ok (packHead tg ix) W hm2.1 hm2.2.1 hm2.2.2.1
    rw [hm2.2.2.2.1, hm2.2.2.2.2] at hu
    exact hu
set_option maxHeartbeats 8000000 in
set_option maxRecDepth 100000 in
theorem backs (ix : Int) (mk : Bool) (tg r i k g x : Int) (w : World) (t0 : 0 ≤ tg) (t1 : tg ≤ 4294967295) (h0 : 0 ≤ x) (h1 : x ≤ 18446744073709551615) (E : Env w) :
    Calls Tryd.prog 4 #[.agg #[.int .i64 ix, .bool mk, .int .u32 tg, .int .i64 r, .int .i64 i, .int .i64 k, .int .i64 g, .int .u64 x]] w fun e w' => e = .returned (.bool true) ∧ Below w.heap.size w w' := by
  go_enter Tryd.func4, Tryd.ntmps4
  go_wp2_with fail
  have al : Below w.heap.size w (w.alloc (.cells #[.int .i64 ix, .bool mk, .int .u32 tg, .int .i64 r, .int .i64 i, .int .i64 k, .int .i64 g, .int .u64 x] 38)) := (Below.refl _ _).alloc (Nat.le_refl _) _
  have c : ∀ j v, #[Value.int .i64 ix, .bool mk, .int .u32 tg, .int .i64 r, .int .i64 i, .int .i64 k, .int .i64 g, .int .u64 x][j]? = some v → (w.alloc (.cells #[.int .i64 ix, .bool mk, .int .u32 tg, .int .i64 r, .int .i64 i, .int .i64 k, .int .i64 g, .int .u64 x] 38)).cell? ⟨w.heap.size, j, none⟩ = some v := fun j v h => by rw [World.cell?_alloc_at _ _ _ _ rfl]; exact h
  have c0 := c 0 _ rfl
  have c1 := c 1 _ rfl
  have c2 := c 2 _ rfl
  have c3 := c 3 _ rfl
  have c4 := c 4 _ rfl
  have c5 := c 5 _ rfl
  have c6 := c 6 _ rfl
  have c7 := c 7 _ rfl
  clear c
  generalize w.alloc (.cells #[.int .i64 ix, .bool mk, .int .u32 tg, .int .i64 r, .int .i64 i, .int .i64 k, .int .i64 g, .int .u64 x] 38) = W1 at *
  have hne : w.heap.size ≠ W1.heap.size := by have := World.block_lt_of_cell? _ _ c0; simp only at this; omega
  have hlt : w.heap.size < W1.heap.size := by have := World.block_lt_of_cell? _ _ c0; simpa using this
  have d : ∀ o j v, W1.cell? ⟨w.heap.size, j, none⟩ = some v → (W1.alloc o).cell? ⟨w.heap.size, j, none⟩ = some v := fun o j v h => (((Below.refl W1.heap.size W1).alloc (Nat.le_refl _) o).cell (p := ⟨w.heap.size, j, none⟩) hlt).trans h
  have d0 := fun o => d o 0 _ c0
  have d1 := fun o => d o 1 _ c1
  have d2 := fun o => d o 2 _ c2
  have d3 := fun o => d o 3 _ c3
  have d4 := fun o => d o 4 _ c4
  have d5 := fun o => d o 5 _ c5
  have d6 := fun o => d o 6 _ c6
  have d7 := fun o => d o 7 _ c7
  clear d
  go_region_held3 (fun w' => w'.cell? ⟨w.heap.size, 0, none⟩ = some (.int .i64 ix) ∧ w'.cell? ⟨w.heap.size, 1, none⟩ = some (.bool mk) ∧ w'.cell? ⟨w.heap.size, 2, none⟩ = some (.int .u32 tg) ∧ w'.cell? ⟨w.heap.size, 3, none⟩ = some (.int .i64 r) ∧ w'.cell? ⟨w.heap.size, 4, none⟩ = some (.int .i64 i) ∧ w'.cell? ⟨w.heap.size, 5, none⟩ = some (.int .i64 k) ∧ w'.cell? ⟨w.heap.size, 6, none⟩ = some (.int .i64 g) ∧ w'.cell? ⟨w.heap.size, 7, none⟩ = some (.int .u64 x)) (first | exact ⟨c0, c1, c2, c3, c4, c5, c6, c7⟩ | exact ⟨d0 _, d1 _, d2 _, d3 _, d4 _, d5 _, d6 _, d7 _⟩ | go_keep) (fail)
  have P2 : Pl ((W1.alloc (.cells #[.int .i64 r, .int .i64 i, .int .i64 k] 24)).drew) W1.heap.size r i k := (Pl.made W1 r i k 24).drew
  have E2 : Below w.heap.size w ((W1.alloc (.cells #[.int .i64 r, .int .i64 i, .int .i64 k] 24)).drew) := (seqB al ((Below.refl _ _).alloc (Nat.le_refl _) _) (Nat.le_refl _)).drew
  clear c0 c1 c2 c3 c4 c5 c6 c7 d0 d1 d2 d3 d4 d5 d6 d7 al hne hlt
  generalize W1.heap.size = b at *
  generalize (W1.alloc (.cells #[.int .i64 r, .int .i64 i, .int .i64 k] 24)).drew = W2 at *
  have pc0 := P2.c0
  have pc1 := P2.c1
  have pc2 := P2.c2
  have rfx : (x != x) = false := by simp
  have rfi : (ix != ix) = false := by simp
  have rfm : (mk != mk) = false := by simp
  have rft : (tg != tg) = false := by simp
  replace E2 := Hid.mk' E2
  replace P2 := Hid.mk' P2
  replace E := Hid.mk' E
  go_step
  go_step
  go_step
  go_cut [9, 10, 11, 12, 13] from 41 to 72 (fun _ _ _ _ _ wx => wx = W2)
  case first =>
    clear rfx rft pc0 pc1 pc2 P2 E2 E h0 h1
    rcases link_ways ix mk with ⟨l, le, LK, ⟨rfl, d1⟩ | ⟨rfl, d1, d2⟩ | ⟨rfl, UL⟩⟩
    · go_wp2_with (go_at_call 11; refine (LK _).mono ?_; clear LK; rintro e w' ⟨rfl, hw⟩; obtain rfl := hw.symm)
      go_meet
      case rel => rfl
    · go_wp2_with (go_at_call 11; refine (LK _).mono ?_; clear LK; rintro e w' ⟨rfl, hw⟩; obtain rfl := hw.symm)
      go_meet
      case rel => rfl
    · go_wp2_with (first | (go_at_call 11; refine (LK _).mono ?_; clear LK; rintro e w' ⟨rfl, hw⟩; obtain rfl := hw.symm) | (go_at_call 12; refine (UL _).mono ?_; clear UL; rintro e w' ⟨rfl, hw⟩; obtain rfl := hw.symm))
      go_meet
      case rel => rfl
  case rest =>
    obtain rfl := hcut.symm
    clear rfm
    go_step
    go_step
    go_cut [14, 15, 16, 17, 18] from 73 to 98 (fun _ _ _ _ _ wx => wx = W2)
    case first =>
      clear rfx pc0 pc1 pc2 P2 E2 E h0 h1
      rcases head_ways ix tg t0 t1 with ⟨hh, he, HD, rfl | ⟨rfl, UH⟩⟩
      · go_wp2_with (go_at_call 13; refine (HD _).mono ?_; clear HD; rintro e w' ⟨rfl, hw⟩; obtain rfl := hw.symm)
        go_meet
        case rel => rfl
      · go_wp2_with (first | (go_at_call 13; refine (HD _).mono ?_; clear HD; rintro e w' ⟨rfl, hw⟩; obtain rfl := hw.symm) | (go_at_call 14; refine (UH _).mono ?_; clear UH; rintro e w' ⟨rfl, hw⟩; obtain rfl := hw.symm))
        go_meet
        case rel => rfl
    case rest =>
      obtain rfl := hcut.symm
      clear rfi rft
      go_step
      go_step
      go_cut [19, 20, 21, 22] from 99 to 117 (fun _ _ _ _ wx => Below w.heap.size w wx)
      case first =>
        clear rfx h0 h1
        have nsz := nmS_size r i k
        have N1 := name_any r i k W2 (E.out.below E2.out)
        have RB := fun (W : World) (V : Env W) (h : nmE r i k = 0) => read_back r i k W V h
        generalize nmS r i k = s1 at *
        generalize nmE r i k = e1 at *
        by_cases hnw : e1 = 0
        · subst hnw
          replace RB := Hid.mk' (fun (W : World) (V : Env W) => RB W V rfl)
          go_wp2_with (first
            | (go_at_call 6; refine N1.mono ?_; clear N1; rintro e w4 ⟨rfl, B4⟩; have Bt := seqB E2.out B4 (Nat.le_refl _); obtain ⟨p0, p1, p2, p3⟩ := P2.out.below B4; replace Bt := Hid.mk' Bt; clear B4 pc0 pc1 pc2)
            | (go_at_call 9; refine (RB.out _ (E.out.below Bt.out)).mono ?_; rintro e w5 ⟨rfl, B5⟩; have q0 := (B5.cell (p := ⟨b, 0, none⟩) p3).trans p0; have q1 := (B5.cell (p := ⟨b, 1, none⟩) p3).trans p1; have q2 := (B5.cell (p := ⟨b, 2, none⟩) p3).trans p2; have q3 : b < w5.heap.size := Nat.lt_of_lt_of_le p3 B5.size; have Bs := seqB Bt.out B5 (Nat.le_refl _); replace Bs := Hid.mk' Bs; clear B5 p0 p1 p2 p3))
          go_meet
          case rel => exact Bs.out.alloc Bs.out.size _
        · have hnb : (e1 == 0) = false := by simpa using hnw
          clear hnw RB
          go_wp2_with (go_at_call 6; refine N1.mono ?_; clear N1; rintro e w4 ⟨rfl, B4⟩; have Bt := seqB E2.out B4 (Nat.le_refl _); replace Bt := Hid.mk' Bt; clear B4 pc0 pc1 pc2)
          go_meet
          case rel => exact Bt.out
      case rest =>
        clear pc0 pc1 pc2 P2 E2
        replace hcut := Hid.mk' hcut
        have rfx' := rfx
        go_step
        go_step
        go_cut [23, 24, 25, 26] from 118 to 144 (fun _ _ _ _ wx => Below w.heap.size w wx)
        case first =>
          have ssz := shw_size g x h0 h1
          have SH := show_any g x wc h0 h1 (E.out.below hcut.out)
          have PS := fun (W : World) (V : Env W) => parse_any g (shw g x).1 W (by have := shw_size g x h0 h1; omega) V
          have hnum := shw_num g x
          have hpr := shw_pr g x h0 h1
          generalize (shw g x).1 = s2 at *
          generalize (shw g x).2 = e2 at *
          by_cases hsw : e2 = 0
          · subst hsw
            rw [(hpr rfl).1, (hpr rfl).2] at PS
            clear hnum hpr
            replace PS := Hid.mk' PS
            go_wp2_with (first
              | (go_at_call 15; refine SH.mono ?_; clear SH; rintro e w6 ⟨rfl, B6⟩; have B7 := seqB hcut.out B6 (Nat.le_refl _); clear B6; replace B7 := Hid.mk' B7)
              | (go_at_call 16; refine (PS.out _ (E.out.below B7.out)).mono ?_; clear PS; rintro e w7 ⟨rfl, B8⟩; have B9 := seqB B7.out B8 (Nat.le_refl _); clear B8; replace B9 := Hid.mk' B9))
            go_meet
            case rel => exact B9.out
          · have hsb : (e2 == 0) = false := by simpa using hsw
            have g1 : (g == 11) = false := by simpa using (hnum hsw).1
            have g2 : (g == 12) = false := by simpa using (hnum hsw).2
            clear hnum hpr PS hsw
            go_wp2_with (go_at_call 15; refine SH.mono ?_; clear SH; rintro e w6 ⟨rfl, B6⟩; have B7 := seqB hcut.out B6 (Nat.le_refl _); clear B6; replace B7 := Hid.mk' B7)
            go_meet
            case rel => exact B7.out
        case rest =>
          rename_i hcut2
          have N9 := name_any 13 9 0 wc (E.out.below hcut)
          rw [nine.1, nine.2] at N9
          replace hcut := Hid.mk' hcut
          go_wp2_with (first
            | (go_at_call 6; refine N9.mono ?_; clear N9; rintro e w8 ⟨rfl, B9⟩; have B10 := seqB hcut.out B9 (Nat.le_refl _); clear B9; replace B10 := Hid.mk' B10)
            | (go_at_call 17; refine (awake_any _).mono ?_; rintro e w' ⟨rfl, hw⟩; obtain rfl := hw.symm))
          go_ret
          exact ⟨rfl, B10.out⟩
end Go.Proofs.YtpmpdkpnjfidhaaDoor.St
