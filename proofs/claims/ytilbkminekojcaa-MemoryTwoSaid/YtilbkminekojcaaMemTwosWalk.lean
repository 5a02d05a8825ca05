/-
  THE LAW MemoryTwo.
-/
import Derived.Test.YtilbkminekojcaaMemTwosP
import Derived.BigQuiet
import Derived.Deep.RegionHeld3
import Derived.Deep.RegionWith
import Derived.Deep.DeepCutAuto
namespace Go.Proofs.Ytilbkminekojcaa.Me
open Go.RowKit Mr
set_option linter.unusedVariables false
/-- One call of a script, as the world has it. -/
theorem opsC {w : World} {ao : Option Addr} {no i : Nat} {os : List O} (ho : OpsAt w ao no os) (hlt : i < os.length) : ∃ bo oo, ao = some ⟨bo, oo, none⟩ ∧ ∀ W' : World, Below w.heap.size w W' → W'.cell? ⟨bo, oo + i * 6, none⟩ = some (.int .i64 (os[i]?.getD noO).k) ∧ W'.cell? ⟨bo, oo + i * 6 + 1, none⟩ = some (.int .i64 (os[i]?.getD noO).th) ∧ W'.cell? ⟨bo, oo + i * 6 + 2, none⟩ = some (.int .i64 (os[i]?.getD noO).ad) ∧ W'.cell? ⟨bo, oo + i * 6 + 3, none⟩ = some (.int .i64 (os[i]?.getD noO).n) ∧ W'.cell? ⟨bo, oo + i * 6 + 4, none⟩ = some (.int .u64 (os[i]?.getD noO).old) ∧ W'.cell? ⟨bo, oo + i * 6 + 5, none⟩ = some (.int .u64 (os[i]?.getD noO).w) := by
  rcases ho.2 with h0 | ⟨bo, oo, rfl, hbo, hc⟩
  · rw [h0] at hlt; simp at hlt
  refine ⟨bo, oo, rfl, fun W' hW => ?_⟩
  obtain ⟨c0, c1, c2, c3, c4, c5⟩ := hc i hlt
  exact ⟨(hW.cell (p := ⟨bo, _, none⟩) hbo).trans c0, (hW.cell (p := ⟨bo, _, none⟩) hbo).trans c1, (hW.cell (p := ⟨bo, _, none⟩) hbo).trans c2, (hW.cell (p := ⟨bo, _, none⟩) hbo).trans c3, (hW.cell (p := ⟨bo, _, none⟩) hbo).trans c4, (hW.cell (p := ⟨bo, _, none⟩) hbo).trans c5⟩
set_option maxHeartbeats 8000000 in
set_option maxRecDepth 100000 in
theorem law_two (a : Option Addr) (n cap : Nat) (ws : List Int) (ao : Option Addr) (no co : Nat) (os : List O) (a2 : Option Addr) (n2 cap2 : Nat) (ws2 : List Int) (ao2 : Option Addr) (no2 co2 : Nat) (os2 : List O) (w : World) (hs : Src w a n cap ws) (ho : OpsAt w ao no os) (hr : (os.length + os.length / 4 + 192) * 56 ≤ 281474976710656) (hs2 : Src w a2 n2 cap2 ws2) (ho2 : OpsAt w ao2 no2 os2) (hr2 : (os2.length + os2.length / 4 + 192) * 56 ≤ 281474976710656) :
    Calls Try.prog 6 #[.slice a n cap, .slice ao no co, .slice a2 n2 cap2, .slice ao2 no2 co2] w fun e w' => e = .returned (.bool true) ∧ Below w.heap.size w w' := by
  have hno : os.length ≤ 5026338869641 := by omega
  have hno2 : os2.length ≤ 5026338869641 := by omega
  replace hr := Mr.hid hr
  replace hr2 := Mr.hid hr2
  have C := begin_o _ _ _ _ _ hs
  have C2 := fun (w' : World) (hB : Below w.heap.size w w') => begin_o _ _ _ _ _ (hs2.below hB)
  obtain ⟨hnl, ho'⟩ := id ho
  subst hnl
  obtain ⟨hnl2, ho2'⟩ := id ho2
  subst hnl2
  clear hs hs2 ho' ho2'
  replace C2 := Mr.hid C2
  go_enter Try.func6, Try.ntmps6
  go_wp2_with (first | (go_at_call 18; refine C.mono ?_; clear C; rintro e w1 ⟨o1, rfl, hP1, hB1⟩; have D2 := C2.out w1 hB1) | (go_at_call 18; refine D2.mono ?_; clear D2; rintro e w2 ⟨o2, rfl, hP2, hB2⟩))
  have hQ : Quad w2 w.heap.size o1 ws (runP ws (os.take 0)) o2 ws2 (runP ws2 (os2.take 0)) := by
    have q1 := hB1.size
    have q2 := hB2.size
    refine ⟨_, _, hP1.fr (V := fun _ => False) (Fr.of_below hB2) (fun _ _ h => h), hP2, fun k hk => ⟨hk.1, by omega⟩, fun k hk => ⟨by omega, hk.2⟩, fun k hk hV => by omega⟩
  have hB0 : Below w.heap.size w w2 := hB1.trans (hB2.mono hB1.size)
  clear hP1 hP2 hB1 hB2 C2
  go_loopg [15] (max os.length os2.length) (fun k s wr => ∃ (i : Nat), s = .int .i64 (i : Int) ∧ i + k = max os.length os2.length ∧ Quad wr w.heap.size o1 ws (runP ws (os.take i)) o2 ws2 (runP ws2 (os2.take i)) ∧ Below w.heap.size w wr)
  case atStart => exact ⟨0, rfl, by omega, hQ, hB0⟩
  case round =>
    obtain ⟨i, rfl, hi, hQi, B⟩ := hrel
    clear hQ hB0
    by_cases hlt : i < max os.length os2.length
    · go_upto_region 6 with fail
      go_cut [43] (fun t wx => t = .bool true ∧ wx = wr)
      case first =>
        clear hQi B ho ho2
        by_cases h1 : i < os.length
        · have l1 : decide ((i : Int) < (os.length : Int)) = true := by simp; omega
          have l2 : decide (i < os.length) = true := by simp; omega
          go_wp2
          go_meet
          case rel => exact ⟨rfl, rfl⟩
        · have l1 : decide ((i : Int) < (os.length : Int)) = false := by simp; omega
          have l2 : decide (i < os.length) = false := by simp; omega
          have l3 : decide ((i : Int) < (os2.length : Int)) = true := by simp; omega
          have l4 : decide (i < os2.length) = true := by simp; omega
          go_wp2
          go_meet
          case rel => exact ⟨rfl, rfl⟩
      case rest =>
        obtain ⟨rfl, hw⟩ := hcut
        obtain rfl := hw.symm
        replace hQi := Mr.hid hQi
        replace B := Mr.hid B
        replace ho := Mr.hid ho
        replace ho2 := Mr.hid ho2
        go_upto_region 8 with fail
        go_cut [69] (fun t wx => t = .bool false ∧ Quad wx w.heap.size o1 ws (runP ws (os.take (i + 1))) o2 ws2 (runP ws2 (os2.take i)) ∧ Below w.heap.size w wx)
        case first =>
          replace hQi := hQi.out
          replace B := B.out
          replace ho := ho.out
          replace ho2 := ho2.out
          rcases o1 with _ | bc
          · as_aux_lemma =>
            have QD : ∀ m, Quad (wr.drewN m) w.heap.size none ws (runP ws (os.take (i + 1))) o2 ws2 (runP ws2 (os2.take i)) := fun m => by
              obtain ⟨U, V, h1, h2, h3, h4, h5⟩ := hQi.below (belowQ wr m)
              exact (id) ⟨fun _ => False, V, fun _ _ h => (by cases h), h2, fun _ h => h.elim, h4, fun _ h => h.elim⟩
            have BD := fun m => B.trans ((belowQ wr m).mono B.size)
            replace QD := Mr.hid QD
            replace BD := Mr.hid BD
            clear ho ho2
            simp only [pm, pr, Option.map_none]
            go_quiet (fail)
            go_wp2
            go_meet
            case rel => exact ⟨rfl, QD.out _, BD.out _⟩
          · -- a pair, and a call of its script
            obtain ⟨b, c⟩ := bc
            by_cases hli : i < os.length
            · as_aux_lemma =>
              obtain ⟨hp, hlg⟩ := runP_ok ws (os.take i)
              have htk : (os.take i).length = i := by simp; omega
              rw [htk] at hlg
              have hroom : ((runP ws (os.take i)).1.lg.length + 1 + ((runP ws (os.take i)).1.lg.length + 1) / 4 + 192) * 56 ≤ 281474976710656 := room_mono (by omega) hr.out (Nat.le_refl _)
              have hsn := runP_snoc ws os i hli
              have hl8 : ws.length ≤ 8192 := by obtain ⟨U, V, h1, _⟩ := hQi; exact (h1 b c rfl).2
              have hts := tell_small hp hl8 (by omega) (os[i]?.getD noO)
              obtain ⟨bo, oo, rfl, hcW⟩ := opsC ho hli
              clear ho ho2
              generalize os[i]?.getD noO = o at *
              generalize runP ws (os.take i) = p at *
              obtain ⟨s, mv⟩ := p
              simp only at hp hlg hroom hsn hts
              have hBd : Below wr.heap.size wr wr.drew := (Below.refl _ _).drew
              have A := quad_ask (hQi.below hBd) B.size hp hroom o
              have D := fun (w1 : World) (v1 : Value) (h : QHalf wr.drew w1 w.heap.size b c ws (s, mv) o o2 ws2 (runP ws2 (os2.take i)) v1) => quad_doc h hl8 hp hroom
              have X := fun (w2 : World) (S T : Nat → Prop) (u v : Value) (h1 : ToldAt w2 S u (tell o s)) (h2 : ToldAt w2 T v (tell o s)) => same_same h1 h2 hts.1 hts.2.1 hts.2.2
              have B' := B.drew
              obtain ⟨g0, g1, g2, g3, g4, g5⟩ := hcW wr B
              have l1 : decide ((i : Int) < (os.length : Int)) = true := by simp; omega
              have l2 : decide (i < os.length) = true := by simp; omega
              obtain ⟨ok, oth, oad, on, oold, ow⟩ := o
              simp only at g0 g1 g2 g3 g4 g5 A D
              replace A := Mr.hid A
              replace D := Mr.hid D
              replace X := Mr.hid X
              replace hcW := Mr.hid hcW
              replace hsn := Mr.hid hsn
              replace hp := Mr.hid hp
              replace hroom := Mr.hid hroom
              replace hts := Mr.hid hts
              replace B' := Mr.hid B'
              replace hBd := Mr.hid hBd
              replace hQi1 := Mr.hid hQi
              simp only [pm, pr, Option.map_some]
              go_region_held3 (fun w' => w'.cell? ⟨bo, oo + i * 6, none⟩ = some (.int .i64 ok) ∧ w'.cell? ⟨bo, oo + i * 6 + 1, none⟩ = some (.int .i64 oth) ∧ w'.cell? ⟨bo, oo + i * 6 + 2, none⟩ = some (.int .i64 oad) ∧ w'.cell? ⟨bo, oo + i * 6 + 3, none⟩ = some (.int .i64 on) ∧ w'.cell? ⟨bo, oo + i * 6 + 4, none⟩ = some (.int .u64 oold) ∧ w'.cell? ⟨bo, oo + i * 6 + 5, none⟩ = some (.int .u64 ow)) (first | exact hcW.out _ B4.out | exact hcW.out _ B3.out | exact hcW.out _ B2.out | exact hcW.out _ B'.out) (first
                | (go_at_call 20; refine A.out.mono ?_; rintro e w2 ⟨v1, rfl, hH, hB2⟩; have D2 := D.out w2 v1 hH; have B2 := B'.out.trans hB2; replace B2 := Mr.hid B2; replace D2 := Mr.hid D2; replace hH := Mr.hid hH; clear hB2)
                | (go_at_call 21; refine D2.out.mono ?_; rintro e w3 ⟨v2, rfl, hT1, hT2, hB3, hBe⟩; have X3 := X.out w3 _ _ v1 v2 hT1 hT2; have B3 := B'.out.trans hBe; replace B3 := Mr.hid B3; replace X3 := Mr.hid X3; replace hB3 := Mr.hid hB3; clear hBe hT1 hT2)
                | (go_at_call 19; refine X3.out.mono ?_; rintro e w4 ⟨rfl, hB4⟩; have B4 := B3.out.trans (hB4.mono B3.out.size); have hF := hB3.out.below hB4; replace B4 := Mr.hid B4; replace hF := Mr.hid hF; clear hB4))
              all_goals go_wp2
              all_goals go_meet
              case rel => exact ⟨rfl, by rw [hsn.out]; exact hF.out, B4.out⟩
            · as_aux_lemma =>
              have l1 : decide ((i : Int) < (os.length : Int)) = false := by simp; omega
              have l2 : decide (i < os.length) = false := by simp; omega
              have hsn := runP_more ws os i (by omega)
              have QD := fun m => hQi.below (belowQ wr m)
              have BD := fun m => B.trans ((belowQ wr m).mono B.size)
              replace QD := Mr.hid QD
              replace BD := Mr.hid BD
              replace hsn := Mr.hid hsn
              clear ho ho2
              simp only [pm, pr, Option.map_some]
              go_quiet (fail)
              go_wp2
              go_meet
              case rel => exact ⟨rfl, by rw [hsn.out]; exact QD.out _, BD.out _⟩
        case rest =>
          obtain ⟨rfl, hQa, Ba⟩ := hcut
          generalize hwa : wc = wa at *
          clear hwa hQi B
          replace hQa := Mr.hid hQa
          replace Ba := Mr.hid Ba
          go_upto_region 10 with fail
          go_cut [93] (fun t wx => t = .bool false ∧ Quad wx w.heap.size o1 ws (runP ws (os.take (i + 1))) o2 ws2 (runP ws2 (os2.take (i + 1))) ∧ Below w.heap.size w wx)
          case first =>
            replace hQa := hQa.out
            replace Ba := Ba.out
            replace ho := ho.out
            replace ho2 := ho2.out
            have hQs := hQa.swap
            rcases o2 with _ | bc
            · as_aux_lemma =>
              have QD : ∀ m, Quad (wa.drewN m) w.heap.size o1 ws (runP ws (os.take (i + 1))) none ws2 (runP ws2 (os2.take (i + 1))) := fun m => by
                obtain ⟨U, V, h1, h2, h3, h4, h5⟩ := hQs.below (belowQ wa m)
                exact Quad.swap ⟨fun _ => False, V, fun _ _ h => (by cases h), h2, fun _ h => h.elim, h4, fun _ h => h.elim⟩
              have BD := fun m => Ba.trans ((belowQ wa m).mono Ba.size)
              replace QD := Mr.hid QD
              replace BD := Mr.hid BD
              clear ho ho2
              simp only [pm, pr, Option.map_none]
              go_quiet (fail)
              go_wp2
              go_meet
              case rel => exact ⟨rfl, QD.out _, BD.out _⟩
            · -- a pair, and a call of its script
              obtain ⟨b, c⟩ := bc
              by_cases hli : i < os2.length
              · as_aux_lemma =>
                obtain ⟨hp, hlg⟩ := runP_ok ws2 (os2.take i)
                have htk : (os2.take i).length = i := by simp; omega
                rw [htk] at hlg
                have hroom : ((runP ws2 (os2.take i)).1.lg.length + 1 + ((runP ws2 (os2.take i)).1.lg.length + 1) / 4 + 192) * 56 ≤ 281474976710656 := room_mono (by omega) hr2.out (Nat.le_refl _)
                have hsn := runP_snoc ws2 os2 i hli
                have hl8 : ws2.length ≤ 8192 := by obtain ⟨U, V, h1, _⟩ := hQs; exact (h1 b c rfl).2
                have hts := tell_small hp hl8 (by omega) (os2[i]?.getD noO)
                obtain ⟨bo, oo, rfl, hcW⟩ := opsC ho2 hli
                clear ho ho2
                generalize os2[i]?.getD noO = o at *
                generalize runP ws2 (os2.take i) = p at *
                obtain ⟨s, mv⟩ := p
                simp only at hp hlg hroom hsn hts
                have hBd : Below wa.heap.size wa wa.drew := (Below.refl _ _).drew
                have A := quad_ask (hQs.below hBd) Ba.size hp hroom o
                have D := fun (w1 : World) (v1 : Value) (h : QHalf wa.drew w1 w.heap.size b c ws2 (s, mv) o o1 ws (runP ws (os.take (i + 1))) v1) => quad_doc h hl8 hp hroom
                have X := fun (w2 : World) (S T : Nat → Prop) (u v : Value) (h1 : ToldAt w2 S u (tell o s)) (h2 : ToldAt w2 T v (tell o s)) => same_same h1 h2 hts.1 hts.2.1 hts.2.2
                have B' := Ba.drew
                obtain ⟨g0, g1, g2, g3, g4, g5⟩ := hcW wa Ba
                have l1 : decide ((i : Int) < (os2.length : Int)) = true := by simp; omega
                have l2 : decide (i < os2.length) = true := by simp; omega
                obtain ⟨ok, oth, oad, on, oold, ow⟩ := o
                simp only at g0 g1 g2 g3 g4 g5 A D
                replace A := Mr.hid A
                replace D := Mr.hid D
                replace X := Mr.hid X
                replace hcW := Mr.hid hcW
                replace hsn := Mr.hid hsn
                replace hp := Mr.hid hp
                replace hroom := Mr.hid hroom
                replace hts := Mr.hid hts
                replace B' := Mr.hid B'
                replace hBd := Mr.hid hBd
                replace hQs1 := Mr.hid hQs
                simp only [pm, pr, Option.map_some]
                go_region_held3 (fun w' => w'.cell? ⟨bo, oo + i * 6, none⟩ = some (.int .i64 ok) ∧ w'.cell? ⟨bo, oo + i * 6 + 1, none⟩ = some (.int .i64 oth) ∧ w'.cell? ⟨bo, oo + i * 6 + 2, none⟩ = some (.int .i64 oad) ∧ w'.cell? ⟨bo, oo + i * 6 + 3, none⟩ = some (.int .i64 on) ∧ w'.cell? ⟨bo, oo + i * 6 + 4, none⟩ = some (.int .u64 oold) ∧ w'.cell? ⟨bo, oo + i * 6 + 5, none⟩ = some (.int .u64 ow)) (first | exact hcW.out _ B4.out | exact hcW.out _ B3.out | exact hcW.out _ B2.out | exact hcW.out _ B'.out) (first
                  | (go_at_call 20; refine A.out.mono ?_; rintro e w2 ⟨v1, rfl, hH, hB2⟩; have D2 := D.out w2 v1 hH; have B2 := B'.out.trans hB2; replace B2 := Mr.hid B2; replace D2 := Mr.hid D2; replace hH := Mr.hid hH; clear hB2)
                  | (go_at_call 21; refine D2.out.mono ?_; rintro e w3 ⟨v2, rfl, hT1, hT2, hB3, hBe⟩; have X3 := X.out w3 _ _ v1 v2 hT1 hT2; have B3 := B'.out.trans hBe; replace B3 := Mr.hid B3; replace X3 := Mr.hid X3; replace hB3 := Mr.hid hB3; clear hBe hT1 hT2)
                  | (go_at_call 19; refine X3.out.mono ?_; rintro e w4 ⟨rfl, hB4⟩; have B4 := B3.out.trans (hB4.mono B3.out.size); have hF := hB3.out.below hB4; replace B4 := Mr.hid B4; replace hF := Mr.hid hF; clear hB4))
                all_goals go_wp2
                all_goals go_meet
                case rel => exact ⟨rfl, by rw [hsn.out]; exact hF.out.swap, B4.out⟩
              · as_aux_lemma =>
                have l1 : decide ((i : Int) < (os2.length : Int)) = false := by simp; omega
                have l2 : decide (i < os2.length) = false := by simp; omega
                have hsn := runP_more ws2 os2 i (by omega)
                have QD := fun m => hQa.below (belowQ wa m)
                have BD := fun m => Ba.trans ((belowQ wa m).mono Ba.size)
                replace QD := Mr.hid QD
                replace BD := Mr.hid BD
                replace hsn := Mr.hid hsn
                clear ho ho2
                simp only [pm, pr, Option.map_some]
                go_quiet (fail)
                go_wp2
                go_meet
                case rel => exact ⟨rfl, by rw [hsn.out]; exact QD.out _, BD.out _⟩
          case rest =>
            obtain ⟨rfl, hQe, Be⟩ := hcut
            replace hQe := Mr.hid hQe
            replace Be := Mr.hid Be
            clear hQa Ba ho ho2
            go_wp2
            go_roundg (gk - 1)
            case measure => omega
            case rel => exact ⟨i + 1, by simp, by omega, hQe.out, Be.out⟩
    · have hle : max os.length os2.length ≤ i := by omega
      have l1 : decide ((i : Int) < (os.length : Int)) = false := by simp; omega
      have l2 : decide (i < os.length) = false := by simp; omega
      have l3 : decide ((i : Int) < (os2.length : Int)) = false := by simp; omega
      have l4 : decide (i < os2.length) = false := by simp; omega
      obtain ⟨hp, _⟩ := runP_ok ws (os.take i)
      obtain ⟨hp2, _⟩ := runP_ok ws2 (os2.take i)
      generalize runP ws (os.take i) = p1 at *
      generalize runP ws2 (os2.take i) = p2 at *
      clear ho ho2 hi hlt hle hr hr2
      have Qd := hQi.below (W' := wr.drew) ((Below.refl _ _).drew)
      have Bd := B.drew
      replace hQi := Mr.hid hQi
      replace B := Mr.hid B
      replace Bd := Mr.hid Bd
      replace Qd := Mr.hid Qd
      replace hp := Mr.hid hp
      replace hp2 := Mr.hid hp2
      go_upto_region 12 with fail
      rcases o1 with _ | bc <;> rcases o2 with _ | bc2
      · as_aux_lemma =>
        have BD := fun m => B.out.trans ((belowQ wr m).mono B.out.size)
        replace BD := Mr.hid BD
        simp only [pm, pr, Option.map_none]
        go_quiet (fail)
        go_wp2
        go_ret
        exact ⟨rfl, BD.out _⟩
      · as_aux_lemma =>
        obtain ⟨b, c⟩ := bc2
        obtain ⟨vn, kc, Yw⟩ := quad_words Qd.out.swap hp2.out
        replace Yw := Mr.hid Yw
        clear l1 l2 l3 l4 hQi B
        simp only [pm, pr, Option.map_none, Option.map_some]
        refine wp_region_held_drew (S := fun w' => w'.cell? ⟨c, 1, none⟩ = some vn) (by kernel_rfl) kc (fun hS => ?_)
        try simp only [Act.put, List.getElem_toArray, List.getElem_cons_zero, List.getElem_cons_succ, List.setIfInBounds_toArray, List.set_cons_zero, List.set_cons_succ]
        refine wpAnyH_take (i := 0) (v := .pointer none) rfl (by kernel_rfl) (by kernel_rfl) (by kernel_rfl) (fun _ _ _ h => h) (Or.inl ⟨by kernel_rfl, fun w' hw => ?y0⟩) hS ?_
        case y0 =>
          have hw2 := hw
          clear hS
          go_simp
        try simp only [Act.put, List.getElem_toArray, List.getElem_cons_zero, List.setIfInBounds_toArray, List.set_cons_zero, List.set_cons_succ]
        refine wpAnyH_take (i := 1) (v := .bool true) rfl (by kernel_rfl) (by kernel_rfl) (by kernel_rfl) (fun _ _ _ h => h) (Or.inl ⟨by kernel_rfl, fun w' hw => ?y1⟩) hS ?_
        case y1 =>
          have hw2 := hw
          clear hS
          go_simp
        try simp only [Act.put, List.getElem_toArray, List.getElem_cons_zero, List.getElem_cons_succ, List.setIfInBounds_toArray, List.set_cons_zero, List.set_cons_succ]
        refine wpAnyH_take (i := 2) (v := .bool true) rfl (by kernel_rfl) (by kernel_rfl) (by kernel_rfl) (fun _ _ _ h => h) (Or.inl ⟨by kernel_rfl, fun w' hw => ?y2⟩) hS ?_
        case y2 =>
          have hw2 := hw
          clear hS
          go_simp
        try simp only [Act.put, List.getElem_toArray, List.getElem_cons_zero, List.getElem_cons_succ, List.setIfInBounds_toArray, List.set_cons_zero, List.set_cons_succ]
        refine wpAnyH_take (i := 3) (v := undef) rfl (by kernel_rfl) (by kernel_rfl) (by kernel_rfl) (fun _ _ _ h => h) (Or.inr ⟨by kernel_rfl, rfl⟩) hS ?_
        try simp only [Act.put, List.getElem_toArray, List.getElem_cons_zero, List.getElem_cons_succ, List.setIfInBounds_toArray, List.set_cons_zero, List.set_cons_succ]
        refine wpAnyH_take (i := 4) (v := undef) rfl (by kernel_rfl) (by kernel_rfl) (by kernel_rfl) (fun _ _ _ h => h) (Or.inr ⟨by kernel_rfl, rfl⟩) hS ?_
        try simp only [Act.put, List.getElem_toArray, List.getElem_cons_zero, List.getElem_cons_succ, List.setIfInBounds_toArray, List.set_cons_zero, List.set_cons_succ]
        refine wpAnyH_take (i := 5) (v := undef) rfl (by kernel_rfl) (by kernel_rfl) (by kernel_rfl) (fun _ _ _ h => h) (Or.inr ⟨by kernel_rfl, rfl⟩) hS ?_
        try simp only [Act.put, List.getElem_toArray, List.getElem_cons_zero, List.getElem_cons_succ, List.setIfInBounds_toArray, List.set_cons_zero, List.set_cons_succ]
        refine wpAnyH_take (i := 6) (v := undef) rfl (by kernel_rfl) (by kernel_rfl) (by kernel_rfl) (fun _ _ _ h => h) (Or.inr ⟨by kernel_rfl, rfl⟩) hS ?_
        try simp only [Act.put, List.getElem_toArray, List.getElem_cons_zero, List.getElem_cons_succ, List.setIfInBounds_toArray, List.set_cons_zero, List.set_cons_succ]
        refine wpAnyH_take (i := 7) (v := undef) rfl (by kernel_rfl) (by kernel_rfl) (by kernel_rfl) (fun _ _ _ h => h) (Or.inr ⟨by kernel_rfl, rfl⟩) hS ?_
        try simp only [Act.put, List.getElem_toArray, List.getElem_cons_zero, List.getElem_cons_succ, List.setIfInBounds_toArray, List.set_cons_zero, List.set_cons_succ]
        refine wpAnyH_take (i := 8) (v := undef) rfl (by kernel_rfl) (by kernel_rfl) (by kernel_rfl) (fun _ _ _ h => h) (Or.inr ⟨by kernel_rfl, rfl⟩) hS ?_
        try simp only [Act.put, List.getElem_toArray, List.getElem_cons_zero, List.getElem_cons_succ, List.setIfInBounds_toArray, List.set_cons_zero, List.set_cons_succ]
        refine wpAnyH_take (i := 9) (v := undef) rfl (by kernel_rfl) (by kernel_rfl) (by kernel_rfl) (fun _ _ _ h => h) (Or.inr ⟨by kernel_rfl, rfl⟩) hS ?_
        try simp only [Act.put, List.getElem_toArray, List.getElem_cons_zero, List.getElem_cons_succ, List.setIfInBounds_toArray, List.set_cons_zero, List.set_cons_succ]
        refine wpAnyH_take (i := 10) (v := .bool true) rfl (by kernel_rfl) (by kernel_rfl) (by kernel_rfl) (fun _ _ _ h => h) (Or.inl ⟨by kernel_rfl, fun w' hw => ?y10⟩) hS ?_
        case y10 =>
          have hw2 := hw
          clear hS
          go_simp
        try simp only [Act.put, List.getElem_toArray, List.getElem_cons_zero, List.getElem_cons_succ, List.setIfInBounds_toArray, List.set_cons_zero, List.set_cons_succ]
        refine wpAnyH_take (i := 11) (v := .bool true) rfl (by kernel_rfl) (by kernel_rfl) (by kernel_rfl) (fun _ _ _ h => h) (Or.inl ⟨by kernel_rfl, fun w' hw => ?y11⟩) hS ?_
        case y11 =>
          have hw2 := hw
          clear hS
          go_simp
        try simp only [Act.put, List.getElem_toArray, List.getElem_cons_zero, List.getElem_cons_succ, List.setIfInBounds_toArray, List.set_cons_zero, List.set_cons_succ]
        refine wpAnyH_take (i := 12) (v := .pointer (some ⟨c, 0, none⟩)) rfl (by kernel_rfl) (by kernel_rfl) (by kernel_rfl) (fun _ _ _ h => h) (Or.inl ⟨by kernel_rfl, fun w' hw => ?y12⟩) hS ?_
        case y12 =>
          have hw2 := hw
          clear hS
          go_simp
        try simp only [Act.put, List.getElem_toArray, List.getElem_cons_zero, List.getElem_cons_succ, List.setIfInBounds_toArray, List.set_cons_zero, List.set_cons_succ]
        refine wpAnyH_take (i := 13) (v := .bool false) rfl (by kernel_rfl) (by kernel_rfl) (by kernel_rfl) (fun _ _ _ h => h) (Or.inl ⟨by kernel_rfl, fun w' hw => ?y13⟩) hS ?_
        case y13 =>
          have hw2 := hw
          clear hS
          go_simp
        try simp only [Act.put, List.getElem_toArray, List.getElem_cons_zero, List.getElem_cons_succ, List.setIfInBounds_toArray, List.set_cons_zero, List.set_cons_succ]
        refine wpAnyH_take (i := 14) (v := .bool false) rfl (by kernel_rfl) (by kernel_rfl) (by kernel_rfl) (fun _ _ _ h => h) (Or.inl ⟨by kernel_rfl, fun w' hw => ?y14⟩) hS ?_
        case y14 =>
          have hw2 := hw
          clear hS
          go_simp
        try simp only [Act.put, List.getElem_toArray, List.getElem_cons_zero, List.getElem_cons_succ, List.setIfInBounds_toArray, List.set_cons_zero, List.set_cons_succ]
        refine wpAnyH_take (i := 15) (v := .pointer (some ⟨b, 0, none⟩)) rfl (by kernel_rfl) (by kernel_rfl) (by kernel_rfl) (fun _ _ _ h => h) (Or.inl ⟨by kernel_rfl, fun w' hw => ?y15⟩) hS ?_
        case y15 =>
          have hw2 := hw
          clear hS
          go_simp
        try simp only [Act.put, List.getElem_toArray, List.getElem_cons_zero, List.getElem_cons_succ, List.setIfInBounds_toArray, List.set_cons_zero, List.set_cons_succ]
        refine wpAnyH_take (i := 17) (v := .pointer (some ⟨c, 0, none⟩)) rfl (by kernel_rfl) (by kernel_rfl) (by kernel_rfl) (fun _ _ _ h => h) (Or.inl ⟨by kernel_rfl, fun w' hw => ?y17⟩) hS ?_
        case y17 =>
          have hw2 := hw
          clear hS
          go_simp
        try simp only [Act.put, List.getElem_toArray, List.getElem_cons_zero, List.getElem_cons_succ, List.setIfInBounds_toArray, List.set_cons_zero, List.set_cons_succ]
        refine wpAnyH_take (i := 18) (v := .pointer (some ⟨c, 0, none⟩)) rfl (by kernel_rfl) (by kernel_rfl) (by kernel_rfl) (fun _ _ _ h => h) (Or.inl ⟨by kernel_rfl, fun w' hw => ?y18⟩) hS ?_
        case y18 =>
          have hw2 := hw
          clear hS
          go_simp
        try simp only [Act.put, List.getElem_toArray, List.getElem_cons_zero, List.getElem_cons_succ, List.setIfInBounds_toArray, List.set_cons_zero, List.set_cons_succ]
        refine wpAnyH_take (i := 19) (v := .pointer (some ⟨c, 1, none⟩)) rfl (by kernel_rfl) (by kernel_rfl) (by kernel_rfl) (fun _ _ _ h => h) (Or.inl ⟨by kernel_rfl, fun w' hw => ?y19⟩) hS ?_
        case y19 =>
          have hw2 := hw
          clear hS
          go_simp
        try simp only [Act.put, List.getElem_toArray, List.getElem_cons_zero, List.getElem_cons_succ, List.setIfInBounds_toArray, List.set_cons_zero, List.set_cons_succ]
        refine wpAnyH_take (i := 20) (v := vn) rfl (by kernel_rfl) (by kernel_rfl) (by kernel_rfl) (fun _ _ _ h => h) (Or.inl ⟨by kernel_rfl, fun w' hw => ?y20⟩) hS ?_
        case y20 =>
          have hw2 := hw
          clear hS
          go_simp
        try simp only [Act.put, List.getElem_toArray, List.getElem_cons_zero, List.getElem_cons_succ, List.setIfInBounds_toArray, List.set_cons_zero, List.set_cons_succ]
        refine wpAnyH_ready (rs := [16]) (by kernel_rfl) (by simp) (AllReadyH.cons rfl (fun K hK => ?_) AllReadyH.nil)
        go_simp
        refine Yw.out.mono ?_
        rintro e w5 ⟨v5, rfl, k5, Z5, hB5⟩
        have B5 := Bd.out.trans (hB5.mono Bd.out.size)
        replace B5 := Mr.hid B5
        replace Z5 := Mr.hid Z5
        refine hK.out _ _ (k5) (fun hS => ?_)
        clear hK K
        try simp only [Act.put, List.getElem_toArray, List.getElem_cons_zero, List.getElem_cons_succ, List.setIfInBounds_toArray, List.set_cons_zero, List.set_cons_succ]
        refine wpAnyH_ready (rs := [21]) (by kernel_rfl) (by simp) (AllReadyH.cons rfl (fun K hK => ?_) AllReadyH.nil)
        go_simp
        refine Z5.out.mono ?_
        rintro e w6 ⟨rfl, hB6⟩
        have B6 := B5.out.trans (hB6.mono B5.out.size)
        replace B6 := Mr.hid B6
        refine hK.out _ _ ((hB6.cell (p := ⟨c, 1, none⟩) (World.block_lt_of_cell? _ _ k5)).trans k5) (fun hS => ?_)
        clear hK K
        try simp only [Act.put, List.getElem_toArray, List.getElem_cons_zero, List.getElem_cons_succ, List.setIfInBounds_toArray, List.set_cons_zero, List.set_cons_succ]
        refine wpAnyH_take (i := 22) (v := .bool true) rfl (by kernel_rfl) (by kernel_rfl) (by kernel_rfl) (fun _ _ _ h => h) (Or.inl ⟨by kernel_rfl, fun w' hw => ?y22⟩) hS ?_
        case y22 =>
          have hw2 := hw
          clear hS
          go_simp
        try simp only [Act.put, List.getElem_toArray, List.getElem_cons_zero, List.getElem_cons_succ, List.setIfInBounds_toArray, List.set_cons_zero, List.set_cons_succ]
        refine wpAnyH_take (i := 23) (v := .bool true) rfl (by kernel_rfl) (by kernel_rfl) (by kernel_rfl) (fun _ _ _ h => h) (Or.inl ⟨by kernel_rfl, fun w' hw => ?y23⟩) hS ?_
        case y23 =>
          have hw2 := hw
          clear hS
          go_simp
        try simp only [Act.put, List.getElem_toArray, List.getElem_cons_zero, List.getElem_cons_succ, List.setIfInBounds_toArray, List.set_cons_zero, List.set_cons_succ]
        refine wpAnyH_take (i := 24) (v := .bool true) rfl (by kernel_rfl) (by kernel_rfl) (by kernel_rfl) (fun _ _ _ h => h) (Or.inl ⟨by kernel_rfl, fun w' hw => ?y24⟩) hS ?_
        case y24 =>
          have hw2 := hw
          clear hS
          go_simp
        refine wpAnyH_done (by kernel_rfl) ?_ _
        go_wp2
        go_ret
        exact ⟨rfl, B6.out⟩
      · as_aux_lemma =>
        obtain ⟨b, c⟩ := bc
        obtain ⟨vn, kc, Yw⟩ := quad_words Qd.out hp.out
        replace Yw := Mr.hid Yw
        clear l1 l2 l3 l4 hQi B
        simp only [pm, pr, Option.map_none, Option.map_some]
        refine wp_region_held_drew (S := fun w' => w'.cell? ⟨c, 1, none⟩ = some vn) (by kernel_rfl) kc (fun hS => ?_)
        try simp only [Act.put, List.getElem_toArray, List.getElem_cons_zero, List.getElem_cons_succ, List.setIfInBounds_toArray, List.set_cons_zero, List.set_cons_succ]
        refine wpAnyH_take (i := 0) (v := .pointer (some ⟨c, 0, none⟩)) rfl (by kernel_rfl) (by kernel_rfl) (by kernel_rfl) (fun _ _ _ h => h) (Or.inl ⟨by kernel_rfl, fun w' hw => ?y0⟩) hS ?_
        case y0 =>
          have hw2 := hw
          clear hS
          go_simp
        try simp only [Act.put, List.getElem_toArray, List.getElem_cons_zero, List.setIfInBounds_toArray, List.set_cons_zero, List.set_cons_succ]
        refine wpAnyH_take (i := 1) (v := .bool false) rfl (by kernel_rfl) (by kernel_rfl) (by kernel_rfl) (fun _ _ _ h => h) (Or.inl ⟨by kernel_rfl, fun w' hw => ?y1⟩) hS ?_
        case y1 =>
          have hw2 := hw
          clear hS
          go_simp
        try simp only [Act.put, List.getElem_toArray, List.getElem_cons_zero, List.getElem_cons_succ, List.setIfInBounds_toArray, List.set_cons_zero, List.set_cons_succ]
        refine wpAnyH_take (i := 2) (v := .bool false) rfl (by kernel_rfl) (by kernel_rfl) (by kernel_rfl) (fun _ _ _ h => h) (Or.inl ⟨by kernel_rfl, fun w' hw => ?y2⟩) hS ?_
        case y2 =>
          have hw2 := hw
          clear hS
          go_simp
        try simp only [Act.put, List.getElem_toArray, List.getElem_cons_zero, List.getElem_cons_succ, List.setIfInBounds_toArray, List.set_cons_zero, List.set_cons_succ]
        refine wpAnyH_take (i := 3) (v := .pointer (some ⟨b, 0, none⟩)) rfl (by kernel_rfl) (by kernel_rfl) (by kernel_rfl) (fun _ _ _ h => h) (Or.inl ⟨by kernel_rfl, fun w' hw => ?y3⟩) hS ?_
        case y3 =>
          have hw2 := hw
          clear hS
          go_simp
        try simp only [Act.put, List.getElem_toArray, List.getElem_cons_zero, List.getElem_cons_succ, List.setIfInBounds_toArray, List.set_cons_zero, List.set_cons_succ]
        refine wpAnyH_take (i := 5) (v := .pointer (some ⟨c, 0, none⟩)) rfl (by kernel_rfl) (by kernel_rfl) (by kernel_rfl) (fun _ _ _ h => h) (Or.inl ⟨by kernel_rfl, fun w' hw => ?y5⟩) hS ?_
        case y5 =>
          have hw2 := hw
          clear hS
          go_simp
        try simp only [Act.put, List.getElem_toArray, List.getElem_cons_zero, List.getElem_cons_succ, List.setIfInBounds_toArray, List.set_cons_zero, List.set_cons_succ]
        refine wpAnyH_take (i := 6) (v := .pointer (some ⟨c, 0, none⟩)) rfl (by kernel_rfl) (by kernel_rfl) (by kernel_rfl) (fun _ _ _ h => h) (Or.inl ⟨by kernel_rfl, fun w' hw => ?y6⟩) hS ?_
        case y6 =>
          have hw2 := hw
          clear hS
          go_simp
        try simp only [Act.put, List.getElem_toArray, List.getElem_cons_zero, List.getElem_cons_succ, List.setIfInBounds_toArray, List.set_cons_zero, List.set_cons_succ]
        refine wpAnyH_take (i := 7) (v := .pointer (some ⟨c, 1, none⟩)) rfl (by kernel_rfl) (by kernel_rfl) (by kernel_rfl) (fun _ _ _ h => h) (Or.inl ⟨by kernel_rfl, fun w' hw => ?y7⟩) hS ?_
        case y7 =>
          have hw2 := hw
          clear hS
          go_simp
        try simp only [Act.put, List.getElem_toArray, List.getElem_cons_zero, List.getElem_cons_succ, List.setIfInBounds_toArray, List.set_cons_zero, List.set_cons_succ]
        refine wpAnyH_take (i := 8) (v := vn) rfl (by kernel_rfl) (by kernel_rfl) (by kernel_rfl) (fun _ _ _ h => h) (Or.inl ⟨by kernel_rfl, fun w' hw => ?y8⟩) hS ?_
        case y8 =>
          have hw2 := hw
          clear hS
          go_simp
        try simp only [Act.put, List.getElem_toArray, List.getElem_cons_zero, List.getElem_cons_succ, List.setIfInBounds_toArray, List.set_cons_zero, List.set_cons_succ]
        refine wpAnyH_ready (rs := [4]) (by kernel_rfl) (by simp) (AllReadyH.cons rfl (fun K hK => ?_) AllReadyH.nil)
        go_simp
        refine Yw.out.mono ?_
        rintro e w5 ⟨v5, rfl, k5, Z5, hB5⟩
        have B5 := Bd.out.trans (hB5.mono Bd.out.size)
        replace B5 := Mr.hid B5
        replace Z5 := Mr.hid Z5
        refine hK.out _ _ (k5) (fun hS => ?_)
        clear hK K
        try simp only [Act.put, List.getElem_toArray, List.getElem_cons_zero, List.getElem_cons_succ, List.setIfInBounds_toArray, List.set_cons_zero, List.set_cons_succ]
        refine wpAnyH_ready (rs := [9]) (by kernel_rfl) (by simp) (AllReadyH.cons rfl (fun K hK => ?_) AllReadyH.nil)
        go_simp
        refine Z5.out.mono ?_
        rintro e w6 ⟨rfl, hB6⟩
        have B6 := B5.out.trans (hB6.mono B5.out.size)
        replace B6 := Mr.hid B6
        refine hK.out _ _ ((hB6.cell (p := ⟨c, 1, none⟩) (World.block_lt_of_cell? _ _ k5)).trans k5) (fun hS => ?_)
        clear hK K
        try simp only [Act.put, List.getElem_toArray, List.getElem_cons_zero, List.getElem_cons_succ, List.setIfInBounds_toArray, List.set_cons_zero, List.set_cons_succ]
        refine wpAnyH_take (i := 10) (v := .bool true) rfl (by kernel_rfl) (by kernel_rfl) (by kernel_rfl) (fun _ _ _ h => h) (Or.inl ⟨by kernel_rfl, fun w' hw => ?y10⟩) hS ?_
        case y10 =>
          have hw2 := hw
          clear hS
          go_simp
        try simp only [Act.put, List.getElem_toArray, List.getElem_cons_zero, List.getElem_cons_succ, List.setIfInBounds_toArray, List.set_cons_zero, List.set_cons_succ]
        refine wpAnyH_take (i := 11) (v := .bool true) rfl (by kernel_rfl) (by kernel_rfl) (by kernel_rfl) (fun _ _ _ h => h) (Or.inl ⟨by kernel_rfl, fun w' hw => ?y11⟩) hS ?_
        case y11 =>
          have hw2 := hw
          clear hS
          go_simp
        try simp only [Act.put, List.getElem_toArray, List.getElem_cons_zero, List.getElem_cons_succ, List.setIfInBounds_toArray, List.set_cons_zero, List.set_cons_succ]
        refine wpAnyH_take (i := 12) (v := .pointer none) rfl (by kernel_rfl) (by kernel_rfl) (by kernel_rfl) (fun _ _ _ h => h) (Or.inl ⟨by kernel_rfl, fun w' hw => ?y12⟩) hS ?_
        case y12 =>
          have hw2 := hw
          clear hS
          go_simp
        try simp only [Act.put, List.getElem_toArray, List.getElem_cons_zero, List.getElem_cons_succ, List.setIfInBounds_toArray, List.set_cons_zero, List.set_cons_succ]
        refine wpAnyH_take (i := 13) (v := .bool true) rfl (by kernel_rfl) (by kernel_rfl) (by kernel_rfl) (fun _ _ _ h => h) (Or.inl ⟨by kernel_rfl, fun w' hw => ?y13⟩) hS ?_
        case y13 =>
          have hw2 := hw
          clear hS
          go_simp
        try simp only [Act.put, List.getElem_toArray, List.getElem_cons_zero, List.getElem_cons_succ, List.setIfInBounds_toArray, List.set_cons_zero, List.set_cons_succ]
        refine wpAnyH_take (i := 14) (v := .bool true) rfl (by kernel_rfl) (by kernel_rfl) (by kernel_rfl) (fun _ _ _ h => h) (Or.inl ⟨by kernel_rfl, fun w' hw => ?y14⟩) hS ?_
        case y14 =>
          have hw2 := hw
          clear hS
          go_simp
        try simp only [Act.put, List.getElem_toArray, List.getElem_cons_zero, List.getElem_cons_succ, List.setIfInBounds_toArray, List.set_cons_zero, List.set_cons_succ]
        refine wpAnyH_take (i := 15) (v := undef) rfl (by kernel_rfl) (by kernel_rfl) (by kernel_rfl) (fun _ _ _ h => h) (Or.inr ⟨by kernel_rfl, rfl⟩) hS ?_
        try simp only [Act.put, List.getElem_toArray, List.getElem_cons_zero, List.getElem_cons_succ, List.setIfInBounds_toArray, List.set_cons_zero, List.set_cons_succ]
        refine wpAnyH_take (i := 16) (v := undef) rfl (by kernel_rfl) (by kernel_rfl) (by kernel_rfl) (fun _ _ _ h => h) (Or.inr ⟨by kernel_rfl, rfl⟩) hS ?_
        try simp only [Act.put, List.getElem_toArray, List.getElem_cons_zero, List.getElem_cons_succ, List.setIfInBounds_toArray, List.set_cons_zero, List.set_cons_succ]
        refine wpAnyH_take (i := 17) (v := undef) rfl (by kernel_rfl) (by kernel_rfl) (by kernel_rfl) (fun _ _ _ h => h) (Or.inr ⟨by kernel_rfl, rfl⟩) hS ?_
        try simp only [Act.put, List.getElem_toArray, List.getElem_cons_zero, List.getElem_cons_succ, List.setIfInBounds_toArray, List.set_cons_zero, List.set_cons_succ]
        refine wpAnyH_take (i := 18) (v := undef) rfl (by kernel_rfl) (by kernel_rfl) (by kernel_rfl) (fun _ _ _ h => h) (Or.inr ⟨by kernel_rfl, rfl⟩) hS ?_
        try simp only [Act.put, List.getElem_toArray, List.getElem_cons_zero, List.getElem_cons_succ, List.setIfInBounds_toArray, List.set_cons_zero, List.set_cons_succ]
        refine wpAnyH_take (i := 19) (v := undef) rfl (by kernel_rfl) (by kernel_rfl) (by kernel_rfl) (fun _ _ _ h => h) (Or.inr ⟨by kernel_rfl, rfl⟩) hS ?_
        try simp only [Act.put, List.getElem_toArray, List.getElem_cons_zero, List.getElem_cons_succ, List.setIfInBounds_toArray, List.set_cons_zero, List.set_cons_succ]
        refine wpAnyH_take (i := 20) (v := undef) rfl (by kernel_rfl) (by kernel_rfl) (by kernel_rfl) (fun _ _ _ h => h) (Or.inr ⟨by kernel_rfl, rfl⟩) hS ?_
        try simp only [Act.put, List.getElem_toArray, List.getElem_cons_zero, List.getElem_cons_succ, List.setIfInBounds_toArray, List.set_cons_zero, List.set_cons_succ]
        refine wpAnyH_take (i := 21) (v := undef) rfl (by kernel_rfl) (by kernel_rfl) (by kernel_rfl) (fun _ _ _ h => h) (Or.inr ⟨by kernel_rfl, rfl⟩) hS ?_
        try simp only [Act.put, List.getElem_toArray, List.getElem_cons_zero, List.getElem_cons_succ, List.setIfInBounds_toArray, List.set_cons_zero, List.set_cons_succ]
        refine wpAnyH_take (i := 22) (v := .bool true) rfl (by kernel_rfl) (by kernel_rfl) (by kernel_rfl) (fun _ _ _ h => h) (Or.inl ⟨by kernel_rfl, fun w' hw => ?y22⟩) hS ?_
        case y22 =>
          have hw2 := hw
          clear hS
          go_simp
        try simp only [Act.put, List.getElem_toArray, List.getElem_cons_zero, List.getElem_cons_succ, List.setIfInBounds_toArray, List.set_cons_zero, List.set_cons_succ]
        refine wpAnyH_take (i := 23) (v := .bool true) rfl (by kernel_rfl) (by kernel_rfl) (by kernel_rfl) (fun _ _ _ h => h) (Or.inl ⟨by kernel_rfl, fun w' hw => ?y23⟩) hS ?_
        case y23 =>
          have hw2 := hw
          clear hS
          go_simp
        try simp only [Act.put, List.getElem_toArray, List.getElem_cons_zero, List.getElem_cons_succ, List.setIfInBounds_toArray, List.set_cons_zero, List.set_cons_succ]
        refine wpAnyH_take (i := 24) (v := .bool true) rfl (by kernel_rfl) (by kernel_rfl) (by kernel_rfl) (fun _ _ _ h => h) (Or.inl ⟨by kernel_rfl, fun w' hw => ?y24⟩) hS ?_
        case y24 =>
          have hw2 := hw
          clear hS
          go_simp
        refine wpAnyH_done (by kernel_rfl) ?_ _
        go_wp2
        go_ret
        exact ⟨rfl, B6.out⟩
      · as_aux_lemma =>
        obtain ⟨b, c⟩ := bc
        obtain ⟨b2, c2⟩ := bc2
        obtain ⟨vn, kc, Yw⟩ := quad_words Qd.out hp.out
        obtain ⟨vn2, kc2, _⟩ := quad_words Qd.out.swap hp2.out
        have Y2 := fun (w' : World) (hB : Below wr.drew.heap.size wr.drew w') => quad_words (Qd.out.below hB).swap hp2.out
        have hc2 : ∀ w' : World, Below wr.drew.heap.size wr.drew w' → w'.cell? ⟨c2, 1, none⟩ = some vn2 := fun w' hB => (hB.cell (p := ⟨c2, 1, none⟩) (World.block_lt_of_cell? _ _ kc2)).trans kc2
        have hc1 : ∀ w' : World, Below wr.drew.heap.size wr.drew w' → w'.cell? ⟨c, 1, none⟩ = some vn := fun w' hB => (hB.cell (p := ⟨c, 1, none⟩) (World.block_lt_of_cell? _ _ kc)).trans kc
        replace Yw := Mr.hid Yw
        replace Y2 := Mr.hid Y2
        replace hc1 := Mr.hid hc1
        replace hc2 := Mr.hid hc2
        have B0 : Below wr.drew.heap.size wr.drew wr.drew := Below.refl _ _
        replace B0 := Mr.hid B0
        clear l1 l2 l3 l4 hQi B kc kc2
        simp only [pm, pr, Option.map_some]
        go_region_held3 (fun w' => w'.cell? ⟨c, 1, none⟩ = some vn ∧ w'.cell? ⟨c2, 1, none⟩ = some vn2) (first | exact ⟨hc1.out _ B8.out, hc2.out _ B8.out⟩ | exact ⟨hc1.out _ B7.out, hc2.out _ B7.out⟩ | exact ⟨hc1.out _ B6.out, hc2.out _ B6.out⟩ | exact ⟨hc1.out _ B5.out, hc2.out _ B5.out⟩ | exact ⟨hc1.out _ B0.out, hc2.out _ B0.out⟩) (first
          | (go_at_call 15; refine Yw.out.mono ?_; clear Yw; rintro e w5 ⟨v5, rfl, k5, Z5, hB5⟩; clear k5; have B5 := Mr.hid hB5; replace Z5 := Mr.hid Z5; clear hB5)
          | (go_at_call 22; refine Z5.out.mono ?_; clear Z5; rintro e w6 ⟨rfl, hB6⟩; have B6 := B5.out.trans (hB6.mono B5.out.size); obtain ⟨vm, km, Y6⟩ := Y2.out w6 B6; obtain rfl : vm = vn2 := Option.some.inj (km.symm.trans (hc2.out w6 B6)); clear km hB6; replace B6 := Mr.hid B6; replace Y6 := Mr.hid Y6)
          | (go_at_call 15; refine Y6.out.mono ?_; clear Y6; rintro e w7 ⟨v7, rfl, k7, Z7, hB7⟩; clear k7; have B7 := B6.out.trans (hB7.mono B6.out.size); replace B7 := Mr.hid B7; replace Z7 := Mr.hid Z7; clear hB7)
          | (go_at_call 22; refine Z7.out.mono ?_; clear Z7; rintro e w8 ⟨rfl, hB8⟩; have B8 := B7.out.trans (hB8.mono B7.out.size); replace B8 := Mr.hid B8; clear hB8))
        all_goals go_wp2
        all_goals go_ret
        all_goals exact ⟨rfl, Bd.out.trans (B8.out.mono Bd.out.size)⟩
end Go.Proofs.Ytilbkminekojcaa.Me
