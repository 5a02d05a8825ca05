/-
  THE LAW MemoryPlays.
-/
import Derived.Test.YtilbkminekojcaaRefAny
import Derived.BigQuiet
import Derived.Deep.RegionHeld3
import Derived.Deep.RegionWith
namespace Go.Proofs.Ytilbkminekojcaa.Me
open Go.RowKit Mr
set_option linter.unusedVariables false
set_option maxHeartbeats 8000000 in
set_option maxRecDepth 100000 in
theorem law_plays (a : Option Addr) (n cap : Nat) (ws : List Int) (ao : Option Addr) (no co : Nat) (os : List O) (w : World) (hs : Src w a n cap ws) (ho : OpsAt w ao no os) (hr : (os.length + os.length / 4 + 192) * 56 ≤ 281474976710656) :
    Calls Try.prog 5 #[.slice a n cap, .slice ao no co] w fun e w' => e = .returned (.bool true) ∧ Below w.heap.size w w' := by
  have hno : os.length ≤ 5026338869641 := by omega
  replace hr := Mr.hid hr
  by_cases hbig : 8192 < n
  · have C := begin_long a n cap w hbig
    clear hs ho hr hbig
    go_enter Try.func5, Try.ntmps5
    go_wp2_with (go_at_call 18; refine C.mono ?_; rintro e w1 ⟨rfl, h1⟩; obtain rfl := h1.symm)
    go_ret
    exact ⟨rfl, Below.refl _ _⟩
  have hwn := hs.1
  subst hwn
  have hl8 : ws.length ≤ 8192 := by omega
  have C := begin_any _ _ _ _ _ hs hl8
  obtain ⟨hnl, ho'⟩ := id ho
  subst hnl
  clear hs hbig ho'
  go_enter Try.func5, Try.ntmps5
  go_wp2_with (go_at_call 18; refine C.mono ?_; clear C; rintro e w1 ⟨b, c, n1, rfl, q1, q2, hM, hR, hB1⟩)
  have hBoth : Both w1 w.heap.size b c ws (runP ws (os.take 0)).1 (runP ws (os.take 0)).2 := ⟨_, _, hM, hR, fun k hk => ⟨hk.1, by omega⟩, fun k hk => ⟨by omega, hk.2⟩, fun k hk hT => by omega⟩
  clear hM hR q1 q2 n1
  go_loopg [8] os.length (fun k s wr => ∃ (i : Nat), s = .int .i64 (i : Int) ∧ i + k = os.length ∧ Both wr w.heap.size b c ws (runP ws (os.take i)).1 (runP ws (os.take i)).2 ∧ Below w.heap.size w wr)
  case atStart => exact ⟨0, rfl, by omega, hBoth, hB1⟩
  case round =>
    obtain ⟨i, rfl, hi, hBi, B⟩ := hrel
    clear hBoth hB1
    by_cases hlt : i < os.length
    · as_aux_lemma =>
      obtain ⟨hp, hlg⟩ := runP_ok ws (os.take i)
      have htk : (os.take i).length = i := by simp; omega
      rw [htk] at hlg
      have hroom : ((runP ws (os.take i)).1.lg.length + 1 + ((runP ws (os.take i)).1.lg.length + 1) / 4 + 192) * 56 ≤ 281474976710656 := room_mono (by omega) hr.out (Nat.le_refl _)
      have hsn := runP_snoc ws os i hlt
      have hts := tell_small hp hl8 (by omega) (os[i]?.getD noO)
      rcases ho.2 with h0 | ⟨bo, oo, rfl, hbo, hc⟩
      · rw [h0] at hlt; simp at hlt
      have hcW : ∀ W' : World, Below w.heap.size w W' → W'.cell? ⟨bo, oo + i * 6, none⟩ = some (.int .i64 (os[i]?.getD noO).k) ∧ W'.cell? ⟨bo, oo + i * 6 + 1, none⟩ = some (.int .i64 (os[i]?.getD noO).th) ∧ W'.cell? ⟨bo, oo + i * 6 + 2, none⟩ = some (.int .i64 (os[i]?.getD noO).ad) ∧ W'.cell? ⟨bo, oo + i * 6 + 3, none⟩ = some (.int .i64 (os[i]?.getD noO).n) ∧ W'.cell? ⟨bo, oo + i * 6 + 4, none⟩ = some (.int .u64 (os[i]?.getD noO).old) ∧ W'.cell? ⟨bo, oo + i * 6 + 5, none⟩ = some (.int .u64 (os[i]?.getD noO).w) := fun W' hW => by
        obtain ⟨c0, c1, c2, c3, c4, c5⟩ := hc i hlt
        exact ⟨(hW.cell (p := ⟨bo, _, none⟩) hbo).trans c0, (hW.cell (p := ⟨bo, _, none⟩) hbo).trans c1, (hW.cell (p := ⟨bo, _, none⟩) hbo).trans c2, (hW.cell (p := ⟨bo, _, none⟩) hbo).trans c3, (hW.cell (p := ⟨bo, _, none⟩) hbo).trans c4, (hW.cell (p := ⟨bo, _, none⟩) hbo).trans c5⟩
      clear hc ho
      generalize os[i]?.getD noO = o at *
      generalize runP ws (os.take i) = p at *
      obtain ⟨s, mv⟩ := p
      simp only at hp hlg hroom hsn hts hBi
      have hBd : Below wr.heap.size wr wr.drew := (Below.refl _ _).drew
      have A := both_ask (hBi.below hBd) B.size hp hroom o
      have D := fun (w1 : World) (v1 : Value) (h : Half wr.drew w1 w.heap.size b c ws s (nxt ws o s mv) mv (nmv o mv) v1 (tell o s)) => half_doc h hp hroom
      have X := fun (w2 : World) (S T : Nat → Prop) (u v : Value) (h1 : ToldAt w2 S u (tell o s)) (h2 : ToldAt w2 T v (tell o s)) => same_same h1 h2 hts.1 hts.2.1 hts.2.2
      have B' := B.drew
      have c1 := hcW wr B
      obtain ⟨g0, g1, g2, g3, g4, g5⟩ := c1
      replace A := Mr.hid A
      replace D := Mr.hid D
      replace X := Mr.hid X
      replace hcW := Mr.hid hcW
      replace hBi := Mr.hid hBi
      replace hsn := Mr.hid hsn
      replace hp := Mr.hid hp
      replace hroom := Mr.hid hroom
      replace hts := Mr.hid hts
      replace B := Mr.hid B
      replace B' := Mr.hid B'
      replace hBd := Mr.hid hBd
      obtain ⟨ok, oth, oad, on, oold, ow⟩ := o
      simp only at g0 g1 g2 g3 g4 g5
      go_upto_region 7 with fail
      go_region_held3 (fun w' => w'.cell? ⟨bo, oo + i * 6, none⟩ = some (.int .i64 ok) ∧ w'.cell? ⟨bo, oo + i * 6 + 1, none⟩ = some (.int .i64 oth) ∧ w'.cell? ⟨bo, oo + i * 6 + 2, none⟩ = some (.int .i64 oad) ∧ w'.cell? ⟨bo, oo + i * 6 + 3, none⟩ = some (.int .i64 on) ∧ w'.cell? ⟨bo, oo + i * 6 + 4, none⟩ = some (.int .u64 oold) ∧ w'.cell? ⟨bo, oo + i * 6 + 5, none⟩ = some (.int .u64 ow)) (first | exact hcW.out _ B4.out | exact hcW.out _ B3.out | exact hcW.out _ B2.out | exact hcW.out _ B'.out) (first
        | (go_at_call 20; refine A.out.mono ?_; rintro e w2 ⟨v1, rfl, hH, hB2⟩; have D2 := D.out w2 v1 hH; have B2 := B'.out.trans hB2; replace B2 := Mr.hid B2; replace D2 := Mr.hid D2; replace hH := Mr.hid hH; clear hB2)
        | (go_at_call 21; refine D2.out.mono ?_; rintro e w3 ⟨v2, rfl, hT1, hT2, hB3, hBe⟩; have X3 := X.out w3 _ _ v1 v2 hT1 hT2; have B3 := B2.out.trans hBe; replace B3 := Mr.hid B3; replace X3 := Mr.hid X3; replace hB3 := Mr.hid hB3; clear hBe hT1 hT2)
        | (go_at_call 19; refine X3.out.mono ?_; rintro e w4 ⟨rfl, hB4⟩; have B4 := B3.out.trans (hB4.mono B3.out.size); have hF := hB3.out.below hB4; replace B4 := Mr.hid B4; replace hF := Mr.hid hF; clear hB4))
      all_goals go_wp2
      all_goals go_roundg (gk - 1)
      case measure => omega
      case rel => exact ⟨i + 1, by simp, by omega, by rw [hsn.out]; exact hF.out, B4.out⟩
    · obtain rfl : i = os.length := by omega
      rw [List.take_length] at hBi
      obtain ⟨hp, hlg⟩ := runP_ok ws os
      generalize runP ws os = p at *
      obtain ⟨s, mv⟩ := p
      simp only at hp hlg hBi
      have hroom : (s.lg.length + s.lg.length / 4 + 192) * 56 ≤ 281474976710656 := room_mono hlg hr.out (Nat.le_refl _)
      have hwl : s.ws.length ≤ 8192 := by have := hp.len; omega
      have hts := tell_small hp hl8 (by omega) ⟨7, 0, 0, 0, 0, 0⟩
      have hBd : Below wr.heap.size wr wr.drew := (Below.refl _ _).drew
      have A := both_ask' (o := ⟨7, 0, 0, 0, 0, 0⟩) (hBi.below hBd) B.size (fun S h1 h2 => ask_7 h1 h2 hroom 0 0 0 0 0)
      have D := fun (w1 : World) (v1 : Value) (h : Half wr.drew w1 w.heap.size b c ws s (nxt ws ⟨7, 0, 0, 0, 0, 0⟩ s mv) mv (nmv ⟨7, 0, 0, 0, 0, 0⟩ mv) v1 (tell ⟨7, 0, 0, 0, 0, 0⟩ s)) => half_doc' h (fun T h1 h2 => doc_7 h1 h2 hroom 0 0 0 0 0)
      have X := fun (w2 : World) (S T : Nat → Prop) (u v : Value) (h1 : ToldAt w2 S u (tell ⟨7, 0, 0, 0, 0, 0⟩ s)) (h2 : ToldAt w2 T v (tell ⟨7, 0, 0, 0, 0, 0⟩ s)) => same_same h1 h2 hts.1 hts.2.1 hts.2.2
      have Y := fun (w4 : World) (h : Both w4 w.heap.size b c ws (nxt ws ⟨7, 0, 0, 0, 0, 0⟩ s mv) (nmv ⟨7, 0, 0, 0, 0, 0⟩ mv)) => both_words h hwl
      have B' := B.drew
      simp only at A D
      replace A := Mr.hid A
      replace D := Mr.hid D
      replace X := Mr.hid X
      replace Y := Mr.hid Y
      replace hBi := Mr.hid hBi
      replace hp := Mr.hid hp
      replace hroom := Mr.hid hroom
      replace hts := Mr.hid hts
      replace B := Mr.hid B
      replace B' := Mr.hid B'
      replace hBd := Mr.hid hBd
      clear ho hi hlt
      go_upto_region 9 with fail
      go_region_with (first
        | (go_at_call 20; refine A.out.mono ?_; rintro e w2 ⟨v1, rfl, hH, hB2⟩; have D2 := D.out w2 v1 hH; have B2 := B'.out.trans hB2; replace B2 := Mr.hid B2; replace D2 := Mr.hid D2; replace hH := Mr.hid hH; clear hB2)
        | (go_at_call 21; refine D2.out.mono ?_; rintro e w3 ⟨v2, rfl, hT1, hT2, hB3, hBe⟩; have X3 := X.out w3 _ _ v1 v2 hT1 hT2; have B3 := B2.out.trans hBe; replace B3 := Mr.hid B3; replace X3 := Mr.hid X3; replace hB3 := Mr.hid hB3; clear hBe hT1 hT2)
        | (go_at_call 19; refine X3.out.mono ?_; rintro e w4 ⟨rfl, hB4⟩; have B4 := B3.out.trans (hB4.mono B3.out.size); have hF := hB3.out.below hB4; obtain ⟨vn, k4, Y4⟩ := Y.out w4 hF; replace B4 := Mr.hid B4; replace Y4 := Mr.hid Y4; clear hB4 hF)
        | (go_at_call 15; refine Y4.out.mono ?_; rintro e w5 ⟨v5, rfl, k5, Y5, hF5, hB5⟩; have B5 := B4.out.trans (hB5.mono B4.out.size); replace B5 := Mr.hid B5; replace Y5 := Mr.hid Y5; clear hB5 hF5)
        | (go_at_call 22; refine Y5.out.mono ?_; rintro e w6 ⟨rfl, hB6⟩; have B6 := B5.out.trans (hB6.mono B5.out.size); replace B6 := Mr.hid B6; clear hB6))
      all_goals go_wp2
      all_goals go_ret
      all_goals exact ⟨rfl, B6.out⟩
end Go.Proofs.Ytilbkminekojcaa.Me
