import Derived.Test.YtkfpiafgfjpodabGreatArAgainB
import Derived.Test.YtkfpiafgfjpodabGreatJ12
import Derived.Test.YtkfpiafgfjpodabGreatJ32
/-
  ArenaAgain: the walk, and the law as the frame asks for it.
-/
namespace Go.Proofs.YtkfpiafgfjpodabGreat.Ar
open Go.RowKit Go.Shelf Mr Me Ma Wc Wm Wr
set_option maxRecDepth 100000 in
set_option maxHeartbeats 2000000 in
/-- No configuration, or too many moves. -/
theorem again_not (w : World) (c : Cf) (am : Option Addr) (nm cm : Nat) (h : c.ok = false ∨ 50000 < nm) :
    Calls Tryz.prog 3 #[c.val, .slice am nm cm] w fun e w' => e = .returned (.bool true) ∧ Below w.heap.size w w' := by
  have CF := fun W => refConfig c.a0 c.a1 c.a2 c.a3 c.a4 c.a5 c.a6 W
  have AW := fun W => awake_any W
  have hB0 := (Below.refl w.heap.size w).alloc (Nat.le_refl _) (cfO c)
  have hsz : (w.alloc (cfO c)).heap.size = w.heap.size + 1 := by simp
  have hx : cfgB c.a0 c.a1 c.a2 c.a3 c.a4 c.a5 c.a6 = false ∨ decide (50000 < (nm : Int)) = true := by
    rcases h with h | h
    · exact .inl h
    · exact .inr (by simp; omega)
  obtain ⟨y0, y1, y2, y3, y4, y5, y6⟩ := cf_box2 w c
  unfold cfO at y0 y1 y2 y3 y4 y5 y6 hsz hB0
  unfold Cf.val
  clear h
  generalize hcb : cfgB c.a0 c.a1 c.a2 c.a3 c.a4 c.a5 c.a6 = cb at *
  generalize hdb : decide (50000 < (nm : Int)) = db at *
  replace hcb := Mr.hid hcb
  cases cb with
  | false =>
    clear hx
    go_enter Tryz.func3, Tryz.ntmps3
    go_wp2_with (first | (go_at_call 4; refine (CF _).mono ?_; clear CF; rintro e w1 ⟨rfl, hB1⟩; replace hB1 := hB0.trans (hB1.mono (by omega)); clear hB0) | (go_at_call 5; refine (AW _).mono ?_; clear AW; rintro e w2 ⟨rfl, hB2⟩; replace hB2 := hB1.trans (hB2.mono hB1.size); clear hB1))
    go_ret
    exact ⟨rfl, hB2⟩
  | true =>
    obtain rfl : db = true := by rcases hx with h | h; cases h; exact h
    clear hx
    go_enter Tryz.func3, Tryz.ntmps3
    go_wp2_with (first | (go_at_call 4; refine (CF _).mono ?_; clear CF; rintro e w1 ⟨rfl, hB1⟩; replace hB1 := hB0.trans (hB1.mono (by omega)); clear hB0) | (go_at_call 5; refine (AW _).mono ?_; clear AW; rintro e w2 ⟨rfl, hB2⟩; replace hB2 := hB1.trans (hB2.mono hB1.size); clear hB1))
    go_ret
    exact ⟨rfl, hB2⟩
set_option maxRecDepth 100000 in
set_option maxHeartbeats 4000000 in
theorem again_yes (w : World) (c : Cf) (hc : c.ok = true) (am : Option Addr) (nm cm : Nat) (ms : List Mv) (hm : MvAt w am nm ms) (hnm : nm ≤ 50000) :
    Calls Tryz.prog 3 #[c.val, .slice am nm cm] w fun e w' => e = .returned (.bool true) ∧ Below w.heap.size w w' := by
  have hc' : cfgB c.a0 c.a1 c.a2 c.a3 c.a4 c.a5 c.a6 = true := hc
  obtain ⟨N, m, hN, hm10, g1, g2, g3, g4⟩ := sizes (ok_of hc')
  have hin : (1 ≤ c.a0 ∧ c.a0 ≤ 16) ∧ 0 ≤ c.a4 ∧ 1 ≤ c.a5 := by
    simp [cfgB, inB] at hc'
    omega
  obtain ⟨nt, h0⟩ : ∃ nt : Nat, c.a0 = nt := ⟨c.a0.toNat, by omega⟩
  obtain ⟨Kc, h4⟩ : ∃ Kc : Nat, c.a4 = Kc := ⟨c.a4.toNat, by omega⟩
  obtain ⟨n, h5⟩ : ∃ n : Nat, c.a5 = n := ⟨c.a5.toNat, by omega⟩
  have hI0 : Inv (Pa.first c n nt N m Kc) 0 := inv_first c n nt N m Kc h5 (by omega) (by omega) hm10 g2 (by omega) g4
  have TBL := fun (W : World) => table_ok W c hc n nt N m Kc h5 h0 h4 hN hm10 (by omega)
  have hH0 : Hr (Pa.first c n nt N m Kc) := Hr.start _ _ _ _ _ _
  have hC0 : Cv (Pa.first c n nt N m Kc) := Cv.start _ _ _ _ _
  have hpt0 : (Pa.first c n nt N m Kc).pts.length = nt := by simp [Pa.first, Pa.new]
  have hsl0 : (Pa.first c n nt N m Kc).A.sl.length = n := by simp [Pa.first, Pa.new, Ao.new]
  have hn00 : (Pa.first c n nt N m Kc).n = 0 := rfl
  have hn0 : 0 < n := by omega
  have hml : nm = ms.length := hm.1
  generalize Pa.first c n nt N m Kc = P0 at *
  have hInv := fun (j : Nat) => play_inv P0 (by rw [hn00]; exact hI0) (ms.take j)
  have hOn := Hr.play ms hH0 (by rw [hn00]; exact hI0)
  have hCv := Cv.play ms hC0 (by rw [hn00]; exact hI0)
  have hmo := play_more ms (P := P0) (by rw [hn00]; exact hI0)
  rw [hn00, hpt0, Nat.zero_add] at hmo
  rw [hsl0] at hInv
  subst hml
  clear hI0 hH0 hC0 hN hm10 g1 g2 g3 g4 h4 hpt0 hsl0 hn00
  have CF := fun W => refConfig c.a0 c.a1 c.a2 c.a3 c.a4 c.a5 c.a6 W
  rw [hc'] at CF
  have AW := fun W => awake_any W
  have hB0 := (Below.refl w.heap.size w).alloc (Nat.le_refl _) (cfO c)
  have hsz : (w.alloc (cfO c)).heap.size = w.heap.size + 1 := by simp
  have hb0 : (w.alloc (cfO c)).heap[w.heap.size]? = some (cfO c) := heap_alloc_new w _
  have d3 : decide (50000 < (ms.length : Int)) = false := by simp; omega
  obtain ⟨y0, y1, y2, y3, y4, y5, y6⟩ := cf_box2 w c
  have cfg2 : ∀ W1 : World, W1.heap[w.heap.size]? = some (cfO c) → W1.cell? ⟨w.heap.size, 0, none⟩ = some (.int .i64 c.a0) ∧ W1.cell? ⟨w.heap.size, 1, none⟩ = some (.int .i64 c.a1) ∧ W1.cell? ⟨w.heap.size, 2, none⟩ = some (.int .i64 c.a2) ∧ W1.cell? ⟨w.heap.size, 3, none⟩ = some (.int .i64 c.a3) ∧ W1.cell? ⟨w.heap.size, 4, none⟩ = some (.int .i64 c.a4) ∧ W1.cell? ⟨w.heap.size, 5, none⟩ = some (.int .i64 c.a5) ∧ W1.cell? ⟨w.heap.size, 6, none⟩ = some (.int .i64 c.a6) := fun W1 hb => by
    simp [cfO] at hb
    simp [World.cell?, hb]
  obtain ⟨W0, hW0⟩ : ∃ W0, w.alloc (cfO c) = W0 := ⟨_, rfl⟩
  rw [hW0] at y0 y1 y2 y3 y4 y5 y6 hsz hB0 hb0
  unfold cfO at hW0
  unfold Cf.val at TBL ⊢
  clear hc' hc
  replace TBL := Mr.hid TBL
  replace hb0 := Mr.hid hb0
  replace cfg2 := Mr.hid cfg2
  replace CF := Mr.hid CF
  replace AW := Mr.hid AW
  replace hInv := Mr.hid hInv
  replace hOn := Mr.hid hOn
  replace hCv := Mr.hid hCv
  replace hmo := Mr.hid hmo
  replace hn0 := Mr.hid hn0
  replace hin := Mr.hid hin
  replace h0 := Mr.hid h0
  replace h5 := Mr.hid h5
  go_enter Tryz.func3, Tryz.ntmps3
  go_wp2_with (first | (go_at_call 4; refine (CF.out _).mono ?_; clear CF; rintro e w1 ⟨rfl, hB1⟩; have hc1 : w1.heap[w.heap.size]? = some (cfO c) := (hB1.block _ (by omega)).trans hb0.out; replace hB1 := hB0.trans (hB1.mono (by omega)); clear hB0 y0 y1 y2 y3 y4 y5 y6; obtain ⟨y0, y1, y2, y3, y4, y5, y6⟩ := cfg2.out w1 hc1; replace hc1 := Mr.hid hc1; replace hB1 := Mr.hid hB1) | (go_at_call 6; refine (TBL.out _).mono ?_; clear TBL; rintro e w2 ⟨tb, U, K, f, h, rfl, t1, t2, t3, t4, t5, t6⟩; have T2 := Tb.open hc1.out hB1.out t1 t2 t3 t4 t5 t6; clear t1 t2 t3 t4 t5 t6 hc1 hB1 y0 y1 y2 y3 y4 y5 y6; replace T2 := Mr.hid T2) | (go_at_call 5; refine (AW.out _).mono ?_; clear AW; rintro e w3 ⟨rfl, hB3⟩; have T3 := T2.out.below hB3; clear T2 hB3; replace T3 := Mr.hid T3))
  clear hW0 hsz hb0 cfg2 d3
  go_loopg [6] ms.length (fun k s wr => ∃ (i : Nat) (U' : Nat → Prop) (h' : Wh), s = .int .i64 (i : Int) ∧ i + k = ms.length ∧ Tb w wr c tb U' K f h' (P0.play (ms.take i)))
  case atStart => exact ⟨0, U, h, rfl, by omega, T3.out⟩
  case round =>
    obtain ⟨i, U', h', rfl, hi, T⟩ := hrel
    clear T3
    obtain ⟨⟨y0, y1, y2, y3, y4, y5, y6⟩, x7, x8⟩ := T.cells
    have l1 := T.size
    have l2 := T.lt
    by_cases hlt : i < ms.length
    · rcases hm.2 with h0' | ⟨bo, oo, rfl, hbo, hcc⟩
      · rw [h0'] at hlt; simp at hlt
      obtain ⟨c0, c1, c2, c3⟩ := hcc i hlt
      have hcW := fun (j : Nat) (u : Value) (hu : w.cell? ⟨bo, j, none⟩ = some u) => (T.bel.cell (p := ⟨bo, j, none⟩) hbo).trans hu
      have g0 := hcW _ _ c0
      have g1 := hcW _ _ c1
      have g2 := hcW _ _ c2
      have g3 := hcW _ _ c3
      have hsn := Mr.hid (play_snoc P0 ms i hlt)
      have hIi := (hInv.out i).2
      have MV := fun (W' : World) (hB : Below wr.heap.size wr W') => move_arena (T.ra.below hB) (by rw [hIi]; exact hn0.out) (ms[i]?.getD noMv).th (ms[i]?.getD noMv).op (ms[i]?.getD noMv).arg (ms[i]?.getD noMv).data
      have fin := fun (W' w5 : World) (hB : Below wr.heap.size wr W') (hO : OutA W' U' K f ((P0.play (ms.take i)).move (ms[i]?.getD noMv).th (ms[i]?.getD noMv).op (ms[i]?.getD noMv).arg (ms[i]?.getD noMv).data).1 w5) => (show ∃ U'' h'', Tb w w5 c tb U'' K f h'' (P0.play (ms.take (i + 1))) from by
        rw [hsn.out]
        exact (T.below hB).out hO)
      generalize (P0.play (ms.take i)).move (ms[i]?.getD noMv).th (ms[i]?.getD noMv).op (ms[i]?.getD noMv).arg (ms[i]?.getD noMv).data = PM at *
      generalize ms[i]?.getD noMv = m0 at *
      have hil : (i : Int) < (ms.length : Int) := by omega
      have cw := fun (W : World) (hB : Below w.heap.size w W) => (⟨(hB.cell (p := ⟨bo, oo + i * 4, none⟩) hbo).trans c0, (hB.cell (p := ⟨bo, oo + i * 4 + 1, none⟩) hbo).trans c1, (hB.cell (p := ⟨bo, oo + i * 4 + 2, none⟩) hbo).trans c2, (hB.cell (p := ⟨bo, oo + i * 4 + 3, none⟩) hbo).trans c3⟩ : W.cell? ⟨bo, oo + i * 4, none⟩ = some (.int .i64 m0.th) ∧ W.cell? ⟨bo, oo + i * 4 + 1, none⟩ = some (.int .i64 m0.op) ∧ W.cell? ⟨bo, oo + i * 4 + 2, none⟩ = some (.int .i64 m0.arg) ∧ W.cell? ⟨bo, oo + i * 4 + 3, none⟩ = some (.int .i64 m0.data))
      replace T := Mr.hid T
      replace MV := Mr.hid MV
      replace fin := Mr.hid fin
      replace cw := Mr.hid cw
      clear hcc hcW c0 c1 c2 c3 hIi
      go_wp2
      go_region_held3 (fun w' => w'.cell? ⟨tb, 8, none⟩ = some (.pointer (some ⟨f.q.b, 0, none⟩)) ∧ w'.cell? ⟨bo, oo + i * 4, none⟩ = some (.int .i64 m0.th) ∧ w'.cell? ⟨bo, oo + i * 4 + 1, none⟩ = some (.int .i64 m0.op) ∧ w'.cell? ⟨bo, oo + i * 4 + 2, none⟩ = some (.int .i64 m0.arg) ∧ w'.cell? ⟨bo, oo + i * 4 + 3, none⟩ = some (.int .i64 m0.data)) (simp [*])
        (first | (go_at_call 7; refine (MV.out _ (Below.refl _ _).drew).mono ?_; clear MV; rintro e w5 ⟨rfl, hO⟩; obtain ⟨U'', h'', T''⟩ := fin.out _ w5 (Below.refl _ _).drew hO; clear fin hO; obtain ⟨_, _, v8⟩ := T''.cells; obtain ⟨v0, v1, v2, v3⟩ := cw.out w5 T''.bel; replace T'' := Mr.hid T''))
      go_wp2
      go_roundg (gk - 1)
      case measure => omega
      case rel => exact ⟨i + 1, U'', h'', by simp, by omega, T''.out.below (Below.refl _ _)⟩
    · obtain rfl : i = ms.length := by omega
      rw [List.take_length] at T
      have hs1 := (hInv.out ms.length)
      rw [List.take_length] at hs1
      have hnt : 0 < nt ∧ nt ≤ 16 := by have h1 := hin.out.1; have h2 := h0.out; omega
      have GG : G1 (P0.play ms) n nt 0 := ⟨⟨hs1.1, hs1.2, hmo.out.2, T.ra.K, hOn.out, hCv.out, by have := hmo.out.1; omega⟩, fun j hj => by omega⟩
      replace hnt := Mr.hid hnt
      generalize P0.play ms = P1 at *
      clear hInv hOn hCv hmo hm hs1 hin
      replace T := Mr.hid T
      replace GG := Mr.hid GG
      go_wp2
      clear y0 y1 y2 y3 y4 y5 y6 x7 x8 l1 l2
      rename (∀ (a : Act) (w : World), Code.wp _ (Code.seq _ _) _ a w → _) => hK1
      replace hK1 := Mr.hid hK1
      go_loopg [7] nt (fun k s wy => ∃ (i : Nat) (U' : Nat → Prop) (h' : Wh) (P' : Pa), s = .int .i64 (i : Int) ∧ i + k = nt ∧ Tb w wy c tb U' K f h' P' ∧ G1 P' n nt i)
      case atStart => exact ⟨0, U', h', P1, rfl, by omega, T.out, GG.out⟩
      case round =>
        obtain ⟨i, U2, h2, P2, rfl, hik, T2, G2'⟩ := hrel
        clear T GG
        obtain ⟨⟨y0, y1, y2, y3, y4, y5, y6⟩, x7, x8⟩ := T2.cells
        rw [h0.out] at y0
        have l1 := T2.size
        have l2 := T2.lt
        have hnt16 : nt ≤ 16 := hnt.out.2
        by_cases hin : i < nt
        · have d1 : decide ((i : Int) < (nt : Int)) = true := decide_eq_true (by omega)
          have G3' := G2'.next hnt16 hin
          have RS := rest_any T2 (by rw [G2'.1.ns]; exact hn0.out) i
          have FN := fun (w6 : World) (hO : OutA wr U2 K f (restP 400 P2 i) w6) => T2.outs hO
          generalize restP 400 P2 i = PR at *
          replace T2 := Mr.hid T2
          replace G2' := Mr.hid G2'
          replace G3' := Mr.hid G3'
          replace RS := Mr.hid RS
          replace FN := Mr.hid FN
          go_wp2_with (first | (go_at_call 8; refine RS.out.mono ?_; clear RS; rintro e w6 ⟨rfl, hO6⟩; obtain ⟨U'', h'', T3, _, _, _⟩ := FN.out w6 hO6; replace T3 := Mr.hid T3; clear FN hO6))
          go_roundg (gk - 1)
          case measure => omega
          case rel => exact ⟨i + 1, U'', h'', PR, by simp, by omega, T3.out, G3'.out⟩
        · have d1 : decide ((i : Int) < (nt : Int)) = false := decide_eq_false (by omega)
          obtain rfl : i = nt := by omega
          have G3' := Mr.hid (G2'.done hnt16)
          replace T2 := Mr.hid T2
          clear G2'
          go_wp2
          refine hK1.out _ _ ?_
          exact again_B h0.out h5.out hn0.out hnt.out T2.out G3'.out
theorem again_law (a0 a1 a2 a3 a4 a5 a6 : Int) (am : Option Addr) (nm cm : Nat) (ms : List Mv) (w : World) (_ : (Lit.int .i64 a0).wf = true ∧ (Lit.int .i64 a1).wf = true ∧ (Lit.int .i64 a2).wf = true ∧ (Lit.int .i64 a3).wf = true ∧ (Lit.int .i64 a4).wf = true ∧ (Lit.int .i64 a5).wf = true ∧ (Lit.int .i64 a6).wf = true) (hm : MvAt w am nm ms) (_ : nm ≤ cm) :
    Calls Tryz.prog 3 #[.agg #[.int .i64 a0, .int .i64 a1, .int .i64 a2, .int .i64 a3, .int .i64 a4, .int .i64 a5, .int .i64 a6], .slice am nm cm] w fun e w' => e = .returned (.bool true) ∧ Below w.heap.size w w' := by
  cases hc : (⟨a0, a1, a2, a3, a4, a5, a6⟩ : Cf).ok with
  | false => exact again_not w ⟨a0, a1, a2, a3, a4, a5, a6⟩ am nm cm (.inl hc)
  | true =>
    by_cases hn : nm ≤ 50000
    · exact again_yes w ⟨a0, a1, a2, a3, a4, a5, a6⟩ hc am nm cm ms hm hn
    · exact again_not w ⟨a0, a1, a2, a3, a4, a5, a6⟩ am nm cm (.inr (by omega))
end Go.Proofs.YtkfpiafgfjpodabGreat.Ar
