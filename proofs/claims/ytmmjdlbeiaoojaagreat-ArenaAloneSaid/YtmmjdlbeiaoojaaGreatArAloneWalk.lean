import Derived.Test.YtmmjdlbeiaoojaaGreatArTab
import Derived.Test.YtmmjdlbeiaoojaaGreatArCv
import Derived.Deep.Cut
/-
  ArenaAlone: the walk.
-/
namespace Go.Proofs.YtmmjdlbeiaoojaaGreat.Ar
open Go.RowKit Go.Shelf Mr Me Ma Wc Wm Wr
set_option maxRecDepth 100000 in
set_option maxHeartbeats 2000000 in
/-- No configuration, or too many moves. -/
theorem alone_not (w : World) (c : Cf) (am : Option Addr) (nm cm : Nat) (th : Int) (h : c.ok = false ∨ 65336 < nm) :
    Calls Tryz.prog 6 #[c.val, .slice am nm cm, .int .i64 th] w fun e w' => e = .returned (.bool true) ∧ Below w.heap.size w w' := by
  have CF := fun W => refConfig c.a0 c.a1 c.a2 c.a3 c.a4 c.a5 c.a6 W
  have AW := fun W => awake_any W
  have hB0 := (Below.refl w.heap.size w).alloc (Nat.le_refl _) (cfO c)
  have hsz : (w.alloc (cfO c)).heap.size = w.heap.size + 1 := by simp
  have hx : cfgB c.a0 c.a1 c.a2 c.a3 c.a4 c.a5 c.a6 = false ∨ decide (65336 < (nm : Int)) = true := by
    rcases h with h | h
    · exact .inl h
    · exact .inr (by simp; omega)
  obtain ⟨y0, y1, y2, y3, y4, y5, y6⟩ := cf_box2 w c
  unfold cfO at y0 y1 y2 y3 y4 y5 y6 hsz hB0
  unfold Cf.val
  clear h
  generalize hcb : cfgB c.a0 c.a1 c.a2 c.a3 c.a4 c.a5 c.a6 = cb at *
  generalize hdb : decide (65336 < (nm : Int)) = db at *
  replace hcb := Mr.hid hcb
  cases cb with
  | false =>
    clear hx
    go_enter Tryz.func6, Tryz.ntmps6
    go_wp2_with (first | (go_at_call 9; refine (CF _).mono ?_; clear CF; rintro e w1 ⟨rfl, hB1⟩; replace hB1 := hB0.trans (hB1.mono (by omega)); clear hB0) | (go_at_call 10; refine (AW _).mono ?_; clear AW; rintro e w2 ⟨rfl, hB2⟩; replace hB2 := hB1.trans (hB2.mono hB1.size); clear hB1))
    go_ret
    exact ⟨rfl, hB2⟩
  | true =>
    obtain rfl : db = true := by rcases hx with h | h; cases h; exact h
    clear hx
    go_enter Tryz.func6, Tryz.ntmps6
    go_wp2_with (first | (go_at_call 9; refine (CF _).mono ?_; clear CF; rintro e w1 ⟨rfl, hB1⟩; replace hB1 := hB0.trans (hB1.mono (by omega)); clear hB0) | (go_at_call 10; refine (AW _).mono ?_; clear AW; rintro e w2 ⟨rfl, hB2⟩; replace hB2 := hB1.trans (hB2.mono hB1.size); clear hB1))
    go_ret
    exact ⟨rfl, hB2⟩
set_option maxRecDepth 100000 in
set_option maxHeartbeats 4000000 in
theorem alone_yes (w : World) (c : Cf) (hc : c.ok = true) (am : Option Addr) (nm cm : Nat) (ms : List Mv) (hm : MvAt w am nm ms) (hnm : nm ≤ 65336) (th : Int) :
    Calls Tryz.prog 6 #[c.val, .slice am nm cm, .int .i64 th] w fun e w' => e = .returned (.bool true) ∧ Below w.heap.size w w' := by
  have hc' : cfgB c.a0 c.a1 c.a2 c.a3 c.a4 c.a5 c.a6 = true := hc
  obtain ⟨N, m, hN, hm10, g1, g2, g3, g4⟩ := sizes (ok_of hc')
  have hin : (1 ≤ c.a0 ∧ c.a0 ≤ 16) ∧ 0 ≤ c.a4 ∧ 1 ≤ c.a5 := by
    simp [cfgB, inB] at hc'
    omega
  obtain ⟨nt, h0⟩ : ∃ nt : Nat, c.a0 = nt := ⟨c.a0.toNat, by omega⟩
  obtain ⟨Kc, h4⟩ : ∃ Kc : Nat, c.a4 = Kc := ⟨c.a4.toNat, by omega⟩
  obtain ⟨n, h5⟩ : ∃ n : Nat, c.a5 = n := ⟨c.a5.toNat, by omega⟩
  have hI0 : Inv (Pa.first c n nt N m Kc) 0 := inv_first c n nt N m Kc h5 (by omega) (by omega) hm10 g2 (by omega) g4
  have TBL := fun (W : World) => table_ok W c hc n nt N m Kc h5 h0 h4 hN hm10 (by omega)
  have hO0 : On (Pa.first c n nt N m Kc) 0 := On.start _ _ _ _ _
  have hC0 : Cv (Pa.first c n nt N m Kc) := Cv.start _ _ _ _ _
  have hpt0 : (Pa.first c n nt N m Kc).pts.length = nt := by simp [Pa.first, Pa.new]
  have hsl0 : (Pa.first c n nt N m Kc).A.sl.length = n := by simp [Pa.first, Pa.new, Ao.new]
  have hn00 : (Pa.first c n nt N m Kc).n = 0 := rfl
  have hn0 : 0 < n := by omega
  have hml : nm = ms.length := hm.1
  generalize Pa.first c n nt N m Kc = P0 at *
  have hInv := fun (j : Nat) => play_inv P0 (by rw [hn00]; exact hI0) (ms.take j)
  have hOn := On.play ms (by rw [hn00]; exact hO0) (by rw [hn00]; exact hI0)
  have hCv := Cv.play ms hC0 (by rw [hn00]; exact hI0)
  have hmo := play_more ms (P := P0) (by rw [hn00]; exact hI0)
  rw [hn00, hpt0, Nat.zero_add] at hmo
  rw [hsl0] at hInv
  subst hml
  clear hI0 hO0 hC0 hN hm10 g1 g2 g3 g4 h4 h5 hpt0 hsl0 hn00
  have CF := fun W => refConfig c.a0 c.a1 c.a2 c.a3 c.a4 c.a5 c.a6 W
  rw [hc'] at CF
  have AW := fun W => awake_any W
  have hB0 := (Below.refl w.heap.size w).alloc (Nat.le_refl _) (cfO c)
  have hsz : (w.alloc (cfO c)).heap.size = w.heap.size + 1 := by simp
  have hb0 : (w.alloc (cfO c)).heap[w.heap.size]? = some (cfO c) := heap_alloc_new w _
  have d3 : decide (65336 < (ms.length : Int)) = false := by simp; omega
  obtain ⟨y0, y1, y2, y3, y4, y5, y6⟩ := cf_box2 w c
  have cfg2 : ∀ W1 : World, W1.heap[w.heap.size]? = some (cfO c) → W1.cell? ⟨w.heap.size, 0, none⟩ = some (.int .i64 c.a0) ∧ W1.cell? ⟨w.heap.size, 1, none⟩ = some (.int .i64 c.a1) ∧ W1.cell? ⟨w.heap.size, 2, none⟩ = some (.int .i64 c.a2) ∧ W1.cell? ⟨w.heap.size, 3, none⟩ = some (.int .i64 c.a3) ∧ W1.cell? ⟨w.heap.size, 4, none⟩ = some (.int .i64 c.a4) ∧ W1.cell? ⟨w.heap.size, 5, none⟩ = some (.int .i64 c.a5) ∧ W1.cell? ⟨w.heap.size, 6, none⟩ = some (.int .i64 c.a6) := fun W1 hb => by
    simp [cfO] at hb
    simp [World.cell?, hb]
  obtain ⟨W0, hW0⟩ : ∃ W0, w.alloc (cfO c) = W0 := ⟨_, rfl⟩
  rw [hW0] at y0 y1 y2 y3 y4 y5 y6 hsz hB0 hb0
  unfold cfO at hW0
  unfold Cf.val at TBL ⊢
  clear hc' hc
  replace TBL := Mr.hid TBL
  replace hb0 := Mr.hid hb0
  replace cfg2 := Mr.hid cfg2
  replace CF := Mr.hid CF
  replace AW := Mr.hid AW
  replace hInv := Mr.hid hInv
  replace hOn := Mr.hid hOn
  replace hCv := Mr.hid hCv
  replace hmo := Mr.hid hmo
  replace hn0 := Mr.hid hn0
  replace hin := Mr.hid hin
  replace h0 := Mr.hid h0
  go_enter Tryz.func6, Tryz.ntmps6
  go_wp2_with (first | (go_at_call 9; refine (CF.out _).mono ?_; clear CF; rintro e w1 ⟨rfl, hB1⟩; have hc1 : w1.heap[w.heap.size]? = some (cfO c) := (hB1.block _ (by omega)).trans hb0.out; replace hB1 := hB0.trans (hB1.mono (by omega)); clear hB0 y0 y1 y2 y3 y4 y5 y6; obtain ⟨y0, y1, y2, y3, y4, y5, y6⟩ := cfg2.out w1 hc1; replace hc1 := Mr.hid hc1; replace hB1 := Mr.hid hB1) | (go_at_call 13; refine (TBL.out _).mono ?_; clear TBL; rintro e w2 ⟨tb, U, K, f, h, rfl, t1, t2, t3, t4, t5, t6⟩; have T2 := Tb.open hc1.out hB1.out t1 t2 t3 t4 t5 t6; clear t1 t2 t3 t4 t5 t6 hc1 hB1 y0 y1 y2 y3 y4 y5 y6; replace T2 := Mr.hid T2) | (go_at_call 10; refine (AW.out _).mono ?_; clear AW; rintro e w3 ⟨rfl, hB3⟩; have T3 := T2.out.below hB3; clear T2 hB3; replace T3 := Mr.hid T3))
  clear hW0 hsz hb0 cfg2 d3
  go_loopg [8] ms.length (fun k s wr => ∃ (i : Nat) (U' : Nat → Prop) (h' : Wh), s = .int .i64 (i : Int) ∧ i + k = ms.length ∧ Tb w wr c tb U' K f h' (P0.play (ms.take i)))
  case atStart => exact ⟨0, U, h, rfl, by omega, T3.out⟩
  case round =>
    obtain ⟨i, U', h', rfl, hi, T⟩ := hrel
    clear T3
    obtain ⟨⟨y0, y1, y2, y3, y4, y5, y6⟩, x7, x8⟩ := T.cells
    have l1 := T.size
    have l2 := T.lt
    by_cases hlt : i < ms.length
    · as_aux_lemma =>
        rcases hm.2 with h0' | ⟨bo, oo, rfl, hbo, hcc⟩
        · rw [h0'] at hlt; simp at hlt
        obtain ⟨c0, c1, c2, c3⟩ := hcc i hlt
        have hcW := fun (j : Nat) (u : Value) (hu : w.cell? ⟨bo, j, none⟩ = some u) => (T.bel.cell (p := ⟨bo, j, none⟩) hbo).trans hu
        have g0 := hcW _ _ c0
        have g1 := hcW _ _ c1
        have g2 := hcW _ _ c2
        have g3 := hcW _ _ c3
        have hsn := Mr.hid (play_snoc P0 ms i hlt)
        have hIi := (hInv.out i).2
        have MV := fun (W' : World) (hB : Below wr.heap.size wr W') => move_arena (T.ra.below hB) (by rw [hIi]; exact hn0.out) (ms[i]?.getD noMv).th (ms[i]?.getD noMv).op (ms[i]?.getD noMv).arg (ms[i]?.getD noMv).data
        have fin := fun (W' w5 : World) (hB : Below wr.heap.size wr W') (hO : OutA W' U' K f ((P0.play (ms.take i)).move (ms[i]?.getD noMv).th (ms[i]?.getD noMv).op (ms[i]?.getD noMv).arg (ms[i]?.getD noMv).data).1 w5) => (show ∃ U'' h'', Tb w w5 c tb U'' K f h'' (P0.play (ms.take (i + 1))) from by
          rw [hsn.out]
          exact (T.below hB).out hO)
        generalize (P0.play (ms.take i)).move (ms[i]?.getD noMv).th (ms[i]?.getD noMv).op (ms[i]?.getD noMv).arg (ms[i]?.getD noMv).data = PM at *
        generalize ms[i]?.getD noMv = m0 at *
        have hil : (i : Int) < (ms.length : Int) := by omega
        have cw := fun (W : World) (hB : Below w.heap.size w W) => (⟨(hB.cell (p := ⟨bo, oo + i * 4, none⟩) hbo).trans c0, (hB.cell (p := ⟨bo, oo + i * 4 + 1, none⟩) hbo).trans c1, (hB.cell (p := ⟨bo, oo + i * 4 + 2, none⟩) hbo).trans c2, (hB.cell (p := ⟨bo, oo + i * 4 + 3, none⟩) hbo).trans c3⟩ : W.cell? ⟨bo, oo + i * 4, none⟩ = some (.int .i64 m0.th) ∧ W.cell? ⟨bo, oo + i * 4 + 1, none⟩ = some (.int .i64 m0.op) ∧ W.cell? ⟨bo, oo + i * 4 + 2, none⟩ = some (.int .i64 m0.arg) ∧ W.cell? ⟨bo, oo + i * 4 + 3, none⟩ = some (.int .i64 m0.data))
        replace T := Mr.hid T
        replace MV := Mr.hid MV
        replace fin := Mr.hid fin
        replace cw := Mr.hid cw
        clear hcc hcW c0 c1 c2 c3 hm hIi
        go_wp2
        go_region_held3 (fun w' => w'.cell? ⟨tb, 8, none⟩ = some (.pointer (some ⟨f.q.b, 0, none⟩)) ∧ w'.cell? ⟨bo, oo + i * 4, none⟩ = some (.int .i64 m0.th) ∧ w'.cell? ⟨bo, oo + i * 4 + 1, none⟩ = some (.int .i64 m0.op) ∧ w'.cell? ⟨bo, oo + i * 4 + 2, none⟩ = some (.int .i64 m0.arg) ∧ w'.cell? ⟨bo, oo + i * 4 + 3, none⟩ = some (.int .i64 m0.data)) (simp [*])
          (first | (go_at_call 15; refine (MV.out _ (Below.refl _ _).drew).mono ?_; clear MV; rintro e w5 ⟨rfl, hO⟩; obtain ⟨U'', h'', T''⟩ := fin.out _ w5 (Below.refl _ _).drew hO; clear fin hO; obtain ⟨_, _, v8⟩ := T''.cells; obtain ⟨v0, v1, v2, v3⟩ := cw.out w5 T''.bel; replace T'' := Mr.hid T''))
        go_wp2
        go_roundg (gk - 1)
        case measure => omega
        case rel => exact ⟨i + 1, U'', h'', by simp, by omega, T''.out.below (Below.refl _ _)⟩
    · obtain rfl : i = ms.length := by omega
      rw [List.take_length] at T
      have hI1 := T.ra.inv
      have hs1 := (hInv.out ms.length).2
      rw [List.take_length] at hs1
      have hn1 := hmo.out.1
      have hp1 := hmo.out.2
      have hO1 := hOn.out
      have hC1 := hCv.out
      clear hInv hOn hCv hmo hm
      generalize P0.play ms = P1 at *
      have BS := busy_any T.ra th
      have CL := fun (W' : World) (hB : Below wr.heap.size wr W') => call_any (T.ra.below hB) hC1 th
      have KA := fun (W' : World) (hB : Below wr.heap.size wr W') => T.below hB
      by_cases hth : th < 0 ∨ c.a0 ≤ th
      · have hbz : busyI P1 th = false := by
          unfold busyI
          by_cases h9 : 0 ≤ th
          · have : P1.pts[th.toNat]? = none := List.getElem?_eq_none (by have := h0.out; omega)
            simp [busy, this]
          · simp [h9]
        rw [hbz] at BS
        replace T := Mr.hid T
        replace BS := Mr.hid BS
        clear KA CL hI1 hO1 hC1
        by_cases h9 : th < 0
        · as_aux_lemma =>
            have d1 : decide (th < 0) = true := decide_eq_true h9
            go_wp2_with (go_at_call 16; refine BS.out.mono ?_; rintro e w' ⟨rfl, hw⟩; obtain rfl := hw.symm)
            go_ret
            exact ⟨rfl, T.out.bel⟩
        · as_aux_lemma =>
            have d1 : decide (th < 0) = false := decide_eq_false h9
            have d2 : decide (c.a0 ≤ th) = true := decide_eq_true (by omega)
            go_wp2_with (go_at_call 16; refine BS.out.mono ?_; rintro e w' ⟨rfl, hw⟩; obtain rfl := hw.symm)
            go_ret
            exact ⟨rfl, T.out.bel⟩
      · obtain ⟨i, rfl⟩ : ∃ i : Nat, th = i := ⟨th.toNat, by omega⟩
        have d1 : decide ((i : Int) < 0) = false := by simp
        have d2 : decide (c.a0 ≤ (i : Int)) = false := decide_eq_false (by omega)
        have hip : i < P1.pts.length := by have := h0.out; omega
        have hkc := hI1.kc
        have CH := fun (W' : World) (hB : Below wr.heap.size wr W') => cached_in (T.ra.below hB).ar i (by omega) (by
          obtain ⟨_, h2, _⟩ := hI1.ca i _ (hI1.cacheEq hip)
          have := T.ra.K
          omega)
        have hL : (P1.A.cache i).length ≤ 64 := by
          obtain ⟨_, h2, _⟩ := hI1.ca i _ (hI1.cacheEq hip)
          have := T.ra.K
          omega
        have hM1 := fun hb => mu_le (i := i) hI1 hO1 hb
        have hop : opAt P1 i = ((callI P1 (i : Int)).getD noCl).op := by
          rw [opAt_eq]
          simp [callI, noCl]
        rw [hop] at hM1
        generalize (callI P1 (i : Int)).getD noCl = x at *
        generalize (callI P1 (i : Int)).isSome = okb at *
        generalize hLL : (P1.A.cache i).length = L at *
        have hLL' := Mr.hid hLL
        replace hs1 := Mr.hid hs1
        replace hn1 := Mr.hid hn1
        clear hO1 hC1 hI1 BS hop hth hLL hip hkc hin
        replace KA := Mr.hid KA
        replace CL := Mr.hid CL
        replace CH := Mr.hid CH
        replace T := Mr.hid T
        replace hM1 := Mr.hid hM1
        have cwT := fun (W' : World) (hB : Below wr.heap.size wr W') => (KA.out W' hB).cells
        replace cwT := Mr.hid cwT
        unfold Cl.val at CL
        by_cases h12 : x.op = 12
        · have b1 : (x.op == 12) = true := by simpa using h12
          have hMM : Hid (3 * L + 3 ≤ 199) := Mr.hid (by omega)
          replace hM1 : Hid (busy P1 i = true → mu P1 i ≤ 3 * L + 3) := Mr.hid (fun hb => by have := hM1.out hb; rw [if_pos h12] at this; exact this)
          clear h12
          go_wp2_with (first | (go_at_call 17; refine (CL.out _ (Below.refl _ _)).mono ?_; clear CL; rintro e w4 ⟨rfl, hB4⟩; have hBx := fun o => hB4.alloc hB4.size o; have c7x := fun o => (cwT.out _ (hBx o)).2; have z0 := (c7x (clO x)).1; have z1 := (c7x (clO x)).2; unfold clO at z0 z1; clear c7x; have lz := hB4.size; replace hBx := Mr.hid hBx) | (go_at_call 18; refine (CH.out _ (hBx.out _)).mono ?_; clear CH; rintro e w5 ⟨v', rfl, hv, hB5⟩; obtain ⟨pv, qv, rfl, _⟩ := hv.form; have T3 := KA.out w5 ((hBx.out _).trans (hB5.mono (by simp; omega))); clear hv hB5; replace T3 := Mr.hid T3))
          go_loopg [12] (3 * L + 3) (fun k s wy => ∃ (nn : Nat) (U' : Nat → Prop) (h' : Wh) (P' : Pa), s = .int .i64 (nn : Int) ∧ nn + k = 3 * L + 3 ∧ Tb w wy c tb U' K f h' P' ∧ (busy P' i = true → nn + mu P' i ≤ 3 * L + 3) ∧ P'.n ≤ 65336 + nn ∧ P'.A.sl.length = n)
          case atStart => exact ⟨0, U', h', P1, rfl, by omega, T3.out, fun hb => by have := hM1.out hb; omega, by have := hn1.out; omega, hs1.out⟩
          case round =>
            obtain ⟨nn, U', h', P', rfl, hnk, T, hmu, hnn, hsl⟩ := hrel
            clear T3
            obtain ⟨⟨y0, y1, y2, y3, y4, y5, y6⟩, x7, x8⟩ := T.cells
            have BS := busy_any T.ra (i : Int)
            have hbi : busyI P' (i : Int) = busy P' i := by simp [busyI]
            rw [hbi] at BS
            have hI := T.ra.inv
            have l1 := T.size
            cases hbz : busy P' i with
            | false =>
              rw [hbz] at BS
              replace T := Mr.hid T
              replace BS := Mr.hid BS
              clear hI hmu
              by_cases hlt : nn < 3 * L + 3
              · have d1 : decide ((nn : Int) < 3 * (L : Int) + 3) = true := decide_eq_true (by omega)
                as_aux_lemma =>
                  go_wp2_with (go_at_call 16; refine BS.out.mono ?_; rintro e w' ⟨rfl, hw⟩; obtain rfl := hw.symm)
                  go_ret
                  exact ⟨rfl, T.out.bel⟩
              · have d1 : decide ((nn : Int) < 3 * (L : Int) + 3) = false := decide_eq_false (by omega)
                as_aux_lemma =>
                  go_wp2_with (go_at_call 16; refine BS.out.mono ?_; rintro e w' ⟨rfl, hw⟩; obtain rfl := hw.symm)
                  go_ret
                  exact ⟨rfl, T.out.bel⟩
            | true =>
              rw [hbz] at BS
              have h1m := mu_pos hbz
              have h2m := hmu hbz
              have hlt : nn < 3 * L + 3 := by omega
              have d1 : decide ((nn : Int) < 3 * (L : Int) + 3) = true := decide_eq_true (by omega)
              have MV := fun (W' : World) (hB : Below wr.heap.size wr W') => move_arena (T.ra.below hB) (by rw [hsl]; exact hn0.out) (i : Int) 0 0 0
              have fin := fun (W' w5 : World) (hB : Below wr.heap.size wr W') (hO : OutA W' U' K f (P'.move (i : Int) 0 0 0).1 w5) => (T.below hB).out hO
              have hmm := mu_move hI (by have := hMM.out; omega) hbz 0 0
              have hn2 := move_n hI (i : Int) 0 0 0
              have hs2 := move_sl P' hI (i : Int) 0 0 0
              generalize P'.move (i : Int) 0 0 0 = PM at *
              replace MV := Mr.hid MV
              replace fin := Mr.hid fin
              replace T := Mr.hid T
              replace BS := Mr.hid BS
              replace hmm := Mr.hid hmm
              replace hn2 := Mr.hid hn2
              replace hs2 := Mr.hid hs2
              clear hI hmu
              go_wp2_with (first | (go_at_call 16; refine BS.out.mono ?_; clear BS; rintro e w' ⟨rfl, hw⟩; obtain rfl := hw.symm) | (go_at_call 15; refine (MV.out _ (Below.refl _ _)).mono ?_; clear MV; rintro e w5 ⟨rfl, hO⟩; obtain ⟨U'', h'', T''⟩ := fin.out _ w5 (Below.refl _ _) hO; clear fin hO; replace T'' := Mr.hid T''))
              go_roundg (gk - 1)
              case measure => omega
              case rel =>
                refine ⟨nn + 1, U'', h'', PM.1, by simp, by omega, T''.out, fun hb => ?_, by have := hn2.out; omega, by rw [hs2.out]; exact hsl⟩
                rcases hmm.out with h | h
                · rw [h] at hb; cases hb
                · omega
        · have b1 : (x.op == 12) = false := by simpa using h12
          have hMM : Hid (5 ≤ 199) := Mr.hid (by omega)
          replace hM1 : Hid (busy P1 i = true → mu P1 i ≤ 5) := Mr.hid (fun hb => by have := hM1.out hb; rw [if_neg h12] at this; exact this)
          clear h12
          go_wp2_with (go_at_call 17; refine (CL.out _ (Below.refl _ _)).mono ?_; clear CL; rintro e w4 ⟨rfl, hB4⟩; have T4 := fun o => (KA.out w4 hB4).box o; replace T4 := Mr.hid T4)
          have T3 := T4.out (clO x)
          replace T3 := Mr.hid T3
          go_loopg [12] (5) (fun k s wy => ∃ (nn : Nat) (U' : Nat → Prop) (h' : Wh) (P' : Pa), s = .int .i64 (nn : Int) ∧ nn + k = 5 ∧ Tb w wy c tb U' K f h' P' ∧ (busy P' i = true → nn + mu P' i ≤ 5) ∧ P'.n ≤ 65336 + nn ∧ P'.A.sl.length = n)
          case atStart => exact ⟨0, U', h', P1, rfl, by omega, T3.out, fun hb => by have := hM1.out hb; omega, by have := hn1.out; omega, hs1.out⟩
          case round =>
            obtain ⟨nn, U', h', P', rfl, hnk, T, hmu, hnn, hsl⟩ := hrel
            clear T3
            obtain ⟨⟨y0, y1, y2, y3, y4, y5, y6⟩, x7, x8⟩ := T.cells
            have BS := busy_any T.ra (i : Int)
            have hbi : busyI P' (i : Int) = busy P' i := by simp [busyI]
            rw [hbi] at BS
            have hI := T.ra.inv
            have l1 := T.size
            cases hbz : busy P' i with
            | false =>
              rw [hbz] at BS
              replace T := Mr.hid T
              replace BS := Mr.hid BS
              clear hI hmu
              by_cases hlt : nn < 5
              · have d1 : decide ((nn : Int) < 5) = true := decide_eq_true (by omega)
                as_aux_lemma =>
                  go_wp2_with (go_at_call 16; refine BS.out.mono ?_; rintro e w' ⟨rfl, hw⟩; obtain rfl := hw.symm)
                  go_ret
                  exact ⟨rfl, T.out.bel⟩
              · have d1 : decide ((nn : Int) < 5) = false := decide_eq_false (by omega)
                as_aux_lemma =>
                  go_wp2_with (go_at_call 16; refine BS.out.mono ?_; rintro e w' ⟨rfl, hw⟩; obtain rfl := hw.symm)
                  go_ret
                  exact ⟨rfl, T.out.bel⟩
            | true =>
              rw [hbz] at BS
              have h1m := mu_pos hbz
              have h2m := hmu hbz
              have hlt : nn < 5 := by omega
              have d1 : decide ((nn : Int) < 5) = true := decide_eq_true (by omega)
              have MV := fun (W' : World) (hB : Below wr.heap.size wr W') => move_arena (T.ra.below hB) (by rw [hsl]; exact hn0.out) (i : Int) 0 0 0
              have fin := fun (W' w5 : World) (hB : Below wr.heap.size wr W') (hO : OutA W' U' K f (P'.move (i : Int) 0 0 0).1 w5) => (T.below hB).out hO
              have hmm := mu_move hI (by have := hMM.out; omega) hbz 0 0
              have hn2 := move_n hI (i : Int) 0 0 0
              have hs2 := move_sl P' hI (i : Int) 0 0 0
              generalize P'.move (i : Int) 0 0 0 = PM at *
              replace MV := Mr.hid MV
              replace fin := Mr.hid fin
              replace T := Mr.hid T
              replace BS := Mr.hid BS
              replace hmm := Mr.hid hmm
              replace hn2 := Mr.hid hn2
              replace hs2 := Mr.hid hs2
              clear hI hmu
              go_wp2_with (first | (go_at_call 16; refine BS.out.mono ?_; clear BS; rintro e w' ⟨rfl, hw⟩; obtain rfl := hw.symm) | (go_at_call 15; refine (MV.out _ (Below.refl _ _)).mono ?_; clear MV; rintro e w5 ⟨rfl, hO⟩; obtain ⟨U'', h'', T''⟩ := fin.out _ w5 (Below.refl _ _) hO; clear fin hO; replace T'' := Mr.hid T''))
              go_roundg (gk - 1)
              case measure => omega
              case rel =>
                refine ⟨nn + 1, U'', h'', PM.1, by simp, by omega, T''.out, fun hb => ?_, by have := hn2.out; omega, by rw [hs2.out]; exact hsl⟩
                rcases hmm.out with h | h
                · rw [h] at hb; cases hb
                · omega
theorem alone_any (c : Cf) (am : Option Addr) (nm cm : Nat) (ms : List Mv) (th : Int) (w : World) (hm : MvAt w am nm ms) :
    Calls Tryz.prog 6 #[c.val, .slice am nm cm, .int .i64 th] w fun e w' => e = .returned (.bool true) ∧ Below w.heap.size w w' := by
  cases hc : c.ok with
  | false => exact alone_not w c am nm cm th (.inl hc)
  | true =>
    by_cases hn : nm ≤ 65336
    · exact alone_yes w c hc am nm cm ms hm hn th
    · exact alone_not w c am nm cm th (.inr (by omega))
end Go.Proofs.YtmmjdlbeiaoojaaGreat.Ar
