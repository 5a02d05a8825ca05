import Derived.Test.YtmmjdlbeiaoojaaGreatArWhole
import Derived.Test.YtmmjdlbeiaoojaaGreatJ12
import Derived.Test.YtmmjdlbeiaoojaaGreatJ32
import Derived.Deep.Cut
/-
  ArenaWhole: the walk, and the law as the frame asks for it.
-/
namespace Go.Proofs.YtmmjdlbeiaoojaaGreat.Ma
open Go.ChangeShapes Go.WideShapes Go.ChangeAt Go.RowKit Go.Deep
open Mr Me
set_option maxRecDepth 100000 in
/-- A row of moves that came in, and how long it may be. -/
theorem open_mvm {H : Type} {enc : TypeId × Value → H} {w : World} {base : Nat} {spare : Nat → Bool} {held : Bool} {r : Reach} {b0 : Nat} {v : Value} {d : DataW H} {p : List MemPlace} (hv : Value.okWide Tryz.prog w r b0 24 v) (h : DataW.Trod enc Tryz.prog w base spare held 24 v d p) :
    ∃ a n cap ms, v = .slice a n cap ∧ MvAt w a n ms ∧ n ≤ 9223372036854775807 := by
  obtain ⟨a, n, cap, ms, rfl, hm, hn⟩ := open_mvl hv h
  obtain ⟨fuel, hf⟩ := h
  refine ⟨_, _, _, ms, rfl, hm, ?_⟩
  rcases open_slice Tryz.underlying24 hf with ⟨hc, hx⟩ | ⟨ad, n', cap', m, k, D, Pl, hc, _, hl, hmx, _⟩
  · simp [Value.cells] at hc
    omega
  · simp [Value.cells] at hc
    unfold maxLen at hmx
    omega
end Go.Proofs.YtmmjdlbeiaoojaaGreat.Ma
namespace Go.Proofs.YtmmjdlbeiaoojaaGreat.Ar
open Go.RowKit Go.Shelf Mr Me Ma Wc Wm Wr
theorem move_wl {P : Pa} (h : Inv P P.n) (th op arg data : Int) : (P.move th op arg data).1.ws.length = P.ws.length := by
  unfold Pa.move
  split
  · rfl
  · split
    · split
      · rfl
      · rename_i t ht
        split
        · obtain ⟨tk, fr, call⟩ := t
          rcases tk with _ | ⟨kd, k⟩
          · rfl
          · have hi : th.toNat < P.count.pts.length := (List.getElem?_eq_some_iff.1 ht).1
            have r : (P.count.work th.toNat P.n fr kd k).1.ws.length = P.count.ws.length := (work_core (now := P.n) h.count (by omega) hi (h.count.th _ _ kd k ht rfl)).1.wl
            simp only [Pa.step]
            split <;> exact r
        · split
          · rfl
          · unfold Pa.begins
            split <;> rfl
    · rfl
theorem play_wl (ms : List Mv) : ∀ {P : Pa}, Inv P P.n → (P.play ms).ws.length = P.ws.length := by
  induction ms with
  | nil => exact fun _ => rfl
  | cons x ms ih => exact fun hI => (ih (hI.move x.th x.op x.arg x.data)).trans (move_wl hI x.th x.op x.arg x.data)
set_option maxRecDepth 100000 in
set_option maxHeartbeats 2000000 in
/-- No configuration. -/
theorem whole_not (w : World) (c : Cf) (am : Option Addr) (nm cm : Nat) (h : c.ok = false) :
    Calls Tryz.prog 5 #[c.val, .slice am nm cm] w fun e w' => e = .returned (.bool true) ∧ Below w.heap.size w w' := by
  have CF := fun W => refConfig c.a0 c.a1 c.a2 c.a3 c.a4 c.a5 c.a6 W
  have AW := fun W => awake_any W
  have hB0 := (Below.refl w.heap.size w).alloc (Nat.le_refl _) (cfO c)
  have hsz : (w.alloc (cfO c)).heap.size = w.heap.size + 1 := by simp
  have hx : cfgB c.a0 c.a1 c.a2 c.a3 c.a4 c.a5 c.a6 = false := h
  obtain ⟨y0, y1, y2, y3, y4, y5, y6⟩ := cf_box2 w c
  unfold cfO at y0 y1 y2 y3 y4 y5 y6 hsz hB0
  unfold Cf.val
  clear h
  rw [hx] at CF
  clear hx
  go_enter Tryz.func5, Tryz.ntmps5
  go_wp2_with (first | (go_at_call 9; refine (CF _).mono ?_; clear CF; rintro e w1 ⟨rfl, hB1⟩; replace hB1 := hB0.trans (hB1.mono (by omega)); clear hB0) | (go_at_call 10; refine (AW _).mono ?_; clear AW; rintro e w2 ⟨rfl, hB2⟩; replace hB2 := hB1.trans (hB2.mono hB1.size); clear hB1))
  go_ret
  exact ⟨rfl, hB2⟩
set_option maxRecDepth 100000 in
set_option maxHeartbeats 4000000 in
theorem whole_yes (w : World) (c : Cf) (hc : c.ok = true) (am : Option Addr) (nm cm : Nat) (ms : List Mv) (hm : MvAt w am nm ms) (hnm : nm ≤ 9223372036854775807) :
    Calls Tryz.prog 5 #[c.val, .slice am nm cm] w fun e w' => e = .returned (.bool true) ∧ Below w.heap.size w w' := by
  have hc' : cfgB c.a0 c.a1 c.a2 c.a3 c.a4 c.a5 c.a6 = true := hc
  obtain ⟨N, m, hN, hm10, g1, g2, g3, g4⟩ := sizes (ok_of hc')
  have hin : (1 ≤ c.a0 ∧ c.a0 ≤ 16) ∧ 0 ≤ c.a4 ∧ 1 ≤ c.a5 := by
    simp [cfgB, inB] at hc'
    omega
  obtain ⟨nt, h0⟩ : ∃ nt : Nat, c.a0 = nt := ⟨c.a0.toNat, by omega⟩
  obtain ⟨Kc, h4⟩ : ∃ Kc : Nat, c.a4 = Kc := ⟨c.a4.toNat, by omega⟩
  obtain ⟨n, h5⟩ : ∃ n : Nat, c.a5 = n := ⟨c.a5.toNat, by omega⟩
  have hI0 : Inv (Pa.first c n nt N m Kc) 0 := inv_first c n nt N m Kc h5 (by omega) (by omega) hm10 g2 (by omega) g4
  have TBL := fun (W : World) => table_ok W c hc n nt N m Kc h5 h0 h4 hN hm10 (by omega)
  have hw0 : (Pa.first c n nt N m Kc).ws.length = N := fws_len c N
  have hpt0 : (Pa.first c n nt N m Kc).pts.length = nt := by simp [Pa.first, Pa.new]
  have hsl0 : (Pa.first c n nt N m Kc).A.sl.length = n := by simp [Pa.first, Pa.new, Ao.new]
  have hn00 : (Pa.first c n nt N m Kc).n = 0 := rfl
  have hn0 : 0 < n := by omega
  have hml : nm = ms.length := hm.1
  generalize Pa.first c n nt N m Kc = P0 at *
  have hInv := fun (j : Nat) => play_inv P0 (by rw [hn00]; exact hI0) (ms.take j)
  have hmo := fun (j : Nat) => (play_more (ms.take j) (P := P0) (by rw [hn00]; exact hI0)).2
  rw [hpt0] at hmo
  have hwl := fun (j : Nat) => play_wl (ms.take j) (P := P0) (by rw [hn00]; exact hI0)
  rw [hw0] at hwl
  have hWH := fun (W : World) (tb : Nat) (U K : Nat → Prop) (f : Fx) (h : Wh) (j : Nat) (T : Tb w W c tb U K f h (P0.play (ms.take j))) => whole_any T hc n nt N m Kc h5 h0 h4 hN hm10 (by omega) g4 (by omega) hn0 (by omega) (hmo j) (by rw [(hInv j).2]; exact hsl0) (hwl j)
  subst hml
  clear hI0 hN hm10 g1 g2 g3 g4 h4 h5 hpt0 hn00 hw0
  have CF := fun W => refConfig c.a0 c.a1 c.a2 c.a3 c.a4 c.a5 c.a6 W
  rw [hc'] at CF
  have AW := fun W => awake_any W
  have hB0 := (Below.refl w.heap.size w).alloc (Nat.le_refl _) (cfO c)
  have hsz : (w.alloc (cfO c)).heap.size = w.heap.size + 1 := by simp
  have hb0 : (w.alloc (cfO c)).heap[w.heap.size]? = some (cfO c) := heap_alloc_new w _
  obtain ⟨y0, y1, y2, y3, y4, y5, y6⟩ := cf_box2 w c
  have cfg2 : ∀ W1 : World, W1.heap[w.heap.size]? = some (cfO c) → W1.cell? ⟨w.heap.size, 0, none⟩ = some (.int .i64 c.a0) ∧ W1.cell? ⟨w.heap.size, 1, none⟩ = some (.int .i64 c.a1) ∧ W1.cell? ⟨w.heap.size, 2, none⟩ = some (.int .i64 c.a2) ∧ W1.cell? ⟨w.heap.size, 3, none⟩ = some (.int .i64 c.a3) ∧ W1.cell? ⟨w.heap.size, 4, none⟩ = some (.int .i64 c.a4) ∧ W1.cell? ⟨w.heap.size, 5, none⟩ = some (.int .i64 c.a5) ∧ W1.cell? ⟨w.heap.size, 6, none⟩ = some (.int .i64 c.a6) := fun W1 hb => by
    simp [cfO] at hb
    simp [World.cell?, hb]
  obtain ⟨W0, hW0⟩ : ∃ W0, w.alloc (cfO c) = W0 := ⟨_, rfl⟩
  rw [hW0] at y0 y1 y2 y3 y4 y5 y6 hsz hB0 hb0
  unfold cfO at hW0
  unfold Cf.val at TBL ⊢
  clear hc' hc
  replace TBL := Mr.hid TBL
  replace hb0 := Mr.hid hb0
  replace cfg2 := Mr.hid cfg2
  replace CF := Mr.hid CF
  replace AW := Mr.hid AW
  replace hInv := Mr.hid hInv
  replace hmo := Mr.hid hmo
  replace hwl := Mr.hid hwl
  replace hWH := Mr.hid hWH
  replace hsl0 := Mr.hid hsl0
  replace hn0 := Mr.hid hn0
  replace hin := Mr.hid hin
  replace h0 := Mr.hid h0
  go_enter Tryz.func5, Tryz.ntmps5
  go_wp2_with (first | (go_at_call 9; refine (CF.out _).mono ?_; clear CF; rintro e w1 ⟨rfl, hB1⟩; have hc1 : w1.heap[w.heap.size]? = some (cfO c) := (hB1.block _ (by omega)).trans hb0.out; replace hB1 := hB0.trans (hB1.mono (by omega)); clear hB0 y0 y1 y2 y3 y4 y5 y6; obtain ⟨y0, y1, y2, y3, y4, y5, y6⟩ := cfg2.out w1 hc1; replace hc1 := Mr.hid hc1; replace hB1 := Mr.hid hB1) | (go_at_call 13; refine (TBL.out _).mono ?_; clear TBL; rintro e w2 ⟨tb, U, K, f, h, rfl, t1, t2, t3, t4, t5, t6⟩; have T2 := Tb.open hc1.out hB1.out t1 t2 t3 t4 t5 t6; clear t1 t2 t3 t4 t5 t6 hc1 hB1 y0 y1 y2 y3 y4 y5 y6; replace T2 := Mr.hid T2) | (go_at_call 10; refine (AW.out _).mono ?_; clear AW; rintro e w3 ⟨rfl, hB3⟩; have T2b := T2.out.below hB3; clear T2 hB3; have WH0 := hWH.out w3 tb U K f h 0 T2b; replace T2b := Mr.hid T2b; replace WH0 := Mr.hid WH0) | (go_at_call 14; refine WH0.out.mono ?_; clear WH0; rintro e w4 ⟨rfl, hB4⟩; have T3 := T2b.out.below hB4; clear T2b hB4; replace T3 := Mr.hid T3))
  clear hW0 hsz hb0 cfg2
  go_loopg [6] ms.length (fun k s wr => ∃ (i : Nat) (U' : Nat → Prop) (h' : Wh), s = .int .i64 (i : Int) ∧ i + k = ms.length ∧ Tb w wr c tb U' K f h' (P0.play (ms.take i)))
  case atStart => exact ⟨0, U, h, rfl, by omega, T3.out⟩
  case round =>
    obtain ⟨i, U', h', rfl, hi, T⟩ := hrel
    clear T3
    obtain ⟨⟨y0, y1, y2, y3, y4, y5, y6⟩, x7, x8⟩ := T.cells
    have l1 := T.size
    have l2 := T.lt
    by_cases hlt : i < ms.length
    · as_aux_lemma =>
        rcases hm.2 with h0' | ⟨bo, oo, rfl, hbo, hcc⟩
        · rw [h0'] at hlt; simp at hlt
        obtain ⟨c0, c1, c2, c3⟩ := hcc i hlt
        have hcW := fun (j : Nat) (u : Value) (hu : w.cell? ⟨bo, j, none⟩ = some u) => (T.bel.cell (p := ⟨bo, j, none⟩) hbo).trans hu
        have g0 := hcW _ _ c0
        have g1 := hcW _ _ c1
        have g2 := hcW _ _ c2
        have g3 := hcW _ _ c3
        have hsn := Mr.hid (play_snoc P0 ms i hlt)
        have hIi : (P0.play (ms.take i)).A.sl.length = n := by rw [(hInv.out i).2]; exact hsl0.out
        have MV := fun (W' : World) (hB : Below wr.heap.size wr W') => move_arena (T.ra.below hB) (by rw [hIi]; exact hn0.out) (ms[i]?.getD noMv).th (ms[i]?.getD noMv).op (ms[i]?.getD noMv).arg (ms[i]?.getD noMv).data
        have fin := fun (W' w5 : World) (hB : Below wr.heap.size wr W') (hO : OutA W' U' K f ((P0.play (ms.take i)).move (ms[i]?.getD noMv).th (ms[i]?.getD noMv).op (ms[i]?.getD noMv).arg (ms[i]?.getD noMv).data).1 w5) => (show ∃ U'' h'', Tb w w5 c tb U'' K f h'' (P0.play (ms.take (i + 1))) from by
          rw [hsn.out]
          exact (T.below hB).out hO)
        generalize (P0.play (ms.take i)).move (ms[i]?.getD noMv).th (ms[i]?.getD noMv).op (ms[i]?.getD noMv).arg (ms[i]?.getD noMv).data = PM at *
        generalize ms[i]?.getD noMv = m0 at *
        have hil : (i : Int) < (ms.length : Int) := by omega
        have cw := fun (W : World) (hB : Below w.heap.size w W) => (⟨(hB.cell (p := ⟨bo, oo + i * 4, none⟩) hbo).trans c0, (hB.cell (p := ⟨bo, oo + i * 4 + 1, none⟩) hbo).trans c1, (hB.cell (p := ⟨bo, oo + i * 4 + 2, none⟩) hbo).trans c2, (hB.cell (p := ⟨bo, oo + i * 4 + 3, none⟩) hbo).trans c3⟩ : W.cell? ⟨bo, oo + i * 4, none⟩ = some (.int .i64 m0.th) ∧ W.cell? ⟨bo, oo + i * 4 + 1, none⟩ = some (.int .i64 m0.op) ∧ W.cell? ⟨bo, oo + i * 4 + 2, none⟩ = some (.int .i64 m0.arg) ∧ W.cell? ⟨bo, oo + i * 4 + 3, none⟩ = some (.int .i64 m0.data))
        replace T := Mr.hid T
        replace MV := Mr.hid MV
        replace fin := Mr.hid fin
        replace cw := Mr.hid cw
        clear hcc hcW c0 c1 c2 c3 hm hIi
        go_wp2
        go_region_held3 (fun w' => w'.cell? ⟨tb, 8, none⟩ = some (.pointer (some ⟨f.q.b, 0, none⟩)) ∧ w'.cell? ⟨bo, oo + i * 4, none⟩ = some (.int .i64 m0.th) ∧ w'.cell? ⟨bo, oo + i * 4 + 1, none⟩ = some (.int .i64 m0.op) ∧ w'.cell? ⟨bo, oo + i * 4 + 2, none⟩ = some (.int .i64 m0.arg) ∧ w'.cell? ⟨bo, oo + i * 4 + 3, none⟩ = some (.int .i64 m0.data)) (simp [*])
          (first | (go_at_call 15; refine (MV.out _ (Below.refl _ _).drew).mono ?_; clear MV; rintro e w5 ⟨rfl, hO⟩; obtain ⟨U'', h'', T''⟩ := fin.out _ w5 (Below.refl _ _).drew hO; clear fin hO; obtain ⟨_, _, v8⟩ := T''.cells; obtain ⟨v0, v1, v2, v3⟩ := cw.out w5 T''.bel; have WH5 := hWH.out w5 tb U'' K f h'' (i + 1) T''; replace WH5 := Mr.hid WH5; replace T'' := Mr.hid T''))
        go_wp2_with (go_at_call 14; refine WH5.out.mono ?_; clear WH5; rintro e w6 ⟨rfl, hB6⟩; have T6 := T''.out.below hB6; clear T'' hB6; replace T6 := Mr.hid T6)
        go_roundg (gk - 1)
        case measure => omega
        case rel => exact ⟨i + 1, U'', h'', by simp, by omega, T6.out⟩
    · obtain rfl : i = ms.length := by omega
      replace T := Mr.hid T
      clear hWH hInv hmo hwl
      go_wp2
      go_ret
      exact ⟨rfl, T.out.bel⟩
theorem whole_law (a0 a1 a2 a3 a4 a5 a6 : Int) (am : Option Addr) (nm cm : Nat) (ms : List Mv) (w : World) (_ : (Lit.int .i64 a0).wf = true ∧ (Lit.int .i64 a1).wf = true ∧ (Lit.int .i64 a2).wf = true ∧ (Lit.int .i64 a3).wf = true ∧ (Lit.int .i64 a4).wf = true ∧ (Lit.int .i64 a5).wf = true ∧ (Lit.int .i64 a6).wf = true) (hm : MvAt w am nm ms) (hn : nm ≤ 9223372036854775807) :
    Calls Tryz.prog 5 #[.agg #[.int .i64 a0, .int .i64 a1, .int .i64 a2, .int .i64 a3, .int .i64 a4, .int .i64 a5, .int .i64 a6], .slice am nm cm] w fun e w' => e = .returned (.bool true) ∧ Below w.heap.size w w' := by
  cases hc : (⟨a0, a1, a2, a3, a4, a5, a6⟩ : Cf).ok with
  | false => exact whole_not w ⟨a0, a1, a2, a3, a4, a5, a6⟩ am nm cm hc
  | true => exact whole_yes w ⟨a0, a1, a2, a3, a4, a5, a6⟩ hc am nm cm ms hm hn
end Go.Proofs.YtmmjdlbeiaoojaaGreat.Ar
