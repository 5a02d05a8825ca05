import Derived.Test.YtmmjdlbeiaoojaaGreatArTab
import Derived.Test.YtmmjdlbeiaoojaaGreatArCv
import Derived.Deep.Cut
import Derived.BigQuiet
import Derived.Deep.DeepCutAuto
/-
  ArenaHonest: the walk.
-/
namespace Go.Proofs.YtmmjdlbeiaoojaaGreat.Ar
open Go.RowKit Go.Shelf Mr Me Ma Wc Wm Wr
theorem cnt_none {A : Ao} {st : Int} (h : ∀ s, A.has s → (A.st s).1 ≠ st) : cntS st A.sl = 0 := by
  unfold cntS
  rw [List.countP_eq_zero]
  intro y hy
  obtain ⟨k, hk⟩ := List.mem_iff_getElem?.1 hy
  have hl : k < A.sl.length := (List.getElem?_eq_some_iff.1 hk).1
  have := h (k : Int) ⟨by omega, by omega⟩
  simp [Ao.st, hk] at this
  simpa using this
theorem tmod0 (a : Int) : (a.tmod 4294967296 == 0) = decide (a % 4294967296 = 0) := by
  rw [Bool.eq_iff_iff]
  simp
  constructor
  · intro h
    exact Int.emod_eq_zero_of_dvd (Int.dvd_of_tmod_eq_zero h)
  · intro h
    exact Int.tmod_eq_zero_of_dvd (Int.dvd_of_emod_eq_zero h)
theorem drew_heap2 (W : World) : W.drew.heap = W.heap := rfl
theorem alloc_at2 (W : World) (o x : Obj) : ((W.alloc o).heap[W.heap.size]? = some x) = (o = x) := by rw [heap_alloc_new]; simp
theorem not_there2 (W : World) (x : Obj) : (W.heap[W.heap.size]? = some x) = False := by simp
def mvO (m : Mv) : Obj := .cells #[.int .i64 m.th, .int .i64 m.op, .int .i64 m.arg, .int .i64 m.data] 57 (0, 0)
theorem mvO_cells {W : World} {k : Nat} {m : Mv} (h : W.heap[k]? = some (mvO m)) : W.cell? ⟨k, 0, none⟩ = some (.int .i64 m.th) ∧ W.cell? ⟨k, 1, none⟩ = some (.int .i64 m.op) ∧ W.cell? ⟨k, 2, none⟩ = some (.int .i64 m.arg) ∧ W.cell? ⟨k, 3, none⟩ = some (.int .i64 m.data) := by
  unfold mvO at h
  simp [World.cell?, h]
set_option maxRecDepth 100000 in
set_option maxHeartbeats 2000000 in
/-- No configuration, or too many moves. -/
theorem honest_not (w : World) (c : Cf) (am : Option Addr) (nm cm : Nat) (h : c.ok = false ∨ 65536 < nm) :
    Calls Tryz.prog 8 #[c.val, .slice am nm cm] w fun e w' => e = .returned (.bool true) ∧ Below w.heap.size w w' := by
  have CF := fun W => refConfig c.a0 c.a1 c.a2 c.a3 c.a4 c.a5 c.a6 W
  have AW := fun W => awake_any W
  have hB0 := (Below.refl w.heap.size w).alloc (Nat.le_refl _) (cfO c)
  have hsz : (w.alloc (cfO c)).heap.size = w.heap.size + 1 := by simp
  have hx : cfgB c.a0 c.a1 c.a2 c.a3 c.a4 c.a5 c.a6 = false ∨ decide (65536 < (nm : Int)) = true := by
    rcases h with h | h
    · exact .inl h
    · exact .inr (by simp; omega)
  obtain ⟨y0, y1, y2, y3, y4, y5, y6⟩ := cf_box2 w c
  unfold cfO at y0 y1 y2 y3 y4 y5 y6 hsz hB0
  unfold Cf.val
  clear h
  generalize hcb : cfgB c.a0 c.a1 c.a2 c.a3 c.a4 c.a5 c.a6 = cb at *
  generalize hdb : decide (65536 < (nm : Int)) = db at *
  replace hcb := Mr.hid hcb
  cases cb with
  | false =>
    clear hx
    go_enter Tryz.func8, Tryz.ntmps8
    go_wp2_with (first | (go_at_call 9; refine (CF _).mono ?_; clear CF; rintro e w1 ⟨rfl, hB1⟩; replace hB1 := hB0.trans (hB1.mono (by omega)); clear hB0) | (go_at_call 10; refine (AW _).mono ?_; clear AW; rintro e w2 ⟨rfl, hB2⟩; replace hB2 := hB1.trans (hB2.mono hB1.size); clear hB1))
    go_ret
    exact ⟨rfl, hB2⟩
  | true =>
    obtain rfl : db = true := by rcases hx with h | h; cases h; exact h
    clear hx
    go_enter Tryz.func8, Tryz.ntmps8
    go_wp2_with (first | (go_at_call 9; refine (CF _).mono ?_; clear CF; rintro e w1 ⟨rfl, hB1⟩; replace hB1 := hB0.trans (hB1.mono (by omega)); clear hB0) | (go_at_call 10; refine (AW _).mono ?_; clear AW; rintro e w2 ⟨rfl, hB2⟩; replace hB2 := hB1.trans (hB2.mono hB1.size); clear hB1))
    go_ret
    exact ⟨rfl, hB2⟩
set_option maxRecDepth 100000 in
set_option maxHeartbeats 4000000 in
theorem honest_yes (w : World) (c : Cf) (hc : c.ok = true) (am : Option Addr) (nm cm : Nat) (ms : List Mv) (hm : MvAt w am nm ms) (hnm : nm ≤ 65536) :
    Calls Tryz.prog 8 #[c.val, .slice am nm cm] w fun e w' => e = .returned (.bool true) ∧ Below w.heap.size w w' := by
  have hc' : cfgB c.a0 c.a1 c.a2 c.a3 c.a4 c.a5 c.a6 = true := hc
  obtain ⟨N, m, hN, hm10, g1, g2, g3, g4⟩ := sizes (ok_of hc')
  have hin : (1 ≤ c.a0 ∧ c.a0 ≤ 16) ∧ 0 ≤ c.a4 ∧ 1 ≤ c.a5 := by
    simp [cfgB, inB] at hc'
    omega
  obtain ⟨nt, h0⟩ : ∃ nt : Nat, c.a0 = nt := ⟨c.a0.toNat, by omega⟩
  obtain ⟨Kc, h4⟩ : ∃ Kc : Nat, c.a4 = Kc := ⟨c.a4.toNat, by omega⟩
  obtain ⟨n, h5⟩ : ∃ n : Nat, c.a5 = n := ⟨c.a5.toNat, by omega⟩
  have hI0 : Inv (Pa.first c n nt N m Kc) 0 := inv_first c n nt N m Kc h5 (by omega) (by omega) hm10 g2 (by omega) g4
  have TBL := fun (W : World) => table_ok W c hc n nt N m Kc h5 h0 h4 hN hm10 (by omega)
  have hO0 : On (Pa.first c n nt N m Kc) 0 := On.start _ _ _ _ _
  have hH0 : Hn (Pa.first c n nt N m Kc) := Hn.start _ _ _ _ _
  have hC0 : Cv (Pa.first c n nt N m Kc) := Cv.start _ _ _ _ _
  have hpt0 : (Pa.first c n nt N m Kc).pts.length = nt := by simp [Pa.first, Pa.new]
  have hsl0 : (Pa.first c n nt N m Kc).A.sl.length = n := by simp [Pa.first, Pa.new, Ao.new]
  have hn00 : (Pa.first c n nt N m Kc).n = 0 := rfl
  have hn0 : 0 < n := by omega
  have hml : nm = ms.length := hm.1
  generalize Pa.first c n nt N m Kc = P0 at *
  have hInv := fun (j : Nat) => play_inv P0 (by rw [hn00]; exact hI0) (ms.take j)
  have hOn := fun (j : Nat) => On.play (ms.take j) (P := P0) (by rw [hn00]; exact hO0) (by rw [hn00]; exact hI0)
  have hHn := Hn.play ms hH0 (by rw [hn00]; exact hO0) (by rw [hn00]; exact hI0)
  have hCv := fun (j : Nat) => Cv.play (ms.take j) hC0 (by rw [hn00]; exact hI0)
  have hmo := fun (j : Nat) => (play_more (ms.take j) (P := P0) (by rw [hn00]; exact hI0)).2
  rw [hpt0] at hmo
  rw [hsl0] at hInv
  subst hml
  clear hI0 hO0 hC0 hH0 hN hm10 g1 g2 g3 g4 h4 h5 hpt0 hsl0 hn00
  have CF := fun W => refConfig c.a0 c.a1 c.a2 c.a3 c.a4 c.a5 c.a6 W
  rw [hc'] at CF
  have AW := fun W => awake_any W
  have hB0 := (Below.refl w.heap.size w).alloc (Nat.le_refl _) (cfO c)
  have hsz : (w.alloc (cfO c)).heap.size = w.heap.size + 1 := by simp
  have hb0 : (w.alloc (cfO c)).heap[w.heap.size]? = some (cfO c) := heap_alloc_new w _
  have d3 : decide (65536 < (ms.length : Int)) = false := by simp; omega
  obtain ⟨y0, y1, y2, y3, y4, y5, y6⟩ := cf_box2 w c
  have cfg2 : ∀ W1 : World, W1.heap[w.heap.size]? = some (cfO c) → W1.cell? ⟨w.heap.size, 0, none⟩ = some (.int .i64 c.a0) ∧ W1.cell? ⟨w.heap.size, 1, none⟩ = some (.int .i64 c.a1) ∧ W1.cell? ⟨w.heap.size, 2, none⟩ = some (.int .i64 c.a2) ∧ W1.cell? ⟨w.heap.size, 3, none⟩ = some (.int .i64 c.a3) ∧ W1.cell? ⟨w.heap.size, 4, none⟩ = some (.int .i64 c.a4) ∧ W1.cell? ⟨w.heap.size, 5, none⟩ = some (.int .i64 c.a5) ∧ W1.cell? ⟨w.heap.size, 6, none⟩ = some (.int .i64 c.a6) := fun W1 hb => by
    simp [cfO] at hb
    simp [World.cell?, hb]
  obtain ⟨W0, hW0⟩ : ∃ W0, w.alloc (cfO c) = W0 := ⟨_, rfl⟩
  rw [hW0] at y0 y1 y2 y3 y4 y5 y6 hsz hB0 hb0
  unfold cfO at hW0
  unfold Cf.val at TBL ⊢
  clear hc' hc
  replace TBL := Mr.hid TBL
  replace hb0 := Mr.hid hb0
  replace cfg2 := Mr.hid cfg2
  replace CF := Mr.hid CF
  replace AW := Mr.hid AW
  replace hInv := Mr.hid hInv
  replace hOn := Mr.hid hOn
  replace hHn := Mr.hid hHn
  replace hCv := Mr.hid hCv
  replace hmo := Mr.hid hmo
  replace hn0 := Mr.hid hn0
  replace hin := Mr.hid hin
  replace h0 := Mr.hid h0
  go_enter Tryz.func8, Tryz.ntmps8
  go_wp2_with (first | (go_at_call 9; refine (CF.out _).mono ?_; clear CF; rintro e w1 ⟨rfl, hB1⟩; have hc1 : w1.heap[w.heap.size]? = some (cfO c) := (hB1.block _ (by omega)).trans hb0.out; replace hB1 := hB0.trans (hB1.mono (by omega)); clear hB0 y0 y1 y2 y3 y4 y5 y6; obtain ⟨y0, y1, y2, y3, y4, y5, y6⟩ := cfg2.out w1 hc1; replace hc1 := Mr.hid hc1; replace hB1 := Mr.hid hB1) | (go_at_call 13; refine (TBL.out _).mono ?_; clear TBL; rintro e w2 ⟨tb, U, K, f, h, rfl, t1, t2, t3, t4, t5, t6⟩; have T2 := Tb.open hc1.out hB1.out t1 t2 t3 t4 t5 t6; clear t1 t2 t3 t4 t5 t6 hc1 hB1 y0 y1 y2 y3 y4 y5 y6; replace T2 := Mr.hid T2) | (go_at_call 10; refine (AW.out _).mono ?_; clear AW; rintro e w3 ⟨rfl, hB3⟩; have T3 := T2.out.below hB3; clear T2 hB3; replace T3 := Mr.hid T3))
  clear hW0 hsz hb0 cfg2 d3
  go_loopg [6] ms.length (fun k s wr => ∃ (i : Nat) (U' : Nat → Prop) (h' : Wh), s = .int .i64 (i : Int) ∧ i + k = ms.length ∧ Tb w wr c tb U' K f h' (P0.play (ms.take i)))
  case atStart => exact ⟨0, U, h, rfl, by omega, T3.out⟩
  case round =>
    obtain ⟨i, U', h', rfl, hi, T⟩ := hrel
    clear T3
    obtain ⟨⟨y0, y1, y2, y3, y4, y5, y6⟩, x7, x8⟩ := T.cells
    have l1 := T.size
    have l2 := T.lt
    by_cases hlt : i < ms.length
    · rcases hm.2 with h0' | ⟨bo, oo, rfl, hbo, hcc⟩
      · rw [h0'] at hlt; simp at hlt
      obtain ⟨c0, c1, c2, c3⟩ := hcc i hlt
      have hcW := fun (j : Nat) (u : Value) (hu : w.cell? ⟨bo, j, none⟩ = some u) => (T.bel.cell (p := ⟨bo, j, none⟩) hbo).trans hu
      have g0 := hcW _ _ c0
      have g1 := hcW _ _ c1
      have g2 := hcW _ _ c2
      have g3 := hcW _ _ c3
      have hsn := Mr.hid (play_snoc P0 ms i hlt)
      have hIi := (hInv.out i).2
      have hPI := (hInv.out i).1
      have hPO := hOn.out i
      have hPC := hCv.out i
      have hPp := hmo.out i
      have hbl : bo < wr.heap.size := Nat.lt_of_lt_of_le hbo T.bel.size
      generalize P0.play (ms.take i) = P at *
      generalize ms[i]?.getD noMv = m0 at *
      have T3 := T.box (mvO m0)
      have bx : (wr.alloc (mvO m0)).heap[wr.heap.size]? = some (mvO m0) := heap_alloc_new _ _
      have hil : (i : Int) < (ms.length : Int) := by omega
      have hbU : ∀ k, U' k → k ≠ wr.heap.size := fun k hk => Nat.ne_of_lt (T.ra.mch.2.ul k hk)
      unfold mvO at T3 bx
      replace hbU := Mr.hid hbU
      replace T3 := Mr.hid T3
      replace bx := Mr.hid bx
      replace T := Mr.hid T
      replace hPI := Mr.hid hPI
      replace hPO := Mr.hid hPO
      replace hPC := Mr.hid hPC
      clear hcc hcW c0 c1 c2 c3 hm
      go_upto_region 10 with fail
      clear T y0 y1 y2 y3 y4 y5 y6 x7 x8 l1 g0 g1 g2 g3
      generalize wr.alloc (.cells #[.int .i64 m0.th, .int .i64 m0.op, .int .i64 m0.arg, .int .i64 m0.data] 57 (0, 0)) = W3 at *
      generalize wr.heap.size = bm at *
      obtain ⟨⟨y0, y1, y2, y3, y4, y5, y6⟩, x7, x8⟩ := T3.out.cells
      obtain ⟨e0, e1, e2, e3⟩ := mvO_cells (m := m0) bx.out
      have l1 := T3.out.size
      have l3 : bm < W3.heap.size := (Array.getElem?_eq_some_iff.1 bx.out).1
      have BS := fun (nq : Nat) => busy_any (T3.out.ra.below (Bx.draws _ W3 nq)) m0.th
      obtain ⟨bz, hz⟩ : ∃ bz, busyI P m0.th = bz := ⟨_, rfl⟩
      simp only [hz] at BS
      replace hz := Mr.hid hz
      replace BS := Mr.hid BS
      go_wp2
      go_quiet (first | (go_at_call 16; exact Calls.quiet_of_same (BS.out _)))
      have T4 := T3.out.below (Bx.draws _ W3 nq)
      have bx4 : (W3.drewN nq).heap[bm]? = some (mvO m0) := bx.out
      clear T3 bx y0 y1 y2 y3 y4 y5 y6 x7 x8 e0 e1 e2 e3 l1 l3 BS
      replace T4 := Mr.hid T4
      replace bx4 := Mr.hid bx4
      generalize W3.drewN nq = W4 at *
      obtain ⟨⟨y0, y1, y2, y3, y4, y5, y6⟩, x7, x8⟩ := T4.out.cells
      obtain ⟨e0, e1, e2, e3⟩ := mvO_cells bx4.out
      have l1 := T4.out.size
      have l3 : bm < W4.heap.size := (Array.getElem?_eq_some_iff.1 bx4.out).1
      have MV := fun (W' : World) (hB : Below W4.heap.size W4 W') => move_arena (T4.out.ra.below hB) (by rw [hIi]; exact hn0.out) m0.th m0.op m0.arg m0.data
      have fin := fun (W' w5 : World) (hB : Below W4.heap.size W4 W') (hO : OutA W' U' K f (P.move m0.th m0.op m0.arg m0.data).1 w5) => (show (∃ U'' h'', Tb w w5 c tb U'' K f h'' (P.move m0.th m0.op m0.arg m0.data).1) ∧ w5.heap[bm]? = some (mvO m0) from by
        refine ⟨(T4.out.below hB).out hO, ?_⟩
        obtain ⟨U'', h'', _, _, _, hf⟩ := hO
        have hl : bm < W'.heap.size := Nat.lt_of_lt_of_le l3 hB.size
        exact (hf.block bm hl (fun hk => hbU.out bm hk rfl)).trans ((hB.block bm l3).trans bx4.out))
      have qI := hPI.out.move m0.th m0.op m0.arg m0.data
      have qO := hPO.out.move hPI.out m0.th m0.op m0.arg m0.data
      have qC := hPC.out.move hPI.out m0.th m0.op m0.arg m0.data
      have hon : ∀ (j : Nat), m0.th = j → busy P j = true → busy (P.move m0.th m0.op m0.arg m0.data).1 j = false → ∀ x, callAt (P.move m0.th m0.op m0.arg m0.data).1 j = some x → x.op = 10 → x.ak = 2 ∨ (x.ak = 4 ∧ (∀ s, (P.move m0.th m0.op m0.arg m0.data).1.A.has s → ((P.move m0.th m0.op m0.arg m0.data).1.A.st s).1 ≠ 0) ∧ (P.move m0.th m0.op m0.arg m0.data).1.A.cache j = []) := fun j hj hb hb' x hx hop => by
        rw [hj] at hb' hx ⊢
        exact honest_move hPI.out hPO.out hb m0.op m0.arg m0.data hb' hx hop
      generalize P.move m0.th m0.op m0.arg m0.data = PM at *
      replace MV := Mr.hid MV
      replace fin := Mr.hid fin
      replace qI := Mr.hid qI
      replace qO := Mr.hid qO
      replace qC := Mr.hid qC
      replace hon := Mr.hid hon
      clear hPI hPO hPC
      go_wp2
      go_region_held3 (fun w' => w'.cell? ⟨tb, 8, none⟩ = some (.pointer (some ⟨f.q.b, 0, none⟩)) ∧ w'.cell? ⟨bm, 0, none⟩ = some (.int .i64 m0.th) ∧ w'.cell? ⟨bm, 1, none⟩ = some (.int .i64 m0.op) ∧ w'.cell? ⟨bm, 2, none⟩ = some (.int .i64 m0.arg) ∧ w'.cell? ⟨bm, 3, none⟩ = some (.int .i64 m0.data)) (simp [*])
        (first | (go_at_call 15; refine (MV.out _ (Below.refl _ _).drew).mono ?_; clear MV; rintro e w5 ⟨rfl, hO⟩; obtain ⟨⟨U'', h'', T5⟩, bx5⟩ := fin.out _ w5 (Below.refl _ _).drew hO; clear fin hO; obtain ⟨_, v7, v8⟩ := T5.cells; obtain ⟨v0, v1, v2, v3⟩ := mvO_cells bx5; replace T5 := Mr.hid T5; replace bx5 := Mr.hid bx5))
      clear y0 y1 y2 y3 y4 y5 y6 x7 x8 e0 e1 e2 e3 l1 l3 T4 bx4
      have l1 := T5.out.size
      have l3 : bm < w5.heap.size := (Array.getElem?_eq_some_iff.1 bx5.out).1
      have CL := fun (W' : World) (hB : Below w5.heap.size w5 W') => call_any (T5.out.ra.below hB) qC.out m0.th
      unfold Cl.val at CL
      obtain ⟨xo, hxo⟩ : ∃ xo, callI PM.1 m0.th = xo := ⟨_, rfl⟩
      rw [hxo] at CL
      generalize hxx : xo.getD noCl = x at *
      generalize hok : xo.isSome = okb at *
      replace hxo := Mr.hid hxo
      replace hxx := Mr.hid hxx
      replace hok := Mr.hid hok
      have n1 : tb ≠ w5.heap.size := by omega
      have n2 : bm ≠ w5.heap.size := by omega
      have n1' := n1.symm
      have n2' := n2.symm
      have hBe : Below w5.heap.size w5 w5.drew := (Below.refl _ _).drew
      have hBd : Below w5.heap.size w5 (w5.alloc (.cells #[.int .i64 0, .int .i64 0, .int .i64 0, .int .i64 0, .int .i64 0, .int .i64 0, .int .i64 0, .int .i64 0, .int .i64 0] 42)).drew := ((Below.refl _ _).alloc (Nat.le_refl _) _).drew
      have hBx : ∀ w0 w6 : World, Below w0.heap.size w0 w6 → w0.heap[w5.heap.size]? = some (.cells #[.int .i64 0, .int .i64 0, .int .i64 0, .int .i64 0, .int .i64 0, .int .i64 0, .int .i64 0, .int .i64 0, .int .i64 0] 42 (0, 0)) → (w6.cell? ⟨w5.heap.size, 0, none⟩ = some (.int .i64 0) ∧ w6.cell? ⟨w5.heap.size, 1, none⟩ = some (.int .i64 0) ∧ w6.cell? ⟨w5.heap.size, 2, none⟩ = some (.int .i64 0) ∧ w6.cell? ⟨w5.heap.size, 3, none⟩ = some (.int .i64 0) ∧ w6.cell? ⟨w5.heap.size, 4, none⟩ = some (.int .i64 0) ∧ w6.cell? ⟨w5.heap.size, 5, none⟩ = some (.int .i64 0) ∧ w6.cell? ⟨w5.heap.size, 6, none⟩ = some (.int .i64 0) ∧ w6.cell? ⟨w5.heap.size, 7, none⟩ = some (.int .i64 0) ∧ w6.cell? ⟨w5.heap.size, 8, none⟩ = some (.int .i64 0)) ∧ (∀ j, w6.frozen? ⟨w5.heap.size, j, none⟩ = false) ∧ w5.heap.size < w6.heap.size ∧ w6.heap[w5.heap.size]? = some (.cells #[.int .i64 0, .int .i64 0, .int .i64 0, .int .i64 0, .int .i64 0, .int .i64 0, .int .i64 0, .int .i64 0, .int .i64 0] 42 (0, 0)) := fun w0 w6 hB h0 => by
        have hb : w6.heap[w5.heap.size]? = some (.cells #[.int .i64 0, .int .i64 0, .int .i64 0, .int .i64 0, .int .i64 0, .int .i64 0, .int .i64 0, .int .i64 0, .int .i64 0] 42 (0, 0)) := (hB.block _ (Array.getElem?_eq_some_iff.1 h0).1).trans h0
        refine ⟨⟨?_, ?_, ?_, ?_, ?_, ?_, ?_, ?_, ?_⟩, fun j => ?_, (Array.getElem?_eq_some_iff.1 hb).1, hb⟩ <;> simp [World.cell?, World.frozen?, hb]
      have hKx := fun (w0 w6 : World) (h0 : Below w5.heap.size w5 w0) (hB : Below w0.heap.size w0 w6) => (⟨(T5.out.below (h0.trans (hB.mono h0.size))).cells.2.2, mvO_cells (((h0.trans (hB.mono h0.size)).block bm l3).trans bx5.out)⟩ : w6.cell? ⟨tb, 8, none⟩ = some (.pointer (some ⟨f.q.b, 0, none⟩)) ∧ w6.cell? ⟨bm, 0, none⟩ = some (.int .i64 m0.th) ∧ w6.cell? ⟨bm, 1, none⟩ = some (.int .i64 m0.op) ∧ w6.cell? ⟨bm, 2, none⟩ = some (.int .i64 m0.arg) ∧ w6.cell? ⟨bm, 3, none⟩ = some (.int .i64 m0.data))
      replace hBe := Mr.hid hBe
      replace hBd := Mr.hid hBd
      replace hBx := Mr.hid hBx
      replace hKx := Mr.hid hKx
      replace CL := Mr.hid CL
      go_wp2
      go_cut [9, 10] (fun s9 s10 wx => ∃ bq, s9 = .pointer (some ⟨bq, 0, none⟩) ∧ s10 = .bool okb ∧ Tb w wx c tb U'' K f h'' PM.1 ∧ wx.heap[bm]? = some (mvO m0) ∧ wx.heap[bq]? = some (clO x))
      case first =>
        go_wp2
        go_region_held3 (fun w' => w'.cell? ⟨tb, 8, none⟩ = some (.pointer (some ⟨f.q.b, 0, none⟩)) ∧ w'.cell? ⟨bm, 0, none⟩ = some (.int .i64 m0.th)) (go_keep)
          (first
            | (go_at_call 17; refine (CL.out _ (by first | exact hBe.out | exact hBd.out)).mono ?_; clear CL; rintro e w6 ⟨rfl, hB6⟩; obtain ⟨k0, k1, k2, k3, k4⟩ := hKx.out _ w6 (by first | exact hBe.out | exact hBd.out) hB6; have hbx := hBx.out _ w6 hB6; simp only [drew_heap2, alloc_at2, true_implies, not_there2, false_implies] at hbx; replace hB6 := Mr.hid hB6))
        all_goals go_wp2
        all_goals go_meet
        case rel =>
          have hB7 : Below w5.heap.size w5 w6 := hBe.out.trans hB6.out
          refine ⟨_, rfl, rfl, T5.out.below (hB7.alloc hB7.size _), ?_, heap_alloc_new _ _⟩
          exact ((hB7.alloc hB7.size _).block bm l3).trans bx5.out
        case rel =>
          have hB7 : Below w5.heap.size w5 w6 := hBd.out.trans (hB6.out.mono (by simp))
          have hB9 := below9 hB7 (Nat.le_refl _) (.int .i64 x.th) (.int .i64 x.op) (.int .i64 x.arg) (.int .i64 x.data) (.int .i64 x.beg) (.int .i64 x.fin) (.int .i64 x.pt) (.int .i64 x.ak) (.int .i64 x.av)
          exact ⟨_, rfl, rfl, T5.out.below hB9, (hB9.block bm l3).trans bx5.out, box9 hbx.2.2.2 _ _ _ _ _ _ _ _ _⟩
      case rest =>
        obtain ⟨bq, rfl, rfl, T6, bx6, bq6⟩ := hcut
        clear T5 bx5 CL hBe hBd hBx hKx n1 n2 n1' n2' l1 l3 v7 v8 v0 v1 v2 v3
        obtain ⟨⟨y0, y1, y2, y3, y4, y5, y6⟩, x7, x8⟩ := T6.cells
        obtain ⟨e0, e1, e2, e3⟩ := mvO_cells bx6
        obtain ⟨f0, f1, f2, f3, f4, f5, f6, f7, f8⟩ := clO_cells bq6
        have l1 := T6.size
        have l3 := (Array.getElem?_eq_some_iff.1 bx6).1
        have l4 := (Array.getElem?_eq_some_iff.1 bq6).1
        have BS := fun (nq : Nat) => busy_any (T6.ra.below (Bx.draws _ _ nq)) m0.th
        obtain ⟨bz', hz'⟩ : ∃ bz', busyI PM.1 m0.th = bz' := ⟨_, rfl⟩
        simp only [hz'] at BS
        replace hz' := Mr.hid hz'
        cases bz with
        | false =>
          replace T6 := Mr.hid T6
          clear BS
          go_wp2
          go_quiet (fail)
          go_wp2
          go_roundg (gk - 1)
          case measure => omega
          case rel => exact ⟨i + 1, U'', h'', by simp, by omega, by rw [hsn.out]; exact T6.out.below (Bx.draws _ _ _)⟩
        | true =>
          cases bz' with
          | true =>
            replace T6 := Mr.hid T6
            replace BS := Mr.hid BS
            go_wp2
            go_quiet (first | (go_at_call 16; exact Calls.quiet_of_same (BS.out _)))
            go_wp2
            go_roundg (gk - 1)
            case measure => omega
            case rel => exact ⟨i + 1, U'', h'', by simp, by omega, by rw [hsn.out]; exact T6.out.below (Bx.draws _ _ _)⟩
          | false =>
            cases okb with
            | false =>
              replace T6 := Mr.hid T6
              replace BS := Mr.hid BS
              go_wp2
              go_quiet (first | (go_at_call 16; exact Calls.quiet_of_same (BS.out _)))
              go_wp2
              go_roundg (gk - 1)
              case measure => omega
              case rel => exact ⟨i + 1, U'', h'', by simp, by omega, by rw [hsn.out]; exact T6.out.below (Bx.draws _ _ _)⟩
            | true =>
              obtain ⟨j, hj⟩ : ∃ j : Nat, m0.th = j := ⟨m0.th.toNat, by
                have : 0 ≤ m0.th := by
                  have hz := hz.out
                  simp [busyI] at hz
                  exact hz.1
                omega⟩
              have hb1 : busy P j = true := by
                have hz := hz.out
                rw [hj] at hz
                simpa [busyI] using hz
              have hb2 : busy PM.1 j = false := by
                have hz' := hz'.out
                rw [hj] at hz'
                simpa [busyI] using hz'
              have hcx : callAt PM.1 j = some x := by
                have h1 := hxo.out
                rw [hj] at h1
                have h2 : callAt PM.1 j = xo := by simpa [callI] using h1
                rw [h2]
                have h3 := hok.out
                have h4 := hxx.out
                cases xo with
                | none => cases h3
                | some y => simp at h4; rw [h4]
              by_cases h10 : x.op = 10
              case neg =>
                have b1 : (x.op == 10) = false := by simpa using h10
                have b1' : (x.op != 10) = true := by simpa using h10
                clear hj hb1 hb2 hcx h10
                replace T6 := Mr.hid T6
                replace BS := Mr.hid BS
                go_wp2
                go_quiet (first | (go_at_call 16; exact Calls.quiet_of_same (BS.out _)))
                go_wp2
                go_roundg (gk - 1)
                case measure => omega
                case rel => exact ⟨i + 1, U'', h'', by simp, by omega, by rw [hsn.out]; exact T6.out.below (Bx.draws _ _ _)⟩
              have b1 : (x.op == 10) = true := by simpa using h10
              have b1' : (x.op != 10) = false := by simp [h10]
              have hcase := hon.out j hj hb1 hb2 x hcx h10
              have hjp : j < PM.1.pts.length := by
                unfold callAt at hcx
                cases hp : PM.1.pts[j]? with
                | none => rw [hp] at hcx; cases hcx
                | some t => exact (List.getElem?_eq_some_iff.1 hp).1
              rcases hcase with h2 | ⟨h4, hnf, hce⟩
              · have b2 : (x.ak == 4) = false := by simp [h2]
                have b2' : (x.ak != 4) = true := by simp [h2]
                have b3 : (x.ak == 2) = true := by simp [h2]
                have b3' : (x.ak != 2) = false := by simp [h2]
                replace T6 := Mr.hid T6
                replace BS := Mr.hid BS
                clear h2 h10 hj hb1 hb2 hcx hz hz'
                go_wp2
                go_quiet (first | (go_at_call 16; exact Calls.quiet_of_same (BS.out _)))
                go_wp2
                go_quiet (fail)
                go_wp2
                go_roundg (gk - 1)
                case measure => omega
                case rel => exact ⟨i + 1, U'', h'', by simp, by omega, by rw [hsn.out]; exact T6.out.below (Bx.draws _ _ _)⟩
              · have hnt := T6.ra.nt
                have hkc := qI.out.kc
                have CN := fun (W' : World) (hB : Below wc.heap.size wc W') => count_any (T6.ra.below hB).ar (T6.ra.below hB).tl qI.out.ns 0
                have CH := fun (W' : World) (hB : Below wc.heap.size wc W') => cached_in (T6.ra.below hB).ar j (by omega) (by rw [hce]; simp)
                rw [cnt_none hnf] at CN
                rw [hce] at CH
                have b2 : (x.ak == 4) = true := by simp [h4]
                have b2' : (x.ak != 4) = false := by simp [h4]
                rw [← hj] at CH
                replace T6 := Mr.hid T6
                replace BS := Mr.hid BS
                replace CN := Mr.hid CN
                replace CH := Mr.hid CH
                clear h4 h10 hj hb1 hb2 hcx hz hz' hnf hce
                go_wp2
                go_quiet (first | (go_at_call 16; exact Calls.quiet_of_same (BS.out _)))
                go_wp2
                obtain ⟨W7, hW7⟩ : ∃ W7, wc.drewN nq = W7 := ⟨_, rfl⟩
                have hB7 : Below wc.heap.size wc W7 := by rw [← hW7]; exact Bx.draws _ _ _
                have T7 := T6.out.below hB7
                have bx7 : W7.heap[bm]? = some (mvO m0) := by rw [← hW7]; exact bx6
                have bq7 : W7.heap[bq]? = some (clO x) := by rw [← hW7]; exact bq6
                have KC := fun (W' : World) (hB : Below W7.heap.size W7 W') => (⟨(T7.below hB).cells.2, mvO_cells ((hB.block bm (Array.getElem?_eq_some_iff.1 bx7).1).trans bx7), clO_cells ((hB.block bq (Array.getElem?_eq_some_iff.1 bq7).1).trans bq7)⟩ : _ ∧ _ ∧ _)
                have CN7 := fun (W' : World) (hB : Below W7.heap.size W7 W') => CN.out W' (hB7.trans (hB.mono hB7.size))
                have CH7 := fun (W' : World) (hB : Below W7.heap.size W7 W') => CH.out W' (hB7.trans (hB.mono hB7.size))
                have fin := fun (W' : World) (hB : Below W7.heap.size W7 W') => T7.below hB
                clear CN CH y0 y1 y2 y3 y4 y5 y6 x7 x8 e0 e1 e2 e3 f0 f1 f2 f3 f4 f5 f6 f7 f8 l1 l3 l4 bx6 bq6
                obtain ⟨⟨x7, x8⟩, ⟨e0, e1, e2, e3⟩, f0, f1, f2, f3, f4, f5, f6, f7, f8⟩ := KC W7 (Below.refl _ _)
                rw [hW7]
                clear hB7 hW7 T7 bx7 bq7
                replace KC := Mr.hid KC
                replace CN7 := Mr.hid CN7
                replace CH7 := Mr.hid CH7
                replace fin := Mr.hid fin
                go_region_held3 (fun w' => w'.cell? ⟨tb, 7, none⟩ = some (.pointer (some ⟨f.ba, 0, none⟩)) ∧ w'.cell? ⟨bm, 0, none⟩ = some (.int .i64 m0.th) ∧ w'.cell? ⟨bq, 7, none⟩ = some (.int .i64 x.ak)) (simp [*])
                  (first | (go_at_call 21; refine (CN7.out _ (Below.refl _ _).drew).mono ?_; clear CN7; rintro e w8 ⟨rfl, hB8⟩; replace hB8 := ((Below.refl W7.heap.size W7).drew).trans hB8; obtain ⟨⟨p7, p8⟩, ⟨p0, p1, p2, p3⟩, s0, s1, s2, s3, s4, s5, s6, s7, s8⟩ := KC.out w8 hB8; replace hB8 := Mr.hid hB8) | (go_at_call 18; refine (CH7.out _ hB8.out).mono ?_; clear CH7; rintro e w9 ⟨v', rfl, hv, hB9⟩; obtain ⟨pv, qv, rfl, _⟩ := hv.form; clear hv; replace hB9 := hB8.out.trans (hB9.mono hB8.out.size); obtain ⟨⟨q7, q8⟩, ⟨q0, q1, q2, q3⟩, t0, t1, t2, t3, t4, t5, t6, t7, t8⟩ := KC.out w9 hB9; have T9 := fin.out w9 hB9; clear fin hB9; replace T9 := Mr.hid T9))
                go_wp2
                go_roundg (gk - 1)
                case measure => omega
                case rel => exact ⟨i + 1, U'', h'', by simp, by omega, by rw [hsn.out]; exact T9.out.below (Below.refl _ _)⟩
    · obtain rfl : i = ms.length := by omega
      have hI1 := (hInv.out ms.length).1
      rw [List.take_length] at T hI1
      have hH1 := hHn.out.sw
      clear hInv hOn hHn hCv hmo hm
      generalize P0.play ms = Q at *
      have e1 := hI1.bd
      have e2 := hI1.cls
      have e3 := hI1.lg
      have e4 := hI1.shs
      have RN := runM_any T.ra.mch (by show Q.cls.length ≤ 100000; omega) (by show Q.lg.length ≤ 100000; omega) (by show Q.shs.length ≤ 100000; omega)
      have k1 : (h'.ss Q).cls = Q.cls := rfl
      have k2 : (h'.ss Q).lg = Q.lg := rfl
      have k3 : (h'.ss Q).shs = Q.shs := rfl
      have k4 : (h'.ss Q).ws = Q.ws := rfl
      rw [k1, k2, k3, k4] at RN
      clear k1 k2 k3 k4 hI1
      have hlc : Q.cls.length ≤ 65536 := by omega
      have hll : Q.lg.length ≤ 65536 := by omega
      clear e1 e2 e3 e4
      replace T := Mr.hid T
      replace RN := Mr.hid RN
      replace hH1 := Mr.hid hH1
      go_wp2_with (go_at_call 22; refine RN.out.mono ?_; clear RN; rintro e w6 ⟨v1, v2, v3, v4, rfl, hv1, hv2, hv3, hv4, hB6⟩; have K2 := ka_open T.out.s0 T.out.bel hB6 hv1 hv2 hv3 hv4; obtain ⟨p1, q1, rfl, _⟩ := hv1.form; obtain ⟨p2, q2, rfl, _⟩ := hv2.form; obtain ⟨p3, q3, rfl, _⟩ := hv3.form; obtain ⟨p4, q4, rfl, _⟩ := hv4.form; clear hv1 hv2 hv3 hv4 hB6; replace K2 := Mr.hid K2; unfold runV)
      generalize w6.heap.size = B at *
      clear T y0 y1 y2 y3 y4 y5 y6 x7 x8 l1 l2
      go_loopg [12] Q.cls.length (fun k s wr => ∃ j : Nat, s = .int .i64 (j : Int) ∧ j + k = Q.cls.length ∧ Ka w wr c B (.slice p1 Q.cls.length q1) (.slice p2 Q.lg.length q2) (.slice p3 Q.shs.length q3) (.slice p4 Q.ws.length q4) Q)
      case atStart => exact ⟨0, rfl, by omega, K2.out⟩
      case round =>
        obtain ⟨j, rfl, hj, hK⟩ := hrel
        clear K2
        obtain ⟨⟨y0, y1, y2, y3, y4, y5, y6⟩, r0, r1, r2, r3⟩ := hK.cells
        by_cases hjl : j < Q.cls.length
        · obtain ⟨x, hx⟩ : ∃ x, Q.cls[j]? = some x := ⟨_, List.getElem?_eq_getElem hjl⟩
          obtain ⟨gq, qq, hgq, ⟨hq1, hq2⟩, hql, hqn, hqx⟩ := hK.h1.there (by omega)
          cases hgq
          obtain ⟨f0, f1, f2, f3, f4, f5, f6, f7, f8⟩ := cl_cells hK.h1 hx
          unfold maxLen at hqx
          have hz1 := hK.lt
          have hBl : B < wr.heap.size := hK.size
          have hwl : w.heap.size < wr.heap.size := by omega
          have KA := fun o => hK.box o
          by_cases h4 : x.ak = 4
          · have hsw := swf_of (hH1.out j x hx h4)
            have b1 : (x.ak == 4) = true := by simpa using h4
            have b1' : (x.ak != 4) = false := by simp [h4]
            have bx4 : (wr.alloc (clO x)).heap[wr.heap.size]? = some (clO x) := heap_alloc_new _ _
            have K4 := KA (clO x)
            unfold clO at K4 bx4
            clear KA h4
            replace hsw := Mr.hid hsw
            replace hx := Mr.hid hx
            replace K4 := Mr.hid K4
            replace bx4 := Mr.hid bx4
            replace hK := Mr.hid hK
            go_upto_region 23 with fail
            clear hK y0 y1 y2 y3 y4 y5 y6 r0 r1 r2 r3 f0 f1 f2 f3 f4 f5 f6 f7 f8 hql hBl hwl
            generalize wr.alloc (.cells #[.int .i64 x.th, .int .i64 x.op, .int .i64 x.arg, .int .i64 x.data, .int .i64 x.beg, .int .i64 x.fin, .int .i64 x.pt, .int .i64 x.ak, .int .i64 x.av] 42 (0, 0)) = W4 at *
            generalize wr.heap.size = bn at *
            obtain ⟨⟨y0, y1, y2, y3, y4, y5, y6⟩, r0, r1, r2, r3⟩ := K4.out.cells
            obtain ⟨e0, e1, e2, e3, e4, e5, e6, e7, e8⟩ := clO_cells (x := x) bx4.out
            go_wp2
            clear y0 y1 y2 y3 y4 y5 y6 r0 r1 r2 r3 e0 e1 e2 e3 e4 e5 e6 e7 e8 b1 b1'
            obtain ⟨gko, hgko⟩ : ∃ g, g = gk := ⟨_, rfl⟩
            go_loopg [14, 15] (Q.lg.length + 1) (fun k s14 s15 wz => ∃ q : Nat, s14 = .bool (swf Q.lg x.fin x.th q) ∧ s15 = .int .i64 (q : Int) ∧ q + k = Q.lg.length + 1 ∧ 1 ≤ k ∧ Ka w wz c B (.slice (some ⟨gq, 0, none⟩) Q.cls.length q1) (.slice p2 Q.lg.length q2) (.slice p3 Q.shs.length q3) (.slice p4 Q.ws.length q4) Q ∧ wz.heap[bn]? = some (clO x))
            case atStart => exact ⟨0, rfl, rfl, by omega, by omega, K4.out, bx4.out⟩
            case round =>
              obtain ⟨q, rfl, rfl, hqk, hq0, hK, hbx⟩ := hrel
              clear K4 bx4
              obtain ⟨⟨y0, y1, y2, y3, y4, y5, y6⟩, r0, r1, r2, r3⟩ := hK.cells
              obtain ⟨e0, e1, e2, e3, e4, e5, e6, e7, e8⟩ := clO_cells hbx
              have hBl : B < wr.heap.size := hK.size
              have hbl : bn < wr.heap.size := (Array.getElem?_eq_some_iff.1 hbx).1
              have KA := fun o => hK.box o
              have KX := fun o => box_kept hbx o
              by_cases hql : q < Q.lg.length
              · obtain ⟨a, ha⟩ : ∃ a, Q.lg[q]? = some a := ⟨_, List.getElem?_eq_getElem hql⟩
                obtain ⟨ga, qa, hga, ⟨ha1, ha2⟩, hal, han, hax⟩ := hK.h2.there (by omega)
                cases hga
                obtain ⟨f0, f1, f2, f3, f4, f5, f6⟩ := ac_cells hK.h2 ha
                unfold maxLen at hax
                have hgl : ga < wr.heap.size := by omega
                have hgv : swf Q.lg x.fin x.th (q + 1) = (swf Q.lg x.fin x.th q || (a.mv == x.fin && (a.th == x.th && (a.kd == 1 && (a.ad == 0 && decide (a.saw % 4294967296 = 0)))))) := by
                  show (swf Q.lg x.fin x.th q || _) = _
                  rw [ha]
                have hqi : (q : Int) < (Q.lg.length : Int) := by omega
                have htm := tmod0 a.saw
                generalize hgo : swf Q.lg x.fin x.th q = o at *
                replace KA := Mr.hid KA
                replace KX := Mr.hid KX
                replace hK := Mr.hid hK
                replace hbx := Mr.hid hbx
                replace ha := Mr.hid ha
                replace hgo := Mr.hid hgo
                replace hgv := Mr.hid hgv
                replace htm := Mr.hid htm
                by_cases ho : o = true
                · subst ho
                  go_wp2
                  go_roundg (gk - 1)
                  case measure => omega
                  case rel => exact ⟨q + 1, by rw [hgv.out]; rfl, by simp, by omega, by omega, KA.out _, KX.out _⟩
                have ho' : o = false := by simpa using ho
                subst ho'
                clear ho
                by_cases c1' : a.mv = x.fin
                case neg =>
                  have b1 : (a.mv == x.fin) = false := by simpa using c1'
                  go_wp2
                  go_roundg (gk - 1)
                  case measure => omega
                  case rel => exact ⟨q + 1, by rw [hgv.out]; simp [b1], by simp, by omega, by omega, KA.out _, KX.out _⟩
                have b1 : (a.mv == x.fin) = true := by simpa using c1'
                clear c1'
                by_cases c2' : a.th = x.th
                case neg =>
                  have b2 : (a.th == x.th) = false := by simpa using c2'
                  go_wp2
                  go_roundg (gk - 1)
                  case measure => omega
                  case rel => exact ⟨q + 1, by rw [hgv.out]; simp [b2], by simp, by omega, by omega, KA.out _, KX.out _⟩
                have b2 : (a.th == x.th) = true := by simpa using c2'
                clear c2'
                by_cases c3' : a.kd = 1
                case neg =>
                  have b3 : (a.kd == 1) = false := by simpa using c3'
                  go_wp2
                  go_roundg (gk - 1)
                  case measure => omega
                  case rel => exact ⟨q + 1, by rw [hgv.out]; simp [b3], by simp, by omega, by omega, KA.out _, KX.out _⟩
                have b3 : (a.kd == 1) = true := by simpa using c3'
                clear c3'
                by_cases c4' : a.ad = 0
                case neg =>
                  have b4 : (a.ad == 0) = false := by simpa using c4'
                  go_wp2
                  go_roundg (gk - 1)
                  case measure => omega
                  case rel => exact ⟨q + 1, by rw [hgv.out]; simp [b4], by simp, by omega, by omega, KA.out _, KX.out _⟩
                have b4 : (a.ad == 0) = true := by simpa using c4'
                clear c4'
                cases hd5 : decide (a.saw % 4294967296 = 0) with
                | true =>
                  have b5 : (a.saw.tmod 4294967296 == 0) = true := by rw [htm.out, hd5]
                  replace hd5 := Mr.hid hd5
                  go_wp2
                  go_roundg (gk - 1)
                  case measure => omega
                  case rel => exact ⟨q + 1, by rw [hgv.out]; simp only [b1, b2, b3, b4, hd5.out, Bool.true_and, Bool.false_or], by simp, by omega, by omega, KA.out _, KX.out _⟩
                | false =>
                  have b5 : (a.saw.tmod 4294967296 == 0) = false := by rw [htm.out, hd5]
                  replace hd5 := Mr.hid hd5
                  go_wp2
                  go_roundg (gk - 1)
                  case measure => omega
                  case rel => exact ⟨q + 1, by rw [hgv.out]; simp only [b1, b2, b3, b4, hd5.out, Bool.true_and, Bool.false_or], by simp, by omega, by omega, KA.out _, KX.out _⟩
              · have hgt : swf Q.lg x.fin x.th q = true := by
                  have := hsw.out
                  rwa [show Q.lg.length = q by omega] at this
                have hqe : q = Q.lg.length := by omega
                rw [hgt]
                subst hqe
                replace KA := Mr.hid KA
                replace hK := Mr.hid hK
                replace hbx := Mr.hid hbx
                go_wp2
                go_roundg (gko - 1)
                case measure => omega
                case rel => exact ⟨j + 1, by simp, by omega, hK.out⟩
          · have b1 : (x.ak == 4) = false := by simpa using h4
            have b1' : (x.ak != 4) = true := by simpa using h4
            replace KA := Mr.hid KA
            replace hK := Mr.hid hK
            go_wp2
            go_roundg (gk - 1)
            case measure => omega
            case rel => exact ⟨j + 1, by simp, by omega, KA.out _⟩
        · replace hK := Mr.hid hK
          go_wp2
          go_ret
          exact ⟨rfl, hK.out.bel⟩
theorem honest_any (c : Cf) (am : Option Addr) (nm cm : Nat) (ms : List Mv) (w : World) (hm : MvAt w am nm ms) :
    Calls Tryz.prog 8 #[c.val, .slice am nm cm] w fun e w' => e = .returned (.bool true) ∧ Below w.heap.size w w' := by
  cases hc : c.ok with
  | false => exact honest_not w c am nm cm (.inl hc)
  | true =>
    by_cases hn : nm ≤ 65536
    · exact honest_yes w c hc am nm cm ms hm hn
    · exact honest_not w c am nm cm (.inr (by omega))
end Go.Proofs.YtmmjdlbeiaoojaaGreat.Ar
