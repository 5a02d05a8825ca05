import Derived.Test.YtkimmfdicohoiaaGreatJ37
/-
  arena.Play by its contract: a script that may be.
-/
namespace Go.Proofs.YtkimmfdicohoiaaGreat.Ar
open Go.RowKit Go.Shelf Mr Me Ma Wc Wm Wr
def cfO (c : Cf) : Obj := .cells #[.int .i64 c.a0, .int .i64 c.a1, .int .i64 c.a2, .int .i64 c.a3, .int .i64 c.a4, .int .i64 c.a5, .int .i64 c.a6] 23 (0, 0)
def rnO : Obj := .cells #[.slice none 0 0, .slice none 0 0, .slice none 0 0, .slice none 0 0] 30 (0, 0)
/-- Play's two boxes. -/
structure Bp (w : World) (c : Cf) (W : World) : Prop where
  c : W.heap[w.heap.size]? = some (cfO c)
  r : W.heap[w.heap.size + 1]? = some rnO
  b : Below w.heap.size w W
theorem Bp.below {w W W' : World} {c : Cf} (h : Bp w c W) (hB : Below (w.heap.size + 1 + 1) W W') : Bp w c W' :=
  ⟨(hB.block _ (by omega)).trans h.c, (hB.block _ (by omega)).trans h.r, h.b.trans (hB.mono (by omega))⟩
theorem Bp.cfg {w W : World} {c : Cf} (h : Bp w c W) : W.cell? ⟨w.heap.size, 0, none⟩ = some (.int .i64 c.a0) ∧ W.cell? ⟨w.heap.size, 1, none⟩ = some (.int .i64 c.a1) ∧ W.cell? ⟨w.heap.size, 2, none⟩ = some (.int .i64 c.a2) ∧ W.cell? ⟨w.heap.size, 3, none⟩ = some (.int .i64 c.a3) ∧ W.cell? ⟨w.heap.size, 4, none⟩ = some (.int .i64 c.a4) ∧ W.cell? ⟨w.heap.size, 5, none⟩ = some (.int .i64 c.a5) ∧ W.cell? ⟨w.heap.size, 6, none⟩ = some (.int .i64 c.a6) := by
  have := h.c
  simp [cfO] at this
  simp [World.cell?, this]
theorem Bp.lt {w W : World} {c : Cf} (h : Bp w c W) : w.heap.size + 1 + 1 ≤ W.heap.size := by
  have := (Array.getElem?_eq_some_iff.1 h.r).1
  omega
theorem Bp.run {w W : World} {c : Cf} (h : Bp w c W) : (∀ j, j < 4 → W.cell? ⟨w.heap.size + 1, j, none⟩ = some (.slice none 0 0)) ∧ ∀ j, W.frozen? ⟨w.heap.size + 1, j, none⟩ = false := by
  have hr := h.r
  simp [rnO] at hr
  refine ⟨fun j hj => ?_, fun j => by simp [World.frozen?, hr]⟩
  have hj' : j = 0 ∨ j = 1 ∨ j = 2 ∨ j = 3 := by omega
  rcases hj' with rfl | rfl | rfl | rfl <;> simp [World.cell?, hr]
set_option maxRecDepth 100000 in
set_option maxHeartbeats 2000000 in
theorem play_ok (w : World) (c : Cf) (hc : c.ok = true) (n nt N m Kc : Nat) (h5 : c.a5 = n) (h0 : c.a0 = nt) (h4 : c.a4 = Kc) (hN : base c.a1 c.a2 c.a5 c.a6 14 = (N : Int)) (hm10 : base c.a1 c.a2 c.a5 c.a6 10 = (m : Int)) (hn0 : 0 < n) (am : Option Addr) (nm cm : Nat) (ms : List Mv) (hm : MvAt w am nm ms) (hnm : nm ≤ 65536) :
    Calls Tryz.prog 7 #[c.val, .slice am nm cm] w fun e w' => ∃ v1 v2 v3 v4, e = .returned (.tuple #[runV v1 v2 v3 v4, .int .i64 0]) ∧ Has w' (fun k => w.heap.size ≤ k) 90 9 v1 ((Pa.first c n nt N m Kc).play ms).cls.length (clc ((Pa.first c n nt N m Kc).play ms).cls) ∧ Has w' (fun k => w.heap.size ≤ k) 94 7 v2 ((Pa.first c n nt N m Kc).play ms).lg.length (lgc ((Pa.first c n nt N m Kc).play ms).lg) ∧ Has w' (fun k => w.heap.size ≤ k) 96 5 v3 ((Pa.first c n nt N m Kc).play ms).shs.length (shc ((Pa.first c n nt N m Kc).play ms).shs) ∧ Has w' (fun k => w.heap.size ≤ k) 92 1 v4 ((Pa.first c n nt N m Kc).play ms).ws.length (wrd ((Pa.first c n nt N m Kc).play ms).ws) ∧ Below w.heap.size w w' := by
  have hc' : cfgB c.a0 c.a1 c.a2 c.a3 c.a4 c.a5 c.a6 = true := hc
  have NW := fun w => new_ok c hc n nt h5 h0 w
  have FS := fun w => first_all c.a0 c.a1 c.a2 c.a3 c.a4 c.a5 c.a6 0 N w hc' hN (by omega) (by omega)
  have d3 : decide (65536 < (nm : Int)) = false := by simp; omega
  obtain ⟨hnml, _⟩ := id hm
  subst hnml
  obtain ⟨W0, hW0⟩ : ∃ W0, (w.alloc (cfO c)).alloc rnO = W0 := ⟨_, rfl⟩
  have b0 : Bp w c W0 := by
    rw [← hW0]
    refine ⟨(Below.heap_alloc _ _ _ (by simp)).trans (heap_alloc_new w _), ?_, ((Below.refl _ _).alloc (Nat.le_refl _) _).alloc (by simp) _⟩
    have := heap_alloc_new (w.alloc (cfO c)) rnO
    rw [World.size_alloc] at this
    exact this
  have s0 : W0.heap.size = w.heap.size + 1 + 1 := by rw [← hW0]; simp
  obtain ⟨y0, y1, y2, y3, y4, y5, y6⟩ := b0.cfg
  have cfgs := fun (W1 : World) (h1 : Bp w c W1) => h1.cfg
  rw [h0] at y0 cfgs
  have hcv : c.val = .agg #[.int .i64 (nt : Int), .int .i64 c.a1, .int .i64 c.a2, .int .i64 c.a3, .int .i64 c.a4, .int .i64 c.a5, .int .i64 c.a6] := by unfold Cf.val; rw [h0]
  rw [hcv] at NW ⊢
  rw [h0] at FS
  have hW0' : (w.alloc (.cells #[.int .i64 (nt : Int), .int .i64 c.a1, .int .i64 c.a2, .int .i64 c.a3, .int .i64 c.a4, .int .i64 c.a5, .int .i64 c.a6] 23)).alloc (.cells #[.slice none 0 0, .slice none 0 0, .slice none 0 0, .slice none 0 0] 30) = W0 := by rw [← hW0]; unfold cfO rnO; rw [h0]
  replace NW := Mr.hid NW
  replace FS := Mr.hid FS
  replace h5 := Mr.hid h5
  replace h0 := Mr.hid h0
  replace h4 := Mr.hid h4
  replace hN := Mr.hid hN
  replace hm10 := Mr.hid hm10
  replace b0 := Mr.hid b0
  replace cfgs := Mr.hid cfgs
  clear hc' hcv hW0
  replace hc := Mr.hid hc
  go_enter Tryz.func7, Tryz.ntmps7
  go_wp2_with (first | (go_at_call 11; refine (NW.out _).mono ?_; clear NW; rintro e w1 ⟨ba, gs, cs, vca, vsl, rfl, hA, hB1⟩; rw [s0] at hA hB1; have b1 := b0.out.below hB1; clear y0 y1 y2 y3 y4 y5 y6; obtain ⟨y0, y1, y2, y3, y4, y5, y6⟩ := cfgs.out w1 b1; replace hA := Mr.hid hA; replace hB1 := Mr.hid hB1; replace b1 := Mr.hid b1) | (go_at_call 38; refine (FS.out _).mono ?_; clear FS; rintro e w2 ⟨b, rfl, hb2, hrow, hB2⟩; have b2 := b1.out.below (hB2.mono b1.out.lt); clear y0 y1 y2 y3 y4 y5 y6; obtain ⟨y0, y1, y2, y3, y4, y5, y6⟩ := cfgs.out w2 b2; replace hrow := Mr.hid hrow; replace hB2 := Mr.hid hB2; replace b2 := Mr.hid b2; replace hb2 := Mr.hid hb2))
  have hTl : ∀ k, (w.heap.size + 1 + 1 ≤ k ∧ k < w1.heap.size) → k < w1.heap.size := fun k hk => hk.2
  have s12 := hB2.out.size
  have hsl : 0 < (Ao.new n nt).sl.length := by simp [Ao.new]; exact hn0
  have hB2d : Below w1.heap.size w1 w2.drew := hB2.out.drew
  have KT := kit_any w2.drew (hA.out.kept (fun k hk => hB2d.block k (hTl k hk)) (fun _ h => h)) (fun k hk => by have := hTl k hk; simp; omega) hsl
  have NMf := fun (w3 : World) (hK : Ktr w3 (fun k => w2.heap.size ≤ k ∧ k < w3.heap.size) (w2.heap.size + 1) w2.heap.size ba) (hB3 : Below w2.heap.size w2 w3) => newM_first c hc.out n nt N m Kc h5.out h0.out h4.out hN.out hm10.out hA.out hTl hrow.out hB2.out hK hB3
  simp only [show w2.drew.heap = w2.heap from rfl] at KT
  replace KT := Mr.hid KT
  replace NMf := Mr.hid NMf
  replace hTl := Mr.hid hTl
  go_region_held3 (fun w' => w'.cell? ⟨w.heap.size, 0, none⟩ = some (.int .i64 (nt : Int))) (simp [*])
    (first | (go_at_call 15; refine KT.out.mono ?_; clear KT; rintro e w3 ⟨rfl, hK, hB3⟩; have hB3' : Below w2.heap.size w2 w3 := ((Below.refl _ w2).drew).trans hB3; have b3 := b2.out.below (hB3'.mono b2.out.lt); obtain ⟨z0, _⟩ := cfgs.out w3 b3; have NM3 := NMf.out w3 hK hB3'; clear NMf; replace NM3 := Mr.hid NM3; replace hK := Mr.hid hK; replace hB3' := Mr.hid hB3'; replace b3 := Mr.hid b3; clear hB3) | (go_at_call 13; refine NM3.out.mono ?_; clear NM3; rintro e w4 ⟨q, U, h, rfl, hR, hUl, hB4⟩; have b4 := b3.out.below (hB4.mono b3.out.lt); obtain ⟨z0', _⟩ := cfgs.out w4 b4; replace hR := Mr.hid hR; replace hUl := Mr.hid hUl; replace hB4 := Mr.hid hB4; replace b4 := Mr.hid b4))
  go_wp2
  have hUl2 : ∀ k, U k → w.heap.size + 1 + 1 ≤ k := fun k hk => by
    have l2 := b2.out.lt
    have l3 := hB3'.out.size
    rcases hUl.out k hk with h | h
    · exact h.1
    · omega
  replace hUl2 := Mr.hid hUl2
  clear hUl y0 y1 y2 y3 y4 y5 y6 z0 z0' s12 hsl
  have hI0 : Inv (Pa.first c n nt N m Kc) (Pa.first c n nt N m Kc).n := hR.out.inv
  have hI := fun i => play_inv (Pa.first c n nt N m Kc) hI0 (ms.take i)
  have hsl0 : (Pa.first c n nt N m Kc).A.sl.length = n := by simp [Pa.first, Pa.new, Ao.new]
  replace hI := Mr.hid hI
  replace hI0 := Mr.hid hI0
  replace hsl0 := Mr.hid hsl0
  replace s0 := Mr.hid s0
  generalize hP0 : Pa.first c n nt N m Kc = P0 at *
  replace hP0 := Mr.hid hP0
  go_loopg [43] ms.length (fun k s wr => ∃ (i : Nat) (U' : Nat → Prop) (h' : Wh), s = .int .i64 (i : Int) ∧ i + k = ms.length ∧ RA wr U' (fun k => w2.heap.size ≤ k ∧ k < w3.heap.size) ⟨q, w2.heap.size + 1, w2.heap.size, ba, gs, cs, c, vca⟩ h' (P0.play (ms.take i)) ∧ (∀ k, U' k → w.heap.size + 1 + 1 ≤ k) ∧ Bp w c wr)
  case atStart => exact ⟨0, U, h, rfl, by omega, hR.out, hUl2.out, b4.out⟩
  case round =>
    obtain ⟨i, U', h', rfl, hi, hRi, hUi, hxi⟩ := hrel
    obtain ⟨hIi, hsi⟩ := hI.out i
    rw [hsl0.out] at hsi
    by_cases hlt : i < ms.length
    · rcases hm.2 with h0' | ⟨bo, oo, rfl, hbo, hcc⟩
      · rw [h0'] at hlt; simp at hlt
      obtain ⟨c0, c1, c2, c3⟩ := hcc i hlt
      have hcW := fun (j : Nat) (u : Value) (hu : w.cell? ⟨bo, j, none⟩ = some u) => (hxi.b.cell (p := ⟨bo, j, none⟩) hbo).trans hu
      have g0 := hcW _ _ c0
      have g1 := hcW _ _ c1
      have g2 := hcW _ _ c2
      have g3 := hcW _ _ c3
      have hsn := Mr.hid (play_snoc P0 ms i hlt)
      have hsz := hxi.b.size
      have MV := fun (o : Obj) => move_arena (hRi.below ((Below.refl wr.heap.size wr).alloc (Nat.le_refl _) o)) (by rw [hsi]; exact hn0) (ms[i]?.getD noMv).th (ms[i]?.getD noMv).op (ms[i]?.getD noMv).arg (ms[i]?.getD noMv).data
      have fin := fun (o : Obj) (w3' : World) (hO : OutA (wr.alloc o) U' (fun k => w2.heap.size ≤ k ∧ k < w3.heap.size) ⟨q, w2.heap.size + 1, w2.heap.size, ba, gs, cs, c, vca⟩ ((P0.play (ms.take i)).move (ms[i]?.getD noMv).th (ms[i]?.getD noMv).op (ms[i]?.getD noMv).arg (ms[i]?.getD noMv).data).1 w3') => (show ∃ (U'' : Nat → Prop) (h'' : Wh), RA w3' U'' (fun k => w2.heap.size ≤ k ∧ k < w3.heap.size) ⟨q, w2.heap.size + 1, w2.heap.size, ba, gs, cs, c, vca⟩ h'' (P0.play (ms.take (i + 1))) ∧ (∀ k, U'' k → w.heap.size + 1 + 1 ≤ k) ∧ Bp w c w3' from by
        obtain ⟨U'', h'', hR', hsub, hup, hf⟩ := hO
        have hl := hxi.lt
        have hBa := (Below.refl wr.heap.size wr).alloc (Nat.le_refl _) o
        have hxa := hxi.below (hBa.mono hl)
        refine ⟨U'', h'', by rw [hsn.out]; exact hR', fun k hk => ?_, hxa.below (hf.below hUi (by simp; omega))⟩
        rcases hup k hk with h | h
        · exact hUi k h
        · simp at h; omega)
      generalize (P0.play (ms.take i)).move (ms[i]?.getD noMv).th (ms[i]?.getD noMv).op (ms[i]?.getD noMv).arg (ms[i]?.getD noMv).data = PM at *
      generalize ms[i]?.getD noMv = m0 at *
      replace hRi := Mr.hid hRi
      replace hUi := Mr.hid hUi
      replace hxi := Mr.hid hxi
      replace MV := Mr.hid MV
      replace fin := Mr.hid fin
      clear hcc hcW c0 c1 c2 c3 hm hIi hsi
      go_wp2_with (go_at_call 17; refine (MV.out _).mono ?_; clear MV; rintro e w5 ⟨rfl, hO⟩; obtain ⟨U'', h'', r1, r2, r3⟩ := fin.out _ w5 hO; clear fin hO; replace r1 := Mr.hid r1; replace r2 := Mr.hid r2; replace r3 := Mr.hid r3)
      go_roundg (gk - 1)
      case measure => omega
      case rel => exact ⟨i + 1, U'', h'', by simp, by omega, r1.out, r2.out, r3.out⟩
    · obtain rfl : i = ms.length := by omega
      rw [List.take_length] at hRi hIi
      have e1 := hIi.bd
      have e2 := hIi.cls
      have e3 := hIi.lg
      have e4 := hIi.shs
      have RN := runM_any hRi.mch (by show (P0.play ms).cls.length ≤ 100000; omega) (by show (P0.play ms).lg.length ≤ 100000; omega) (by show (P0.play ms).shs.length ≤ 100000; omega)
      have hbl := hxi.lt
      have fin : ∀ (w6 : World) (hB : Below wr.heap.size wr w6), Bp w c w6 := fun w6 hB => hxi.below (hB.mono hbl)
      replace hRi := Mr.hid hRi
      replace hxi := Mr.hid hxi
      replace RN := Mr.hid RN
      replace fin := Mr.hid fin
      clear hm e1 e2 e3 e4 hIi hsi
      go_wp2_with (go_at_call 20; refine RN.out.mono ?_; clear RN; rintro e w6 ⟨v1, v2, v3, v4, rfl, hv1, hv2, hv3, hv4, hB6⟩; have hx6 := fin.out w6 hB6; clear fin; obtain ⟨kc, kz⟩ := hx6.run; have kc0 := kc 0 (by decide); have kc1 := kc 1 (by decide); have kc2 := kc 2 (by decide); have kc3 := kc 3 (by decide); clear kc; obtain ⟨p1, q1, rfl, _⟩ := hv1.form; obtain ⟨p2, q2, rfl, _⟩ := hv2.form; obtain ⟨p3, q3, rfl, _⟩ := hv3.form; obtain ⟨p4, q4, rfl, _⟩ := hv4.form; replace hx6 := Mr.hid hx6; unfold runV)
      rw [hP0.out]
      have k1 : (h'.ss (P0.play ms)).cls = (P0.play ms).cls := rfl
      have k2 : (h'.ss (P0.play ms)).lg = (P0.play ms).lg := rfl
      have k3 : (h'.ss (P0.play ms)).shs = (P0.play ms).shs := rfl
      have k4 : (h'.ss (P0.play ms)).ws = (P0.play ms).ws := rfl
      rw [k1] at hv1 ⊢
      rw [k2] at hv2 ⊢
      rw [k3] at hv3 ⊢
      rw [k4] at hv4 ⊢
      generalize hn1 : (P0.play ms).cls.length = n1 at *
      generalize hn2 : (P0.play ms).lg.length = n2 at *
      generalize hn3 : (P0.play ms).shs.length = n3 at *
      generalize hn4 : (P0.play ms).ws.length = n4 at *
      obtain ⟨W5, hW5⟩ : ∃ W5, (((w6.setCell ⟨w.heap.size + 1, 0, none⟩ (.slice p1 n1 q1)).setCell ⟨w.heap.size + 1, 1, none⟩ (.slice p2 n2 q2)).setCell ⟨w.heap.size + 1, 2, none⟩ (.slice p3 n3 q3)).setCell ⟨w.heap.size + 1, 3, none⟩ (.slice p4 n4 q4) = W5 := ⟨_, rfl⟩
      have hr6 : w6.heap[w.heap.size + 1]? = some (.cells #[.slice none 0 0, .slice none 0 0, .slice none 0 0, .slice none 0 0] 30 (0, 0)) := hx6.out.r
      have hb5 : W5.heap[w.heap.size + 1]? = some (.cells #[.slice p1 n1 q1, .slice p2 n2 q2, .slice p3 n3 q3, .slice p4 n4 q4] 30 (0, 0)) := by
        rw [← hW5, setBlk (setBlk (setBlk (setBlk hr6 0 _) 1 _) 2 _) 3 _]
        rfl
      have ho5 : ∀ k, k ≠ w.heap.size + 1 → W5.heap[k]? = w6.heap[k]? := fun k hk => by
        rw [← hW5, Below.heap_setCell _ _ _ k hk, Below.heap_setCell _ _ _ k hk, Below.heap_setCell _ _ _ k hk, Below.heap_setCell _ _ _ k hk]
      have hB5 : Below w.heap.size w W5 := by
        rw [← hW5]
        exact (((hx6.out.b.setCell (p := ⟨w.heap.size + 1, 0, none⟩) (Nat.le_succ _) _).setCell (p := ⟨w.heap.size + 1, 1, none⟩) (Nat.le_succ _) _).setCell (p := ⟨w.heap.size + 1, 2, none⟩) (Nat.le_succ _) _).setCell (p := ⟨w.heap.size + 1, 3, none⟩) (Nat.le_succ _) _
      have keep : ∀ {e size m : Nat} {v : Value} {xs : List Value}, Has w6 (fun k => wr.heap.size ≤ k) e size v m xs → Has W5 (fun k => w.heap.size ≤ k) e size v m xs := fun {e size m v xs} hh =>
        hh.kept (fun k hk => ho5 k (fun e' => by have := (hh.lt k hk).1; omega)) (fun k hk => by have := (hh.lt k hk).1; omega)
      have d0 : W5.cell? ⟨w.heap.size + 1, 0, none⟩ = some (.slice p1 n1 q1) := by simp [World.cell?, hb5]
      have d1 : W5.cell? ⟨w.heap.size + 1, 1, none⟩ = some (.slice p2 n2 q2) := by simp [World.cell?, hb5]
      have d2 : W5.cell? ⟨w.heap.size + 1, 2, none⟩ = some (.slice p3 n3 q3) := by simp [World.cell?, hb5]
      have d3' : W5.cell? ⟨w.heap.size + 1, 3, none⟩ = some (.slice p4 n4 q4) := by simp [World.cell?, hb5]
      rw [hW5]
      refine bodyPost_ret (v := .tuple #[runV (.slice p1 n1 q1) (.slice p2 n2 q2) (.slice p3 n3 q3) (.slice p4 n4 q4), .int .i64 0]) (by simp [results, Tryz.f7, go_sem, d0, d1, d2, d3', runV]) rfl ?_
      exact ⟨_, _, _, _, rfl, keep hv1, keep hv2, keep hv3, keep hv4, hB5⟩
end Go.Proofs.YtkimmfdicohoiaaGreat.Ar
