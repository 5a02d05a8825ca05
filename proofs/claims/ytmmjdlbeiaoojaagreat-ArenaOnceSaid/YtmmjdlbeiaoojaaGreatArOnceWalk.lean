import Derived.Test.YtmmjdlbeiaoojaaGreatArCfBox
import Derived.Test.YtmmjdlbeiaoojaaGreatArOnceP
import Derived.Deep.Cut
/-
  ArenaOnce: the walk.
-/
namespace Go.Proofs.YtmmjdlbeiaoojaaGreat.Ar
open Go.RowKit Go.Shelf Mr Me Ma Wc Wm Wr
set_option maxRecDepth 100000 in
set_option maxHeartbeats 2000000 in
/-- No configuration, or too many moves. -/
theorem once_not (w : World) (c : Cf) (am : Option Addr) (nm cm : Nat) (h : c.ok = false ∨ 65536 < nm) :
    Calls Tryz.prog 3 #[c.val, .slice am nm cm] w fun e w' => e = .returned (.bool true) ∧ Below w.heap.size w w' := by
  have CF := fun W => refConfig c.a0 c.a1 c.a2 c.a3 c.a4 c.a5 c.a6 W
  have AW := fun W => awake_any W
  have hB0 := (Below.refl w.heap.size w).alloc (Nat.le_refl _) (cfO c)
  have hsz : (w.alloc (cfO c)).heap.size = w.heap.size + 1 := by simp
  have hx : cfgB c.a0 c.a1 c.a2 c.a3 c.a4 c.a5 c.a6 = false ∨ decide (65536 < (nm : Int)) = true := by
    rcases h with h | h
    · exact .inl h
    · exact .inr (by simp; omega)
  obtain ⟨y0, y1, y2, y3, y4, y5, y6⟩ := cf_box2 w c
  unfold cfO at y0 y1 y2 y3 y4 y5 y6 hsz hB0
  unfold Cf.val
  clear h
  generalize hcb : cfgB c.a0 c.a1 c.a2 c.a3 c.a4 c.a5 c.a6 = cb at *
  generalize hdb : decide (65536 < (nm : Int)) = db at *
  replace hcb := Mr.hid hcb
  cases cb with
  | false =>
    clear hx
    go_enter Tryz.func3, Tryz.ntmps3
    go_wp2_with (first | (go_at_call 9; refine (CF _).mono ?_; clear CF; rintro e w1 ⟨rfl, hB1⟩; replace hB1 := hB0.trans (hB1.mono (by omega)); clear hB0) | (go_at_call 10; refine (AW _).mono ?_; clear AW; rintro e w2 ⟨rfl, hB2⟩; replace hB2 := hB1.trans (hB2.mono hB1.size); clear hB1))
    go_ret
    exact ⟨rfl, hB2⟩
  | true =>
    obtain rfl : db = true := by rcases hx with h | h; cases h; exact h
    clear hx
    go_enter Tryz.func3, Tryz.ntmps3
    go_wp2_with (first | (go_at_call 9; refine (CF _).mono ?_; clear CF; rintro e w1 ⟨rfl, hB1⟩; replace hB1 := hB0.trans (hB1.mono (by omega)); clear hB0) | (go_at_call 10; refine (AW _).mono ?_; clear AW; rintro e w2 ⟨rfl, hB2⟩; replace hB2 := hB1.trans (hB2.mono hB1.size); clear hB1))
    go_ret
    exact ⟨rfl, hB2⟩
set_option maxRecDepth 100000 in
set_option maxHeartbeats 4000000 in
theorem once_yes (w : World) (c : Cf) (hc : c.ok = true) (am : Option Addr) (nm cm : Nat) (ms : List Mv) (hm : MvAt w am nm ms) (hnm : nm ≤ 65536) :
    Calls Tryz.prog 3 #[c.val, .slice am nm cm] w fun e w' => e = .returned (.bool true) ∧ Below w.heap.size w w' := by
  have hc' : cfgB c.a0 c.a1 c.a2 c.a3 c.a4 c.a5 c.a6 = true := hc
  obtain ⟨N, m, hN, hm10, g1, g2, g3, g4⟩ := sizes (ok_of hc')
  have hin : (1 ≤ c.a0 ∧ c.a0 ≤ 16) ∧ 0 ≤ c.a4 ∧ 1 ≤ c.a5 := by
    simp [cfgB, inB] at hc'
    omega
  obtain ⟨nt, h0⟩ : ∃ nt : Nat, c.a0 = nt := ⟨c.a0.toNat, by omega⟩
  obtain ⟨Kc, h4⟩ : ∃ Kc : Nat, c.a4 = Kc := ⟨c.a4.toNat, by omega⟩
  obtain ⟨n, h5⟩ : ∃ n : Nat, c.a5 = n := ⟨c.a5.toNat, by omega⟩
  have hI0 : Inv (Pa.first c n nt N m Kc) 0 := inv_first c n nt N m Kc h5 (by omega) (by omega) hm10 g2 (by omega) g4
  have hQI := play_inv (Pa.first c n nt N m Kc) hI0 ms
  have hQO : On ((Pa.first c n nt N m Kc).play ms) ((Pa.first c n nt N m Kc).play ms).n := On.play ms (On.start _ _ _ _ _) hI0
  have hsl : (((Pa.first c n nt N m Kc).play ms).A.sl.length : Int) = c.a5 := by rw [hQI.2, h5]; simp [Pa.first, Pa.new, Ao.new]
  have PL := fun (W : World) (hB : Below w.heap.size w W) => play_ok W c hc n nt N m Kc h5 h0 h4 hN hm10 (by omega) am nm cm ms (hm.below hB) hnm
  have hlc : ((Pa.first c n nt N m Kc).play ms).cls.length ≤ 65536 := Nat.le_trans hQI.1.cls hQI.1.bd
  generalize (Pa.first c n nt N m Kc).play ms = Q at *
  have hok : ∀ (j : Nat) (x : Cl), Q.cls[j]? = some x → x.op = 10 → x.ak = 2 → 0 ≤ x.av ∧ x.av < c.a5 := fun j x hx e1 e2 => by
    have := (hQO.ok j x hx e1 e2).1
    exact ⟨this.1, by rw [← hsl]; exact this.2⟩
  have hpr := hQO.pair
  clear hQO hQI hI0 hN hm10 g1 g2 g3 g4 hin h4 h5 hm hsl
  have CF := fun W => refConfig c.a0 c.a1 c.a2 c.a3 c.a4 c.a5 c.a6 W
  rw [hc'] at CF
  have AW := fun W => awake_any W
  have hB0 := (Below.refl w.heap.size w).alloc (Nat.le_refl _) (cfO c)
  have hsz : (w.alloc (cfO c)).heap.size = w.heap.size + 1 := by simp
  have hb0 : (w.alloc (cfO c)).heap[w.heap.size]? = some (cfO c) := heap_alloc_new w _
  have d3 : decide (65536 < (nm : Int)) = false := by simp; omega
  obtain ⟨y0, y1, y2, y3, y4, y5, y6⟩ := cf_box2 w c
  have cfg2 : ∀ W1 : World, W1.heap[w.heap.size]? = some (cfO c) → W1.cell? ⟨w.heap.size, 0, none⟩ = some (.int .i64 c.a0) ∧ W1.cell? ⟨w.heap.size, 1, none⟩ = some (.int .i64 c.a1) ∧ W1.cell? ⟨w.heap.size, 2, none⟩ = some (.int .i64 c.a2) ∧ W1.cell? ⟨w.heap.size, 3, none⟩ = some (.int .i64 c.a3) ∧ W1.cell? ⟨w.heap.size, 4, none⟩ = some (.int .i64 c.a4) ∧ W1.cell? ⟨w.heap.size, 5, none⟩ = some (.int .i64 c.a5) ∧ W1.cell? ⟨w.heap.size, 6, none⟩ = some (.int .i64 c.a6) := fun W1 hb => by
    simp [cfO] at hb
    simp [World.cell?, hb]
  obtain ⟨W0, hW0⟩ : ∃ W0, w.alloc (cfO c) = W0 := ⟨_, rfl⟩
  rw [hW0] at y0 y1 y2 y3 y4 y5 y6 hsz hB0 hb0
  unfold cfO at hW0
  unfold Cf.val at PL ⊢
  clear hc' hc h0
  replace PL := Mr.hid PL
  replace hb0 := Mr.hid hb0
  replace cfg2 := Mr.hid cfg2
  replace hok := Mr.hid hok
  replace hpr := Mr.hid hpr
  replace hlc := Mr.hid hlc
  replace CF := Mr.hid CF
  replace AW := Mr.hid AW
  go_enter Tryz.func3, Tryz.ntmps3
  go_wp2_with (first | (go_at_call 12; refine (num_any _ _).mono ?_; rintro e wn ⟨rfl, rfl⟩) | (go_at_call 9; refine (CF.out _).mono ?_; clear CF; rintro e w1 ⟨rfl, hB1⟩; have hc1 : w1.heap[w.heap.size]? = some (cfO c) := (hB1.block _ (by omega)).trans hb0.out; have PL1 := PL.out w1 (hB0.trans (hB1.mono (by omega))); replace hB1 := hB0.trans (hB1.mono (by omega)); clear hB0 PL y0 y1 y2 y3 y4 y5 y6; obtain ⟨y0, y1, y2, y3, y4, y5, y6⟩ := cfg2.out w1 hc1; replace hc1 := Mr.hid hc1; replace PL1 := Mr.hid PL1; replace hB1 := Mr.hid hB1) | (go_at_call 11; refine PL1.out.mono ?_; clear PL1; rintro e w2 ⟨v1, v2, v3, v4, rfl, hv1, hv2, hv3, hv4, hB2⟩; have K2 := ka_open hc1.out hB1.out hB2 hv1 hv2 hv3 hv4; obtain ⟨p1, q1, rfl, _⟩ := hv1.form; obtain ⟨p2, q2, rfl, _⟩ := hv2.form; obtain ⟨p3, q3, rfl, _⟩ := hv3.form; obtain ⟨p4, q4, rfl, _⟩ := hv4.form; clear hv1 hv2 hv3 hv4 y0 y1 y2 y3 y4 y5 y6 hc1 hB1 hB2; replace K2 := Mr.hid K2; unfold runV) | (go_at_call 10; refine (AW.out _).mono ?_; clear AW; rintro e w3 ⟨rfl, hB3⟩; have K3 := K2.out.below hB3; clear K2 hB3; obtain ⟨⟨y0, y1, y2, y3, y4, y5, y6⟩, r0, r1, r2, r3⟩ := K3.cells; replace K3 := Mr.hid K3))
  generalize w2.heap.size = B at *
  clear y0 y1 y2 y3 y4 y5 y6 r0 r1 r2 r3 hW0 hsz hb0 cfg2 d3
  go_loopg [7] Q.cls.length (fun k s wr => ∃ j : Nat, s = .int .i64 (j : Int) ∧ j + k = Q.cls.length ∧ Ka w wr c B (.slice p1 Q.cls.length q1) (.slice p2 Q.lg.length q2) (.slice p3 Q.shs.length q3) (.slice p4 Q.ws.length q4) Q)
  case atStart => exact ⟨0, rfl, by omega, K3.out⟩
  case round =>
    obtain ⟨j, rfl, hj, hK⟩ := hrel
    clear K3
    obtain ⟨⟨y0, y1, y2, y3, y4, y5, y6⟩, r0, r1, r2, r3⟩ := hK.cells
    by_cases hjl : j < Q.cls.length
    · obtain ⟨x, hx⟩ : ∃ x, Q.cls[j]? = some x := ⟨_, List.getElem?_eq_getElem hjl⟩
      obtain ⟨gq, qq, hgq, ⟨hq1, hq2⟩, hql, hqn, hqx⟩ := hK.h1.there (by omega)
      cases hgq
      obtain ⟨f0, f1, f2, f3, f4, f5, f6, f7, f8⟩ := cl_cells hK.h1 hx
      unfold maxLen at hqx
      have hz1 := hK.lt
      have hBl : B < wr.heap.size := hK.size
      have hwl : w.heap.size < wr.heap.size := by omega
      have hlc' := hlc.out
      have KA := fun o => hK.box o
      replace KA := Mr.hid KA
      replace hK := Mr.hid hK
      by_cases h10 : x.op = 10
      · by_cases h2 : x.ak = 2
        · obtain ⟨a1, a2⟩ := hok.out j x hx h10 h2
          have b1 : decide (x.av < 0) = false := decide_eq_false (by omega)
          have b2 : decide (c.a5 ≤ x.av) = false := decide_eq_false (by omega)
          have hpx := fun k y => hpr.out j x k y hx
          have bx : (wr.alloc (clO x)).heap[wr.heap.size]? = some (clO x) := heap_alloc_new _ _
          have hbs : (wr.alloc (clO x)).heap.size = wr.heap.size + 1 := by simp
          have K3 := KA.out (clO x)
          clear KA hK
          replace hpx := Mr.hid hpx
          replace hx := Mr.hid hx
          have b3 : (x.op == 10) = true := by simpa using h10
          have b4 : (x.ak == 2) = true := by simpa using h2
          have b3' : (x.op != 10) = false := by simp [h10]
          have b4' : (x.ak != 2) = false := by simp [h2]
          replace h10 := Mr.hid h10
          replace h2 := Mr.hid h2
          unfold clO at K3 bx hbs
          replace K3 := Mr.hid K3
          replace bx := Mr.hid bx
          go_upto_region 10 with fail
          generalize wr.alloc (.cells #[.int .i64 x.th, .int .i64 x.op, .int .i64 x.arg, .int .i64 x.data, .int .i64 x.beg, .int .i64 x.fin, .int .i64 x.pt, .int .i64 x.ak, .int .i64 x.av] 42 (0, 0)) = W3 at *
          generalize wr.heap.size = bm at *
          clear y0 y1 y2 y3 y4 y5 y6 r0 r1 r2 r3 f0 f1 f2 f3 f4 f5 f6 f7 f8 hql hBl hwl
          obtain ⟨⟨y0, y1, y2, y3, y4, y5, y6⟩, r0, r1, r2, r3⟩ := K3.out.cells
          obtain ⟨e0, e1, e2, e3, e4, e5, e6, e7, e8⟩ := clO_cells (x := x) bx.out
          have hBl : B < W3.heap.size := K3.out.size
          have hbl : bm < W3.heap.size := (Array.getElem?_eq_some_iff.1 bx.out).1
          have hwl : w.heap.size < W3.heap.size := by omega
          go_wp2
          clear y0 y1 y2 y3 y4 y5 y6 r0 r1 r2 r3 e0 e1 e2 e3 e4 e5 e6 e7 e8 hBl hbl hwl hbs b1 b2 b3 b4 b3' b4' a1 a2
          obtain ⟨gko, hgko⟩ : ∃ g, g = gk := ⟨_, rfl⟩
          go_loopg [9] Q.cls.length (fun k s wy => ∃ mm : Nat, s = .int .i64 (mm : Int) ∧ mm + k = Q.cls.length ∧ Ka w wy c B (.slice (some ⟨gq, 0, none⟩) Q.cls.length q1) (.slice p2 Q.lg.length q2) (.slice p3 Q.shs.length q3) (.slice p4 Q.ws.length q4) Q ∧ wy.heap[bm]? = some (clO x))
          case atStart => exact ⟨0, rfl, by omega, K3.out, bx.out⟩
          case round =>
            obtain ⟨mm, rfl, hmm, hK, hbx⟩ := hrel
            clear K3 bx
            obtain ⟨⟨y0, y1, y2, y3, y4, y5, y6⟩, r0, r1, r2, r3⟩ := hK.cells
            obtain ⟨e0, e1, e2, e3, e4, e5, e6, e7, e8⟩ := clO_cells hbx
            have hBl : B < wr.heap.size := hK.size
            have hbl : bm < wr.heap.size := (Array.getElem?_eq_some_iff.1 hbx).1
            have hgl : gq < wr.heap.size := by omega
            have hwl : w.heap.size < wr.heap.size := by omega
            have KA := fun o => hK.box o
            have KX := fun o => box_kept hbx o
            by_cases hml : mm < Q.cls.length
            · obtain ⟨y, hy⟩ : ∃ y, Q.cls[mm]? = some y := ⟨_, List.getElem?_eq_getElem hml⟩
              obtain ⟨f0, f1, f2, f3, f4, f5, f6, f7, f8⟩ := cl_cells hK.h1 hy
              replace KA := Mr.hid KA
              replace KX := Mr.hid KX
              replace hK := Mr.hid hK
              replace hbx := Mr.hid hbx
              by_cases c1 : mm = j
              · as_aux_lemma =>
                  have b1 : ((mm : Int) == (j : Int)) = true := by simp [c1]
                  clear c1
                  go_wp2
                  go_roundg (gk - 1)
                  case measure => omega
                  case rel => exact ⟨mm + 1, by simp, by omega, KA.out _, KX.out _⟩
              have b5 : ((mm : Int) == (j : Int)) = false := by simp; omega
              by_cases c2 : y.op = 10
              case neg =>
                as_aux_lemma =>
                  have b1 : (y.op == 10) = false := by simpa using c2
                  have b1' : (y.op != 10) = true := by simpa using c2
                  go_wp2
                  go_roundg (gk - 1)
                  case measure => omega
                  case rel => exact ⟨mm + 1, by simp, by omega, KA.out _, KX.out _⟩
              have b6 : (y.op == 10) = true := by simpa using c2
              have b6' : (y.op != 10) = false := by simp [c2]
              by_cases c3 : y.ak = 2
              case neg =>
                as_aux_lemma =>
                  have b1 : (y.ak == 2) = false := by simpa using c3
                  have b1' : (y.ak != 2) = true := by simpa using c3
                  go_wp2
                  go_roundg (gk - 1)
                  case measure => omega
                  case rel => exact ⟨mm + 1, by simp, by omega, KA.out _, KX.out _⟩
              have b7 : (y.ak == 2) = true := by simpa using c3
              have b7' : (y.ak != 2) = false := by simp [c3]
              by_cases c4 : y.av = x.av
              case neg =>
                as_aux_lemma =>
                  have b1 : (y.av == x.av) = false := by simpa using c4
                  have b1' : (y.av != x.av) = true := by simpa using c4
                  go_wp2
                  go_roundg (gk - 1)
                  case measure => omega
                  case rel => exact ⟨mm + 1, by simp, by omega, KA.out _, KX.out _⟩
              have b8 : (y.av == x.av) = true := by simpa using c4
              have b8' : (y.av != x.av) = false := by simp [c4]
              by_cases c5 : y.fin < x.fin
              · as_aux_lemma =>
                  have b1 : decide (y.fin < x.fin) = true := decide_eq_true c5
                  go_wp2
                  go_roundg (gk - 1)
                  case measure => omega
                  case rel => exact ⟨mm + 1, by simp, by omega, KA.out _, KX.out _⟩
              have b9 : decide (y.fin < x.fin) = false := decide_eq_false c5
              have hgv := gvf_of (hpx.out mm y hy c1 h10.out h2.out c2 c3 c4 (by omega))
              have by4 : (wr.alloc (clO y)).heap[wr.heap.size]? = some (clO y) := heap_alloc_new _ _
              have K4 := KA.out (clO y)
              have bx4 := KX.out (clO y)
              unfold clO at K4 by4 bx4
              clear KA KX hK hbx c2 c3 c4 c5
              replace K4 := Mr.hid K4
              replace bx4 := Mr.hid bx4
              replace by4 := Mr.hid by4
              replace hgv := Mr.hid hgv
              replace hy := Mr.hid hy
              go_upto_region 18 with fail
              generalize wr.alloc (.cells #[.int .i64 y.th, .int .i64 y.op, .int .i64 y.arg, .int .i64 y.data, .int .i64 y.beg, .int .i64 y.fin, .int .i64 y.pt, .int .i64 y.ak, .int .i64 y.av] 42 (0, 0)) = W4 at *
              generalize wr.heap.size = bn at *
              clear e0 e1 e2 e3 e4 e5 e6 e7 e8 f0 f1 f2 f3 f4 f5 f6 f7 f8 y0 y1 y2 y3 y4 y5 y6 r0 r1 r2 r3 hBl hbl hgl hwl b5 b6 b7 b8 b9 b6' b7' b8'
              obtain ⟨⟨y0, y1, y2, y3, y4, y5, y6⟩, r0, r1, r2, r3⟩ := K4.out.cells
              have hBl : B < W4.heap.size := K4.out.size
              go_wp2
              obtain ⟨gkm, hgkm⟩ : ∃ g, g = gk := ⟨_, rfl⟩
              go_loopg [11, 12] (Q.cls.length - j) (fun k s11 s12 wz => ∃ q : Nat, s11 = .bool (gvf Q.cls j x y.fin q) ∧ s12 = .int .i64 ((j : Int) + 1 + (q : Int)) ∧ j + 1 + q + k = Q.cls.length + 1 ∧ 1 ≤ k ∧ Ka w wz c B (.slice (some ⟨gq, 0, none⟩) Q.cls.length q1) (.slice p2 Q.lg.length q2) (.slice p3 Q.shs.length q3) (.slice p4 Q.ws.length q4) Q ∧ wz.heap[bm]? = some (clO x) ∧ wz.heap[bn]? = some (clO y))
              case atStart => exact ⟨0, rfl, by simp, by omega, by omega, K4.out, bx4.out, by4.out⟩
              case round =>
                obtain ⟨q, rfl, rfl, hqk, hq0, hK, hbx, hby⟩ := hrel
                clear K4 bx4 by4
                obtain ⟨⟨y0, y1, y2, y3, y4, y5, y6⟩, r0, r1, r2, r3⟩ := hK.cells
                obtain ⟨e0, e1, e2, e3, e4, e5, e6, e7, e8⟩ := clO_cells hbx
                obtain ⟨d0, d1, d2, d3, d4, d5, d6, d7, d8⟩ := clO_cells hby
                have hBl : B < wr.heap.size := hK.size
                have hbl : bm < wr.heap.size := (Array.getElem?_eq_some_iff.1 hbx).1
                have hyl : bn < wr.heap.size := (Array.getElem?_eq_some_iff.1 hby).1
                have hgl : gq < wr.heap.size := by omega
                have hwl : w.heap.size < wr.heap.size := by omega
                have KA := fun o => hK.box o
                have KX := fun o => box_kept hbx o
                have KY := fun o => box_kept hby o
                by_cases hql' : j + 1 + q < Q.cls.length
                · obtain ⟨z, hz⟩ : ∃ z, Q.cls[j + 1 + q]? = some z := ⟨_, List.getElem?_eq_getElem hql'⟩
                  obtain ⟨f0, f1, f2, f3, f4, f5, f6, f7, f8⟩ := cl_cells hK.h1 hz
                  have hgv : gvf Q.cls j x y.fin (q + 1) = (gvf Q.cls j x y.fin q || (z.op == 11 && (z.arg == x.av && (z.th == x.th && (decide (x.fin < z.beg) && decide (z.beg < y.fin)))))) := by
                    show (gvf Q.cls j x y.fin q || _) = _
                    rw [hz]
                  have hadd : (j : Int) + 1 + (q : Int) = ((j + 1 + q : Nat) : Int) := by omega
                  have hqi : ((j + 1 + q : Nat) : Int) < (Q.cls.length : Int) := by omega
                  rw [hadd]
                  generalize hgo : gvf Q.cls j x y.fin q = o at *
                  generalize hJ : j + 1 + q = J at *
                  replace KA := Mr.hid KA
                  replace KX := Mr.hid KX
                  replace KY := Mr.hid KY
                  replace hK := Mr.hid hK
                  replace hbx := Mr.hid hbx
                  replace hby := Mr.hid hby
                  replace hz := Mr.hid hz
                  replace hgo := Mr.hid hgo
                  replace hgv := Mr.hid hgv
                  replace hJ := Mr.hid hJ
                  by_cases ho : o = true
                  · as_aux_lemma =>
                      subst ho
                      go_wp2
                      go_roundg (gk - 1)
                      case measure => omega
                      case rel => exact ⟨q + 1, by rw [hgv.out]; rfl, by simp; have := hJ.out; omega, by omega, by omega, KA.out _, KX.out _, KY.out _⟩
                  have ho' : o = false := by simpa using ho
                  subst ho'
                  clear ho
                  by_cases c1' : z.op = 11
                  case neg =>
                    as_aux_lemma =>
                      have b1 : (z.op == 11) = false := by simpa using c1'
                      go_wp2
                      go_roundg (gk - 1)
                      case measure => omega
                      case rel => exact ⟨q + 1, by rw [hgv.out]; simp [b1], by simp; have := hJ.out; omega, by omega, by omega, KA.out _, KX.out _, KY.out _⟩
                  have b1 : (z.op == 11) = true := by simpa using c1'
                  by_cases c2' : z.arg = x.av
                  case neg =>
                    as_aux_lemma =>
                      have b2 : (z.arg == x.av) = false := by simpa using c2'
                      clear c1'
                      go_wp2
                      go_roundg (gk - 1)
                      case measure => omega
                      case rel => exact ⟨q + 1, by rw [hgv.out]; simp [b2], by simp; have := hJ.out; omega, by omega, by omega, KA.out _, KX.out _, KY.out _⟩
                  have b2 : (z.arg == x.av) = true := by simpa using c2'
                  by_cases c3' : z.th = x.th
                  case neg =>
                    as_aux_lemma =>
                      have b3 : (z.th == x.th) = false := by simpa using c3'
                      clear c1' c2'
                      go_wp2
                      go_roundg (gk - 1)
                      case measure => omega
                      case rel => exact ⟨q + 1, by rw [hgv.out]; simp [b3], by simp; have := hJ.out; omega, by omega, by omega, KA.out _, KX.out _, KY.out _⟩
                  have b3 : (z.th == x.th) = true := by simpa using c3'
                  by_cases c4' : x.fin < z.beg
                  case neg =>
                    as_aux_lemma =>
                      have b4 : decide (x.fin < z.beg) = false := decide_eq_false c4'
                      clear c1' c2' c3'
                      go_wp2
                      go_roundg (gk - 1)
                      case measure => omega
                      case rel => exact ⟨q + 1, by rw [hgv.out]; simp only [b4, Bool.false_and, Bool.and_false, Bool.or_false], by simp; have := hJ.out; omega, by omega, by omega, KA.out _, KX.out _, KY.out _⟩
                  have b4 : decide (x.fin < z.beg) = true := decide_eq_true c4'
                  as_aux_lemma =>
                    clear c1' c2' c3'
                    obtain ⟨d5, hd5⟩ : ∃ d5, decide (z.beg < y.fin) = d5 := ⟨_, rfl⟩
                    go_wp2
                    go_roundg (gk - 1)
                    case measure => omega
                    case rel => exact ⟨q + 1, by rw [hgv.out]; simp only [b1, b2, b3, b4, hd5, Bool.true_and, Bool.false_or], by simp; have := hJ.out; omega, by omega, by omega, KA.out _, KX.out _, KY.out _⟩
                · have hgt : gvf Q.cls j x y.fin q = true := by
                    have := hgv.out
                    rwa [show Q.cls.length - (j + 1) = q by omega] at this
                  have hadd : (j : Int) + 1 + (q : Int) = (Q.cls.length : Int) := by omega
                  rw [hgt, hadd]
                  replace KA := Mr.hid KA
                  replace hK := Mr.hid hK
                  replace hbx := Mr.hid hbx
                  replace hby := Mr.hid hby
                  go_wp2
                  go_roundg (gkm - 1)
                  case measure => omega
                  case rel => exact ⟨mm + 1, by simp, by omega, hK.out, hbx.out⟩
            · replace KA := Mr.hid KA
              replace KX := Mr.hid KX
              replace hK := Mr.hid hK
              replace hbx := Mr.hid hbx
              go_wp2
              go_roundg (gko - 1)
              case measure => omega
              case rel => exact ⟨j + 1, by simp, by omega, hK.out⟩
        · have b1 : (x.ak == 2) = false := by simpa using h2
          rw [h10] at f1
          go_wp2
          go_roundg (gk - 1)
          case measure => omega
          case rel => exact ⟨j + 1, by simp, by omega, KA.out _⟩
      · have b1 : (x.op == 10) = false := by simpa using h10
        go_wp2
        go_roundg (gk - 1)
        case measure => omega
        case rel => exact ⟨j + 1, by simp, by omega, KA.out _⟩
    · replace hK := Mr.hid hK
      go_wp2
      go_ret
      exact ⟨rfl, hK.out.bel⟩
theorem once_any (c : Cf) (am : Option Addr) (nm cm : Nat) (ms : List Mv) (w : World) (hm : MvAt w am nm ms) :
    Calls Tryz.prog 3 #[c.val, .slice am nm cm] w fun e w' => e = .returned (.bool true) ∧ Below w.heap.size w w' := by
  cases hc : c.ok with
  | false => exact once_not w c am nm cm (.inl hc)
  | true =>
    by_cases hn : nm ≤ 65536
    · exact once_yes w c hc am nm cm ms hm hn
    · exact once_not w c am nm cm (.inr (by omega))
end Go.Proofs.YtmmjdlbeiaoojaaGreat.Ar
