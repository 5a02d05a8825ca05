/-
  MachineBegins: the walk.
-/
import Derived.Test.YtiobchadjcekcaaMacKp2
namespace Go.Proofs.Ytiobchadjcekcaa.Ma
open Go.RowKit Go.Shelf Mr Me
theorem drew_heap (W : World) : W.drew.heap = W.heap := rfl
theorem alloc_at (W : World) (o x : Obj) : ((W.alloc o).heap[W.heap.size]? = some x) = (o = x) := by rw [heap_alloc_new]; simp
theorem not_there (W : World) (x : Obj) : (W.heap[W.heap.size]? = some x) = False := by simp
set_option maxRecDepth 100000 in
set_option maxHeartbeats 2000000 in
theorem begins_walk (w : World) (th : Int) (a : Option Addr) (n cap : Nat) (am : Option Addr) (nm cm : Nat) (hn : n ≤ cap) (hnm : nm ≤ cm) (ws : List Int) (ms : List Mv) (hs : Src w a n cap ws) (hm : MvAt w am nm ms) (u : Int) :
    Calls Try.prog 7 #[.agg #[.int .i64 th, .slice a n cap, .slice am nm cm], .int .i64 u] w fun e w' => e = .returned (.bool true) ∧ Below w.heap.size w w' := by
  have PL := fun (W : World) (hB : Below w.heap.size w W) => play_any W th a n cap am nm cm hn hnm ws ms (hs.below hB) (hm.below hB)
  have hs' := src_take hs 8192
  have hmt := (hm.take 65536)
  unfold Playd at PL
  generalize hQ : (Pm.new (fitT th) (ws.take 8192)).play (ms.take 65536) = Q at PL
  have hfp := fitT_pos th
  generalize fitT th = ft at PL hQ hfp
  generalize hm1 : min n 8192 = m1 at PL hs'
  generalize hm2 : min nm 65536 = m2 at PL hmt
  generalize ws.take 8192 = wt at *
  generalize ms.take 65536 = mt at *
  replace hQ := Mr.hid hQ
  have hm1' : m1 ≤ 8192 := by omega
  have hcm : m2 ≤ cm := by omega
  have hml := hmt.1
  have hlen : mt.length ≤ 65536 := by omega
  subst hml
  replace hm1 := Mr.hid hm1
  replace hm2 := Mr.hid hm2
  have PP := fun (W : World) (hB : Below w.heap.size w W) (up : Nat) (hup : up ≤ mt.length) => play_ok W ft hfp.1 hfp.2 a m1 cap wt (hs'.below hB) hm1' am up cm (mt.take up) (by have := (hmt.below hB).take up; rw [Nat.min_eq_right hup] at this; exact this) (by omega)
  have ham : 0 < mt.length → ∃ ad, am = some ad := fun h => by
    rcases hmt.2 with h0 | ⟨b, off, h', _⟩
    · rw [h0] at h; simp at h
    · exact ⟨_, h'⟩
  have ham' : mt.length = 0 → am = none ∨ ∃ ad, am = some ad := fun h => by cases am with | none => exact .inl rfl | some ad => exact .inr ⟨ad, rfl⟩
  replace hs' := Mr.hid hs'
  replace hmt := Mr.hid hmt
  replace ham := Mr.hid ham
  replace PP := Mr.hid PP
  clear hs hm ham'
  have hb0 : ∀ (o : Obj), (w.alloc o).heap[w.heap.size]? = some o := fun o => heap_alloc_new w o
  have hB0 := fun o => (Below.refl w.heap.size w).alloc (Nat.le_refl _) o
  go_enter Try.func7, Try.ntmps7
  go_upto_region 4 with (first
    | (go_at_call 14; refine (PL _ (hB0 _)).mono ?_; clear PL; rintro e w1 ⟨v1, v2, v4, rfl, hv1, hv2, hv4, hB1⟩; have hs1 := (hB1.block w.heap.size (by simp)).trans (hb0 _); have c0 : w1.cell? ⟨w.heap.size, 0, none⟩ = some (.int .i64 th) := (by simp [World.cell?, hs1]); have c1 : w1.cell? ⟨w.heap.size, 1, none⟩ = some (.slice a n cap) := (by simp [World.cell?, hs1]); have c2 : w1.cell? ⟨w.heap.size, 2, none⟩ = some (.slice am nm cm) := (by simp [World.cell?, hs1]); have c3 : ∀ j, w1.frozen? ⟨w.heap.size, j, none⟩ = false := (fun j => by simp [World.frozen?, hs1]); have lt1 : w.heap.size < w1.heap.size := (Array.getElem?_eq_some_iff.1 hs1).1; have Bw1 : Below w.heap.size w w1 := (hB0 _).trans (hB1.mono (by simp)); simp only [World.size_alloc] at hv1 hv2 hv4; replace hs1 := Mr.hid hs1; clear hB1; replace Bw1 := Mr.hid Bw1; obtain ⟨p1, q1, rfl, _⟩ := hv1.form; obtain ⟨p2, q2, rfl, _⟩ := hv2.form; obtain ⟨p4, q4, rfl, _⟩ := hv4.form; replace hv1 := Mr.hid hv1; replace hv2 := Mr.hid hv2; replace hv4 := Mr.hid hv4)
    | fail)
  have K2 := kp_open (x := .int .i64 (ft : Int)) (y := .slice a m1 cap) (z := .slice am mt.length cm) hs1.out Bw1.out hv1.out hv2.out hv4.out
  generalize (((w1.setCell ⟨w.heap.size, 0, none⟩ (.int .i64 (ft : Int))).setCell ⟨w.heap.size, 1, none⟩ (.slice a m1 cap)).setCell ⟨w.heap.size, 2, none⟩ (.slice am mt.length cm)).alloc (.cells #[.slice p1 Q.cls.length q1, .slice p2 Q.lg.length q2, .slice none 0 0, .slice p4 Q.ws.length q4] 41) = W2 at *
  have z2 : w1.heap.size < W2.heap.size := (Array.getElem?_eq_some_iff.1 K2.r0).1
  have z2' : w.heap.size < W2.heap.size := by omega
  clear c0 c1 c2 c3 hs1 Bw1 hv1 hv2 hv4 hb0 hB0
  generalize w1.heap.size = B at *
  obtain ⟨⟨c0, c1, c2⟩, r0, r1, r2, r3⟩ := K2.cells
  replace K2 := Mr.hid K2
  go_cut [29] (fun t wc => t = .bool (decide (u < 0) || decide ((mt.length : Int) < u)) ∧ wc = W2)
  case first =>
    cases e1 : decide (u < 0) <;> go_wp2 <;> go_meet <;> (simp at e1 ⊢; omega)
  case rest =>
    obtain ⟨rfl, hw⟩ := hcut
    obtain rfl := hw.symm
    go_upto_if 29 with fail
    go_cut [1] (fun s wx => (∃ up : Nat, s = .int .i64 (up : Int) ∧ up ≤ mt.length) ∧ wx = W2)
    case first =>
      cases e1 : (decide (u < 0) || decide ((mt.length : Int) < u))
      · rw [Bool.or_eq_false_iff] at e1
        have e2 : ¬ u < 0 := by simpa using e1.1
        have e3 : ¬ (mt.length : Int) < u := by simpa using e1.2
        obtain ⟨un, rfl⟩ : ∃ un : Nat, u = un := ⟨u.toNat, by omega⟩
        go_wp2
        go_meet
        case rel => exact ⟨⟨un, rfl, by omega⟩, rfl⟩
      · go_wp2
        go_meet
        case rel => exact ⟨⟨mt.length / 2, by simp, by omega⟩, rfl⟩
    case rest =>
      obtain ⟨⟨up, rfl, hup⟩, hw⟩ := hcut
      obtain rfl := hw.symm
      have PP' := fun (W : World) (hB : Below W2.heap.size W2 W) => PP.out W (K2.out.bel.trans (hB.mono (Nat.le_of_lt z2'))) up hup
      clear PP
      obtain ⟨P, hP⟩ : ∃ P, (Pm.new ft wt).play (mt.take up) = P := ⟨_, rfl⟩
      rw [hP] at PP'
      have hpn : P.n = up := by rw [← hP]; exact pk_n ft wt mt hlen up hup
      have hex : Ext P Q := by rw [← hP, ← hQ.out]; exact pk_ext ft wt mt hlen up hup
      have hlgs : ∃ l, Q.lg = P.lg ++ l ∧ ∀ e ∈ l, (up : Int) ≤ e.mv := by rw [← hP, ← hQ.out]; exact pk_lg ft wt mt hlen up hup
      have hlo : Lo P := by rw [← hP]; exact pk_lo ft wt mt hlen up hup
      have hHP : Hs P := by rw [← hP]; exact pk_hs ft wt mt up
      replace hP := Mr.hid hP
      replace hpn := Mr.hid hpn
      replace hex := Mr.hid hex
      replace hlgs := Mr.hid hlgs
      replace hlo := Mr.hid hlo
      replace hHP := Mr.hid hHP
      have hBd : Below W2.heap.size W2 (W2.alloc (.cells #[.slice none 0 0, .slice none 0 0, .slice none 0 0, .slice none 0 0] 41)).drew := ((Below.refl W2.heap.size W2).alloc (Nat.le_refl _) _).drew
      have hupc : up ≤ cm := by omega
      have hBx : ∀ w0 w5 : World, Below w0.heap.size w0 w5 → w0.heap[W2.heap.size]? = some (.cells #[.slice none 0 0, .slice none 0 0, .slice none 0 0, .slice none 0 0] 41 (0, 0)) → (w5.cell? ⟨W2.heap.size, 0, none⟩ = some (.slice none 0 0) ∧ w5.cell? ⟨W2.heap.size, 1, none⟩ = some (.slice none 0 0) ∧ w5.cell? ⟨W2.heap.size, 2, none⟩ = some (.slice none 0 0) ∧ w5.cell? ⟨W2.heap.size, 3, none⟩ = some (.slice none 0 0)) ∧ (∀ j, w5.frozen? ⟨W2.heap.size, j, none⟩ = false) ∧ W2.heap.size < w5.heap.size := fun w0 w5 hB h0 => by
        have hb : w5.heap[W2.heap.size]? = some (.cells #[.slice none 0 0, .slice none 0 0, .slice none 0 0, .slice none 0 0] 41 (0, 0)) := (hB.block _ (Array.getElem?_eq_some_iff.1 h0).1).trans h0
        refine ⟨⟨?_, ?_, ?_, ?_⟩, fun j => ?_, (Array.getElem?_eq_some_iff.1 hb).1⟩ <;> simp [World.cell?, World.frozen?, hb]
      replace hBx := Mr.hid hBx
      have hBe : Below W2.heap.size W2 W2.drew := (Below.refl W2.heap.size W2).drew
      have hKx := Mr.hid (fun (w0 w5 : World) (h0 : Below W2.heap.size W2 w0) (hB : Below w0.heap.size w0 w5) => (K2.out.below (h0.trans (hB.mono h0.size))).cells.1)
      replace hBd := Mr.hid hBd
      replace hBe := Mr.hid hBe
      have ne1 : w.heap.size ≠ W2.heap.size := by omega
      have ne2 := ne1.symm
      go_upto_region 6 with fail
      go_cut [7, 8] (fun s7 s8 wx => ∃ B2 D p5 q5 p6 q6 p7 q7, s7 = .pointer (some ⟨B2, 0, none⟩) ∧ s8 = .int .i64 0 ∧ Kp w wx B (.int .i64 (ft : Int)) (.slice a m1 cap) (.slice am mt.length cm) (.slice p1 Q.cls.length q1) (.slice p2 Q.lg.length q2) (.slice p4 Q.ws.length q4) Q ∧ Kq wx B2 D (.slice p5 P.cls.length q5) (.slice p6 P.lg.length q6) (.slice p7 P.ws.length q7) P)
      case first =>
        go_wp2
        go_region_held3 (fun w' => w'.cell? ⟨w.heap.size, 0, none⟩ = some (.int .i64 (ft : Int)) ∧ w'.cell? ⟨w.heap.size, 1, none⟩ = some (.slice a m1 cap) ∧ w'.cell? ⟨w.heap.size, 2, none⟩ = some (.slice am mt.length cm)) (go_keep)
          (first
            | (go_at_call 15; refine (PP' _ (by first | exact hBe.out | exact hBd.out)).mono ?_; clear PP'; rintro e w5 ⟨u1, u2, u4, rfl, hu1, hu2, hu4, hB5⟩; unfold runV; obtain ⟨k0, k1, k2⟩ := hKx.out _ w5 (by first | exact hBe.out | exact hBd.out) hB5; have hbx := hBx.out _ w5 hB5; simp only [drew_heap, alloc_at, true_implies, not_there, false_implies] at hbx; obtain ⟨p5, q5, rfl, _⟩ := hu1.form; obtain ⟨p6, q6, rfl, _⟩ := hu2.form; obtain ⟨p7, q7, rfl, _⟩ := hu4.form; replace hu1 := Mr.hid hu1; replace hu2 := Mr.hid hu2; replace hu4 := Mr.hid hu4; replace hB5 := Mr.hid hB5))
        all_goals go_wp2
        all_goals go_meet
        case rel =>
          have X := kq_more K2.out rfl hB5.out hu1.out hu2.out hu4.out
          exact ⟨_, _, _, _, _, _, _, _, rfl, rfl, X.1, X.2⟩
        case rel =>
          have X := kq_open K2.out rfl hB5.out hu1.out hu2.out hu4.out
          exact ⟨_, _, _, _, _, _, _, _, rfl, rfl, X.1, X.2⟩
      case rest =>
        obtain ⟨B2, D, p5, q5, p6, q6, p7, q7, rfl, rfl, K6, G6⟩ := hcut
        clear c0 c1 c2 r0 r1 r2 r3 K2 hBd hBe hKx hBx PP' ne1 ne2 z2 z2'
        obtain ⟨⟨c0, c1, c2⟩, r0, r1, r2, r3⟩ := K6.cells
        obtain ⟨s0, s1, s2, s3⟩ := G6.cells
        have l1 : P.cls.length ≤ Q.cls.length := hex.out.len
        have l2 : P.lg.length ≤ Q.lg.length := by obtain ⟨l, e, _⟩ := hlgs.out; rw [e]; simp
        have d1 : decide ((Q.cls.length : Int) < (P.cls.length : Int)) = false := by simp; omega
        have d2 : decide (Q.cls.length < P.cls.length) = false := by simp; omega
        have d3 : decide ((Q.lg.length : Int) < (P.lg.length : Int)) = false := by simp; omega
        have d4 : decide (Q.lg.length < P.lg.length) = false := by simp; omega
        replace K6 := Mr.hid K6
        replace G6 := Mr.hid G6
        go_wp2
        go_loopg [69] Q.cls.length (fun k s wy => ∃ j : Nat, s = .int .i64 (j : Int) ∧ j + k = Q.cls.length ∧ Kp w wy B (.int .i64 (ft : Int)) (.slice a m1 cap) (.slice am mt.length cm) (.slice p1 Q.cls.length q1) (.slice p2 Q.lg.length q2) (.slice p4 Q.ws.length q4) Q ∧ Kq wy B2 D (.slice p5 P.cls.length q5) (.slice p6 P.lg.length q6) (.slice p7 P.ws.length q7) P)
        case atStart => exact ⟨0, rfl, by omega, K6.out, G6.out⟩
        case round =>
          obtain ⟨j, rfl, hj, hK, hG⟩ := hrel
          clear c0 c1 c2 r0 r1 r2 r3 s0 s1 s2 s3 K6 G6
          obtain ⟨⟨c0, c1, c2⟩, r0, r1, r2, r3⟩ := hK.cells
          obtain ⟨s0, s1, s2, s3⟩ := hG.cells
          have y0 : w.heap.size < wr.heap.size := (Array.getElem?_eq_some_iff.1 hK.s0).1
          have y1 : B < wr.heap.size := (Array.getElem?_eq_some_iff.1 hK.r0).1
          have y2 : B2 < wr.heap.size := (Array.getElem?_eq_some_iff.1 hG.r0).1
          by_cases hjl : j < Q.cls.length
          · obtain ⟨cl, hcl⟩ : ∃ cl, Q.cls[j]? = some cl := ⟨_, List.getElem?_eq_getElem hjl⟩
            obtain ⟨g1, q1', hg1, ⟨hg1a, hg1b⟩, hg1l, hq1, hq2⟩ := hK.h1.there (by omega)
            cases hg1
            unfold maxLen at hq2
            obtain ⟨f0, f1, f2, f3, f4, f5, f6, f7, f8⟩ := cl_cells hK.h1 hcl
            by_cases hjp : j < P.cls.length
            · obtain ⟨cl0, hcl0⟩ : ∃ cl0, P.cls[j]? = some cl0 := ⟨_, List.getElem?_eq_getElem hjp⟩
              obtain ⟨g5, q5', hg5, hg5a, hg5l, hq5, hq6⟩ := hG.h1.there (by omega)
              cases hg5
              unfold maxLen at hq6
              obtain ⟨t0, t1, t2, t3, t4, t5, t6, t7, t8⟩ := cl_cells hG.h1 hcl0
              have ck := hHP.out.cl j cl0 hcl0
              have cb := ck.b1
              have cb0 := ck.b0
              have hpn' := hpn.out
              have e1 : decide ((P.cls.length : Int) ≤ (j : Int)) = false := by simp; omega
              have e2 : decide (P.cls.length ≤ j) = false := by simp; omega
              obtain ⟨cl', h3, h4⟩ := hex.out.old j cl0 hcl0
              rw [hcl] at h3
              cases h3
              replace hcl := Mr.hid hcl
              replace hcl0 := Mr.hid hcl0
              have fin : ∀ (o : Obj) (nq : Nat), Kp w ((wr.alloc o).drewN nq) B (.int .i64 (ft : Int)) (.slice a m1 cap) (.slice am mt.length cm) (.slice (some ⟨g1, 0, none⟩) Q.cls.length q1) (.slice p2 Q.lg.length q2) (.slice p4 Q.ws.length q4) Q ∧ Kq ((wr.alloc o).drewN nq) B2 D (.slice (some ⟨g5, 0, none⟩) P.cls.length q5) (.slice p6 P.lg.length q6) (.slice p7 P.ws.length q7) P := fun o nq => ⟨(hK.alloc o).drewN nq, (hG.alloc o).drewN nq⟩
              replace fin := Mr.hid fin
              replace hK := Mr.hid hK
              replace hG := Mr.hid hG
              rcases h4 with rfl | ⟨hf, kk, xx, hkk, rfl⟩
              · have e3 : decide ((up : Int) ≤ cl.beg) = false := by simp; omega
                have e4 : decide ((up : Int) ≤ cl.fin) = false := by rcases ck.way with ⟨h1, _⟩ | ⟨h1, _, h2, _⟩ <;> simp <;> omega
                have e5 : decide ((up : Int) ≤ cl.pt) = false := by rcases ck.way with ⟨_, h1, _⟩ | ⟨h1, _, h2, _⟩ <;> simp <;> omega
                clear ck cb cb0
                go_upto_region 20 with fail
                go_quiet (fail)
                go_wp2
                go_roundg (gk - 1)
                case measure => omega
                case rel => exact ⟨j + 1, by simp, by omega, (fin.out _ _).1, (fin.out _ _).2⟩
              · simp only [ended] at f0 f1 f2 f3 f4 f5 f6 f7 f8
                have hw : cl0.pt = -1 ∧ cl0.ak = 0 ∧ cl0.av = 0 := by
                  rcases ck.way with ⟨_, h1, h2, h3⟩ | ⟨h1, h2, _⟩
                  · exact ⟨h1, h2, h3⟩
                  · omega
                rw [hf] at t5
                rw [hw.1] at t6
                rw [hw.2.1] at t7
                rw [hw.2.2] at t8
                have e3 : decide ((up : Int) ≤ cl0.beg) = false := by simp; omega
                have e4 : decide ((up : Int) ≤ kk) = true := by simp; omega
                clear ck cb cb0 hw
                replace hf := Mr.hid hf
                go_upto_region 20 with fail
                go_quiet (fail)
                go_wp2
                go_roundg (gk - 1)
                case measure => omega
                case rel => exact ⟨j + 1, by simp, by omega, (fin.out _ _).1, (fin.out _ _).2⟩
            · have e1 : decide ((j : Int) < (P.cls.length : Int)) = false := by simp; omega
              have e2 : decide (j < P.cls.length) = false := by simp; omega
              have e3 : decide ((up : Int) ≤ cl.beg) = true := by have := hex.out.new j cl hcl (by omega); have := hpn.out; simp; omega
              replace hcl := Mr.hid hcl
              replace hK := Mr.hid hK
              replace hG := Mr.hid hG
              go_wp2
              go_roundg (gk - 1)
              case measure => omega
              case rel => exact ⟨j + 1, by simp, by omega, hK.out.alloc _, hG.out.alloc _⟩
          · replace hK := Mr.hid hK
            replace hG := Mr.hid hG
            go_wp2
            go_loopg [113] Q.lg.length (fun k s wy => ∃ j : Nat, s = .int .i64 (j : Int) ∧ j + k = Q.lg.length ∧ Kp w wy B (.int .i64 (ft : Int)) (.slice a m1 cap) (.slice am mt.length cm) (.slice p1 Q.cls.length q1) (.slice p2 Q.lg.length q2) (.slice p4 Q.ws.length q4) Q ∧ Kq wy B2 D (.slice p5 P.cls.length q5) (.slice p6 P.lg.length q6) (.slice p7 P.ws.length q7) P)
            case atStart => exact ⟨0, rfl, by omega, hK.out, hG.out⟩
            case round =>
              obtain ⟨i, rfl, hi, hK', hG'⟩ := hrel
              clear c0 c1 c2 r0 r1 r2 r3 s0 s1 s2 s3 hK hG y0 y1 y2
              obtain ⟨⟨c0, c1, c2⟩, r0, r1, r2, r3⟩ := hK'.cells
              obtain ⟨s0, s1, s2, s3⟩ := hG'.cells
              have y0 : w.heap.size < wr.heap.size := (Array.getElem?_eq_some_iff.1 hK'.s0).1
              have y1 : B < wr.heap.size := (Array.getElem?_eq_some_iff.1 hK'.r0).1
              have y2 : B2 < wr.heap.size := (Array.getElem?_eq_some_iff.1 hG'.r0).1
              by_cases hil : i < Q.lg.length
              · obtain ⟨ac, hac⟩ : ∃ ac, Q.lg[i]? = some ac := ⟨_, List.getElem?_eq_getElem hil⟩
                obtain ⟨g1, q1', hg1, ⟨hg1a, hg1b⟩, hg1l, hq1, hq2⟩ := hK'.h2.there (by omega)
                cases hg1
                unfold maxLen at hq2
                obtain ⟨f0, f1, f2, f3, f4, f5, f6⟩ := ac_cells hK'.h2 hac
                obtain ⟨l, hl, hlm⟩ := hlgs.out
                have fin : ∀ (o : Obj) (nq : Nat), Kp w ((wr.alloc o).drewN nq) B (.int .i64 (ft : Int)) (.slice a m1 cap) (.slice am mt.length cm) (.slice p1 Q.cls.length q1) (.slice (some ⟨g1, 0, none⟩) Q.lg.length q2) (.slice p4 Q.ws.length q4) Q ∧ Kq ((wr.alloc o).drewN nq) B2 D (.slice p5 P.cls.length q5) (.slice p6 P.lg.length q6) (.slice p7 P.ws.length q7) P := fun o nq => ⟨(hK'.alloc o).drewN nq, (hG'.alloc o).drewN nq⟩
                by_cases hip : i < P.lg.length
                · have hap : P.lg[i]? = some ac := by rw [hl, List.getElem?_append_left hip] at hac; exact hac
                  obtain ⟨g5, q5', hg5, hg5a, hg5l, hq5, hq6⟩ := hG'.h2.there (by omega)
                  cases hg5
                  unfold maxLen at hq6
                  obtain ⟨t0, t1, t2, t3, t4, t5, t6⟩ := ac_cells hG'.h2 hap
                  have e1 : decide ((i : Int) < (P.lg.length : Int)) = true := by simp; omega
                  have e2 : decide (i < P.lg.length) = true := by simp; omega
                  have e3 : decide (ac.mv < (up : Int)) = true := by have := (hlo.out ac (List.mem_of_getElem? hap)).2; have := hpn.out; simp; omega
                  replace fin := Mr.hid fin
                  replace hK' := Mr.hid hK'
                  replace hG' := Mr.hid hG'
                  replace hac := Mr.hid hac
                  replace hap := Mr.hid hap
                  replace hl := Mr.hid hl
                  replace hlm := Mr.hid hlm
                  go_upto_region 26 with fail
                  go_quiet (fail)
                  go_wp2
                  go_roundg (gk - 1)
                  case measure => omega
                  case rel => exact ⟨i + 1, by simp, by omega, (fin.out _ _).1, (fin.out _ _).2⟩
                · have e1 : decide ((i : Int) < (P.lg.length : Int)) = false := by simp; omega
                  have e2 : decide (i < P.lg.length) = false := by simp; omega
                  have e3 : decide (ac.mv < (up : Int)) = false := by
                    rw [hl, List.getElem?_append_right (by omega)] at hac
                    have := hlm ac (List.mem_of_getElem? hac)
                    simp; omega
                  replace fin := Mr.hid fin
                  replace hK' := Mr.hid hK'
                  replace hG' := Mr.hid hG'
                  replace hac := Mr.hid hac
                  replace hl := Mr.hid hl
                  replace hlm := Mr.hid hlm
                  go_upto_region 26 with fail
                  go_quiet (fail)
                  go_wp2
                  go_roundg (gk - 1)
                  case measure => omega
                  case rel => exact ⟨i + 1, by simp, by omega, (fin.out _ _).1, (fin.out _ _).2⟩
              · replace hK' := Mr.hid hK'
                replace hG' := Mr.hid hG'
                go_wp2
                go_ret
                exact ⟨by simp, hK'.out.bel⟩
theorem begins_law (th : Int) (a : Option Addr) (n cap : Nat) (ws : List Int) (am : Option Addr) (nm cm : Nat) (ms : List Mv) (u : Int) (w : World) (hs : Src w a n cap ws) (hm : MvAt w am nm ms) (hn : n ≤ cap) (hnm : nm ≤ cm) {p : Prop} (_ : p) :
    Calls Try.prog 7 #[.agg #[.int .i64 th, .slice a n cap, .slice am nm cm], .int .i64 u] w fun e w' => e = .returned (.bool true) ∧ Below w.heap.size w w' :=
  begins_walk w th a n cap am nm cm hn hnm ws ms hs hm u
end Go.Proofs.Ytiobchadjcekcaa.Ma
