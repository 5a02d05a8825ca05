/-
  MachineFails: the walk.
-/
import Derived.Test.YtiobchadjcekcaaMacMvs
import Derived.Test.YtiobchadjcekcaaMacFailsP
namespace Go.Proofs.Ytiobchadjcekcaa.Ma
open Go.RowKit Go.Shelf Mr Me
theorem fails_fl (ft : Nat) (wt : List Int) (mt : List Mv) (hl : mt.length ≤ 65536) : Fl ((Pm.new ft wt).play mt).lg :=
  (play_ivc (Hs.new ft wt) mt (by simp [Pm.new]; omega) (new_ivc ft wt).1 (new_ivc ft wt).2.1 (new_ivc ft wt).2.2).2.1
theorem fails_end (ft : Nat) (wt : List Int) (mt : List Mv) (un : Nat) (hu : un < ft) (hl : mt.length + 3 ≤ 65536) (c : Nat) (cl : Cl)
    (hcl : ((Pm.new ft wt).play (mt ++ List.replicate 3 ⟨un, 0, 0, 0⟩)).cls[c]? = some cl) (hth : cl.th = un) : 0 ≤ cl.fin := by
  have e : (Pm.new ft wt).play (mt ++ List.replicate 3 ⟨un, 0, 0, 0⟩) = ((Pm.new ft wt).play mt).play [⟨un, 0, 0, 0⟩, ⟨un, 0, 0, 0⟩, ⟨un, 0, 0, 0⟩] := by
    unfold Pm.play
    rw [List.foldl_append]
    rfl
  have hn := play_n (Pm.new ft wt) mt (by simp [Pm.new]; omega)
  have hp := (play_mx (Hs.new ft wt) mt (by simp [Pm.new]; omega)).1
  have h0 : (Pm.new ft wt).n = 0 := rfl
  have h1 : (Pm.new ft wt).pts.length = ft := by simp [Pm.new]
  obtain ⟨t, ht, hi⟩ := alone3 ((Hs.new ft wt).play mt) un (by omega) (by omega)
  rw [← e] at ht
  have hH := (Hs.new ft wt).play (mt ++ List.replicate 3 ⟨un, 0, 0, 0⟩)
  have hC := (play_ivc (Hs.new ft wt) (mt ++ List.replicate 3 ⟨un, 0, 0, 0⟩) (by simp [Pm.new]; omega) (new_ivc ft wt).1 (new_ivc ft wt).2.1 (new_ivc ft wt).2.2).2.2
  have ck := hH.cl c cl hcl
  rcases ck.way with ⟨h1, _⟩ | ⟨h1, h2, _⟩
  · exfalso
    obtain ⟨i, t', e1, e2, e3, _⟩ := hC c cl hcl h1
    have : i = un := by omega
    subst this
    rw [ht] at e2
    cases e2
    rw [hi] at e3
    cases e3
  · have := ck.b0
    omega
theorem ov_take (l : List Acc) (m : Nat) (b : Acc) (hb : l[m]? = some b) (th ad : Int) : ov (l.take (m + 1)) th ad = if b.th = th then false else (won b ad || ov (l.take m) th ad) := by
  rw [List.take_add_one, hb]
  exact ov_snoc _ _ _ _
theorem won_case (b : Acc) (ad : Int) (o x : Bool) (h : (o || (won b ad || x)) = true) : (b.kd = 3 ∧ (b.ad == ad) = true ∧ (b.saw == b.old) = true) ∨ ((o || x) = true ∧ ((b.kd == 3) = false ∨ (b.kd = 3 ∧ (b.ad == ad) = false) ∨ (b.kd = 3 ∧ (b.ad == ad) = true ∧ (b.saw == b.old) = false))) := by
  unfold won at h
  cases k1 : (b.kd == 3)
  · rw [k1] at h
    exact .inr ⟨by simpa using h, .inl rfl⟩
  · have k1' : b.kd = 3 := by simpa using k1
    cases k2 : (b.ad == ad)
    · rw [k1, k2] at h
      exact .inr ⟨by simpa using h, .inr (.inl ⟨k1', rfl⟩)⟩
    · cases k3 : (b.saw == b.old)
      · rw [k1, k2, k3] at h
        exact .inr ⟨by simpa using h, .inr (.inr ⟨k1', rfl, rfl⟩)⟩
      · exact .inl ⟨k1', rfl, rfl⟩
set_option maxRecDepth 100000 in
set_option maxHeartbeats 2000000 in
theorem fails_walk (w : World) (th : Int) (a : Option Addr) (n cap : Nat) (am : Option Addr) (nm cm : Nat) (hn : n ≤ cap) (hnm : nm ≤ cm) (ws : List Int) (ms : List Mv) (hs : Src w a n cap ws) (hm : MvAt w am nm ms) (u : Int) :
    Calls Try.prog 6 #[.agg #[.int .i64 th, .slice a n cap, .slice am nm cm], .int .i64 u] w fun e w' => e = .returned (.bool true) ∧ Below w.heap.size w w' := by
  have PL := fun (W : World) (hB : Below w.heap.size w W) => play_any W th a n cap am nm cm hn hnm ws ms (hs.below hB) (hm.below hB)
  have hs' := src_take hs 8192
  have hmt := (hm.take 65536)
  unfold Playd at PL
  generalize hQ : (Pm.new (fitT th) (ws.take 8192)).play (ms.take 65536) = Q at PL
  have hfp := fitT_pos th
  generalize fitT th = ft at PL hQ hfp
  generalize hm1 : min n 8192 = m1 at PL hs'
  generalize hm2 : min nm 65536 = m2 at PL hmt
  generalize ws.take 8192 = wt at *
  generalize ms.take 65536 = mt at *
  have hm1' : m1 ≤ 8192 := by omega
  have hml := hmt.1
  have hlen : mt.length ≤ 65536 := by omega
  subst hml
  have hFl : Fl Q.lg := by rw [← hQ]; exact fails_fl ft wt mt hlen
  have PP := fun (W : World) (hB : Below w.heap.size w W) (S : Nat → Prop) (a' : Option Addr) (n' c' : Nat) (ms' : List Mv) (hr : Has W S 34 4 (.slice a' n' c') n' (mvc ms')) (hn' : n' ≤ 65536) => play_ok W ft hfp.1 hfp.2 a m1 cap wt (hs'.below hB) hm1' a' n' c' ms' (has_mvat hr) hn'
  obtain ⟨i0, hi0, hz0, hz1, hz2⟩ := info_parts info_move
  replace hQ := Mr.hid hQ
  replace hFl := Mr.hid hFl
  replace hm1 := Mr.hid hm1
  replace hm2 := Mr.hid hm2
  replace hs' := Mr.hid hs'
  replace hmt := Mr.hid hmt
  replace PP := Mr.hid PP
  clear hs hm
  have hb0 : ∀ (o : Obj), (w.alloc o).heap[w.heap.size]? = some o := fun o => heap_alloc_new w o
  have hB0 := fun o => (Below.refl w.heap.size w).alloc (Nat.le_refl _) o
  go_enter Try.func6, Try.ntmps6
  go_upto_region 4 with (first
    | (go_at_call 14; refine (PL _ (hB0 _)).mono ?_; clear PL; rintro e w1 ⟨v1, v2, v4, rfl, hv1, hv2, hv4, hB1⟩; have hs1 := (hB1.block w.heap.size (by simp)).trans (hb0 _); have c0 : w1.cell? ⟨w.heap.size, 0, none⟩ = some (.int .i64 th) := (by simp [World.cell?, hs1]); have c1 : w1.cell? ⟨w.heap.size, 1, none⟩ = some (.slice a n cap) := (by simp [World.cell?, hs1]); have c2 : w1.cell? ⟨w.heap.size, 2, none⟩ = some (.slice am nm cm) := (by simp [World.cell?, hs1]); have c3 : ∀ j, w1.frozen? ⟨w.heap.size, j, none⟩ = false := (fun j => by simp [World.frozen?, hs1]); have lt1 : w.heap.size < w1.heap.size := (Array.getElem?_eq_some_iff.1 hs1).1; have Bw1 : Below w.heap.size w w1 := (hB0 _).trans (hB1.mono (by simp)); simp only [World.size_alloc] at hv1 hv2 hv4; replace hs1 := Mr.hid hs1; clear hB1; replace Bw1 := Mr.hid Bw1; obtain ⟨p1, q1, rfl, _⟩ := hv1.form; obtain ⟨p2, q2, rfl, _⟩ := hv2.form; obtain ⟨p4, q4, rfl, _⟩ := hv4.form; replace hv1 := Mr.hid hv1; replace hv2 := Mr.hid hv2; replace hv4 := Mr.hid hv4)
    | fail)
  have K2 := kp_open (x := .int .i64 (ft : Int)) (y := .slice a m1 cap) (z := .slice am mt.length cm) hs1.out Bw1.out hv1.out hv2.out hv4.out
  generalize (((w1.setCell ⟨w.heap.size, 0, none⟩ (.int .i64 (ft : Int))).setCell ⟨w.heap.size, 1, none⟩ (.slice a m1 cap)).setCell ⟨w.heap.size, 2, none⟩ (.slice am mt.length cm)).alloc (.cells #[.slice p1 Q.cls.length q1, .slice p2 Q.lg.length q2, .slice none 0 0, .slice p4 Q.ws.length q4] 41) = W2 at *
  have z2 : w1.heap.size < W2.heap.size := (Array.getElem?_eq_some_iff.1 K2.r0).1
  have z2' : w.heap.size < W2.heap.size := by omega
  clear c0 c1 c2 c3 hs1 Bw1 hv1 hv2 hv4 hb0 hB0
  generalize w1.heap.size = B at *
  obtain ⟨⟨c0, c1, c2⟩, r0, r1, r2, r3⟩ := K2.cells
  replace K2 := Mr.hid K2
  go_wp2
  go_loopg [28] Q.lg.length (fun k s wr => ∃ i : Nat, s = .int .i64 (i : Int) ∧ i + k = Q.lg.length ∧ Kp w wr B (.int .i64 (ft : Int)) (.slice a m1 cap) (.slice am mt.length cm) (.slice p1 Q.cls.length q1) (.slice p2 Q.lg.length q2) (.slice p4 Q.ws.length q4) Q)
  case atStart => exact ⟨0, rfl, by omega, K2.out⟩
  case round =>
    obtain ⟨i, rfl, hi, hK⟩ := hrel
    obtain ⟨gk1, hgk1⟩ : ∃ gk1, gk1 = gk := ⟨_, rfl⟩
    clear c0 c1 c2 r0 r1 r2 r3 K2
    obtain ⟨⟨c0, c1, c2⟩, r0, r1, r2, r3⟩ := hK.cells
    have y0 : w.heap.size < wr.heap.size := (Array.getElem?_eq_some_iff.1 hK.s0).1
    have y1 : B < wr.heap.size := (Array.getElem?_eq_some_iff.1 hK.r0).1
    by_cases hil : i < Q.lg.length
    · obtain ⟨ac, hac⟩ : ∃ ac, Q.lg[i]? = some ac := ⟨_, List.getElem?_eq_getElem hil⟩
      have fl := hFl.out i ac hac
      obtain ⟨g1, q1', hg1, ⟨hg1a, hg1b⟩, hg1l, hq1, hq2⟩ := hK.h2.there (by omega)
      cases hg1
      unfold maxLen at hq2
      obtain ⟨f0, f1, f2, f3, f4, f5, f6⟩ := ac_cells hK.h2 hac
      have KA := fun (o : Obj) => hK.alloc o
      replace KA := Mr.hid KA
      replace hac := Mr.hid hac
      replace fl := Mr.hid fl
      by_cases hk : ac.kd = 3
      · rw [hk] at f2
        by_cases hso : ac.saw = ac.old
        · have e1 : (ac.saw == ac.old) = true := by simpa using hso
          replace hK := Mr.hid hK
          go_wp2
          go_roundg (gk - 1)
          case measure => omega
          case rel => exact ⟨i + 1, by simp, by omega, KA.out _⟩
        · have e1 : (ac.saw == ac.old) = false := by simpa using hso
          have hov := fl.out hk hso
          have bx := heap_alloc_new wr (.cells #[.int .i64 ac.mv, .int .i64 ac.th, .int .i64 3, .int .i64 ac.ad, .int .u64 ac.old, .int .u64 ac.new, .int .u64 ac.saw] 57)
          have K3 := KA.out (.cells #[.int .i64 ac.mv, .int .i64 ac.th, .int .i64 3, .int .i64 ac.ad, .int .u64 ac.old, .int .u64 ac.new, .int .u64 ac.saw] 57)
          clear fl KA
          replace hK := Mr.hid hK
          replace hov := Mr.hid hov
          replace bx := Mr.hid bx
          replace K3 := Mr.hid K3
          go_upto_region 9 with fail
          clear hK f0 f1 f2 f3 f4 f5 f6 c0 c1 c2 r0 r1 r2 r3
          generalize wr.alloc (.cells #[.int .i64 ac.mv, .int .i64 ac.th, .int .i64 3, .int .i64 ac.ad, .int .u64 ac.old, .int .u64 ac.new, .int .u64 ac.saw] 57) = W3 at *
          generalize wr.heap.size = bm at *
          go_wp2
          go_loopg [9, 10] i (fun k s9 s10 wy => ∃ (o : Bool) (z : Int), s9 = .bool o ∧ s10 = .int .i64 z ∧ z = (k : Int) - 1 ∧ k ≤ i ∧ (o || ov (Q.lg.take k) ac.th ac.ad) = true ∧ Kp w wy B (.int .i64 (ft : Int)) (.slice a m1 cap) (.slice am mt.length cm) (.slice p1 Q.cls.length q1) (.slice (some ⟨g1, 0, none⟩) Q.lg.length q2) (.slice p4 Q.ws.length q4) Q ∧ wy.heap[bm]? = some (.cells #[.int .i64 ac.mv, .int .i64 ac.th, .int .i64 3, .int .i64 ac.ad, .int .u64 ac.old, .int .u64 ac.new, .int .u64 ac.saw] 57 (0, 0)))
          case atStart => exact ⟨false, _, rfl, rfl, rfl, Nat.le_refl _, by rw [hov.out]; rfl, K3.out, bx.out⟩
          case round =>
            obtain ⟨o, z, rfl, rfl, hz, hki, hoo, hK, hbx⟩ := hrel
            clear K3 bx
            obtain ⟨⟨c0, c1, c2⟩, r0, r1, r2, r3⟩ := hK.cells
            have x0 : w.heap.size < wr.heap.size := (Array.getElem?_eq_some_iff.1 hK.s0).1
            have x1 : B < wr.heap.size := (Array.getElem?_eq_some_iff.1 hK.r0).1
            have x2 : bm < wr.heap.size := (Array.getElem?_eq_some_iff.1 hbx).1
            have m1c : wr.cell? ⟨bm, 1, none⟩ = some (.int .i64 ac.th) := by simp [World.cell?, hbx]
            have m3c : wr.cell? ⟨bm, 3, none⟩ = some (.int .i64 ac.ad) := by simp [World.cell?, hbx]
            rcases Nat.eq_zero_or_pos gk with h0 | hpos
            · subst h0
              rw [List.take_zero, ov_nil, Bool.or_false] at hoo
              subst hoo
              obtain rfl : z = -1 := by omega
              clear hz
              replace hK := Mr.hid hK
              replace hbx := Mr.hid hbx
              go_upto_region 10 with fail
              go_quiet (fail)
              go_wp2
              go_roundg (gk1 - 1)
              case measure => omega
              case rel => exact ⟨i + 1, by simp, by omega, hK.out.drewN _⟩
            · obtain ⟨m, rfl⟩ : ∃ m, gk = m + 1 := ⟨gk - 1, by omega⟩
              obtain rfl : z = (m : Int) := by omega
              clear hz
              obtain ⟨b, hb⟩ : ∃ b, Q.lg[m]? = some b := ⟨_, List.getElem?_eq_getElem (by omega)⟩
              obtain ⟨t0, t1, t2, t3, t4, t5, t6⟩ := ac_cells hK.h2 hb
              rw [ov_take Q.lg m b hb] at hoo
              have d0 : decide (0 ≤ (m : Int)) = true := by simp
              have hml : m < Q.lg.length := by omega
              have hg1w : g1 < wr.heap.size := (hK.h2.lt g1 rfl).2
              replace hb := Mr.hid hb
              replace hbx := Mr.hid hbx
              by_cases hth : b.th = ac.th
              · rw [if_pos hth, Bool.or_false] at hoo
                subst hoo
                rw [hth] at t1
                replace hK := Mr.hid hK
                go_upto_region 10 with fail
                go_quiet (fail)
                go_wp2
                go_roundg (gk1 - 1)
                case measure => omega
                case rel => exact ⟨i + 1, by simp, by omega, hK.out.drewN _⟩
              · rw [if_neg hth] at hoo
                have e2 : (b.th == ac.th) = false := by simpa using hth
                have e3 : (b.th != ac.th) = true := by simpa using hth
                replace hK := Mr.hid hK
                have hcase := won_case b ac.ad o _ hoo
                replace hoo := Mr.hid hoo
                replace hcase := Mr.hid hcase
                go_upto_region 10 with fail
                go_quiet (fail)
                have KD := hK.out.drewN nq
                have BD : (wr.drewN nq).heap[bm]? = some (.cells #[.int .i64 ac.mv, .int .i64 ac.th, .int .i64 3, .int .i64 ac.ad, .int .u64 ac.old, .int .u64 ac.new, .int .u64 ac.saw] 57 (0, 0)) := hbx.out
                clear c0 c1 c2 r0 r1 r2 r3 t0 t1 t2 t3 t4 t5 t6 m1c m3c x0 x1 x2 hg1w hK hbx
                generalize wr.drewN nq = Wd at *
                obtain ⟨⟨c0, c1, c2⟩, r0, r1, r2, r3⟩ := KD.cells
                obtain ⟨t0, t1, t2, t3, t4, t5, t6⟩ := ac_cells KD.h2 hb.out
                have m1c : Wd.cell? ⟨bm, 1, none⟩ = some (.int .i64 ac.th) := by simp [World.cell?, BD]
                have m3c : Wd.cell? ⟨bm, 3, none⟩ = some (.int .i64 ac.ad) := by simp [World.cell?, BD]
                have x1 : B < Wd.heap.size := (Array.getElem?_eq_some_iff.1 KD.r0).1
                have x2 : bm < Wd.heap.size := (Array.getElem?_eq_some_iff.1 BD).1
                have x3 : g1 < Wd.heap.size := (KD.h2.lt g1 rfl).2
                have fin : ∀ (ob : Obj), Kp w (Wd.alloc ob) B (.int .i64 (ft : Int)) (.slice a m1 cap) (.slice am mt.length cm) (.slice p1 Q.cls.length q1) (.slice (some ⟨g1, 0, none⟩) Q.lg.length q2) (.slice p4 Q.ws.length q4) Q ∧ (Wd.alloc ob).heap[bm]? = some (.cells #[.int .i64 ac.mv, .int .i64 ac.th, .int .i64 3, .int .i64 ac.ad, .int .u64 ac.old, .int .u64 ac.new, .int .u64 ac.saw] 57 (0, 0)) := fun ob => ⟨KD.alloc ob, (((Below.refl Wd.heap.size Wd).alloc (Nat.le_refl _) ob).block bm x2).trans BD⟩
                replace fin := Mr.hid fin
                replace KD := Mr.hid KD
                replace BD := Mr.hid BD
                rcases hcase.out with ⟨k1, k2, k3⟩ | ⟨ho, k1 | ⟨k1, k2⟩ | ⟨k1, k2, k3⟩⟩
                · rw [k1] at t2
                  go_wp2
                  go_roundg m
                  case measure => omega
                  case rel => exact ⟨true, _, rfl, rfl, by omega, by omega, rfl, (fin.out _).1, (fin.out _).2⟩
                · replace ho := Mr.hid ho
                  go_wp2
                  go_roundg m
                  case measure => omega
                  case rel => exact ⟨o, _, rfl, rfl, by omega, by omega, ho.out, (fin.out _).1, (fin.out _).2⟩
                · rw [k1] at t2
                  replace ho := Mr.hid ho
                  go_wp2
                  go_roundg m
                  case measure => omega
                  case rel => exact ⟨o, _, rfl, rfl, by omega, by omega, ho.out, (fin.out _).1, (fin.out _).2⟩
                · rw [k1] at t2
                  replace ho := Mr.hid ho
                  go_wp2
                  go_roundg m
                  case measure => omega
                  case rel => exact ⟨o, _, rfl, rfl, by omega, by omega, ho.out, (fin.out _).1, (fin.out _).2⟩
      · have e1 : (ac.kd == 3) = false := by simpa using hk
        have e2 : (ac.kd != 3) = true := by simpa using hk
        replace hK := Mr.hid hK
        go_wp2
        go_roundg (gk - 1)
        case measure => omega
        case rel => exact ⟨i + 1, by simp, by omega, KA.out _⟩
    · have hcase : decide (u < 0) = true ∨ (decide (u < 0) = false ∧ decide ((ft : Int) ≤ u) = true) ∨ (decide (u < 0) = false ∧ decide ((ft : Int) ≤ u) = false ∧ decide (60000 < (mt.length : Int)) = true ∧ decide (60000 < mt.length) = true) ∨ (∃ un : Nat, u = un ∧ un < ft ∧ mt.length ≤ 60000) := by
        by_cases h1 : u < 0
        · exact .inl (by simpa using h1)
        · by_cases h2 : (ft : Int) ≤ u
          · exact .inr (.inl ⟨by simpa using h1, by simpa using h2⟩)
          · by_cases h3 : 60000 < mt.length
            · exact .inr (.inr (.inl ⟨by simpa using h1, by simpa using h2, by simp; omega, by simpa using h3⟩))
            · exact .inr (.inr (.inr ⟨u.toNat, by omega, by omega, by omega⟩))
      rcases hcase with e1 | ⟨e1, e2⟩ | ⟨e1, e2, e3, e4⟩ | ⟨un, rfl, hun, hml6⟩
      · replace hK := Mr.hid hK
        go_wp2
        go_ret
        exact ⟨rfl, hK.out.bel⟩
      · replace hK := Mr.hid hK
        go_wp2
        go_ret
        exact ⟨rfl, hK.out.bel⟩
      · replace hK := Mr.hid hK
        go_wp2
        go_ret
        exact ⟨rfl, hK.out.bel⟩
      · have e1 : decide ((un : Int) < 0) = false := by simp
        have e2 : decide ((ft : Int) ≤ (un : Int)) = false := by simp; omega
        have e3 : decide (ft ≤ un) = false := by simp; omega
        have e4 : decide (60000 < (mt.length : Int)) = false := by simp; omega
        have e5 : decide (60000 < mt.length) = false := by simp; omega
        have hmw := hmt.out.below hK.bel
        replace hK := Mr.hid hK
        go_upto_region 20 with fail
        go_cut [12] (fun s wx => (∃ a' c', s = .slice a' mt.length c' ∧ Has wx (fun k => B < k) 34 4 s mt.length (mvc mt)) ∧ Kp w wx B (.int .i64 (ft : Int)) (.slice a m1 cap) (.slice am mt.length cm) (.slice p1 Q.cls.length q1) (.slice p2 Q.lg.length q2) (.slice p4 Q.ws.length q4) Q)
        case first =>
          cases am with
          | none =>
            have hw0 : mt = [] := by rcases hmw.2 with h | ⟨_, _, h, _⟩; exact h; cases h
            subst hw0
            go_wp2_with (at_builtin; refine wpList_append_nomvs rfl (.const (.slice none 0 0)) (.tmp 100) cm rfl rfl rfl rfl ?_)
            go_meet
            case rel => exact ⟨⟨none, 0, rfl, Has.nil _ _ _ _⟩, hK.out⟩
          | some ad =>
            replace hmw := Mr.hid hmw
            go_wp2_with (at_builtin; refine wpList_append_own _ rfl (.const (.slice none 0 0)) (.tmp 100) 22 rfl wr.heap.size 34 i0 (.agg #[.int .i64 0, .int .i64 0, .int .i64 0, .int .i64 0]) 4 32 Try.underlying22 hi0 hz0 hz1 hz2 rfl (by decide) (.slice none 0 0) 0 [] rfl (World.ownsRow_nil wr _ _ _) ad mt.length cm (mvc mt) rfl (mvc_length mt) hmw.out.news (mvc_one mt) (by unfold maxLen; omega) (by omega) (Nat.le_refl _) ?_; intro v' w5 hown hgrow hnil)
            go_meet
            case rel =>
              rw [Nat.zero_add, List.nil_append] at hown
              have hh : Has w5 (fun k => B < k) 34 4 v' mt.length (mvc mt) := Has.owns hown (fun _ h => by omega)
              obtain ⟨a', c', hv, _⟩ := hh.form
              exact ⟨⟨a', c', hv, hh⟩, hK.out.below ((Below.refl _ _).grown hgrow (Nat.le_refl _) (fun k hk => by simp [Value.ownBlock] at hk))⟩
        case rest =>
          obtain ⟨⟨a0, c0', rfl, hrow⟩, hK2⟩ := hcut
          clear hK c0 c1 c2 r0 r1 r2 r3 y0 y1 hmw
          replace hrow := Mr.hid hrow
          replace hK2 := Mr.hid hK2
          go_wp2
          go_loopg [12, 13] 3 (fun k s12 s13 wy => ∃ (j : Nat) (a' : Option Addr) (c' : Nat), s12 = .slice a' (mt.length + j) c' ∧ s13 = .int .i64 (j : Int) ∧ j + k = 3 ∧ Has wy (fun k => B < k) 34 4 (.slice a' (mt.length + j) c') (mt.length + j) (mvc (mt ++ List.replicate j ⟨un, 0, 0, 0⟩)) ∧ Kp w wy B (.int .i64 (ft : Int)) (.slice a m1 cap) (.slice am mt.length cm) (.slice p1 Q.cls.length q1) (.slice p2 Q.lg.length q2) (.slice p4 Q.ws.length q4) Q)
          case atStart => exact ⟨0, a0, c0', rfl, rfl, rfl, by simpa using hrow.out, hK2.out⟩
          case round =>
            obtain ⟨j, a', c', rfl, rfl, hj, hrow, hK3⟩ := hrel
            clear hK2
            obtain ⟨⟨c0, c1, c2⟩, r0, r1, r2, r3⟩ := hK3.cells
            have y0 : w.heap.size < wr.heap.size := (Array.getElem?_eq_some_iff.1 hK3.s0).1
            have y1 : B < wr.heap.size := (Array.getElem?_eq_some_iff.1 hK3.r0).1
            by_cases hj3 : j < 3
            · have d1 : decide ((j : Int) < 3) = true := by simp; omega
              have d2 : decide (j < 3) = true := by simp; omega
              have law := fun o : Obj => hrow.alloc o
              have hS := fun o : Obj => (show B < (wr.alloc o).heap.size by simp; omega)
              have fin : ∀ (o : Obj) (w5 : World) (g cap5 : Nat), Has w5 (fun k => B < k) 34 4 (.slice (some ⟨g, 0, none⟩) (mt.length + j + 1) cap5) (mt.length + j + 1) (mvc (mt ++ List.replicate j ⟨un, 0, 0, 0⟩) ++ [.int .i64 (un : Int), .int .i64 0, .int .i64 0, .int .i64 0]) → (wr.alloc o).grownBy w5 (Value.slice a' (mt.length + j) c').ownBlock → Has w5 (fun k => B < k) 34 4 (.slice (some ⟨g, 0, none⟩) (mt.length + (j + 1)) cap5) (mt.length + (j + 1)) (mvc (mt ++ List.replicate (j + 1) ⟨un, 0, 0, 0⟩)) ∧ Kp w w5 B (.int .i64 (ft : Int)) (.slice a m1 cap) (.slice am mt.length cm) (.slice p1 Q.cls.length q1) (.slice p2 Q.lg.length q2) (.slice p4 Q.ws.length q4) Q := fun o w5 g cap5 hown hgrow => by
                refine ⟨?_, (hK3.alloc o).upto ((Below.refl (B + 1) _).grown hgrow (by simp; omega) (fun k hk => by have := (hrow.lt k hk).1; omega))⟩
                rw [List.replicate_succ', ← List.append_assoc, mvc_append _ [_]]
                exact hown
              replace fin := Mr.hid fin
              replace hrow := Mr.hid hrow
              replace hK3 := Mr.hid hK3
              go_wp2_with (at_builtin; refine wpList_append_has _ rfl (.tmp 106) (.tmp 109) 22 rfl (fun k => B < k) 34 i0 _ 4 32 Try.underlying22 hi0 hz0 hz1 hz2 rfl (.slice a' (mt.length + j) c') (mt.length + j) (mvc (mt ++ List.replicate j ⟨un, 0, 0, 0⟩)) rfl (law _) ⟨wr.heap.size, 0, none⟩ 1 1 [.int .i64 (un : Int), .int .i64 0, .int .i64 0, .int .i64 0] rfl rfl (newsAt wr _ #[.int .i64 (un : Int), .int .i64 0, .int .i64 0, .int .i64 0] 34 _ rfl rfl) (by simp [Value.oneCell']) (by omega) (by unfold maxLen; omega) (by omega) (hS _) ?_; intro g cap5 w5 hown hgrow hat; obtain ⟨q1', q2'⟩ := fin.out _ w5 g cap5 hown hgrow; clear fin hown hgrow law hS)
              go_roundg (gk - 1)
              case measure => omega
              case rel => exact ⟨j + 1, _, _, by simp [Nat.add_assoc], by simp, by omega, q1', q2'⟩
            · obtain rfl : j = 3 := by omega
              have PP' := PP.out wr hK3.bel _ _ _ _ _ hrow (by omega)
              have hfe : ∀ (c : Nat) (cl : Cl), ((Pm.new ft wt).play (mt ++ List.replicate 3 ⟨un, 0, 0, 0⟩)).cls[c]? = some cl → cl.th = un → 0 ≤ cl.fin := fails_end ft wt mt un hun (by omega)
              generalize (Pm.new ft wt).play (mt ++ List.replicate 3 ⟨un, 0, 0, 0⟩) = P at *
              have KO := fun (w5 : World) (u1 u2 u4 : Value) (hB : Below wr.heap.size wr w5) (h1 : Has w5 (fun k => wr.heap.size ≤ k) 52 9 u1 P.cls.length (clc P.cls)) (h2 : Has w5 (fun k => wr.heap.size ≤ k) 57 7 u2 P.lg.length (lgc P.lg)) (h4 : Has w5 (fun k => wr.heap.size ≤ k) 27 1 u4 P.ws.length (wrd P.ws)) => kq_over hK3 hB h1 h2 h4
              have KC := fun (w5 : World) (hB : Below wr.heap.size wr w5) => (hK3.below hB).cells.2
              have KF : ∀ (w5 : World) (hB : Below wr.heap.size wr w5), ∀ t, w5.frozen? ⟨B, t, none⟩ = false := fun w5 hB t => by simp [World.frozen?, (hK3.below hB).r0]
              replace hfe := Mr.hid hfe
              replace KO := Mr.hid KO
              replace KC := Mr.hid KC
              replace KF := Mr.hid KF
              replace hrow := Mr.hid hrow
              replace hK3 := Mr.hid hK3
              clear PP
              go_upto_region 26 with (go_at_call 15; refine PP'.mono ?_; clear PP'; rintro e w5 ⟨u1, u2, u4, rfl, hu1, hu2, hu4, hB5⟩; unfold runV; obtain ⟨k0, k1, k2, k3⟩ := KC.out w5 hB5; have kf := KF.out w5 hB5; obtain ⟨p5, q5, rfl, _⟩ := hu1.form; obtain ⟨p6, q6, rfl, _⟩ := hu2.form; obtain ⟨p7, q7, rfl, _⟩ := hu4.form; replace hu1 := Mr.hid hu1; replace hu2 := Mr.hid hu2; replace hu4 := Mr.hid hu4; replace hB5 := Mr.hid hB5)
              obtain ⟨hB6, G6⟩ := KO.out w5 _ _ _ hB5.out hu1.out hu2.out hu4.out
              clear c0 c1 c2 r0 r1 r2 r3 k0 k1 k2 k3 kf KO KC KF hu1 hu2 hu4 hB5 hK3 hrow
              generalize (((w5.setCell ⟨B, 0, none⟩ (.slice p5 P.cls.length q5)).setCell ⟨B, 1, none⟩ (.slice p6 P.lg.length q6)).setCell ⟨B, 2, none⟩ (.slice none 0 0)).setCell ⟨B, 3, none⟩ (.slice p7 P.ws.length q7) = W6 at *
              generalize w5.heap.size = Dd at *
              obtain ⟨s0, s1, s2, s3⟩ := G6.cells
              replace G6 := Mr.hid G6
              replace hB6 := Mr.hid hB6
              go_wp2
              go_loopg [125] P.cls.length (fun k s wy => ∃ j : Nat, s = .int .i64 (j : Int) ∧ j + k = P.cls.length ∧ Below w.heap.size w wy ∧ Kq wy B Dd (.slice p5 P.cls.length q5) (.slice p6 P.lg.length q6) (.slice p7 P.ws.length q7) P)
              case atStart => exact ⟨0, rfl, by omega, hB6.out, G6.out⟩
              case round =>
                obtain ⟨j, rfl, hj, hB7, hG⟩ := hrel
                clear s0 s1 s2 s3 G6 hB6
                obtain ⟨s0, s1, s2, s3⟩ := hG.cells
                by_cases hjl : j < P.cls.length
                · obtain ⟨cl, hcl⟩ : ∃ cl, P.cls[j]? = some cl := ⟨_, List.getElem?_eq_getElem hjl⟩
                  have hf := hfe.out j cl hcl
                  obtain ⟨g5, q5', hg5, hg5a, hg5l, hq5, hq6⟩ := hG.h1.there (by omega)
                  cases hg5
                  unfold maxLen at hq6
                  obtain ⟨t0, t1, t2, t3, t4, t5, t6, t7, t8⟩ := cl_cells hG.h1 hcl
                  have fin : ∀ o : Obj, Below w.heap.size w (wr.alloc o) ∧ Kq (wr.alloc o) B Dd (.slice (some ⟨g5, 0, none⟩) P.cls.length q5) (.slice p6 P.lg.length q6) (.slice p7 P.ws.length q7) P := fun o => ⟨hB7.alloc hB7.size o, hG.alloc o⟩
                  replace fin := Mr.hid fin
                  replace hG := Mr.hid hG
                  replace hB7 := Mr.hid hB7
                  replace hcl := Mr.hid hcl
                  by_cases hth : cl.th = un
                  · rw [hth] at t0
                    have d1 : decide (cl.fin < 0) = false := by have := hf hth; simp; omega
                    clear hf
                    go_wp2
                    go_roundg (gk - 1)
                    case measure => omega
                    case rel => exact ⟨j + 1, by simp, by omega, (fin.out _).1, (fin.out _).2⟩
                  · have d1 : (cl.th == (un : Int)) = false := by simpa using hth
                    clear hf
                    go_wp2
                    go_roundg (gk - 1)
                    case measure => omega
                    case rel => exact ⟨j + 1, by simp, by omega, (fin.out _).1, (fin.out _).2⟩
                · replace hB7 := Mr.hid hB7
                  go_wp2
                  go_ret
                  exact ⟨rfl, hB7.out⟩
theorem fails_law (th : Int) (a : Option Addr) (n cap : Nat) (ws : List Int) (am : Option Addr) (nm cm : Nat) (ms : List Mv) (u : Int) (w : World) (hs : Src w a n cap ws) (hm : MvAt w am nm ms) (hn : n ≤ cap) (hnm : nm ≤ cm) {p : Prop} (_ : p) :
    Calls Try.prog 6 #[.agg #[.int .i64 th, .slice a n cap, .slice am nm cm], .int .i64 u] w fun e w' => e = .returned (.bool true) ∧ Below w.heap.size w w' :=
  fails_walk w th a n cap am nm cm hn hnm ws ms hs hm u
end Go.Proofs.Ytiobchadjcekcaa.Ma
