/-
  MachineIdle: the walk.
-/
import Derived.Test.YtiobchadjcekcaaMacIdleK
namespace Go.Proofs.Ytiobchadjcekcaa.Ma
open Go.RowKit Go.Shelf Mr Me
set_option maxRecDepth 100000 in
set_option maxHeartbeats 4000000 in
theorem idle_walk (w : World) (th : Int) (a : Option Addr) (n cap : Nat) (am : Option Addr) (nm cm : Nat) (hn : n ≤ cap) (hnm : nm ≤ cm) (ws : List Int) (ms : List Mv) (hs : Src w a n cap ws) (hm : MvAt w am nm ms) :
    Calls Try.prog 8 #[.agg #[.int .i64 th, .slice a n cap, .slice am nm cm]] w fun e w' => e = .returned (.bool true) ∧ Below w.heap.size w w' := by
  have PL := fun (W : World) (hB : Below w.heap.size w W) => play_any W th a n cap am nm cm hn hnm ws ms (hs.below hB) (hm.below hB)
  obtain ⟨i0, hi0, hz0, hz1, hz2⟩ := info_parts info_move
  have hs' := src_take hs 8192
  have hmt := (hm.take 65536)
  unfold Playd at PL
  generalize hQ : (Pm.new (fitT th) (ws.take 8192)).play (ms.take 65536) = Q at PL
  have hfp := fitT_pos th
  generalize fitT th = ft at PL hQ hfp
  generalize hm1 : min n 8192 = m1 at PL hs'
  generalize hm2 : min nm 65536 = m2 at PL hmt
  generalize ws.take 8192 = wt at *
  generalize ms.take 65536 = mt at *
  have hm1' : m1 ≤ 8192 := by omega
  have hml := hmt.1
  have hlen : mt.length ≤ 65536 := by omega
  subst hml
  have hwn := hs'.1
  subst hwn
  have O := fun (W : World) => own_any wt.length W
  have NW := fun (W1 : World) (B : Below w.heap.size w W1) {K : Nat → Prop} {km s1 a1 s2 a2 : Nat} (hK : Kt W1 K km wt.length s1 a1 s2 a2) (hKl : ∀ k, K k → k < W1.heap.size) => newM_any W1 ft hfp.1 hfp.2 a wt.length cap wt (hs'.below B) hm1' hK hKl
  have PP := fun (W : World) (hB : Below w.heap.size w W) (S : Nat → Prop) (a' : Option Addr) (n' c' : Nat) (ms' : List Mv) (hr : Has W S 34 4 (.slice a' n' c') n' (mvc ms')) (hn' : n' ≤ 65536) => play_ok W ft hfp.1 hfp.2 a wt.length cap wt (hs'.below hB) hm1' a' n' c' ms' (has_mvat hr) hn'
  have RN : Rn ft wt mt Q (Ik ft wt mt mt.length) := by rw [← hQ, ← pk_all]; exact idle_rn ft wt mt hlen mt.length (Nat.le_refl _)
  have IN := ik_n ft wt mt mt.length hlen
  have HQ : Hs Q := by rw [← hQ]; exact (Hs.new ft wt).play mt
  have LQ : Lo Q := by rw [← hQ, ← pk_all]; exact pk_lo ft wt mt hlen mt.length (Nat.le_refl _)
  have NQ : Q.n = mt.length := by rw [← hQ, ← pk_all]; exact pk_n ft wt mt hlen mt.length (Nat.le_refl _)
  replace hQ := Mr.hid hQ
  replace RN := Mr.hid RN
  replace IN := Mr.hid IN
  replace HQ := Mr.hid HQ
  replace LQ := Mr.hid LQ
  replace NQ := Mr.hid NQ
  replace hm1 := Mr.hid hm1
  replace hm2 := Mr.hid hm2
  replace hs' := Mr.hid hs'
  replace hmt := Mr.hid hmt
  replace PP := Mr.hid PP
  clear hs hm
  have hb0 : ∀ (o : Obj), (w.alloc o).heap[w.heap.size]? = some o := fun o => heap_alloc_new w o
  have hB0 := fun o => (Below.refl w.heap.size w).alloc (Nat.le_refl _) o
  go_enter Try.func8, Try.ntmps8
  go_upto_region 4 with (first
    | (go_at_call 14; refine (PL _ (hB0 _)).mono ?_; clear PL; rintro e w1 ⟨v1, v2, v4, rfl, hv1, hv2, hv4, hB1⟩; have hs1 := (hB1.block w.heap.size (by simp)).trans (hb0 _); have c0 : w1.cell? ⟨w.heap.size, 0, none⟩ = some (.int .i64 th) := (by simp [World.cell?, hs1]); have c1 : w1.cell? ⟨w.heap.size, 1, none⟩ = some (.slice a n cap) := (by simp [World.cell?, hs1]); have c2 : w1.cell? ⟨w.heap.size, 2, none⟩ = some (.slice am nm cm) := (by simp [World.cell?, hs1]); have c3 : ∀ j, w1.frozen? ⟨w.heap.size, j, none⟩ = false := (fun j => by simp [World.frozen?, hs1]); have lt1 : w.heap.size < w1.heap.size := (Array.getElem?_eq_some_iff.1 hs1).1; have Bw1 : Below w.heap.size w w1 := (hB0 _).trans (hB1.mono (by simp)); simp only [World.size_alloc] at hv1 hv2 hv4; replace hs1 := Mr.hid hs1; clear hB1; replace Bw1 := Mr.hid Bw1; obtain ⟨p1, q1, rfl, _⟩ := hv1.form; obtain ⟨p2, q2, rfl, _⟩ := hv2.form; obtain ⟨p4, q4, rfl, _⟩ := hv4.form; replace hv1 := Mr.hid hv1; replace hv2 := Mr.hid hv2; replace hv4 := Mr.hid hv4)
    | fail)
  have K2 := kp_open (x := .int .i64 (ft : Int)) (y := .slice a wt.length cap) (z := .slice am mt.length cm) hs1.out Bw1.out hv1.out hv2.out hv4.out
  generalize (((w1.setCell ⟨w.heap.size, 0, none⟩ (.int .i64 (ft : Int))).setCell ⟨w.heap.size, 1, none⟩ (.slice a wt.length cap)).setCell ⟨w.heap.size, 2, none⟩ (.slice am mt.length cm)).alloc (.cells #[.slice p1 Q.cls.length q1, .slice p2 Q.lg.length q2, .slice none 0 0, .slice p4 Q.ws.length q4] 41) = W2 at *
  have z2 : w1.heap.size < W2.heap.size := (Array.getElem?_eq_some_iff.1 K2.r0).1
  have z2' : w.heap.size < W2.heap.size := by omega
  clear c0 c1 c2 c3 hs1 Bw1 hv1 hv2 hv4 hb0 hB0
  generalize w1.heap.size = B at *
  obtain ⟨⟨c0, c1, c2⟩, r0, r1, r2, r3⟩ := K2.cells
  have KD : Kp w W2.drew B (.int .i64 (ft : Int)) (.slice a wt.length cap) (.slice am mt.length cm) (.slice p1 Q.cls.length q1) (.slice p2 Q.lg.length q2) (.slice p4 Q.ws.length q4) Q := K2.below (Below.refl _ _).drew
  replace KD := Mr.hid KD
  replace K2 := Mr.hid K2
  go_wp2
  go_region_held3 (fun w' => w'.cell? ⟨w.heap.size, 0, none⟩ = some (.int .i64 (ft : Int)) ∧ w'.cell? ⟨w.heap.size, 1, none⟩ = some (.slice a wt.length cap)) (go_keep)
    (first
      | (go_at_call 10; refine (O _).mono ?_; clear O; rintro e w3 ⟨rfl, hK, hB3⟩; have KE := KD.out.below hB3; have NW1 := NW w3 KE.bel hK (fun k hk => hk.2); clear NW; obtain ⟨k0, k1, k2⟩ := KE.cells.1; have z3 := hB3.size; replace hK := Mr.hid hK; replace hB3 := Mr.hid hB3; replace KE := Mr.hid KE)
      | (go_at_call 9; refine NW1.mono ?_; clear NW1; rintro e w4 ⟨q, U, rfl, hR, hvs, hUl, hB4⟩; have KF := KE.out.below hB4; obtain ⟨l0, l1, l2⟩ := KF.cells.1; replace hR := Mr.hid hR; replace hUl := Mr.hid hUl; replace hvs := Mr.hid hvs; replace hB4 := Mr.hid hB4; replace KF := Mr.hid KF))
  have L0 : Lv w4 U W2.heap.size w3.heap.size q (Pm.new ft wt) := ⟨hR.out, hUl.out, hvs.out⟩
  have zk : w3.heap.size ≤ w4.heap.size := hB4.out.size
  have z3' : W2.heap.size ≤ w3.heap.size := z3
  rename_i hHeld
  clear hHeld z3 hR hUl hvs hB4 hB3 hK KE KD K2 k0 k1 k2 l0 l1 l2 c0 c1 c2 r0 r1 r2 r3
  generalize w3.heap.size = k1 at *
  obtain ⟨⟨c0, c1, c2⟩, r0, r1, r2, r3⟩ := KF.out.cells
  have hmk := fun u => make_ints u mt.length (by omega)
  have hnu : ¬ U w4.heap.size := fun h => by have := L0.ul _ h; omega
  have hmb := made_ints w4 (fun k => k1 ≤ k ∧ ¬ U k) (kt ft wt mt) mt.length (by omega) ⟨zk, hnu⟩
  have hK3 := KF.out.alloc (.cells (madeCells #[.int .i64 0] (mt.length + 1)) 3)
  have hL3 := L0.below ((Below.refl _ _).alloc (Nat.le_refl _) (.cells (madeCells #[.int .i64 0] (mt.length + 1)) 3))
  have zw : w.heap.size < w4.heap.size := by omega
  replace L0 := Mr.hid L0
  replace hmb := Mr.hid hmb
  replace hK3 := Mr.hid hK3
  replace hL3 := Mr.hid hL3
  replace hnu := Mr.hid hnu
  go_wp2
  go_loopg [7, 52] mt.length (fun k s7 s52 wr => ∃ (i : Nat) (V : Nat → Prop) (a' : Option Addr) (c' : Nat), s7 = .slice a' (kt ft wt mt i).length c' ∧ s52 = .int .i64 (i : Int) ∧ i + k = mt.length ∧ Kp w wr B (.int .i64 (ft : Int)) (.slice a wt.length cap) (.slice am mt.length cm) (.slice p1 Q.cls.length q1) (.slice p2 Q.lg.length q2) (.slice p4 Q.ws.length q4) Q ∧ Lv wr V W2.heap.size k1 q (Pk ft wt mt i) ∧ Has wr (fun k => k1 ≤ k ∧ ¬ V k) 34 4 (.slice a' (kt ft wt mt i).length c') (kt ft wt mt i).length (mvc (kt ft wt mt i)) ∧ Has wr (fun k => k1 ≤ k ∧ ¬ V k) 3 1 (.slice (some ⟨w4.heap.size, 0, none⟩) (mt.length + 1) (mt.length + 1)) (mt.length + 1) (nums (kt ft wt mt) mt.length i))
  case atStart => exact ⟨0, U, none, 0, rfl, rfl, by omega, hK3.out, hL3.out, Has.nil _ _ _ _, hmb.out⟩
  case round =>
    obtain ⟨i, V, a', c', rfl, rfl, hi, hK, hL, hrow, hnum⟩ := hrel
    clear c0 c1 c2 r0 r1 r2 r3 hK3 hL3 hmb L0 KF hmk
    obtain ⟨⟨c0, c1, c2⟩, r0, r1, r2, r3⟩ := hK.cells
    have y0 : w.heap.size < wr.heap.size := (Array.getElem?_eq_some_iff.1 hK.s0).1
    have y1 : B < wr.heap.size := (Array.getElem?_eq_some_iff.1 hK.r0).1
    have y2 : w4.heap.size < wr.heap.size := (hnum.lt _ rfl).2
    have hnV : ¬ V w4.heap.size := (hnum.lt _ rfl).1.2
    by_cases hlt : i < mt.length
    · as_aux_lemma =>
      rcases hmt.out.2 with h0 | ⟨bo, oo, rfl, hbo, hc⟩
      · rw [h0] at hlt; simp at hlt
      obtain ⟨d0, d1, d2, d3⟩ := hc i hlt
      have hcW := fun (j : Nat) (u : Value) (hu : w.cell? ⟨bo, j, none⟩ = some u) => (hK.bel.cell (p := ⟨bo, j, none⟩) hbo).trans hu
      have g0 := hcW _ _ d0
      have g1 := hcW _ _ d1
      have g2 := hcW _ _ d2
      have g3 := hcW _ _ d3
      have hbol : bo < wr.heap.size := by omega
      clear hc hcW d0 d1 d2 d3
      have hsn : Pk ft wt mt (i + 1) = ((Pk ft wt mt i).move (mt[i]?.getD noMv).th (mt[i]?.getD noMv).op (mt[i]?.getD noMv).arg (mt[i]?.getD noMv).data).1 := play_snoc (Pm.new ft wt) mt i hlt
      have hdd : ((Pk ft wt mt i).move (mt[i]?.getD noMv).th (mt[i]?.getD noMv).op (mt[i]?.getD noMv).arg (mt[i]?.getD noMv).data).2 = did ft wt mt i := rfl
      have hkt : kt ft wt mt (i + 1) = if did ft wt mt i = true then kt ft wt mt i ++ [mt[i]?.getD noMv] else kt ft wt mt i := rfl
      have hkl := kt_le ft wt mt i
      generalize mt[i]?.getD noMv = m at *
      have hx := hnum.cells (g := w4.heap.size) rfl i _ (nums_get _ _ _ _ (by omega))
      have hfz := hnum.frozen (g := w4.heap.size) rfl
      generalize (if i < i then ((kt ft wt mt i).length : Int) else 0) = xo at hx
      have hset : ∀ k, V k ∨ k < k1 → (wr.setCell ⟨w4.heap.size, i, none⟩ (.int .i64 ((kt ft wt mt i).length : Int))).heap[k]? = wr.heap[k]? := fun k hk => Below.heap_setCell _ _ _ _ (by
        simp only
        intro e
        subst e
        rcases hk with h | h
        · exact hnV h
        · omega)
      have LS := fun (o : Obj) => (hL.kept hset (by simp)).below ((Below.refl _ _).alloc (Nat.le_refl _) o)
      have KS := fun (o : Obj) => ((hK.set ⟨w4.heap.size, i, none⟩ (by simp only; omega) (.int .i64 ((kt ft wt mt i).length : Int))).alloc o)
      have rne : Value.ownBlock (.slice a' (kt ft wt mt i).length c') ≠ some w4.heap.size := has_ne hnum hrow (by decide) _ rfl
      have MS := fun (o : Obj) => (hrow.setCell ⟨w4.heap.size, i, none⟩ (.int .i64 ((kt ft wt mt i).length : Int)) rne).alloc o
      have NS := fun (o : Obj) => (has_put hnum i (.int .i64 ((kt ft wt mt i).length : Int))).alloc o
      rw [nums_set] at NS
      have MV := fun (o : Obj) => live_move (LS o) m.th m.op m.arg m.data
      rw [hdd] at MV
      have hbxn : ∀ o : Obj, ((wr.setCell ⟨w4.heap.size, i, none⟩ (.int .i64 ((kt ft wt mt i).length : Int))).alloc o).heap[wr.heap.size]? = some o := fun o => by have := heap_alloc_new (wr.setCell ⟨w4.heap.size, i, none⟩ (.int .i64 ((kt ft wt mt i).length : Int))) o; simpa using this
      have hVl : ∀ k, V k → k < wr.heap.size := hL.ul
      have after : ∀ (o : Obj) (w5 : World), (∃ U', Lv w5 U' W2.heap.size k1 q ((Pk ft wt mt i).move m.th m.op m.arg m.data).1 ∧ (∀ k, U' k → V k ∨ ((wr.setCell ⟨w4.heap.size, i, none⟩ (.int .i64 ((kt ft wt mt i).length : Int))).alloc o).heap.size ≤ k) ∧ Fr ((wr.setCell ⟨w4.heap.size, i, none⟩ (.int .i64 ((kt ft wt mt i).length : Int))).alloc o) w5 V) → ∃ U', Lv w5 U' W2.heap.size k1 q (Pk ft wt mt (i + 1)) ∧ Kp w w5 B (.int .i64 (ft : Int)) (.slice a wt.length cap) (.slice (some ⟨bo, oo, none⟩) mt.length cm) (.slice p1 Q.cls.length q1) (.slice p2 Q.lg.length q2) (.slice p4 Q.ws.length q4) Q ∧ Has w5 (fun k => k1 ≤ k ∧ ¬ U' k) 34 4 (.slice a' (kt ft wt mt i).length c') (kt ft wt mt i).length (mvc (kt ft wt mt i)) ∧ Has w5 (fun k => k1 ≤ k ∧ ¬ U' k) 3 1 (.slice (some ⟨w4.heap.size, 0, none⟩) (mt.length + 1) (mt.length + 1)) (mt.length + 1) (nums (kt ft wt mt) mt.length (i + 1)) ∧ w5.heap[wr.heap.size]? = some o ∧ wr.heap.size < w5.heap.size := fun o w5 ⟨U', h1, h2, h3⟩ => by
        have hsz := h3.size
        simp only [World.size_alloc, World.size_setCell] at hsz
        refine ⟨U', by rw [hsn]; exact h1, (KS o).upto (h3.below (fun k hk => by have := hL.u k hk; omega) (by simp; omega)), has_out (MS o) h2 h3, has_out (NS o) h2 h3, (h3.block _ (by simp) (fun h => by have := hVl _ h; omega)).trans (hbxn o), by omega⟩
      clear hbxn LS KS MS NS hset
      generalize did ft wt mt i = db at *
      replace after := Mr.hid after
      replace hK := Mr.hid hK
      replace hL := Mr.hid hL
      replace hrow := Mr.hid hrow
      replace hnum := Mr.hid hnum
      replace hsn := Mr.hid hsn
      replace hdd := Mr.hid hdd
      replace hkt := Mr.hid hkt
      replace hVl := Mr.hid hVl
      replace rne := Mr.hid rne
      replace hnV := Mr.hid hnV
      go_upto_region 13 with fail
      go_upto_if 64 with (go_at_call 11; refine (MV _).mono ?_; clear MV; rintro e w5 ⟨rfl, hO⟩; obtain ⟨U', s1, s2, s3, s4, s5, s6⟩ := after.out _ w5 hO; clear after hO; have b0 : w5.cell? ⟨wr.heap.size, 0, none⟩ = some (.int .i64 m.th) := (by simp [World.cell?, s5]); have b1 : w5.cell? ⟨wr.heap.size, 1, none⟩ = some (.int .i64 m.op) := (by simp [World.cell?, s5]); have b2 : w5.cell? ⟨wr.heap.size, 2, none⟩ = some (.int .i64 m.arg) := (by simp [World.cell?, s5]); have b3 : w5.cell? ⟨wr.heap.size, 3, none⟩ = some (.int .i64 m.data) := (by simp [World.cell?, s5]); replace s1 := Mr.hid s1; replace s2 := Mr.hid s2; replace s3 := Mr.hid s3; replace s4 := Mr.hid s4; replace s5 := Mr.hid s5)
      clear c0 c1 c2 r0 r1 r2 r3 hx hfz hK hL hrow hnum
      cases db with
      | false =>
        have hkt' : kt ft wt mt (i + 1) = kt ft wt mt i := by rw [hkt.out]; rfl
        replace hkt' := Mr.hid hkt'
        go_wp2
        go_roundg (gk - 1)
        case measure => omega
        case rel => exact ⟨i + 1, U', a', c', by rw [hkt'.out], by simp, by omega, s2.out, s1.out, by rw [hkt'.out]; exact s3.out, s4.out⟩
      | true =>
        have hkt' : kt ft wt mt (i + 1) = kt ft wt mt i ++ [m] := by rw [hkt.out]; rfl
        have hkl' : (kt ft wt mt (i + 1)).length = (kt ft wt mt i).length + 1 := by rw [hkt']; simp
        have hUl : ∀ k, U' k → k < w5.heap.size := s1.out.ul
        have law := fun o : Obj => s3.out.alloc o
        have zk5 : k1 ≤ w5.heap.size := by omega
        have hS := fun o : Obj => (show k1 ≤ (w5.alloc o).heap.size ∧ ¬ U' (w5.alloc o).heap.size from ⟨by simp; omega, fun h => by have := hUl _ h; simp only [World.size_alloc] at this; omega⟩)
        have fin : ∀ (o : Obj) (w6 : World) (g cap6 : Nat), Has w6 (fun k => k1 ≤ k ∧ ¬ U' k) 34 4 (.slice (some ⟨g, 0, none⟩) ((kt ft wt mt i).length + 1) cap6) ((kt ft wt mt i).length + 1) (mvc (kt ft wt mt i) ++ [.int .i64 m.th, .int .i64 m.op, .int .i64 m.arg, .int .i64 m.data]) → (w5.alloc o).grownBy w6 (Value.slice a' (kt ft wt mt i).length c').ownBlock → Lv w6 U' W2.heap.size k1 q (Pk ft wt mt (i + 1)) ∧ Kp w w6 B (.int .i64 (ft : Int)) (.slice a wt.length cap) (.slice (some ⟨bo, oo, none⟩) mt.length cm) (.slice p1 Q.cls.length q1) (.slice p2 Q.lg.length q2) (.slice p4 Q.ws.length q4) Q ∧ Has w6 (fun k => k1 ≤ k ∧ ¬ U' k) 34 4 (.slice (some ⟨g, 0, none⟩) (kt ft wt mt (i + 1)).length cap6) (kt ft wt mt (i + 1)).length (mvc (kt ft wt mt (i + 1))) ∧ Has w6 (fun k => k1 ≤ k ∧ ¬ U' k) 3 1 (.slice (some ⟨w4.heap.size, 0, none⟩) (mt.length + 1) (mt.length + 1)) (mt.length + 1) (nums (kt ft wt mt) mt.length (i + 1)) := fun o w6 g cap6 hown hgrow => by
          have rowS : ∀ k, (Value.slice a' (kt ft wt mt i).length c').ownBlock = some k → k1 ≤ k ∧ ¬ U' k := fun k hk => (s3.out.lt k hk).1
          have hBa := (Below.refl w5.heap.size w5).alloc (Nat.le_refl _) o
          have zz : w5.heap.size ≤ (w5.alloc o).heap.size := by simp
          refine ⟨(s1.out.below hBa).kept (fun k hk => hgrow.block k (by rcases hk with h | h; (have := hUl k h; omega); omega) (fun e => ?_)) hgrow.size, (s2.out.alloc o).upto ((Below.refl (B + 1) _).grown hgrow (by simp; omega) (fun k hk => by have := (rowS k hk).1; omega)), ?_, (s4.out.alloc o).grown hgrow (fun k hk e => has_ne s4.out s3.out (by decide) k hk e)⟩
          · rcases hk with h | h
            · exact (rowS k e.symm).2 h
            · have := (rowS k e.symm).1; omega
          · rw [hkl', hkt', mvc_append]
            exact hown
        replace fin := Mr.hid fin
        replace hkt' := Mr.hid hkt'
        replace hUl := Mr.hid hUl
        have hkl2 := Mr.hid hkl'
        clear hkl'
        go_wp2_with (at_builtin; refine wpList_append_has _ rfl (.tmp 65) (.tmp 67) 22 rfl (fun k => k1 ≤ k ∧ ¬ U' k) 34 i0 _ 4 32 Try.underlying22 hi0 hz0 hz1 hz2 rfl (.slice a' (kt ft wt mt i).length c') (kt ft wt mt i).length (mvc (kt ft wt mt i)) rfl (law _) ⟨w5.heap.size, 0, none⟩ 1 1 [.int .i64 m.th, .int .i64 m.op, .int .i64 m.arg, .int .i64 m.data] rfl rfl (newsAt w5 _ #[.int .i64 m.th, .int .i64 m.op, .int .i64 m.arg, .int .i64 m.data] 34 _ rfl rfl) (by simp [Value.oneCell']) (by omega) (by unfold maxLen; omega) (by omega) (hS _) ?_; intro g cap6 w6 hown hgrow hat; obtain ⟨t1, t2, t3, t4⟩ := fin.out _ w6 g cap6 hown hgrow; clear fin hown hgrow law hS; replace t1 := Mr.hid t1; replace t2 := Mr.hid t2; replace t3 := Mr.hid t3; replace t4 := Mr.hid t4)
        go_roundg (gk - 1)
        case measure => omega
        case rel => exact ⟨i + 1, U', _, _, by rw [hkl2.out], by simp, by omega, t2.out, t1.out, t3.out, t4.out⟩
    · obtain rfl : i = mt.length := by omega
      have PP' := PP.out wr hK.bel _ _ _ _ _ hrow (by have := kt_le ft wt mt mt.length; omega)
      have RN' := RN.out
      have IN' := IN.out
      unfold Ik at RN' IN'
      clear RN IN PP
      generalize (Pm.new ft wt).play (kt ft wt mt mt.length) = P at *
      have e1 : P.cls.length = Q.cls.length := by rw [RN'.cls]; simp
      have e2 : P.lg.length = Q.lg.length := by rw [RN'.lg]; simp
      have e3 : P.ws.length = Q.ws.length := by rw [RN'.wds]
      have e4 : (kt ft wt mt mt.length).length = P.cls.length + P.lg.length := by rw [← IN']; exact RN'.n
      have b1 : ((P.cls.length : Int) != (Q.cls.length : Int)) = false := by simp; omega
      have b2 : ((P.cls.length : Int) == (Q.cls.length : Int)) = true := by simp; omega
      have b3 : ((P.lg.length : Int) != (Q.lg.length : Int)) = false := by simp; omega
      have b4 : ((P.lg.length : Int) == (Q.lg.length : Int)) = true := by simp; omega
      have b5 : ((P.ws.length : Int) != (Q.ws.length : Int)) = false := by simp; omega
      have b6 : ((P.ws.length : Int) == (Q.ws.length : Int)) = true := by simp; omega
      have b7 : (((kt ft wt mt mt.length).length : Int) != (P.cls.length : Int) + (P.lg.length : Int)) = false := by simp; omega
      have b8 : (((kt ft wt mt mt.length).length : Int) == (P.cls.length : Int) + (P.lg.length : Int)) = true := by simp; omega
      have lcl : Q.cls.length ≤ mt.length := by have := play_cls (Hs.new ft wt) mt; rw [hQ.out] at this; simpa [Pm.new] using this
      have lkt := kt_le ft wt mt mt.length
      have lp1 : P.cls.length ≤ 65536 := by omega
      have lp2 : P.lg.length ≤ 65536 := by omega
      have nx := fun (w5 : World) (hB : Below wr.heap.size wr w5) (u1 u2 u4 : Value) => (show Kp w (w5.alloc (.cells #[u1, u2, .slice none 0 0, u4] 41)) B (.int .i64 (ft : Int)) (.slice a wt.length cap) (.slice am mt.length cm) (.slice p1 Q.cls.length q1) (.slice p2 Q.lg.length q2) (.slice p4 Q.ws.length q4) Q ∧ Has (w5.alloc (.cells #[u1, u2, .slice none 0 0, u4] 41)) (fun k => k < w5.heap.size + 1) 3 1 (.slice (some ⟨w4.heap.size, 0, none⟩) (mt.length + 1) (mt.length + 1)) (mt.length + 1) (nums (kt ft wt mt) mt.length mt.length) from ⟨(hK.below hB).alloc _, ((hnum.below hB).alloc _).kept (fun _ _ => rfl) (fun k hk => by have := (hnum.lt k hk).2; have := hB.size; omega)⟩)
      have kcl := fun (w5 : World) (hB : Below wr.heap.size wr w5) => (hK.below hB).cells
      replace nx := Mr.hid nx
      replace kcl := Mr.hid kcl
      replace hK := Mr.hid hK
      replace hL := Mr.hid hL
      replace hrow := Mr.hid hrow
      replace hnum := Mr.hid hnum
      replace RN' := Mr.hid RN'
      replace e1 := Mr.hid e1
      replace e2 := Mr.hid e2
      replace e3 := Mr.hid e3
      replace e4 := Mr.hid e4
      replace IN' := Mr.hid IN'
      go_upto_region 17 with (go_at_call 15; refine PP'.mono ?_; clear PP'; rintro e w5 ⟨u1, u2, u4, rfl, hu1, hu2, hu4, hB5⟩; unfold runV; obtain ⟨p5, q5, rfl, _⟩ := hu1.form; obtain ⟨p6, q6, rfl, _⟩ := hu2.form; obtain ⟨p7, q7, rfl, _⟩ := hu4.form; replace hu1 := Mr.hid hu1; replace hu2 := Mr.hid hu2; replace hu4 := Mr.hid hu4; replace hB5 := Mr.hid hB5)
      obtain ⟨K6, N6⟩ := nx.out w5 hB5.out (.slice p5 P.cls.length q5) (.slice p6 P.lg.length q6) (.slice p7 P.ws.length q7)
      have G6 := kq_next hu1.out hu2.out hu4.out
      clear nx kcl hu1 hu2 hu4 hB5 hK hL hrow hnum c0 c1 c2 r0 r1 r2 r3
      generalize w5.alloc (.cells #[.slice p5 P.cls.length q5, .slice p6 P.lg.length q6, .slice none 0 0, .slice p7 P.ws.length q7] 41) = W6 at *
      generalize w5.heap.size + 1 = D at *
      generalize w5.heap.size = B2 at *
      generalize w4.heap.size = gn at *
      obtain ⟨⟨c0, c1, c2⟩, r0, r1, r2, r3⟩ := K6.cells
      obtain ⟨s0, s1, s2, s3⟩ := G6.cells
      replace K6 := Mr.hid K6
      replace G6 := Mr.hid G6
      replace N6 := Mr.hid N6
      go_wp2
      go_loopg [121] Q.lg.length (fun k s wy => ∃ j : Nat, s = .int .i64 (j : Int) ∧ j + k = Q.lg.length ∧ Kp w wy B (.int .i64 (ft : Int)) (.slice a wt.length cap) (.slice am mt.length cm) (.slice p1 Q.cls.length q1) (.slice p2 Q.lg.length q2) (.slice p4 Q.ws.length q4) Q ∧ Kq wy B2 D (.slice p5 P.cls.length q5) (.slice p6 P.lg.length q6) (.slice p7 P.ws.length q7) P ∧ Has wy (fun k => k < D) 3 1 (.slice (some ⟨gn, 0, none⟩) (mt.length + 1) (mt.length + 1)) (mt.length + 1) (nums (kt ft wt mt) mt.length mt.length))
      case atStart => exact ⟨0, rfl, by omega, K6.out, G6.out, N6.out⟩
      case round =>
        obtain ⟨j, rfl, hj, hK, hG, hN⟩ := hrel
        clear c0 c1 c2 r0 r1 r2 r3 s0 s1 s2 s3 K6 G6 N6
        obtain ⟨⟨c0, c1, c2⟩, r0, r1, r2, r3⟩ := hK.cells
        obtain ⟨s0, s1, s2, s3⟩ := hG.cells
        have x0 : w.heap.size < wr.heap.size := (Array.getElem?_eq_some_iff.1 hK.s0).1
        have x1 : B < wr.heap.size := (Array.getElem?_eq_some_iff.1 hK.r0).1
        have x2 : B2 < wr.heap.size := (Array.getElem?_eq_some_iff.1 hG.r0).1
        have x3 : gn < wr.heap.size := (hN.lt _ rfl).2
        by_cases hjl : j < Q.lg.length
        · as_aux_lemma =>
          obtain ⟨ac, hac⟩ : ∃ ac, Q.lg[j]? = some ac := ⟨_, List.getElem?_eq_getElem hjl⟩
          have hac' : P.lg[j]? = some (renA ft wt mt ac) := by rw [RN'.out.lg]; simp [hac]
          have lo := LQ.out ac (List.mem_of_getElem? hac)
          have nq := NQ.out
          obtain ⟨k, hk⟩ : ∃ k : Nat, ac.mv = k := ⟨ac.mv.toNat, by omega⟩
          have hkl : k < mt.length := by omega
          obtain ⟨g1, q1', hg1, hg1b, hg1l, hq1, hq2⟩ := hK.h2.there (by omega)
          cases hg1
          unfold maxLen at hq2
          obtain ⟨f0, f1, f2, f3, f4, f5, f6⟩ := ac_cells hK.h2 hac
          have e2' := e2.out
          obtain ⟨g5, q5', hg5, hg5b, hg5l, hq5, hq6⟩ := hG.h2.there (by omega)
          cases hg5
          unfold maxLen at hq6
          obtain ⟨t0, t1, t2, t3, t4, t5, t6⟩ := ac_cells hG.h2 hac'
          simp only [renA] at t0 t1 t2 t3 t4 t5 t6
          have hx := hN.cells (g := gn) rfl k _ (nums_get _ _ _ _ (by omega))
          rw [if_pos hkl] at hx
          rw [hk, nmb_nat] at t0
          rw [hk] at f0
          have jl : j < P.lg.length := by omega
          have v1 : decide ((k : Int) < 0) = false := by simp
          have v2 : decide ((mt.length : Int) + 1 ≤ (k : Int)) = false := by simp; omega
          have v3 : decide (mt.length + 1 ≤ k) = false := by simp; omega
          have fin : ∀ (o : Obj) (nd : Nat), Kp w ((wr.alloc o).drewN nd) B (.int .i64 (ft : Int)) (.slice a wt.length cap) (.slice am mt.length cm) (.slice p1 Q.cls.length q1) (.slice (some ⟨g1, 0, none⟩) Q.lg.length q2) (.slice p4 Q.ws.length q4) Q ∧ Kq ((wr.alloc o).drewN nd) B2 D (.slice p5 P.cls.length q5) (.slice (some ⟨g5, 0, none⟩) P.lg.length q6) (.slice p7 P.ws.length q7) P ∧ Has ((wr.alloc o).drewN nd) (fun k => k < D) 3 1 (.slice (some ⟨gn, 0, none⟩) (mt.length + 1) (mt.length + 1)) (mt.length + 1) (nums (kt ft wt mt) mt.length mt.length) := fun o nd => ⟨(hK.alloc o).drewN nd, (hG.alloc o).drewN nd, has_drewN (hN.alloc o) nd⟩
          generalize ((kt ft wt mt k).length : Int) = nk at *
          replace fin := Mr.hid fin
          replace hK := Mr.hid hK
          replace hG := Mr.hid hG
          replace hN := Mr.hid hN
          replace hac := Mr.hid hac
          replace hac' := Mr.hid hac'
          replace hk := Mr.hid hk
          clear e2' nq lo
          go_upto_region 27 with fail
          go_quiet (fail)
          go_wp2
          go_roundg (gk - 1)
          case measure => omega
          case rel => exact ⟨j + 1, by simp, by omega, (fin.out _ _).1, (fin.out _ _).2.1, (fin.out _ _).2.2⟩
        · replace hK := Mr.hid hK
          replace hG := Mr.hid hG
          replace hN := Mr.hid hN
          go_wp2
          go_loopg [153] Q.cls.length (fun k s wy => ∃ i : Nat, s = .int .i64 (i : Int) ∧ i + k = Q.cls.length ∧ Kp w wy B (.int .i64 (ft : Int)) (.slice a wt.length cap) (.slice am mt.length cm) (.slice p1 Q.cls.length q1) (.slice p2 Q.lg.length q2) (.slice p4 Q.ws.length q4) Q ∧ Kq wy B2 D (.slice p5 P.cls.length q5) (.slice p6 P.lg.length q6) (.slice p7 P.ws.length q7) P ∧ Has wy (fun k => k < D) 3 1 (.slice (some ⟨gn, 0, none⟩) (mt.length + 1) (mt.length + 1)) (mt.length + 1) (nums (kt ft wt mt) mt.length mt.length))
          case atStart => exact ⟨0, rfl, by omega, hK.out, hG.out, hN.out⟩
          case round =>
            obtain ⟨i, rfl, hi, hK', hG', hN'⟩ := hrel
            clear c0 c1 c2 r0 r1 r2 r3 s0 s1 s2 s3 hK hG hN x0 x1 x2 x3
            obtain ⟨⟨c0, c1, c2⟩, r0, r1, r2, r3⟩ := hK'.cells
            obtain ⟨s0, s1, s2, s3⟩ := hG'.cells
            have x0 : w.heap.size < wr.heap.size := (Array.getElem?_eq_some_iff.1 hK'.s0).1
            have x1 : B < wr.heap.size := (Array.getElem?_eq_some_iff.1 hK'.r0).1
            have x2 : B2 < wr.heap.size := (Array.getElem?_eq_some_iff.1 hG'.r0).1
            have x3 : gn < wr.heap.size := (hN'.lt _ rfl).2
            by_cases hil : i < Q.cls.length
            · as_aux_lemma =>
              obtain ⟨cl, hcl⟩ : ∃ cl, Q.cls[i]? = some cl := ⟨_, List.getElem?_eq_getElem hil⟩
              have hcl' : P.cls[i]? = some (renC ft wt mt cl) := by rw [RN'.out.cls]; simp [hcl]
              have ck := HQ.out.cl i cl hcl
              have nq := NQ.out
              have cb0 := ck.b0
              have cb1 := ck.b1
              obtain ⟨kb, hkb⟩ : ∃ k : Nat, cl.beg = k := ⟨cl.beg.toNat, by omega⟩
              have hkl : kb < mt.length := by omega
              obtain ⟨g1, q1', hg1, hg1b, hg1l, hq1, hq2⟩ := hK'.h1.there (by omega)
              cases hg1
              unfold maxLen at hq2
              obtain ⟨f0, f1, f2, f3, f4, f5, f6, f7, f8⟩ := cl_cells hK'.h1 hcl
              have e1' := e1.out
              obtain ⟨g5, q5', hg5, hg5b, hg5l, hq5, hq6⟩ := hG'.h1.there (by omega)
              cases hg5
              unfold maxLen at hq6
              obtain ⟨t0, t1, t2, t3, t4, t5, t6, t7, t8⟩ := cl_cells hG'.h1 hcl'
              simp only [renC] at t0 t1 t2 t3 t4 t5 t6 t7 t8
              have hx := hN'.cells (g := gn) rfl kb _ (nums_get _ _ _ _ (by omega))
              rw [if_pos hkl] at hx
              rw [hkb, nmb_nat] at t4
              rw [hkb] at f4
              have jl : i < P.cls.length := by omega
              have v1 : decide ((kb : Int) < 0) = false := by simp
              have v2 : decide ((mt.length : Int) + 1 ≤ (kb : Int)) = false := by simp; omega
              have v3 : decide (mt.length + 1 ≤ kb) = false := by simp; omega
              have fin : ∀ (o : Obj) (nd : Nat), Kp w ((wr.alloc o).drewN nd) B (.int .i64 (ft : Int)) (.slice a wt.length cap) (.slice am mt.length cm) (.slice (some ⟨g1, 0, none⟩) Q.cls.length q1) (.slice p2 Q.lg.length q2) (.slice p4 Q.ws.length q4) Q ∧ Kq ((wr.alloc o).drewN nd) B2 D (.slice (some ⟨g5, 0, none⟩) P.cls.length q5) (.slice p6 P.lg.length q6) (.slice p7 P.ws.length q7) P ∧ Has ((wr.alloc o).drewN nd) (fun k => k < D) 3 1 (.slice (some ⟨gn, 0, none⟩) (mt.length + 1) (mt.length + 1)) (mt.length + 1) (nums (kt ft wt mt) mt.length mt.length) := fun o nd => ⟨(hK'.alloc o).drewN nd, (hG'.alloc o).drewN nd, has_drewN (hN'.alloc o) nd⟩
              have hNc := fun (k : Nat) (hk : k < mt.length) => (show wr.cell? ⟨gn, k, none⟩ = some (.int .i64 ((kt ft wt mt k).length : Int)) from by have := hN'.cells (g := gn) rfl k _ (nums_get (kt ft wt mt) mt.length mt.length k (by omega)); rw [if_pos hk] at this; exact this)
              replace fin := Mr.hid fin
              replace hK' := Mr.hid hK'
              replace hG' := Mr.hid hG'
              replace hN' := Mr.hid hN'
              replace hcl := Mr.hid hcl
              replace hcl' := Mr.hid hcl'
              replace hkb := Mr.hid hkb
              rcases ck.way with ⟨w1, w2, _⟩ | ⟨w1, w2, w3, _⟩
              · rw [w1, nmb_neg] at t5
                rw [w2, nmb_neg] at t6
                rw [w1] at f5
                rw [w2] at f6
                have v4 : decide ((mt.length : Int) + 1 ≤ -1) = false := by simp; omega
                replace w1 := Mr.hid w1
                replace w2 := Mr.hid w2
                clear hNc ck e1' nq cb0 cb1
                generalize ((kt ft wt mt kb).length : Int) = nk at *
                go_upto_region 40 with fail
                go_quiet (fail)
                go_wp2
                go_roundg (gk - 1)
                case measure => omega
                case rel => exact ⟨i + 1, by simp, by omega, (fin.out _ _).1, (fin.out _ _).2.1, (fin.out _ _).2.2⟩
              · obtain ⟨ke, hke⟩ : ∃ k : Nat, cl.pt = k := ⟨cl.pt.toNat, by omega⟩
                have hkel : ke < mt.length := by omega
                have hx2 := hNc ke hkel
                rw [w1, hke, nmb_nat] at t5
                rw [hke, nmb_nat] at t6
                rw [w1, hke] at f5
                rw [hke] at f6
                have v4 : decide ((mt.length : Int) + 1 ≤ (ke : Int)) = false := by simp; omega
                have v5 : decide (mt.length + 1 ≤ ke) = false := by simp; omega
                have v6 : decide (0 ≤ (ke : Int)) = true := by simp
                replace w1 := Mr.hid w1
                replace w2 := Mr.hid w2
                replace hke := Mr.hid hke
                clear hNc ck e1' nq cb0 cb1 w3
                generalize ((kt ft wt mt kb).length : Int) = nk at *
                generalize ((kt ft wt mt ke).length : Int) = ne at *
                go_upto_region 40 with fail
                go_quiet (fail)
                go_wp2
                go_roundg (gk - 1)
                case measure => omega
                case rel => exact ⟨i + 1, by simp, by omega, (fin.out _ _).1, (fin.out _ _).2.1, (fin.out _ _).2.2⟩
            · replace hK' := Mr.hid hK'
              replace hG' := Mr.hid hG'
              replace hN' := Mr.hid hN'
              go_wp2
              go_loopg [217] Q.ws.length (fun k s wy => ∃ l : Nat, s = .int .i64 (l : Int) ∧ l + k = Q.ws.length ∧ Kp w wy B (.int .i64 (ft : Int)) (.slice a wt.length cap) (.slice am mt.length cm) (.slice p1 Q.cls.length q1) (.slice p2 Q.lg.length q2) (.slice p4 Q.ws.length q4) Q ∧ Kq wy B2 D (.slice p5 P.cls.length q5) (.slice p6 P.lg.length q6) (.slice p7 P.ws.length q7) P)
              case atStart => exact ⟨0, rfl, by omega, hK'.out, hG'.out⟩
              case round =>
                obtain ⟨l, rfl, hl, hK4, hG4⟩ := hrel
                clear c0 c1 c2 r0 r1 r2 r3 s0 s1 s2 s3 hK' hG' hN' x0 x1 x2 x3
                obtain ⟨⟨c0, c1, c2⟩, r0, r1, r2, r3⟩ := hK4.cells
                obtain ⟨s0, s1, s2, s3⟩ := hG4.cells
                by_cases hll : l < Q.ws.length
                · as_aux_lemma =>
                  have e3' := e3.out
                  obtain ⟨g4, q4', hg4, hg4B, hg4l, hg4q1, hg4q2⟩ := hK4.h4.there (by omega)
                  cases hg4
                  obtain ⟨g7, q7', hg7, hg7B, hg7l, hg7q1, hg7q2⟩ := hG4.h4.there (by omega)
                  cases hg7
                  unfold maxLen at hg4q2 hg7q2
                  have x1 := hK4.h4.cells (g := g4) rfl l _ (wrd_get Q.ws l (by omega))
                  have x2 := hG4.h4.cells (g := g7) rfl l _ (wrd_get P.ws l (by omega))
                  rw [RN'.out.wds] at x2
                  generalize Q.ws[l]?.getD 0 = xv at x1 x2
                  have b9 : (xv != xv) = false := by simp
                  have b10 : l < P.ws.length := by omega
                  have fin : ∀ nd : Nat, Kp w (wr.drewN nd) B (.int .i64 (ft : Int)) (.slice a wt.length cap) (.slice am mt.length cm) (.slice p1 Q.cls.length q1) (.slice p2 Q.lg.length q2) (.slice (some ⟨g4, 0, none⟩) Q.ws.length q4) Q ∧ Kq (wr.drewN nd) B2 D (.slice p5 P.cls.length q5) (.slice p6 P.lg.length q6) (.slice (some ⟨g7, 0, none⟩) P.ws.length q7) P := fun nd => ⟨hK4.drewN nd, hG4.drewN nd⟩
                  have fin0 := (show Kp w wr B (.int .i64 (ft : Int)) (.slice a wt.length cap) (.slice am mt.length cm) (.slice p1 Q.cls.length q1) (.slice p2 Q.lg.length q2) (.slice (some ⟨g4, 0, none⟩) Q.ws.length q4) Q ∧ Kq wr B2 D (.slice p5 P.cls.length q5) (.slice p6 P.lg.length q6) (.slice (some ⟨g7, 0, none⟩) P.ws.length q7) P from ⟨hK4, hG4⟩)
                  replace fin := Mr.hid fin
                  replace fin0 := Mr.hid fin0
                  replace hK4 := Mr.hid hK4
                  replace hG4 := Mr.hid hG4
                  clear e3'
                  go_wp2
                  go_roundg (gk - 1)
                  case measure => omega
                  case rel => exact ⟨l + 1, by simp, by omega, fin0.out.1, fin0.out.2⟩
                · replace hK4 := Mr.hid hK4
                  go_wp2
                  go_ret
                  exact ⟨by simp, hK4.out.bel⟩
theorem idle_law (th : Int) (a : Option Addr) (n cap : Nat) (ws : List Int) (am : Option Addr) (nm cm : Nat) (ms : List Mv) (w : World) (hs : Src w a n cap ws) (hm : MvAt w am nm ms) (hn : n ≤ cap) (hnm : nm ≤ cm) :
    Calls Try.prog 8 #[.agg #[.int .i64 th, .slice a n cap, .slice am nm cm]] w fun e w' => e = .returned (.bool true) ∧ Below w.heap.size w w' :=
  idle_walk w th a n cap am nm cm hn hnm ws ms hs hm
end Go.Proofs.Ytiobchadjcekcaa.Ma
