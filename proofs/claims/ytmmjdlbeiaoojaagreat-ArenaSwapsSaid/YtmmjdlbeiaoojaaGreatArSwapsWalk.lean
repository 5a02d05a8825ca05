import Derived.Test.YtmmjdlbeiaoojaaGreatJ39
import Derived.Test.YtmmjdlbeiaoojaaGreatArSwapsQ
/-
  ArenaSwaps: the walk.
-/
namespace Go.Proofs.YtmmjdlbeiaoojaaGreat.Ar
open Go.RowKit Go.Shelf Mr Me Ma Wc Wm Wr
theorem cf_box (w : World) (c : Cf) : (w.alloc (cfO c)).cell? ⟨w.heap.size, 0, none⟩ = some (.int .i64 c.a0) ∧ (w.alloc (cfO c)).cell? ⟨w.heap.size, 1, none⟩ = some (.int .i64 c.a1) ∧ (w.alloc (cfO c)).cell? ⟨w.heap.size, 2, none⟩ = some (.int .i64 c.a2) ∧ (w.alloc (cfO c)).cell? ⟨w.heap.size, 3, none⟩ = some (.int .i64 c.a3) ∧ (w.alloc (cfO c)).cell? ⟨w.heap.size, 4, none⟩ = some (.int .i64 c.a4) ∧ (w.alloc (cfO c)).cell? ⟨w.heap.size, 5, none⟩ = some (.int .i64 c.a5) ∧ (w.alloc (cfO c)).cell? ⟨w.heap.size, 6, none⟩ = some (.int .i64 c.a6) := by
  have hb : (w.alloc (cfO c)).heap[w.heap.size]? = some (cfO c) := heap_alloc_new w _
  generalize w.alloc (cfO c) = W at *
  simp [cfO] at hb
  simp [World.cell?, hb]
set_option maxRecDepth 100000 in
set_option maxHeartbeats 2000000 in
/-- No configuration, or too many moves. -/
theorem swaps_not (w : World) (c : Cf) (am : Option Addr) (nm cm : Nat) (h : c.ok = false ∨ 65536 < nm) :
    Calls Tryz.prog 4 #[c.val, .slice am nm cm] w fun e w' => e = .returned (.bool true) ∧ Below w.heap.size w w' := by
  have CF := fun W => refConfig c.a0 c.a1 c.a2 c.a3 c.a4 c.a5 c.a6 W
  have AW := fun W => awake_any W
  have hB0 := (Below.refl w.heap.size w).alloc (Nat.le_refl _) (cfO c)
  have hsz : (w.alloc (cfO c)).heap.size = w.heap.size + 1 := by simp
  have hx : cfgB c.a0 c.a1 c.a2 c.a3 c.a4 c.a5 c.a6 = false ∨ decide (65536 < (nm : Int)) = true := by
    rcases h with h | h
    · exact .inl h
    · exact .inr (by simp; omega)
  obtain ⟨y0, y1, y2, y3, y4, y5, y6⟩ := cf_box w c
  unfold cfO at y0 y1 y2 y3 y4 y5 y6 hsz hB0
  unfold Cf.val
  clear h
  generalize hcb : cfgB c.a0 c.a1 c.a2 c.a3 c.a4 c.a5 c.a6 = cb at *
  generalize hdb : decide (65536 < (nm : Int)) = db at *
  replace hcb := Mr.hid hcb
  cases cb with
  | false =>
    clear hx
    go_enter Tryz.func4, Tryz.ntmps4
    go_wp2_with (first | (go_at_call 9; refine (CF _).mono ?_; clear CF; rintro e w1 ⟨rfl, hB1⟩; replace hB1 := hB0.trans (hB1.mono (by omega)); clear hB0) | (go_at_call 10; refine (AW _).mono ?_; clear AW; rintro e w2 ⟨rfl, hB2⟩; replace hB2 := hB1.trans (hB2.mono hB1.size); clear hB1))
    go_ret
    exact ⟨rfl, hB2⟩
  | true =>
    obtain rfl : db = true := by rcases hx with h | h; cases h; exact h
    clear hx
    go_enter Tryz.func4, Tryz.ntmps4
    go_wp2_with (first | (go_at_call 9; refine (CF _).mono ?_; clear CF; rintro e w1 ⟨rfl, hB1⟩; replace hB1 := hB0.trans (hB1.mono (by omega)); clear hB0) | (go_at_call 10; refine (AW _).mono ?_; clear AW; rintro e w2 ⟨rfl, hB2⟩; replace hB2 := hB1.trans (hB2.mono hB1.size); clear hB1))
    go_ret
    exact ⟨rfl, hB2⟩
set_option maxRecDepth 100000 in
set_option maxHeartbeats 4000000 in
theorem swaps_yes (w : World) (c : Cf) (hc : c.ok = true) (am : Option Addr) (nm cm : Nat) (ms : List Mv) (hm : MvAt w am nm ms) (hnm : nm ≤ 65536) :
    Calls Tryz.prog 4 #[c.val, .slice am nm cm] w fun e w' => e = .returned (.bool true) ∧ Below w.heap.size w w' := by
  have hc' : cfgB c.a0 c.a1 c.a2 c.a3 c.a4 c.a5 c.a6 = true := hc
  obtain ⟨N, m, hN, hm10, g1, g2, g3, g4⟩ := sizes (ok_of hc')
  have hin : (1 ≤ c.a0 ∧ c.a0 ≤ 16) ∧ 0 ≤ c.a4 ∧ 1 ≤ c.a5 := by
    simp [cfgB, inB] at hc'
    omega
  obtain ⟨nt, h0⟩ : ∃ nt : Nat, c.a0 = nt := ⟨c.a0.toNat, by omega⟩
  obtain ⟨Kc, h4⟩ : ∃ Kc : Nat, c.a4 = Kc := ⟨c.a4.toNat, by omega⟩
  obtain ⟨n, h5⟩ : ∃ n : Nat, c.a5 = n := ⟨c.a5.toNat, by omega⟩
  have hnt : nt ≤ 16 := by omega
  have hI0 : Inv (Pa.first c n nt N m Kc) 0 := inv_first c n nt N m Kc h5 (by omega) (by omega) hm10 g2 (by omega) g4
  have hQI := play_inv (Pa.first c n nt N m Kc) hI0 ms
  have hQS : Sw nt ((Pa.first c n nt N m Kc).play ms) := by
    refine Sw.play ms (Sw.start _ _ _ _ _ ?_) hI0
    have := hI0.w0.2
    have h2 := (hI0.word 0).1
    unfold tag at this
    show (Pa.first c n nt N m Kc).word 0 / 4294967296 = 0
    omega
  have PL := fun (W : World) (hB : Below w.heap.size w W) => play_ok W c hc n nt N m Kc h5 h0 h4 hN hm10 (by omega) am nm cm ms (hm.below hB) hnm
  have hok := hQS.ok
  have hlg : ((Pa.first c n nt N m Kc).play ms).lg.length ≤ 65536 := Nat.le_trans hQI.1.lg hQI.1.bd
  generalize (Pa.first c n nt N m Kc).play ms = Q at *
  clear hQS hQI hI0 hN hm10 g1 g2 g3 g4 hin h4 h5 hm
  have CF := fun W => refConfig c.a0 c.a1 c.a2 c.a3 c.a4 c.a5 c.a6 W
  rw [hc'] at CF
  have AW := fun W => awake_any W
  have hB0 := (Below.refl w.heap.size w).alloc (Nat.le_refl _) (cfO c)
  have hsz : (w.alloc (cfO c)).heap.size = w.heap.size + 1 := by simp
  have hb0 : (w.alloc (cfO c)).heap[w.heap.size]? = some (cfO c) := heap_alloc_new w _
  have d3 : decide (65536 < (nm : Int)) = false := by simp; omega
  obtain ⟨y0, y1, y2, y3, y4, y5, y6⟩ := cf_box w c
  have cfg2 : ∀ W1 : World, W1.heap[w.heap.size]? = some (cfO c) → W1.cell? ⟨w.heap.size, 0, none⟩ = some (.int .i64 c.a0) ∧ W1.cell? ⟨w.heap.size, 1, none⟩ = some (.int .i64 c.a1) ∧ W1.cell? ⟨w.heap.size, 2, none⟩ = some (.int .i64 c.a2) ∧ W1.cell? ⟨w.heap.size, 3, none⟩ = some (.int .i64 c.a3) ∧ W1.cell? ⟨w.heap.size, 4, none⟩ = some (.int .i64 c.a4) ∧ W1.cell? ⟨w.heap.size, 5, none⟩ = some (.int .i64 c.a5) ∧ W1.cell? ⟨w.heap.size, 6, none⟩ = some (.int .i64 c.a6) := fun W1 hb => by
    simp [cfO] at hb
    simp [World.cell?, hb]
  obtain ⟨W0, hW0⟩ : ∃ W0, w.alloc (cfO c) = W0 := ⟨_, rfl⟩
  rw [hW0] at y0 y1 y2 y3 y4 y5 y6 hsz hB0 hb0
  unfold cfO at hW0
  unfold Cf.val at PL ⊢
  rw [h0] at y0 cfg2 CF PL hW0 ⊢
  clear hc' hc
  replace PL := Mr.hid PL
  replace hb0 := Mr.hid hb0
  replace cfg2 := Mr.hid cfg2
  replace hok := Mr.hid hok
  replace hlg := Mr.hid hlg
  replace CF := Mr.hid CF
  replace AW := Mr.hid AW
  replace h0 := Mr.hid h0
  go_enter Tryz.func4, Tryz.ntmps4
  go_wp2_with (first | (go_at_call 12; refine (num_any _ _).mono ?_; rintro e wn ⟨rfl, rfl⟩) | (go_at_call 9; refine (CF.out _).mono ?_; clear CF; rintro e w1 ⟨rfl, hB1⟩; have hc1 : w1.heap[w.heap.size]? = some (cfO c) := (hB1.block _ (by omega)).trans hb0.out; have PL1 := PL.out w1 (hB0.trans (hB1.mono (by omega))); replace hB1 := hB0.trans (hB1.mono (by omega)); clear hB0 PL y0 y1 y2 y3 y4 y5 y6; obtain ⟨y0, y1, y2, y3, y4, y5, y6⟩ := cfg2.out w1 hc1; replace hc1 := Mr.hid hc1; replace PL1 := Mr.hid PL1; replace hB1 := Mr.hid hB1) | (go_at_call 11; refine PL1.out.mono ?_; clear PL1; rintro e w2 ⟨v1, v2, v3, v4, rfl, hv1, hv2, hv3, hv4, hB2⟩; have K2 := ka_open hc1.out hB1.out hB2 hv1 hv2 hv3 hv4; obtain ⟨p1, q1, rfl, _⟩ := hv1.form; obtain ⟨p2, q2, rfl, _⟩ := hv2.form; obtain ⟨p3, q3, rfl, _⟩ := hv3.form; obtain ⟨p4, q4, rfl, _⟩ := hv4.form; clear hv1 hv2 hv3 hv4 y0 y1 y2 y3 y4 y5 y6 hc1 hB1 hB2; replace K2 := Mr.hid K2; unfold runV) | (go_at_call 10; refine (AW.out _).mono ?_; clear AW; rintro e w3 ⟨rfl, hB3⟩; have K3 := K2.out.below hB3; clear K2 hB3; obtain ⟨⟨y0, y1, y2, y3, y4, y5, y6⟩, r0, r1, r2, r3⟩ := K3.cells; rw [h0.out] at y0; have hmk := fun u => make_its u nt (by omega); have z3 := K3.size; have hmb := made_its w3 (fun k => w2.heap.size < k) nt (by omega) z3; have hK4 := K3.below ((Below.refl _ _).alloc (Nat.le_refl _) (.cells (madeCells #[.int .i64 0] nt) 3)); replace hmb := Mr.hid hmb; replace hK4 := Mr.hid hK4; replace K3 := Mr.hid K3))
  generalize w2.heap.size = B at *
  clear K3 y0 y1 y2 y3 y4 y5 y6 r0 r1 r2 r3 hmk hW0 hsz hb0 cfg2 d3
  go_loopg [7, 9, 10] Q.lg.length (fun k s7 s9 s10 wr => ∃ j : Nat, s7 = .int .u64 (sws nt (Q.lg.take j)).tag ∧ s9 = .int .i64 (sws nt (Q.lg.take j)).last ∧ s10 = .int .i64 (j : Int) ∧ j + k = Q.lg.length ∧ Ka w wr c B (.slice p1 Q.cls.length q1) (.slice p2 Q.lg.length q2) (.slice p3 Q.shs.length q3) (.slice p4 Q.ws.length q4) Q ∧ Has wr (fun k => B < k) 3 1 (.slice (some ⟨w3.heap.size, 0, none⟩) nt nt) nt (its (sws nt (Q.lg.take j)).ld) ∧ w3.heap.size < wr.heap.size)
  case atStart => exact ⟨0, rfl, rfl, rfl, by omega, hK4.out, hmb.out, by simp⟩
  case round =>
    obtain ⟨j, rfl, rfl, rfl, hj, hK, hb, hG⟩ := hrel
    clear hK4 hmb
    obtain ⟨⟨y0, y1, y2, y3, y4, y5, y6⟩, r0, r1, r2, r3⟩ := hK.cells
    rw [h0.out] at y0
    by_cases hjl : j < Q.lg.length
    · obtain ⟨a, ha⟩ : ∃ a, Q.lg[j]? = some a := ⟨_, List.getElem?_eq_getElem hjl⟩
      have hF := sws_find nt Q.lg hok.out j a ha
      obtain ⟨gq, qq, hgq, ⟨hq1, hq2⟩, hql, hqn, hqx⟩ := hK.h2.there (by omega)
      cases hgq
      obtain ⟨f0, f1, f2, f3, f4, f5, f6⟩ := ac_cells hK.h2 ha
      unfold maxLen at hqx
      obtain ⟨k1, k2, k3, k4⟩ := sws_bd nt (Q.lg.take j)
      have hlj : (Q.lg.take j).length = j := by rw [List.length_take]; omega
      rw [hlj] at k2 k3
      have hlg' := hlg.out
      have hfz := hb.frozen (g := w3.heap.size) rfl
      obtain ⟨S', hS'⟩ : ∃ S', sws nt (Q.lg.take (j + 1)) = S' := ⟨_, rfl⟩
      rw [hS'] at hF
      replace hS' := Mr.hid hS'
      generalize sws nt (Q.lg.take j) = S at *
      obtain ⟨t, hta⟩ : ∃ t : Nat, a.th = t := ⟨a.th.toNat, by cases hF <;> omega⟩
      have htn : t < nt := by cases hF <;> omega
      have x1 : wr.cell? ⟨w3.heap.size, t, none⟩ = some (.int .i64 (S.ld[t]?.getD 0)) := hb.cells (g := w3.heap.size) rfl t _ (its_get _ _ _ (by rw [List.getElem?_eq_getElem (by omega)]; rfl))
      have b1 : decide (a.th < 0) = false := decide_eq_false (by omega)
      have b2 : decide ((nt : Int) ≤ a.th) = false := decide_eq_false (by omega)
      rw [hta] at f1 b1 b2
      have hz1 := hK.lt
      have hBl : B < wr.heap.size := hK.size
      have hwl : w.heap.size < wr.heap.size := by omega
      replace ha := Mr.hid ha
      replace hK := Mr.hid hK
      replace hb := Mr.hid hb
      cases hF with
      | far t1 t2 had e1 e2 e3 =>
        have b3 : (a.ad == 0) = false := by simpa using had
        clear x1 hfz
        go_wp2
        go_roundg (gk - 1)
        case measure => omega
        case rel =>
          refine ⟨j + 1, by rw [hS'.out, e1], by rw [hS'.out, e2], by simp, by omega, ?_, ?_, ?_⟩
          · exact hK.out.below ((Below.refl _ _).alloc (Nat.le_refl _) _)
          · rw [hS'.out, e3]; exact hb.out.alloc _
          · simp; omega
      | load t1 t2 had hk hs e1 e2 e3 =>
        have u1 : a.saw.tdiv 4294967296 = S.tag := by rw [Int.tdiv_eq_ediv_of_nonneg (by omega)]; exact hs
        have u2 : IntKind.u64.wrap S.tag = S.tag := by rw [IntKind.wrap_u64]; omega
        rw [had] at f3
        rw [hk] at f2
        go_wp2
        go_roundg (gk - 1)
        case measure => omega
        case rel =>
          refine ⟨j + 1, by rw [hS'.out, e1], by rw [hS'.out, e2], by simp, by omega, ?_, ?_, ?_⟩
          · exact (hK.out.set ⟨w3.heap.size, t, none⟩ z3 _).below ((Below.refl _ _).alloc (Nat.le_refl _) _)
          · have t2 := has_put hb.out t (.int .i64 (j : Int))
            rw [its_set] at t2
            rw [hS'.out, e3, show a.th.toNat = t from by omega, k3]
            exact t2.alloc _
          · simp; omega
      | hit t1 t2 had hk hs hx e1 e2 e3 =>
        have u1 : a.new.tdiv 4294967296 = S.tag + 1 := by rw [Int.tdiv_eq_ediv_of_nonneg (by omega)]; exact hx
        have u2 : IntKind.u64.wrap (S.tag + 1) = S.tag + 1 := by rw [IntKind.wrap_u64]; omega
        rw [had] at f3
        rw [hk] at f2
        rw [hs] at f6
        clear x1 hfz
        go_wp2
        go_roundg (gk - 1)
        case measure => omega
        case rel =>
          refine ⟨j + 1, by rw [hS'.out, e1], by rw [hS'.out, e2, k3], by simp, by omega, ?_, ?_, ?_⟩
          · exact hK.out.below ((Below.refl _ _).alloc (Nat.le_refl _) _)
          · rw [hS'.out, e3]; exact hb.out.alloc _
          · simp; omega
      | miss t1 t2 had hk hs hx e1 e2 e3 =>
        have u1 : (a.saw == a.old) = false := by simpa using hs
        have et : a.th.toNat = t := by omega
        rw [et] at hx
        have u2 : decide (S.last < S.ld[t]?.getD 0) = false := decide_eq_false hx
        generalize S.ld[t]?.getD 0 = L at x1 u2
        clear hx
        replace hs := Mr.hid hs
        rw [had] at f3
        rw [hk] at f2
        clear hfz
        go_wp2
        go_roundg (gk - 1)
        case measure => omega
        case rel =>
          refine ⟨j + 1, by rw [hS'.out, e1], by rw [hS'.out, e2], by simp, by omega, ?_, ?_, ?_⟩
          · exact hK.out.below ((Below.refl _ _).alloc (Nat.le_refl _) _)
          · rw [hS'.out, e3]; exact hb.out.alloc _
          · simp; omega
    · replace hK := Mr.hid hK
      go_wp2
      go_ret
      exact ⟨rfl, hK.out.bel⟩
theorem swaps_any (c : Cf) (am : Option Addr) (nm cm : Nat) (ms : List Mv) (w : World) (hm : MvAt w am nm ms) :
    Calls Tryz.prog 4 #[c.val, .slice am nm cm] w fun e w' => e = .returned (.bool true) ∧ Below w.heap.size w w' := by
  cases hc : c.ok with
  | false => exact swaps_not w c am nm cm (.inl hc)
  | true =>
    by_cases hn : nm ≤ 65536
    · exact swaps_yes w c hc am nm cm ms hm hn
    · exact swaps_not w c am nm cm (.inr (by omega))
end Go.Proofs.YtmmjdlbeiaoojaaGreat.Ar
