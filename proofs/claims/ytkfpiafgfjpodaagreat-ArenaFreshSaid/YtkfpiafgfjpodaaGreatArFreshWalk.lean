import Derived.Test.YtkfpiafgfjpodaaGreatArFreshB
import Derived.Test.YtkfpiafgfjpodaaGreatJ12
import Derived.Test.YtkfpiafgfjpodaaGreatJ32
/-
  ArenaFresh: the walk.
-/
namespace Go.Proofs.YtkfpiafgfjpodaaGreat.Ar
open Go.RowKit Go.Shelf Mr Me Ma Wc Wm Wr
set_option maxRecDepth 100000 in
set_option maxHeartbeats 2000000 in
/-- No configuration, or too many moves. -/
theorem fresh_not (w : World) (c : Cf) (am : Option Addr) (nm cm : Nat) (h : c.ok = false ∨ 65536 < nm) :
    Calls Tryz.prog 7 #[c.val, .slice am nm cm] w fun e w' => e = .returned (.bool true) ∧ Below w.heap.size w w' := by
  have CF := fun W => refConfig c.a0 c.a1 c.a2 c.a3 c.a4 c.a5 c.a6 W
  have AW := fun W => awake_any W
  have hB0 := (Below.refl w.heap.size w).alloc (Nat.le_refl _) (cfO c)
  have hsz : (w.alloc (cfO c)).heap.size = w.heap.size + 1 := by simp
  have hx : cfgB c.a0 c.a1 c.a2 c.a3 c.a4 c.a5 c.a6 = false ∨ decide (65536 < (nm : Int)) = true := by
    rcases h with h | h
    · exact .inl h
    · exact .inr (by simp; omega)
  obtain ⟨y0, y1, y2, y3, y4, y5, y6⟩ := cf_box2 w c
  unfold cfO at y0 y1 y2 y3 y4 y5 y6 hsz hB0
  unfold Cf.val
  clear h
  generalize hcb : cfgB c.a0 c.a1 c.a2 c.a3 c.a4 c.a5 c.a6 = cb at *
  generalize hdb : decide (65536 < (nm : Int)) = db at *
  replace hcb := Mr.hid hcb
  cases cb with
  | false =>
    clear hx
    go_enter Tryz.func7, Tryz.ntmps7
    go_wp2_with (first | (go_at_call 9; refine (CF _).mono ?_; clear CF; rintro e w1 ⟨rfl, hB1⟩; replace hB1 := hB0.trans (hB1.mono (by omega)); clear hB0) | (go_at_call 10; refine (AW _).mono ?_; clear AW; rintro e w2 ⟨rfl, hB2⟩; replace hB2 := hB1.trans (hB2.mono hB1.size); clear hB1))
    go_ret
    exact ⟨rfl, hB2⟩
  | true =>
    obtain rfl : db = true := by rcases hx with h | h; cases h; exact h
    clear hx
    go_enter Tryz.func7, Tryz.ntmps7
    go_wp2_with (first | (go_at_call 9; refine (CF _).mono ?_; clear CF; rintro e w1 ⟨rfl, hB1⟩; replace hB1 := hB0.trans (hB1.mono (by omega)); clear hB0) | (go_at_call 10; refine (AW _).mono ?_; clear AW; rintro e w2 ⟨rfl, hB2⟩; replace hB2 := hB1.trans (hB2.mono hB1.size); clear hB1))
    go_ret
    exact ⟨rfl, hB2⟩
set_option maxRecDepth 100000 in
set_option maxHeartbeats 8000000 in
theorem fresh_yes (w : World) (c : Cf) (hc : c.ok = true) (am : Option Addr) (nm cm : Nat) (ms : List Mv) (hm : MvAt w am nm ms) (hnm : nm ≤ 65536) :
    Calls Tryz.prog 7 #[c.val, .slice am nm cm] w fun e w' => e = .returned (.bool true) ∧ Below w.heap.size w w' := by
  have hc' : cfgB c.a0 c.a1 c.a2 c.a3 c.a4 c.a5 c.a6 = true := hc
  obtain ⟨N, m, hN, hm10, g1, g2, g3, g4⟩ := sizes (ok_of hc')
  have hin : (1 ≤ c.a0 ∧ c.a0 ≤ 16) ∧ 0 ≤ c.a4 ∧ 1 ≤ c.a5 := by
    simp [cfgB, inB] at hc'
    omega
  obtain ⟨nt, h0⟩ : ∃ nt : Nat, c.a0 = nt := ⟨c.a0.toNat, by omega⟩
  obtain ⟨Kc, h4⟩ : ∃ Kc : Nat, c.a4 = Kc := ⟨c.a4.toNat, by omega⟩
  obtain ⟨n, h5⟩ : ∃ n : Nat, c.a5 = n := ⟨c.a5.toNat, by omega⟩
  have hI0 : Inv (Pa.first c n nt N m Kc) 0 := inv_first c n nt N m Kc h5 (by omega) (by omega) hm10 g2 (by omega) g4
  have hml : nm = ms.length := hm.1
  subst hml
  have TBL := fun (W : World) => table_ok W c hc n nt N m Kc h5 h0 h4 hN hm10 (by omega)
  have PL := fun (W : World) (gg qg : Nat) (hmv : MvAt W (some ⟨gg, 0, none⟩) ms.length ms) => play_ok W c hc n nt N m Kc h5 h0 h4 hN hm10 (by omega) (some ⟨gg, 0, none⟩) ms.length qg ms hmv hnm
  have hpt0 : (Pa.first c n nt N m Kc).pts.length = nt := by simp [Pa.first, Pa.new]
  have hsl0 : (Pa.first c n nt N m Kc).A.sl.length = n := by simp [Pa.first, Pa.new, Ao.new]
  have hw0 : (Pa.first c n nt N m Kc).ws.length = N := fws_len c N
  have hn00 : (Pa.first c n nt N m Kc).n = 0 := rfl
  have hn0 : 0 < n := by omega
  generalize Pa.first c n nt N m Kc = P0 at *
  have hInv := fun (j : Nat) => play_inv P0 (by rw [hn00]; exact hI0) (ms.take j)
  have hQI := play_inv P0 (by rw [hn00]; exact hI0) ms
  have hmo := fun (j : Nat) => (play_more (ms.take j) (P := P0) (by rw [hn00]; exact hI0)).2
  rw [hpt0] at hmo
  rw [hsl0] at hInv
  have z1 : (P0.play ms).cls.length ≤ 100000 := by have h1 := hQI.1.cls; have h2 := hQI.1.bd; omega
  have z2 : (P0.play ms).lg.length ≤ 100000 := by have h1 := hQI.1.lg; have h2 := hQI.1.bd; omega
  have z3 : (P0.play ms).shs.length ≤ 100000 := by have h1 := hQI.1.shs; have h2 := hQI.1.bd; omega
  have z4 : (P0.play ms).ws.length ≤ 100000 := by rw [play_wl2 ms (by rw [hn00]; exact hI0), hw0]; omega
  obtain ⟨Q, hQ⟩ : ∃ Q, P0.play ms = Q := ⟨_, rfl⟩
  rw [hQ] at z1 z2 z3 z4
  have PLq : ∀ (W : World) (gg qg : Nat) (hmv : MvAt W (some ⟨gg, 0, none⟩) ms.length ms), Calls Tryz.prog 11 #[c.val, .slice (some ⟨gg, 0, none⟩) ms.length qg] W fun e w' => ∃ v1 v2 v3 v4, e = .returned (.tuple #[runV v1 v2 v3 v4, .int .i64 0]) ∧ Has w' (fun k => W.heap.size ≤ k) 42 9 v1 Q.cls.length (clc Q.cls) ∧ Has w' (fun k => W.heap.size ≤ k) 48 7 v2 Q.lg.length (lgc Q.lg) ∧ Has w' (fun k => W.heap.size ≤ k) 66 5 v3 Q.shs.length (shc Q.shs) ∧ Has w' (fun k => W.heap.size ≤ k) 44 1 v4 Q.ws.length (wrd Q.ws) ∧ Below W.heap.size W w' := fun W gg qg hmv => by
    have := PL W gg qg hmv
    rw [hQ] at this
    exact this
  have PL := PLq
  have H : FrH w c n nt P0 Q am ms := ⟨TBL, PL, hInv, hmo, hn0, hin, h0, z1, z2, z3, z4, hnm, hm⟩
  clear PLq hQI hI0 hN hm10 g1 g2 g3 g4 h4 h5 hpt0 hsl0 hn00 hw0
  obtain ⟨i0, hi0, hz0, hz1, hz2⟩ := info_parts info_move
  have CF := fun W => refConfig c.a0 c.a1 c.a2 c.a3 c.a4 c.a5 c.a6 W
  rw [hc'] at CF
  have AW := fun W => awake_any W
  have hB0 := (Below.refl w.heap.size w).alloc (Nat.le_refl _) (cfO c)
  have hsz : (w.alloc (cfO c)).heap.size = w.heap.size + 1 := by simp
  have hb0 : (w.alloc (cfO c)).heap[w.heap.size]? = some (cfO c) := heap_alloc_new w _
  have d3 : decide (65536 < (ms.length : Int)) = false := by simp; omega
  obtain ⟨y0, y1, y2, y3, y4, y5, y6⟩ := cf_box2 w c
  obtain ⟨W0, hW0⟩ : ∃ W0, w.alloc (cfO c) = W0 := ⟨_, rfl⟩
  rw [hW0] at y0 y1 y2 y3 y4 y5 y6 hsz hB0 hb0
  unfold cfO at hW0
  unfold Cf.val at PL ⊢
  clear hc' hc hQ
  replace H := Mr.hid H
  clear TBL hInv hmo hn0 hin h0 z1 z2 z3 z4 AW
  replace PL := Mr.hid PL
  replace hb0 := Mr.hid hb0
  replace CF := Mr.hid CF
  go_enter Tryz.func7, Tryz.ntmps7
  go_upto_region 3 with (go_at_call 9; refine (CF.out _).mono ?_; clear CF; rintro e w1 ⟨rfl, hB1⟩; have hc1 : w1.heap[w.heap.size]? = some (cfO c) := (hB1.block _ (by omega)).trans hb0.out; replace hB1 := hB0.trans (hB1.mono (by omega)); clear hB0; replace hc1 := Mr.hid hc1; replace hB1 := Mr.hid hB1)
  have lw : w.heap.size < w1.heap.size := (Array.getElem?_eq_some_iff.1 hc1.out).1
  clear y0 y1 y2 y3 y4 y5 y6 hW0 hsz hb0 d3
  go_cut [5] (fun s wx => ∃ gg qg, s = .slice (some ⟨gg, 0, none⟩) (ms.length + 1) qg ∧ Below w.heap.size w wx ∧ wx.heap[w.heap.size]? = some (cfO c) ∧ Has wx (fun k => w.heap.size < k) 57 4 (.slice (some ⟨gg, 0, none⟩) (ms.length + 1) qg) (ms.length + 1) (mvc (ms ++ [⟨77, 0, 0, 0⟩])))
  case first =>
    have fin : ∀ (W5 : World) (o : Obj) (v' : Value) (hB5 : Below w1.heap.size w1 W5) (hr : Has W5 (fun k => w.heap.size < k) 57 4 v' ms.length (mvc ms)) (hv : ∀ k, v'.ownBlock = some k → w1.heap.size ≤ k) (w7 : World) (g7 c7 : Nat), Has w7 (fun k => w.heap.size < k) 57 4 (.slice (some ⟨g7, 0, none⟩) (ms.length + 1) c7) (ms.length + 1) (mvc ms ++ [.int .i64 77, .int .i64 0, .int .i64 0, .int .i64 0]) → (W5.alloc o).grownBy w7 v'.ownBlock → Below w.heap.size w w7 ∧ w7.heap[w.heap.size]? = some (cfO c) ∧ Has w7 (fun k => w.heap.size < k) 57 4 (.slice (some ⟨g7, 0, none⟩) (ms.length + 1) c7) (ms.length + 1) (mvc (ms ++ [⟨77, 0, 0, 0⟩])) := fun W5 o v' hB5 hr hv w7 g7 c7 hown hgrow => by
      have hB7 : Below w1.heap.size w1 w7 := (hB5.alloc hB5.size o).grown hgrow (by have := hB5.size; simp; omega) hv
      refine ⟨hB1.out.trans (hB7.mono hB1.out.size), (hB7.block _ lw).trans hc1.out, ?_⟩
      rw [mvc_append]
      exact hown
    have hmw := hm.below hB1.out
    replace fin := Mr.hid fin
    cases am with
    | none =>
      have hw0 : ms = [] := by rcases hmw.2 with h | ⟨_, _, h, _⟩; exact h; cases h
      subst hw0
      have hr0 : Has (w1.alloc (.cells #[] 57)) (fun k => w.heap.size < k) 57 4 (.slice (some ⟨w1.heap.size, 0, none⟩) 0 0) 0 (mvc []) := Has.owns (World.ownsRow_made w1 #[] 0 (Nat.le_refl _) (by decide) (by simp)) (fun k hk => by omega)
      have hr1 := fun o : Obj => hr0.alloc o
      have fin1 := fun (o : Obj) (w7 : World) (g7 c7 : Nat) => fin.out (w1.alloc (.cells #[] 57)) o (.slice (some ⟨w1.heap.size, 0, none⟩) 0 0) ((Below.refl _ _).alloc (Nat.le_refl _) _) hr0 (fun k hk => by simp [Value.ownBlock] at hk; omega) w7 g7 c7
      replace hr1 := Mr.hid hr1
      replace fin1 := Mr.hid fin1
      clear fin hr0
      go_wp2_with (first | (at_builtin; refine wpList_append_emvs rfl (.tmp 32) (.tmp 33) ⟨w1.heap.size, 0, none⟩ cm rfl rfl rfl rfl ?_) | (at_builtin; refine wpList_append_has _ rfl (.tmp 34) (.tmp 36) 24 rfl (fun k => w.heap.size < k) 57 i0 _ 4 32 Tryz.underlying24 hi0 hz0 hz1 hz2 rfl (.slice (some ⟨w1.heap.size, 0, none⟩) 0 0) 0 (mvc []) rfl (hr1.out _) ⟨w1.heap.size + 1, 0, none⟩ 1 1 [.int .i64 77, .int .i64 0, .int .i64 0, .int .i64 0] rfl rfl (by have := newsAt (w1.alloc (.cells #[] 57)) _ #[.int .i64 77, .int .i64 0, .int .i64 0, .int .i64 0] 57 _ rfl rfl; rw [World.size_alloc] at this; exact this) (by simp [Value.oneCell']) (by omega) (by unfold maxLen; omega) (by omega) (by simp; omega) ?_; intro g5 cap5 w5 hown hgrow hat; have hq := fin1.out _ w5 g5 cap5 hown hgrow; clear fin1 hown hgrow hr1 hat; replace hq := Mr.hid hq))
      go_meet
      case rel => exact ⟨_, _, rfl, hq.out⟩
    | some ad =>
      have news := (hmw.below ((Below.refl _ _).alloc (Nat.le_refl _) (.cells #[] 57))).news
      have hl4 := mvc_length ms
      have ho4 := mvc_one ms
      have fin2 : ∀ (w5 : World) (v' : Value), w5.ownsRow w1.heap.size 57 4 v' (0 + ms.length) ([] ++ mvc ms) → (w1.alloc (.cells #[] 57)).grownBy w5 (Value.slice (some ⟨w1.heap.size, 0, none⟩) 0 0).ownBlock → (∃ pv qv, v' = .slice pv ms.length qv) ∧ Has w5 (fun k => w.heap.size < k) 57 4 v' ms.length (mvc ms) ∧ w.heap.size < w5.heap.size ∧ ∀ (o : Obj) (w7 : World) (g7 c7 : Nat), Has w7 (fun k => w.heap.size < k) 57 4 (.slice (some ⟨g7, 0, none⟩) (ms.length + 1) c7) (ms.length + 1) (mvc ms ++ [.int .i64 77, .int .i64 0, .int .i64 0, .int .i64 0]) → (w5.alloc o).grownBy w7 v'.ownBlock → Below w.heap.size w w7 ∧ w7.heap[w.heap.size]? = some (cfO c) ∧ Has w7 (fun k => w.heap.size < k) 57 4 (.slice (some ⟨g7, 0, none⟩) (ms.length + 1) c7) (ms.length + 1) (mvc (ms ++ [⟨77, 0, 0, 0⟩])) := fun w5 v' hown hgrow => by
        rw [Nat.zero_add, List.nil_append] at hown
        have hh : Has w5 (fun k => w1.heap.size ≤ k) 57 4 v' ms.length (mvc ms) := Has.owns hown (fun _ h => h)
        have hB5 : Below w1.heap.size w1 w5 := ((Below.refl _ _).alloc (Nat.le_refl _) _).grown hgrow (by simp) (fun k hk => by simp [Value.ownBlock] at hk; omega)
        obtain ⟨pv, qv, e, _⟩ := hh.form
        have hh2 := hh.mono (T := fun k => w.heap.size < k) (fun k hk => by omega)
        exact ⟨⟨pv, qv, e⟩, hh2, by have := hB5.size; omega, fun o w7 g7 c7 => fin.out w5 o v' hB5 hh2 (fun k hk => (hh.lt k hk).1) w7 g7 c7⟩
      replace fin2 := Mr.hid fin2
      replace news := Mr.hid news
      replace hl4 := Mr.hid hl4
      replace ho4 := Mr.hid ho4
      clear fin hmw
      go_wp2_with (first | (at_builtin; refine wpList_append_own _ rfl (.tmp 32) (.tmp 33) 24 rfl w1.heap.size 57 i0 _ 4 32 Tryz.underlying24 hi0 hz0 hz1 hz2 rfl (by decide) (.slice (some ⟨w1.heap.size, 0, none⟩) 0 0) 0 [] rfl (World.ownsRow_made w1 #[] 0 (Nat.le_refl _) (by decide) (by simp)) ad ms.length cm (mvc ms) rfl hl4.out news.out ho4.out (by unfold maxLen; omega) (by omega) (by simp) ?_; intro v' w5 hown hgrow hnil; obtain ⟨⟨pv, qv, rfl⟩, hr5, lw5, fin3⟩ := fin2.out w5 v' hown hgrow; clear fin2 hown hgrow hnil news; replace hr5 := Mr.hid hr5; replace fin3 := Mr.hid fin3) | (at_builtin; refine wpList_append_has _ rfl (.tmp 34) (.tmp 36) 24 rfl (fun k => w.heap.size < k) 57 i0 _ 4 32 Tryz.underlying24 hi0 hz0 hz1 hz2 rfl (.slice pv ms.length qv) ms.length (mvc ms) rfl (hr5.out.alloc _) ⟨w5.heap.size, 0, none⟩ 1 1 [.int .i64 77, .int .i64 0, .int .i64 0, .int .i64 0] rfl rfl (newsAt w5 _ #[.int .i64 77, .int .i64 0, .int .i64 0, .int .i64 0] 57 _ rfl rfl) (by simp [Value.oneCell']) (by omega) (by unfold maxLen; omega) (by omega) (by simp; omega) ?_; intro g5 cap5 w7 hown hgrow hat; have hq := fin3.out _ w7 g5 cap5 hown hgrow; clear fin3 hown hgrow hr5 hat; replace hq := Mr.hid hq))
      go_meet
      case rel => exact ⟨_, _, rfl, hq.out⟩
  case rest =>
    obtain ⟨gg, qg, rfl, hBg, hsg, hgv⟩ := hcut
    have Kx : Kg w wc c gg qg ms wc.heap.size := ⟨hBg, hsg, hgv.kept (fun _ _ => rfl) (fun k hk => hgv.lt k hk)⟩
    obtain ⟨B0, hB0⟩ : ∃ B0, wc.heap.size = B0 := ⟨_, rfl⟩
    rw [hB0] at Kx
    replace hB0 := Mr.hid hB0
    replace Kx := Mr.hid Kx
    clear hBg hsg hgv hc1 hB1 lw
    replace hm := Mr.hid hm
    have l0 := Kx.out.size
    have lg := Kx.out.lt
    obtain ⟨y0, y1, y2, y3, y4, y5, y6⟩ := Kx.out.cfg
    have PLw := fun (W' : World) (hB : Below wc.heap.size wc W') => PL.out W' gg qg (Kx.out.below hB).mv
    have n1 : w.heap.size ≠ wc.heap.size := by omega
    have n1' := n1.symm
    have hBe : Below wc.heap.size wc wc.drew := (Below.refl _ _).drew
    have hBd : Below wc.heap.size wc (wc.alloc (.cells #[.slice none 0 0, .slice none 0 0, .slice none 0 0, .slice none 0 0] 32)).drew := ((Below.refl _ _).alloc (Nat.le_refl _) _).drew
    have hBx : ∀ w0 w6 : World, Below w0.heap.size w0 w6 → w0.heap[wc.heap.size]? = some (.cells #[.slice none 0 0, .slice none 0 0, .slice none 0 0, .slice none 0 0] 32 (0, 0)) → (w6.cell? ⟨wc.heap.size, 0, none⟩ = some (.slice none 0 0) ∧ w6.cell? ⟨wc.heap.size, 1, none⟩ = some (.slice none 0 0) ∧ w6.cell? ⟨wc.heap.size, 2, none⟩ = some (.slice none 0 0) ∧ w6.cell? ⟨wc.heap.size, 3, none⟩ = some (.slice none 0 0)) ∧ (∀ j, w6.frozen? ⟨wc.heap.size, j, none⟩ = false) ∧ wc.heap.size < w6.heap.size ∧ w6.heap[wc.heap.size]? = some (.cells #[.slice none 0 0, .slice none 0 0, .slice none 0 0, .slice none 0 0] 32 (0, 0)) := fun w0 w6 hB h0 => by
      have hb : w6.heap[wc.heap.size]? = some (.cells #[.slice none 0 0, .slice none 0 0, .slice none 0 0, .slice none 0 0] 32 (0, 0)) := (hB.block _ (Array.getElem?_eq_some_iff.1 h0).1).trans h0
      refine ⟨⟨?_, ?_, ?_, ?_⟩, fun j => ?_, (Array.getElem?_eq_some_iff.1 hb).1, hb⟩ <;> simp [World.cell?, World.frozen?, hb]
    have hKx := fun (w0 w6 : World) (h0 : Below wc.heap.size wc w0) (hB : Below w0.heap.size w0 w6) => (Kx.out.below (h0.trans (hB.mono h0.size))).cfg
    have hcap : (ms.length : Int) ≤ (qg : Int) := by
      obtain ⟨_, _, _, _, _, hq, _⟩ := Kx.out.gv.there (by omega)
      rename_i e _ _ _
      cases e
      omega
    replace hBe := Mr.hid hBe
    replace hBd := Mr.hid hBd
    replace hBx := Mr.hid hBx
    replace hKx := Mr.hid hKx
    replace PLw := Mr.hid PLw
    go_upto_region 4 with fail
    go_cut [6, 7] (fun sp se wx => ∃ Bz v1 v2 v3 v4 Bh, sp = .pointer (some ⟨Bz, 0, none⟩) ∧ se = .int .i64 0 ∧ Kg w wx c gg qg ms B0 ∧ Rk wx wc.heap.size Bh Bz v1 v2 v3 v4 Q ∧ wx.heap.size = Bh)
    case first =>
      go_wp2
      go_region_held3 (fun w' => w'.cell? ⟨w.heap.size, 0, none⟩ = some (.int .i64 c.a0) ∧ w'.cell? ⟨w.heap.size, 1, none⟩ = some (.int .i64 c.a1) ∧ w'.cell? ⟨w.heap.size, 2, none⟩ = some (.int .i64 c.a2) ∧ w'.cell? ⟨w.heap.size, 3, none⟩ = some (.int .i64 c.a3) ∧ w'.cell? ⟨w.heap.size, 4, none⟩ = some (.int .i64 c.a4) ∧ w'.cell? ⟨w.heap.size, 5, none⟩ = some (.int .i64 c.a5) ∧ w'.cell? ⟨w.heap.size, 6, none⟩ = some (.int .i64 c.a6)) (go_keep)
        (first
          | (go_at_call 11; refine (PLw.out _ (by first | exact hBe.out | exact hBd.out)).mono ?_; clear PLw; rintro e w6 ⟨v1, v2, v3, v4, rfl, hv1, hv2, hv3, hv4, hB6⟩; unfold runV; obtain ⟨k0, k1, k2, k3, k4, k5, k6⟩ := hKx.out _ w6 (by first | exact hBe.out | exact hBd.out) hB6; have hbx := hBx.out _ w6 hB6; simp only [drew_heap3, alloc_at3, true_implies, not_there3, false_implies] at hbx; obtain ⟨p1, q1, rfl, _⟩ := hv1.form; obtain ⟨p2, q2, rfl, _⟩ := hv2.form; obtain ⟨p3, q3, rfl, _⟩ := hv3.form; obtain ⟨p4, q4, rfl, _⟩ := hv4.form; replace hv1 := Mr.hid hv1; replace hv2 := Mr.hid hv2; replace hv3 := Mr.hid hv3; replace hv4 := Mr.hid hv4; replace hB6 := Mr.hid hB6))
      all_goals go_wp2
      all_goals go_meet
      case rel =>
        obtain ⟨X1, X2⟩ := play_newA hB6.out hv1.out hv2.out hv3.out hv4.out
        exact ⟨_, _, _, _, _, _, rfl, rfl, Kx.out.below X1, X2, rfl⟩
      case rel =>
        obtain ⟨X1, X2⟩ := play_newB hbx.2.2.2 hB6.out hv1.out hv2.out hv3.out hv4.out
        exact ⟨_, _, _, _, _, _, rfl, rfl, Kx.out.below X1, X2, rfl⟩
    case rest =>
      obtain ⟨Br, v1, v2, v3, v4, B1, rfl, rfl, Kn, Rn, hBh⟩ := hcut
      clear y0 y1 y2 y3 y4 y5 y6 l0 lg n1 n1' hBe hBd hBx hKx PLw Kx hcap
      obtain ⟨p1, q1, rfl, _⟩ := Rn.h1.form
      obtain ⟨p2, q2, rfl, _⟩ := Rn.h2.form
      obtain ⟨p3, q3, rfl, _⟩ := Rn.h3.form
      obtain ⟨p4, q4, rfl, _⟩ := Rn.h4.form
      rw [hB0.out] at Rn
      have R1 := Rn
      have Kx := Kn
      clear Rn Kn hB0
      have hB1 := Mr.hid hBh
      replace R1 := Mr.hid R1
      replace Kx := Mr.hid Kx
      clear hBh
      have l0 := Kx.out.size
      have lg := Kx.out.lt
      obtain ⟨y0, y1, y2, y3, y4, y5, y6⟩ := Kx.out.cfg
      have PLw := fun (W' : World) (hB : Below wc.heap.size wc W') => PL.out W' gg qg (Kx.out.below hB).mv
      have n1 : w.heap.size ≠ wc.heap.size := by omega
      have n1' := n1.symm
      have hBe : Below wc.heap.size wc wc.drew := (Below.refl _ _).drew
      have hBd : Below wc.heap.size wc (wc.alloc (.cells #[.slice none 0 0, .slice none 0 0, .slice none 0 0, .slice none 0 0] 32)).drew := ((Below.refl _ _).alloc (Nat.le_refl _) _).drew
      have hBx : ∀ w0 w6 : World, Below w0.heap.size w0 w6 → w0.heap[wc.heap.size]? = some (.cells #[.slice none 0 0, .slice none 0 0, .slice none 0 0, .slice none 0 0] 32 (0, 0)) → (w6.cell? ⟨wc.heap.size, 0, none⟩ = some (.slice none 0 0) ∧ w6.cell? ⟨wc.heap.size, 1, none⟩ = some (.slice none 0 0) ∧ w6.cell? ⟨wc.heap.size, 2, none⟩ = some (.slice none 0 0) ∧ w6.cell? ⟨wc.heap.size, 3, none⟩ = some (.slice none 0 0)) ∧ (∀ j, w6.frozen? ⟨wc.heap.size, j, none⟩ = false) ∧ wc.heap.size < w6.heap.size ∧ w6.heap[wc.heap.size]? = some (.cells #[.slice none 0 0, .slice none 0 0, .slice none 0 0, .slice none 0 0] 32 (0, 0)) := fun w0 w6 hB h0 => by
        have hb : w6.heap[wc.heap.size]? = some (.cells #[.slice none 0 0, .slice none 0 0, .slice none 0 0, .slice none 0 0] 32 (0, 0)) := (hB.block _ (Array.getElem?_eq_some_iff.1 h0).1).trans h0
        refine ⟨⟨?_, ?_, ?_, ?_⟩, fun j => ?_, (Array.getElem?_eq_some_iff.1 hb).1, hb⟩ <;> simp [World.cell?, World.frozen?, hb]
      have hKx := fun (w0 w6 : World) (h0 : Below wc.heap.size wc w0) (hB : Below w0.heap.size w0 w6) => (Kx.out.below (h0.trans (hB.mono h0.size))).cfg
      have hcap : (ms.length : Int) ≤ (qg : Int) := by
        obtain ⟨_, _, _, _, _, hq, _⟩ := Kx.out.gv.there (by omega)
        rename_i e _ _ _
        cases e
        omega
      replace hBe := Mr.hid hBe
      replace hBd := Mr.hid hBd
      replace hBx := Mr.hid hBx
      replace hKx := Mr.hid hKx
      replace PLw := Mr.hid PLw
      go_upto_region 5 with fail
      go_cut [8, 9] (fun sp se wx => ∃ Bz v1 v2 v3 v4 Bh, sp = .pointer (some ⟨Bz, 0, none⟩) ∧ se = .int .i64 0 ∧ Kg w wx c gg qg ms B0 ∧ Rk wx wc.heap.size Bh Bz v1 v2 v3 v4 Q ∧ wx.heap.size = Bh ∧ Rk wx B0 B1 Br (.slice p1 Q.cls.length q1) (.slice p2 Q.lg.length q2) (.slice p3 Q.shs.length q3) (.slice p4 Q.ws.length q4) Q)
      case first =>
        go_wp2
        go_region_held3 (fun w' => w'.cell? ⟨w.heap.size, 0, none⟩ = some (.int .i64 c.a0) ∧ w'.cell? ⟨w.heap.size, 1, none⟩ = some (.int .i64 c.a1) ∧ w'.cell? ⟨w.heap.size, 2, none⟩ = some (.int .i64 c.a2) ∧ w'.cell? ⟨w.heap.size, 3, none⟩ = some (.int .i64 c.a3) ∧ w'.cell? ⟨w.heap.size, 4, none⟩ = some (.int .i64 c.a4) ∧ w'.cell? ⟨w.heap.size, 5, none⟩ = some (.int .i64 c.a5) ∧ w'.cell? ⟨w.heap.size, 6, none⟩ = some (.int .i64 c.a6)) (go_keep)
          (first
            | (go_at_call 11; refine (PLw.out _ (by first | exact hBe.out | exact hBd.out)).mono ?_; clear PLw; rintro e w6 ⟨v1, v2, v3, v4, rfl, hv1, hv2, hv3, hv4, hB6⟩; unfold runV; obtain ⟨k0, k1, k2, k3, k4, k5, k6⟩ := hKx.out _ w6 (by first | exact hBe.out | exact hBd.out) hB6; have hbx := hBx.out _ w6 hB6; simp only [drew_heap3, alloc_at3, true_implies, not_there3, false_implies] at hbx; obtain ⟨p1, q1, rfl, _⟩ := hv1.form; obtain ⟨p2, q2, rfl, _⟩ := hv2.form; obtain ⟨p3, q3, rfl, _⟩ := hv3.form; obtain ⟨p4, q4, rfl, _⟩ := hv4.form; replace hv1 := Mr.hid hv1; replace hv2 := Mr.hid hv2; replace hv3 := Mr.hid hv3; replace hv4 := Mr.hid hv4; replace hB6 := Mr.hid hB6))
        all_goals go_wp2
        all_goals go_meet
        case rel =>
          obtain ⟨X1, X2⟩ := play_newA hB6.out hv1.out hv2.out hv3.out hv4.out
          exact ⟨_, _, _, _, _, _, rfl, rfl, Kx.out.below X1, X2, rfl, R1.out.below X1⟩
        case rel =>
          obtain ⟨X1, X2⟩ := play_newB hbx.2.2.2 hB6.out hv1.out hv2.out hv3.out hv4.out
          exact ⟨_, _, _, _, _, _, rfl, rfl, Kx.out.below X1, X2, rfl, R1.out.below X1⟩
      case rest =>
        obtain ⟨Bq, u1, u2, u3, u4, B2, rfl, rfl, Kn, Rn, hBh, R1n⟩ := hcut
        clear y0 y1 y2 y3 y4 y5 y6 l0 lg n1 n1' hBe hBd hBx hKx PLw Kx hcap
        rw [hB1.out] at Rn
        go_step
        exact fresh_B H.out cm Kn R1n Rn
theorem fresh_law (a0 a1 a2 a3 a4 a5 a6 : Int) (am : Option Addr) (nm cm : Nat) (ms : List Mv) (w : World) (_ : (Lit.int .i64 a0).wf = true ∧ (Lit.int .i64 a1).wf = true ∧ (Lit.int .i64 a2).wf = true ∧ (Lit.int .i64 a3).wf = true ∧ (Lit.int .i64 a4).wf = true ∧ (Lit.int .i64 a5).wf = true ∧ (Lit.int .i64 a6).wf = true) (hm : MvAt w am nm ms) (_ : nm ≤ cm) :
    Calls Tryz.prog 7 #[.agg #[.int .i64 a0, .int .i64 a1, .int .i64 a2, .int .i64 a3, .int .i64 a4, .int .i64 a5, .int .i64 a6], .slice am nm cm] w fun e w' => e = .returned (.bool true) ∧ Below w.heap.size w w' := by
  cases hc : (⟨a0, a1, a2, a3, a4, a5, a6⟩ : Cf).ok with
  | false => exact fresh_not w ⟨a0, a1, a2, a3, a4, a5, a6⟩ am nm cm (.inl hc)
  | true =>
    by_cases hn : nm ≤ 65536
    · exact fresh_yes w ⟨a0, a1, a2, a3, a4, a5, a6⟩ hc am nm cm ms hm hn
    · exact fresh_not w ⟨a0, a1, a2, a3, a4, a5, a6⟩ am nm cm (.inr (by omega))
end Go.Proofs.YtkfpiafgfjpodaaGreat.Ar
