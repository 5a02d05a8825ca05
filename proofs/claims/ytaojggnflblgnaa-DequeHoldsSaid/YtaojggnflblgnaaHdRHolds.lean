/-
  DEQUE: the document's Holds.
-/
import Derived.Test.YtaojggnflblgnaaHdSound
import Derived.Test.YtaojggnflblgnaaHdExpl
import Derived.Test.YtaojggnflblgnaaHdPlainA
import Derived.Test.YtaojggnflblgnaaHdPlainB
import Derived.Test.YtaojggnflblgnaaHdPlainC
import Derived.Test.YtaojggnflblgnaaHdPlainD
import Derived.Test.YtaojggnflblgnaaHdPlainE
import Derived.Test.YtaojggnflblgnaaHdPlainO
namespace Go.Proofs.Ytaojggnflblgnaa.Hd
open Go.RowKit Mr Md
set_option linter.unusedVariables false
set_option linter.unusedSimpArgs false
set_option maxRecDepth 100000
theorem plain_any (rm : Int) (vs : List Int) (c : Cq) (hn : vs.length ≤ 100000) : PlO rm vs c := by
  by_cases h1 : c.op = 90
  · by_cases h2 : rm ≤ (vs.length : Int)
    · exact plain_full rm vs c hn h1 h2
    · by_cases h5 : c.fin = -1
      · exact plain_done_open rm vs c hn h1 h2 h5
      · by_cases h7 : c.ak = 1
        · by_cases h8 : c.av = 0
          · exact plain_done_same rm vs c hn h1 h2 h5 h7 h8
          · exact plain_done_value rm vs c hn h1 h2 h5 h7 h8
        · exact plain_done_kind rm vs c hn h1 h2 h5 h7
  · by_cases h2 : vs.length = 0
    · exact plain_empty rm vs c hn h1 h2
    · by_cases h0 : c.op = 91
      · by_cases h5 : c.fin = -1
        · exact plain_take_open rm vs c hn h0 h2 h5
        · by_cases h7 : c.ak = 2
          · by_cases h8 : c.av = (vs[vs.length - 1]?).getD 0
            · exact plain_take_same rm vs c hn h0 h2 h5 h7 h8
            · exact plain_take_value rm vs c hn h0 h2 h5 h7 h8
          · exact plain_take_kind rm vs c hn h0 h2 h5 h7
      · by_cases h5 : c.fin = -1
        · exact plain_tail_open rm vs c hn h1 h0 h2 h5
        · by_cases h7 : c.ak = 2
          · by_cases h8 : c.av = (vs[0]?).getD 0
            · exact plain_tail_same rm vs c hn h1 h0 h2 h5 h7 h8
            · exact plain_tail_value rm vs c hn h1 h0 h2 h5 h7 h8
          · exact plain_tail_kind rm vs c hn h1 h0 h2 h5 h7
def hlB (rm : Int) : List Int → List Cq → Bool
  | _, [] => true
  | vs, c :: l => !unt c && (okA c (atO rm vs c).2 && hlB rm (atO rm vs c).1 l)
theorem hlB_eq (rm : Int) : ∀ (l : List Cq) (vs : List Int), hlB rm vs l = (!(l.any unt) && expl rm vs l)
  | [], vs => rfl
  | c :: l, vs => by
    rw [hlB, expl, List.any_cons, hlB_eq rm l]
    cases unt c <;> cases okA c (atO rm vs c).2 <;> cases l.any unt <;> simp
theorem hlB_step (rm : Int) (vs : List Int) (l : List Cq) (i : Nat) (x : Cq) (hx : l[i]? = some x) : hlB rm vs (l.drop i) = (!unt x && (okA x (atO rm vs x).2 && hlB rm (atO rm vs x).1 (l.drop (i + 1)))) := by
  obtain ⟨h1, rfl⟩ := List.getElem?_eq_some_iff.1 hx
  rw [List.drop_eq_getElem_cons h1, hlB]
/-- What the document's Holds answers. -/
def rhB (th rm : Int) (ws : List Int) (cs : List Cq) : Bool × Int := if Dq.dqB th rm = true then (if sB th rm ws cs = true then (hlB rm [] (srt cs), 0) else (false, 211)) else (false, 210)
set_option maxHeartbeats 32000000 in
theorem rHolds_any {T : Nat → Prop} (th rm : Int) (ws : List Int) (cs : List Cq) (a : Option Addr) (cap : Nat) (a3 : Option Addr) (n3 c3 : Nat) (v1 v2 : Value) (w : World)
    (hv : Sl w T 9 (.slice a cs.length cap) cs.length (cqs cs)) (hw : Dq.WdAt w a3 n3 ws) (hzn : cs.length * 72 ≤ 140737488351232) :
    Calls Try.prog 6 #[Dq.dV th rm, rnV (.slice a cs.length cap) v1 v2 (.slice a3 n3 c3)] w fun e w' => e = .returned (.tuple #[.bool (rhB th rm ws cs).1, .int .i64 (rhB th rm ws cs).2]) ∧ Below w.heap.size w w' := by
  obtain ⟨n, hnn⟩ : ∃ n, n = cs.length := ⟨_, rfl⟩
  have hv0 := Mr.hid hv
  rw [← hnn] at hzn ⊢
  have B0 := (b1b (w := w) (.cells #[.int .i64 th, .int .i64 rm] 23 (0, 0))).alloc (by simp) (.cells #[.slice a n cap, v1, v2, .slice a3 n3 c3] 29 (0, 0))
  have b0 := old_at (new_at w (.cells #[.int .i64 th, .int .i64 rm] 23 (0, 0)) w.heap.size rfl) (.cells #[.slice a n cap, v1, v2, .slice a3 n3 c3] 29 (0, 0))
  have b1 := new_at (w.alloc (.cells #[.int .i64 th, .int .i64 rm] 23 (0, 0))) (.cells #[.slice a n cap, v1, v2, .slice a3 n3 c3] 29 (0, 0)) (w.heap.size + 1) (by simp)
  have c0 := Dq.cell_blk b0 0
  have c1 := Dq.cell_blk b0 1
  have d0 := Dq.cell_blk b1 0
  have d1 := Dq.cell_blk b1 1
  have d2 := Dq.cell_blk b1 2
  have d3 := Dq.cell_blk b1 3
  have lb := (Array.getElem?_eq_some_iff.1 b1).1
  have CK : Hid (∀ (W : World), Calls Try.prog 15 #[Dq.dV th rm] W fun e w' => e = .returned (.bool (Dq.dqB th rm)) ∧ Below W.heap.size W w') := Mr.hid (fun W => Dq.rCheck_any th rm W)
  have SN : Hid (1 ≤ th → ∀ (W : World), Below w.heap.size w W → Calls Try.prog 16 #[Dq.dV th rm, rnV (.slice a n cap) v1 v2 (.slice a3 n3 c3)] W fun e w' => e = .returned (.bool (sB th rm ws cs)) ∧ Below W.heap.size W w') := Mr.hid (fun hth W h => by
    have := sound_any th rm hth ws cs a cap a3 n3 c3 v1 v2 W (hv.below h) (hw.below h) (by omega)
    rwa [← hnn] at this)
  have BP : Hid (∀ (W : World), Below w.heap.size w W → Calls Try.prog 17 #[.slice a n cap] W fun e w' => ∃ u l, e = .returned u ∧ Nw W w' u l ∧ l.Perm (pix cs 0) ∧ l.Pairwise (fun a b => ptAt cs a ≤ ptAt cs b)) := Mr.hid (fun W h => by
    have := byPoint_any (hv.below h) (by omega)
    rwa [← hnn] at this)
  unfold Dq.dV at CK SN
  unfold rnV at SN
  have hres : rhB th rm ws cs = if Dq.dqB th rm = true then (if sB th rm ws cs = true then (hlB rm [] (srt cs), 0) else (false, 211)) else (false, 210) := rfl
  have hdq : Dq.dqB th rm = true → 1 ≤ th ∧ rm ≤ 256 := fun h => ⟨(Dq.dqB_in h).1, (Dq.dqB_in h).2.2.2⟩
  have hsb : sB th rm ws cs = true → apR (srt cs) = true := fun h => by unfold sB at h; rw [Bool.and_eq_true, Bool.and_eq_true] at h; exact h.2.1
  generalize rhB th rm ws cs = rb at *
  generalize sB th rm ws cs = sb at *
  generalize Dq.dqB th rm = db at *
  replace hres := Mr.hid hres
  replace hnn := Mr.hid hnn
  replace hdq := Mr.hid hdq
  replace hsb := Mr.hid hsb
  have B0' := Mr.hid B0
  clear B0 b0 b1 hv hw
  unfold Dq.dV rnV
  obtain ⟨r1, r2⟩ := rb
  cases db with
  | false =>
    have e : (r1, r2) = (false, 210) := by have := hres.out; rwa [if_neg (by decide)] at this
    cases e
    clear hres hdq
    go_enter Try.func6, Try.ntmps6
    go_wp2_with (go_at_call 15; refine (CK.out _).mono ?_; clear CK; rintro e w2 ⟨rfl, hB2⟩; have BB := Mr.hid (B0'.out.trans (hB2.mono B0'.out.size)); clear hB2)
    go_ret2
    exact ⟨rfl, BB.out⟩
  | true =>
    obtain ⟨hth, hrm⟩ := hdq.out rfl
    cases sb with
    | false =>
      have e : (r1, r2) = (false, 211) := by have := hres.out; rwa [if_pos rfl, if_neg (by decide)] at this
      cases e
      have SN1 := Mr.hid (SN.out hth)
      clear hres hdq SN
      go_enter Try.func6, Try.ntmps6
      go_upto_region 1 with fail
      generalize (World.alloc (World.alloc _ _) _) = w1 at *
      go_wp2_with (first | (go_at_call 15; refine (CK.out _).mono ?_; clear CK; rintro e w2 ⟨rfl, hB2⟩; have BB := Mr.hid (B0'.out.trans (hB2.mono B0'.out.size)); have k0 := (hB2.cell (p := ⟨w.heap.size, 0, none⟩) (by show w.heap.size < _; omega)).trans c0; have k1 := (hB2.cell (p := ⟨w.heap.size, 1, none⟩) (by show w.heap.size < _; omega)).trans c1; have m0 := (hB2.cell (p := ⟨w.heap.size + 1, 0, none⟩) lb).trans d0; have m1 := (hB2.cell (p := ⟨w.heap.size + 1, 1, none⟩) lb).trans d1; have m2 := (hB2.cell (p := ⟨w.heap.size + 1, 2, none⟩) lb).trans d2; have m3 := (hB2.cell (p := ⟨w.heap.size + 1, 3, none⟩) lb).trans d3; clear hB2 c0 c1 d0 d1 d2 d3) | (go_at_call 16; refine (SN1.out _ BB.out).mono ?_; clear SN1; rintro e w3 ⟨rfl, hB3⟩; have BC := Mr.hid (BB.out.trans (hB3.mono BB.out.size)); clear hB3))
      go_ret2
      exact ⟨rfl, BC.out⟩
    | true =>
      have e : (r1, r2) = (hlB rm [] (srt cs), 0) := by have := hres.out; rwa [if_pos rfl, if_pos rfl] at this
      obtain ⟨rfl, hr1⟩ : r2 = 0 ∧ r1 = hlB rm [] (srt cs) := by cases e; exact ⟨rfl, rfl⟩
      have hap := Mr.hid (hsb.out rfl)
      have SN1 := Mr.hid (SN.out hth)
      replace hr1 := Mr.hid hr1
      clear hres hdq SN hsb e
      go_enter Try.func6, Try.ntmps6
      go_upto_region 1 with fail
      generalize (World.alloc (World.alloc _ _) _) = w1 at *
      go_upto_region 7 with (first | (go_at_call 15; refine (CK.out _).mono ?_; clear CK; rintro e w2 ⟨rfl, hB2⟩; have BB := Mr.hid (B0'.out.trans (hB2.mono B0'.out.size)); have k0 := (hB2.cell (p := ⟨w.heap.size, 0, none⟩) (by show w.heap.size < _; omega)).trans c0; have k1 := (hB2.cell (p := ⟨w.heap.size, 1, none⟩) (by show w.heap.size < _; omega)).trans c1; have m0 := (hB2.cell (p := ⟨w.heap.size + 1, 0, none⟩) lb).trans d0; have m1 := (hB2.cell (p := ⟨w.heap.size + 1, 1, none⟩) lb).trans d1; have m2 := (hB2.cell (p := ⟨w.heap.size + 1, 2, none⟩) lb).trans d2; have m3 := (hB2.cell (p := ⟨w.heap.size + 1, 3, none⟩) lb).trans d3; have lb2 := Nat.lt_of_lt_of_le lb hB2.size; clear hB2 c0 c1 d0 d1 d2 d3) | (go_at_call 16; refine (SN1.out _ BB.out).mono ?_; clear SN1; rintro e w3 ⟨rfl, hB3⟩; have BC := Mr.hid (BB.out.trans (hB3.mono BB.out.size)); replace k0 := (hB3.cell (p := ⟨w.heap.size, 0, none⟩) (by show w.heap.size < _; omega)).trans k0; replace k1 := (hB3.cell (p := ⟨w.heap.size, 1, none⟩) (by show w.heap.size < _; omega)).trans k1; replace m0 := (hB3.cell (p := ⟨w.heap.size + 1, 0, none⟩) lb2).trans m0; have lb3 := Nat.lt_of_lt_of_le lb2 hB3.size; clear hB3 m1 m2 m3 BB) | (go_at_call 17; refine (BP.out _ BC.out).mono ?_; clear BP; rintro e w6 ⟨u, l, rfl, hN, hP, hL⟩))
      obtain ⟨av, cv, rfl, hcv, hcm⟩ := hN.own.form
      have k0' := Mr.hid ((hN.bel.cell (p := ⟨w.heap.size, 0, none⟩) (by show w.heap.size < _; omega)).trans k0)
      have k1' := Mr.hid ((hN.bel.cell (p := ⟨w.heap.size, 1, none⟩) (by show w.heap.size < _; omega)).trans k1)
      have m0' := Mr.hid ((hN.bel.cell (p := ⟨w.heap.size + 1, 0, none⟩) lb3).trans m0)
      have lb6 := Nat.lt_of_lt_of_le lb3 hN.bel.size
      have BW6 : Hid (Below w.heap.size w w6) := Mr.hid (BC.out.trans (hN.bel.mono BC.out.size))
      have hPL : l.length ≤ n := by have h1 := hP.length_eq; have h2 := pix_len cs 0; rw [← hnn.out] at h2; omega
      have HS := Mr.hid ((by_same hP hL).2 hap.out)
      have CA : Hid (∀ y ∈ l, ∃ (j : Nat) (d : Cq), y = (j : Int) ∧ cs[j]? = some d) := Mr.hid (fun y hy => by
        obtain ⟨j, d, h1, h2, _⟩ := pix_call (cs := cs) (i := cs.length) (by rw [List.take_length]; exact hP) hy
        exact ⟨j, d, h1, h2⟩)
      have LN : Hid ((l.map (cAt cs)).length = l.length) := Mr.hid (List.length_map _)
      have LA : Hid (∀ (j : Nat) (y : Nat) (d : Cq), l[j]? = some (y : Int) → cs[y]? = some d → (l.map (cAt cs))[j]? = some d) := Mr.hid (fun j y d h1 h2 => by rw [List.getElem?_map, h1]; simp [cAt_get h2])
      generalize l.map (cAt cs) = LC at *
      have hr1' : Hid (r1 = hlB rm [] LC) := Mr.hid (by rw [HS.out]; exact hr1.out)
      obtain ⟨m, hm⟩ : ∃ m, m = l.length := ⟨_, rfl⟩
      rw [← hm] at hcv hPL ⊢
      replace hm := Mr.hid hm
      replace hN := Mr.hid hN
      clear hP hL k0 k1 m0 hr1 HS hap
      go_wp2
      clear hcv hcm
      go_loopg [6, 8] m (fun gk s6 s8 wr => ∃ (j : Nat) (vs : List Int), s8 = .int .i64 (j : Int) ∧ (j + gk = m) ∧ vs.length ≤ 256 ∧ Own wr (fun k => w6.heap.size ≤ k) 3 1 s6 vs.length (ints vs) ∧ Hid (hlB rm vs (LC.drop j) = hlB rm [] LC) ∧ Below w6.heap.size w6 wr)
      case atStart => exact ⟨0, [], rfl, by omega, by simp, Own.zero _ _ _ _ _, Mr.hid rfl, Below.refl _ _⟩
      case round =>
        obtain ⟨j, vs, rfl, hj, hvl, hO, hz, hB⟩ := hrel
        have k1 := (hB.cell (p := ⟨w.heap.size, 1, none⟩) (by show w.heap.size < _; omega)).trans k1'.out
        have m0 := (hB.cell (p := ⟨w.heap.size + 1, 0, none⟩) lb6).trans m0'.out
        by_cases hlt2 : j < m
        · have q0 : decide ((j : Int) < (m : Int)) = true := decide_eq_true (by omega)
          have q0' : decide (j < m) = true := decide_eq_true (by omega)
          have q3 : (j : Int) < (m : Int) := by omega
          obtain ⟨y, hy⟩ : ∃ y, l[j]? = some y := ⟨_, List.getElem?_eq_getElem (by rw [← hm.out]; omega)⟩
          obtain ⟨jy, Y, rfl, hY⟩ := CA.out y (List.mem_of_getElem? hy)
          have hs := hlB_step rm vs LC j Y (LA.out j jy Y hy hY)
          rw [hs] at hz
          clear hs
          obtain ⟨gb, ob, cb, cur, e9, _⟩ := hN.out.own.there (by rw [← hm.out]; omega)
          injection e9 with e91 e92 e93
          subst e91
          clear e92 e93
          have hN9 := hN.out
          obtain ⟨r0, -, kl⟩ := hN9.cell hy
          clear hN9
          obtain ⟨b, o, rfl, _, D1⟩ := cqx_at (hv0.out.below (BW6.out.trans (hB.mono BW6.out.size))) hY
          have s0 := (hB.cell (p := ⟨gb, _, none⟩) kl).trans r0
          have j1 := (List.getElem?_eq_some_iff.1 hY).1
          rw [← hnn.out] at j1
          have q9 : (jy : Int) < (n : Int) := by omega
          have hB' := Mr.hid hB
          have hO' := Mr.hid hO
          replace hy := Mr.hid hy
          replace hY := Mr.hid hY
          obtain ⟨l1, x0, x1, x2, x3, x4, x5, x6, x7, x8⟩ := D1
          have lbx := Nat.lt_of_lt_of_le lb6 hB.size
          have klr := Nat.lt_of_lt_of_le kl hB.size
          obtain ⟨av, cw, rfl, hcw, hcwm⟩ := hO.form
          have hAl := Mr.hid (atO_len Y hrm hvl)
          have PL : Hid (∀ W, Own W (fun k => w6.heap.size ≤ k) 3 1 (.slice av vs.length cw) vs.length (ints vs) → Calls Try.prog 18 #[.slice av vs.length cw, .int .i64 rm, Y.val] W fun e w' => ∃ v', e = .returned (.tuple #[v', .bool (okA Y (atO rm vs Y).2)]) ∧ Own w' (fun k => W.heap.size ≤ k) 3 1 v' (atO rm vs Y).1.length (ints (atO rm vs Y).1) ∧ Below W.heap.size W w') := Mr.hid (fun W hW => plain_any rm vs Y (by omega) _ _ _ W hW.sl)
          unfold Cq.val at PL
          generalize (atO rm vs Y).1 = vs' at *
          generalize okA Y (atO rm vs Y).2 = ok at *
          have hun : unt Y = (decide (Y.pt ≤ Y.beg) || (decide (Y.fin ≠ -1) && decide (Y.fin < Y.pt))) := rfl
          clear r0 hB hO hcw hcwm
          go_upto_region 10 with fail
          go_region
          have cq := (cqO_cells (new_at wr (cqO Y) wr.heap.size rfl)).drew
          have BQ := (b1b (w := wr) (cqO Y)).drew
          unfold cqO at cq BQ
          generalize World.drew _ = wq at *
          have hBq : Hid (Below w6.heap.size w6 wq) := Mr.hid (hB'.out.trans (BQ.mono hB'.out.size))
          have hOq := Mr.hid (hO'.out.below BQ)
          replace k1 := (BQ.cell (p := ⟨w.heap.size, 1, none⟩) (by show w.heap.size < _; omega)).trans k1
          have hBw : Hid (Below w.heap.size w wq) := Mr.hid (BW6.out.trans (hBq.out.mono BW6.out.size))
          clear x0 x1 x2 x3 x4 x5 x6 x7 x8 s0 m0 BQ hB' hO'
          obtain ⟨lq, x0, x1, x2, x3, x4, x5, x6, x7, x8⟩ := cq
          simp only [Nat.zero_add] at x1 x2 x3 x4 x5 x6 x7 x8
          generalize hu : unt Y = un at *
          obtain ⟨y0, y1, y2, y3, y4, y5, y6, y7, y8⟩ := Y
          simp only at *
          have FALSE : un = true → Hid (r1 = false) := fun h => Mr.hid (by rw [hr1'.out, ← hz.out, h]; rfl)
          have STEP : un = false → Hid ((ok && hlB rm vs' (LC.drop (j + 1))) = hlB rm [] LC) := fun h => Mr.hid (by have := hz.out; rw [h] at this; simpa using this)
          clear hz
          by_cases g1 : y6 ≤ y4
          · have e1 : decide (y6 ≤ y4) = true := decide_eq_true g1
            have hrf := FALSE (by rw [hun]; simp [g1])
            clear FALSE STEP hun hu
            go_wp2
            go_ret2
            exact ⟨by rw [hrf.out]; rfl, hBw.out⟩
          · have e1 : decide (y6 ≤ y4) = false := decide_eq_false g1
            by_cases g2 : y5 = -1
            · have e2 : (y5 != -1) = false := by simp [g2]
              have hst := STEP (by rw [hun]; simp [g1, g2])
              clear FALSE STEP hun hu g1 g2
              cases ok with
              | false =>
                have hrf : Hid (r1 = false) := Mr.hid (by rw [hr1'.out, ← hst.out]; rfl)
                go_wp2_with (go_at_call 18; refine (PL.out _ hOq.out).mono ?_; rintro e w9 ⟨v', rfl, hO9, hB9⟩; replace hO9 := Mr.hid hO9)
                go_ret2
                exact ⟨by rw [hrf.out]; rfl, hBw.out.trans (hB9.mono hBw.out.size)⟩
              | true =>
                rw [Bool.true_and] at hst
                go_wp2_with (go_at_call 18; refine (PL.out _ hOq.out).mono ?_; rintro e w9 ⟨v', rfl, hO9, hB9⟩; replace hO9 := Mr.hid hO9)
                go_roundg (gk - 1)
                case measure => omega
                case rel => exact ⟨j + 1, vs', by simp, by omega, hAl.out, hO9.out.mono (fun k hk => Nat.le_trans hBq.out.size hk), hst, hBq.out.trans (hB9.mono hBq.out.size)⟩
            · have e2 : (y5 != -1) = true := by simp [g2]
              by_cases g3 : y5 < y6
              · have e3 : decide (y5 < y6) = true := decide_eq_true g3
                have hrf := FALSE (by rw [hun]; simp [g2, g3])
                clear FALSE STEP hun hu
                go_wp2
                go_ret2
                exact ⟨by rw [hrf.out]; rfl, hBw.out⟩
              · have e3 : decide (y5 < y6) = false := decide_eq_false g3
                have hst := STEP (by rw [hun]; simp [g1, g3])
                clear FALSE STEP hun hu g1 g2 g3
                cases ok with
                | false =>
                  have hrf : Hid (r1 = false) := Mr.hid (by rw [hr1'.out, ← hst.out]; rfl)
                  go_wp2_with (go_at_call 18; refine (PL.out _ hOq.out).mono ?_; rintro e w9 ⟨v', rfl, hO9, hB9⟩; replace hO9 := Mr.hid hO9)
                  go_ret2
                  exact ⟨by rw [hrf.out]; rfl, hBw.out.trans (hB9.mono hBw.out.size)⟩
                | true =>
                  rw [Bool.true_and] at hst
                  go_wp2_with (go_at_call 18; refine (PL.out _ hOq.out).mono ?_; rintro e w9 ⟨v', rfl, hO9, hB9⟩; replace hO9 := Mr.hid hO9)
                  go_roundg (gk - 1)
                  case measure => omega
                  case rel => exact ⟨j + 1, vs', by simp, by omega, hAl.out, hO9.out.mono (fun k hk => Nat.le_trans hBq.out.size hk), hst, hBq.out.trans (hB9.mono hBq.out.size)⟩
        · have q0 : decide ((j : Int) < (m : Int)) = false := decide_eq_false (by omega)
          have q0' : decide (j < m) = false := decide_eq_false hlt2
          have hl : Hid (r1 = true) := Mr.hid (by rw [hr1'.out, ← hz.out, List.drop_of_length_le (by rw [LN.out, ← hm.out]; omega)]; rfl)
          have BF := Mr.hid (BW6.out.trans (hB.mono BW6.out.size))
          clear hz
          go_wp2
          go_ret2
          exact ⟨by rw [hl.out]; rfl, BF.out⟩
end Go.Proofs.Ytaojggnflblgnaa.Hd
