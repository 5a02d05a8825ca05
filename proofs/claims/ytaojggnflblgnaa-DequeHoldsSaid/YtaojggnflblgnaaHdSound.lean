/-
  DEQUE: the document's Sound.
-/
import Derived.Test.YtaojggnflblgnaaHdSame
import Derived.Test.YtaojggnflblgnaaHdOne
import Derived.Test.YtaojggnflblgnaaHdApart
import Derived.Test.YtaojggnflblgnaaHdPtd
import Derived.Test.YtaojggnflblgnaaDqRef
namespace Go.Proofs.Ytaojggnflblgnaa.Hd
open Go.RowKit Mr Md
set_option linter.unusedVariables false
set_option linter.unusedSimpArgs false
set_option maxRecDepth 100000
theorem kn_true {th : Int} {c : Cq} (hth : 1 ≤ th) : kn th c = true ↔ ¬ (c.op < 90 ∨ 92 < c.op ∨ c.th < 0 ∨ th ≤ c.th ∨ (c.op ≠ 92 ∧ c.th ≠ 0)) := by
  unfold kn
  split
  · rename_i h; simp only [decide_eq_true_eq]; omega
  · split
    · rename_i h1 h2; simp only [decide_eq_true_eq]; omega
    · rename_i h1 h2; simp only [Bool.false_eq_true, false_iff]; omega
theorem all_no {cs : List Cq} {th : Int} {i : Nat} {x : Cq} (hx : cs[i]? = some x) (h : kn th x = false) : cs.all (kn th) = false := by
  rw [List.all_eq_false]
  exact ⟨x, List.mem_of_getElem? hx, by rw [h]; simp⟩
theorem all_step {cs : List Cq} {th : Int} {i : Nat} {x : Cq} (hx : cs[i]? = some x) (h : kn th x = true) (ha : (cs.take i).all (kn th) = true) : (cs.take (i + 1)).all (kn th) = true := by
  rw [Dq.take_succ_of hx, List.all_append, ha]; simp [h]
/-- What Sound answers. -/
def sB (th rm : Int) (ws : List Int) (cs : List Cq) : Bool := cs.all (kn th) && (apR (srt cs) && decide ((Dq.lfR th rm ws).2 = 0))
set_option maxHeartbeats 32000000 in
theorem sound_any {T : Nat → Prop} (th rm : Int) (hth : 1 ≤ th) (ws : List Int) (cs : List Cq) (a : Option Addr) (cap : Nat) (a3 : Option Addr) (n3 c3 : Nat) (v1 v2 : Value) (w : World)
    (hv : Sl w T 9 (.slice a cs.length cap) cs.length (cqs cs)) (hw : Dq.WdAt w a3 n3 ws) (hzn : cs.length * 72 ≤ 140737488351232) :
    Calls Try.prog 16 #[Dq.dV th rm, rnV (.slice a cs.length cap) v1 v2 (.slice a3 n3 c3)] w fun e w' => e = .returned (.bool (sB th rm ws cs)) ∧ Below w.heap.size w w' := by
  obtain ⟨n, hnn⟩ : ∃ n, n = cs.length := ⟨_, rfl⟩
  have hv0 := Mr.hid hv
  rw [← hnn] at hzn ⊢
  have B0 := (b1b (w := w) (.cells #[.int .i64 th, .int .i64 rm] 23 (0, 0))).alloc (by simp) (.cells #[.slice a n cap, v1, v2, .slice a3 n3 c3] 29 (0, 0))
  have b0 := old_at (new_at w (.cells #[.int .i64 th, .int .i64 rm] 23 (0, 0)) w.heap.size rfl) (.cells #[.slice a n cap, v1, v2, .slice a3 n3 c3] 29 (0, 0))
  have b1 := new_at (w.alloc (.cells #[.int .i64 th, .int .i64 rm] 23 (0, 0))) (.cells #[.slice a n cap, v1, v2, .slice a3 n3 c3] 29 (0, 0)) (w.heap.size + 1) (by simp)
  have c0 := Dq.cell_blk b0 0
  have c1 := Dq.cell_blk b0 1
  have d0 := Dq.cell_blk b1 0
  have d3 := Dq.cell_blk b1 3
  have lb := (Array.getElem?_eq_some_iff.1 b1).1
  have LF : Hid (∀ (W : World), Below w.heap.size w W → Calls Try.prog 26 #[Dq.dV th rm, .slice a3 n3 c3] W fun e w' => ∃ va vl vc, e = .returned (.tuple #[.slice va vl vc, .int .i64 (Dq.lfR th rm ws).2]) ∧ Below W.heap.size W w') := fun W h => by
    refine (Dq.rLeft_any th rm ws a3 n3 c3 W (hw.below h)).mono ?_
    rintro e w' ⟨va, vc, he, _, hB⟩
    exact ⟨va, _, vc, he, hB⟩
  have BP : Hid (∀ (W : World), Below w.heap.size w W → Calls Try.prog 17 #[.slice a n cap] W fun e w' => ∃ u l, e = .returned u ∧ Nw W w' u l ∧ l.Perm (pix cs 0) ∧ l.Pairwise (fun a b => ptAt cs a ≤ ptAt cs b)) := fun W h => by
    have := byPoint_any (hv.below h) (by omega)
    rwa [← hnn] at this
  unfold Dq.dV at LF
  have hres : sB th rm ws cs = (cs.all (kn th) && (apR (srt cs) && decide ((Dq.lfR th rm ws).2 = 0))) := rfl
  generalize sB th rm ws cs = rb at *
  generalize (Dq.lfR th rm ws).2 = xe at *
  replace hres := Mr.hid hres
  replace hnn := Mr.hid hnn
  have B0' := Mr.hid B0
  clear B0 b0 b1 hv hw
  unfold Dq.dV rnV
  go_enter Try.func16, Try.ntmps16
  go_upto_region 1 with fail
  generalize (World.alloc (World.alloc _ _) _) = w1 at *
  go_wp2
  go_loopg [5] n (fun gk s5 wr => ∃ i : Nat, s5 = .int .i64 (i : Int) ∧ (i + gk = n) ∧ Hid ((cs.take i).all (kn th) = true) ∧ Below w1.heap.size w1 wr)
  case atStart => exact ⟨0, rfl, by omega, Mr.hid rfl, Below.refl _ _⟩
  case round =>
    obtain ⟨i, rfl, hi, hz, hB⟩ := hrel
    have k0 := (hB.cell (p := ⟨w.heap.size, 0, none⟩) (by show w.heap.size < _; omega)).trans c0
    have k1 := (hB.cell (p := ⟨w.heap.size, 1, none⟩) (by show w.heap.size < _; omega)).trans c1
    have m0 := (hB.cell (p := ⟨w.heap.size + 1, 0, none⟩) lb).trans d0
    have m3 := (hB.cell (p := ⟨w.heap.size + 1, 3, none⟩) lb).trans d3
    have hB' := Mr.hid hB
    have BW : Hid (Below w.heap.size w wr) := Mr.hid (B0'.out.trans (hB.mono B0'.out.size))
    have lbr := Nat.lt_of_lt_of_le lb hB.size
    by_cases hlt : i < n
    · have q3 : (i : Int) < (n : Int) := by omega
      obtain ⟨x, hx⟩ : ∃ x, cs[i]? = some x := ⟨_, List.getElem?_eq_getElem (by rw [← hnn.out]; omega)⟩
      obtain ⟨b, o, rfl, _, D1⟩ := cqx_at (hv0.out.below BW.out) hx
      obtain ⟨l1, x0, x1, x2, x3, x4, x5, x6, x7, x8⟩ := D1
      have hx' := Mr.hid hx
      have cq := cqO_cells (new_at wr (cqO x) wr.heap.size rfl)
      have BQ := b1b (w := wr) (cqO x)
      unfold cqO at cq BQ
      clear hx hB
      go_upto_region 5 with fail
      generalize wr.alloc _ = wq at *
      replace k0 := (BQ.cell (p := ⟨w.heap.size, 0, none⟩) (by show w.heap.size < _; omega)).trans k0
      have B6 : Hid (Below w1.heap.size w1 wq) := Mr.hid (hB'.out.trans (BQ.mono hB'.out.size))
      have y0 := cq.c0
      have y1 := cq.c1
      simp only [Nat.zero_add] at y1
      clear x0 x1 x2 x3 x4 x5 x6 x7 x8 BQ k1 m0 m3 cq
      by_cases g1 : x.op < 90
      · have e1 : decide (x.op < 90) = true := decide_eq_true g1
        have hk : kn th x = false := by
          cases hk : kn th x with
          | false => rfl
          | true => exact absurd (.inl g1) ((kn_true hth).1 hk)
        have hrf : Hid (rb = false) := Mr.hid (by have h2 := hres.out; rw [all_no hx'.out hk] at h2; exact h2)
        clear hk
        go_wp2
        go_ret
        exact ⟨by rw [hrf.out]; rfl, B0'.out.trans (B6.out.mono B0'.out.size)⟩
      · have e1 : decide (x.op < 90) = false := decide_eq_false g1
        by_cases g2 : 92 < x.op
        · have e2 : decide (92 < x.op) = true := decide_eq_true g2
          have hk : kn th x = false := by
            cases hk : kn th x with
            | false => rfl
            | true => exact absurd (.inr (.inl g2)) ((kn_true hth).1 hk)
          have hrf : Hid (rb = false) := Mr.hid (by have h2 := hres.out; rw [all_no hx'.out hk] at h2; exact h2)
          clear hk
          go_wp2
          go_ret
          exact ⟨by rw [hrf.out]; rfl, B0'.out.trans (B6.out.mono B0'.out.size)⟩
        · have e2 : decide (92 < x.op) = false := decide_eq_false g2
          by_cases g3 : x.th < 0
          · have e3 : decide (x.th < 0) = true := decide_eq_true g3
            have hk : kn th x = false := by
              cases hk : kn th x with
              | false => rfl
              | true => exact absurd (.inr (.inr (.inl g3))) ((kn_true hth).1 hk)
            have hrf : Hid (rb = false) := Mr.hid (by have h2 := hres.out; rw [all_no hx'.out hk] at h2; exact h2)
            clear hk
            go_wp2
            go_ret
            exact ⟨by rw [hrf.out]; rfl, B0'.out.trans (B6.out.mono B0'.out.size)⟩
          · have e3 : decide (x.th < 0) = false := decide_eq_false g3
            by_cases g4 : th ≤ x.th
            · have e4 : decide (th ≤ x.th) = true := decide_eq_true g4
              have hk : kn th x = false := by
                cases hk : kn th x with
                | false => rfl
                | true => exact absurd (.inr (.inr (.inr (.inl g4)))) ((kn_true hth).1 hk)
              have hrf : Hid (rb = false) := Mr.hid (by have h2 := hres.out; rw [all_no hx'.out hk] at h2; exact h2)
              clear hk
              go_wp2
              go_ret
              exact ⟨by rw [hrf.out]; rfl, B0'.out.trans (B6.out.mono B0'.out.size)⟩
            · have e4 : decide (th ≤ x.th) = false := decide_eq_false g4
              by_cases g5 : x.op = 92
              · have e5 : (x.op != 92) = false := by simp [g5]
                have hk : kn th x = true := (kn_true hth).2 (by omega)
                have hz' := Mr.hid (all_step hx'.out hk hz.out)
                clear hk
                go_wp2
                go_roundg (gk - 1)
                case measure => omega
                case rel => exact ⟨i + 1, by simp, by omega, hz', B6.out⟩
              · have e5 : (x.op != 92) = true := by simp [g5]
                by_cases g6 : x.th = 0
                · have e6 : (x.th != 0) = false := by simp [g6]
                  have hk : kn th x = true := (kn_true hth).2 (by omega)
                  have hz' := Mr.hid (all_step hx'.out hk hz.out)
                  clear hk
                  go_wp2
                  go_roundg (gk - 1)
                  case measure => omega
                  case rel => exact ⟨i + 1, by simp, by omega, hz', B6.out⟩
                · have e6 : (x.th != 0) = true := by simp [g6]
                  have hk : kn th x = false := by
                    cases hk : kn th x with
                    | false => rfl
                    | true => exact absurd (.inr (.inr (.inr (.inr ⟨g5, g6⟩)))) ((kn_true hth).1 hk)
                  have hrf : Hid (rb = false) := Mr.hid (by have h2 := hres.out; rw [all_no hx'.out hk] at h2; exact h2)
                  clear hk
                  go_wp2
                  go_ret
                  exact ⟨by rw [hrf.out]; rfl, B0'.out.trans (B6.out.mono B0'.out.size)⟩
    · have q1 : decide ((i : Int) < (n : Int)) = false := decide_eq_false (by omega)
      have q2 : decide (i < n) = false := decide_eq_false hlt
      obtain rfl : i = n := by omega
      have hka : cs.all (kn th) = true := by have := hz.out; rwa [List.take_of_length_le (by rw [← hnn.out]; exact Nat.le_refl _)] at this
      have hres' : Hid (rb = (apR (srt cs) && decide (xe = 0))) := Mr.hid (by have := hres.out; rwa [hka, Bool.true_and] at this)
      clear hres hka hz
      go_upto_region 9 with (go_at_call 17; refine (BP.out _ BW.out).mono ?_; rintro e w6 ⟨u, l, rfl, hN, hP, hL⟩)
      obtain ⟨av, cv, rfl, hcv, hcm⟩ := hN.own.form
      have k0 := (hN.bel.cell (p := ⟨w.heap.size, 0, none⟩) (by show w.heap.size < _; omega)).trans k0
      have k1 := (hN.bel.cell (p := ⟨w.heap.size, 1, none⟩) (by show w.heap.size < _; omega)).trans k1
      have m0 := (hN.bel.cell (p := ⟨w.heap.size + 1, 0, none⟩) lbr).trans m0
      have m3 := (hN.bel.cell (p := ⟨w.heap.size + 1, 3, none⟩) lbr).trans m3
      have lb6 := Nat.lt_of_lt_of_le lbr hN.bel.size
      have BW6 : Hid (Below w.heap.size w w6) := Mr.hid (BW.out.trans (hN.bel.mono BW.out.size))
      have hPL : l.length ≤ i := by have h1 := hP.length_eq; have h2 := pix_len cs 0; rw [← hnn.out] at h2; omega
      have HS := Mr.hid (by_same hP hL).1
      have CA : Hid (∀ y ∈ l, ∃ (j : Nat) (d : Cq), y = (j : Int) ∧ cs[j]? = some d) := Mr.hid (fun y hy => by
        obtain ⟨j, d, h1, h2, _⟩ := pix_call (cs := cs) (i := cs.length) (by rw [List.take_length]; exact hP) hy
        exact ⟨j, d, h1, h2⟩)
      have LN : Hid ((l.map (cAt cs)).length = l.length) := Mr.hid (List.length_map _)
      have LA : Hid (∀ (j : Nat) (y : Nat) (d : Cq), l[j]? = some (y : Int) → cs[y]? = some d → (l.map (cAt cs))[j]? = some d) := Mr.hid (fun j y d h1 h2 => by rw [List.getElem?_map, h1]; simp [cAt_get h2])
      generalize l.map (cAt cs) = LC at *
      obtain ⟨m, hm⟩ : ∃ m, m = l.length := ⟨_, rfl⟩
      rw [← hm] at hcv hPL ⊢
      replace hm := Mr.hid hm
      replace hN := Mr.hid hN
      clear hP hL hB
      have k0' := Mr.hid k0
      have k1' := Mr.hid k1
      have m0' := Mr.hid m0
      have m3' := Mr.hid m3
      go_wp2
      clear k0 k1 m0 m3 hcv hcm
      go_loopg [9] m (fun gk s9 wr => ∃ j : Nat, s9 = .int .i64 ((j : Int) + 1) ∧ (j + gk = m) ∧ Hid (apR (LC.drop j) = apR LC) ∧ Below w6.heap.size w6 wr)
      case atStart => exact ⟨0, rfl, by omega, Mr.hid rfl, Below.refl _ _⟩
      case round =>
        obtain ⟨j, rfl, hj, hz, hB⟩ := hrel
        have k0 := (hB.cell (p := ⟨w.heap.size, 0, none⟩) (by show w.heap.size < _; omega)).trans k0'.out
        have k1 := (hB.cell (p := ⟨w.heap.size, 1, none⟩) (by show w.heap.size < _; omega)).trans k1'.out
        have m0 := (hB.cell (p := ⟨w.heap.size + 1, 0, none⟩) lb6).trans m0'.out
        have m3 := (hB.cell (p := ⟨w.heap.size + 1, 3, none⟩) lb6).trans m3'.out
        by_cases hlt2 : j + 1 < m
        · have q0 : decide ((j : Int) + 1 < (m : Int)) = true := decide_eq_true (by omega)
          have q3 : (j : Int) + 1 < (m : Int) := by omega
          obtain ⟨y, hy⟩ : ∃ y, l[j]? = some y := ⟨_, List.getElem?_eq_getElem (by rw [← hm.out]; omega)⟩
          obtain ⟨z, hzz⟩ : ∃ z, l[j + 1]? = some z := ⟨_, List.getElem?_eq_getElem (by rw [← hm.out]; omega)⟩
          obtain ⟨jy, Y, rfl, hY⟩ := CA.out y (List.mem_of_getElem? hy)
          obtain ⟨jz, Z, rfl, hZ⟩ := CA.out z (List.mem_of_getElem? hzz)
          have hs := apR_step LC j Y Z (LA.out j jy Y hy hY) (LA.out (j + 1) jz Z hzz hZ)
          rw [hs] at hz
          clear hs
          obtain ⟨gb, ob, cb, cur, e9, _⟩ := hN.out.own.there (by rw [← hm.out]; omega)
          injection e9 with e91 e92 e93
          subst e91
          clear e92 e93
          have hN9 := hN.out
          obtain ⟨r0, -, kl⟩ := hN9.cell hy
          obtain ⟨r1, -, -⟩ := hN9.cell hzz
          clear hN9
          obtain ⟨b, o, rfl, _, D1⟩ := cqx_at (hv0.out.below (BW6.out.trans (hB.mono BW6.out.size))) hY
          obtain ⟨b', o', e', _, D2⟩ := cqx_at (hv0.out.below (BW6.out.trans (hB.mono BW6.out.size))) hZ
          cases e'
          have s0 := (hB.cell (p := ⟨gb, _, none⟩) kl).trans r0
          have s1 := (hB.cell (p := ⟨gb, _, none⟩) kl).trans r1
          have j1 := (List.getElem?_eq_some_iff.1 hY).1
          have j2 := (List.getElem?_eq_some_iff.1 hZ).1
          rw [← hnn.out] at j1 j2
          have q4 : (0 : Int) ≤ (j : Int) := by omega
          have q5 : (j : Int) < (m : Int) := by omega
          have q6 : (0 : Int) ≤ (j : Int) + 1 := by omega
          have q7 : ((j : Int) + 1).toNat = j + 1 := by omega
          have q8 : wrap64 ((j : Int) + 1 - 1) = (j : Int) := by rw [Int.add_sub_cancel]; simp only [wrap64]; omega
          have q8' : IntKind.i64.wrap ((j : Int) + 1 - 1) = (j : Int) := by rw [Int.add_sub_cancel]; exact i64x _ (by omega) (by omega)
          have q9 : (jy : Int) < (i : Int) := by omega
          have q10 : (jz : Int) < (i : Int) := by omega
          have hB' := Mr.hid hB
          replace hy := Mr.hid hy
          replace hzz := Mr.hid hzz
          replace hY := Mr.hid hY
          replace hZ := Mr.hid hZ
          have D2' := Mr.hid D2
          obtain ⟨l1, x0, x1, x2, x3, x4, x5, x6, x7, x8⟩ := D1
          have klr := Nat.lt_of_lt_of_le kl hB.size
          have lbx := Nat.lt_of_lt_of_le lb6 hB.size
          clear D2 r0 r1 hB
          go_upto_region 12 with fail
          go_region
          have cq := (cqO_cells (new_at wr (cqO Y) wr.heap.size rfl)).drew
          have BQ := (b1b (w := wr) (cqO Y)).drew
          unfold cqO at cq BQ
          generalize World.drew _ = wq at *
          have lq := cq.lt
          have hBq : Hid (Below w6.heap.size w6 wq) := Mr.hid (hB'.out.trans (BQ.mono hB'.out.size))
          replace s1 := (BQ.cell (p := ⟨gb, _, none⟩) (Nat.lt_of_lt_of_le kl hB'.out.size)).trans s1
          replace m0 := (BQ.cell (p := ⟨w.heap.size + 1, 0, none⟩) (Nat.lt_of_lt_of_le lb6 hB'.out.size)).trans m0
          have kl' := Nat.lt_of_lt_of_le kl hBq.out.size
          have D3 := D2'.out.below BQ
          have p1 := cq.c1
          have p6 := cq.c6
          simp only [Nat.zero_add] at p1 p6
          clear x0 x1 x2 x3 x4 x5 x6 x7 x8 s0 m3 k0 k1 cq BQ
          obtain ⟨l2, x0, x1, x2, x3, x4, x5, x6, x7, x8⟩ := D3
          have lbq := Nat.lt_of_lt_of_le lb6 hBq.out.size
          go_upto_region 13 with fail
          go_region
          have cr := (cqO_cells (new_at wq (cqO Z) wq.heap.size rfl)).drew
          have BR := (b1b (w := wq) (cqO Z)).drew
          unfold cqO at cr BR
          generalize World.drew _ = wz at *
          have hBz : Hid (Below w6.heap.size w6 wz) := Mr.hid (hBq.out.trans (BR.mono hBq.out.size))
          have hBz' : Hid (Below w.heap.size w wz) := Mr.hid (BW6.out.trans (hBz.out.mono BW6.out.size))
          replace p1 := (BR.cell (p := ⟨wr.heap.size, _, none⟩) lq).trans p1
          replace p6 := (BR.cell (p := ⟨wr.heap.size, _, none⟩) lq).trans p6
          have r1 := cr.c1
          have r6 := cr.c6
          simp only [Nat.zero_add] at r1 r6
          clear x0 x1 x2 x3 x4 x5 x6 x7 x8 s1 m0 cr BR
          have hap : Hid (rb = (apR LC && decide (xe = 0))) := Mr.hid (by rw [HS.out]; exact hres'.out)
          obtain ⟨y0, y1, y2, y3, y4, y5, y6, y7, y8⟩ := Y
          obtain ⟨z0, z1, z2, z3, z4, z5, z6, z7, z8⟩ := Z
          simp only at *
          by_cases hpe : y6 = z6
          · have e1 : (y6 == z6) = true := by simp [hpe]
            by_cases ho : y1 = 92
            · have e2 : (y1 != 92) = false := by simp [ho]
              by_cases ht : z1 = 91
              · have e3 : (z1 != 91) = false := by simp [ht]
                have hz' : Hid (apR (List.drop (j + 1) LC) = apR LC) := Mr.hid (by have := hz.out; simpa [apc, hpe, ho, ht] using this)
                clear hz hpe ho ht
                go_wp2
                go_roundg (gk - 1)
                case measure => omega
                case rel => exact ⟨j + 1, by simp, by omega, hz', hBz.out⟩
              · have e3 : (z1 != 91) = true := by simp [ht]
                have hrx : Hid (rb = false) := Mr.hid (by have := hz.out; rw [hap.out, ← this]; simp [apc, hpe, ho, ht])
                clear hz hpe ho ht
                go_wp2
                go_ret
                exact ⟨by rw [hrx.out]; rfl, hBz'.out⟩
            · have e2 : (y1 != 92) = true := by simp [ho]
              have hrx : Hid (rb = false) := Mr.hid (by have := hz.out; rw [hap.out, ← this]; simp [apc, hpe, ho])
              clear hz hpe ho
              go_wp2
              go_ret
              exact ⟨by rw [hrx.out]; rfl, hBz'.out⟩
          · have e1 : (y6 == z6) = false := by simp [hpe]
            have hz' : Hid (apR (List.drop (j + 1) LC) = apR LC) := Mr.hid (by have := hz.out; simpa [apc, hpe] using this)
            clear hz hpe
            go_wp2
            go_roundg (gk - 1)
            case measure => omega
            case rel => exact ⟨j + 1, by simp, by omega, hz', hBz.out⟩
        · have q0 : decide ((j : Int) + 1 < (m : Int)) = false := decide_eq_false (by omega)
          have hap := Mr.hid (show rb = (apR LC && decide (xe = 0)) by rw [HS.out]; exact hres'.out)
          have hl : apR LC = true := by rw [← hz.out]; exact apR_last LC j (by rw [LN.out, ← hm.out]; omega)
          have hrx : Hid (rb = decide (xe = 0)) := Mr.hid (by rw [hap.out, hl, Bool.true_and])
          have BF := Mr.hid (BW6.out.trans (hB.mono BW6.out.size))
          have hxx : (xe == 0) = decide (xe = 0) := rfl
          clear hl hz
          go_wp2_with (go_at_call 26; refine (LF.out _ BF.out).mono ?_; rintro e w9 ⟨va, vl, vc, rfl, hB9⟩)
          go_ret
          exact ⟨by rw [hrx.out]; rfl, BF.out.trans (hB9.mono BF.out.size)⟩
end Go.Proofs.Ytaojggnflblgnaa.Hd
