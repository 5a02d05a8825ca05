import Derived.Test.YtedaoljmcfbbpaaGreatJ35
import Derived.Test.YtedaoljmcfbbpaaGreatJ36
import Derived.Test.YtedaoljmcfbbpaaGreatJ37
/-
  DEQUE: pointed.
-/
namespace Go.Proofs.YtedaoljmcfbbpaaGreat.Hd
open Go.RowKit Mr Md
set_option linter.unusedVariables false
set_option linter.unusedSimpArgs false
set_option maxRecDepth 100000
theorem info_c : ∃ i, Tryz.prog.info? 45 = some i ∧ i.zero = some ((⟨0, 0, 0, 0, 0, 0, 0, 0, 0⟩ : Cq).val) ∧ i.size = 9 ∧ i.bytes = 72 := Dq.info_of (by kernel_rfl)
def pE (th rm : Int) (ws : List Int) (cs L : List Cq) : Int :=
  if (Dq.lfR th rm ws).2 = 0 then (if cs.all (kn th) && apR L then 0 else 211) else (Dq.lfR th rm ws).2
theorem pts_step (cs : List Cq) (i : Nat) (x : Cq) (hx : cs[i]? = some x) : pts (cs.take (i + 1)) = if x.pt = -1 then pts (cs.take i) else pts (cs.take i) ++ [x] := by
  rw [Dq.take_succ_of hx]
  unfold pts
  rw [List.filter_append]
  by_cases h : x.pt = -1 <;> simp [h]
theorem pts_len (l : List Cq) : (pts l).length ≤ l.length := List.length_filter_le _ _
def rnV (v0 v1 v2 v3 : Value) : Value := .agg #[v0, v1, v2, v3]
theorem cqs_single (x : Cq) : cqs [x] = x.row := by simp [cqs]
theorem newC {W : World} {b : Nat} {x : Cq} (hb : b = W.heap.size) : ∀ ad, some (⟨b, 0, none⟩ : Addr) = some ad → ∀ j u, (x.row)[j]? = some u → (W.alloc (cqO x)).cell? (ad.add j) = some u := by
  subst hb
  rintro ad e j u hu
  cases e
  rw [add1, Nat.zero_add]
  have := new_at W (cqO x) W.heap.size rfl
  unfold cqO at this
  unfold cqO
  rw [Dq.cell_blk this]
  simpa [Cq.row] using hu
set_option maxHeartbeats 16000000 in
theorem pointed_any {T : Nat → Prop} (th rm : Int) (ws : List Int) (cs L : List Cq) (hP : L.Perm (pts cs)) (hS : L.Pairwise (fun a b => ¬ Cq.lt b a)) (a : Option Addr) (cap : Nat) (a3 : Option Addr) (n3 c3 : Nat) (v1 v2 : Value) (w : World)
    (hv : Sl w T 9 (.slice a cs.length cap) cs.length (cqs cs)) (hw : Dq.WdAt w a3 n3 ws) (hzn : cs.length * 72 ≤ 140737488351232) :
    Calls Tryz.prog 15 #[Dq.dV th rm, rnV (.slice a cs.length cap) v1 v2 (.slice a3 n3 c3)] w fun e w' => ∃ va vn vc, e = .returned (.tuple #[.slice va vn vc, .int .i64 (pE th rm ws cs L)]) ∧ Below w.heap.size w w' ∧ (pE th rm ws cs L = 0 → vn = L.length ∧ Sl w' (fun _ => True) 9 (.slice va L.length vc) L.length (cqs L)) := by
  obtain ⟨n, hnn⟩ : ∃ n, n = cs.length := ⟨_, rfl⟩
  have hv0 := Mr.hid hv
  rw [← hnn] at hzn ⊢
  clear hv
  have B0 := (b1b (w := w) (.cells #[.int .i64 th, .int .i64 rm] 23 (0, 0))).alloc (by simp) (.cells #[.slice a n cap, v1, v2, .slice a3 n3 c3] 32 (0, 0))
  have b0 := old_at (new_at w (.cells #[.int .i64 th, .int .i64 rm] 23 (0, 0)) w.heap.size rfl) (.cells #[.slice a n cap, v1, v2, .slice a3 n3 c3] 32 (0, 0))
  have b1 := new_at (w.alloc (.cells #[.int .i64 th, .int .i64 rm] 23 (0, 0))) (.cells #[.slice a n cap, v1, v2, .slice a3 n3 c3] 32 (0, 0)) (w.heap.size + 1) (by simp)
  have c0 := Dq.cell_blk b0 0
  have c1 := Dq.cell_blk b0 1
  have d0 := Dq.cell_blk b1 0
  have d3 := Dq.cell_blk b1 3
  have lb := (Array.getElem?_eq_some_iff.1 b1).1
  have LF : Hid (∀ (W : World), Below w.heap.size w W → Calls Tryz.prog 10 #[Dq.dV th rm, .slice a3 n3 c3] W fun e w' => ∃ va vl vc, e = .returned (.tuple #[.slice va vl vc, .int .i64 (Dq.lfR th rm ws).2]) ∧ Below W.heap.size W w') := fun W h => by
    refine (Dq.Left_any th rm ws a3 n3 c3 W (hw.below h)).mono ?_
    rintro e w' ⟨va, vc, he, _, hB⟩
    exact ⟨va, _, vc, he, hB⟩
  have KN : Hid (∀ (x : Cq) (W : World), Calls Tryz.prog 26 #[Dq.dV th rm, x.val] W fun e w' => e = .returned (.bool (kn th x)) ∧ Below W.heap.size W w') := fun x W => known_any th rm x W
  unfold Dq.dV at LF KN
  obtain ⟨pe, hpe⟩ : ∃ x, x = pE th rm ws cs L := ⟨_, rfl⟩
  rw [← hpe]
  unfold pE at hpe
  generalize (Dq.lfR th rm ws).2 = xe at *
  replace hnn := Mr.hid hnn
  have B0' := Mr.hid B0
  clear B0 b0 b1
  unfold Dq.dV rnV
  go_enter Tryz.func15, Tryz.ntmps15
  go_upto_region 1 with fail
  generalize (World.alloc (World.alloc _ _) _) = w1 at *
  go_upto_region 2 with (go_at_call 10; refine (LF.out _ B0'.out).mono ?_; rintro e w2 ⟨va, vl, vc, rfl, hB2⟩)
  have k0 := (hB2.cell (p := ⟨w.heap.size, 0, none⟩) (by show w.heap.size < _; omega)).trans c0
  have k1 := (hB2.cell (p := ⟨w.heap.size, 1, none⟩) (by show w.heap.size < _; omega)).trans c1
  have m0 := (hB2.cell (p := ⟨w.heap.size + 1, 0, none⟩) lb).trans d0
  have lb2 := Nat.lt_of_lt_of_le lb hB2.size
  have BB : Hid (Below w.heap.size w w2) := Mr.hid (B0'.out.trans (hB2.mono B0'.out.size))
  clear c0 c1 d0 d3 hB2 lb
  by_cases hx0 : xe = 0
  · have q0 : (xe != 0) = false := by simp [hx0]
    rw [if_pos hx0] at hpe
    replace hpe := Mr.hid hpe
    clear hx0
    have k0' := Mr.hid k0
    have k1' := Mr.hid k1
    have hvl := Mr.hid (fun (W : World) (h : Below w2.heap.size w2 W) => hv0.out.below (BB.out.trans (h.mono BB.out.size)))
    obtain ⟨i0, hi0, hz0, hz1, hz2⟩ := info_c
    replace hz0 := Mr.hid hz0
    go_wp2
    clear k0 k1 m0
    go_loopg [8, 24] n (fun gk s8 s24 wr => ∃ (i : Nat) (l : List Cq), s24 = .int .i64 (i : Int) ∧ (i + gk = n) ∧ l.length ≤ i ∧ Md.Own wr (fun k => w2.heap.size ≤ k) 45 9 s8 l.length (cqs l) ∧ Hid (l = pts (cs.take i) ∧ (cs.take i).all (kn th) = true) ∧ Below w2.heap.size w2 wr)
    case atStart => exact ⟨0, [], rfl, by omega, by simp, Md.Own.zero _ _ _ _ _, Mr.hid ⟨rfl, rfl⟩, Below.refl _ _⟩
    case round =>
      obtain ⟨i, l, rfl, hi, hll, hO, hz, hB⟩ := hrel
      obtain ⟨av, cv, rfl, hcv, hcm⟩ := hO.form
      have k0 := (hB.cell (p := ⟨w.heap.size, 0, none⟩) (by show w.heap.size < _; omega)).trans k0'.out
      have k1 := (hB.cell (p := ⟨w.heap.size, 1, none⟩) (by show w.heap.size < _; omega)).trans k1'.out
      have hO' := Mr.hid hO
      have hB' := Mr.hid hB
      by_cases hlt : i < n
      · have q3 : (i : Int) < (n : Int) := by omega
        obtain ⟨x, hx⟩ : ∃ x, cs[i]? = some x := ⟨_, List.getElem?_eq_getElem (by rw [← hnn.out]; omega)⟩
        obtain ⟨b, o, rfl, _, D1⟩ := cqx_at (hvl.out _ hB) hx
        have hp := pts_step cs i x hx
        have hx' := Mr.hid hx
        have K := KN.out x
        unfold Cq.val at K
        obtain ⟨l1, x0, x1, x2, x3, x4, x5, x6, x7, x8⟩ := D1
        have cq := cqO_cells (new_at wr (cqO x) wr.heap.size rfl)
        have BQ := b1b (w := wr) (cqO x)
        unfold cqO at cq BQ
        clear hx hO hB hcv hcm
        go_upto_region 8 with fail
        generalize wr.alloc _ = wq at *
        replace k0 := (BQ.cell (p := ⟨w.heap.size, 0, none⟩) (by have := hB'.out.size; show w.heap.size < _; omega)).trans k0
        replace k1 := (BQ.cell (p := ⟨w.heap.size, 1, none⟩) (by have := hB'.out.size; show w.heap.size < _; omega)).trans k1
        have BQ' : Hid (Below w2.heap.size w2 wq) := Mr.hid (hB'.out.trans (BQ.mono hB'.out.size))
        have OQ := Mr.hid (hO'.out.below BQ)
        clear x0 x1 x2 x3 x4 x5 x6 x7 x8 BQ
        cases hkx : kn th x with
        | false =>
          rw [hkx] at K
          replace K := Mr.hid K
          have hpe' : pe = 211 := by
            have : cs.all (kn th) = false := by
              rw [List.all_eq_false]
              exact ⟨x, List.mem_of_getElem? hx'.out, by rw [hkx]; simp⟩
            have h2 := hpe.out
            rw [this] at h2
            simpa using h2
          replace hpe' := Mr.hid hpe'
          obtain ⟨l2, x0, x1, x2, x3, x4, x5, x6, x7, x8⟩ := cq
          simp only [Nat.zero_add] at x1 x2 x3 x4 x5 x6 x7 x8
          go_upto_region 9 with (go_at_call 26; refine (K.out _).mono ?_; rintro e w6 ⟨rfl, hB6⟩)
          go_wp2
          go_ret2
          exact ⟨none, 0, 0, by rw [hpe'.out]; rfl, (BB.out.trans (BQ'.out.mono BB.out.size)).trans (hB6.mono (Nat.le_trans BB.out.size BQ'.out.size)), fun h => absurd (hpe'.out.symm.trans h) (by decide)⟩
        | true =>
          rw [hkx] at K
          replace K := Mr.hid K
          have hz1' : (cs.take (i + 1)).all (kn th) = true := by rw [Dq.take_succ_of hx'.out, List.all_append, hz.out.2]; simp [hkx]
          obtain ⟨l2, x0, x1, x2, x3, x4, x5, x6, x7, x8⟩ := cq
          simp only [Nat.zero_add] at x1 x2 x3 x4 x5 x6 x7 x8
          replace hp := Mr.hid hp
          replace hz1' := Mr.hid hz1'
          go_upto_region 10 with (go_at_call 26; refine (K.out _).mono ?_; rintro e w6 ⟨rfl, hB6⟩)
          have y6 := (hB6.cell (p := ⟨wr.heap.size, _, none⟩) l2).trans x6
          have O6 := Mr.hid (OQ.out.below hB6)
          have B6 : Hid (Below w2.heap.size w2 w6) := Mr.hid (BQ'.out.trans (hB6.mono BQ'.out.size))
          by_cases hpt : x.pt = -1
          · have e6 : (x.pt != -1) = false := by simp [hpt]
            have hn' : Hid (l = pts (cs.take (i + 1)) ∧ (cs.take (i + 1)).all (kn th) = true) := Mr.hid ⟨by rw [hp.out, if_pos hpt]; exact hz.out.1, hz1'.out⟩
            clear x0 x1 x2 x3 x4 x5 x6 x7 x8
            go_wp2
            go_roundg (gk - 1)
            case measure => omega
            case rel => exact ⟨i + 1, l, by simp, by omega, by omega, O6.out, hn', B6.out⟩
          · have e6 : (x.pt != -1) = true := by simp [hpt]
            have y0 := (hB6.cell (p := ⟨wr.heap.size, _, none⟩) l2).trans x0
            have y1 := (hB6.cell (p := ⟨wr.heap.size, _, none⟩) l2).trans x1
            have y2 := (hB6.cell (p := ⟨wr.heap.size, _, none⟩) l2).trans x2
            have y3 := (hB6.cell (p := ⟨wr.heap.size, _, none⟩) l2).trans x3
            have y4 := (hB6.cell (p := ⟨wr.heap.size, _, none⟩) l2).trans x4
            have y5 := (hB6.cell (p := ⟨wr.heap.size, _, none⟩) l2).trans x5
            have y7 := (hB6.cell (p := ⟨wr.heap.size, _, none⟩) l2).trans x7
            have y8 := (hB6.cell (p := ⟨wr.heap.size, _, none⟩) l2).trans x8
            clear x0 x1 x2 x3 x4 x5 x6 x7 x8 k0 k1
            have hn' : Hid (l ++ [x] = pts (cs.take (i + 1)) ∧ (cs.take (i + 1)).all (kn th) = true) := Mr.hid ⟨by rw [hp.out, if_neg hpt, hz.out.1], hz1'.out⟩
            have e1 : Hid (x.row.length = 1 * 9) := Mr.hid rfl
            have e2 : Hid (∀ u ∈ x.row, u.oneCell' = true) := Mr.hid (by rw [← cqs_single]; exact cqs_one [x])
            have e3 := Mr.hid (newC (W := w6) (b := w6.heap.size) (x := x) rfl)
            unfold Cq.row at e1 e2 e3
            unfold cqO at e3
            go_wp2_with (at_builtin; refine wpList_append_mine _ rfl (.tmp 35) (.tmp 37) 27 rfl (fun k => w2.heap.size ≤ k) 45 i0 _ 9 72 Tryz.underlying27 hi0 hz0.out hz1 hz2 rfl _ l.length (cqs l) rfl (O6.out.below (b1b _)) (some ⟨w6.heap.size, 0, none⟩) 1 1 _ rfl e1.out (fun e => by cases e) e3.out e2.out (by unfold maxLen; omega) (by omega) ?_; intro b9 cap9 w9 hown hfr; replace hown := Mr.hid hown; replace hfr := Mr.hid hfr)
            go_roundg (gk - 1)
            case measure => omega
            case rel =>
              have ha := b1b (w := w6) (cqO x)
              have hs6 := B6.out.size
              refine ⟨i + 1, l ++ [x], by simp, by omega, by rw [List.length_append]; exact Nat.succ_le_succ hll, ?_, hn', (B6.out.trans (ha.mono hs6)).trans (hfr.out.below (fun k hk => hk) (Nat.le_trans hs6 ha.size))⟩
              rw [cqs_app, cqs_single, List.length_append]
              exact hown.out.mono (fun k hk => by
                rcases hk with hk | hk
                · exact hk
                · rw [hk]; exact Nat.le_trans hs6 ha.size)
      · have q1 : decide ((i : Int) < (n : Int)) = false := decide_eq_false (by omega)
        have q2 : decide (i < n) = false := decide_eq_false hlt
        obtain rfl : i = n := by omega
        have hl : l = pts cs := by rw [hz.out.1, List.take_of_length_le (by rw [← hnn.out]; exact Nat.le_refl _)]
        have hka : cs.all (kn th) = true := by have := hz.out.2; rwa [List.take_of_length_le (by rw [← hnn.out]; exact Nat.le_refl _)] at this
        rw [← hl] at hP
        have hpe' : Hid (pe = if apR L then 0 else 211) := Mr.hid (by have := hpe.out; rwa [hka, Bool.true_and] at this)
        have AL : Hid (∀ l' : List Cq, l'.Perm l → l'.Pairwise (fun a b => ¬ Cq.lt b a) → apR l' = apR L ∧ (apR l' = true → l' = L) ∧ l'.length = l.length) := Mr.hid (fun l' h1 h2 => ⟨ap_eq (h1.trans hP.symm) h2 hS, fun h => ap_same (h1.trans hP.symm) h2 hS h, h1.length_eq⟩)
        have hLl : Hid (L.length = l.length) := Mr.hid hP.length_eq
        have SO : Hid (Calls Tryz.prog 27 #[.slice av l.length cv, .func (.func 28) #[] #[]] wr fun e w' => e = .returned (.tuple #[]) ∧ Fr wr w' (fun k => w2.heap.size ≤ k) ∧ ∃ l' : List Cq, l'.Perm l ∧ l'.Pairwise (fun a b => ¬ Cq.lt b a) ∧ Sl w' (fun k => w2.heap.size ≤ k) 9 (.slice av l.length cv) l'.length (cqs l')) := Mr.hid (sortC_any hO (by omega))
        have AP : Hid (∀ (l' : List Cq) (W : World), l'.length = l.length → Sl W (fun k => w2.heap.size ≤ k) 9 (.slice av l.length cv) l'.length (cqs l') → Calls Tryz.prog 29 #[.slice av l.length cv] W fun e w' => e = .returned (.bool (apR l')) ∧ Below W.heap.size W w') := Mr.hid (fun l' W h h' => by rw [← h] at h' ⊢; exact apart_any l' av cv W h' (by omega))
        generalize l.length = m at *
        clear hl hka hP hS hO hz k0 k1 hcv hll hO'
        go_upto_region 14 with (go_at_call 27; refine SO.out.mono ?_; rintro e w6 ⟨rfl, hF6, l', hp', hw', hS'⟩)
        obtain ⟨k1, k2, k3⟩ := AL.out l' hp' hw'
        have A6 := Mr.hid (AP.out l' w6 k3 hS')
        have hS'' := Mr.hid hS'
        have B6 : Hid (Below w2.heap.size w2 w6) := Mr.hid (hB'.out.trans (hF6.below (fun k hk => hk) hB'.out.size))
        clear hS' hp' hw' hF6
        cases hA : apR l' with
        | true =>
          rw [hA] at A6 k1
          have hp0 : pe = 0 := by rw [hpe'.out, ← k1]; rfl
          have hL := Mr.hid (k2 hA)
          replace hp0 := Mr.hid hp0
          clear k1 hA k2
          go_wp2_with (go_at_call 29; refine A6.out.mono ?_; rintro e w7 ⟨rfl, hB7⟩)
          go_ret2
          refine ⟨av, m, cv, by rw [hp0.out]; rfl, (BB.out.trans (B6.out.mono BB.out.size)).trans (hB7.mono (Nat.le_trans BB.out.size B6.out.size)), fun _ => ⟨by rw [← hL.out]; exact k3.symm, ?_⟩⟩
          have := (hS''.out.below hB7).mono (T' := fun _ => True) (fun _ _ => trivial)
          rw [k3] at this
          rw [← hL.out, k3]
          exact this
        | false =>
          rw [hA] at A6 k1
          have hp0 : pe = 211 := by rw [hpe'.out, ← k1]; rfl
          replace hp0 := Mr.hid hp0
          clear k1 hA k2
          go_wp2_with (go_at_call 29; refine A6.out.mono ?_; rintro e w7 ⟨rfl, hB7⟩)
          go_ret2
          exact ⟨none, 0, 0, by rw [hp0.out]; rfl, (BB.out.trans (B6.out.mono BB.out.size)).trans (hB7.mono (Nat.le_trans BB.out.size B6.out.size)), fun h => absurd (hp0.out.symm.trans h) (by decide)⟩
  · have q0 : (xe != 0) = true := by simp [hx0]
    rw [if_neg hx0] at hpe
    subst hpe
    go_wp2
    go_ret2
    exact ⟨_, _, _, rfl, BB.out, fun h => absurd h hx0⟩
end Go.Proofs.YtedaoljmcfbbpaaGreat.Hd
/-
  DEQUE: atOnce, walked by its cases.
-/
namespace Go.Proofs.YtedaoljmcfbbpaaGreat.Hd
open Go.RowKit Mr Md
set_option linter.unusedVariables false
set_option linter.unusedSimpArgs false
set_option maxRecDepth 100000
/-- What atOnce does. -/
def AtO (th rm : Int) (vs : List Int) (c : Cq) : Prop := ∀ (S : Nat → Prop) (v : Value) (w : World), Md.Own w S 3 1 v vs.length (ints vs) →
    Calls Tryz.prog 31 #[Dq.dV th rm, v, c.val] w fun e w' => ∃ v', e = .returned (.tuple #[v', anV (atO rm vs c).2.1 (atO rm vs c).2.2]) ∧ Md.Own w' (fun k => S k ∨ w.heap.size ≤ k) 3 1 v' (atO rm vs c).1.length (ints (atO rm vs c).1) ∧ Fr w w' S
set_option maxHeartbeats 16000000 in
theorem atOnce_full (th rm : Int) (vs : List Int) (c : Cq) (hn : vs.length ≤ 100000) (h1 : c.op = 90) (h2 : rm ≤ (vs.length : Int)) : AtO th rm vs c := by
  intro S v w hv
  have O := ow_new hv th rm c
  obtain ⟨a, cap, rfl, hcap, hcm⟩ := hv.form
  have e1 : atO rm vs c = (vs, 4, 0) := by exact if_pos ⟨h1, h2⟩
  rw [e1]
  clear e1 hv
  obtain ⟨n, hnn⟩ : ∃ n, n = vs.length := ⟨_, rfl⟩
  rw [← hnn] at hn O hcap
  obtain ⟨a0, a1, a2, a3, a4, a5, a6, a7, a8⟩ := c
  unfold cqO anO at O
  unfold Cq.val Dq.dV
  simp only at *
  rw [← hnn] at h2
  have q1 : (a1 == 90) = true := by simp [h1]
  have q2 : decide (rm ≤ (n : Int)) = true := by simp [h2]
  clear h1 h2
  replace hnn := Mr.hid hnn
  rw [← hnn.out]
  go_enter Tryz.func31, Tryz.ntmps31
  go_upto_region 1 with (fail)
  generalize ((World.alloc _ _).alloc _) = wb at *
  have f1 := O.call.c1
  simp only [Nat.zero_add] at f1
  have d1 := O.d1
  have hA := O.ans
  have gA := (Array.getElem?_eq_some_iff.1 hA).1
  have c0 := Dq.cell_blk hA 0
  have c1 := Dq.cell_blk hA 1
  have k0 : wb.frozen? ⟨w.heap.size + 2, 0, none⟩ = false := by simp [World.frozen?, hA, anO]
  have k1 : wb.frozen? ⟨w.heap.size + 2, 1, none⟩ = false := by simp [World.frozen?, hA, anO]
  replace O := Mr.hid O
  clear hA
  go_wp2
  obtain ⟨e2, e3, e4⟩ := O.out.fin 4 0 _ rfl
  refine bodyPost_ret (results_tmpcell rfl _ _ ⟨w.heap.size + 2, 0, none⟩ _ rfl (loadAn e2)) rfl ⟨.slice a n cap, rfl, by rw [hnn.out] at *; exact e3, e4⟩
set_option maxHeartbeats 16000000 in
theorem atOnce_done (th rm : Int) (vs : List Int) (c : Cq) (hn : vs.length ≤ 100000) (h1 : c.op = 90) (h2 : ¬ rm ≤ (vs.length : Int)) : AtO th rm vs c := by
  intro S v w hv
  have O := ow_new hv th rm c
  obtain ⟨a, cap, rfl, hcap, hcm⟩ := hv.form
  have e1 : atO rm vs c = (vs ++ [c.arg], 1, 0) := by unfold atO; rw [if_neg (fun h => h2 h.2), if_pos h1]
  rw [e1]
  clear e1 hv
  obtain ⟨n, hnn⟩ : ∃ n, n = vs.length := ⟨_, rfl⟩
  rw [← hnn] at hn O hcap
  obtain ⟨a0, a1, a2, a3, a4, a5, a6, a7, a8⟩ := c
  unfold cqO anO at O
  unfold Cq.val Dq.dV
  simp only at *
  rw [← hnn] at h2
  have q1 : (a1 == 90) = true := by simp [h1]
  have q2 : decide (rm ≤ (n : Int)) = false := by simp; omega
  clear h1 h2
  obtain ⟨i0, hi0, hz0, hz1, hz2⟩ := Dq.info_i
  replace hnn := Mr.hid hnn
  rw [← hnn.out]
  go_enter Tryz.func31, Tryz.ntmps31
  go_upto_region 1 with (fail)
  generalize ((World.alloc _ _).alloc _) = wb at *
  have f1 := O.call.c1
  simp only [Nat.zero_add] at f1
  have d1 := O.d1
  have hA := O.ans
  have gA := (Array.getElem?_eq_some_iff.1 hA).1
  have c0 := Dq.cell_blk hA 0
  have c1 := Dq.cell_blk hA 1
  have k0 : wb.frozen? ⟨w.heap.size + 2, 0, none⟩ = false := by simp [World.frozen?, hA, anO]
  have k1 : wb.frozen? ⟨w.heap.size + 2, 1, none⟩ = false := by simp [World.frozen?, hA, anO]
  replace O := Mr.hid O
  clear hA
  have hvl : vs.length ≤ 100000 := by rw [← hnn.out]; exact hn
  have f2 := O.out.call.c2
  simp only [Nat.zero_add] at f2
  go_wp2_with (at_builtin; refine wpList_append_mine _ rfl (.tmp 27) (.tmp 30) 39 rfl (fun b => (S b ∧ b < w.heap.size) ∨ w.heap.size + 3 ≤ b) 3 i0 _ 1 8 Tryz.underlying39 hi0 hz0 hz1 hz2 rfl _ vs.length (ints vs) rfl (O.out.own.below (b1b _)) (some ⟨wb.heap.size, 0, none⟩) 1 1 [.int .i64 a2] rfl rfl (fun e => by cases e) (new1 rfl) (by simp [Value.oneCell']) (by unfold maxLen; omega) (by omega) ?_; intro b9 cap9 w9 hown hfr; have O2 := Mr.hid (O.out.app hown hfr); clear hown hfr; have g2 := O2.out.ans; have lA2 := (Array.getElem?_eq_some_iff.1 g2).1; have c02 := Dq.cell_blk g2 0; have c12 := Dq.cell_blk g2 1; have k02 : w9.frozen? ⟨w.heap.size + 2, 0, none⟩ = false := (by simp [World.frozen?, g2, anO]); have k12 : w9.frozen? ⟨w.heap.size + 2, 1, none⟩ = false := (by simp [World.frozen?, g2, anO]); clear g2)
  obtain ⟨e2, e3, e4⟩ := O2.out.fin 1 0 _ rfl
  rw [List.length_append] at e3
  refine bodyPost_ret (results_tmpcell rfl _ _ ⟨w.heap.size + 2, 0, none⟩ _ rfl (loadAn e2)) rfl ⟨.slice b9 (vs.length + 1) cap9, rfl, ?_, e4⟩
  rw [List.length_append]
  exact e3
set_option maxHeartbeats 16000000 in
theorem atOnce_empty (th rm : Int) (vs : List Int) (c : Cq) (hn : vs.length ≤ 100000) (h1 : c.op ≠ 90) (h2 : vs.length = 0) : AtO th rm vs c := by
  intro S v w hv
  have O := ow_new hv th rm c
  obtain ⟨a, cap, rfl, hcap, hcm⟩ := hv.form
  have e1 : atO rm vs c = ([], 3, 0) := by unfold atO; rw [if_neg (fun h => h1 h.1), if_neg h1, if_pos h2]
  rw [e1]
  clear e1 hv
  obtain ⟨n, hnn⟩ : ∃ n, n = vs.length := ⟨_, rfl⟩
  rw [← hnn] at hn O hcap
  obtain ⟨a0, a1, a2, a3, a4, a5, a6, a7, a8⟩ := c
  unfold cqO anO at O
  unfold Cq.val Dq.dV
  simp only at *
  rw [← hnn] at h2
  have q1 : (a1 == 90) = false := by simp [h1]
  subst h2
  clear h1
  replace hnn := Mr.hid hnn
  rw [← hnn.out]
  go_enter Tryz.func31, Tryz.ntmps31
  go_upto_region 1 with (fail)
  generalize ((World.alloc _ _).alloc _) = wb at *
  have f1 := O.call.c1
  simp only [Nat.zero_add] at f1
  have d1 := O.d1
  have hA := O.ans
  have gA := (Array.getElem?_eq_some_iff.1 hA).1
  have c0 := Dq.cell_blk hA 0
  have c1 := Dq.cell_blk hA 1
  have k0 : wb.frozen? ⟨w.heap.size + 2, 0, none⟩ = false := by simp [World.frozen?, hA, anO]
  have k1 : wb.frozen? ⟨w.heap.size + 2, 1, none⟩ = false := by simp [World.frozen?, hA, anO]
  replace O := Mr.hid O
  clear hA
  go_wp2
  obtain ⟨e2, e3, e4⟩ := (O.out.sub (.slice none 0 0) [] (Md.Own.zero _ _ _ _ _)).fin 3 0 _ rfl
  refine bodyPost_ret (results_tmpcell rfl _ _ ⟨w.heap.size + 2, 0, none⟩ _ rfl (loadAn e2)) rfl ⟨.slice none 0 0, rfl, e3, e4⟩
set_option maxHeartbeats 16000000 in
theorem atOnce_take (th rm : Int) (vs : List Int) (c : Cq) (hn : vs.length ≤ 100000) (h1 : c.op = 91) (h2 : vs.length ≠ 0) : AtO th rm vs c := by
  intro S v w hv
  have O := ow_new hv th rm c
  obtain ⟨a, cap, rfl, hcap, hcm⟩ := hv.form
  have e1 : atO rm vs c = (vs.take (vs.length - 1), 2, (vs[vs.length - 1]?).getD 0) := by unfold atO; rw [if_neg (fun h => by rw [h1] at h; exact absurd h.1 (by decide)), if_neg (by rw [h1]; decide), if_neg h2, if_pos h1]
  rw [e1]
  clear e1 hv
  obtain ⟨n, hnn⟩ : ∃ n, n = vs.length := ⟨_, rfl⟩
  rw [← hnn] at hn O hcap
  obtain ⟨a0, a1, a2, a3, a4, a5, a6, a7, a8⟩ := c
  unfold cqO anO at O
  unfold Cq.val Dq.dV
  simp only at *
  have hx : vs[vs.length - 1]? = some (vs[vs.length - 1]'(by omega)) := List.getElem?_eq_getElem (by omega)
  generalize vs[vs.length - 1]'(by omega) = x at hx
  rw [hx]
  rw [← hnn] at h2 hx
  simp only [Option.getD_some]
  have q1 : (a1 == 90) = false := by simp [h1]
  have q2 : (a1 == 91) = true := by simp [h1]
  have q3 : ((n : Int) == 0) = false := by simp [h2]
  obtain ⟨m, hm⟩ : ∃ m, m + 1 = n := ⟨n - 1, by omega⟩
  have hm1 : n - 1 = m := by omega
  rw [hm1] at hx
  rw [show vs.length - 1 = m from by omega]
  have q4 : m < n := by omega
  have q5 : (m : Int) < (n : Int) := by omega
  have q6 : m ≤ cap := by omega
  have q7 : wrap64 ((n : Int) - 1) = (m : Int) := by simp only [wrap64]; omega
  have q8 : (m : Int) ≤ (cap : Int) := by omega
  have q9 : IntKind.i64.wrap ((n : Int) - 1) = (m : Int) := by rw [show (n : Int) - 1 = (m : Int) from by omega]; exact Dq.i64x _ (by omega) (by omega)
  clear h1
  replace hnn := Mr.hid hnn
  rw [← hnn.out]
  go_enter Tryz.func31, Tryz.ntmps31
  go_upto_region 1 with (fail)
  generalize ((World.alloc _ _).alloc _) = wb at *
  have f1 := O.call.c1
  simp only [Nat.zero_add] at f1
  have d1 := O.d1
  have hA := O.ans
  have gA := (Array.getElem?_eq_some_iff.1 hA).1
  have c0 := Dq.cell_blk hA 0
  have c1 := Dq.cell_blk hA 1
  have k0 : wb.frozen? ⟨w.heap.size + 2, 0, none⟩ = false := by simp [World.frozen?, hA, anO]
  have k1 : wb.frozen? ⟨w.heap.size + 2, 1, none⟩ = false := by simp [World.frozen?, hA, anO]
  replace O := Mr.hid O
  clear hA
  have hO1 : Md.Own wb (fun k => (S k ∧ k < w.heap.size) ∨ w.heap.size + 3 ≤ k) 3 1 (.slice a n cap) n (ints vs) := by have := O.out.own; rwa [← hnn.out] at this
  have hT := Mr.hid (Own.take hO1 m (by omega))
  obtain ⟨g, o, cap', hv', hnc, hgS, hgl, hcell⟩ := hO1.sl.there (by omega)
  clear hO1
  cases hv'
  have cx := hcell m (.int .i64 x) (by simp [ints, hx])
  have hl3 := O.out.lt
  have hne : g ≠ w.heap.size + 2 := by rcases hgS with hgS | hgS <;> omega
  have VA : Hid (∀ (x : Int) (W : World), Below wb.heap.size wb W → Calls Tryz.prog 46 #[.int .i64 x] W fun e w' => e = .returned (anV 2 x) ∧ Below wb.heap.size wb w') := fun x W h => (valueAnswer_any x W).mono (fun e w' ⟨h1, hB⟩ => ⟨h1, h.trans (hB.mono h.size)⟩)
  have hD : Below wb.heap.size wb wb.drew := (Below.refl _ _).drew
  unfold anV at VA
  go_upto_region 9 with (fail)
  refine wp_region_held_drew (S := (fun W => W.cell? ⟨g, o + m, none⟩ = some (.int .i64 x))) (by kernel_rfl) cx (fun hHeld => ?_)
  try simp only [Act.put, List.setIfInBounds_toArray, List.set_cons_zero, List.set_cons_succ]
  refine wpAnyH_take (i := 0) (oi := (⟨_, _, _, _, _, _⟩ : Oper)) (v := ?_) rfl (by kernel_rfl) (by kernel_rfl) (by kernel_rfl) (fun _ _ _ h => h) (Or.inl ⟨by rfl, ?_⟩) (by assumption) ?_
  rotate_left
  · intro w9 hSw
    (try dsimp only at hSw)
    go_simp
    all_goals (with_reducible rfl)
  try simp only [Act.put, List.setIfInBounds_toArray, List.set_cons_zero, List.set_cons_succ]
  refine wpAnyH_take (i := 1) (oi := (⟨_, _, _, _, _, _⟩ : Oper)) (v := ?_) rfl (by kernel_rfl) (by kernel_rfl) (by kernel_rfl) (fun _ _ _ h => h) (Or.inl ⟨by rfl, ?_⟩) (by assumption) ?_
  rotate_left
  · intro w9 hSw
    (try dsimp only at hSw)
    go_simp
    all_goals (with_reducible rfl)
  try simp only [Act.put, List.setIfInBounds_toArray, List.set_cons_zero, List.set_cons_succ]
  refine wpAnyH_take (i := 2) (oi := (⟨_, _, _, _, _, _⟩ : Oper)) (v := ?_) rfl (by kernel_rfl) (by kernel_rfl) (by kernel_rfl) (fun _ _ _ h => h) (Or.inl ⟨by rfl, ?_⟩) (by assumption) ?_
  rotate_left
  · intro w9 hSw
    (try dsimp only at hSw)
    go_simp
    all_goals (with_reducible rfl)
  try simp only [Act.put, List.setIfInBounds_toArray, List.set_cons_zero, List.set_cons_succ]
  refine wpAnyH_take (i := 3) (oi := (⟨_, _, _, _, _, _⟩ : Oper)) (v := ?_) rfl (by kernel_rfl) (by kernel_rfl) (by kernel_rfl) (fun _ _ _ h => h) (Or.inl ⟨by rfl, ?_⟩) (by assumption) ?_
  rotate_left
  · intro w9 hSw
    (try dsimp only at hSw)
    go_simp
    all_goals (with_reducible rfl)
  try simp only [Act.put, List.setIfInBounds_toArray, List.set_cons_zero, List.set_cons_succ]
  refine wpAnyH_take (i := 4) (oi := (⟨_, _, _, _, _, _⟩ : Oper)) (v := ?_) rfl (by kernel_rfl) (by kernel_rfl) (by kernel_rfl) (fun _ _ _ h => h) (Or.inl ⟨by rfl, ?_⟩) (by assumption) ?_
  rotate_left
  · intro w9 hSw
    (try dsimp only at hSw)
    go_simp
    all_goals (with_reducible rfl)
  try simp only [Act.put, List.setIfInBounds_toArray, List.set_cons_zero, List.set_cons_succ]
  refine wpAnyH_take (i := 5) (oi := (⟨_, _, _, _, _, _⟩ : Oper)) (v := ?_) rfl (by kernel_rfl) (by kernel_rfl) (by kernel_rfl) (fun _ _ _ h => h) (Or.inl ⟨by rfl, ?_⟩) (by assumption) ?_
  rotate_left
  · intro w9 hSw
    (try dsimp only at hSw)
    go_simp
    all_goals (with_reducible rfl)
  try simp only [Act.put, List.setIfInBounds_toArray, List.set_cons_zero, List.set_cons_succ]
  refine wpAnyH_take (i := 6) (oi := (⟨_, _, _, _, _, _⟩ : Oper)) (v := ?_) rfl (by kernel_rfl) (by kernel_rfl) (by kernel_rfl) (fun _ _ _ h => h) (Or.inl ⟨by rfl, ?_⟩) (by assumption) ?_
  rotate_left
  · intro w9 hSw
    (try dsimp only at hSw)
    go_simp
    all_goals (with_reducible rfl)
  try simp only [Act.put, List.setIfInBounds_toArray, List.set_cons_zero, List.set_cons_succ]
  refine wpAnyH_take (i := 7) (oi := (⟨_, _, _, _, _, _⟩ : Oper)) (v := ?_) rfl (by kernel_rfl) (by kernel_rfl) (by kernel_rfl) (fun _ _ _ h => h) (Or.inl ⟨by rfl, ?_⟩) (by assumption) ?_
  rotate_left
  · intro w9 hSw
    (try dsimp only at hSw)
    go_simp
    all_goals (with_reducible rfl)
  try simp only [Act.put, List.setIfInBounds_toArray, List.set_cons_zero, List.set_cons_succ]
  refine wpAnyH_take (i := 8) (oi := (⟨_, _, _, _, _, _⟩ : Oper)) (v := ?_) rfl (by kernel_rfl) (by kernel_rfl) (by kernel_rfl) (fun _ _ _ h => h) (Or.inl ⟨by rfl, ?_⟩) (by assumption) ?_
  rotate_left
  · intro w9 hSw
    (try dsimp only at hSw)
    go_simp
    all_goals (with_reducible rfl)
  try simp only [Act.put, List.setIfInBounds_toArray, List.set_cons_zero, List.set_cons_succ]
  refine wpAnyH_ready (rs := [9]) (by kernel_rfl) (by simp) ?_
  refine AllReadyH.cons (o := (⟨_, _, _, _, _, _⟩ : Oper)) rfl (fun K hK => ?_) (AllReadyH.nil)
  go_simp
  go_at_call 46
  refine (VA.out _ _ hD).mono ?_
  rintro e w6 ⟨rfl, hB6⟩
  have cx6 := (hB6.cell (p := ⟨g, _, none⟩) hgl).trans cx
  have c06 := (hB6.cell (p := ⟨w.heap.size + 2, _, none⟩) gA).trans c0
  have c16 := (hB6.cell (p := ⟨w.heap.size + 2, _, none⟩) gA).trans c1
  have k06 := (frz (j := 0) (hB6.block _ gA)).trans k0
  have k16 := (frz (j := 1) (hB6.block _ gA)).trans k1
  try (go_wp2_with fail)
  refine hK.out _ _ cx6 (fun hHeld9 => ?_)
  clear hK K hHeld
  have hHeld := hHeld9
  clear hHeld9
  try simp only [Act.put, List.setIfInBounds_toArray, List.set_cons_zero, List.set_cons_succ]
  refine wpAnyH_take (i := 10) (oi := (⟨_, _, _, _, _, _⟩ : Oper)) (v := ?_) rfl (by kernel_rfl) (by kernel_rfl) (by kernel_rfl) (fun _ _ _ h => h) (Or.inl ⟨by rfl, ?_⟩) (by assumption) ?_
  rotate_left
  · intro w9 hSw
    (try dsimp only at hSw)
    go_simp
    all_goals (with_reducible rfl)
  try simp only [Act.put, List.setIfInBounds_toArray, List.set_cons_zero, List.set_cons_succ]
  refine wpAnyH_ready (rs := [11]) (by kernel_rfl) (by simp) ?_
  refine AllReadyH.cons (o := (⟨_, _, _, _, _, _⟩ : Oper)) rfl (fun K hK => ?_) (AllReadyH.nil)
  go_simp
  refine hK.out _ _ ((cell_ne hne).trans ((cell_ne hne).trans cx6)) (fun hHeld9 => ?_)
  clear hK K hHeld
  have hHeld := hHeld9
  clear hHeld9
  try simp only [Act.put, List.setIfInBounds_toArray, List.set_cons_zero, List.set_cons_succ]
  refine wpAnyH_done (by kernel_rfl) ?_ _
  go_wp2
  have hlm : (vs.take m).length = m := by rw [List.length_take, ← hnn.out]; omega
  obtain ⟨e2, e3, e4⟩ := ((O.out.sub (.slice (some ⟨g, o, none⟩) m cap) (vs.take m) (by rw [hlm]; have := hT.out; simpa [ints, List.map_take] using this)).below hB6).fin 2 x _ rfl
  refine bodyPost_ret (results_tmpcell rfl _ _ ⟨w.heap.size + 2, 0, none⟩ _ rfl (loadAn e2)) rfl ⟨.slice (some ⟨g, o, none⟩) m cap, rfl, e3, e4⟩
end Go.Proofs.YtedaoljmcfbbpaaGreat.Hd
