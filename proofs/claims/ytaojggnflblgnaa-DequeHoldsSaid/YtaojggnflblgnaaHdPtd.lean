/-
  DEQUE: pointed.
-/
import Derived.Test.YtaojggnflblgnaaHdSrt
import Derived.Test.YtaojggnflblgnaaHdApart
import Derived.Test.YtaojggnflblgnaaHdOnce
import Derived.Test.YtaojggnflblgnaaDqLeftW
namespace Go.Proofs.Ytaojggnflblgnaa.Hd
open Go.RowKit Mr Md
set_option linter.unusedVariables false
set_option linter.unusedSimpArgs false
set_option maxRecDepth 100000
theorem info_c : ∃ i, Try.prog.info? 52 = some i ∧ i.zero = some ((⟨0, 0, 0, 0, 0, 0, 0, 0, 0⟩ : Cq).val) ∧ i.size = 9 ∧ i.bytes = 72 := Dq.info_of (by kernel_rfl)
def pE (th rm : Int) (ws : List Int) (cs L : List Cq) : Int :=
  if (Dq.lfR th rm ws).2 = 0 then (if cs.all (kn th) && apR L then 0 else 211) else (Dq.lfR th rm ws).2
theorem pts_step (cs : List Cq) (i : Nat) (x : Cq) (hx : cs[i]? = some x) : pts (cs.take (i + 1)) = if x.pt = -1 then pts (cs.take i) else pts (cs.take i) ++ [x] := by
  rw [Dq.take_succ_of hx]
  unfold pts
  rw [List.filter_append]
  by_cases h : x.pt = -1 <;> simp [h]
theorem pts_len (l : List Cq) : (pts l).length ≤ l.length := List.length_filter_le _ _
def rnV (v0 v1 v2 v3 : Value) : Value := .agg #[v0, v1, v2, v3]
theorem cqs_single (x : Cq) : cqs [x] = x.row := by simp [cqs]
theorem newC {W : World} {b : Nat} {x : Cq} (hb : b = W.heap.size) : ∀ ad, some (⟨b, 0, none⟩ : Addr) = some ad → ∀ j u, (x.row)[j]? = some u → (W.alloc (cqO x)).cell? (ad.add j) = some u := by
  subst hb
  rintro ad e j u hu
  cases e
  rw [add1, Nat.zero_add]
  have := new_at W (cqO x) W.heap.size rfl
  unfold cqO at this
  unfold cqO
  rw [Dq.cell_blk this]
  simpa [Cq.row] using hu
set_option maxHeartbeats 16000000 in
theorem pointed_any {T : Nat → Prop} (th rm : Int) (ws : List Int) (cs L : List Cq) (hP : L.Perm (pts cs)) (hS : L.Pairwise (fun a b => ¬ Cq.lt b a)) (a : Option Addr) (cap : Nat) (a3 : Option Addr) (n3 c3 : Nat) (v1 v2 : Value) (w : World)
    (hv : Sl w T 9 (.slice a cs.length cap) cs.length (cqs cs)) (hw : Dq.WdAt w a3 n3 ws) (hzn : cs.length * 72 ≤ 140737488351232) :
    Calls Try.prog 11 #[Dq.dV th rm, rnV (.slice a cs.length cap) v1 v2 (.slice a3 n3 c3)] w fun e w' => ∃ va vn vc, e = .returned (.tuple #[.slice va vn vc, .int .i64 (pE th rm ws cs L)]) ∧ Below w.heap.size w w' ∧ (pE th rm ws cs L = 0 → vn = L.length ∧ Sl w' (fun _ => True) 9 (.slice va L.length vc) L.length (cqs L)) := by
  obtain ⟨n, hnn⟩ : ∃ n, n = cs.length := ⟨_, rfl⟩
  have hv0 := Mr.hid hv
  rw [← hnn] at hzn ⊢
  clear hv
  have B0 := (b1b (w := w) (.cells #[.int .i64 th, .int .i64 rm] 23 (0, 0))).alloc (by simp) (.cells #[.slice a n cap, v1, v2, .slice a3 n3 c3] 29 (0, 0))
  have b0 := old_at (new_at w (.cells #[.int .i64 th, .int .i64 rm] 23 (0, 0)) w.heap.size rfl) (.cells #[.slice a n cap, v1, v2, .slice a3 n3 c3] 29 (0, 0))
  have b1 := new_at (w.alloc (.cells #[.int .i64 th, .int .i64 rm] 23 (0, 0))) (.cells #[.slice a n cap, v1, v2, .slice a3 n3 c3] 29 (0, 0)) (w.heap.size + 1) (by simp)
  have c0 := Dq.cell_blk b0 0
  have c1 := Dq.cell_blk b0 1
  have d0 := Dq.cell_blk b1 0
  have d3 := Dq.cell_blk b1 3
  have lb := (Array.getElem?_eq_some_iff.1 b1).1
  have LF : Hid (∀ (W : World), Below w.heap.size w W → Calls Try.prog 19 #[Dq.dV th rm, .slice a3 n3 c3] W fun e w' => ∃ va vl vc, e = .returned (.tuple #[.slice va vl vc, .int .i64 (Dq.lfR th rm ws).2]) ∧ Below W.heap.size W w') := fun W h => by
    refine (Dq.Left_any th rm ws a3 n3 c3 W (hw.below h)).mono ?_
    rintro e w' ⟨va, vc, he, _, hB⟩
    exact ⟨va, _, vc, he, hB⟩
  have KN : Hid (∀ (x : Cq) (W : World), Calls Try.prog 20 #[Dq.dV th rm, x.val] W fun e w' => e = .returned (.bool (kn th x)) ∧ Below W.heap.size W w') := fun x W => known_any th rm x W
  unfold Dq.dV at LF KN
  obtain ⟨pe, hpe⟩ : ∃ x, x = pE th rm ws cs L := ⟨_, rfl⟩
  rw [← hpe]
  unfold pE at hpe
  generalize (Dq.lfR th rm ws).2 = xe at *
  replace hnn := Mr.hid hnn
  have B0' := Mr.hid B0
  clear B0 b0 b1
  unfold Dq.dV rnV
  go_enter Try.func11, Try.ntmps11
  go_upto_region 1 with fail
  generalize (World.alloc (World.alloc _ _) _) = w1 at *
  go_upto_region 2 with (go_at_call 19; refine (LF.out _ B0'.out).mono ?_; rintro e w2 ⟨va, vl, vc, rfl, hB2⟩)
  have k0 := (hB2.cell (p := ⟨w.heap.size, 0, none⟩) (by show w.heap.size < _; omega)).trans c0
  have k1 := (hB2.cell (p := ⟨w.heap.size, 1, none⟩) (by show w.heap.size < _; omega)).trans c1
  have m0 := (hB2.cell (p := ⟨w.heap.size + 1, 0, none⟩) lb).trans d0
  have lb2 := Nat.lt_of_lt_of_le lb hB2.size
  have BB : Hid (Below w.heap.size w w2) := Mr.hid (B0'.out.trans (hB2.mono B0'.out.size))
  clear c0 c1 d0 d3 hB2 lb
  by_cases hx0 : xe = 0
  · have q0 : (xe != 0) = false := by simp [hx0]
    rw [if_pos hx0] at hpe
    replace hpe := Mr.hid hpe
    clear hx0
    have k0' := Mr.hid k0
    have k1' := Mr.hid k1
    have hvl := Mr.hid (fun (W : World) (h : Below w2.heap.size w2 W) => hv0.out.below (BB.out.trans (h.mono BB.out.size)))
    obtain ⟨i0, hi0, hz0, hz1, hz2⟩ := info_c
    replace hz0 := Mr.hid hz0
    go_wp2
    clear k0 k1 m0
    go_loopg [8, 24] n (fun gk s8 s24 wr => ∃ (i : Nat) (l : List Cq), s24 = .int .i64 (i : Int) ∧ (i + gk = n) ∧ l.length ≤ i ∧ Own wr (fun k => w2.heap.size ≤ k) 52 9 s8 l.length (cqs l) ∧ Hid (l = pts (cs.take i) ∧ (cs.take i).all (kn th) = true) ∧ Below w2.heap.size w2 wr)
    case atStart => exact ⟨0, [], rfl, by omega, by simp, Own.zero _ _ _ _ _, Mr.hid ⟨rfl, rfl⟩, Below.refl _ _⟩
    case round =>
      obtain ⟨i, l, rfl, hi, hll, hO, hz, hB⟩ := hrel
      obtain ⟨av, cv, rfl, hcv, hcm⟩ := hO.form
      have k0 := (hB.cell (p := ⟨w.heap.size, 0, none⟩) (by show w.heap.size < _; omega)).trans k0'.out
      have k1 := (hB.cell (p := ⟨w.heap.size, 1, none⟩) (by show w.heap.size < _; omega)).trans k1'.out
      have hO' := Mr.hid hO
      have hB' := Mr.hid hB
      by_cases hlt : i < n
      · have q3 : (i : Int) < (n : Int) := by omega
        obtain ⟨x, hx⟩ : ∃ x, cs[i]? = some x := ⟨_, List.getElem?_eq_getElem (by rw [← hnn.out]; omega)⟩
        obtain ⟨b, o, rfl, _, D1⟩ := cqx_at (hvl.out _ hB) hx
        have hp := pts_step cs i x hx
        have hx' := Mr.hid hx
        have K := KN.out x
        unfold Cq.val at K
        obtain ⟨l1, x0, x1, x2, x3, x4, x5, x6, x7, x8⟩ := D1
        have cq := cqO_cells (new_at wr (cqO x) wr.heap.size rfl)
        have BQ := b1b (w := wr) (cqO x)
        unfold cqO at cq BQ
        clear hx hO hB hcv hcm
        go_upto_region 8 with fail
        generalize wr.alloc _ = wq at *
        replace k0 := (BQ.cell (p := ⟨w.heap.size, 0, none⟩) (by have := hB'.out.size; show w.heap.size < _; omega)).trans k0
        replace k1 := (BQ.cell (p := ⟨w.heap.size, 1, none⟩) (by have := hB'.out.size; show w.heap.size < _; omega)).trans k1
        have BQ' : Hid (Below w2.heap.size w2 wq) := Mr.hid (hB'.out.trans (BQ.mono hB'.out.size))
        have OQ := Mr.hid (hO'.out.below BQ)
        clear x0 x1 x2 x3 x4 x5 x6 x7 x8 BQ
        cases hkx : kn th x with
        | false =>
          rw [hkx] at K
          replace K := Mr.hid K
          have hpe' : pe = 211 := by
            have : cs.all (kn th) = false := by
              rw [List.all_eq_false]
              exact ⟨x, List.mem_of_getElem? hx'.out, by rw [hkx]; simp⟩
            have h2 := hpe.out
            rw [this] at h2
            simpa using h2
          replace hpe' := Mr.hid hpe'
          obtain ⟨l2, x0, x1, x2, x3, x4, x5, x6, x7, x8⟩ := cq
          simp only [Nat.zero_add] at x1 x2 x3 x4 x5 x6 x7 x8
          go_upto_region 9 with (go_at_call 20; refine (K.out _).mono ?_; rintro e w6 ⟨rfl, hB6⟩)
          go_wp2
          go_ret2
          exact ⟨none, 0, 0, by rw [hpe'.out]; rfl, (BB.out.trans (BQ'.out.mono BB.out.size)).trans (hB6.mono (Nat.le_trans BB.out.size BQ'.out.size)), fun h => absurd (hpe'.out.symm.trans h) (by decide)⟩
        | true =>
          rw [hkx] at K
          replace K := Mr.hid K
          have hz1' : (cs.take (i + 1)).all (kn th) = true := by rw [Dq.take_succ_of hx'.out, List.all_append, hz.out.2]; simp [hkx]
          obtain ⟨l2, x0, x1, x2, x3, x4, x5, x6, x7, x8⟩ := cq
          simp only [Nat.zero_add] at x1 x2 x3 x4 x5 x6 x7 x8
          replace hp := Mr.hid hp
          replace hz1' := Mr.hid hz1'
          go_upto_region 10 with (go_at_call 20; refine (K.out _).mono ?_; rintro e w6 ⟨rfl, hB6⟩)
          have y6 := (hB6.cell (p := ⟨wr.heap.size, _, none⟩) l2).trans x6
          have O6 := Mr.hid (OQ.out.below hB6)
          have B6 : Hid (Below w2.heap.size w2 w6) := Mr.hid (BQ'.out.trans (hB6.mono BQ'.out.size))
          by_cases hpt : x.pt = -1
          · have e6 : (x.pt != -1) = false := by simp [hpt]
            have hn' : Hid (l = pts (cs.take (i + 1)) ∧ (cs.take (i + 1)).all (kn th) = true) := Mr.hid ⟨by rw [hp.out, if_pos hpt]; exact hz.out.1, hz1'.out⟩
            clear x0 x1 x2 x3 x4 x5 x6 x7 x8
            go_wp2
            go_roundg (gk - 1)
            case measure => omega
            case rel => exact ⟨i + 1, l, by simp, by omega, by omega, O6.out, hn', B6.out⟩
          · have e6 : (x.pt != -1) = true := by simp [hpt]
            have y0 := (hB6.cell (p := ⟨wr.heap.size, _, none⟩) l2).trans x0
            have y1 := (hB6.cell (p := ⟨wr.heap.size, _, none⟩) l2).trans x1
            have y2 := (hB6.cell (p := ⟨wr.heap.size, _, none⟩) l2).trans x2
            have y3 := (hB6.cell (p := ⟨wr.heap.size, _, none⟩) l2).trans x3
            have y4 := (hB6.cell (p := ⟨wr.heap.size, _, none⟩) l2).trans x4
            have y5 := (hB6.cell (p := ⟨wr.heap.size, _, none⟩) l2).trans x5
            have y7 := (hB6.cell (p := ⟨wr.heap.size, _, none⟩) l2).trans x7
            have y8 := (hB6.cell (p := ⟨wr.heap.size, _, none⟩) l2).trans x8
            clear x0 x1 x2 x3 x4 x5 x6 x7 x8 k0 k1
            have hn' : Hid (l ++ [x] = pts (cs.take (i + 1)) ∧ (cs.take (i + 1)).all (kn th) = true) := Mr.hid ⟨by rw [hp.out, if_neg hpt, hz.out.1], hz1'.out⟩
            have e1 : Hid (x.row.length = 1 * 9) := Mr.hid rfl
            have e2 : Hid (∀ u ∈ x.row, u.oneCell' = true) := Mr.hid (by rw [← cqs_single]; exact cqs_one [x])
            have e3 := Mr.hid (newC (W := w6) (b := w6.heap.size) (x := x) rfl)
            unfold Cq.row at e1 e2 e3
            unfold cqO at e3
            go_wp2_with (at_builtin; refine wpList_append_mine _ rfl (.tmp 35) (.tmp 37) 24 rfl (fun k => w2.heap.size ≤ k) 52 i0 _ 9 72 Try.underlying24 hi0 hz0.out hz1 hz2 rfl _ l.length (cqs l) rfl (O6.out.below (b1b _)) (some ⟨w6.heap.size, 0, none⟩) 1 1 _ rfl e1.out (fun e => by cases e) e3.out e2.out (by unfold maxLen; omega) (by omega) ?_; intro b9 cap9 w9 hown hfr; replace hown := Mr.hid hown; replace hfr := Mr.hid hfr)
            go_roundg (gk - 1)
            case measure => omega
            case rel =>
              have ha := b1b (w := w6) (cqO x)
              have hs6 := B6.out.size
              refine ⟨i + 1, l ++ [x], by simp, by omega, by rw [List.length_append]; exact Nat.succ_le_succ hll, ?_, hn', (B6.out.trans (ha.mono hs6)).trans (hfr.out.below (fun k hk => hk) (Nat.le_trans hs6 ha.size))⟩
              rw [cqs_app, cqs_single, List.length_append]
              exact hown.out.mono (fun k hk => by
                rcases hk with hk | hk
                · exact hk
                · rw [hk]; exact Nat.le_trans hs6 ha.size)
      · have q1 : decide ((i : Int) < (n : Int)) = false := decide_eq_false (by omega)
        have q2 : decide (i < n) = false := decide_eq_false hlt
        obtain rfl : i = n := by omega
        have hl : l = pts cs := by rw [hz.out.1, List.take_of_length_le (by rw [← hnn.out]; exact Nat.le_refl _)]
        have hka : cs.all (kn th) = true := by have := hz.out.2; rwa [List.take_of_length_le (by rw [← hnn.out]; exact Nat.le_refl _)] at this
        rw [← hl] at hP
        have hpe' : Hid (pe = if apR L then 0 else 211) := Mr.hid (by have := hpe.out; rwa [hka, Bool.true_and] at this)
        have AL : Hid (∀ l' : List Cq, l'.Perm l → l'.Pairwise (fun a b => ¬ Cq.lt b a) → apR l' = apR L ∧ (apR l' = true → l' = L) ∧ l'.length = l.length) := Mr.hid (fun l' h1 h2 => ⟨ap_eq (h1.trans hP.symm) h2 hS, fun h => ap_same (h1.trans hP.symm) h2 hS h, h1.length_eq⟩)
        have hLl : Hid (L.length = l.length) := Mr.hid hP.length_eq
        have SO : Hid (Calls Try.prog 21 #[.slice av l.length cv, .func (.func 22) #[] #[]] wr fun e w' => e = .returned (.tuple #[]) ∧ Fr wr w' (fun k => w2.heap.size ≤ k) ∧ ∃ l' : List Cq, l'.Perm l ∧ l'.Pairwise (fun a b => ¬ Cq.lt b a) ∧ Sl w' (fun k => w2.heap.size ≤ k) 9 (.slice av l.length cv) l'.length (cqs l')) := Mr.hid (sortC_any hO (by omega))
        have AP : Hid (∀ (l' : List Cq) (W : World), l'.length = l.length → Sl W (fun k => w2.heap.size ≤ k) 9 (.slice av l.length cv) l'.length (cqs l') → Calls Try.prog 23 #[.slice av l.length cv] W fun e w' => e = .returned (.bool (apR l')) ∧ Below W.heap.size W w') := Mr.hid (fun l' W h h' => by rw [← h] at h' ⊢; exact apart_any l' av cv W h' (by omega))
        generalize l.length = m at *
        clear hl hka hP hS hO hz k0 k1 hcv hll hO'
        go_upto_region 14 with (go_at_call 21; refine SO.out.mono ?_; rintro e w6 ⟨rfl, hF6, l', hp', hw', hS'⟩)
        obtain ⟨k1, k2, k3⟩ := AL.out l' hp' hw'
        have A6 := Mr.hid (AP.out l' w6 k3 hS')
        have hS'' := Mr.hid hS'
        have B6 : Hid (Below w2.heap.size w2 w6) := Mr.hid (hB'.out.trans (hF6.below (fun k hk => hk) hB'.out.size))
        clear hS' hp' hw' hF6
        cases hA : apR l' with
        | true =>
          rw [hA] at A6 k1
          have hp0 : pe = 0 := by rw [hpe'.out, ← k1]; rfl
          have hL := Mr.hid (k2 hA)
          replace hp0 := Mr.hid hp0
          clear k1 hA k2
          go_wp2_with (go_at_call 23; refine A6.out.mono ?_; rintro e w7 ⟨rfl, hB7⟩)
          go_ret2
          refine ⟨av, m, cv, by rw [hp0.out]; rfl, (BB.out.trans (B6.out.mono BB.out.size)).trans (hB7.mono (Nat.le_trans BB.out.size B6.out.size)), fun _ => ⟨by rw [← hL.out]; exact k3.symm, ?_⟩⟩
          have := (hS''.out.below hB7).mono (T' := fun _ => True) (fun _ _ => trivial)
          rw [k3] at this
          rw [← hL.out, k3]
          exact this
        | false =>
          rw [hA] at A6 k1
          have hp0 : pe = 211 := by rw [hpe'.out, ← k1]; rfl
          replace hp0 := Mr.hid hp0
          clear k1 hA k2
          go_wp2_with (go_at_call 23; refine A6.out.mono ?_; rintro e w7 ⟨rfl, hB7⟩)
          go_ret2
          exact ⟨none, 0, 0, by rw [hp0.out]; rfl, (BB.out.trans (B6.out.mono BB.out.size)).trans (hB7.mono (Nat.le_trans BB.out.size B6.out.size)), fun h => absurd (hp0.out.symm.trans h) (by decide)⟩
  · have q0 : (xe != 0) = true := by simp [hx0]
    rw [if_neg hx0] at hpe
    subst hpe
    go_wp2
    go_ret2
    exact ⟨_, _, _, rfl, BB.out, fun h => absurd h hx0⟩
end Go.Proofs.Ytaojggnflblgnaa.Hd
