/-
  DEQUE: the law of Holds and Spread.
-/
import Derived.Test.YtaojggnflblgnaaHdTwin
import Derived.Test.YtaojggnflblgnaaHdSpr
import Derived.Test.YtaojggnflblgnaaHdRSpr
import Derived.Test.YtaojggnflblgnaaDqSame
namespace Go.Proofs.Ytaojggnflblgnaa.Hd
open Go.RowKit Mr Md
set_option linter.unusedVariables false
set_option linter.unusedSimpArgs false
set_option maxRecDepth 100000
theorem num_any (e : Int) (w : World) : Calls Try.prog 7 #[.int .i64 e] w fun x w' => x = .returned (.int .i64 e) ∧ w' = w := by
  go_enter Try.func7, Try.ntmps7
  go_wp2
  go_ret
  exact ⟨rfl, rfl⟩
theorem spr_small (th rm : Int) (ws : List Int) (cs L : List Cq) : (if pE th rm ws cs L = 0 then spr th.toNat cs else []).length ≤ 1000000000000000000 := by
  split
  · rename_i h
    have := Dq.dqB_in (pE_in h).1
    rw [spr_len]; omega
  · simp
set_option maxHeartbeats 32000000 in
theorem law_holds (th rm : Int) (a : Option Addr) (cap : Nat) (cs : List Cq) (a1 : Option Addr) (n1 c1 : Nat) (xs1 : List Value) (a2 : Option Addr) (n2 c2 : Nat) (xs2 : List Value) (a3 : Option Addr) (n3 c3 : Nat) (ws : List Int) (w : World)
    (hv : Sl w (fun _ => True) 9 (.slice a cs.length cap) cs.length (cqs cs)) (hzn : cs.length * 72 ≤ 140737488351232) (h1 : Sr w 7 a1 n1 xs1) (z1 : n1 * 56 ≤ 140737488351232) (h2 : Sr w 5 a2 n2 xs2) (z2 : n2 * 40 ≤ 140737488351232) (hw : Dq.WdAt w a3 n3 ws) (z3 : n3 * 8 ≤ 140737488351232) :
    Calls Try.prog 3 #[Dq.dV th rm, rnV (.slice a cs.length cap) (.slice a1 n1 c1) (.slice a2 n2 c2) (.slice a3 n3 c3)] w fun e w' => e = .returned (.bool true) ∧ Below w.heap.size w w' := by
  have hone : ∀ u ∈ cqs cs, u.oneCell' = true := cqs_one cs
  obtain ⟨n, hnn⟩ : ∃ n, n = cs.length := ⟨_, rfl⟩
  rw [← hnn]
  have h0 : Sr w 9 a n (cqs cs) := by have := Sr.of_sl hv hone; rwa [← hnn] at this
  have h3 := Sr.of_wd hw
  have TW : Hid (∀ W, Below w.heap.size w W → Calls Try.prog 5 #[rnV (.slice a n cap) (.slice a1 n1 c1) (.slice a2 n2 c2) (.slice a3 n3 c3)] W fun e w' => ∃ b0 k0 b1 k1 b2 k2 b3 k3, e = .returned (rnV (.slice b0 n k0) (.slice b1 n1 k1) (.slice b2 n2 k2) (.slice b3 n3 k3)) ∧ Below W.heap.size W w' ∧ Hid (Sl w' (fun _ => True) 9 (.slice b0 cs.length k0) cs.length (cqs cs)) ∧ Hid (Dq.WdAt w' b3 n3 ws)) := Mr.hid (fun W hW => by
    refine (twin_raw W a n cap (cqs cs) a1 n1 c1 xs1 a2 n2 c2 xs2 a3 n3 c3 (wds ws) (h0.below hW) (by omega) (h1.below hW) z1 (h2.below hW) z2 (h3.below hW) z3).mono ?_
    rintro e w' ⟨b0, k0, b1, k1, b2, k2, b3, k3, he, hB, f0, f1, f2, f3⟩
    refine ⟨b0, k0, b1, k1, b2, k2, b3, k3, he, hB, Mr.hid ?_, Mr.hid (wd_of f3)⟩
    have := (f0.sl).mono (fun _ _ => trivial)
    rwa [hnn] at this)
  have HO : Hid (∀ W b0 k0 b3 k3 v1 v2, Hid (Sl W (fun _ => True) 9 (.slice b0 cs.length k0) cs.length (cqs cs)) → Hid (Dq.WdAt W b3 n3 ws) → Calls Try.prog 4 #[Dq.dV th rm, rnV (.slice b0 n k0) v1 v2 (.slice b3 n3 k3)] W fun e w' => e = .returned (.tuple #[.bool (rhB th rm ws cs).1, .int .i64 (rhB th rm ws cs).2]) ∧ Below W.heap.size W w') := Mr.hid (fun W b0 k0 b3 k3 v1 v2 hs hd => by
    have := holds_any th rm ws cs (srt cs) (srt_perm cs) (srt_up cs) b0 k0 b3 n3 k3 v1 v2 W hs.out hd.out hzn
    rw [← hnn] at this
    have hb := hB_same th rm ws cs
    rw [← hb]
    exact this)
  have RH : Hid (∀ W, Below w.heap.size w W → Calls Try.prog 6 #[Dq.dV th rm, rnV (.slice a n cap) (.slice a1 n1 c1) (.slice a2 n2 c2) (.slice a3 n3 c3)] W fun e w' => e = .returned (.tuple #[.bool (rhB th rm ws cs).1, .int .i64 (rhB th rm ws cs).2]) ∧ Below W.heap.size W w') := Mr.hid (fun W hW => by
    have := rHolds_any th rm ws cs a cap a3 n3 c3 (.slice a1 n1 c1) (.slice a2 n2 c2) W (hv.below hW) (hw.below hW) hzn
    rwa [← hnn] at this)
  have SP : Hid (∀ W b0 k0 b3 k3 v1 v2, Hid (Sl W (fun _ => True) 9 (.slice b0 cs.length k0) cs.length (cqs cs)) → Hid (Dq.WdAt W b3 n3 ws) → Calls Try.prog 8 #[Dq.dV th rm, rnV (.slice b0 n k0) v1 v2 (.slice b3 n3 k3)] W fun e w' => ∃ va vc, e = .returned (.tuple #[.slice va (if pE th rm ws cs (srt cs) = 0 then spr th.toNat cs else []).length vc, .int .i64 (pE th rm ws cs (srt cs))]) ∧ Hid (Dq.IsAt w' va (if pE th rm ws cs (srt cs) = 0 then spr th.toNat cs else []).length (if pE th rm ws cs (srt cs) = 0 then spr th.toNat cs else [])) ∧ Below W.heap.size W w') := Mr.hid (fun W b0 k0 b3 k3 v1 v2 hs hd => by
    have := spread_any th rm ws cs b0 k0 b3 n3 k3 v1 v2 W hs.out hd.out hzn
    rw [← hnn] at this
    refine this.mono ?_
    rintro e w' ⟨va, vn, vc, rfl, hI, hB⟩
    obtain rfl := hI.1
    exact ⟨va, vc, rfl, Mr.hid hI, hB⟩)
  have RS : Hid (∀ W, Below w.heap.size w W → Calls Try.prog 9 #[Dq.dV th rm, rnV (.slice a n cap) (.slice a1 n1 c1) (.slice a2 n2 c2) (.slice a3 n3 c3)] W fun e w' => ∃ va vc, e = .returned (.tuple #[.slice va (if pE th rm ws cs (srt cs) = 0 then spr th.toNat cs else []).length vc, .int .i64 (pE th rm ws cs (srt cs))]) ∧ Hid (Dq.IsAt w' va (if pE th rm ws cs (srt cs) = 0 then spr th.toNat cs else []).length (if pE th rm ws cs (srt cs) = 0 then spr th.toNat cs else [])) ∧ Below W.heap.size W w') := Mr.hid (fun W hW => by
    have := rSpread_any th rm ws cs a cap a3 n3 c3 (.slice a1 n1 c1) (.slice a2 n2 c2) W (hv.below hW) (hw.below hW) hzn
    rw [← hnn] at this
    refine this.mono ?_
    rintro e w' ⟨va, vn, vc, rfl, hI, hB⟩
    obtain rfl := hI.1
    exact ⟨va, vc, rfl, Mr.hid hI, hB⟩)
  have SM := Mr.hid (spr_small th rm ws cs (srt cs))
  generalize (if pE th rm ws cs (srt cs) = 0 then spr th.toNat cs else []) = xs at *
  generalize pE th rm ws cs (srt cs) = pe at *
  obtain ⟨rb, re⟩ := rhB th rm ws cs
  have NU := Mr.hid num_any
  have SI : Hid (∀ (W : World) (va va' : Option Addr) (vc vc' : Nat), Hid (Dq.IsAt W va xs.length xs) → Hid (Dq.IsAt W va' xs.length xs) → Calls Try.prog 10 #[.slice va xs.length vc, .slice va' xs.length vc'] W fun e w' => e = .returned (.bool true) ∧ Below W.heap.size W w') := Mr.hid (fun W va va' vc vc' q1 q2 => Dq.sameInts_eq xs va va' xs.length vc vc' W q1.out q2.out SM.out)
  have IB : Hid (∀ (W W' : World) (va : Option Addr), Hid (Dq.IsAt W va xs.length xs) → Below W.heap.size W W' → Hid (Dq.IsAt W' va xs.length xs)) := Mr.hid (fun W W' va q h => Mr.hid (q.out.below h))
  generalize xs.length = m at *
  have B0 := (b1b (w := w) (.cells #[.int .i64 th, .int .i64 rm] 23 (0, 0))).alloc (by simp) (.cells #[.slice a n cap, .slice a1 n1 c1, .slice a2 n2 c2, .slice a3 n3 c3] 29 (0, 0))
  have b0 := old_at (new_at w (.cells #[.int .i64 th, .int .i64 rm] 23 (0, 0)) w.heap.size rfl) (.cells #[.slice a n cap, .slice a1 n1 c1, .slice a2 n2 c2, .slice a3 n3 c3] 29 (0, 0))
  have b1 := new_at (w.alloc (.cells #[.int .i64 th, .int .i64 rm] 23 (0, 0))) (.cells #[.slice a n cap, .slice a1 n1 c1, .slice a2 n2 c2, .slice a3 n3 c3] 29 (0, 0)) (w.heap.size + 1) (by simp)
  have CE : Hid (∀ W, Below ((w.alloc (.cells #[.int .i64 th, .int .i64 rm] 23 (0, 0))).alloc (.cells #[.slice a n cap, .slice a1 n1 c1, .slice a2 n2 c2, .slice a3 n3 c3] 29 (0, 0))).heap.size ((w.alloc (.cells #[.int .i64 th, .int .i64 rm] 23 (0, 0))).alloc (.cells #[.slice a n cap, .slice a1 n1 c1, .slice a2 n2 c2, .slice a3 n3 c3] 29 (0, 0))) W → W.cell? ⟨w.heap.size, 0, none⟩ = some (.int .i64 th) ∧ W.cell? ⟨w.heap.size, 1, none⟩ = some (.int .i64 rm) ∧ W.cell? ⟨w.heap.size + 1, 0, none⟩ = some (.slice a n cap) ∧ W.cell? ⟨w.heap.size + 1, 1, none⟩ = some (.slice a1 n1 c1) ∧ W.cell? ⟨w.heap.size + 1, 2, none⟩ = some (.slice a2 n2 c2) ∧ W.cell? ⟨w.heap.size + 1, 3, none⟩ = some (.slice a3 n3 c3)) := Mr.hid (fun W hB => by
    have lb := (Array.getElem?_eq_some_iff.1 b1).1
    exact ⟨(hB.cell (p := ⟨w.heap.size, 0, none⟩) (by show w.heap.size < _; omega)).trans (Dq.cell_blk b0 0), (hB.cell (p := ⟨w.heap.size, 1, none⟩) (by show w.heap.size < _; omega)).trans (Dq.cell_blk b0 1), (hB.cell (p := ⟨w.heap.size + 1, 0, none⟩) lb).trans (Dq.cell_blk b1 0), (hB.cell (p := ⟨w.heap.size + 1, 1, none⟩) lb).trans (Dq.cell_blk b1 1), (hB.cell (p := ⟨w.heap.size + 1, 2, none⟩) lb).trans (Dq.cell_blk b1 2), (hB.cell (p := ⟨w.heap.size + 1, 3, none⟩) lb).trans (Dq.cell_blk b1 3)⟩)
  have e1 : (rb != rb) = false := by cases rb <;> rfl
  have e2 : (re != re) = false := by simp
  have e3 : (pe == pe) = true := by simp
  replace hnn := Mr.hid hnn
  have B0' := Mr.hid B0
  clear B0 b0 b1 hv hw h0 h1 h2 h3 hone hzn
  unfold Dq.dV rnV at *
  go_enter Try.func3, Try.ntmps3
  go_upto_region 1 with fail
  generalize (World.alloc (World.alloc _ _) _) = w1 at *
  obtain ⟨k0, k1, d0, d1, d2, d3⟩ := CE.out w1 (Below.refl _ _)
  have BR := fun (W : World) (h : Below w1.heap.size w1 W) => B0'.out.trans (h.mono B0'.out.size)
  replace BR := Mr.hid BR
  go_region_held3 (fun w' => w'.cell? ⟨w.heap.size, 0, none⟩ = some (.int .i64 th) ∧ w'.cell? ⟨w.heap.size, 1, none⟩ = some (.int .i64 rm) ∧ w'.cell? ⟨w.heap.size + 1, 0, none⟩ = some (.slice a n cap) ∧ w'.cell? ⟨w.heap.size + 1, 1, none⟩ = some (.slice a1 n1 c1) ∧ w'.cell? ⟨w.heap.size + 1, 2, none⟩ = some (.slice a2 n2 c2) ∧ w'.cell? ⟨w.heap.size + 1, 3, none⟩ = some (.slice a3 n3 c3)) (go_keep)
    (first
      | (go_at_call 5; refine (TW.out _ (BR.out _ (Below.refl _ _).drew)).mono ?_; rintro e w2 ⟨b0, g0, b1, g1, b2, g2, b3, g3, rfl, hB2, hs2, hd2⟩; have BB2 := Mr.hid (((Below.refl w1.heap.size w1).drew).trans (hB2.mono (Nat.le_refl _))); clear hB2; obtain ⟨q0, q1, q2, q3, q4, q5⟩ := CE.out w2 BB2.out)
      | (go_at_call 4; refine (HO.out _ _ _ _ _ _ _ hs2 hd2).mono ?_; rintro e w3 ⟨rfl, hB3⟩; have BB3 := Mr.hid (BB2.out.trans (hB3.mono BB2.out.size)); clear hB3; obtain ⟨s0, s1, s2, s3, s4, s5⟩ := CE.out w3 BB3.out))
  go_upto_region 5 with (first
      | (go_at_call 6; refine (RH.out _ (BR.out _ BB3.out)).mono ?_; rintro e w4 ⟨rfl, hB4⟩; have BB4 := Mr.hid (BB3.out.trans (hB4.mono BB3.out.size)); clear hB4; obtain ⟨t0, t1, t2, t3, t4, t5⟩ := CE.out w4 BB4.out)
      | (go_at_call 7; refine (NU.out _ _).mono ?_; rintro e w5 ⟨rfl, hw5⟩; obtain rfl := hw5.symm))
  go_region_held3 (fun w' => w'.cell? ⟨w.heap.size, 0, none⟩ = some (.int .i64 th) ∧ w'.cell? ⟨w.heap.size, 1, none⟩ = some (.int .i64 rm) ∧ w'.cell? ⟨w.heap.size + 1, 0, none⟩ = some (.slice a n cap) ∧ w'.cell? ⟨w.heap.size + 1, 1, none⟩ = some (.slice a1 n1 c1) ∧ w'.cell? ⟨w.heap.size + 1, 2, none⟩ = some (.slice a2 n2 c2) ∧ w'.cell? ⟨w.heap.size + 1, 3, none⟩ = some (.slice a3 n3 c3)) (go_keep)
    (first
      | (go_at_call 5; refine (TW.out _ (BR.out _ BB4.out.drew)).mono ?_; rintro e w6 ⟨b0', g0', b1', g1', b2', g2', b3', g3', rfl, hB6, hs6, hd6⟩; have BB6 := Mr.hid (BB4.out.drew.trans (hB6.mono BB4.out.size)); clear hB6; obtain ⟨q0', q1', q2', q3', q4', q5'⟩ := CE.out w6 BB6.out)
      | (go_at_call 8; refine (SP.out _ _ _ _ _ _ _ hs6 hd6).mono ?_; rintro e w7 ⟨va, vc, rfl, hI7, hB7⟩; have BB7 := Mr.hid (BB6.out.trans (hB7.mono BB6.out.size)); clear hB7; obtain ⟨s0', s1', s2', s3', s4', s5'⟩ := CE.out w7 BB7.out))
  go_wp2_with (first
      | (go_at_call 9; refine (RS.out _ (BR.out _ BB7.out)).mono ?_; rintro e w8 ⟨va', vc', rfl, hI8, hB8⟩; have BB8 := Mr.hid (BB7.out.trans (hB8.mono BB7.out.size)); have hI7' := IB.out _ _ _ hI7 hB8; clear hB8)
      | (go_at_call 10; refine (SI.out _ _ _ _ _ hI7' hI8).mono ?_; rintro e w9 ⟨rfl, hB9⟩; have BB9 := Mr.hid (BB8.out.trans (hB9.mono BB8.out.size)); clear hB9)
      | (go_at_call 7; refine (NU.out _ _).mono ?_; rintro e w5 ⟨rfl, hw5⟩; obtain rfl := hw5.symm))
  go_ret
  exact ⟨rfl, BR.out _ BB9.out⟩
end Go.Proofs.Ytaojggnflblgnaa.Hd
