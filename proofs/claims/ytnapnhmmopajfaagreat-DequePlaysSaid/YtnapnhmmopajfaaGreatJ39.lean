import Derived.Test.YtnapnhmmopajfaaGreatJ38
import Derived.Deep.Cut
import Derived.BigQuiet
/-
  DequePlays: both machines in one world.
-/
namespace Go.Proofs.YtnapnhmmopajfaaGreat.Rd
open Go.RowKit Go.Shelf Mr Me Ma Gm Dm Dq
set_option linter.unusedVariables false
theorem rg_lt {W : World} {U K : Nat → Prop} {qd : Ph} {km r bc cs c1 c2 : Nat} {P : Pg Dt Lw} (h : RG (dqL r bc cs c1 c2) W U K qd km P) : ∀ k, U k → k < W.heap.size := by
  obtain ⟨S, vl, va, vc, mv, ah, tv, X, hM, _⟩ := h.ex
  exact hM.2.ul
theorem rg_fr {W W' : World} {U K T : Nat → Prop} {qd : Ph} {km r bc cs c1 c2 : Nat} {P : Pg Dt Lw} (h : RG (dqL r bc cs c1 c2) W U K qd km P) (hF : Fr W W' T) (hU : ∀ k, U k → ¬ T k) (hK : ∀ k, K k → ¬ T k) : RG (dqL r bc cs c1 c2) W' U K qd km P := by
  obtain ⟨S, vl, va, vc, mv, ah, tv, X, hM, ha, hah⟩ := h.ex
  exact ⟨⟨S, vl, va, vc, mv, ah, tv, X, ⟨Xs.kept hM.1 (fun k hk _ _ _ => hF.block k (hM.2.ul k hk) (hU k hk)) (fun _ h => h) (fun _ _ h => h), hM.2.fr hF hU⟩, ha, hah⟩, (dqL r bc cs c1 c2).kept h.kt (fun k hk => hF.block k (h.ku k hk).2 (hK k hk)), fun k hk => ⟨(h.ku k hk).1, Nat.lt_of_lt_of_le (h.ku k hk).2 hF.size⟩, h.vk⟩
/-- What stays of the program's machine. -/
structure Qd where
  q : Ph
  km : Nat
  bc : Nat
  cs : Nat
  c1 : Nat
  c2 : Nat
/-- Both machines: the program's at Pd, the document's at Pr; the law's boxes lie below N. -/
structure Duo (w : World) (nt r g o nm : Nat) (ms : List Mv) (N : Nat) (d : Qd) (q : Rc) (Pd Pr : Pg Dt Lw) (W : World) : Prop where
  ex : ∃ (U K Ur : Nat → Prop) (vc vl : Value) (st : Rs), RG (dqL r d.bc d.cs d.c1 d.c2) W U K d.q d.km Pd ∧ Rm W Ur q vc vl st ∧ Sm Pr st ∧ st.n = Pr.n ∧ (∀ k, U k → ¬ Ur k) ∧ (∀ k, K k → ¬ Ur k) ∧ (∀ k, U k → N ≤ k) ∧ (∀ k, Ur k → N ≤ k)
  iv : Iv r Pd ∧ Bd Pd
  iw : Iv r Pr ∧ Bd Pr
  b : Bw w (nt : Int) (r : Int) g o nm ms W
  lo : w.heap.size < N ∧ g < N ∧ N ≤ W.heap.size
  qr : q.r = r
section
variable {w W : World} {nt r g o nm : Nat} {ms : List Mv} {N : Nat} {d : Qd} {q : Rc} {Pd Pr : Pg Dt Lw}
theorem bw_fr {th rm : Int} {W' : World} {T : Nat → Prop} (h : Bw w th rm g o nm ms W) (hF : Fr W W' T) (hT : ∀ k, T k → N ≤ k) (hN : w.heap.size < N ∧ g < N ∧ N ≤ W.heap.size) : Bw w th rm g o nm ms W' := by
  have hB : Below N W W' := hF.below hT hN.2.2
  refine ⟨h.b.trans (hB.mono (by omega)), (hB.block _ hN.1).trans h.d, ⟨h.v.1, Nat.lt_of_lt_of_le h.v.2.1 hB.size, ?_, (hB.cell (p := ⟨g, o + nm * 4, none⟩) hN.2.1).trans h.v.2.2.2⟩⟩
  obtain ⟨m1, m2⟩ := h.v.2.2.1
  refine ⟨m1, m2.imp id ?_⟩
  rintro ⟨b, off, e, hb, hc⟩
  cases e
  refine ⟨g, o, rfl, Nat.lt_of_lt_of_le hb hB.size, fun j hj => ?_⟩
  obtain ⟨z0, z1, z2, z3⟩ := hc j hj
  exact ⟨(hB.cell (p := ⟨g, _, none⟩) hN.2.1).trans z0, (hB.cell (p := ⟨g, _, none⟩) hN.2.1).trans z1, (hB.cell (p := ⟨g, _, none⟩) hN.2.1).trans z2, (hB.cell (p := ⟨g, _, none⟩) hN.2.1).trans z3⟩
theorem Duo.below {W' : World} (h : Duo w nt r g o nm ms N d q Pd Pr W) (hB : Below W.heap.size W W') : Duo w nt r g o nm ms N d q Pd Pr W' := by
  obtain ⟨U, K, Ur, vc, vl, st, h1, h2, h3, h4, h5, h6, h7, h8⟩ := h.ex
  exact ⟨⟨U, K, Ur, vc, vl, st, h1.below hB, h2.below hB, h3, h4, h5, h6, h7, h8⟩, h.iv, h.iw, h.b.below hB, ⟨h.lo.1, h.lo.2.1, Nat.le_trans h.lo.2.2 hB.size⟩, h.qr⟩
/-- The program's machine moves. -/
theorem duo_d (h : Duo w nt r g o nm ms N d q Pd Pr W) (th op arg data : Int) :
    Calls Tryz.prog 11 #[.pointer (some ⟨d.q.b, 0, none⟩), .agg #[.int .i64 th, .int .i64 op, .int .i64 arg, .int .i64 data]] W fun e w' => e = .returned (.bool (Pd.move (dqY r) th op arg data).2) ∧ Duo w nt r g o nm ms N d q (Pd.move (dqY r) th op arg data).1 Pr w' := by
  obtain ⟨U, K, Ur, vc, vl, st, h1, h2, h3, h4, h5, h6, h7, h8⟩ := h.ex
  have hu := h2.ul
  have hk := h1.ku
  refine (move_g (step_d r d.bc d.cs d.c1 d.c2) (beg_d r d.bc d.cs d.c1 d.c2) h1 h.iv.1 h.iv.2 th op arg data).mono ?_
  rintro e w' ⟨rfl, U', g1, g2, g3, g4⟩
  refine ⟨rfl, ⟨U', K, Ur, vc, vl, st, g1, h2.kept (fun k hk => g4.block k (hu k hk) (fun e => h5 k e hk)) (fun _ h => h) (fun k hk => Nat.lt_of_lt_of_le (hu k hk) g4.size), h3, h4, fun k hk1 hk2 => ?_, h6, fun k hk1 => ?_, h8⟩, ⟨h.iv.1.move th op arg data, mv_bd h.iv.2 _ _ _ _⟩, h.iw, bw_fr h.b g4 h7 h.lo, ⟨h.lo.1, h.lo.2.1, Nat.le_trans h.lo.2.2 g4.size⟩, h.qr⟩
  · rcases g3 k hk1 with e | e
    · exact h5 k e hk2
    · have := hu k hk2; omega
  · rcases g3 k hk1 with e | e
    · exact h7 k e
    · have := h.lo.2.2; omega
/-- The document's machine moves. -/
theorem duo_r (h : Duo w nt r g o nm ms N d q Pd Pr W) (th op arg data : Int) (hw : Wd arg) :
    Calls Tryz.prog 12 #[.pointer (some ⟨q.b, 0, none⟩), .agg #[.int .i64 th, .int .i64 op, .int .i64 arg, .int .i64 data]] W fun e w' => e = .returned (.bool (Pr.move (dqY r) th op arg data).2) ∧ Duo w nt r g o nm ms N d q Pd (Pr.move (dqY r) th op arg data).1 w' := by
  obtain ⟨U, K, Ur, vc, vl, st, h1, h2, h3, h4, h5, h6, h7, h8⟩ := h.ex
  have hr := h.qr
  subst hr
  have hul := rg_lt h1
  have hkl := h1.ku
  have G : Gm2 W Ur q st W Pr := ⟨⟨vc, vl, Ur, h2, fun _ h => h, fun _ h => .inl h, Fr.refl _ _⟩, h3, h4, h.iw.1, h.iw.2⟩
  refine (Move_r G th op arg data hw).mono ?_
  rintro e w' ⟨rfl, st', G'⟩
  obtain ⟨vc', vl', Ur', r1, r2, r3, r4⟩ := G'.o
  refine ⟨rfl, ⟨U, K, Ur', vc', vl', st', rg_fr h1 r4 h5 h6, r1, G'.sm, G'.n, fun k hk1 hk2 => ?_, fun k hk1 hk2 => ?_, h7, fun k hk1 => ?_⟩, h.iv, ⟨G'.iv, G'.bd⟩, bw_fr h.b r4 h8 h.lo, ⟨h.lo.1, h.lo.2.1, Nat.le_trans h.lo.2.2 r4.size⟩, rfl⟩
  · rcases r3 k hk2 with e | e
    · exact h5 k hk1 e
    · have := hul k hk1; omega
  · rcases r3 k hk2 with e | e
    · exact h6 k hk1 e
    · have := (hkl k hk1).2; omega
  · rcases r3 k hk1 with e | e
    · exact h8 k e
    · have := h.lo.2.2; omega
theorem duo_new {w w5 w6 w7 w8 : World} {U K : Nat → Prop} {qd : Ph} {km bc cs c1 c2 : Nat} {st : Rs} (N5 : Bw w (nt : Int) (r : Int) g o nm ms w5) (hR : RG (dqL r bc cs c1 c2) w6 U K qd km (P0 nt r)) (hU : ∀ k, U k → w5.heap.size ≤ k) (hK : ∀ k, K k → w5.heap.size ≤ k) (hB6 : Below w5.heap.size w5 w6) (hB7 : Below w6.heap.size w6 w7)
    (hr : q.r = r) (hO : OutR w7 (fun _ => False) q st w8) (hn : st.n = 0) (hs : Sm (P0 nt r) st) (h3 : 1 ≤ r) (h4 : r ≤ 256) : Duo w nt r g o nm ms w5.heap.size ⟨qd, km, bc, cs, c1, c2⟩ q (P0 nt r) (P0 nt r) w8 := by
  have B8 := hO.fb
  obtain ⟨vc, vl, Ur, a1, a2, a3, a4⟩ := hO
  have I := p0_inv (nt := nt) h3 h4
  have hul := rg_lt hR
  have hkl := hR.ku
  have z6 := hB6.size
  have z7 := hB7.size
  have z8 := B8.size
  have up : ∀ k, Ur k → w7.heap.size ≤ k := fun k hk => by rcases a3 k hk with e | e; exact e.elim; exact e
  have B58 : Below w5.heap.size w5 w8 := (hB6.trans (hB7.mono z6)).trans (B8.mono (by omega))
  exact ⟨⟨U, K, Ur, vc, vl, st, (hR.below hB7).below B8, a1, hs, by rw [hn]; rfl, fun k h1 h2 => by have := hul k h1; have := up k h2; omega, fun k h1 h2 => by have := (hkl k h1).2; have := up k h2; omega, hU, fun k h2 => by have := up k h2; omega⟩, I, I, N5.below B58, ⟨N5.lt, N5.v.2.1, by omega⟩, hr⟩
section
variable {W : World} {U K : Nat → Prop} {q : Ph} {r bc cs c1 c2 km : Nat} {P : Pg Dt Lw}
theorem busy_inR (hR : RG (dqL r bc cs c1 c2) W U K q km P) (i : Nat) (hi : i < P.pts.length) (hk : tkF P.pts i = none) : Calls Tryz.prog 13 #[.pointer (some ⟨q.b, 0, none⟩), .int .i64 (i : Int)] W fun e w' => e = .returned (.bool false) ∧ w' = W := by
  obtain ⟨S, vl, va, vc, mv, ah, tv, X, hM, ha, hah⟩ := hR.ex
  obtain ⟨t, ht⟩ : ∃ t, P.pts[i]? = some t := ⟨_, List.getElem?_eq_getElem hi⟩
  have hths : (thsG P.pts tv)[i]? = some ⟨tv i, t.fr, t.call, t.ak, t.av⟩ := by rw [thsG_get, ht]; rfl
  exact Ma.busy_no (q := { q with vc := vc }) hM i _ hths ((dqL r bc cs c1 c2).idle ha i hk)
end
/-- Who is busy: the program's. -/
theorem duo_busy (h : Duo w nt r g o nm ms N d q Pd Pr W) (i : Nat) (hi : i < Pd.pts.length) :
    Calls Tryz.prog 13 #[.pointer (some ⟨d.q.b, 0, none⟩), .int .i64 (i : Int)] W fun e w' => e = .returned (.bool (tkF Pd.pts i).isSome) ∧ w' = W := by
  obtain ⟨U, K, Ur, vc, vl, st, h1, _⟩ := h.ex
  cases hk : tkF Pd.pts i with
  | none => exact busy_inR h1 i hi hk
  | some k =>
    obtain ⟨S, vl', va, vc', mv, ah, tv, X, hM, ha, hah⟩ := h1.ex
    obtain ⟨t, ht⟩ : ∃ t, Pd.pts[i]? = some t := ⟨_, List.getElem?_eq_getElem hi⟩
    have hths : (thsG Pd.pts tv)[i]? = some ⟨tv i, t.fr, t.call, t.ak, t.av⟩ := by rw [thsG_get, ht]; rfl
    obtain ⟨ty, v, hv⟩ := (dqL r d.bc d.cs d.c1 d.c2).busy ha i k hk
    exact Ma.busy_yes (q := { d.q with vc := vc' }) hM i _ hths ty v hv
/-- Who is busy: the document's. -/
theorem duo_call (h : Duo w nt r g o nm ms N d q Pd Pr W) (i : Nat) (hi : i < Pr.pts.length) : ∃ c : Int, W.cell? ⟨q.b, 3, none⟩ = some (.slice (some ⟨q.gt, 0, none⟩) q.nt q.ct) ∧ i < q.nt ∧ W.cell? ⟨q.gt, i * 5, none⟩ = some (.int .i64 c) ∧ decide (0 ≤ c) = (tkF Pr.pts i).isSome := by
  obtain ⟨U, K, Ur, vc, vl, st, h1, h2, h3, h4, _⟩ := h.ex
  obtain ⟨t, ht⟩ : ∃ t, Pr.pts[i]? = some t := ⟨_, List.getElem?_eq_getElem hi⟩
  obtain ⟨u, hu, hT⟩ := h3.th i t ht
  obtain ⟨⟨_, _, _, c3⟩, _⟩ := h2.cells
  refine ⟨u.call, c3, by rw [← h2.tn]; exact (List.getElem?_eq_some_iff.1 hu).1, (h2.tcells hu).1, ?_⟩
  rw [tkF_at ht]
  unfold TR at hT
  cases hk : t.tk with
  | none => rw [hk] at hT; rw [hT]; rfl
  | some k => rw [hk] at hT; obtain ⟨c, cl, _, e2, _⟩ := hT; rw [e2]; simp
theorem duo_run (h : Duo w nt r g o nm ms N d q Pd Pr W) : Calls Tryz.prog 14 #[.pointer (some ⟨d.q.b, 0, none⟩)] W fun e w' => ∃ v1 v2 v3 v4, e = .returned (runV v1 v2 v3 v4) ∧ Has w' (fun k => W.heap.size ≤ k) 61 9 v1 Pd.cls.length (clc Pd.cls) ∧ Has w' (fun k => W.heap.size ≤ k) 65 7 v2 Pd.lg.length (lgc Pd.lg) ∧ Has w' (fun k => W.heap.size ≤ k) 68 5 v3 0 [] ∧ Has w' (fun k => W.heap.size ≤ k) 63 1 v4 Pd.ws.length (wrd Pd.ws) ∧ Below W.heap.size W w' := by
  obtain ⟨U, K, Ur, vc, vl, st, h1, _⟩ := h.ex
  exact run_g h1 h.iv.2
theorem duo_told (h : Duo w nt r g o nm ms N d q Pd Pr W) : Calls Tryz.prog 15 #[.pointer (some ⟨q.b, 0, none⟩)] W fun e w' => ∃ v1 v2 v4, e = .returned (runV v1 v2 (.slice none 0 0) v4) ∧ Has w' (fun k => W.heap.size ≤ k) 61 9 v1 Pr.cls.length (clc Pr.cls) ∧ Has w' (fun k => W.heap.size ≤ k) 65 7 v2 Pr.lg.length (lgc Pr.lg) ∧ Has w' (fun k => W.heap.size ≤ k) 63 1 v4 Pr.ws.length (wrd Pr.ws) ∧ Below W.heap.size W w' := by
  obtain ⟨U, K, Ur, vc, vl, st, h1, h2, h3, h4, _⟩ := h.ex
  have hr := h.qr
  subst hr
  exact told_p (⟨⟨vc, vl, Ur, h2, fun _ h => h, fun _ h => .inl h, Fr.refl _ _⟩, h3, h4, h.iw.1, h.iw.2⟩ : Gm2 W Ur q st W Pr)
end
end Go.Proofs.YtnapnhmmopajfaaGreat.Rd
/-
  DequePlays: the walk.
-/
namespace Go.Proofs.YtnapnhmmopajfaaGreat.Rd
open Go.RowKit Go.Shelf Mr Me Ma Gm Dm Dq
set_option linter.unusedVariables false
set_option linter.unusedSimpArgs false
set_option maxRecDepth 100000
theorem wrap_sm (i : Nat) (h : i ≤ 4398046510976) : wrap64 ((i : Int) + 1) = (i : Int) + 1 := by unfold wrap64; omega
theorem sc_of {w W' : World} {nt r g o : Nat} {ms : List Mv} {N : Nat} {d : Qd} {q : Rc} {Pd Pr : Pg Dt Lw} {bo oo : Nat} (h : Duo w nt r g o ms.length ms N d q Pd Pr W') (hm : MvAt w (some ⟨bo, oo, none⟩) ms.length ms) (i : Nat) (hlt : i < ms.length) :
    W'.cell? ⟨g, o + i * 4, none⟩ = some (.int .i64 (ms[i]?.getD noMv).th) ∧ W'.cell? ⟨g, o + i * 4 + 1, none⟩ = some (.int .i64 (ms[i]?.getD noMv).op) ∧ W'.cell? ⟨g, o + i * 4 + 2, none⟩ = some (.int .i64 (ms[i]?.getD noMv).arg) ∧ W'.cell? ⟨g, o + i * 4 + 3, none⟩ = some (.int .i64 (ms[i]?.getD noMv).data) ∧ W'.cell? ⟨bo, oo + i * 4, none⟩ = some (.int .i64 (ms[i]?.getD noMv).th) ∧ W'.cell? ⟨bo, oo + i * 4 + 1, none⟩ = some (.int .i64 (ms[i]?.getD noMv).op) ∧ W'.cell? ⟨bo, oo + i * 4 + 2, none⟩ = some (.int .i64 (ms[i]?.getD noMv).arg) ∧ W'.cell? ⟨bo, oo + i * 4 + 3, none⟩ = some (.int .i64 (ms[i]?.getD noMv).data) := by
  have key : ∀ {a b : Nat} {W : World}, MvAt W (some ⟨a, b, none⟩) ms.length ms → W.cell? ⟨a, b + i * 4, none⟩ = some (.int .i64 (ms[i]?.getD noMv).th) ∧ W.cell? ⟨a, b + i * 4 + 1, none⟩ = some (.int .i64 (ms[i]?.getD noMv).op) ∧ W.cell? ⟨a, b + i * 4 + 2, none⟩ = some (.int .i64 (ms[i]?.getD noMv).arg) ∧ W.cell? ⟨a, b + i * 4 + 3, none⟩ = some (.int .i64 (ms[i]?.getD noMv).data) := fun hv => by
    rcases hv.2 with h0 | ⟨b', o', e, _, hc⟩
    · rw [h0] at hlt; simp at hlt
    · cases e; exact hc i hlt
  obtain ⟨a0, a1, a2, a3⟩ := key h.b.v.2.2.1
  obtain ⟨b0, b1, b2, b3⟩ := key (hm.below h.b.b)
  exact ⟨a0, a1, a2, a3, b0, b1, b2, b3⟩
set_option maxHeartbeats 8000000 in
theorem law_any (w : World) (th rm : Int) (am : Option Addr) (nm cm : Nat) (ms : List Mv) (hm : MvAt w am nm ms) (hz : nm ≤ 4398046510976) (hwd : ∀ i : Nat, Wd (ms[i]?.getD noMv).arg) :
    Calls Tryz.prog 3 #[.agg #[.int .i64 th, .int .i64 rm], .slice am nm cm] w fun e w' => e = .returned (.bool true) ∧ Below w.heap.size w w' := by
  obtain ⟨i0, hi0, hz0, hz1, hz2⟩ := info_parts info_mvR
  obtain ⟨cls, lg, ws, n1, n2, n4, DP, RP⟩ := both_play th rm nm ms hwd
  have hsrc := src_mv hm
  have hlen : (mvc ms).length = nm * 4 := by rw [mvc_len, hm.1]
  have hM1 := Mr.hid (show 0 + nm ≤ maxLen by unfold maxLen; omega)
  have hM2 := Mr.hid (show ((0 + nm) + (0 + nm) / 4 + 192) * 32 ≤ 281474976710656 by omega)
  have hM3 := Mr.hid (show nm + 1 ≤ maxLen by unfold maxLen; omega)
  have hM4 := Mr.hid (show ((nm + 1) + (nm + 1) / 4 + 192) * 32 ≤ 281474976710656 by omega)
  obtain ⟨W1, hW1⟩ : ∃ W1, w.alloc (dB th rm) = W1 := ⟨_, rfl⟩
  have s1 : W1.heap.size = w.heap.size + 1 := by rw [← hW1]; simp
  have B1 : Below w.heap.size w W1 := by rw [← hW1]; exact (Below.refl _ _).alloc (Nat.le_refl _) _
  have d1 : W1.heap[w.heap.size]? = some (dB th rm) := by rw [← hW1]; exact heap_alloc_new w _
  have hS := Mr.hid (fun (o : Obj) => hsrc.2 (W1.alloc o) (B1.alloc (by omega) o))
  have hS0 := Mr.hid hsrc.1
  have GO := Mr.hid (fun (o1 o2 : Obj) (b1 : Option Addr) (cap1 : Nat) (w1 : World) (hown : Md.Own w1 (fun k => False ∨ k = (W1.alloc o1).heap.size) 27 4 (.slice b1 nm cap1) nm (mvc ms)) (hfr : Fr (W1.alloc o1) w1 (fun _ => False)) (b2 : Option Addr) (cap2 : Nat) (w3 : World) (hown2 : Md.Own w3 (fun k => (False ∨ k = (W1.alloc o1).heap.size) ∨ k = (w1.alloc o2).heap.size) 27 4 (.slice b2 (nm + 1) cap2) (nm + 1) (mvc ms ++ [.int .i64 77, .int .i64 0, .int .i64 0, .int .i64 0])) (hfr2 : Fr (w1.alloc o2) w3 (fun k => False ∨ k = (W1.alloc o1).heap.size)) => (show ∃ g o, b2 = some ⟨g, o, none⟩ ∧ nm + 1 ≤ cap2 ∧ Bw w th rm g o nm ms w3 from by
    have z1 := hfr.size
    have z2 := hfr2.size
    simp only [World.size_alloc] at z1 z2 hown2 hfr2
    obtain ⟨g, o, e, hc, hG⟩ := gvn_of (N := w.heap.size + 1) hm.1 hown2 (fun k hk => by rcases hk with (hk | hk) | hk; exact hk.elim; omega; omega)
    have hB3 : Below W1.heap.size W1 w3 := by
      have a1 : Below W1.heap.size W1 w1 := ((Below.refl _ W1).alloc (Nat.le_refl _) o1).trans ((fr_below hfr).mono (by simp))
      have a2 : Below W1.heap.size W1 (w1.alloc o2) := a1.alloc a1.size o2
      exact a2.trans (hfr2.below (fun k hk => by rcases hk with hk | hk; exact hk.elim; omega) a2.size)
    exact ⟨g, o, e, hc, B1.trans (hB3.mono (by omega)), (hB3.block _ (by omega)).trans d1, hG⟩))
  replace B1 := Mr.hid B1
  replace s1 := Mr.hid s1
  replace d1 := Mr.hid d1
  replace DP := Mr.hid DP
  replace RP := Mr.hid RP
  replace hlen := Mr.hid hlen
  replace hm := Mr.hid hm
  replace hwd := Mr.hid hwd
  replace hz := Mr.hid hz
  replace n1 := Mr.hid n1
  replace n2 := Mr.hid n2
  replace n4 := Mr.hid n4
  replace hW1 := Mr.hid hW1
  clear hsrc
  go_enter Tryz.func3, Tryz.ntmps3
  go_upto_region 1 with fail
  have hW1' := hW1.out
  unfold dB at hW1'
  rw [hW1']
  clear hW1'
  go_upto_region 2 with (first
    | (at_builtin; refine Md.wpList_append_mine _ rfl (.tmp 15) (.tmp 16) 24 rfl (fun _ => False) 27 i0 _ 4 32 Tryz.underlying24 hi0 hz0 hz1 hz2 rfl _ 0 [] rfl (Md.Own.zero _ _ _ _ _) am nm cm (mvc ms) rfl hlen.out hS0.out (hS.out _) (mvc_one ms) hM1.out hM2.out ?_; intro b1 cap1 w1 hown hfr; rw [Nat.zero_add, List.nil_append] at hown; rw [Nat.zero_add]; have hO1 := Mr.hid hown; have hF1 := Mr.hid hfr; clear hown hfr hM1 hM2)
    | (at_builtin; refine Md.wpList_append_mine _ rfl (.tmp 17) (.tmp 19) 24 rfl (fun k => False ∨ k = _) 27 i0 _ 4 32 Tryz.underlying24 hi0 hz0 hz1 hz2 rfl _ nm (mvc ms) rfl (hO1.out.below ((Below.refl _ _).alloc (Nat.le_refl _) _)) (some ⟨w1.heap.size, 0, none⟩) 1 1 [.int .i64 77, .int .i64 0, .int .i64 0, .int .i64 0] rfl rfl (fun e => by cases e) (fun ad had => by cases had; exact newsAt w1 _ #[.int .i64 77, .int .i64 0, .int .i64 0, .int .i64 0] 27 _ rfl rfl) (by simp [Value.oneCell']) hM3.out hM4.out ?_; intro b2 cap2 w3 hown2 hfr2; obtain ⟨g, o, rfl, hc2, hBw⟩ := GO.out _ _ _ _ _ hO1.out hF1.out _ _ _ hown2 hfr2; clear hown2 hfr2 hO1 hF1 GO; replace hBw := Mr.hid hBw))
  go_cut [6, 7] from 21 to 29 (fun s6 s7 wx => ∃ p : Nat, s6 = .pointer (some ⟨p, 0, none⟩) ∧ s7 = .int .i64 (codeOf th rm nm) ∧ Bw w th rm g o nm ms wx ∧ Rn w wx p cls lg ws)
  case first =>
    have x0 : w3.cell? ⟨w.heap.size, 0, none⟩ = some (.int .i64 th) := cell_at hBw.out.d 0
    have x1 : w3.cell? ⟨w.heap.size, 1, none⟩ = some (.int .i64 rm) := cell_at hBw.out.d 1
    have MV := Mr.hid (fun W' (hB : Below w3.heap.size w3 W') => hBw.out.v.2.2.1.below hB)
    have Bd := Mr.hid ((Below.refl w3.heap.size w3).drew)
    have Ba := Mr.hid ((Below.refl w3.heap.size w3).alloc (Nat.le_refl _) rnO).drew
    have lD := hBw.out.lt
    have c1 : nm ≤ cap2 := by omega
    have c2 : (nm : Int) ≤ (cap2 : Int) := by omega
    have ng : w3.heap.size < (w3.alloc rnO).drew.heap.size := by simp
    unfold rnO at Ba ng
    clear hc2
    go_region_with (go_at_call 4; refine (DP.out _ _ _ (MV.out _ (by first | exact Bd.out | exact Ba.out))).mono ?_; rintro e w4 ⟨v1, v2, v3, v4, rfl, h1, h2, h3, h4, hB4⟩; obtain ⟨p1, q1, rfl, _⟩ := h1.form; obtain ⟨p2, q2, rfl, _⟩ := h2.form; obtain ⟨p3, q3, rfl, _⟩ := h3.form; obtain ⟨p4, q4, rfl, _⟩ := h4.form; replace h1 := Mr.hid h1; replace h2 := Mr.hid h2; replace h3 := Mr.hid h3; replace h4 := Mr.hid h4; (first | (have bx := (hB4.block w3.heap.size ng).trans (heap_alloc_new w3 rnO); have k0 := cell_at bx 0; have k1 := cell_at bx 1; have k2 := cell_at bx 2; have k3 := cell_at bx 3; have kf := froz_at bx; replace bx := Mr.hid bx) | skip); replace hB4 := Mr.hid hB4; unfold runV)
    all_goals (go_wp2; go_meet)
    · exact ⟨_, rfl, rfl, rel_a hBw.out (((Below.refl w3.heap.size w3).drew).trans (show Below w3.heap.size w3.drew w4 from hB4.out)) h1.out h2.out h3.out h4.out⟩
    · exact ⟨_, rfl, rfl, rel_b hBw.out (by have := hB4.out; unfold rnO; simpa using this) (by have := h1.out; simpa using this) (by have := h2.out; simpa using this) (by have := h3.out; simpa using this) (by have := h4.out; simpa using this)⟩
    · exact ⟨_, rfl, rfl, rel_b hBw.out (by have := hB4.out; unfold rnO; simpa using this) (by have := h1.out; simpa using this) (by have := h2.out; simpa using this) (by have := h3.out; simpa using this) (by have := h4.out; simpa using this)⟩
  case rest =>
    obtain ⟨p, rfl, rfl, hB2, hR2⟩ := hcut
    clear hBw
    have x0 : wc.cell? ⟨w.heap.size, 0, none⟩ = some (.int .i64 th) := cell_at hB2.d 0
    have x1 : wc.cell? ⟨w.heap.size, 1, none⟩ = some (.int .i64 rm) := cell_at hB2.d 1
    have RP1 := Mr.hid (fun W' (hB : Below wc.heap.size wc W') => RP.out W' am cm (hm.out.below (hB2.b.trans (hB.mono hB2.b.size))))
    replace hB2 := Mr.hid hB2
    replace hR2 := Mr.hid hR2
    go_upto_region 4 with (go_at_call 5; refine (RP1.out _ (Below.refl _ _)).mono ?_; rintro e w4 ⟨v1, v2, v3, v4, rfl, h1, h2, h3, h4, hB4⟩; obtain ⟨p1, q1, rfl, _⟩ := h1.form; obtain ⟨p2, q2, rfl, _⟩ := h2.form; obtain ⟨p3, q3, rfl, _⟩ := h3.form; obtain ⟨p4, q4, rfl, _⟩ := h4.form; have R4 := rel_a hB2.out hB4 h1 h2 h3 h4; have R5 := hR2.out.below (hB4.alloc hB4.size (.cells #[.slice p1 cls.length q1, .slice p2 lg.length q2, .slice p3 0 q3, .slice p4 ws.length q4] 33)); replace R4 := Mr.hid R4; replace R5 := Mr.hid R5; clear h1 h2 h3 h4 hB4 x0 x1 RP1; unfold runV)
    obtain ⟨W4, hW4⟩ : ∃ W4, w4.alloc (.cells #[.slice p1 cls.length q1, .slice p2 lg.length q2, .slice p3 0 q3, .slice p4 ws.length q4] 33) = W4 := ⟨_, rfl⟩
    rw [hW4]
    rw [hW4] at R4 R5
    obtain ⟨⟨u1, u2, u3, u4, hp0, hp1, hp2, hp3, hp4⟩, hpl⟩ := R5.out
    obtain ⟨hB5, ⟨t1, t2, t3, t4, hr0, hr1, hr2, hr3, hr4⟩, hrl⟩ := R4.out
    have a0 := cell_at hp0 0
    have a1 := cell_at hp0 1
    have a2 := cell_at hp0 2
    have a3 := cell_at hp0 3
    have b0 := cell_at hr0 0
    have b1 := cell_at hr0 1
    have b2 := cell_at hr0 2
    have b3 := cell_at hr0 3
    have SR := Mr.hid (same_runs hp1 hp2 hp3 hp4 hr1 hr2 hr3 hr4 n1.out n2.out n4.out)
    unfold runV at SR
    generalize hpw : w4.heap.size = pw at *
    have NX := Mr.hid (fun (w5 : World) (hB : Below W4.heap.size W4 w5) => hB5.below hB)
    obtain ⟨bc1, bc2⟩ : nm + 1 ≤ cap2 ∧ True := ⟨hc2, trivial⟩
    clear hp0 hp1 hp2 hp3 hp4 hr0 hr1 hr2 hr3 hr4 hW4 R4 R5 hpw hpl hrl bc1 bc2
    replace hB5 := Mr.hid hB5
    go_upto_region 6 with (first | (go_at_call 6; refine (num_r _ _).mono ?_; rintro e w9 ⟨rfl, hw9⟩; obtain rfl := hw9.symm) | (go_at_call 7; refine SR.out.mono ?_; clear SR; rintro e w5 ⟨rfl, hB6⟩; have N5 := NX.out w5 hB6; have c77 := N5.v.2.2.2; clear NX hB6 a0 a1 a2 a3 b0 b1 b2 b3 hB5; replace N5 := Mr.hid N5))
    clear c77
    have y0 : w5.cell? ⟨w.heap.size, 0, none⟩ = some (.int .i64 th) := cell_at N5.out.d 0
    have y1 : w5.cell? ⟨w.heap.size, 1, none⟩ = some (.int .i64 rm) := cell_at N5.out.d 1
    by_cases hd : dqB th rm = true
    · have h' := hd
      simp only [dqB, Bool.and_eq_true, decide_eq_true_eq] at h'
      obtain ⟨nt, rfl⟩ := Int.eq_ofNat_of_zero_le (show 0 ≤ th by omega)
      obtain ⟨r, rfl⟩ := Int.eq_ofNat_of_zero_le (show 0 ≤ rm by omega)
      have q1 : 1 ≤ nt := by omega
      have q2 : nt ≤ 16 := by omega
      have q3 : 1 ≤ r := by omega
      have q4 : r ≤ 256 := by omega
      have NN := Mr.hid (fun w => newD_ok w nt r q1 q2 q3 q4)
      have CK := Mr.hid (fun w => rCheck_any (nt : Int) (r : Int) w)
      rw [hd] at CK
      have NR := Mr.hid (fun w => New_r w nt r q1 q2 q3 q4)
      unfold dV at CK
      clear h' hd
      go_upto_region 12 with (first
        | (go_at_call 6; refine (num_r _ _).mono ?_; rintro e w9 ⟨rfl, hw9⟩; obtain rfl := hw9.symm)
        | (go_at_call 8; refine (NN.out _).mono ?_; clear NN; rintro e w6 ⟨qd, U, K, km, bc, cs, c1, c2, rfl, hR, hU, hK, hB6⟩; have N6 := N5.out.below hB6; clear y0 y1; have y0 := cell_at N6.d 0; have y1 := cell_at N6.d 1; replace N6 := Mr.hid N6; replace hR := Mr.hid hR; replace hU := Mr.hid hU; replace hK := Mr.hid hK; replace hB6 := Mr.hid hB6)
        | (go_at_call 9; refine (CK.out _).mono ?_; clear CK; rintro e w7 ⟨rfl, hB7⟩; have N7 := N6.out.below hB7; clear y0 y1; have y0 := cell_at N7.d 0; have y1 := cell_at N7.d 1; replace N7 := Mr.hid N7; replace hB7 := Mr.hid hB7)
        | (go_at_call 10; refine (NR.out _).mono ?_; clear NR; rintro e w8 ⟨q, st, rfl, e1, e2, hO, e4, e5⟩; have DU := Mr.hid (duo_new N5.out hR.out hU.out hK.out hB6.out hB7.out e2 hO e4 e5 q3 q4); clear y0 y1 hR hU hK hB6 hB7 hO e4 e5 N5 N6 N7))
      have hnml := hm.out.1
      subst hnml
      generalize hP0 : P0 nt r = PP at *
      replace hP0 := Mr.hid hP0
      clear hM3 hM4 hS hS0 B1 s1 d1
      go_wp2
      go_loopg [13, 14] ms.length (fun k s13 s14 wr => ∃ i : Nat, s13 = .int .i64 (i : Int) ∧ i + k = ms.length ∧ Duo w nt r g o ms.length ms w5.heap.size ⟨qd, km, bc, cs, c1, c2⟩ q (Pl r PP (ms.take i)) (Pl r PP (ms.take i)) wr)
      case atStart => exact ⟨0, rfl, by omega, DU.out⟩
      case round =>
        obtain ⟨i, rfl, hi, hD⟩ := hrel
        clear DU
        by_cases hlt : i < ms.length
        · rcases hm.out.2 with h0' | ⟨bo, oo, rfl, hbo, hcc⟩
          · rw [h0'] at hlt; simp at hlt
          have hj1 := Mr.hid (show gk - 1 < gk by omega)
          have hj2 := Mr.hid (show i + 1 + (gk - 1) = ms.length by omega)
          have u1 : wrap64 ((i : Int) + 1) = (i : Int) + 1 := wrap_sm i (by have := hz.out; omega)
          have SC0 := fun (W' : World) (Pd Pr : Pg Dt Lw) (h : Duo w nt r g o ms.length ms w5.heap.size ⟨qd, km, bc, cs, c1, c2⟩ q Pd Pr W') => (show ((fun w' => w'.cell? ⟨g, o + i * 4, none⟩ = some (.int .i64 (ms[i]?.getD noMv).th) ∧ w'.cell? ⟨g, o + i * 4 + 1, none⟩ = some (.int .i64 (ms[i]?.getD noMv).op) ∧ w'.cell? ⟨g, o + i * 4 + 2, none⟩ = some (.int .i64 (ms[i]?.getD noMv).arg) ∧ w'.cell? ⟨g, o + i * 4 + 3, none⟩ = some (.int .i64 (ms[i]?.getD noMv).data) ∧ w'.cell? ⟨bo, oo + i * 4, none⟩ = some (.int .i64 (ms[i]?.getD noMv).th) ∧ w'.cell? ⟨bo, oo + i * 4 + 1, none⟩ = some (.int .i64 (ms[i]?.getD noMv).op) ∧ w'.cell? ⟨bo, oo + i * 4 + 2, none⟩ = some (.int .i64 (ms[i]?.getD noMv).arg) ∧ w'.cell? ⟨bo, oo + i * 4 + 3, none⟩ = some (.int .i64 (ms[i]?.getD noMv).data)) : World → Prop) W' from sc_of h hm.out i hlt)
          have hsn := Mr.hid (pl_snoc r PP ms i hlt)
          have hwi := hwd.out i
          have hpts : (Pl r PP (ms.take i)).pts.length = nt := by rw [pl_pts, ← hP0.out]; exact List.length_replicate
          generalize hPi : Pl r PP (ms.take i) = Pi at *
          generalize ms[i]?.getD noMv = m0 at *
          have SC := Mr.hid SC0
          have SH := SC0 wr _ _ hD
          clear SC0 hcc hPi
          obtain ⟨f0, f1, f2, f3, f4, f5, f6, f7⟩ := SH
          have cc2 : (i : Int) < ((ms.length : Nat) : Int) := by omega
          have cc3 : (i : Int) < (ms.length : Int) + 1 := by omega
          replace hD := Mr.hid hD
          replace hi := Mr.hid hi
          replace hwi := Mr.hid hwi
          replace hpts := Mr.hid hpts
          go_upto_region 15 with fail
          refine wp_region_held_drew (S := (fun w' => w'.cell? ⟨g, o + i * 4, none⟩ = some (.int .i64 m0.th) ∧ w'.cell? ⟨g, o + i * 4 + 1, none⟩ = some (.int .i64 m0.op) ∧ w'.cell? ⟨g, o + i * 4 + 2, none⟩ = some (.int .i64 m0.arg) ∧ w'.cell? ⟨g, o + i * 4 + 3, none⟩ = some (.int .i64 m0.data) ∧ w'.cell? ⟨bo, oo + i * 4, none⟩ = some (.int .i64 m0.th) ∧ w'.cell? ⟨bo, oo + i * 4 + 1, none⟩ = some (.int .i64 m0.op) ∧ w'.cell? ⟨bo, oo + i * 4 + 2, none⟩ = some (.int .i64 m0.arg) ∧ w'.cell? ⟨bo, oo + i * 4 + 3, none⟩ = some (.int .i64 m0.data))) (by kernel_rfl) ⟨f0, f1, f2, f3, f4, f5, f6, f7⟩ (fun hHeld => ?_)
          try simp only [Act.put, List.setIfInBounds_toArray, List.set_cons_zero, List.set_cons_succ]
          refine wpAnyH_take (i := 0) (oi := (⟨_, _, _, _, _, _⟩ : Oper)) (v := ?_) rfl (by kernel_rfl) (by kernel_rfl) (by kernel_rfl) (fun _ _ _ h => h) (Or.inl ⟨by rfl, ?_⟩) (by assumption) ?_
          rotate_left
          · intro w9 hSw
            (try dsimp only at hSw)
            go_simp
            all_goals (with_reducible rfl)
          try simp only [Act.put, List.setIfInBounds_toArray, List.set_cons_zero, List.set_cons_succ]
          refine wpAnyH_take (i := 1) (oi := (⟨_, _, _, _, _, _⟩ : Oper)) (v := ?_) rfl (by kernel_rfl) (by kernel_rfl) (by kernel_rfl) (fun _ _ _ h => h) (Or.inl ⟨by rfl, ?_⟩) (by assumption) ?_
          rotate_left
          · intro w9 hSw
            (try dsimp only at hSw)
            go_simp
            all_goals (with_reducible rfl)
          try simp only [Act.put, List.setIfInBounds_toArray, List.set_cons_zero, List.set_cons_succ]
          refine wpAnyH_take (i := 2) (oi := (⟨_, _, _, _, _, _⟩ : Oper)) (v := ?_) rfl (by kernel_rfl) (by kernel_rfl) (by kernel_rfl) (fun _ _ _ h => h) (Or.inl ⟨by rfl, ?_⟩) (by assumption) ?_
          rotate_left
          · intro w9 hSw
            (try dsimp only at hSw)
            go_simp
            all_goals (with_reducible rfl)
          try simp only [Act.put, List.setIfInBounds_toArray, List.set_cons_zero, List.set_cons_succ]
          refine wpAnyH_take (i := 3) (oi := (⟨_, _, _, _, _, _⟩ : Oper)) (v := ?_) rfl (by kernel_rfl) (by kernel_rfl) (by kernel_rfl) (fun _ _ _ h => h) (Or.inl ⟨by rfl, ?_⟩) (by assumption) ?_
          rotate_left
          · intro w9 hSw
            (try dsimp only at hSw)
            go_simp
            all_goals (with_reducible rfl)
          try simp only [Act.put, List.setIfInBounds_toArray, List.set_cons_zero, List.set_cons_succ]
          refine wpAnyH_take (i := 4) (oi := (⟨_, _, _, _, _, _⟩ : Oper)) (v := ?_) rfl (by kernel_rfl) (by kernel_rfl) (by kernel_rfl) (fun _ _ _ h => h) (Or.inl ⟨by rfl, ?_⟩) (by assumption) ?_
          rotate_left
          · intro w9 hSw
            (try dsimp only at hSw)
            go_simp
            all_goals (with_reducible rfl)
          try simp only [Act.put, List.setIfInBounds_toArray, List.set_cons_zero, List.set_cons_succ]
          refine wpAnyH_take (i := 5) (oi := (⟨_, _, _, _, _, _⟩ : Oper)) (v := ?_) rfl (by kernel_rfl) (by kernel_rfl) (by kernel_rfl) (fun _ _ _ h => h) (Or.inl ⟨by rfl, ?_⟩) (by assumption) ?_
          rotate_left
          · intro w9 hSw
            (try dsimp only at hSw)
            go_simp
            all_goals (with_reducible rfl)
          try simp only [Act.put, List.setIfInBounds_toArray, List.set_cons_zero, List.set_cons_succ]
          refine wpAnyH_take (i := 6) (oi := (⟨_, _, _, _, _, _⟩ : Oper)) (v := ?_) rfl (by kernel_rfl) (by kernel_rfl) (by kernel_rfl) (fun _ _ _ h => h) (Or.inl ⟨by rfl, ?_⟩) (by assumption) ?_
          rotate_left
          · intro w9 hSw
            (try dsimp only at hSw)
            go_simp
            all_goals (with_reducible rfl)
          try simp only [Act.put, List.setIfInBounds_toArray, List.set_cons_zero, List.set_cons_succ]
          refine wpAnyH_take (i := 7) (oi := (⟨_, _, _, _, _, _⟩ : Oper)) (v := ?_) rfl (by kernel_rfl) (by kernel_rfl) (by kernel_rfl) (fun _ _ _ h => h) (Or.inl ⟨by rfl, ?_⟩) (by assumption) ?_
          rotate_left
          · intro w9 hSw
            (try dsimp only at hSw)
            go_simp
            all_goals (with_reducible rfl)
          try simp only [Act.put, List.setIfInBounds_toArray, List.set_cons_zero, List.set_cons_succ]
          refine wpAnyH_take (i := 8) (oi := (⟨_, _, _, _, _, _⟩ : Oper)) (v := ?_) rfl (by kernel_rfl) (by kernel_rfl) (by kernel_rfl) (fun _ _ _ h => h) (Or.inl ⟨by rfl, ?_⟩) (by assumption) ?_
          rotate_left
          · intro w9 hSw
            (try dsimp only at hSw)
            go_simp
            all_goals (with_reducible rfl)
          try simp only [Act.put, List.setIfInBounds_toArray, List.set_cons_zero, List.set_cons_succ]
          refine wpAnyH_take (i := 9) (oi := (⟨_, _, _, _, _, _⟩ : Oper)) (v := ?_) rfl (by kernel_rfl) (by kernel_rfl) (by kernel_rfl) (fun _ _ _ h => h) (Or.inl ⟨by rfl, ?_⟩) (by assumption) ?_
          rotate_left
          · intro w9 hSw
            (try dsimp only at hSw)
            go_simp
            all_goals (with_reducible rfl)
          try simp only [Act.put, List.setIfInBounds_toArray, List.set_cons_zero, List.set_cons_succ]
          refine wpAnyH_take (i := 10) (oi := (⟨_, _, _, _, _, _⟩ : Oper)) (v := ?_) rfl (by kernel_rfl) (by kernel_rfl) (by kernel_rfl) (fun _ _ _ h => h) (Or.inl ⟨by rfl, ?_⟩) (by assumption) ?_
          rotate_left
          · intro w9 hSw
            (try dsimp only at hSw)
            go_simp
            all_goals (with_reducible rfl)
          try simp only [Act.put, List.setIfInBounds_toArray, List.set_cons_zero, List.set_cons_succ]
          refine wpAnyH_take (i := 11) (oi := (⟨_, _, _, _, _, _⟩ : Oper)) (v := ?_) rfl (by kernel_rfl) (by kernel_rfl) (by kernel_rfl) (fun _ _ _ h => h) (Or.inl ⟨by rfl, ?_⟩) (by assumption) ?_
          rotate_left
          · intro w9 hSw
            (try dsimp only at hSw)
            go_simp
            all_goals (with_reducible rfl)
          try simp only [Act.put, List.setIfInBounds_toArray, List.set_cons_zero, List.set_cons_succ]
          refine wpAnyH_take (i := 12) (oi := (⟨_, _, _, _, _, _⟩ : Oper)) (v := ?_) rfl (by kernel_rfl) (by kernel_rfl) (by kernel_rfl) (fun _ _ _ h => h) (Or.inl ⟨by rfl, ?_⟩) (by assumption) ?_
          rotate_left
          · intro w9 hSw
            (try dsimp only at hSw)
            go_simp
            all_goals (with_reducible rfl)
          try simp only [Act.put, List.setIfInBounds_toArray, List.set_cons_zero, List.set_cons_succ]
          refine wpAnyH_take (i := 13) (oi := (⟨_, _, _, _, _, _⟩ : Oper)) (v := ?_) rfl (by kernel_rfl) (by kernel_rfl) (by kernel_rfl) (fun _ _ _ h => h) (Or.inl ⟨by rfl, ?_⟩) (by assumption) ?_
          rotate_left
          · intro w9 hSw
            (try dsimp only at hSw)
            go_simp
            all_goals (with_reducible rfl)
          try simp only [Act.put, List.setIfInBounds_toArray, List.set_cons_zero, List.set_cons_succ]
          refine wpAnyH_take (i := 14) (oi := (⟨_, _, _, _, _, _⟩ : Oper)) (v := ?_) rfl (by kernel_rfl) (by kernel_rfl) (by kernel_rfl) (fun _ _ _ h => h) (Or.inl ⟨by rfl, ?_⟩) (by assumption) ?_
          rotate_left
          · intro w9 hSw
            (try dsimp only at hSw)
            go_simp
            all_goals (with_reducible rfl)
          try simp only [Act.put, List.setIfInBounds_toArray, List.set_cons_zero, List.set_cons_succ]
          refine wpAnyH_take (i := 16) (oi := (⟨_, _, _, _, _, _⟩ : Oper)) (v := ?_) rfl (by kernel_rfl) (by kernel_rfl) (by kernel_rfl) (fun _ _ _ h => h) (Or.inl ⟨by rfl, ?_⟩) (by assumption) ?_
          rotate_left
          · intro w9 hSw
            (try dsimp only at hSw)
            go_simp
            all_goals (with_reducible rfl)
          try simp only [Act.put, List.setIfInBounds_toArray, List.set_cons_zero, List.set_cons_succ]
          refine wpAnyH_take (i := 17) (oi := (⟨_, _, _, _, _, _⟩ : Oper)) (v := ?_) rfl (by kernel_rfl) (by kernel_rfl) (by kernel_rfl) (fun _ _ _ h => h) (Or.inl ⟨by rfl, ?_⟩) (by assumption) ?_
          rotate_left
          · intro w9 hSw
            (try dsimp only at hSw)
            go_simp
            all_goals (with_reducible rfl)
          try simp only [Act.put, List.setIfInBounds_toArray, List.set_cons_zero, List.set_cons_succ]
          refine wpAnyH_take (i := 18) (oi := (⟨_, _, _, _, _, _⟩ : Oper)) (v := ?_) rfl (by kernel_rfl) (by kernel_rfl) (by kernel_rfl) (fun _ _ _ h => h) (Or.inl ⟨by rfl, ?_⟩) (by assumption) ?_
          rotate_left
          · intro w9 hSw
            (try dsimp only at hSw)
            go_simp
            all_goals (with_reducible rfl)
          try simp only [Act.put, List.setIfInBounds_toArray, List.set_cons_zero, List.set_cons_succ]
          refine wpAnyH_take (i := 19) (oi := (⟨_, _, _, _, _, _⟩ : Oper)) (v := ?_) rfl (by kernel_rfl) (by kernel_rfl) (by kernel_rfl) (fun _ _ _ h => h) (Or.inl ⟨by rfl, ?_⟩) (by assumption) ?_
          rotate_left
          · intro w9 hSw
            (try dsimp only at hSw)
            go_simp
            all_goals (with_reducible rfl)
          try simp only [Act.put, List.setIfInBounds_toArray, List.set_cons_zero, List.set_cons_succ]
          refine wpAnyH_take (i := 20) (oi := (⟨_, _, _, _, _, _⟩ : Oper)) (v := ?_) rfl (by kernel_rfl) (by kernel_rfl) (by kernel_rfl) (fun _ _ _ h => h) (Or.inl ⟨by rfl, ?_⟩) (by assumption) ?_
          rotate_left
          · intro w9 hSw
            (try dsimp only at hSw)
            go_simp
            all_goals (with_reducible rfl)
          try simp only [Act.put, List.setIfInBounds_toArray, List.set_cons_zero, List.set_cons_succ]
          refine wpAnyH_ready (rs := [15]) (by kernel_rfl) (by simp) (AllReadyH.cons rfl (fun K hK => ?_) AllReadyH.nil)
          go_simp
          refine (duo_d (hD.out.below (Below.refl _ wr).drew) m0.th m0.op m0.arg m0.data).mono ?_
          rintro e w2 ⟨rfl, hD2⟩
          refine hK.out _ _ (SC.out _ _ _ hD2) (fun hHeld9 => ?_)
          clear hK K hHeld
          have hHeld := hHeld9
          clear hHeld9
          refine wpAnyH_ready (rs := [21]) (by kernel_rfl) (by simp) (AllReadyH.cons rfl (fun K hK => ?_) AllReadyH.nil)
          go_simp
          refine (duo_r (hD2) m0.th m0.op m0.arg m0.data hwi.out).mono ?_
          rintro e w3 ⟨rfl, hD3⟩
          refine hK.out _ _ (SC.out _ _ _ hD3) (fun hHeld9 => ?_)
          clear hK K hHeld
          have hHeld := hHeld9
          clear hHeld9
          replace hD3 := Mr.hid hD3
          generalize hbb : (Pi.move (dqY r) m0.th m0.op m0.arg m0.data).2 = bb at *
          clear hbb
          refine wpAnyH_take (i := 22) (oi := (⟨_, _, _, _, _, _⟩ : Oper)) (v := ?_) rfl (by kernel_rfl) (by kernel_rfl) (by kernel_rfl) (fun _ _ _ h => h) (Or.inl ⟨by rfl, ?_⟩) (by assumption) ?_
          rotate_left
          · intro w9 hSw
            (try dsimp only at hSw)
            go_simp
            all_goals (with_reducible rfl)
          try simp only [Act.put, List.setIfInBounds_toArray, List.set_cons_zero, List.set_cons_succ]
          refine wpAnyH_take (i := 23) (oi := (⟨_, _, _, _, _, _⟩ : Oper)) (v := ?_) rfl (by kernel_rfl) (by kernel_rfl) (by kernel_rfl) (fun _ _ _ h => h) (Or.inl ⟨by rfl, ?_⟩) (by assumption) ?_
          rotate_left
          · intro w9 hSw
            (try dsimp only at hSw)
            go_simp
            all_goals (with_reducible rfl)
          try simp only [Act.put, List.setIfInBounds_toArray, List.set_cons_zero, List.set_cons_succ]
          refine wpAnyH_done (by kernel_rfl) ?_ _
          clear hHeld f0 f1 f2 f3 f4 f5 f6 f7
          obtain ⟨_, _, _, _, f4, _, _, _⟩ := SC.out _ _ _ hD3.out
          have y0 : w3.cell? ⟨w.heap.size, 0, none⟩ = some (.int .i64 (nt : Int)) := cell_at hD3.out.b.d 0
          have hl3 : ∀ k, k < nt → k < (Pi.move (dqY r) m0.th m0.op m0.arg m0.data).1.pts.length := fun k hk => by rw [move_pts, hpts.out]; exact hk
          have fin : Hid (∀ n, Duo w nt r g o ms.length ms w5.heap.size ⟨qd, km, bc, cs, c1, c2⟩ q (Pl r PP (ms.take (i + 1))) (Pl r PP (ms.take (i + 1))) (w3.drewN n)) := Mr.hid (fun n => by rw [hsn.out]; exact hD3.out.below ⟨rfl, rfl, rfl, Nat.le_refl _, fun _ _ => rfl⟩)
          have fin0 : Hid (Duo w nt r g o ms.length ms w5.heap.size ⟨qd, km, bc, cs, c1, c2⟩ q (Pl r PP (ms.take (i + 1))) (Pl r PP (ms.take (i + 1))) w3) := Mr.hid (by rw [hsn.out]; exact hD3.out)
          generalize (Pi.move (dqY r) m0.th m0.op m0.arg m0.data).1 = P3 at *
          generalize m0.th = mt at *
          clear SC hwi hsn
          replace cc3 := Mr.hid cc3
          go_upto_region 18 with fail
          by_cases q5 : 0 ≤ mt
          · by_cases q6 : mt < (nt : Int)
            · obtain ⟨k, rfl⟩ := Int.eq_ofNat_of_zero_le q5
              have hkn : k < nt := by omega
              have BY := Mr.hid (fun n => duo_busy (hD3.out.below (show Below w3.heap.size w3 (w3.drewN n) from ⟨rfl, rfl, rfl, Nat.le_refl _, fun _ _ => rfl⟩)) k (hl3 k hkn))
              obtain ⟨c, a3, a4, a5, a6⟩ := duo_call hD3.out k (hl3 k hkn)
              generalize (tkF P3.pts k).isSome = bb2 at *
              clear hl3
              go_region_held3 (fun w' => w'.cell? ⟨w.heap.size, 0, none⟩ = some (.int .i64 (nt : Int)) ∧ w'.cell? ⟨q.b, 3, none⟩ = some (.slice (some ⟨q.gt, 0, none⟩) q.nt q.ct) ∧ w'.cell? ⟨q.gt, k * 5, none⟩ = some (.int .i64 c)) (go_keep) (first | (go_at_call 13; refine (BY.out 1).mono ?_; rintro e w9 ⟨rfl, hw9⟩; obtain rfl := hw9.symm))
              go_wp2
              go_roundg (gk - 1)
              case measure => exact hj1.out
              case rel => exact ⟨i + 1, by first | (simp; done) | (simp; exact u1), hj2.out, fin.out 1⟩
            · have q7 : decide (mt < (nt : Int)) = false := by simp; omega
              clear hl3
              go_quiet (fail)
              go_wp2
              go_roundg (gk - 1)
              case measure => exact hj1.out
              case rel => exact ⟨i + 1, by first | (simp; done) | (simp; exact u1), hj2.out, fin.out _⟩
          · have q7 : decide (0 ≤ mt) = false := by simp; omega
            clear hl3
            go_quiet (fail)
            go_wp2
            go_roundg (gk - 1)
            case measure => exact hj1.out
            case rel => exact ⟨i + 1, by first | (simp; done) | (simp; exact u1), hj2.out, fin.out _⟩
        · obtain rfl : i = ms.length := by omega
          rw [List.take_length] at hD
          have RU := Mr.hid (duo_run hD)
          have TD := Mr.hid (fun W' (hB : Below wr.heap.size wr W') => duo_told (hD.below hB))
          have bb := Mr.hid hD.b.b
          have bz := hD.iv.2
          have z1 : (Pl r PP ms).cls.length ≤ 65536 := Nat.le_trans bz.cls bz.n
          have z2 : (Pl r PP ms).lg.length ≤ 65536 := Nat.le_trans bz.lg bz.n
          have z4 : (Pl r PP ms).ws.length ≤ 258 := by rw [hD.iv.1.len]; omega
          generalize Pl r PP ms = P9 at *
          clear hD hi hlt bz
          go_wp2_with (first
            | (go_at_call 14; refine RU.out.mono ?_; clear RU; rintro e w6 ⟨v1, v2, v3, v4, rfl, h1, h2, h3, h4, hB6⟩; have TE := TD.out w6 hB6; clear TD; have bb6 := Mr.hid (bb.out.trans (hB6.mono bb.out.size)); replace h1 := Mr.hid h1; replace h2 := Mr.hid h2; replace h3 := Mr.hid h3; replace h4 := Mr.hid h4; replace TE := Mr.hid TE; clear hB6 bb)
            | (go_at_call 15; refine TE.out.mono ?_; clear TE; rintro e w7 ⟨t1, t2, t4, rfl, k1, k2, k4, hB7⟩; have SR := Mr.hid (same_runs (h1.out.below hB7) (h2.out.below hB7) (h3.out.below hB7) (h4.out.below hB7) k1 k2 (Has.nil _ (fun k => w6.heap.size ≤ k) _ _) k4 z1 z2 z4); have bb7 := Mr.hid (bb6.out.trans (hB7.mono bb6.out.size)); clear hB7 bb6 h1 h2 h3 h4 k1 k2 k4)
            | (go_at_call 7; refine SR.out.mono ?_; clear SR; rintro e w9 ⟨rfl, hB9⟩; have bb9 := Mr.hid (bb7.out.trans (hB9.mono bb7.out.size)); clear hB9 bb7))
          go_ret
          exact ⟨rfl, bb9.out⟩
    · have hd' : dqB th rm = false := by simpa using hd
      have NN := Mr.hid (fun w => dNew_no w th rm hd')
      have CK := Mr.hid (fun w => rCheck_any th rm w)
      rw [hd'] at CK
      unfold dV at CK
      clear hd hd'
      go_wp2_with (first
        | (go_at_call 6; refine (num_r _ _).mono ?_; rintro e w9 ⟨rfl, hw9⟩; obtain rfl := hw9.symm)
        | (go_at_call 8; refine (NN.out _).mono ?_; clear NN; rintro e w6 ⟨rfl, hB6⟩; have N6 := N5.out.below hB6; clear y0 y1; have y0 := cell_at N6.d 0; have y1 := cell_at N6.d 1; replace N6 := Mr.hid N6; clear hB6)
        | (go_at_call 9; refine (CK.out _).mono ?_; clear CK; rintro e w7 ⟨rfl, hB7⟩; have N7 := N6.out.below hB7; clear y0 y1; replace N7 := Mr.hid N7; clear hB7))
      go_ret
      exact ⟨rfl, N7.out.b⟩
end Go.Proofs.YtnapnhmmopajfaaGreat.Rd
