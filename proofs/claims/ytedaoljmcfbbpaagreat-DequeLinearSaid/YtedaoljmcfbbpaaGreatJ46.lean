import Derived.Test.YtedaoljmcfbbpaaGreatJ45
import Derived.Deep.Cut
/-
  DequeLinear: Holds of a machine's run; what is left when all calls have ended; what does not fit.
-/
namespace Go.Proofs.YtedaoljmcfbbpaaGreat.Dm
open Go.RowKit Go.Shelf Mr Me Ma Gm Dq
set_option linter.unusedVariables false
set_option linter.unusedSimpArgs false
set_option maxRecDepth 100000
theorem lin_list {r nt : Nat} {P : Pg Dt Lw} {B : Int} (hI : Iv r P) (hb : Bd P) (h : Oi r P B) (hd : dqB (nt : Int) (r : Int) = true) : (lfR (nt : Int) (r : Int) P.ws).1 = sg r P.ws (rd P.ws 0) (wrap64 (rd P.ws 1) - rd P.ws 0).toNat := by
  have hn := hb.n
  have t0 := h.t0
  have tb := h.tb
  have nn := h.nn
  have room := h.room
  have hl := hI.len
  obtain ⟨b1, b2⟩ := on_near h.own t0 tb (by omega) hn (fun k e => by
    unfold tkF at e
    cases h0 : P.pts[0]? with
    | none => rw [h0] at e; cases e
    | some t0 => rw [h0] at e; exact hI.tsk 0 t0 k h0 e)
  have e0 : lfT P.ws = rd P.ws 0 := by
    unfold lfT
    rw [List.getD_eq_getElem?_getD]
    show wrap64 (rd P.ws 0) = rd P.ws 0
    exact w64_id _ t0 (by omega)
  have e1 : lfB P.ws = wrap64 (rd P.ws 1) := by
    unfold lfB
    rw [List.getD_eq_getElem?_getD]
    rfl
  unfold lfR
  rw [if_neg (by rw [hd]; decide), if_neg (by rw [hl]; omega), if_pos (by unfold lfOk; rw [e0, e1]; omega), e0, e1, Int.toNat_natCast]
  show lfL _ _ _ _ = _
  unfold lfL sg
  apply List.map_congr_left
  intro j _
  unfold lfV cv rd cel
  rw [List.getD_eq_getElem?_getD]
  congr 4
  have : ((rd P.ws 0) + (j : Int)).toNat = (rd P.ws 0).toNat + j := by omega
  unfold rd at this
  rw [this]
theorem lin_quiet {r nt : Nat} {P : Pg Dt Lw} {B : Int} {ord : List Nat} (hI : Iv r P) (hb : Bd P) (hO : Oi r P B) (h : Lc r P ord) (hd : dqB (nt : Int) (r : Int) = true) (hz : ∀ (c : Nat) (x : Cl), P.cls[c]? = some x → 0 ≤ x.fin) : exO r [] (lk P.cls ord) = some (lfR (nt : Int) (r : Int) P.ws).1 := by
  rw [lin_list hI hb hO hd]
  refine (h.fr (fun t k ht hk => ?_)).2
  obtain ⟨c, x, _, h2, _, h4, _⟩ := h.lnk 0 t k ht hk
  have := hz c x h2
  omega
theorem lin_hB {r nt : Nat} {P : Pg Dt Lw} {B : Int} {ord : List Nat} (hI : Iv r P) (hb : Bd P) (hO : Oi r P B) (h : Lc r P ord) (hd : dqB (nt : Int) (r : Int) = true) (hp : P.pts.length = nt) :
    Hd.pE (nt : Int) (r : Int) P.ws (P.cls.map qq) ((lk P.cls ord).map qq) = 0 ∧ Hd.hB (nt : Int) (r : Int) P.ws (P.cls.map qq) ((lk P.cls ord).map qq) = true := by
  have e1 := lin_left hI hb hO hd
  have lb := h.lb
  rw [hp] at lb
  have e2 := lin_kn lb
  have e3 := (lk_up lb).2
  have e0 : Hd.pE (nt : Int) (r : Int) P.ws (P.cls.map qq) ((lk P.cls ord).map qq) = 0 := by
    unfold Hd.pE
    rw [if_pos e1, e2, e3]; rfl
  refine ⟨e0, ?_⟩
  obtain ⟨vs, hvs⟩ := lin_ex h
  unfold Hd.hB
  rw [e0, lin_unt lb, ex_expl _ hvs]; rfl
theorem holds_run {w W : World} {nt r Bk : Nat} {p1 p2 p3 p4 : Option Addr} {n1 q1 n2 q2 n3 q3 n4 q4 : Nat} {P : Pg Dt Lw} {B : Int} {ord : List Nat} (hG : Gl w W nt r Bk p1 p2 p3 p4 n1 q1 n2 q2 n3 q3 n4 q4 P.cls P.ws) (hI : Iv r P) (hb : Bd P) (hO : Oi r P B) (h : Lc r P ord) (hd : dqB (nt : Int) (r : Int) = true) (hp : P.pts.length = nt) :
    Calls Tryz.prog 7 #[.agg #[.int .i64 (nt : Int), .int .i64 (r : Int)], .agg #[.slice p1 n1 q1, .slice p2 n2 q2, .slice p3 n3 q3, .slice p4 n4 q4]] W fun e w' => e = .returned (.tuple #[.bool true, .int .i64 0]) ∧ Below W.heap.size W w' := by
  obtain ⟨e0, e1⟩ := lin_hB hI hb hO h hd hp
  have lb := h.lb
  have e2 := hG.e1
  have e4 := hG.e4
  subst e2
  subst e4
  have h1 := has_sl hG.h1
  rw [clc_cqs] at h1
  have hl : (P.cls.map qq).length = P.cls.length := List.length_map _
  rw [← hl] at h1
  have := Hd.holds_any (nt : Int) (r : Int) P.ws (P.cls.map qq) ((lk P.cls ord).map qq) (lk_pts lb) (lk_up lb).1 p1 q1 p4 P.ws.length q4 (.slice p2 n2 q2) (.slice p3 n3 q3) W h1 (has_wd (xs := P.ws) hG.h4) (by have := hb.cls; have := hb.n; rw [hl]; omega)
  rw [e0, e1, hl] at this
  exact this
set_option maxHeartbeats 4000000 in
/-- No deque, or too many moves. -/
theorem lin_not (w : World) (th rm : Int) (am : Option Addr) (nm cm : Nat) (h : (dqB th rm && decide ((nm : Int) ≤ 65536)) = false) :
    Calls Tryz.prog 3 #[.agg #[.int .i64 th, .int .i64 rm], .slice am nm cm] w fun e w' => e = .returned (.bool true) ∧ Below w.heap.size w w' := by
  have FT := fun w => fits_any th rm am nm cm w
  rw [h] at FT
  replace FT := Mr.hid FT
  have AW := Mr.hid (fun w => awake_any w)
  have B0 := Mr.hid ((Below.refl w.heap.size w).alloc (Nat.le_refl _) (.cells #[.int .i64 th, .int .i64 rm] 23 (0, 0)))
  clear h
  go_enter Tryz.func3, Tryz.ntmps3
  go_wp2_with (first | (go_at_call 4; refine (FT.out _).mono ?_; clear FT; rintro e w1 ⟨rfl, hB⟩; have hB1 := Mr.hid (B0.out.trans (hB.mono B0.out.size)); clear hB B0) | (go_at_call 5; refine (AW.out _).mono ?_; clear AW; rintro e w2 ⟨rfl, hB⟩; have hB2 := Mr.hid (hB1.out.trans (hB.mono hB1.out.size)); clear hB hB1))
  go_ret
  exact ⟨rfl, hB2.out⟩
def ordI (o : List Nat) : List Value := o.map (fun (c : Nat) => Value.int .i64 (c : Int))
theorem nd_len {i : Nat} {o : List Nat} (h : o.Nodup) (hl : ∀ c ∈ o, c < i) : o.length ≤ i := by
  have hp : o.Perm ((List.range i).filter (fun c => decide (c ∈ o))) := by
    refine (List.perm_ext_iff_of_nodup h (List.nodup_range.filter _)).2 (fun c => ?_)
    rw [List.mem_filter, List.mem_range, decide_eq_true_eq]
    exact ⟨fun hc => ⟨hl c hc, hc⟩, fun hc => hc.2⟩
  rw [hp.length_eq]
  have := List.length_filter_le (fun c => decide (c ∈ o)) (List.range i)
  simpa using this
/-- What the law's own order holds. -/
structure Ro (wB : World) (cls : List Cl) (o : List Nat) (so : Value) (W : World) : Prop where
  bel : Below wB.heap.size wB W
  row : Has W (fun k => wB.heap.size ≤ k) 3 1 so o.length (ordI o)
section
variable {wB W W' : World} {cls : List Cl} {o : List Nat} {so : Value}
theorem Ro.below (h : Ro wB cls o so W) (hB : Below W.heap.size W W') : Ro wB cls o so W' := ⟨h.bel.trans (hB.mono h.bel.size), h.row.below hB⟩
theorem Ro.there (h : Ro wB cls o so W) (hn : 0 < o.length) : ∃ g c, so = .slice (some ⟨g, 0, none⟩) o.length c ∧ g < W.heap.size ∧ wB.heap.size ≤ g := by
  obtain ⟨g, c, e, h1, h2, _⟩ := h.row.there hn
  exact ⟨g, c, e, h2, h1⟩
theorem Ro.cell {g cap : Nat} (h : Ro wB cls o (.slice (some ⟨g, 0, none⟩) o.length cap) W) {j c : Nat} (hj : o[j]? = some c) : W.cell? ⟨g, j, none⟩ = some (.int .i64 (c : Int)) ∧ W.frozen? ⟨g, j, none⟩ = false :=
  ⟨h.row.cells (g := g) rfl j _ (by simp [ordI, hj]), h.row.frozen (g := g) rfl j⟩
theorem has_put9 {w : World} {S : Nat → Prop} {e : TypeId} {g n cap : Nat} {xs : List Value} (h : Has w S e 1 (.slice (some ⟨g, 0, none⟩) n cap) n xs) (j : Nat) (u : Value) : Has (w.setCell ⟨g, j, none⟩ u) S e 1 (.slice (some ⟨g, 0, none⟩) n cap) n (xs.set j u) := by
  refine ⟨by rw [List.length_set]; exact h.1, ?_⟩
  rcases h.2 with ⟨h1, _⟩ | ⟨g', cap', cur, h1, h2, h3, h4, h5, h6, h7⟩
  · cases h1
  · cases h1
    refine .inr ⟨g, cap, cur.setIfInBounds j u, rfl, h2, setBlk h3 j u, h4, h5, by simpa using h6, ?_⟩
    rw [← h7, Array.toList_setIfInBounds, List.take_set]
/-- Two neighbours change places. -/
theorem Ro.swap {A S : List Nat} {a c g cap n : Nat} (hn : n = (A ++ a :: c :: S).length) (h : Ro wB cls (A ++ a :: c :: S) (.slice (some ⟨g, 0, none⟩) n cap) W) : Ro wB cls (A ++ c :: a :: S) (.slice (some ⟨g, 0, none⟩) n cap) ((W.setCell ⟨g, A.length, none⟩ (.int .i64 (c : Int))).setCell ⟨g, A.length + 1, none⟩ (.int .i64 (a : Int))) := by
  have hr := h.row
  have hg : wB.heap.size ≤ g := by
    have := (hr.lt g rfl).1; exact this
  refine ⟨(h.bel.setCell (p := ⟨g, _, none⟩) hg _).setCell (p := ⟨g, _, none⟩) hg _, ?_⟩
  rw [← hn] at hr
  have h1 := has_put9 (has_put9 hr A.length (.int .i64 (c : Int))) (A.length + 1) (.int .i64 (a : Int))
  have hl : (A ++ c :: a :: S).length = n := by rw [hn]; simp
  rw [hl]
  have e : ((ordI (A ++ a :: c :: S)).set A.length (.int .i64 (c : Int))).set (A.length + 1) (.int .i64 (a : Int)) = ordI (A ++ c :: a :: S) := by
    have key : ∀ (X : List Value) (x y u v : Value) (Z : List Value), ((X ++ x :: y :: Z).set X.length u).set (X.length + 1) v = X ++ u :: v :: Z := by
      intro X x y u v Z
      induction X with
      | nil => rfl
      | cons z X ih => simp only [List.cons_append, List.length_cons, List.set_cons_succ, ih]
    have e1 : A.length = (ordI A).length := by simp [ordI]
    simp only [ordI, List.map_append, List.map_cons] at e1 ⊢
    rw [e1]
    exact key _ _ _ _ _ _
  rw [e] at h1
  exact h1
end
end Go.Proofs.YtedaoljmcfbbpaaGreat.Dm
/-
  DequeLinear: the walk.
-/
namespace Go.Proofs.YtedaoljmcfbbpaaGreat.Dm
open Go.RowKit Go.Shelf Mr Me Ma Gm Dq
set_option linter.unusedVariables false
set_option linter.unusedSimpArgs false
set_option maxRecDepth 100000
set_option maxHeartbeats 8000000 in
theorem lin_yes (w : World) (nt r : Nat) (hd : dqB (nt : Int) (r : Int) = true) (am : Option Addr) (nm cm : Nat) (ms : List Mv) (hm : MvAt w am nm ms) (hwi : ∀ m ∈ ms, Wi m.arg) (hnm : nm ≤ 65536) :
    Calls Tryz.prog 3 #[.agg #[.int .i64 (nt : Int), .int .i64 (r : Int)], .slice am nm cm] w fun e w' => e = .returned (.bool true) ∧ Below w.heap.size w w' := by
  have hr : 1 ≤ nt ∧ nt ≤ 16 ∧ 1 ≤ r ∧ r ≤ 256 := by simp only [dqB, Bool.and_eq_true, decide_eq_true_eq] at hd; omega
  have FT := fun w => fits_any (nt : Int) (r : Int) am nm cm w
  have e1 : (dqB (nt : Int) (r : Int) && decide ((nm : Int) ≤ 65536)) = true := by rw [hd]; simp; omega
  rw [e1] at FT
  have PL := fun (W : World) (hB : Below w.heap.size w W) => played_any W nt r hr.1 hr.2.1 hr.2.2.1 hr.2.2.2 am nm cm ms (hm.below hB) hnm
  obtain ⟨hI, hBd⟩ := pl_inv ms (p0_inv (nt := nt) hr.2.2.1 hr.2.2.2).1 (p0_inv hr.2.2.1 hr.2.2.2).2
  obtain ⟨Bo, ord, hO, hL⟩ := pl_lin ms (p0_inv (nt := nt) hr.2.2.1 hr.2.2.2).1 (oi_new nt r) (lc_new nt r) hwi
  have hp : (Pl r (P0 nt r) ms).pts.length = nt := (pl_pts ms _).trans (by simp [P0, Pg.new])
  have HO : Hid (∀ (W : World) (Bk : Nat) (p1 p2 p3 p4 : Option Addr) (n1 q1 n2 q2 n3 q3 n4 q4 : Nat), Gl w W nt r Bk p1 p2 p3 p4 n1 q1 n2 q2 n3 q3 n4 q4 (Pl r (P0 nt r) ms).cls (Pl r (P0 nt r) ms).ws → Calls Tryz.prog 7 #[.agg #[.int .i64 (nt : Int), .int .i64 (r : Int)], .agg #[.slice p1 n1 q1, .slice p2 n2 q2, .slice p3 n3 q3, .slice p4 n4 q4]] W fun e w' => e = .returned (.tuple #[.bool true, .int .i64 0]) ∧ Below W.heap.size W w') := Mr.hid (fun W Bk p1 p2 p3 p4 n1 q1 n2 q2 n3 q3 n4 q4 hG => holds_run hG hI hBd hO hL hd hp)
  obtain ⟨vf, hvf⟩ := lin_ex hL
  have hqt : Hid ((∀ (c : Nat) (x : Cl), (Pl r (P0 nt r) ms).cls[c]? = some x → 0 ≤ x.fin) → vf = (lfR (nt : Int) (r : Int) (Pl r (P0 nt r) ms).ws).1) := Mr.hid (fun hz => by
    have := lin_quiet hI hBd hO hL hd hz
    rw [hvf] at this
    exact Option.some.inj this)
  have hl0 := Mr.hid (lin_left hI hBd hO hd)
  have lb := hL.lb
  rw [hp] at lb
  unfold PdP at PL
  generalize Pl r (P0 nt r) ms = P at *
  have hcl : P.cls.length ≤ 65536 := by have := hBd.n; have := hBd.cls; omega
  clear hI hBd hO hL hp hm hwi
  obtain ⟨pts, g, n, cls, ws, lg⟩ := P
  simp only at PL hcl HO hvf hqt hl0 lb
  obtain ⟨W0, hW0⟩ : ∃ W0, w.alloc (dBox nt r) = W0 := ⟨_, rfl⟩
  have B0 : Below w.heap.size w W0 := by rw [← hW0]; exact (Below.refl _ _).alloc (Nat.le_refl _) _
  have b0 : W0.heap[w.heap.size]? = some (dBox nt r) := by rw [← hW0]; exact heap_alloc_new w _
  have y0 : W0.cell? ⟨w.heap.size, 0, none⟩ = some (.int .i64 (nt : Int)) := cell_at b0 0
  have y1 : W0.cell? ⟨w.heap.size, 1, none⟩ = some (.int .i64 (r : Int)) := cell_at b0 1
  replace b0 := Mr.hid b0
  replace B0 := Mr.hid B0
  replace FT := Mr.hid FT
  replace PL := Mr.hid PL
  replace lb := Mr.hid lb
  replace hcl := Mr.hid hcl
  replace hvf := Mr.hid hvf
  have hrr := Mr.hid hr
  unfold dBox at hW0
  clear hd e1 hr hnm
  go_enter Tryz.func3, Tryz.ntmps3
  go_upto_region 3 with (go_at_call 4; refine (FT.out _).mono ?_; clear FT; rintro e w1 ⟨rfl, hB⟩; have z1 := (hB.cell (p := ⟨w.heap.size, 0, none⟩) (by have := (Array.getElem?_eq_some_iff.1 b0.out).1; exact this)).trans y0; have z2 := (hB.cell (p := ⟨w.heap.size, 1, none⟩) (by have := (Array.getElem?_eq_some_iff.1 b0.out).1; exact this)).trans y1; have B1 := Mr.hid (B0.out.trans (hB.mono B0.out.size)); have b1 := Mr.hid ((hB.block _ (Array.getElem?_eq_some_iff.1 b0.out).1).trans b0.out); clear hB B0 b0 y0 y1 hW0)
  have PL1 := PL.out w1 B1.out
  clear PL
  go_upto_region 4 with (go_at_call 6; refine PL1.mono ?_; clear PL1; rintro e w2 ⟨v1, v2, v3, v4, rfl, hv1, hv2, hv3, hv4, hB⟩; obtain ⟨p1, q1, rfl, _⟩ := hv1.form; obtain ⟨p2, q2, rfl, _⟩ := hv2.form; obtain ⟨p3, q3, rfl, _⟩ := hv3.form; obtain ⟨p4, q4, rfl, _⟩ := hv4.form; replace hv1 := Mr.hid hv1; replace hv4 := Mr.hid hv4; clear hv2 hv3; replace hB := Mr.hid hB; clear z1 z2; unfold runV)
  have G : Gl w (w2.alloc (runL (.slice p1 cls.length q1) (.slice p2 lg.length q2) (.slice p3 0 q3) (.slice p4 ws.length q4))) nt r w2.heap.size p1 p2 p3 p4 cls.length q1 lg.length q2 0 q3 ws.length q4 cls ws := by
    have l1 := (Array.getElem?_eq_some_iff.1 b1.out).1
    have hb2 := (hB.out.block _ l1).trans b1.out
    have hB2 := B1.out.trans (hB.out.mono B1.out.size)
    have hal : Below w2.heap.size w2 (w2.alloc (runL (.slice p1 cls.length q1) (.slice p2 lg.length q2) (.slice p3 0 q3) (.slice p4 ws.length q4))) := (Below.refl _ _).alloc (Nat.le_refl _) _
    exact ⟨hB2.trans (hal.mono hB2.size), (hal.block _ (Array.getElem?_eq_some_iff.1 hb2).1).trans hb2, heap_alloc_new w2 _, (hv1.out.mono (fun k hk => Nat.le_trans B1.out.size hk)).below hal, (hv4.out.mono (fun k hk => Nat.le_trans B1.out.size hk)).below hal, rfl, rfl⟩
  unfold runL at G
  generalize w2.alloc _ = w3 at *
  generalize w2.heap.size = B at *
  clear hv1 hv4 hB B1 b1
  obtain ⟨y0, y1, v0, v1, v2, v3⟩ := G.cells
  replace G := Mr.hid G
  go_wp2_with (first | (go_at_call 7; refine (HO.out _ _ _ _ _ _ _ _ _ _ _ _ _ _ G.out).mono ?_; clear HO; rintro e w4 ⟨rfl, hB⟩; have G4 := Mr.hid (G.out.below hB); clear G hB y0 y1 v0 v1 v2 v3) | (go_at_call 8; refine (num_any _ _).mono ?_; rintro e wn ⟨rfl, hwn⟩; obtain rfl := hwn.symm))
  have v0 := (G4.out.cells).2.2.1
  obtain ⟨ii, hii, hz0, hz1, hz2⟩ := Dq.info_i
  go_loopg [9, 10] cls.length (fun k s9 s10 wr => ∃ (i : Nat), s10 = .int .i64 (i : Int) ∧ i + k = cls.length ∧ ∃ o, Hid (Sd cls i o) ∧ Ro w4 cls o s9 wr)
  case atStart => exact ⟨0, rfl, by omega, [], Mr.hid (Sd.zero _), ⟨Below.refl _ _, Has.nil _ _ _ _⟩⟩
  case round =>
    obtain ⟨i, rfl, hi, o, hSd, hR⟩ := hrel
    clear v0
    have G := G4.out.below hR.bel
    obtain ⟨po, qo, rfl, hqo⟩ := hR.row.form
    by_cases hlt : i < cls.length
    · obtain ⟨x, hx⟩ : ∃ x, cls[i]? = some x := ⟨_, List.getElem?_eq_getElem hlt⟩
      obtain ⟨gc, rfl, hgc, x0, x1, x2, x3, x4, x5, x6, x7, x8⟩ := G.call hx
      obtain ⟨_, _, v0, _, _, _⟩ := G.cells
      have lt0 : w.heap.size < wr.heap.size := (Array.getElem?_eq_some_iff.1 G.d).1
      have ltB : B < wr.heap.size := (Array.getElem?_eq_some_iff.1 G.rn).1
      have hol : o.length ≤ i := nd_len hSd.out.nd (fun c hc => ((hSd.out.mem c).1 hc).1)
      obtain ⟨ge, hge⟩ : ∃ ge, ge = gk := ⟨_, rfl⟩
      have hib : Hid (i + ge = cls.length ∧ ge = gk ∧ i < cls.length) := Mr.hid ⟨by omega, hge, hlt⟩
      have hil : (i : Int) < (cls.length : Int) := by omega
      have hil' : decide (i < cls.length) = true := decide_eq_true hlt
      have htm := lb.out.tm i x hx
      obtain ⟨a0, a1, a2, a3, a4, a5, a6, a7, a8⟩ := x
      simp only at x0 x1 x2 x3 x4 x5 x6 x7 x8 htm
      have hal : Below wr.heap.size wr (wr.alloc (.cells #[.int .i64 a0, .int .i64 a1, .int .i64 a2, .int .i64 a3, .int .i64 a4, .int .i64 a5, .int .i64 a6, .int .i64 a7, .int .i64 a8] 45 (0, 0))) := (Below.refl _ _).alloc (Nat.le_refl _) _
      have ca := heap_alloc_new wr (.cells #[.int .i64 a0, .int .i64 a1, .int .i64 a2, .int .i64 a3, .int .i64 a4, .int .i64 a5, .int .i64 a6, .int .i64 a7, .int .i64 a8] 45 (0, 0))
      have hR2 := Mr.hid (hR.below hal)
      have hxh := Mr.hid hx
      have htw : IntKind.i64.wrap ((i : Int) + 1) = (i : Int) + 1 := i64x _ (by omega) (by have := hcl.out; omega)
      clear hge G hR hi hlt hqo hx hal
      go_upto_region 14 with fail
      generalize wr.alloc _ = wq at *
      have c4 := cell_at ca 4
      have c5 := cell_at ca 5
      have c6 := cell_at ca 6
      simp only [List.getElem?_toArray, List.getElem?_cons_zero, List.getElem?_cons_succ] at c4 c5 c6
      clear ca v0 x0 x1 x2 x3 x4 x5 x6 x7 x8 lt0 ltB hgc
      by_cases hp : a6 = -1
      · subst hp
        have hf : a5 = -1 := by
          apply Classical.byContradiction
          intro h; exact htm.2.2.2 h rfl
        subst hf
        have hn2 := Mr.hid (hSd.out.skip hxh.out rfl)
        clear htm
        go_wp2
        go_roundg (ge - 1)
        case measure => have := hib.out; omega
        case rel => exact ⟨i + 1, by simp, by have := hib.out; omega, o, hn2, hR2.out⟩
      · obtain ⟨t1, t2, t3⟩ := htm.2.2.1 hp
        have t0 := htm.1
        have d1 : decide (a6 < 0) = false := decide_eq_false (by omega)
        have d2 : decide (a6 ≤ a4) = false := decide_eq_false (by omega)
        have hfd : a5 = -1 ∨ (decide (0 ≤ a5) = true ∧ decide (a5 < a6) = false) := by
          by_cases h5 : a5 = -1
          · exact .inl h5
          · have := t3 h5; exact .inr ⟨decide_eq_true (by omega), decide_eq_false (by omega)⟩
        have hpn := Mr.hid hp
        clear t0 t1 t2 t3 htm hp
        rcases hfd with rfl | ⟨d3, d4⟩
        all_goals (
          go_upto_region 19 with fail
          clear c4 c5 c6 d1 d2
          go_wp2_with (at_builtin; refine wpList_append_has _ rfl _ _ 39 rfl (fun k => w4.heap.size ≤ k) 3 ii _ 1 8 Tryz.underlying39 hii hz0 hz1 hz2 rfl _ _ _ rfl (hR2.out.row.alloc _) ⟨wq.heap.size, 0, none⟩ 1 1 [.int .i64 (i : Int)] rfl rfl (newsOne _ _ (cell_at (heap_alloc_new wq _) 0)) (by intro u hu; simp at hu; subst hu; rfl) (by decide) (by unfold maxLen; have := hib.out; have := hcl.out; omega) (by have := hib.out; have := hcl.out; omega) (by have := hR2.out.bel.size; simp; omega) ?_; intro g2 cap2 w11 hh11 hgr hgg; have hRo : Hid (Ro w4 cls (o ++ i :: []) (.slice (some ⟨g2, 0, none⟩) (o.length + 1) cap2) w11) := Mr.hid ⟨(hR2.out.bel.alloc hR2.out.bel.size _).grown hgr (by have := hR2.out.bel.size; simp; omega) (fun k hk => (hR2.out.row.lt k hk).1), by have e9 : ordI (o ++ i :: []) = ordI o ++ [.int .i64 (i : Int)] := (by simp [ordI]); rw [e9, List.length_append]; exact hh11⟩; clear hh11 hgr hgg hR2; have hwl : IntKind.i64.wrap (o.length : Int) = (o.length : Int) := i64x _ (by omega) (by have := hib.out; have := hcl.out; omega))
          go_loopg [12] o.length (fun k s12 wy => ∃ (kk : Nat) (A S : List Nat), s12 = .int .i64 (kk : Int) ∧ kk = k ∧ Hid (A.length = kk ∧ o = A ++ S) ∧ Hid (∀ s ∈ S, ltC (atC cls i) (atC cls s)) ∧ Ro w4 cls (A ++ i :: S) (.slice (some ⟨g2, 0, none⟩) (o.length + 1) cap2) wy)
          case atStart => exact ⟨o.length, o, [], rfl, rfl, Mr.hid ⟨rfl, by simp⟩, Mr.hid (fun s h => by cases h), hRo.out⟩
          case round =>
            obtain ⟨kk, A, S, rfl, hkk, hAS, hS, hRy⟩ := hrel
            clear hRo
            cases kk with
            | zero =>
              have hA0 : A = [] := List.eq_nil_of_length_eq_zero hAS.out.1
              subst hA0
              have hn2 := Mr.hid ((by have h9 := hSd.out; rw [hAS.out.2] at h9; exact h9 : Sd cls i ([] ++ S)).ins hxh.out hpn.out hS.out (.inl rfl))
              have hRh := Mr.hid hRy
              clear hRy hkk
              go_wp2
              go_roundg (ge - 1)
              case measure => have := hib.out; omega
              case rel => exact ⟨i + 1, by simp, by have := hib.out; omega, _, hn2, hRh.out⟩
            | succ k1 =>
              obtain ⟨A', a, rfl⟩ : ∃ A' a, A = A' ++ [a] := by
                rcases List.eq_nil_or_concat A with rfl | ⟨A', a, rfl⟩
                · have := hAS.out.1; simp at this
                · exact ⟨A', a, by simp⟩
              have hA1 : A'.length = k1 := by have := hAS.out.1; simp at this; omega
              have eo : A' ++ [a] ++ i :: S = A' ++ a :: i :: S := by simp
              rw [eo] at hRy
              have hoe : Hid (o = A' ++ a :: S) := Mr.hid (by have := hAS.out.2; simpa using this)
              have hol2 : Hid (o.length = k1 + 1 + S.length) := Mr.hid (by rw [hoe.out]; simp; omega)
              have hao : a ∈ o := by rw [hoe.out]; simp
              obtain ⟨hai, xa, hxa, hpa⟩ := (hSd.out.mem a).1 hao
              have G := G4.out.below hRy.bel
              obtain ⟨ga, ega, hgc, x0, x1, x2, x3, x4, x5, x6, x7, x8⟩ := G.call hxa
              obtain ⟨gi, egi, _, z0, z1, z2, z3, z4, z5, z6, z7, z8⟩ := G.call hxh.out
              obtain rfl : ga = gc := by cases ega; rfl
              obtain rfl : gi = ga := by cases egi; rfl
              clear ega egi
              obtain ⟨_, _, v0, _, _, _⟩ := G.cells
              have ltB : B < wr.heap.size := (Array.getElem?_eq_some_iff.1 G.rn).1
              have r1 : wr.cell? ⟨g2, k1, none⟩ = some (.int .i64 (a : Int)) := hRy.row.cells (g := g2) rfl k1 _ (by rw [← hA1]; simp [ordI])
              have r2 : wr.cell? ⟨g2, k1 + 1, none⟩ = some (.int .i64 (i : Int)) := hRy.row.cells (g := g2) rfl (k1 + 1) _ (by rw [← hA1]; simp [ordI])
              have f1 := hRy.row.frozen (g := g2) rfl k1
              have f2 := hRy.row.frozen (g := g2) rfl (k1 + 1)
              have lt2 : g2 < wr.heap.size := (hRy.row.lt g2 rfl).2
              have hcmp := lb_cmp lb.out ((lb.out.mem a).2 ⟨xa, hxa, hpa⟩) ((lb.out.mem i).2 ⟨_, hxh.out, hpn.out⟩) (by omega)
              rw [atC_of hxa, atC_of hxh.out] at hcmp
              have hah := Mr.hid (ah_lt hcmp)
              have hxah := Mr.hid hxa
              have hRh := Mr.hid hRy
              have hsub : Hid (∀ o9, Below wr.heap.size wr (wr.alloc o9)) := Mr.hid (fun o9 => (Below.refl _ _).alloc (Nat.le_refl _) _)
              obtain ⟨b0, b1, b2, b3, b4, b5, b6, b7, b8⟩ := xa
              simp only at x0 x1 x2 x3 x4 x5 x6 x7 x8 z0 z1 z2 z3 z4 z5 z6 z7 z8
              have hk1 : (k1 : Int) < ((o.length : Int) + 1) := by have := hol2.out; omega
              have hk1n : k1 < o.length + 1 := by have := hol2.out; omega
              have hk2 : (k1 : Int) + 1 < ((o.length : Int) + 1) := by have := hol2.out; omega
              have hk2n : k1 + 1 < o.length + 1 := by have := hol2.out; omega
              have hkw : IntKind.i64.wrap (k1 : Int) = (k1 : Int) := i64x _ (by omega) (by have := hib.out; have := hcl.out; have := hol2.out; omega)
              have hac : (a : Int) < (cls.length : Int) := by have := hib.out; omega
              have hacn : a < cls.length := by have := hib.out; omega
              have hicn : i < cls.length := by have := hib.out; omega
              have hkg0 := Mr.hid (show k1 + 1 = gk by omega)
              clear hcmp hRy G hao hpa hxa hkk
              go_upto_region 23 with fail
              go_region
              have hB1 : Below wr.heap.size wr (wr.alloc (.cells #[.int .i64 b0, .int .i64 b1, .int .i64 b2, .int .i64 b3, .int .i64 b4, .int .i64 b5, .int .i64 b6, .int .i64 b7, .int .i64 b8] 45 (0, 0))).drew := (hsub.out _).drew
              have cA : (wr.alloc (.cells #[.int .i64 b0, .int .i64 b1, .int .i64 b2, .int .i64 b3, .int .i64 b4, .int .i64 b5, .int .i64 b6, .int .i64 b7, .int .i64 b8] 45 (0, 0))).drew.heap[wr.heap.size]? = some (.cells #[.int .i64 b0, .int .i64 b1, .int .i64 b2, .int .i64 b3, .int .i64 b4, .int .i64 b5, .int .i64 b6, .int .i64 b7, .int .i64 b8] 45 (0, 0)) := heap_alloc_new wr _
              generalize (wr.alloc (.cells #[.int .i64 b0, .int .i64 b1, .int .i64 b2, .int .i64 b3, .int .i64 b4, .int .i64 b5, .int .i64 b6, .int .i64 b7, .int .i64 b8] 45 (0, 0))).drew = wa at *
              have ltA : wr.heap.size < wa.heap.size := (Array.getElem?_eq_some_iff.1 cA).1
              have hgiw := hgc
              have mv := fun {b j : Nat} {u : Value} (hl9 : b < wr.heap.size) (h9 : wr.cell? ⟨b, j, none⟩ = some u) => (hB1.cell (p := ⟨b, j, none⟩) hl9).trans h9
              have v0a := mv ltB v0
              have r2a := mv lt2 r2
              have z0a := mv hgc z0
              have z1a := mv hgc z1
              have z2a := mv hgc z2
              have z3a := mv hgc z3
              have z4a := mv hgc z4
              have z5a := mv hgc z5
              have z6a := mv hgc z6
              have z7a := mv hgc z7
              have z8a := mv hgc z8
              have hgca : gi < wa.heap.size := Nat.lt_of_lt_of_le hgc hB1.size
              have ltBa : B < wa.heap.size := Nat.lt_of_lt_of_le ltB hB1.size
              have lt2a : g2 < wa.heap.size := Nat.lt_of_lt_of_le lt2 hB1.size
              clear mv v0 r1 r2 f1 f2 x0 x1 x2 x3 x4 x5 x6 x7 x8 z0 z1 z2 z3 z4 z5 z6 z7 z8 hgiw
              have hRa := Mr.hid (hRh.out.below hB1)
              have hsubA : Hid (∀ o9, Below wa.heap.size wa (wa.alloc o9)) := Mr.hid (fun o9 => (Below.refl _ _).alloc (Nat.le_refl _) _)
              go_upto_region 24 with fail
              go_region
              first | (have hB2 : Below wa.heap.size wa (wa.alloc (.cells #[.int .i64 a0, .int .i64 a1, .int .i64 a2, .int .i64 a3, .int .i64 a4, .int .i64 a5, .int .i64 a6, .int .i64 a7, .int .i64 a8] 45 (0, 0))).drew := (hsubA.out _).drew; have cB : (wa.alloc (.cells #[.int .i64 a0, .int .i64 a1, .int .i64 a2, .int .i64 a3, .int .i64 a4, .int .i64 a5, .int .i64 a6, .int .i64 a7, .int .i64 a8] 45 (0, 0))).drew.heap[wa.heap.size]? = some (.cells #[.int .i64 a0, .int .i64 a1, .int .i64 a2, .int .i64 a3, .int .i64 a4, .int .i64 a5, .int .i64 a6, .int .i64 a7, .int .i64 a8] 45 (0, 0)) := heap_alloc_new wa _; generalize (wa.alloc (.cells #[.int .i64 a0, .int .i64 a1, .int .i64 a2, .int .i64 a3, .int .i64 a4, .int .i64 a5, .int .i64 a6, .int .i64 a7, .int .i64 a8] 45 (0, 0))).drew = wb at *; have y6 := cell_at cB 6; have x6 := (hB2.cell (p := ⟨wr.heap.size, 6, none⟩) ltA).trans (cell_at cA 6); have x1 := (hB2.cell (p := ⟨wr.heap.size, 1, none⟩) ltA).trans (cell_at cA 1); have hRb := Mr.hid (hRa.out.below hB2); clear cB) | (have hB2 : Below wa.heap.size wa (wa.alloc (.cells #[.int .i64 a0, .int .i64 a1, .int .i64 a2, .int .i64 a3, .int .i64 a4, .int .i64 (-1), .int .i64 a6, .int .i64 a7, .int .i64 a8] 45 (0, 0))).drew := (hsubA.out _).drew; have cB : (wa.alloc (.cells #[.int .i64 a0, .int .i64 a1, .int .i64 a2, .int .i64 a3, .int .i64 a4, .int .i64 (-1), .int .i64 a6, .int .i64 a7, .int .i64 a8] 45 (0, 0))).drew.heap[wa.heap.size]? = some (.cells #[.int .i64 a0, .int .i64 a1, .int .i64 a2, .int .i64 a3, .int .i64 a4, .int .i64 (-1), .int .i64 a6, .int .i64 a7, .int .i64 a8] 45 (0, 0)) := heap_alloc_new wa _; generalize (wa.alloc (.cells #[.int .i64 a0, .int .i64 a1, .int .i64 a2, .int .i64 a3, .int .i64 a4, .int .i64 (-1), .int .i64 a6, .int .i64 a7, .int .i64 a8] 45 (0, 0))).drew = wb at *; have y6 := cell_at cB 6; have x6 := (hB2.cell (p := ⟨wr.heap.size, 6, none⟩) ltA).trans (cell_at cA 6); have x1 := (hB2.cell (p := ⟨wr.heap.size, 1, none⟩) ltA).trans (cell_at cA 1); have hRb := Mr.hid (hRa.out.below hB2); clear cB)
              simp only [List.getElem?_toArray, List.getElem?_cons_zero, List.getElem?_cons_succ] at y6 x6 x1
              clear cA hB1 hB2 hRa hsubA hsub hRh v0a r2a z0a z1a z2a z3a z4a z5a z6a z7a z8a hgca ltBa lt2a hgc ltB lt2 hac hacn hicn ltA
              generalize wa.heap.size = ba at *
              generalize wr.heap.size = br at *
              by_cases hc1 : b6 < a6
              · have d5 : decide (b6 < a6) = true := decide_eq_true hc1
                have hn2 := Mr.hid ((by have h9 := hSd.out; rw [hAS.out.2] at h9; exact h9 : Sd cls i ((A' ++ [a]) ++ S)).ins hxh.out hpn.out hS.out (.inr ⟨A', a, rfl, by rw [atC_of hxah.out, atC_of hxh.out]; exact hah.out.1 (by simp [ahC, hc1])⟩))
                clear hah
                go_wp2
                go_roundg (ge - 1)
                case measure => have := hib.out; omega
                case rel => exact ⟨i + 1, by simp, by have := hib.out; omega, A' ++ a :: i :: S, Mr.hid (by have h9 := hn2.out; rw [eo] at h9; exact h9), hRb.out⟩
              · have d5 : decide (b6 < a6) = false := decide_eq_false hc1
                by_cases hc2 : b6 = a6
                · subst hc2
                  by_cases hc3 : b1 = 92
                  · subst hc3
                    have hn2 := Mr.hid ((by have h9 := hSd.out; rw [hAS.out.2] at h9; exact h9 : Sd cls i ((A' ++ [a]) ++ S)).ins hxh.out hpn.out hS.out (.inr ⟨A', a, rfl, by rw [atC_of hxah.out, atC_of hxh.out]; exact hah.out.1 (by simp [ahC])⟩))
                    clear hah
                    go_wp2
                    go_roundg (ge - 1)
                    case measure => have := hib.out; omega
                    case rel => exact ⟨i + 1, by simp, by have := hib.out; omega, A' ++ a :: i :: S, Mr.hid (by have h9 := hn2.out; rw [eo] at h9; exact h9), hRb.out⟩
                  · have d6 : decide (b1 = 92) = false := decide_eq_false hc3
                    have hkg : Hid (k1 + 1 = gk) := hkg0
                    have q1 := hRb.out.row.cells (g := g2) rfl k1 (.int .i64 (a : Int)) (by rw [← hA1]; simp [ordI])
                    have q2 := hRb.out.row.cells (g := g2) rfl (k1 + 1) (.int .i64 (i : Int)) (by rw [← hA1]; simp [ordI])
                    have f1 := hRb.out.row.frozen (g := g2) rfl k1
                    have f2 := hRb.out.row.frozen (g := g2) rfl (k1 + 1)
                    have hlt9 := Mr.hid (hah.out.2 (by simp [ahC, hc3]))
                    clear hah
                    go_upto_region 26 with fail
                    go_region
                    have hRs := Mr.hid (Ro.swap (A := A') (a := a) (c := i) (S := S) (g := g2) (cap := cap2) (by have := hol2.out; simp; omega) hRb.out)
                    rw [hA1] at hRs
                    go_wp2
                    go_roundg (gk - 1)
                    case measure => have := hkg.out; omega
                    case rel => exact ⟨k1, A', a :: S, by simp, by have := hkg.out; omega, Mr.hid ⟨hA1, hoe.out⟩, Mr.hid (fun s hs => (List.mem_cons.1 hs).elim (fun es => by rw [es, atC_of hxah.out, atC_of hxh.out]; exact hlt9.out) (hS.out s)), (by have h9 := hRs.out; first | exact h9 | exact h9.below (Below.refl _ _).drew)⟩
                · have d6 : decide (b6 = a6) = false := decide_eq_false hc2
                  have hkg : Hid (k1 + 1 = gk) := hkg0
                  have q1 := hRb.out.row.cells (g := g2) rfl k1 (.int .i64 (a : Int)) (by rw [← hA1]; simp [ordI])
                  have q2 := hRb.out.row.cells (g := g2) rfl (k1 + 1) (.int .i64 (i : Int)) (by rw [← hA1]; simp [ordI])
                  have f1 := hRb.out.row.frozen (g := g2) rfl k1
                  have f2 := hRb.out.row.frozen (g := g2) rfl (k1 + 1)
                  have hlt9 := Mr.hid (hah.out.2 (by simp [ahC, hc1, hc2]))
                  clear hah
                  go_upto_region 26 with fail
                  go_region
                  have hRs := Mr.hid (Ro.swap (A := A') (a := a) (c := i) (S := S) (g := g2) (cap := cap2) (by have := hol2.out; simp; omega) hRb.out)
                  rw [hA1] at hRs
                  go_wp2
                  go_roundg (gk - 1)
                  case measure => have := hkg.out; omega
                  case rel => exact ⟨k1, A', a :: S, by simp, by have := hkg.out; omega, Mr.hid ⟨hA1, hoe.out⟩, Mr.hid (fun s hs => (List.mem_cons.1 hs).elim (fun es => by rw [es, atC_of hxah.out, atC_of hxh.out]; exact hlt9.out) (hS.out s)), (by have h9 := hRs.out; first | exact h9 | exact h9.below (Below.refl _ _).drew)⟩)
    · have hie : i = cls.length := by omega
      have hso := hSd.out
      rw [hie] at hso
      obtain rfl : o = ord := sd_ord lb.out hso
      have hi9 : decide (i < cls.length) = false := decide_eq_false (by omega)
      have hi8 : ((i : Int) < (cls.length : Int)) = False := by simp; omega
      have hol : Hid (o.length ≤ cls.length) := Mr.hid (nd_len hso.nd (fun c hc => ((hso.mem c).1 hc).1))
      obtain ⟨_, _, v0, _, _, _⟩ := G.cells
      have hR1 := Mr.hid hR
      have hBw := Mr.hid G4.out.bel
      clear hso hR hi hie hlt hqo G hSd
      go_wp2
      clear v0
      generalize hol9 : o.length = m at *
      replace hol9 := Mr.hid hol9
      go_loopg [15, 16] m (fun k s15 s16 wx => ∃ (t : Nat) (vs : List Int) (a5 : Option Addr) (c5 : Nat), s15 = .slice a5 vs.length c5 ∧ s16 = .int .i64 (t : Int) ∧ t + k = m ∧ Hid (exO (r : Int) [] (lk cls (o.take t)) = some vs) ∧ vs.length ≤ t ∧ vs.length ≤ c5 ∧ IsAt wx a5 vs.length vs ∧ Ro w4 cls o (.slice po m qo) wx)
      case atStart => exact ⟨0, [], none, 0, rfl, rfl, by omega, Mr.hid rfl, by simp, by simp, ⟨rfl, .inl rfl⟩, hR1.out⟩
      case round =>
        obtain ⟨t, vs, a5, c5, rfl, rfl, ht, hex, hvt, hvc, hIs, hRx⟩ := hrel
        by_cases hlt : t < m
        · have hil : (t : Int) < (m : Int) := by omega
          have hil' : decide (t < m) = true := decide_eq_true hlt
          have tw : IntKind.i64.wrap ((t : Int) + 1) = (t : Int) + 1 := i64x _ (by omega) (by have := hol.out; have := hcl.out; omega)
          obtain ⟨c, hc⟩ : ∃ c, o[t]? = some c := ⟨_, List.getElem?_eq_getElem (by rw [hol9.out]; exact hlt)⟩
          obtain ⟨x, hx, hpx⟩ := (lb.out.mem c).1 (List.mem_of_getElem? hc)
          have hcc : c < cls.length := (List.getElem?_eq_some_iff.1 hx).1
          have hcI : (c : Int) < (cls.length : Int) := by omega
          have htm := lb.out.tm c x hx
          have hkn := lb.out.kn c x hx
          have htk : ∀ j, (lk cls o).take j = lk cls (o.take j) := fun j => by unfold lk; rw [List.map_take]
          obtain ⟨ok, hst⟩ := exO_step (rm := (r : Int)) hvf.out (i := t) (x := x) (by unfold lk; rw [List.getElem?_map, hc]; show some (atC cls c) = some x; rw [atC_of hx]) (by rw [htk]; exact hex.out)
          rw [htk] at hst
          have MC := made_any (rm := (r : Int)) (vs := vs) (x := x) (by have := hol.out; have := hcl.out; omega) (by rcases hkn with ⟨h9 | h9, _⟩ | ⟨h9, _⟩ <;> simp [h9]) (by have h1 := htm.2.2.1 hpx; have h0 := htm.1; rcases Classical.em (x.fin = -1) with h5 | h5; exact .inl h5; exact .inr (by have := h1.2.2 h5; omega)) ok
          unfold MdC at MC
          have hvl : (Hd.atO (r : Int) vs (qq x)).1.length ≤ t + 1 := by
            have h9 := exO_len _ hst
            unfold lk at h9
            rw [List.length_map, List.length_take] at h9
            simp only [List.length_nil] at h9
            omega
          generalize (Hd.atO (r : Int) vs (qq x)).1 = vn at *
          have G := G4.out.below hRx.bel
          obtain ⟨gc, rfl, hgc, x0, x1, x2, x3, x4, x5, x6, x7, x8⟩ := G.call hx
          obtain ⟨y0, y1, v0, _, _, _⟩ := G.cells
          obtain ⟨g2, c9, e9, lt2, _⟩ := hRx.there (by rw [hol9.out]; omega)
          obtain rfl : po = some ⟨g2, 0, none⟩ := by injection e9
          clear e9
          have r1 : wr.cell? ⟨g2, t, none⟩ = some (.int .i64 (c : Int)) := hRx.row.cells (g := g2) rfl t _ (by simp [ordI, hc])
          have lt0 : w.heap.size < wr.heap.size := (Array.getElem?_eq_some_iff.1 G.d).1
          have ltB : B < wr.heap.size := (Array.getElem?_eq_some_iff.1 G.rn).1
          obtain ⟨a0, a1, a2, a3, a4, a51, a6, a7, a8⟩ := x
          dsimp only at MC x0 x1 x2 x3 x4 x5 x6 x7 x8
          replace MC := Mr.hid MC
          have hRh := Mr.hid hRx
          have hvl9 := Mr.hid hvl
          have hst9 := Mr.hid hst
          have hkg : Hid (t + gk = m ∧ t < m) := Mr.hid ⟨ht, hlt⟩
          have S0 : Hid (Below wr.heap.size wr wr.drew) := Mr.hid (Below.refl _ _).drew
          replace hIs := Mr.hid hIs
          clear hpx htm hkn htk ok hst hvl G hRx hx hc ht hlt hvt hex
          go_upto_region 31 with fail
          refine wp_region_held_drew (S := (fun W => Below wr.heap.size wr W)) (by kernel_rfl) S0.out (fun hHeld => ?_)
          try simp only [Act.put, List.setIfInBounds_toArray, List.set_cons_zero, List.set_cons_succ]
          refine wpAnyH_take (i := 0) (oi := (⟨_, _, _, _, _, _⟩ : Oper)) (v := ?_) rfl (by kernel_rfl) (by kernel_rfl) (by kernel_rfl) (fun _ _ _ h => h) (Or.inl ⟨by rfl, ?_⟩) (by assumption) ?_
          rotate_left
          · intro w9 hSw
            (try dsimp only at hSw)
            go_simp
            all_goals (with_reducible rfl)
          try simp only [Act.put, List.setIfInBounds_toArray, List.set_cons_zero, List.set_cons_succ]
          refine wpAnyH_take (i := 1) (oi := (⟨_, _, _, _, _, _⟩ : Oper)) (v := ?_) rfl (by kernel_rfl) (by kernel_rfl) (by kernel_rfl) (fun _ _ _ h => h) (Or.inl ⟨by rfl, ?_⟩) (by assumption) ?_
          rotate_left
          · intro w9 hSw
            (try dsimp only at hSw)
            go_simp
            all_goals (with_reducible rfl)
          try simp only [Act.put, List.setIfInBounds_toArray, List.set_cons_zero, List.set_cons_succ]
          refine wpAnyH_take (i := 2) (oi := (⟨_, _, _, _, _, _⟩ : Oper)) (v := ?_) rfl (by kernel_rfl) (by kernel_rfl) (by kernel_rfl) (fun _ _ _ h => h) (Or.inl ⟨by rfl, ?_⟩) (by assumption) ?_
          rotate_left
          · intro w9 hSw
            (try dsimp only at hSw)
            have q := (hSw.cell (p := ⟨w.heap.size, 1, none⟩) lt0).trans y1
            go_simp
            all_goals (with_reducible rfl)
          try simp only [Act.put, List.setIfInBounds_toArray, List.set_cons_zero, List.set_cons_succ]
          refine wpAnyH_take (i := 3) (oi := (⟨_, _, _, _, _, _⟩ : Oper)) (v := ?_) rfl (by kernel_rfl) (by kernel_rfl) (by kernel_rfl) (fun _ _ _ h => h) (Or.inl ⟨by rfl, ?_⟩) (by assumption) ?_
          rotate_left
          · intro w9 hSw
            (try dsimp only at hSw)
            go_simp
            all_goals (with_reducible rfl)
          try simp only [Act.put, List.setIfInBounds_toArray, List.set_cons_zero, List.set_cons_succ]
          refine wpAnyH_take (i := 4) (oi := (⟨_, _, _, _, _, _⟩ : Oper)) (v := ?_) rfl (by kernel_rfl) (by kernel_rfl) (by kernel_rfl) (fun _ _ _ h => h) (Or.inl ⟨by rfl, ?_⟩) (by assumption) ?_
          rotate_left
          · intro w9 hSw
            (try dsimp only at hSw)
            have q := (hSw.cell (p := ⟨B, 0, none⟩) ltB).trans v0
            go_simp
            all_goals (with_reducible rfl)
          try simp only [Act.put, List.setIfInBounds_toArray, List.set_cons_zero, List.set_cons_succ]
          refine wpAnyH_take (i := 5) (oi := (⟨_, _, _, _, _, _⟩ : Oper)) (v := ?_) rfl (by kernel_rfl) (by kernel_rfl) (by kernel_rfl) (fun _ _ _ h => h) (Or.inl ⟨by rfl, ?_⟩) (by assumption) ?_
          rotate_left
          · intro w9 hSw
            (try dsimp only at hSw)
            go_simp
            all_goals (with_reducible rfl)
          try simp only [Act.put, List.setIfInBounds_toArray, List.set_cons_zero, List.set_cons_succ]
          refine wpAnyH_take (i := 6) (oi := (⟨_, _, _, _, _, _⟩ : Oper)) (v := ?_) rfl (by kernel_rfl) (by kernel_rfl) (by kernel_rfl) (fun _ _ _ h => h) (Or.inl ⟨by rfl, ?_⟩) (by assumption) ?_
          rotate_left
          · intro w9 hSw
            (try dsimp only at hSw)
            go_simp
            all_goals (with_reducible rfl)
          try simp only [Act.put, List.setIfInBounds_toArray, List.set_cons_zero, List.set_cons_succ]
          refine wpAnyH_take (i := 7) (oi := (⟨_, _, _, _, _, _⟩ : Oper)) (v := ?_) rfl (by kernel_rfl) (by kernel_rfl) (by kernel_rfl) (fun _ _ _ h => h) (Or.inl ⟨by rfl, ?_⟩) (by assumption) ?_
          rotate_left
          · intro w9 hSw
            (try dsimp only at hSw)
            go_simp
            all_goals (with_reducible rfl)
          try simp only [Act.put, List.setIfInBounds_toArray, List.set_cons_zero, List.set_cons_succ]
          refine wpAnyH_take (i := 8) (oi := (⟨_, _, _, _, _, _⟩ : Oper)) (v := ?_) rfl (by kernel_rfl) (by kernel_rfl) (by kernel_rfl) (fun _ _ _ h => h) (Or.inl ⟨by rfl, ?_⟩) (by assumption) ?_
          rotate_left
          · intro w9 hSw
            (try dsimp only at hSw)
            have q := (hSw.cell (p := ⟨g2, t, none⟩) lt2).trans r1
            go_simp
            all_goals (with_reducible rfl)
          try simp only [Act.put, List.setIfInBounds_toArray, List.set_cons_zero, List.set_cons_succ]
          refine wpAnyH_take (i := 9) (oi := (⟨_, _, _, _, _, _⟩ : Oper)) (v := ?_) rfl (by kernel_rfl) (by kernel_rfl) (by kernel_rfl) (fun _ _ _ h => h) (Or.inl ⟨by rfl, ?_⟩) (by assumption) ?_
          rotate_left
          · intro w9 hSw
            (try dsimp only at hSw)
            go_simp
            all_goals (with_reducible rfl)
          try simp only [Act.put, List.setIfInBounds_toArray, List.set_cons_zero, List.set_cons_succ]
          refine wpAnyH_take (i := 10) (oi := (⟨_, _, _, _, _, _⟩ : Oper)) (v := ?_) rfl (by kernel_rfl) (by kernel_rfl) (by kernel_rfl) (fun _ _ _ h => h) (Or.inl ⟨by rfl, ?_⟩) (by assumption) ?_
          rotate_left
          · intro w9 hSw
            (try dsimp only at hSw)
            have q0 := (hSw.cell (p := ⟨gc, c * 9, none⟩) hgc).trans x0
            have q1 := (hSw.cell (p := ⟨gc, c * 9 + 1, none⟩) hgc).trans x1
            have q2 := (hSw.cell (p := ⟨gc, c * 9 + 2, none⟩) hgc).trans x2
            have q3 := (hSw.cell (p := ⟨gc, c * 9 + 3, none⟩) hgc).trans x3
            have q4 := (hSw.cell (p := ⟨gc, c * 9 + 4, none⟩) hgc).trans x4
            have q5 := (hSw.cell (p := ⟨gc, c * 9 + 5, none⟩) hgc).trans x5
            have q6 := (hSw.cell (p := ⟨gc, c * 9 + 6, none⟩) hgc).trans x6
            have q7 := (hSw.cell (p := ⟨gc, c * 9 + 7, none⟩) hgc).trans x7
            have q8 := (hSw.cell (p := ⟨gc, c * 9 + 8, none⟩) hgc).trans x8
            go_simp
            all_goals (with_reducible rfl)
          try simp only [Act.put, List.setIfInBounds_toArray, List.set_cons_zero, List.set_cons_succ]
          refine wpAnyH_ready (rs := [11]) (by kernel_rfl) (by simp) ?_
          refine AllReadyH.cons (o := (⟨_, _, _, _, _, _⟩ : Oper)) rfl (fun K hK => ?_) (AllReadyH.nil)
          go_simp
          go_at_call 9
          refine (MC.out a5 c5 _ (hIs.out.below (Below.refl _ _).drew) hvc).mono ?_
          rintro e w8 ⟨a8', c8', rfl, hI8, hc8, hB8⟩
          have B8 : Below wr.heap.size wr w8 := (Below.refl wr.heap.size wr).drew.trans (show Below wr.heap.size wr.drew w8 from hB8)
          refine hK.out _ _ B8 (fun hHeld9 => ?_)
          clear hK K hHeld
          have hHeld := hHeld9
          clear hHeld9
          try simp only [Act.put, List.setIfInBounds_toArray, List.set_cons_zero, List.set_cons_succ]
          refine wpAnyH_take (i := 12) (oi := (⟨_, _, _, _, _, _⟩ : Oper)) (v := ?_) rfl (by kernel_rfl) (by kernel_rfl) (by kernel_rfl) (fun _ _ _ h => h) (Or.inl ⟨by rfl, ?_⟩) (by assumption) ?_
          rotate_left
          · intro w9 hSw
            (try dsimp only at hSw)
            go_simp
            all_goals (with_reducible rfl)
          try simp only [Act.put, List.setIfInBounds_toArray, List.set_cons_zero, List.set_cons_succ]
          refine wpAnyH_take (i := 13) (oi := (⟨_, _, _, _, _, _⟩ : Oper)) (v := ?_) rfl (by kernel_rfl) (by kernel_rfl) (by kernel_rfl) (fun _ _ _ h => h) (Or.inl ⟨by rfl, ?_⟩) (by assumption) ?_
          rotate_left
          · intro w9 hSw
            (try dsimp only at hSw)
            go_simp
            all_goals (with_reducible rfl)
          try simp only [Act.put, List.setIfInBounds_toArray, List.set_cons_zero, List.set_cons_succ]
          refine wpAnyH_take (i := 14) (oi := (⟨_, _, _, _, _, _⟩ : Oper)) (v := ?_) rfl (by kernel_rfl) (by kernel_rfl) (by kernel_rfl) (fun _ _ _ h => h) (Or.inl ⟨by rfl, ?_⟩) (by assumption) ?_
          rotate_left
          · intro w9 hSw
            (try dsimp only at hSw)
            go_simp
            all_goals (with_reducible rfl)
          try simp only [Act.put, List.setIfInBounds_toArray, List.set_cons_zero, List.set_cons_succ]
          refine wpAnyH_take (i := 15) (oi := (⟨_, _, _, _, _, _⟩ : Oper)) (v := ?_) rfl (by kernel_rfl) (by kernel_rfl) (by kernel_rfl) (fun _ _ _ h => h) (Or.inl ⟨by rfl, ?_⟩) (by assumption) ?_
          rotate_left
          · intro w9 hSw
            (try dsimp only at hSw)
            go_simp
            all_goals (with_reducible rfl)
          try simp only [Act.put, List.setIfInBounds_toArray, List.set_cons_zero, List.set_cons_succ]
          refine wpAnyH_take (i := 16) (oi := (⟨_, _, _, _, _, _⟩ : Oper)) (v := ?_) rfl (by kernel_rfl) (by kernel_rfl) (by kernel_rfl) (fun _ _ _ h => h) (Or.inl ⟨by rfl, ?_⟩) (by assumption) ?_
          rotate_left
          · intro w9 hSw
            (try dsimp only at hSw)
            go_simp
            all_goals (with_reducible rfl)
          try simp only [Act.put, List.setIfInBounds_toArray, List.set_cons_zero, List.set_cons_succ]
          refine wpAnyH_done (by kernel_rfl) ?_ _
          have hRn := Mr.hid (hRh.out.below B8)
          replace hI8 := Mr.hid hI8
          replace hc8 := Mr.hid hc8
          clear hRh B8 hB8 hHeld x0 x1 x2 x3 x4 x5 x6 x7 x8 y0 y1 v0 r1 lt0 ltB lt2 hgc S0 hIs MC
          go_wp2
          go_roundg (gk - 1)
          case measure => have := hkg.out; omega
          case rel => exact ⟨t + 1, vn, a8', c8', rfl, by simp, by have := hkg.out; omega, hst9, hvl9.out, hc8.out, hI8.out, hRn.out⟩
        · have htm : t = m := by omega
          have hi9 : decide (t < m) = false := decide_eq_false (by omega)
          have hi8 : ((t : Int) < (m : Int)) = False := by simp; omega
          have hv9 : vs = vf := by
            have h9 := hex.out
            rw [htm, ← hol9.out, List.take_length, hvf.out] at h9
            exact (Option.some.inj h9).symm
          have G := G4.out.below hRx.bel
          obtain ⟨y0, y1, v0, v1, v2, v3⟩ := G.cells
          have hBw2 := Mr.hid G.bel
          have hvb : Hid (vs.length ≤ 65536) := Mr.hid (by have := hol.out; have := hcl.out; omega)
          have HL := G.left
          unfold LfP at HL
          rw [hl0.out] at HL
          have hqv := hqt.out
          rw [← hv9] at hqv
          generalize (lfR (nt : Int) (r : Int) ws).1 = lf at *
          replace HL := Mr.hid HL
          replace hqv := Mr.hid hqv
          replace hIs := Mr.hid hIs
          replace hvc := Mr.hid hvc
          have hGh := Mr.hid G
          clear G hRx hex hv9 htm ht hlt hvt hqt hvf
          go_wp2_with (first | (go_at_call 10; refine HL.out.mono ?_; clear HL; rintro e w5 ⟨al, kl, rfl, hL, hB⟩; have G5 := Mr.hid (hGh.out.below hB); replace hL := Mr.hid hL; have hI5 := Mr.hid (hIs.out.below hB); clear hGh hIs hB y0 y1 v0 v1 v2 v3; obtain ⟨y0, y1, v0, v1, v2, v3⟩ := G5.out.cells) | (go_at_call 8; refine (num_any _ _).mono ?_; rintro e wn ⟨rfl, hwn⟩; obtain rfl := hwn.symm) | (go_at_call 11; refine (qt_all cls G5.out.h1 (by have := hcl.out; omega)).mono ?_; rintro e w6 ⟨b, rfl, hq, hB⟩; have G6 := Mr.hid (G5.out.below hB); have hL6 := Mr.hid (hL.out.below hB); have hI6 := Mr.hid (hI5.out.below hB); clear G5 hL hI5 hB y0 y1 v0 v1 v2 v3; rcases b with _ | _))
          · go_ret
            exact ⟨rfl, G6.out.bel⟩
          · have ev := hqv.out (by first | exact hq rfl | exact hq trivial | exact hq)
            have hl6 := hL6.out
            rw [← ev] at hl6
            rw [← ev]
            go_at_call 12
            refine (sameInts_eq vs al a5 vs.length kl c5 w6 hl6 hI6.out (by have := hvb.out; omega)).mono ?_
            rintro e w7 ⟨rfl, hB7⟩
            have hf7 := Mr.hid (G6.out.bel.trans (hB7.mono G6.out.bel.size))
            clear hB7 hl6 hL6 hI6 G6
            go_wp2
            go_ret
            exact ⟨rfl, hf7.out⟩
end Go.Proofs.YtedaoljmcfbbpaaGreat.Dm
