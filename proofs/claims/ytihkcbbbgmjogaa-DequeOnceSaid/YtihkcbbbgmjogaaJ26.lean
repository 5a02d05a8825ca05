import Derived.Test.YtihkcbbbgmjogaaJ25
/-
  deque.Play, pure: a script's moves one after another.
-/
namespace Go.Proofs.Ytihkcbbbgmjogaa.Dm
open Go.RowKit Go.Shelf Mr Me Ma Gm Dq
set_option linter.unusedVariables false
/-- A script. -/
def Pl (r : Nat) (P : Pg Dt Lw) (ms : List Mv) : Pg Dt Lw := ms.foldl (fun P m => (P.move (dqY r) m.th m.op m.arg m.data).1) P
def P0 (nt r : Nat) : Pg Dt Lw := Pg.new nt (List.replicate (2 + r) 0) none
theorem pl_snoc (r : Nat) (P : Pg Dt Lw) (ms : List Mv) (i : Nat) (hi : i < ms.length) : Pl r P (ms.take (i + 1)) = ((Pl r P (ms.take i)).move (dqY r) (ms[i]?.getD noMv).th (ms[i]?.getD noMv).op (ms[i]?.getD noMv).arg (ms[i]?.getD noMv).data).1 := by
  unfold Pl
  rw [List.take_add_one, List.foldl_append]
  simp [hi]
theorem mv_bd {r : Nat} {P : Pg Dt Lw} (h : Bd P) (th op arg data : Int) : Bd (P.move (dqY r) th op arg data).1 := h.move (fun fr i now ws g k => stp_la r fr i now ws g k) th op arg data
theorem pl_inv {r : Nat} (ms : List Mv) : ∀ {P : Pg Dt Lw}, Iv r P → Bd P → Iv r (Pl r P ms) ∧ Bd (Pl r P ms) := by
  induction ms with
  | nil => exact fun h1 h2 => ⟨h1, h2⟩
  | cons x ms ih => exact fun h1 h2 => ih (h1.move x.th x.op x.arg x.data) (mv_bd h2 _ _ _ _)
theorem mv_n {r : Nat} (P : Pg Dt Lw) (th op arg data : Int) : (P.move (dqY r) th op arg data).1.n ≤ P.n + 1 := by
  by_cases h : 65536 ≤ P.n
  · unfold Pg.move; rw [if_pos h]; exact Nat.le_succ _
  · rw [move_n P (by omega)]; exact Nat.le_refl _
theorem pl_n {r : Nat} (ms : List Mv) : ∀ (P : Pg Dt Lw), (Pl r P ms).n ≤ P.n + ms.length := by
  induction ms with
  | nil => exact fun P => Nat.le_refl _
  | cons x ms ih =>
      intro P
      have h1 := ih (P.move (dqY r) x.th x.op x.arg x.data).1
      have h2 := mv_n (r := r) P x.th x.op x.arg x.data
      show (Pl r (P.move (dqY r) x.th x.op x.arg x.data).1 ms).n ≤ P.n + (ms.length + 1)
      omega
theorem pl_pts {r : Nat} (ms : List Mv) : ∀ (P : Pg Dt Lw), (Pl r P ms).pts.length = P.pts.length := by
  induction ms with
  | nil => exact fun P => rfl
  | cons x ms ih => exact fun P => (ih _).trans (move_pts P x.th x.op x.arg x.data)
theorem p0_inv {nt r : Nat} (h1 : 1 ≤ r) (h2 : r ≤ 256) : Iv r (P0 nt r) ∧ Bd (P0 nt r) := ⟨iv_new nt h1 h2, bd_new _ _ _⟩
def rnO : Obj := .cells #[.slice none 0 0, .slice none 0 0, .slice none 0 0, .slice none 0 0] 43 (0, 0)
/-- Play's two boxes. -/
structure Bp (w : World) (nt r : Nat) (W : World) : Prop where
  c : W.heap[w.heap.size]? = some (dBox nt r)
  r : W.heap[w.heap.size + 1]? = some rnO
  b : Below w.heap.size w W
theorem Bp.below {w W W' : World} {nt r : Nat} (h : Bp w nt r W) (hB : Below (w.heap.size + 1 + 1) W W') : Bp w nt r W' :=
  ⟨(hB.block _ (by omega)).trans h.c, (hB.block _ (by omega)).trans h.r, h.b.trans (hB.mono (by omega))⟩
theorem Bp.lt {w W : World} {nt r : Nat} (h : Bp w nt r W) : w.heap.size + 1 + 1 ≤ W.heap.size := by
  have := (Array.getElem?_eq_some_iff.1 h.r).1
  omega
theorem Bp.run {w W : World} {nt r : Nat} (h : Bp w nt r W) : (∀ j, j < 4 → W.cell? ⟨w.heap.size + 1, j, none⟩ = some (.slice none 0 0)) ∧ ∀ j, W.frozen? ⟨w.heap.size + 1, j, none⟩ = false := by
  refine ⟨fun j hj => ?_, fun j => froz_at h.r j⟩
  rw [cell_at h.r j]
  have hj' : j = 0 ∨ j = 1 ∨ j = 2 ∨ j = 3 := by omega
  rcases hj' with rfl | rfl | rfl | rfl <;> rfl
/-- What a move leaves, from a relation that frames it. -/
theorem OutG.next {w W W' : World} {nt r bc cs c1 c2 km N : Nat} {U K : Nat → Prop} {q : Ph} {P' : Pg Dt Lw} (hU : ∀ k, U k → N ≤ k) (hN : N ≤ W.heap.size) (hO : OutG (dqL r bc cs c1 c2) W U K q km P' W') : ∃ U', RG (dqL r bc cs c1 c2) W' U' K q km P' ∧ (∀ k, U' k → N ≤ k) ∧ Below N W W' := by
  obtain ⟨U', g1, g2, g3, g4⟩ := hO
  exact ⟨U', g1, fun k hk => (g3 k hk).elim (hU k) (Nat.le_trans hN), g4.below hU hN⟩
end Go.Proofs.Ytihkcbbbgmjogaa.Dm
/-
  deque.Play by its contract: a script that may be.
-/
namespace Go.Proofs.Ytihkcbbbgmjogaa.Dm
open Go.RowKit Go.Shelf Mr Me Ma Gm Dq
set_option linter.unusedVariables false
set_option linter.unusedSimpArgs false
set_option maxRecDepth 100000 in
set_option maxHeartbeats 4000000 in
theorem play_d (w : World) (nt r : Nat) (h1 : 1 ≤ nt) (h2 : nt ≤ 16) (h3 : 1 ≤ r) (h4 : r ≤ 256) (am : Option Addr) (nm cm : Nat) (ms : List Mv) (hm : MvAt w am nm ms) (hnm : nm ≤ 65536) :
    Calls Try.prog 18 #[.agg #[.int .i64 (nt : Int), .int .i64 (r : Int)], .slice am nm cm] w fun e w' => ∃ v1 v2 v3 v4, e = .returned (.tuple #[runV v1 v2 v3 v4, .int .i64 0]) ∧ Has w' (fun k => w.heap.size ≤ k) 53 9 v1 (Pl r (P0 nt r) ms).cls.length (clc (Pl r (P0 nt r) ms).cls) ∧ Has w' (fun k => w.heap.size ≤ k) 59 7 v2 (Pl r (P0 nt r) ms).lg.length (lgc (Pl r (P0 nt r) ms).lg) ∧ Has w' (fun k => w.heap.size ≤ k) 118 5 v3 0 [] ∧ Has w' (fun k => w.heap.size ≤ k) 56 1 v4 (Pl r (P0 nt r) ms).ws.length (wrd (Pl r (P0 nt r) ms).ws) ∧ Below w.heap.size w w' := by
  have NW := Mr.hid (fun w => newD_ok w nt r h1 h2 h3 h4)
  have d3 : decide (65536 < (nm : Int)) = false := by simp; omega
  obtain ⟨hnml, _⟩ := id hm
  subst hnml
  obtain ⟨W0, hW0⟩ : ∃ W0, (w.alloc (dBox nt r)).alloc rnO = W0 := ⟨_, rfl⟩
  have b0 : Bp w nt r W0 := by
    rw [← hW0]
    refine ⟨(Below.heap_alloc _ _ _ (by simp)).trans (heap_alloc_new w _), ?_, ((Below.refl _ _).alloc (Nat.le_refl _) _).alloc (by simp) _⟩
    have := heap_alloc_new (w.alloc (dBox nt r)) rnO
    rw [World.size_alloc] at this
    exact this
  have s0 : W0.heap.size = w.heap.size + 1 + 1 := by rw [← hW0]; simp
  have y0 : W0.cell? ⟨w.heap.size, 0, none⟩ = some (.int .i64 (nt : Int)) := cell_at b0.c 0
  have y1 : W0.cell? ⟨w.heap.size, 1, none⟩ = some (.int .i64 (r : Int)) := cell_at b0.c 1
  have hI := Mr.hid (fun i => pl_inv (ms.take i) (p0_inv (nt := nt) h3 h4).1 (p0_inv h3 h4).2)
  replace b0 := Mr.hid b0
  replace s0 := Mr.hid s0
  unfold dBox rnO at hW0
  have PE : P0 nt r = Pg.new nt (List.replicate (2 + r) 0) none := rfl
  go_enter Try.func18, Try.ntmps18
  go_wp2_with (go_at_call 8; refine (NW.out _).mono ?_; clear NW; rintro e w1 ⟨q, U, K, km, bc, cs, c1, c2, rfl, hR, hU, hK, hB1⟩; rw [← PE] at hR; rw [s0.out] at hU hB1; have b1 := b0.out.below hB1; clear y0 y1 b0 hW0 hK; replace hR := Mr.hid hR; replace hU := Mr.hid hU; replace b1 := Mr.hid b1; clear hB1)
  generalize hP0 : P0 nt r = PP at *
  replace hP0 := Mr.hid hP0
  clear PE
  go_loopg [25] ms.length (fun k s wr => ∃ (i : Nat) (U' : Nat → Prop), s = .int .i64 (i : Int) ∧ i + k = ms.length ∧ RG (dqL r bc cs c1 c2) wr U' K q km (Pl r PP (ms.take i)) ∧ (∀ k, U' k → w.heap.size + 1 + 1 ≤ k) ∧ Bp w nt r wr)
  case atStart => exact ⟨0, U, rfl, by omega, hR.out, hU.out, b1.out⟩
  case round =>
    obtain ⟨i, U', rfl, hi, hRi, hUi, hxi⟩ := hrel
    obtain ⟨hIi, hBi⟩ := hI.out i
    by_cases hlt : i < ms.length
    · rcases hm.2 with h0' | ⟨bo, oo, rfl, hbo, hcc⟩
      · rw [h0'] at hlt; simp at hlt
      obtain ⟨z0, z1, z2, z3⟩ := hcc i hlt
      have hcW := fun (j : Nat) (u : Value) (hu : w.cell? ⟨bo, j, none⟩ = some u) => (hxi.b.cell (p := ⟨bo, j, none⟩) hbo).trans hu
      have g0 := hcW _ _ z0
      have g1 := hcW _ _ z1
      have g2 := hcW _ _ z2
      have g3 := hcW _ _ z3
      have hsn := Mr.hid (pl_snoc r PP ms i hlt)
      have hsz := hxi.b.size
      have hl := hxi.lt
      have MV := fun (o : Obj) => move_g (step_d r bc cs c1 c2) (beg_d r bc cs c1 c2) (hRi.below ((Below.refl wr.heap.size wr).alloc (Nat.le_refl _) o)) hIi hBi (ms[i]?.getD noMv).th (ms[i]?.getD noMv).op (ms[i]?.getD noMv).arg (ms[i]?.getD noMv).data
      have fin := fun (o : Obj) (w3' : World) (hO : OutG (dqL r bc cs c1 c2) (wr.alloc o) U' K q km ((Pl r PP (ms.take i)).move (dqY r) (ms[i]?.getD noMv).th (ms[i]?.getD noMv).op (ms[i]?.getD noMv).arg (ms[i]?.getD noMv).data).1 w3') => (show ∃ (U'' : Nat → Prop), RG (dqL r bc cs c1 c2) w3' U'' K q km (Pl r PP (ms.take (i + 1))) ∧ (∀ k, U'' k → w.heap.size + 1 + 1 ≤ k) ∧ Bp w nt r w3' from by
        obtain ⟨U'', f1, f2, f3⟩ := OutG.next (w := w) (nt := nt) hUi (by simp; omega) hO
        have hBa := (Below.refl wr.heap.size wr).alloc (Nat.le_refl _) o
        exact ⟨U'', by rw [hsn.out]; exact f1, f2, (hxi.below (hBa.mono hl)).below f3⟩)
      generalize (Pl r PP (ms.take i)).move (dqY r) (ms[i]?.getD noMv).th (ms[i]?.getD noMv).op (ms[i]?.getD noMv).arg (ms[i]?.getD noMv).data = PM at *
      generalize ms[i]?.getD noMv = m0 at *
      replace hRi := Mr.hid hRi
      replace hUi := Mr.hid hUi
      replace hxi := Mr.hid hxi
      replace MV := Mr.hid MV
      replace fin := Mr.hid fin
      clear hcc hcW z0 z1 z2 z3 hm hIi hBi hR hU b1
      go_wp2_with (go_at_call 10; refine (MV.out _).mono ?_; clear MV; rintro e w5 ⟨rfl, hO⟩; obtain ⟨U'', r1, r2, r3⟩ := fin.out _ w5 hO; clear fin hO; replace r1 := Mr.hid r1; replace r2 := Mr.hid r2; replace r3 := Mr.hid r3)
      go_roundg (gk - 1)
      case measure => omega
      case rel => exact ⟨i + 1, U'', by simp, by omega, r1.out, r2.out, r3.out⟩
    · obtain rfl : i = ms.length := by omega
      rw [List.take_length] at hRi hIi hBi
      have RN := run_g hRi hBi
      have hbl := hxi.lt
      have fin : ∀ (w6 : World) (hB : Below wr.heap.size wr w6), Bp w nt r w6 := fun w6 hB => hxi.below (hB.mono hbl)
      replace hRi := Mr.hid hRi
      replace hxi := Mr.hid hxi
      replace RN := Mr.hid RN
      replace fin := Mr.hid fin
      clear hm hIi hBi hR hU b1
      go_wp2_with (go_at_call 12; refine RN.out.mono ?_; clear RN; rintro e w6 ⟨v1, v2, v3, v4, rfl, hv1, hv2, hv3, hv4, hB6⟩; have hx6 := fin.out w6 hB6; clear fin; obtain ⟨kc, kz⟩ := hx6.run; have kc0 := kc 0 (by decide); have kc1 := kc 1 (by decide); have kc2 := kc 2 (by decide); have kc3 := kc 3 (by decide); clear kc; obtain ⟨p1, q1, rfl, _⟩ := hv1.form; obtain ⟨p2, q2, rfl, _⟩ := hv2.form; obtain ⟨p3, q3, rfl, _⟩ := hv3.form; obtain ⟨p4, q4, rfl, _⟩ := hv4.form; replace hx6 := Mr.hid hx6; unfold runV)
      rw [hP0.out]
      generalize hn1 : (Pl r PP ms).cls.length = n1 at *
      generalize hn2 : (Pl r PP ms).lg.length = n2 at *
      generalize hn4 : (Pl r PP ms).ws.length = n4 at *
      obtain ⟨W5, hW5⟩ : ∃ W5, (((w6.setCell ⟨w.heap.size + 1, 0, none⟩ (.slice p1 n1 q1)).setCell ⟨w.heap.size + 1, 1, none⟩ (.slice p2 n2 q2)).setCell ⟨w.heap.size + 1, 2, none⟩ (.slice p3 0 q3)).setCell ⟨w.heap.size + 1, 3, none⟩ (.slice p4 n4 q4) = W5 := ⟨_, rfl⟩
      have hr6 : w6.heap[w.heap.size + 1]? = some (.cells #[.slice none 0 0, .slice none 0 0, .slice none 0 0, .slice none 0 0] 43 (0, 0)) := hx6.out.r
      have hb5 : W5.heap[w.heap.size + 1]? = some (.cells #[.slice p1 n1 q1, .slice p2 n2 q2, .slice p3 0 q3, .slice p4 n4 q4] 43 (0, 0)) := by
        rw [← hW5, setBlk (setBlk (setBlk (setBlk hr6 0 _) 1 _) 2 _) 3 _]
        rfl
      have ho5 : ∀ k, k ≠ w.heap.size + 1 → W5.heap[k]? = w6.heap[k]? := fun k hk => by
        rw [← hW5, Below.heap_setCell _ _ _ k hk, Below.heap_setCell _ _ _ k hk, Below.heap_setCell _ _ _ k hk, Below.heap_setCell _ _ _ k hk]
      have hB5 : Below w.heap.size w W5 := by
        rw [← hW5]
        exact (((hx6.out.b.setCell (p := ⟨w.heap.size + 1, 0, none⟩) (Nat.le_succ _) _).setCell (p := ⟨w.heap.size + 1, 1, none⟩) (Nat.le_succ _) _).setCell (p := ⟨w.heap.size + 1, 2, none⟩) (Nat.le_succ _) _).setCell (p := ⟨w.heap.size + 1, 3, none⟩) (Nat.le_succ _) _
      have keep : ∀ {e size m : Nat} {v : Value} {xs : List Value}, Has w6 (fun k => wr.heap.size ≤ k) e size v m xs → Has W5 (fun k => w.heap.size ≤ k) e size v m xs := fun {e size m v xs} hh =>
        hh.kept (fun k hk => ho5 k (fun e' => by have := (hh.lt k hk).1; omega)) (fun k hk => by have := (hh.lt k hk).1; omega)
      have d0 : W5.cell? ⟨w.heap.size + 1, 0, none⟩ = some (.slice p1 n1 q1) := cell_at hb5 0
      have d1 : W5.cell? ⟨w.heap.size + 1, 1, none⟩ = some (.slice p2 n2 q2) := cell_at hb5 1
      have d2 : W5.cell? ⟨w.heap.size + 1, 2, none⟩ = some (.slice p3 0 q3) := cell_at hb5 2
      have d3' : W5.cell? ⟨w.heap.size + 1, 3, none⟩ = some (.slice p4 n4 q4) := cell_at hb5 3
      rw [hW5]
      refine bodyPost_ret (v := .tuple #[runV (.slice p1 n1 q1) (.slice p2 n2 q2) (.slice p3 0 q3) (.slice p4 n4 q4), .int .i64 0]) (by simp [results, Try.results18, go_sem, d0, d1, d2, d3', runV]) rfl ?_
      exact ⟨_, _, _, _, rfl, keep hv1, keep hv2, keep hv3, keep hv4, hB5⟩
end Go.Proofs.Ytihkcbbbgmjogaa.Dm
