import Derived.Test.YtnapnhmmopajfaaGreatJ28
import Derived.Test.YtnapnhmmopajfaaGreatJ33
import Derived.Test.YtnapnhmmopajfaaGreatJ25
/-
  deque.Play by its contract: a script that may be.
-/
namespace Go.Proofs.YtnapnhmmopajfaaGreat.Dm
open Go.RowKit Go.Shelf Mr Me Ma Gm Dq
set_option linter.unusedVariables false
set_option linter.unusedSimpArgs false
set_option maxRecDepth 100000 in
set_option maxHeartbeats 4000000 in
theorem play_d (w : World) (nt r : Nat) (h1 : 1 ≤ nt) (h2 : nt ≤ 16) (h3 : 1 ≤ r) (h4 : r ≤ 256) (am : Option Addr) (nm cm : Nat) (ms : List Mv) (hm : MvAt w am nm ms) (hnm : nm ≤ 65536) :
    Calls Tryz.prog 4 #[.agg #[.int .i64 (nt : Int), .int .i64 (r : Int)], .slice am nm cm] w fun e w' => ∃ v1 v2 v3 v4, e = .returned (.tuple #[runV v1 v2 v3 v4, .int .i64 0]) ∧ Has w' (fun k => w.heap.size ≤ k) 61 9 v1 (Pl r (P0 nt r) ms).cls.length (clc (Pl r (P0 nt r) ms).cls) ∧ Has w' (fun k => w.heap.size ≤ k) 65 7 v2 (Pl r (P0 nt r) ms).lg.length (lgc (Pl r (P0 nt r) ms).lg) ∧ Has w' (fun k => w.heap.size ≤ k) 68 5 v3 0 [] ∧ Has w' (fun k => w.heap.size ≤ k) 63 1 v4 (Pl r (P0 nt r) ms).ws.length (wrd (Pl r (P0 nt r) ms).ws) ∧ Below w.heap.size w w' := by
  have NW := Mr.hid (fun w => newD_ok w nt r h1 h2 h3 h4)
  have d3 : decide (65536 < (nm : Int)) = false := by simp; omega
  obtain ⟨hnml, _⟩ := id hm
  subst hnml
  obtain ⟨W0, hW0⟩ : ∃ W0, (w.alloc (dBox nt r)).alloc rnO = W0 := ⟨_, rfl⟩
  have b0 : Bp w nt r W0 := by
    rw [← hW0]
    refine ⟨(Below.heap_alloc _ _ _ (by simp)).trans (heap_alloc_new w _), ?_, ((Below.refl _ _).alloc (Nat.le_refl _) _).alloc (by simp) _⟩
    have := heap_alloc_new (w.alloc (dBox nt r)) rnO
    rw [World.size_alloc] at this
    exact this
  have s0 : W0.heap.size = w.heap.size + 1 + 1 := by rw [← hW0]; simp
  have y0 : W0.cell? ⟨w.heap.size, 0, none⟩ = some (.int .i64 (nt : Int)) := cell_at b0.c 0
  have y1 : W0.cell? ⟨w.heap.size, 1, none⟩ = some (.int .i64 (r : Int)) := cell_at b0.c 1
  have hI := Mr.hid (fun i => pl_inv (ms.take i) (p0_inv (nt := nt) h3 h4).1 (p0_inv h3 h4).2)
  replace b0 := Mr.hid b0
  replace s0 := Mr.hid s0
  unfold dBox rnO at hW0
  have PE : P0 nt r = Pg.new nt (List.replicate (2 + r) 0) none := rfl
  go_enter Tryz.func4, Tryz.ntmps4
  go_wp2_with (go_at_call 8; refine (NW.out _).mono ?_; clear NW; rintro e w1 ⟨q, U, K, km, bc, cs, c1, c2, rfl, hR, hU, hK, hB1⟩; rw [← PE] at hR; rw [s0.out] at hU hB1; have b1 := b0.out.below hB1; clear y0 y1 b0 hW0 hK; replace hR := Mr.hid hR; replace hU := Mr.hid hU; replace b1 := Mr.hid b1; clear hB1)
  generalize hP0 : P0 nt r = PP at *
  replace hP0 := Mr.hid hP0
  clear PE
  go_loopg [25] ms.length (fun k s wr => ∃ (i : Nat) (U' : Nat → Prop), s = .int .i64 (i : Int) ∧ i + k = ms.length ∧ RG (dqL r bc cs c1 c2) wr U' K q km (Pl r PP (ms.take i)) ∧ (∀ k, U' k → w.heap.size + 1 + 1 ≤ k) ∧ Bp w nt r wr)
  case atStart => exact ⟨0, U, rfl, by omega, hR.out, hU.out, b1.out⟩
  case round =>
    obtain ⟨i, U', rfl, hi, hRi, hUi, hxi⟩ := hrel
    obtain ⟨hIi, hBi⟩ := hI.out i
    by_cases hlt : i < ms.length
    · rcases hm.2 with h0' | ⟨bo, oo, rfl, hbo, hcc⟩
      · rw [h0'] at hlt; simp at hlt
      obtain ⟨z0, z1, z2, z3⟩ := hcc i hlt
      have hcW := fun (j : Nat) (u : Value) (hu : w.cell? ⟨bo, j, none⟩ = some u) => (hxi.b.cell (p := ⟨bo, j, none⟩) hbo).trans hu
      have g0 := hcW _ _ z0
      have g1 := hcW _ _ z1
      have g2 := hcW _ _ z2
      have g3 := hcW _ _ z3
      have hsn := Mr.hid (pl_snoc r PP ms i hlt)
      have hsz := hxi.b.size
      have hl := hxi.lt
      have MV := fun (o : Obj) => move_g (step_d r bc cs c1 c2) (beg_d r bc cs c1 c2) (hRi.below ((Below.refl wr.heap.size wr).alloc (Nat.le_refl _) o)) hIi hBi (ms[i]?.getD noMv).th (ms[i]?.getD noMv).op (ms[i]?.getD noMv).arg (ms[i]?.getD noMv).data
      have fin := fun (o : Obj) (w3' : World) (hO : OutG (dqL r bc cs c1 c2) (wr.alloc o) U' K q km ((Pl r PP (ms.take i)).move (dqY r) (ms[i]?.getD noMv).th (ms[i]?.getD noMv).op (ms[i]?.getD noMv).arg (ms[i]?.getD noMv).data).1 w3') => (show ∃ (U'' : Nat → Prop), RG (dqL r bc cs c1 c2) w3' U'' K q km (Pl r PP (ms.take (i + 1))) ∧ (∀ k, U'' k → w.heap.size + 1 + 1 ≤ k) ∧ Bp w nt r w3' from by
        obtain ⟨U'', f1, f2, f3⟩ := OutG.next (w := w) (nt := nt) hUi (by simp; omega) hO
        have hBa := (Below.refl wr.heap.size wr).alloc (Nat.le_refl _) o
        exact ⟨U'', by rw [hsn.out]; exact f1, f2, (hxi.below (hBa.mono hl)).below f3⟩)
      generalize (Pl r PP (ms.take i)).move (dqY r) (ms[i]?.getD noMv).th (ms[i]?.getD noMv).op (ms[i]?.getD noMv).arg (ms[i]?.getD noMv).data = PM at *
      generalize ms[i]?.getD noMv = m0 at *
      replace hRi := Mr.hid hRi
      replace hUi := Mr.hid hUi
      replace hxi := Mr.hid hxi
      replace MV := Mr.hid MV
      replace fin := Mr.hid fin
      clear hcc hcW z0 z1 z2 z3 hm hIi hBi hR hU b1
      go_wp2_with (go_at_call 11; refine (MV.out _).mono ?_; clear MV; rintro e w5 ⟨rfl, hO⟩; obtain ⟨U'', r1, r2, r3⟩ := fin.out _ w5 hO; clear fin hO; replace r1 := Mr.hid r1; replace r2 := Mr.hid r2; replace r3 := Mr.hid r3)
      go_roundg (gk - 1)
      case measure => omega
      case rel => exact ⟨i + 1, U'', by simp, by omega, r1.out, r2.out, r3.out⟩
    · obtain rfl : i = ms.length := by omega
      rw [List.take_length] at hRi hIi hBi
      have RN := run_g hRi hBi
      have hbl := hxi.lt
      have fin : ∀ (w6 : World) (hB : Below wr.heap.size wr w6), Bp w nt r w6 := fun w6 hB => hxi.below (hB.mono hbl)
      replace hRi := Mr.hid hRi
      replace hxi := Mr.hid hxi
      replace RN := Mr.hid RN
      replace fin := Mr.hid fin
      clear hm hIi hBi hR hU b1
      go_wp2_with (go_at_call 14; refine RN.out.mono ?_; clear RN; rintro e w6 ⟨v1, v2, v3, v4, rfl, hv1, hv2, hv3, hv4, hB6⟩; have hx6 := fin.out w6 hB6; clear fin; obtain ⟨kc, kz⟩ := hx6.run; have kc0 := kc 0 (by decide); have kc1 := kc 1 (by decide); have kc2 := kc 2 (by decide); have kc3 := kc 3 (by decide); clear kc; obtain ⟨p1, q1, rfl, _⟩ := hv1.form; obtain ⟨p2, q2, rfl, _⟩ := hv2.form; obtain ⟨p3, q3, rfl, _⟩ := hv3.form; obtain ⟨p4, q4, rfl, _⟩ := hv4.form; replace hx6 := Mr.hid hx6; unfold runV)
      rw [hP0.out]
      generalize hn1 : (Pl r PP ms).cls.length = n1 at *
      generalize hn2 : (Pl r PP ms).lg.length = n2 at *
      generalize hn4 : (Pl r PP ms).ws.length = n4 at *
      obtain ⟨W5, hW5⟩ : ∃ W5, (((w6.setCell ⟨w.heap.size + 1, 0, none⟩ (.slice p1 n1 q1)).setCell ⟨w.heap.size + 1, 1, none⟩ (.slice p2 n2 q2)).setCell ⟨w.heap.size + 1, 2, none⟩ (.slice p3 0 q3)).setCell ⟨w.heap.size + 1, 3, none⟩ (.slice p4 n4 q4) = W5 := ⟨_, rfl⟩
      have hr6 : w6.heap[w.heap.size + 1]? = some (.cells #[.slice none 0 0, .slice none 0 0, .slice none 0 0, .slice none 0 0] 33 (0, 0)) := hx6.out.r
      have hb5 : W5.heap[w.heap.size + 1]? = some (.cells #[.slice p1 n1 q1, .slice p2 n2 q2, .slice p3 0 q3, .slice p4 n4 q4] 33 (0, 0)) := by
        rw [← hW5, setBlk (setBlk (setBlk (setBlk hr6 0 _) 1 _) 2 _) 3 _]
        rfl
      have ho5 : ∀ k, k ≠ w.heap.size + 1 → W5.heap[k]? = w6.heap[k]? := fun k hk => by
        rw [← hW5, Below.heap_setCell _ _ _ k hk, Below.heap_setCell _ _ _ k hk, Below.heap_setCell _ _ _ k hk, Below.heap_setCell _ _ _ k hk]
      have hB5 : Below w.heap.size w W5 := by
        rw [← hW5]
        exact (((hx6.out.b.setCell (p := ⟨w.heap.size + 1, 0, none⟩) (Nat.le_succ _) _).setCell (p := ⟨w.heap.size + 1, 1, none⟩) (Nat.le_succ _) _).setCell (p := ⟨w.heap.size + 1, 2, none⟩) (Nat.le_succ _) _).setCell (p := ⟨w.heap.size + 1, 3, none⟩) (Nat.le_succ _) _
      have keep : ∀ {e size m : Nat} {v : Value} {xs : List Value}, Has w6 (fun k => wr.heap.size ≤ k) e size v m xs → Has W5 (fun k => w.heap.size ≤ k) e size v m xs := fun {e size m v xs} hh =>
        hh.kept (fun k hk => ho5 k (fun e' => by have := (hh.lt k hk).1; omega)) (fun k hk => by have := (hh.lt k hk).1; omega)
      have d0 : W5.cell? ⟨w.heap.size + 1, 0, none⟩ = some (.slice p1 n1 q1) := cell_at hb5 0
      have d1 : W5.cell? ⟨w.heap.size + 1, 1, none⟩ = some (.slice p2 n2 q2) := cell_at hb5 1
      have d2 : W5.cell? ⟨w.heap.size + 1, 2, none⟩ = some (.slice p3 0 q3) := cell_at hb5 2
      have d3' : W5.cell? ⟨w.heap.size + 1, 3, none⟩ = some (.slice p4 n4 q4) := cell_at hb5 3
      rw [hW5]
      refine bodyPost_ret (v := .tuple #[runV (.slice p1 n1 q1) (.slice p2 n2 q2) (.slice p3 0 q3) (.slice p4 n4 q4), .int .i64 0]) (by simp [results, Tryz.results4, go_sem, d0, d1, d2, d3', runV]) rfl ?_
      exact ⟨_, _, _, _, rfl, keep hv1, keep hv2, keep hv3, keep hv4, hB5⟩
end Go.Proofs.YtnapnhmmopajfaaGreat.Dm
/-
  THE DOCUMENT's DEQUE: Play of a script that may be.
-/
namespace Go.Proofs.YtnapnhmmopajfaaGreat.Rd
open Go.RowKit Go.Shelf Mr Me Ma Gm Dm Dq
set_option linter.unusedVariables false
set_option linter.unusedSimpArgs false
theorem fr_below {W0 W : World} (h : Fr W0 W (fun _ => False)) : Below W0.heap.size W0 W := ⟨h.os, h.tape, h.output, h.size, fun k hk => h.block k hk (fun e => e)⟩
theorem OutR.fb {W0 W : World} {q : Rc} {s : Rs} (h : OutR W0 (fun _ => False) q s W) : Below W0.heap.size W0 W := by
  obtain ⟨_, _, _, _, _, _, h3⟩ := h
  exact fr_below h3
theorem ws_back {P : Pg Dt Lw} {s : Rs} (h : Sm P s) : s.ws.map uw = P.ws := by
  rw [h.ws, List.map_map]
  apply List.ext_getElem?
  intro j
  rw [List.getElem?_map]
  cases hj : P.ws[j]? with
  | none => rfl
  | some x => show some (uw (wrap64 x)) = some x; rw [uw_wrap (h.wu j x hj)]
/-- Told, of a machine that is at P. -/
theorem told_p {W0 W : World} {U0 : Nat → Prop} {q : Rc} {s : Rs} {P : Pg Dt Lw} (G : Gm2 W0 U0 q s W P) :
    Calls Tryz.prog 15 #[.pointer (some ⟨q.b, 0, none⟩)] W fun e w' => ∃ v1 v2 v4, e = .returned (runV v1 v2 (.slice none 0 0) v4) ∧ Has w' (fun k => W.heap.size ≤ k) 61 9 v1 P.cls.length (clc P.cls) ∧ Has w' (fun k => W.heap.size ≤ k) 65 7 v2 P.lg.length (lgc P.lg) ∧ Has w' (fun k => W.heap.size ≤ k) 63 1 v4 P.ws.length (wrd P.ws) ∧ Below W.heap.size W w' := by
  obtain ⟨_, _, _, hR, _⟩ := G.o
  have h1 : s.cls.length ≤ 100000 := by rw [G.sm.cls]; have := G.bd.cls; have := G.bd.n; omega
  have h2 : s.lg.length ≤ 100000 := by rw [G.sm.lg]; have := G.bd.lg; have := G.bd.n; omega
  refine (Told_r hR h1 h2 G.iv.r2).mono ?_
  rintro e w' ⟨v1, v2, v4, rfl, r1, r2, r4, hB⟩
  rw [G.sm.cls] at r1
  rw [G.sm.lg] at r2
  rw [ws_back G.sm, ← G.iv.len] at r4
  exact ⟨v1, v2, v4, rfl, r1, r2, r4, hB⟩
set_option maxRecDepth 100000 in
set_option maxHeartbeats 4000000 in
theorem Play_r (w : World) (nt r : Nat) (h1 : 1 ≤ nt) (h2 : nt ≤ 16) (h3 : 1 ≤ r) (h4 : r ≤ 256) (am : Option Addr) (nm cm : Nat) (ms : List Mv) (hm : MvAt w am nm ms) (hnm : nm ≤ 65536) (hwd : ∀ i : Nat, Wd (ms[i]?.getD noMv).arg) :
    Calls Tryz.prog 5 #[.agg #[.int .i64 (nt : Int), .int .i64 (r : Int)], .slice am nm cm] w fun e w' => ∃ v1 v2 v4, e = .returned (.tuple #[runV v1 v2 (.slice none 0 0) v4, .int .i64 0]) ∧ Has w' (fun k => w.heap.size ≤ k) 61 9 v1 (Pl r (P0 nt r) ms).cls.length (clc (Pl r (P0 nt r) ms).cls) ∧ Has w' (fun k => w.heap.size ≤ k) 65 7 v2 (Pl r (P0 nt r) ms).lg.length (lgc (Pl r (P0 nt r) ms).lg) ∧ Has w' (fun k => w.heap.size ≤ k) 63 1 v4 (Pl r (P0 nt r) ms).ws.length (wrd (Pl r (P0 nt r) ms).ws) ∧ Below w.heap.size w w' := by
  have hd : dqB (nt : Int) (r : Int) = true := by simp only [dqB, Bool.and_eq_true, decide_eq_true_eq]; omega
  have CK := Mr.hid (fun w => rCheck_any (nt : Int) (r : Int) w)
  rw [hd] at CK
  have NW := Mr.hid (fun w => New_r w nt r h1 h2 h3 h4)
  have d3 : decide (65536 < (nm : Int)) = false := by simp; omega
  obtain ⟨hnml, _⟩ := id hm
  subst hnml
  obtain ⟨W0, hW0⟩ : ∃ W0, (w.alloc (dBox nt r)).alloc rnO = W0 := ⟨_, rfl⟩
  have b0 : Bp w nt r W0 := by
    rw [← hW0]
    refine ⟨(Below.heap_alloc _ _ _ (by simp)).trans (heap_alloc_new w _), ?_, ((Below.refl _ _).alloc (Nat.le_refl _) _).alloc (by simp) _⟩
    have := heap_alloc_new (w.alloc (dBox nt r)) rnO
    rw [World.size_alloc] at this
    exact this
  have y0 : W0.cell? ⟨w.heap.size, 0, none⟩ = some (.int .i64 (nt : Int)) := cell_at b0.c 0
  have y1 : W0.cell? ⟨w.heap.size, 1, none⟩ = some (.int .i64 (r : Int)) := cell_at b0.c 1
  have hI := Mr.hid (fun i => pl_inv (ms.take i) (p0_inv (nt := nt) h3 h4).1 (p0_inv h3 h4).2)
  have I0 := Mr.hid (p0_inv (nt := nt) h3 h4)
  replace b0 := Mr.hid b0
  unfold dBox rnO at hW0
  unfold dV at CK
  go_enter Tryz.func5, Tryz.ntmps5
  go_wp2_with (first | (go_at_call 9; refine (CK.out _).mono ?_; clear CK; rintro e w1 ⟨rfl, hB1⟩; have b1 := b0.out.below (hB1.mono b0.out.lt); have x0 := cell_at b1.c 0; have x1 := cell_at b1.c 1; have BW := Mr.hid (fun (w5 : World) (h : Below w1.heap.size w1 w5) => b1.below (h.mono b1.lt)); have b1h := Mr.hid b1; clear y0 y1 b0 hW0 hB1 b1) | (go_at_call 10; refine (NW.out _).mono ?_; clear NW; rintro e w2 ⟨q, st, rfl, q1, q2, q3, q4, q5⟩; have b2 := b1h.out.below (q3.fb.mono b1h.out.lt); have G0 : Gm2 w1 (fun _ => False) q st w2 (P0 nt r) := ⟨q3, q5, (by rw [q4]; rfl), (by rw [q2]; exact I0.out.1), I0.out.2⟩; replace G0 := Mr.hid G0; replace b2 := Mr.hid b2; clear x0 x1 b1h q3 q4 q5 I0))
  have BX : Hid (∀ (w5 : World) (st3 : Rs) (Q : Pg Dt Lw), Gm2 w1 (fun _ => False) q st3 w5 Q → Bp w nt r w5) := Mr.hid (fun w5 st3 Q hO => BW.out w5 hO.o.fb)
  clear BW
  generalize hP0 : P0 nt r = PP at *
  replace hP0 := Mr.hid hP0
  replace hwd := Mr.hid hwd
  replace q2 := Mr.hid q2
  go_loopg [7] ms.length (fun k s' wr => ∃ (i : Nat) (st' : Rs), s' = .int .i64 (i : Int) ∧ i + k = ms.length ∧ Gm2 w1 (fun _ => False) q st' wr (Pl r PP (ms.take i)) ∧ Bp w nt r wr)
  case atStart => exact ⟨0, st, rfl, by omega, G0.out, b2.out⟩
  case round =>
    obtain ⟨i, st', rfl, hi, hG, hx⟩ := hrel
    clear G0 b2
    by_cases hlt : i < ms.length
    · rcases hm.2 with h0' | ⟨bo, oo, rfl, hbo, hcc⟩
      · rw [h0'] at hlt; simp at hlt
      obtain ⟨z0, z1, z2, z3⟩ := hcc i hlt
      have hcW := fun (j : Nat) (u : Value) (hu : w.cell? ⟨bo, j, none⟩ = some u) => (hx.b.cell (p := ⟨bo, j, none⟩) hbo).trans hu
      have g0 := hcW _ _ z0
      have g1 := hcW _ _ z1
      have g2 := hcW _ _ z2
      have g3 := hcW _ _ z3
      have hsn := Mr.hid (pl_snoc r PP ms i hlt)
      have hj1 := Mr.hid (show gk - 1 < gk by omega)
      have hj2 := Mr.hid (show i + 1 + (gk - 1) = ms.length by omega)
      have u1 : wrap64 ((i : Int) + 1) = (i : Int) + 1 := w64s _ (by omega) (by omega)
      have MV := Move_r hG (ms[i]?.getD noMv).th (ms[i]?.getD noMv).op (ms[i]?.getD noMv).arg (ms[i]?.getD noMv).data (hwd.out i)
      rw [q2.out] at MV
      have fin := Mr.hid (fun (w3 : World) (st3 : Rs) (hO : Gm2 w1 (fun _ => False) q st3 w3 ((Pl r PP (ms.take i)).move (dqY r) (ms[i]?.getD noMv).th (ms[i]?.getD noMv).op (ms[i]?.getD noMv).arg (ms[i]?.getD noMv).data).1) => (show Gm2 w1 (fun _ => False) q st3 w3 (Pl r PP (ms.take (i + 1))) from by rw [hsn.out]; exact hO))
      generalize (Pl r PP (ms.take i)).move (dqY r) (ms[i]?.getD noMv).th (ms[i]?.getD noMv).op (ms[i]?.getD noMv).arg (ms[i]?.getD noMv).data = PM at *
      generalize ms[i]?.getD noMv = m0 at *
      replace hG := Mr.hid hG
      have hxw := Mr.hid hx
      replace MV := Mr.hid MV
      clear hcc hcW z0 z1 z2 z3 hm hx hi
      go_wp2_with (go_at_call 12; refine MV.out.mono ?_; clear MV; rintro e w5 ⟨rfl, st3, hO⟩; have r1 := fin.out w5 st3 hO; clear fin; have r2 := BX.out w5 st3 _ hO; clear hO BX; replace r1 := Mr.hid r1; replace r2 := Mr.hid r2)
      go_roundg (gk - 1)
      case measure => exact hj1.out
      case rel => exact ⟨i + 1, st3, by simp, hj2.out, r1.out, r2.out⟩
    · obtain rfl : i = ms.length := by omega
      rw [List.take_length] at hG
      have TD := told_p hG
      have hbl := hx.lt
      have fin : ∀ (w6 : World) (hB : Below wr.heap.size wr w6), Bp w nt r w6 := fun w6 hB => hx.below (hB.mono hbl)
      replace hG := Mr.hid hG
      replace hx := Mr.hid hx
      replace TD := Mr.hid TD
      replace fin := Mr.hid fin
      clear hm hi
      go_wp2_with (go_at_call 15; refine TD.out.mono ?_; clear TD; rintro e w6 ⟨v1, v2, v4, rfl, hv1, hv2, hv4, hB6⟩; have hx6 := fin.out w6 hB6; clear fin; obtain ⟨kc, kz⟩ := hx6.run; have kc0 := kc 0 (by decide); have kc1 := kc 1 (by decide); have kc2 := kc 2 (by decide); have kc3 := kc 3 (by decide); clear kc; obtain ⟨p1, q1', rfl, _⟩ := hv1.form; obtain ⟨p2, q2', rfl, _⟩ := hv2.form; obtain ⟨p4, q4, rfl, _⟩ := hv4.form; replace hx6 := Mr.hid hx6; unfold runV)
      rw [hP0.out]
      generalize hn1 : (Pl r PP ms).cls.length = n1 at *
      generalize hn2 : (Pl r PP ms).lg.length = n2 at *
      generalize hn4 : (Pl r PP ms).ws.length = n4 at *
      obtain ⟨W5, hW5⟩ : ∃ W5, (((w6.setCell ⟨w.heap.size + 1, 0, none⟩ (.slice p1 n1 q1')).setCell ⟨w.heap.size + 1, 1, none⟩ (.slice p2 n2 q2')).setCell ⟨w.heap.size + 1, 2, none⟩ (.slice none 0 0)).setCell ⟨w.heap.size + 1, 3, none⟩ (.slice p4 n4 q4) = W5 := ⟨_, rfl⟩
      have hr6 : w6.heap[w.heap.size + 1]? = some (.cells #[.slice none 0 0, .slice none 0 0, .slice none 0 0, .slice none 0 0] 33 (0, 0)) := hx6.out.r
      have hb5 : W5.heap[w.heap.size + 1]? = some (.cells #[.slice p1 n1 q1', .slice p2 n2 q2', .slice none 0 0, .slice p4 n4 q4] 33 (0, 0)) := by
        rw [← hW5, setBlk (setBlk (setBlk (setBlk hr6 0 _) 1 _) 2 _) 3 _]
        rfl
      have ho5 : ∀ k, k ≠ w.heap.size + 1 → W5.heap[k]? = w6.heap[k]? := fun k hk => by
        rw [← hW5, Below.heap_setCell _ _ _ k hk, Below.heap_setCell _ _ _ k hk, Below.heap_setCell _ _ _ k hk, Below.heap_setCell _ _ _ k hk]
      have hB5 : Below w.heap.size w W5 := by
        rw [← hW5]
        exact (((hx6.out.b.setCell (p := ⟨w.heap.size + 1, 0, none⟩) (Nat.le_succ _) _).setCell (p := ⟨w.heap.size + 1, 1, none⟩) (Nat.le_succ _) _).setCell (p := ⟨w.heap.size + 1, 2, none⟩) (Nat.le_succ _) _).setCell (p := ⟨w.heap.size + 1, 3, none⟩) (Nat.le_succ _) _
      have keep : ∀ {e size m : Nat} {v : Value} {xs : List Value}, Has w6 (fun k => wr.heap.size ≤ k) e size v m xs → Has W5 (fun k => w.heap.size ≤ k) e size v m xs := fun {e size m v xs} hh =>
        hh.kept (fun k hk => ho5 k (fun e' => by have := (hh.lt k hk).1; omega)) (fun k hk => by have := (hh.lt k hk).1; omega)
      have d0 : W5.cell? ⟨w.heap.size + 1, 0, none⟩ = some (.slice p1 n1 q1') := cell_at hb5 0
      have d1 : W5.cell? ⟨w.heap.size + 1, 1, none⟩ = some (.slice p2 n2 q2') := cell_at hb5 1
      have d2 : W5.cell? ⟨w.heap.size + 1, 2, none⟩ = some (.slice none 0 0) := cell_at hb5 2
      have d3' : W5.cell? ⟨w.heap.size + 1, 3, none⟩ = some (.slice p4 n4 q4) := cell_at hb5 3
      rw [hW5]
      refine bodyPost_ret (v := .tuple #[runV (.slice p1 n1 q1') (.slice p2 n2 q2') (.slice none 0 0) (.slice p4 n4 q4), .int .i64 0]) (by simp [results, Tryz.results5, go_sem, d0, d1, d2, d3', runV]) rfl ?_
      exact ⟨_, _, _, rfl, keep hv1, keep hv2, keep hv4, hB5⟩
end Go.Proofs.YtnapnhmmopajfaaGreat.Rd
