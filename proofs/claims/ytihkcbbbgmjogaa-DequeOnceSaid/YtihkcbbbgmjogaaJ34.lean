import Derived.Test.YtihkcbbbgmjogaaJ33
import Derived.Deep.Cut
/-
  DequeOnce: the walk.
-/
namespace Go.Proofs.Ytihkcbbbgmjogaa.Dm
open Go.RowKit Go.Shelf Mr Me Ma Gm Dq
set_option linter.unusedVariables false
set_option linter.unusedSimpArgs false
set_option maxRecDepth 100000
set_option maxHeartbeats 8000000 in
theorem once_yes (w : World) (nt r : Nat) (hd : dqB (nt : Int) (r : Int) = true) (am : Option Addr) (nm cm : Nat) (ms : List Mv) (hm : MvAt w am nm ms) (hwi : ∀ m ∈ ms, Wi m.arg) (hnm : nm ≤ 65536) (hvar : Hid (65280 < nm)) :
    Calls Try.prog 4 #[.agg #[.int .i64 (nt : Int), .int .i64 (r : Int)], .slice am nm cm] w fun e w' => e = .returned (.bool true) ∧ Below w.heap.size w w' := by
  have hr : 1 ≤ nt ∧ nt ≤ 16 ∧ 1 ≤ r ∧ r ≤ 256 := by simp only [dqB, Bool.and_eq_true, decide_eq_true_eq] at hd; omega
  have FT := fun w => fits_any (nt : Int) (r : Int) am nm cm w
  have e1 : (dqB (nt : Int) (r : Int) && decide ((nm : Int) ≤ 65536)) = true := by rw [hd]; simp; omega
  rw [e1] at FT
  have AW := Mr.hid (fun w => awake_any w)
  have NW := Mr.hid (fun (W : World) (h : B1 w nt r W) => new1 h hr.1 hr.2.1 hr.2.2.1 hr.2.2.2)
  obtain ⟨hnml, _⟩ := id hm
  have hI := Mr.hid (fun i => pl_inv (ms.take i) (p0_inv (nt := nt) hr.2.2.1 hr.2.2.2).1 (p0_inv hr.2.2.1 hr.2.2.2).2)
  obtain ⟨mm, hmm⟩ : ∃ mm, mm = min nm 65280 := ⟨_, rfl⟩
  obtain ⟨B9, hON⟩ := pl_once (r := r) (ms.take mm) (p0_inv (nt := nt) hr.2.2.1 hr.2.2.2).1 (oi_new nt r) (fun m h => hwi m (List.mem_of_mem_take h))
  have hN : (Pl r (P0 nt r) (ms.take mm)).n ≤ 65280 := by
    have := pl_n (r := r) (ms.take mm) (P0 nt r)
    have e0 : (P0 nt r).n = 0 := rfl
    rw [List.length_take] at this
    omega
  have hp : (Pl r (P0 nt r) (ms.take mm)).pts.length = nt := (pl_pts _ _).trans (by simp [P0, Pg.new])
  have hrr := Mr.hid hr
  have hSA := Mr.hid (fun m (h : m ≤ nt) => stT_all (hI.out mm).1 (hI.out mm).2 hON m (by rw [hp]; exact h) (by have := hrr.out; omega))
  obtain ⟨W0, hW0⟩ : ∃ W0, w.alloc (dBox nt r) = W0 := ⟨_, rfl⟩
  have b0 : B1 w nt r W0 := by rw [← hW0]; exact b10 w nt r
  obtain ⟨y0, y1⟩ := b0.cells
  replace b0 := Mr.hid b0
  replace FT := Mr.hid FT
  have hdd := Mr.hid hd
  replace hmm := Mr.hid hmm
  replace hnml := Mr.hid hnml
  replace hN := Mr.hid hN
  replace hp := Mr.hid hp
  unfold dBox at hW0
  clear hd e1 hr hwi hON
  go_enter Try.func4, Try.ntmps4
  go_wp2_with (first | (go_at_call 6; refine (FT.out _).mono ?_; clear FT; rintro e w1 ⟨rfl, hB⟩; have b1 := b0.out.below (hB.mono b0.out.lt); clear hB b0 y0 y1 hW0; obtain ⟨y0, y1⟩ := b1.cells; replace b1 := Mr.hid b1) | (go_at_call 8; refine (NW.out _ b1.out).mono ?_; clear NW; rintro e w2 ⟨bc, cs, c1, c2, km, K, q, rfl, hH⟩; replace hH := Mr.hid hH; clear b1 y0 y1) | (go_at_call 9; refine (num_any _ _).mono ?_; rintro e wn ⟨rfl, hwn⟩; obtain rfl := hwn.symm) | (go_at_call 7; refine (AW.out _).mono ?_; clear AW; rintro e w3 ⟨rfl, hB⟩; have hH3 := hH.out.below hB; clear hH hB; replace hH3 := Mr.hid hH3))
  generalize hP0 : P0 nt r = PP at *
  clear hP0
  go_loopg [7] mm (fun k s wr => ∃ (i : Nat), s = .int .i64 (i : Int) ∧ i + k = mm ∧ H1 w nt r bc cs c1 c2 km K q (Pl r PP (ms.take i)) wr)
  case atStart => exact ⟨0, rfl, by omega, hH3.out⟩
  case round =>
    obtain ⟨i, rfl, hi, H⟩ := hrel
    obtain ⟨hIi, hBi⟩ := hI.out i
    clear hH3
    by_cases hlt : i < mm
    · have hil2 : i < nm := by have := hmm.out; omega
      have hil3 : (i : Int) < 65280 := by have := hmm.out; omega
      rcases hm.2 with h0' | ⟨bo, oo, rfl, hbo, hcc⟩
      · have h9 := hnml.out; rw [h0'] at h9; simp at h9; omega
      have hlt2 : i < ms.length := by have := hnml.out; omega
      obtain ⟨z0, z1, z2, z3⟩ := hcc i hlt2
      have hcW := fun (j : Nat) (u : Value) (hu : w.cell? ⟨bo, j, none⟩ = some u) => (H.bq.b.cell (p := ⟨bo, j, none⟩) hbo).trans hu
      have g0 := hcW _ _ z0
      have g1 := hcW _ _ z1
      have g2 := hcW _ _ z2
      have g3 := hcW _ _ z3
      have hsn := pl_snoc r PP ms i hlt2
      have MV := fun (W' : World) (hB : Below wr.heap.size wr W') => (H.below hB).move hIi hBi (ms[i]?.getD noMv).th (ms[i]?.getD noMv).op (ms[i]?.getD noMv).arg (ms[i]?.getD noMv).data
      rw [← hsn] at MV
      generalize (Pl r PP (ms.take i)).move (dqY r) (ms[i]?.getD noMv).th (ms[i]?.getD noMv).op (ms[i]?.getD noMv).arg (ms[i]?.getD noMv).data = PM at *
      generalize ms[i]?.getD noMv = mv at *
      have hil : (i : Int) < (nm : Int) := by omega
      have hil' : decide (i < nm) = true := decide_eq_true hil2
      have hil'' : decide ((i : Int) < 65280) = true := decide_eq_true hil3
      replace MV := Mr.hid MV
      have hnx := Mr.hid (And.intro hi hlt)
      clear hcc hcW z0 z1 z2 z3 hm hIi hBi H hsn hmm hi hlt hnml hlt2
      go_wp2_with (go_at_call 10; refine (MV.out _ (by first | exact Below.refl _ _ | exact (Below.refl _ _).drew)).mono ?_; clear MV; rintro e w5 ⟨rfl, hO⟩; replace hO := Mr.hid hO)
      go_roundg (gk - 1)
      case measure => have := hnx.out; omega
      case rel => exact ⟨i + 1, by simp, by have := hnx.out; omega, hO.out⟩
    · obtain rfl : i = mm := by omega
--EXIT
      have g0 : decide (i < nm) = true := decide_eq_true (by have := hmm.out; have := hvar.out; omega)
      have g0' : (i : Int) < (nm : Int) := by have := hmm.out; have := hvar.out; omega
      have g1 : ((i : Int) < 65280) = False := by have := hmm.out; have := hvar.out; simp; omega
      have g1' : decide ((i : Int) < 65280) = false := by simp only [g1]; rfl
--TIXE
      clear hI hm hlt hi hIi hBi hmm hnml
      generalize Pl r PP (List.take i ms) = P1 at *
      obtain ⟨y0, y1⟩ := H.bq.cells
      have hH := Mr.hid H
      clear H
      go_wp2
      clear y0 y1
      go_loopg [8] nt (fun k s wr => ∃ (t : Nat), s = .int .i64 (t : Int) ∧ t + k = nt ∧ H1 w nt r bc cs c1 c2 km K q (stT r P1 t) wr)
      case atStart => exact ⟨0, rfl, by omega, hH.out⟩
      case round =>
        obtain ⟨t, rfl, ht, H⟩ := hrel
        clear hH
        by_cases hlt : t < nt
        · obtain ⟨a1, a2, a3, a4, _⟩ := hSA.out t (by omega)
          obtain ⟨y0, y1⟩ := H.bq.cells
          have hlt' : (t : Int) < (nt : Int) := by omega
          have e9 : stT r P1 (t + 1) = stN r (stT r P1 t) t 8 := rfl
          have hQ := Mr.hid (fun n (hn : n ≤ 8) => stN_all (r := r) a1 a2 (i := t) (by rw [a3, hp.out]; exact hlt) n (by have := hN.out; have := hrr.out; omega))
          replace hSA := Mr.hid hSA.out
          obtain ⟨ge, hge⟩ : ∃ ge, ge = gk := ⟨_, rfl⟩
          have ht' : Hid (t + ge = nt ∧ ge = gk ∧ t < nt) := Mr.hid ⟨by omega, hge, hlt⟩
          clear hge
          generalize stT r P1 t = P2 at *
          generalize hPn : stT r P1 (t + 1) = Pn at *
          replace hPn := Mr.hid hPn
          replace e9 := Mr.hid e9
          have hH := Mr.hid H
          have tw : IntKind.i64.wrap ((t : Int) + 1) = (t : Int) + 1 := i64x _ (by omega) (by have := hrr.out; omega)
          clear H a1 a2 a3 a4 ht hlt
          go_wp2
          clear y0 y1
          go_loopg [9] 8 (fun k s wy => ∃ (n : Nat), s = .int .i64 (n : Int) ∧ n + k = 8 ∧ H1 w nt r bc cs c1 c2 km K q (stN r P2 t n) wy)
          case atStart => exact ⟨0, rfl, by omega, hH.out⟩
          case round =>
            obtain ⟨n, rfl, hn, H2⟩ := hrel
            clear hH
            by_cases hl2 : n < 8
            · obtain ⟨a1, a2, a3, a4, a5⟩ := hQ.out n (by omega)
              have MV := fun (W' : World) (hB : Below _ _ W') => (H2.below hB).move a1 a2 (t : Int) 0 0 0
              have hil : (n : Int) < 8 := by omega
              have e8 := stN_succ r P2 t n
              generalize stN r P2 t n = PN at *
              rw [← e8] at MV
              generalize hPM : stN r P2 t (n + 1) = PM at *
              generalize PN.move (dqY r) (t : Int) 0 0 0 = PR at *
              replace MV := Mr.hid MV
              replace hPM := Mr.hid hPM
              have hn' := Mr.hid (And.intro hn hl2)
              clear a1 a2 a3 a4 a5 H2 e8 hn hl2
              go_wp2_with (go_at_call 10; refine (MV.out _ (by first | exact Below.refl _ _ | exact (Below.refl _ _).drew)).mono ?_; clear MV; rintro e w5 ⟨rfl, hO⟩; replace hO := Mr.hid hO)
              go_roundg (gk - 1)
              case measure => have := hn'.out; omega
              case rel => exact ⟨n + 1, by simp, by have := hn'.out; omega, by rw [hPM.out]; exact hO.out⟩
            · obtain rfl : n = 8 := by omega
              have hH2 := Mr.hid H2
              clear H2 hn hl2
              go_wp2
              go_roundg (ge - 1)
              case measure => have := ht'.out; omega
              case rel => exact ⟨t + 1, by simp, by have := ht'.out; omega, by rw [hPn.out, e9.out]; exact hH2.out⟩
        · have htn : t = nt := by omega
          rw [htn] at H
          obtain ⟨a1, a2, a3, a4, a5, B8, a6⟩ := hSA.out nt (Nat.le_refl _)
          obtain ⟨hz, Lf, hlf, hper⟩ := once_end a1 a2 a6 hdd.out (fun j hj => a5 j (by rw [a3, hp.out] at hj; exact hj))
          have hcl : (stT r P1 nt).cls.length ≤ 65536 := by have := a2.n; have := a2.cls; omega
          have hLl : Lf.length ≤ 1000000 := by
            have h9 := lfR_leng (nt : Int) (r : Int) (stT r P1 nt).ws
            rw [hlf] at h9; exact h9
          have RN := fun (W' : World) (hB : Below wr.heap.size wr W') => (H.below hB).run a2
          have g3 : decide (t < nt) = false := decide_eq_false (by omega)
          clear a1 a2 a3 a4 a5 a6
          obtain ⟨y0, y1⟩ := H.bq.cells
          have hB1 := Mr.hid H.bq
          clear H hSA ht htn hN hp
          generalize stT r P1 nt = P3 at *
          obtain ⟨pts, gg, nn, cls, ws, lg⟩ := P3
          simp only at RN hz hlf hper hcl
          replace RN := Mr.hid RN
          replace hz := Mr.hid hz
          replace hlf := Mr.hid hlf
          replace hper := Mr.hid hper
          replace hcl := Mr.hid hcl
          replace hLl := Mr.hid hLl
          go_upto_region 18 with (go_at_call 12; refine (RN.out _ (by first | exact Below.refl _ _ | exact (Below.refl _ _).drew)).mono ?_; clear RN; rintro e w5 ⟨v1, v2, v3, v4, rfl, hv1, hv2, hv3, hv4, hB⟩; obtain ⟨p1, q1, rfl, _⟩ := hv1.form; obtain ⟨p2, q2, rfl, _⟩ := hv2.form; obtain ⟨p3, q3, rfl, _⟩ := hv3.form; obtain ⟨p4, q4, rfl, _⟩ := hv4.form; replace hv1 := Mr.hid hv1; replace hv4 := Mr.hid hv4; clear hv2 hv3; have b5 := Mr.hid (hB1.out.below (hB.mono hB1.out.lt)); replace hB := Mr.hid hB; unfold runV)
          have G : Ge w (w5.alloc (runB (.slice p1 cls.length q1) (.slice p2 lg.length q2) (.slice p3 0 q3) (.slice p4 ws.length q4))) nt r w5.heap.size p1 p2 p3 p4 cls.length q1 lg.length q2 0 q3 ws.length q4 cls ws := by
            have hal : Below w5.heap.size w5 (w5.alloc (runB (.slice p1 cls.length q1) (.slice p2 lg.length q2) (.slice p3 0 q3) (.slice p4 ws.length q4))) := (Below.refl _ _).alloc (Nat.le_refl _) _
            have hsw := hB1.out.b.size
            exact ⟨b5.out.b.trans (hal.mono b5.out.b.size), (hal.block _ (Array.getElem?_eq_some_iff.1 b5.out.c).1).trans b5.out.c, heap_alloc_new w5 _, (hv1.out.mono (fun k hk => Nat.le_trans hsw hk)).below hal, (hv4.out.mono (fun k hk => Nat.le_trans hsw hk)).below hal, rfl, rfl⟩
          unfold runB at G
          clear y0 y1
          generalize w5.alloc _ = w7 at *
          generalize w5.heap.size = B at *
          clear hv1 hv4 hB b5 hB1
          obtain ⟨y0, y1, v0, v1, v2, v3⟩ := G.cells
          replace G := Mr.hid G
          go_upto_region 23 with (first | (go_at_call 13; refine (G.out.quiet (by have := hcl.out; omega) hz.out).mono ?_; rintro e w8 ⟨rfl, hB⟩; have G8 := G.out.below hB; clear G hB y0 y1 v0 v1 v2 v3; obtain ⟨y0, y1, v0, v1, v2, v3⟩ := G8.cells; replace G8 := Mr.hid G8) | (go_at_call 14; refine (G8.out.left hlf.out).mono ?_; rintro e w9 ⟨al, kl, rfl, hL, hB⟩; have G9 := Mr.hid (G8.out.below hB); replace hL := Mr.hid hL; clear G8 hB y0 y1 v0 v1 v2 v3) | (go_at_call 9; refine (num_any _ _).mono ?_; rintro e wn ⟨rfl, hwn⟩; obtain rfl := hwn.symm))
          have hE : Has (w9.alloc (.cells #[] 3)) (fun k => w9.heap.size ≤ k) 3 1 (.slice (some ⟨w9.heap.size, 0, none⟩) 0 0) 0 [] := ⟨by simp, .inr ⟨w9.heap.size, 0, #[], rfl, Nat.le_refl _, (new_at w9 (.cells #[] 3) _ rfl : (w9.alloc (.cells #[] 3)).heap[w9.heap.size]? = _), Nat.le_refl _, by decide, by simp, by simp⟩⟩
          have BA : Below w9.heap.size w9 (w9.alloc (.cells #[] 3)) := (Below.refl _ _).alloc (Nat.le_refl _) _
          replace hE := Mr.hid hE
          replace BA := Mr.hid BA
          go_wp2_with (at_builtin; refine app_is rfl _ _ rfl w9.heap.size w9.heap.size rfl hE.out _ _ _ Lf rfl (hL.out.below BA.out) (by have := hLl.out; omega) BA.out.size ?_; intro g3 k3 w10 hh10 hB10)
          have R0 : Hid (Rl w9 Lf cls 0 (.slice (some ⟨g3, 0, none⟩) Lf.length k3) (.slice none 0 0) w10) := Mr.hid ⟨BA.out.trans hB10, by have e0 : Lf ++ outL (cls.take 0) = Lf := List.append_nil _; rw [e0]; exact hh10, Has.nil _ _ _ _, fun k _ e => by cases e⟩
          obtain ⟨ii, hii, hz0, hz1, hz2⟩ := Dq.info_i
          clear hB10 hh10 hE hL
          have v0 := ((G9.out.below R0.out.bel).cells).2.2.1
          clear hlt
          go_loopg [13, 14, 15] cls.length (fun k s13 s14 s15 wr => ∃ (i : Nat), s15 = .int .i64 (i : Int) ∧ i + k = cls.length ∧ Rl w9 Lf cls i s13 s14 wr)
          case atStart => exact ⟨0, rfl, by omega, R0.out⟩
          case round =>
            obtain ⟨i, rfl, hi, hR⟩ := hrel
            clear v0 R0
            have G := G9.out.below hR.bel
            obtain ⟨po, qo, rfl, hqo⟩ := hR.out.form
            obtain ⟨pi, qi, rfl, hqi⟩ := hR.inn.form
            by_cases hlt : i < cls.length
            · obtain ⟨x, hx⟩ : ∃ x, cls[i]? = some x := ⟨_, List.getElem?_eq_getElem hlt⟩
              obtain ⟨ga, rfl, hga, x0, x1, x2, x3, x4, x5, x6, x7, x8⟩ := G.call hx
              obtain ⟨_, _, v0, _, _, _⟩ := G.cells
              have lt0 : w.heap.size < wr.heap.size := (Array.getElem?_eq_some_iff.1 G.d).1
              have ltB : B < wr.heap.size := (Array.getElem?_eq_some_iff.1 G.rn).1
              obtain ⟨ge, hge⟩ : ∃ ge, ge = gk := ⟨_, rfl⟩
              have hib : Hid (i + ge = cls.length ∧ ge = gk ∧ i < cls.length) := Mr.hid ⟨by omega, hge, hlt⟩
              have hil : (i : Int) < (cls.length : Int) := by omega
              have hil' : decide (i < cls.length) = true := decide_eq_true hlt
              obtain ⟨a0, a1, a2, a3, a4, a5, a6, a7, a8⟩ := x
              simp only at x0 x1 x2 x3 x4 x5 x6 x7 x8
              have hal : Below wr.heap.size wr (wr.alloc (.cells #[.int .i64 a0, .int .i64 a1, .int .i64 a2, .int .i64 a3, .int .i64 a4, .int .i64 a5, .int .i64 a6, .int .i64 a7, .int .i64 a8] 53 (0, 0))) := (Below.refl _ _).alloc (Nat.le_refl _) _
              have ca := heap_alloc_new wr (.cells #[.int .i64 a0, .int .i64 a1, .int .i64 a2, .int .i64 a3, .int .i64 a4, .int .i64 a5, .int .i64 a6, .int .i64 a7, .int .i64 a8] 53 (0, 0))
              have hR1 := Mr.hid hR
              replace hal := Mr.hid hal
              replace hx := Mr.hid hx
              clear hge G hR hi hlt hqo hqi
              go_upto_region 29 with fail
              generalize wr.alloc _ = wq at *
              have c1 := cell_at ca 1
              have c2 := cell_at ca 2
              have c7 := cell_at ca 7
              have c8 := cell_at ca 8
              simp only [List.getElem?_toArray, List.getElem?_cons_zero, List.getElem?_cons_succ] at c1 c2 c7 c8
              have ltq : wr.heap.size < wq.heap.size := (Array.getElem?_eq_some_iff.1 ca).1
              have hR2 : Hid (Rl w9 Lf cls i (.slice po (Lf ++ outL (cls.take i)).length qo) (.slice pi (inL (cls.take i)).length qi) wq) := Mr.hid ⟨hR1.out.bel.trans (hal.out.mono hR1.out.bel.size), hR1.out.out.below hal.out, hR1.out.inn.below hal.out, hR1.out.dis⟩
              clear ca v0 x0 x1 x2 x3 x4 x5 x6 x7 x8 lt0 ltB hga hal
              have hnx : IntKind.i64.wrap ((i : Int) + 1) = (i : Int) + 1 := i64x _ (by omega) (by have := hib.out; have := hcl.out; omega)
              by_cases hop : a1 = 90
              · subst hop
                by_cases hak : a7 = 1
                · subst hak
                  have hne : Hid ((Value.slice pi (inL (cls.take i)).length qi).ownBlock ≠ some wr.heap.size) := Mr.hid (fun e => by have := (hR1.out.inn.lt _ e).2; omega)
                  go_upto_region 31 with (at_builtin; refine wpList_append_has _ rfl _ _ 46 rfl (fun k => w9.heap.size ≤ k) 3 ii _ 1 8 Try.underlying46 hii hz0 hz1 hz2 rfl _ _ _ rfl (hR2.out.inn.alloc _) ⟨wq.heap.size, 0, none⟩ 1 1 [.int .i64 a2] rfl rfl (newsOne _ _ (cell_at (heap_alloc_new wq _) 0)) (by intro u hu; simp at hu; subst hu; rfl) (by decide) (by unfold maxLen; have := inL_len cls i; have := hib.out; have := hcl.out; omega) (by have := inL_len cls i; have := hib.out; have := hcl.out; omega) (by have := hR2.out.bel.size; simp; omega) ?_; intro g2 cap2 w11 hh11 hgr hgg)
                  have c1w := (grown_cell (j := 1) hgr (by simp; omega) hne.out).trans ((World.cell?_of_block (a := ⟨wr.heap.size, 1, none⟩) (Below.heap_alloc wq _ _ ltq)).trans c1)
                  have hRn := Mr.hid (hR2.out.addIn hx.out (by simp [ci]) (by simp [co]) ((Below.refl _ _).alloc (Nat.le_refl _) _) rfl hh11 hgr hgg)
                  clear hh11 hgr hgg c1 c2 c7 c8 hR2 hR1
                  go_wp2
                  go_roundg (ge - 1)
                  case measure => have := hib.out; omega
                  case rel => exact ⟨i + 1, by simp, by have := hib.out; omega, by have h9 := hRn.out; rw [List.length_append] at h9; exact h9⟩
                · have e1 : (a7 == 1) = false := by simp [hak]
                  have hRn := Mr.hid (hR2.out.keep hx.out (by simp [ci, hak]) (by simp [co]) (Below.refl _ _))
                  clear hak hR2 hR1
                  go_wp2
                  go_roundg (ge - 1)
                  case measure => have := hib.out; omega
                  case rel => exact ⟨i + 1, by simp, by have := hib.out; omega, hRn.out⟩
              · have e1 : (a1 == 90) = false := by simp [hop]
                have e2 : (a1 != 90) = true := by simp [hop]
                have hop' := Mr.hid hop
                clear hop
                by_cases hak : a7 = 2
                · subst hak
                  go_wp2_with (at_builtin; refine wpList_append_has _ rfl _ _ 46 rfl (fun k => w9.heap.size ≤ k) 3 ii _ 1 8 Try.underlying46 hii hz0 hz1 hz2 rfl _ _ _ rfl (hR2.out.out.alloc _) ⟨wq.heap.size, 0, none⟩ 1 1 [.int .i64 a8] rfl rfl (newsOne _ _ (cell_at (heap_alloc_new wq _) 0)) (by intro u hu; simp at hu; subst hu; rfl) (by decide) (by unfold maxLen; have := outL_len cls i; have := hib.out; have := hcl.out; have := hLl.out; rw [List.length_append]; omega) (by have := outL_len cls i; have := hib.out; have := hcl.out; have := hLl.out; rw [List.length_append]; omega) (by have := hR2.out.bel.size; simp; omega) ?_; intro g2 cap2 w11 hh11 hgr hgg; have hRn := Mr.hid (hR2.out.addOut hx.out (by simp [ci, hop'.out]) (by simp [co, hop'.out]) ((Below.refl _ _).alloc (Nat.le_refl _) _) rfl hh11 hgr hgg); clear hh11 hgr hgg c1 c2 c7 c8 hR2 hR1)
                  go_roundg (ge - 1)
                  case measure => have := hib.out; omega
                  case rel => exact ⟨i + 1, by simp, by have := hib.out; omega, by have h9 := hRn.out; rw [List.length_append] at h9; exact h9⟩
                · have e3 : (a7 == 2) = false := by simp [hak]
                  have hRn := Mr.hid (hR2.out.keep hx.out (by simp [ci, hop'.out]) (by simp [co, hak]) (Below.refl _ _))
                  clear hak hR2 hR1
                  go_wp2
                  go_roundg (ge - 1)
                  case measure => have := hib.out; omega
                  case rel => exact ⟨i + 1, by simp, by have := hib.out; omega, hRn.out⟩
            · obtain rfl : i = cls.length := by omega
              have ho := hR.out
              have hin := hR.inn
              rw [List.take_length] at ho hin
              have hdis := hR.dis
              have hbel := Mr.hid hR.bel
              have hq0 : decide (cls.length < cls.length) = false := by simp
              have hpm : (inL cls).Perm (Lf ++ outL cls) := hper.out.trans List.perm_append_comm
              have hle := hpm.length_eq
              have hlb : (inL cls).length ≤ 65536 := by
                have h9 := inL_len cls cls.length
                rw [List.take_length] at h9
                have := hcl.out; omega
              obtain ⟨_, _, v0, _, _, _⟩ := G.cells
              clear hR G hlt hi hqo hqi
              rw [← hle] at ho
              have hsl : (Lf ++ outL (List.take cls.length cls)).length = (inL cls).length := by rw [List.take_length]; exact hle.symm
              have hsl2 : (inL (List.take cls.length cls)).length = (inL cls).length := by rw [List.take_length]
              rw [hsl, hsl2]
              rw [hsl, hsl2] at hdis
              clear hle hsl hsl2
              generalize hlo : Lf ++ outL cls = lo0 at *
              generalize hl : inL cls = l at *
              generalize hml : l.length = m at *
              replace hml := Mr.hid hml
              replace hlo := Mr.hid hlo
              replace hl := Mr.hid hl
              have hM0 : Hid (0 < m → ∃ go gi, po = some ⟨go, 0, none⟩ ∧ pi = some ⟨gi, 0, none⟩ ∧ Mq w9 l m 0 go gi qo qi lo0 wr) := Mr.hid (fun h0 => by
                obtain ⟨go, c9, e9, _⟩ := ho.there h0
                obtain ⟨gi, c8, e8, _⟩ := hin.there h0
                cases e9
                cases e8
                exact ⟨go, gi, rfl, rfl, hbel.out, ho, hin, fun e => hdis go rfl (by rw [e]; rfl), by simpa using hpm⟩)
              clear ho hin hdis hpm
              go_wp2
              have hwb := Mr.hid G9.out.bel
              clear v0
              go_loopg [17] m (fun k s wx => ∃ (i : Nat), s = .int .i64 (i : Int) ∧ i + k = m ∧ Below w9.heap.size w9 wx ∧ (i < m → ∃ go gi lo, po = some ⟨go, 0, none⟩ ∧ pi = some ⟨gi, 0, none⟩ ∧ Mq w9 l m i go gi qo qi lo wx))
              case atStart => exact ⟨0, rfl, by omega, hbel.out, fun h => by obtain ⟨go, gi, e1, e2, h3⟩ := hM0.out h; exact ⟨go, gi, _, e1, e2, h3⟩⟩
              case round =>
                obtain ⟨i, rfl, hi, hbx, hMx⟩ := hrel
                clear hM0
                by_cases hlt : i < m
                · obtain ⟨go, gi, lo, rfl, rfl, hM⟩ := hMx hlt
                  have hlen := hM.len
                  obtain ⟨x, hx⟩ : ∃ x, l[i]? = some x := ⟨_, List.getElem?_eq_getElem (by rw [hlen.2]; exact hlt)⟩
                  obtain ⟨y, hy⟩ : ∃ y, lo[i]? = some y := ⟨_, List.getElem?_eq_getElem (by rw [hlen.1]; exact hlt)⟩
                  obtain ⟨ge, hge⟩ : ∃ ge, ge = gk := ⟨_, rfl⟩
                  have hib : Hid (i + ge = m ∧ ge = gk ∧ i < m) := Mr.hid ⟨by omega, hge, hlt⟩
                  have hil : (i : Int) < (m : Int) := by omega
                  have hil' : decide (i < m) = true := decide_eq_true hlt
                  have him := hlt
                  have tw : IntKind.i64.wrap ((i : Int) + 1) = (i : Int) + 1 := i64x _ (by omega) (by omega)
                  replace hM := Mr.hid hM
                  replace hlen := Mr.hid hlen
                  replace hx := Mr.hid hx
                  replace hy := Mr.hid hy
                  clear hbx hMx hge hi hlt
                  go_wp2
                  go_loopg [18, 19] (m - i) (fun k s18 s19 wy => ∃ (kk : Nat) (a : Int), s18 = .int .i64 a ∧ s19 = .int .i64 (kk : Int) ∧ kk + k = m ∧ i ≤ kk ∧ Hid (Fd lo x i kk a) ∧ Below _ _ wy)
                  case atStart => exact ⟨i, -1, rfl, rfl, by omega, Nat.le_refl _, Mr.hid (Fd.none i), Below.refl _ _⟩
                  case round =>
                    obtain ⟨kk, a, rfl, rfl, hk, hik, hF, hBy⟩ := hrel
                    have hMy := hM.out.below hBy
                    by_cases hkl : kk < m
                    · obtain ⟨z, hz⟩ : ∃ z, lo[kk]? = some z := ⟨_, List.getElem?_eq_getElem (by rw [hlen.out.1]; exact hkl)⟩
                      have r1 := (hMy.co hz).1
                      have r2 := hMy.ci hx.out
                      have hkb : Hid (kk + gk = m ∧ kk < m) := Mr.hid ⟨hk, hkl⟩
                      have hkl' : (kk : Int) < (m : Int) := by omega
                      have hkl'' : decide (kk < m) = true := decide_eq_true hkl
                      have tk : IntKind.i64.wrap ((kk : Int) + 1) = (kk : Int) + 1 := i64x _ (by omega) (by omega)
                      have hik' := Mr.hid hik
                      have hBy' := Mr.hid hBy
                      clear hMy hk hik hBy
                      by_cases hzx : z = x
                      · subst hzx
                        have hFn := Mr.hid (Fd.hit (lo := lo) hik'.out hz)
                        clear hz hF
                        go_upto_region 42 with fail
                        go_region
                        go_wp2
                        go_roundg (gk - 1)
                        case measure => have := hkb.out; omega
                        case rel => exact ⟨kk + 1, (kk : Int), rfl, by simp, by have := hkb.out; omega, by have := hik'.out; omega, hFn, hBy'.out.trans (by first | exact Below.refl _ _ | exact (Below.refl _ _).drew)⟩
                      · have ez : (z == x) = false := by simp [hzx]
                        have hFn := Mr.hid (Fd.miss hF.out (by rw [hz]; simp [hzx]))
                        clear hz hF hzx
                        go_upto_region 42 with fail
                        go_region
                        go_wp2
                        go_roundg (gk - 1)
                        case measure => have := hkb.out; omega
                        case rel => exact ⟨kk + 1, a, rfl, by simp, by have := hkb.out; omega, by have := hik'.out; omega, hFn, hBy'.out.trans (by first | exact Below.refl _ _ | exact (Below.refl _ _).drew)⟩
                    · have hkm : kk = m := by omega
                      have hF9 := hF.out
                      rw [hkm, ← hlen.out.1] at hF9
                      obtain ⟨b, rfl, hib2, hbl, hb⟩ := hF9.end hM.out.per hx.out
                      rw [hlen.out.1] at hbl
                      have hkl'' : decide (kk < m) = false := decide_eq_false (by omega)
                      have ed : decide ((b : Int) < 0) = false := by simp
                      obtain ⟨r1, f1⟩ := hMy.co hy.out
                      obtain ⟨r2, f2⟩ := hMy.co hb
                      have hsw := Mr.hid (hMy.swap hx.out hy.out hb hib2)
                      have hbx2 := Mr.hid hMy.bel
                      have himI : (i : Int) < (m : Int) := by omega
                      have hbI : (b : Int) < (m : Int) := by omega
                      by_cases hbi : b = i
                      · have hbi3 := hbi.symm
                        subst hbi3
                        obtain rfl : x = y := by have h9 := hy.out; rw [hb] at h9; exact Option.some.inj h9
                        clear hMy hF hF9 hb hk hik hBy hkm hkl
                        go_upto_region 46 with fail
                        go_region
                        go_wp2
                        go_roundg (ge - 1)
                        case measure => have := hib.out; omega
                        case rel => exact ⟨i + 1, by simp, by have := hib.out; omega, (by have h9 := hsw.out.bel; first | exact h9 | exact h9.drew), fun _ => ⟨go, gi, _, rfl, rfl, (by have h9 := hsw.out; first | exact h9 | exact h9.below (Below.refl _ _).drew)⟩⟩
                      · have hbi2 : ¬ i = b := fun e => hbi e.symm
                        clear hMy hF hF9 hb hk hik hBy hkm hkl
                        go_upto_region 46 with fail
                        go_region
                        go_wp2
                        go_roundg (ge - 1)
                        case measure => have := hib.out; omega
                        case rel => exact ⟨i + 1, by simp, by have := hib.out; omega, (by have h9 := hsw.out.bel; first | exact h9 | exact h9.drew), fun _ => ⟨go, gi, _, rfl, rfl, (by have h9 := hsw.out; first | exact h9 | exact h9.below (Below.refl _ _).drew)⟩⟩
                · obtain rfl : i = m := by omega
                  have hq5 : decide (i < i) = false := by simp
                  have hfin := Mr.hid (hwb.out.trans (hbx.mono hwb.out.size))
                  clear hbx hMx hlt hi
                  go_wp2
                  go_ret
                  exact ⟨rfl, hfin.out⟩
end Go.Proofs.Ytihkcbbbgmjogaa.Dm
/-
  DequeOnce: the walk (made by mk_dmonce.py out of DmOnceWalk).
-/
namespace Go.Proofs.Ytihkcbbbgmjogaa.Dm
open Go.RowKit Go.Shelf Mr Me Ma Gm Dq
set_option linter.unusedVariables false
set_option linter.unusedSimpArgs false
set_option maxRecDepth 100000
set_option maxHeartbeats 8000000 in
theorem once_few (w : World) (nt r : Nat) (hd : dqB (nt : Int) (r : Int) = true) (am : Option Addr) (nm cm : Nat) (ms : List Mv) (hm : MvAt w am nm ms) (hwi : ∀ m ∈ ms, Wi m.arg) (hnm : nm ≤ 65536) (hvar : Hid (nm ≤ 65280)) :
    Calls Try.prog 4 #[.agg #[.int .i64 (nt : Int), .int .i64 (r : Int)], .slice am nm cm] w fun e w' => e = .returned (.bool true) ∧ Below w.heap.size w w' := by
  have hr : 1 ≤ nt ∧ nt ≤ 16 ∧ 1 ≤ r ∧ r ≤ 256 := by simp only [dqB, Bool.and_eq_true, decide_eq_true_eq] at hd; omega
  have FT := fun w => fits_any (nt : Int) (r : Int) am nm cm w
  have e1 : (dqB (nt : Int) (r : Int) && decide ((nm : Int) ≤ 65536)) = true := by rw [hd]; simp; omega
  rw [e1] at FT
  have AW := Mr.hid (fun w => awake_any w)
  have NW := Mr.hid (fun (W : World) (h : B1 w nt r W) => new1 h hr.1 hr.2.1 hr.2.2.1 hr.2.2.2)
  obtain ⟨hnml, _⟩ := id hm
  have hI := Mr.hid (fun i => pl_inv (ms.take i) (p0_inv (nt := nt) hr.2.2.1 hr.2.2.2).1 (p0_inv hr.2.2.1 hr.2.2.2).2)
  obtain ⟨mm, hmm⟩ : ∃ mm, mm = min nm 65280 := ⟨_, rfl⟩
  obtain ⟨B9, hON⟩ := pl_once (r := r) (ms.take mm) (p0_inv (nt := nt) hr.2.2.1 hr.2.2.2).1 (oi_new nt r) (fun m h => hwi m (List.mem_of_mem_take h))
  have hN : (Pl r (P0 nt r) (ms.take mm)).n ≤ 65280 := by
    have := pl_n (r := r) (ms.take mm) (P0 nt r)
    have e0 : (P0 nt r).n = 0 := rfl
    rw [List.length_take] at this
    omega
  have hp : (Pl r (P0 nt r) (ms.take mm)).pts.length = nt := (pl_pts _ _).trans (by simp [P0, Pg.new])
  have hrr := Mr.hid hr
  have hSA := Mr.hid (fun m (h : m ≤ nt) => stT_all (hI.out mm).1 (hI.out mm).2 hON m (by rw [hp]; exact h) (by have := hrr.out; omega))
  obtain ⟨W0, hW0⟩ : ∃ W0, w.alloc (dBox nt r) = W0 := ⟨_, rfl⟩
  have b0 : B1 w nt r W0 := by rw [← hW0]; exact b10 w nt r
  obtain ⟨y0, y1⟩ := b0.cells
  replace b0 := Mr.hid b0
  replace FT := Mr.hid FT
  have hdd := Mr.hid hd
  replace hmm := Mr.hid hmm
  replace hnml := Mr.hid hnml
  replace hN := Mr.hid hN
  replace hp := Mr.hid hp
  unfold dBox at hW0
  clear hd e1 hr hwi hON
  go_enter Try.func4, Try.ntmps4
  go_wp2_with (first | (go_at_call 6; refine (FT.out _).mono ?_; clear FT; rintro e w1 ⟨rfl, hB⟩; have b1 := b0.out.below (hB.mono b0.out.lt); clear hB b0 y0 y1 hW0; obtain ⟨y0, y1⟩ := b1.cells; replace b1 := Mr.hid b1) | (go_at_call 8; refine (NW.out _ b1.out).mono ?_; clear NW; rintro e w2 ⟨bc, cs, c1, c2, km, K, q, rfl, hH⟩; replace hH := Mr.hid hH; clear b1 y0 y1) | (go_at_call 9; refine (num_any _ _).mono ?_; rintro e wn ⟨rfl, hwn⟩; obtain rfl := hwn.symm) | (go_at_call 7; refine (AW.out _).mono ?_; clear AW; rintro e w3 ⟨rfl, hB⟩; have hH3 := hH.out.below hB; clear hH hB; replace hH3 := Mr.hid hH3))
  generalize hP0 : P0 nt r = PP at *
  clear hP0
  go_loopg [7] mm (fun k s wr => ∃ (i : Nat), s = .int .i64 (i : Int) ∧ i + k = mm ∧ H1 w nt r bc cs c1 c2 km K q (Pl r PP (ms.take i)) wr)
  case atStart => exact ⟨0, rfl, by omega, hH3.out⟩
  case round =>
    obtain ⟨i, rfl, hi, H⟩ := hrel
    obtain ⟨hIi, hBi⟩ := hI.out i
    clear hH3
    by_cases hlt : i < mm
    · have hil2 : i < nm := by have := hmm.out; omega
      have hil3 : (i : Int) < 65280 := by have := hmm.out; omega
      rcases hm.2 with h0' | ⟨bo, oo, rfl, hbo, hcc⟩
      · have h9 := hnml.out; rw [h0'] at h9; simp at h9; omega
      have hlt2 : i < ms.length := by have := hnml.out; omega
      obtain ⟨z0, z1, z2, z3⟩ := hcc i hlt2
      have hcW := fun (j : Nat) (u : Value) (hu : w.cell? ⟨bo, j, none⟩ = some u) => (H.bq.b.cell (p := ⟨bo, j, none⟩) hbo).trans hu
      have g0 := hcW _ _ z0
      have g1 := hcW _ _ z1
      have g2 := hcW _ _ z2
      have g3 := hcW _ _ z3
      have hsn := pl_snoc r PP ms i hlt2
      have MV := fun (W' : World) (hB : Below wr.heap.size wr W') => (H.below hB).move hIi hBi (ms[i]?.getD noMv).th (ms[i]?.getD noMv).op (ms[i]?.getD noMv).arg (ms[i]?.getD noMv).data
      rw [← hsn] at MV
      generalize (Pl r PP (ms.take i)).move (dqY r) (ms[i]?.getD noMv).th (ms[i]?.getD noMv).op (ms[i]?.getD noMv).arg (ms[i]?.getD noMv).data = PM at *
      generalize ms[i]?.getD noMv = mv at *
      have hil : (i : Int) < (nm : Int) := by omega
      have hil' : decide (i < nm) = true := decide_eq_true hil2
      have hil'' : decide ((i : Int) < 65280) = true := decide_eq_true hil3
      replace MV := Mr.hid MV
      have hnx := Mr.hid (And.intro hi hlt)
      clear hcc hcW z0 z1 z2 z3 hm hIi hBi H hsn hmm hi hlt hnml hlt2
      go_wp2_with (go_at_call 10; refine (MV.out _ (by first | exact Below.refl _ _ | exact (Below.refl _ _).drew)).mono ?_; clear MV; rintro e w5 ⟨rfl, hO⟩; replace hO := Mr.hid hO)
      go_roundg (gk - 1)
      case measure => have := hnx.out; omega
      case rel => exact ⟨i + 1, by simp, by have := hnx.out; omega, hO.out⟩
    · obtain rfl : i = mm := by omega
--EXIT
      have g0 : decide (i < nm) = false := decide_eq_false (by have := hmm.out; have := hvar.out; omega)
      have g0' : decide ((i : Int) < (nm : Int)) = false := decide_eq_false (by have := hmm.out; have := hvar.out; omega)
--TIXE
      clear hI hm hlt hi hIi hBi hmm hnml
      generalize Pl r PP (List.take i ms) = P1 at *
      obtain ⟨y0, y1⟩ := H.bq.cells
      have hH := Mr.hid H
      clear H
      go_wp2
      clear y0 y1
      go_loopg [8] nt (fun k s wr => ∃ (t : Nat), s = .int .i64 (t : Int) ∧ t + k = nt ∧ H1 w nt r bc cs c1 c2 km K q (stT r P1 t) wr)
      case atStart => exact ⟨0, rfl, by omega, hH.out⟩
      case round =>
        obtain ⟨t, rfl, ht, H⟩ := hrel
        clear hH
        by_cases hlt : t < nt
        · obtain ⟨a1, a2, a3, a4, _⟩ := hSA.out t (by omega)
          obtain ⟨y0, y1⟩ := H.bq.cells
          have hlt' : (t : Int) < (nt : Int) := by omega
          have e9 : stT r P1 (t + 1) = stN r (stT r P1 t) t 8 := rfl
          have hQ := Mr.hid (fun n (hn : n ≤ 8) => stN_all (r := r) a1 a2 (i := t) (by rw [a3, hp.out]; exact hlt) n (by have := hN.out; have := hrr.out; omega))
          replace hSA := Mr.hid hSA.out
          obtain ⟨ge, hge⟩ : ∃ ge, ge = gk := ⟨_, rfl⟩
          have ht' : Hid (t + ge = nt ∧ ge = gk ∧ t < nt) := Mr.hid ⟨by omega, hge, hlt⟩
          clear hge
          generalize stT r P1 t = P2 at *
          generalize hPn : stT r P1 (t + 1) = Pn at *
          replace hPn := Mr.hid hPn
          replace e9 := Mr.hid e9
          have hH := Mr.hid H
          have tw : IntKind.i64.wrap ((t : Int) + 1) = (t : Int) + 1 := i64x _ (by omega) (by have := hrr.out; omega)
          clear H a1 a2 a3 a4 ht hlt
          go_wp2
          clear y0 y1
          go_loopg [9] 8 (fun k s wy => ∃ (n : Nat), s = .int .i64 (n : Int) ∧ n + k = 8 ∧ H1 w nt r bc cs c1 c2 km K q (stN r P2 t n) wy)
          case atStart => exact ⟨0, rfl, by omega, hH.out⟩
          case round =>
            obtain ⟨n, rfl, hn, H2⟩ := hrel
            clear hH
            by_cases hl2 : n < 8
            · obtain ⟨a1, a2, a3, a4, a5⟩ := hQ.out n (by omega)
              have MV := fun (W' : World) (hB : Below _ _ W') => (H2.below hB).move a1 a2 (t : Int) 0 0 0
              have hil : (n : Int) < 8 := by omega
              have e8 := stN_succ r P2 t n
              generalize stN r P2 t n = PN at *
              rw [← e8] at MV
              generalize hPM : stN r P2 t (n + 1) = PM at *
              generalize PN.move (dqY r) (t : Int) 0 0 0 = PR at *
              replace MV := Mr.hid MV
              replace hPM := Mr.hid hPM
              have hn' := Mr.hid (And.intro hn hl2)
              clear a1 a2 a3 a4 a5 H2 e8 hn hl2
              go_wp2_with (go_at_call 10; refine (MV.out _ (by first | exact Below.refl _ _ | exact (Below.refl _ _).drew)).mono ?_; clear MV; rintro e w5 ⟨rfl, hO⟩; replace hO := Mr.hid hO)
              go_roundg (gk - 1)
              case measure => have := hn'.out; omega
              case rel => exact ⟨n + 1, by simp, by have := hn'.out; omega, by rw [hPM.out]; exact hO.out⟩
            · obtain rfl : n = 8 := by omega
              have hH2 := Mr.hid H2
              clear H2 hn hl2
              go_wp2
              go_roundg (ge - 1)
              case measure => have := ht'.out; omega
              case rel => exact ⟨t + 1, by simp, by have := ht'.out; omega, by rw [hPn.out, e9.out]; exact hH2.out⟩
        · have htn : t = nt := by omega
          rw [htn] at H
          obtain ⟨a1, a2, a3, a4, a5, B8, a6⟩ := hSA.out nt (Nat.le_refl _)
          obtain ⟨hz, Lf, hlf, hper⟩ := once_end a1 a2 a6 hdd.out (fun j hj => a5 j (by rw [a3, hp.out] at hj; exact hj))
          have hcl : (stT r P1 nt).cls.length ≤ 65536 := by have := a2.n; have := a2.cls; omega
          have hLl : Lf.length ≤ 1000000 := by
            have h9 := lfR_leng (nt : Int) (r : Int) (stT r P1 nt).ws
            rw [hlf] at h9; exact h9
          have RN := fun (W' : World) (hB : Below wr.heap.size wr W') => (H.below hB).run a2
          have g3 : decide (t < nt) = false := decide_eq_false (by omega)
          clear a1 a2 a3 a4 a5 a6
          obtain ⟨y0, y1⟩ := H.bq.cells
          have hB1 := Mr.hid H.bq
          clear H hSA ht htn hN hp
          generalize stT r P1 nt = P3 at *
          obtain ⟨pts, gg, nn, cls, ws, lg⟩ := P3
          simp only at RN hz hlf hper hcl
          replace RN := Mr.hid RN
          replace hz := Mr.hid hz
          replace hlf := Mr.hid hlf
          replace hper := Mr.hid hper
          replace hcl := Mr.hid hcl
          replace hLl := Mr.hid hLl
          go_upto_region 18 with (go_at_call 12; refine (RN.out _ (by first | exact Below.refl _ _ | exact (Below.refl _ _).drew)).mono ?_; clear RN; rintro e w5 ⟨v1, v2, v3, v4, rfl, hv1, hv2, hv3, hv4, hB⟩; obtain ⟨p1, q1, rfl, _⟩ := hv1.form; obtain ⟨p2, q2, rfl, _⟩ := hv2.form; obtain ⟨p3, q3, rfl, _⟩ := hv3.form; obtain ⟨p4, q4, rfl, _⟩ := hv4.form; replace hv1 := Mr.hid hv1; replace hv4 := Mr.hid hv4; clear hv2 hv3; have b5 := Mr.hid (hB1.out.below (hB.mono hB1.out.lt)); replace hB := Mr.hid hB; unfold runV)
          have G : Ge w (w5.alloc (runB (.slice p1 cls.length q1) (.slice p2 lg.length q2) (.slice p3 0 q3) (.slice p4 ws.length q4))) nt r w5.heap.size p1 p2 p3 p4 cls.length q1 lg.length q2 0 q3 ws.length q4 cls ws := by
            have hal : Below w5.heap.size w5 (w5.alloc (runB (.slice p1 cls.length q1) (.slice p2 lg.length q2) (.slice p3 0 q3) (.slice p4 ws.length q4))) := (Below.refl _ _).alloc (Nat.le_refl _) _
            have hsw := hB1.out.b.size
            exact ⟨b5.out.b.trans (hal.mono b5.out.b.size), (hal.block _ (Array.getElem?_eq_some_iff.1 b5.out.c).1).trans b5.out.c, heap_alloc_new w5 _, (hv1.out.mono (fun k hk => Nat.le_trans hsw hk)).below hal, (hv4.out.mono (fun k hk => Nat.le_trans hsw hk)).below hal, rfl, rfl⟩
          unfold runB at G
          clear y0 y1
          generalize w5.alloc _ = w7 at *
          generalize w5.heap.size = B at *
          clear hv1 hv4 hB b5 hB1
          obtain ⟨y0, y1, v0, v1, v2, v3⟩ := G.cells
          replace G := Mr.hid G
          go_upto_region 23 with (first | (go_at_call 13; refine (G.out.quiet (by have := hcl.out; omega) hz.out).mono ?_; rintro e w8 ⟨rfl, hB⟩; have G8 := G.out.below hB; clear G hB y0 y1 v0 v1 v2 v3; obtain ⟨y0, y1, v0, v1, v2, v3⟩ := G8.cells; replace G8 := Mr.hid G8) | (go_at_call 14; refine (G8.out.left hlf.out).mono ?_; rintro e w9 ⟨al, kl, rfl, hL, hB⟩; have G9 := Mr.hid (G8.out.below hB); replace hL := Mr.hid hL; clear G8 hB y0 y1 v0 v1 v2 v3) | (go_at_call 9; refine (num_any _ _).mono ?_; rintro e wn ⟨rfl, hwn⟩; obtain rfl := hwn.symm))
          have hE : Has (w9.alloc (.cells #[] 3)) (fun k => w9.heap.size ≤ k) 3 1 (.slice (some ⟨w9.heap.size, 0, none⟩) 0 0) 0 [] := ⟨by simp, .inr ⟨w9.heap.size, 0, #[], rfl, Nat.le_refl _, (new_at w9 (.cells #[] 3) _ rfl : (w9.alloc (.cells #[] 3)).heap[w9.heap.size]? = _), Nat.le_refl _, by decide, by simp, by simp⟩⟩
          have BA : Below w9.heap.size w9 (w9.alloc (.cells #[] 3)) := (Below.refl _ _).alloc (Nat.le_refl _) _
          replace hE := Mr.hid hE
          replace BA := Mr.hid BA
          go_wp2_with (at_builtin; refine app_is rfl _ _ rfl w9.heap.size w9.heap.size rfl hE.out _ _ _ Lf rfl (hL.out.below BA.out) (by have := hLl.out; omega) BA.out.size ?_; intro g3 k3 w10 hh10 hB10)
          have R0 : Hid (Rl w9 Lf cls 0 (.slice (some ⟨g3, 0, none⟩) Lf.length k3) (.slice none 0 0) w10) := Mr.hid ⟨BA.out.trans hB10, by have e0 : Lf ++ outL (cls.take 0) = Lf := List.append_nil _; rw [e0]; exact hh10, Has.nil _ _ _ _, fun k _ e => by cases e⟩
          obtain ⟨ii, hii, hz0, hz1, hz2⟩ := Dq.info_i
          clear hB10 hh10 hE hL
          have v0 := ((G9.out.below R0.out.bel).cells).2.2.1
          clear hlt
          go_loopg [13, 14, 15] cls.length (fun k s13 s14 s15 wr => ∃ (i : Nat), s15 = .int .i64 (i : Int) ∧ i + k = cls.length ∧ Rl w9 Lf cls i s13 s14 wr)
          case atStart => exact ⟨0, rfl, by omega, R0.out⟩
          case round =>
            obtain ⟨i, rfl, hi, hR⟩ := hrel
            clear v0 R0
            have G := G9.out.below hR.bel
            obtain ⟨po, qo, rfl, hqo⟩ := hR.out.form
            obtain ⟨pi, qi, rfl, hqi⟩ := hR.inn.form
            by_cases hlt : i < cls.length
            · obtain ⟨x, hx⟩ : ∃ x, cls[i]? = some x := ⟨_, List.getElem?_eq_getElem hlt⟩
              obtain ⟨ga, rfl, hga, x0, x1, x2, x3, x4, x5, x6, x7, x8⟩ := G.call hx
              obtain ⟨_, _, v0, _, _, _⟩ := G.cells
              have lt0 : w.heap.size < wr.heap.size := (Array.getElem?_eq_some_iff.1 G.d).1
              have ltB : B < wr.heap.size := (Array.getElem?_eq_some_iff.1 G.rn).1
              obtain ⟨ge, hge⟩ : ∃ ge, ge = gk := ⟨_, rfl⟩
              have hib : Hid (i + ge = cls.length ∧ ge = gk ∧ i < cls.length) := Mr.hid ⟨by omega, hge, hlt⟩
              have hil : (i : Int) < (cls.length : Int) := by omega
              have hil' : decide (i < cls.length) = true := decide_eq_true hlt
              obtain ⟨a0, a1, a2, a3, a4, a5, a6, a7, a8⟩ := x
              simp only at x0 x1 x2 x3 x4 x5 x6 x7 x8
              have hal : Below wr.heap.size wr (wr.alloc (.cells #[.int .i64 a0, .int .i64 a1, .int .i64 a2, .int .i64 a3, .int .i64 a4, .int .i64 a5, .int .i64 a6, .int .i64 a7, .int .i64 a8] 53 (0, 0))) := (Below.refl _ _).alloc (Nat.le_refl _) _
              have ca := heap_alloc_new wr (.cells #[.int .i64 a0, .int .i64 a1, .int .i64 a2, .int .i64 a3, .int .i64 a4, .int .i64 a5, .int .i64 a6, .int .i64 a7, .int .i64 a8] 53 (0, 0))
              have hR1 := Mr.hid hR
              replace hal := Mr.hid hal
              replace hx := Mr.hid hx
              clear hge G hR hi hlt hqo hqi
              go_upto_region 29 with fail
              generalize wr.alloc _ = wq at *
              have c1 := cell_at ca 1
              have c2 := cell_at ca 2
              have c7 := cell_at ca 7
              have c8 := cell_at ca 8
              simp only [List.getElem?_toArray, List.getElem?_cons_zero, List.getElem?_cons_succ] at c1 c2 c7 c8
              have ltq : wr.heap.size < wq.heap.size := (Array.getElem?_eq_some_iff.1 ca).1
              have hR2 : Hid (Rl w9 Lf cls i (.slice po (Lf ++ outL (cls.take i)).length qo) (.slice pi (inL (cls.take i)).length qi) wq) := Mr.hid ⟨hR1.out.bel.trans (hal.out.mono hR1.out.bel.size), hR1.out.out.below hal.out, hR1.out.inn.below hal.out, hR1.out.dis⟩
              clear ca v0 x0 x1 x2 x3 x4 x5 x6 x7 x8 lt0 ltB hga hal
              have hnx : IntKind.i64.wrap ((i : Int) + 1) = (i : Int) + 1 := i64x _ (by omega) (by have := hib.out; have := hcl.out; omega)
              by_cases hop : a1 = 90
              · subst hop
                by_cases hak : a7 = 1
                · subst hak
                  have hne : Hid ((Value.slice pi (inL (cls.take i)).length qi).ownBlock ≠ some wr.heap.size) := Mr.hid (fun e => by have := (hR1.out.inn.lt _ e).2; omega)
                  go_upto_region 31 with (at_builtin; refine wpList_append_has _ rfl _ _ 46 rfl (fun k => w9.heap.size ≤ k) 3 ii _ 1 8 Try.underlying46 hii hz0 hz1 hz2 rfl _ _ _ rfl (hR2.out.inn.alloc _) ⟨wq.heap.size, 0, none⟩ 1 1 [.int .i64 a2] rfl rfl (newsOne _ _ (cell_at (heap_alloc_new wq _) 0)) (by intro u hu; simp at hu; subst hu; rfl) (by decide) (by unfold maxLen; have := inL_len cls i; have := hib.out; have := hcl.out; omega) (by have := inL_len cls i; have := hib.out; have := hcl.out; omega) (by have := hR2.out.bel.size; simp; omega) ?_; intro g2 cap2 w11 hh11 hgr hgg)
                  have c1w := (grown_cell (j := 1) hgr (by simp; omega) hne.out).trans ((World.cell?_of_block (a := ⟨wr.heap.size, 1, none⟩) (Below.heap_alloc wq _ _ ltq)).trans c1)
                  have hRn := Mr.hid (hR2.out.addIn hx.out (by simp [ci]) (by simp [co]) ((Below.refl _ _).alloc (Nat.le_refl _) _) rfl hh11 hgr hgg)
                  clear hh11 hgr hgg c1 c2 c7 c8 hR2 hR1
                  go_wp2
                  go_roundg (ge - 1)
                  case measure => have := hib.out; omega
                  case rel => exact ⟨i + 1, by simp, by have := hib.out; omega, by have h9 := hRn.out; rw [List.length_append] at h9; exact h9⟩
                · have e1 : (a7 == 1) = false := by simp [hak]
                  have hRn := Mr.hid (hR2.out.keep hx.out (by simp [ci, hak]) (by simp [co]) (Below.refl _ _))
                  clear hak hR2 hR1
                  go_wp2
                  go_roundg (ge - 1)
                  case measure => have := hib.out; omega
                  case rel => exact ⟨i + 1, by simp, by have := hib.out; omega, hRn.out⟩
              · have e1 : (a1 == 90) = false := by simp [hop]
                have e2 : (a1 != 90) = true := by simp [hop]
                have hop' := Mr.hid hop
                clear hop
                by_cases hak : a7 = 2
                · subst hak
                  go_wp2_with (at_builtin; refine wpList_append_has _ rfl _ _ 46 rfl (fun k => w9.heap.size ≤ k) 3 ii _ 1 8 Try.underlying46 hii hz0 hz1 hz2 rfl _ _ _ rfl (hR2.out.out.alloc _) ⟨wq.heap.size, 0, none⟩ 1 1 [.int .i64 a8] rfl rfl (newsOne _ _ (cell_at (heap_alloc_new wq _) 0)) (by intro u hu; simp at hu; subst hu; rfl) (by decide) (by unfold maxLen; have := outL_len cls i; have := hib.out; have := hcl.out; have := hLl.out; rw [List.length_append]; omega) (by have := outL_len cls i; have := hib.out; have := hcl.out; have := hLl.out; rw [List.length_append]; omega) (by have := hR2.out.bel.size; simp; omega) ?_; intro g2 cap2 w11 hh11 hgr hgg; have hRn := Mr.hid (hR2.out.addOut hx.out (by simp [ci, hop'.out]) (by simp [co, hop'.out]) ((Below.refl _ _).alloc (Nat.le_refl _) _) rfl hh11 hgr hgg); clear hh11 hgr hgg c1 c2 c7 c8 hR2 hR1)
                  go_roundg (ge - 1)
                  case measure => have := hib.out; omega
                  case rel => exact ⟨i + 1, by simp, by have := hib.out; omega, by have h9 := hRn.out; rw [List.length_append] at h9; exact h9⟩
                · have e3 : (a7 == 2) = false := by simp [hak]
                  have hRn := Mr.hid (hR2.out.keep hx.out (by simp [ci, hop'.out]) (by simp [co, hak]) (Below.refl _ _))
                  clear hak hR2 hR1
                  go_wp2
                  go_roundg (ge - 1)
                  case measure => have := hib.out; omega
                  case rel => exact ⟨i + 1, by simp, by have := hib.out; omega, hRn.out⟩
            · obtain rfl : i = cls.length := by omega
              have ho := hR.out
              have hin := hR.inn
              rw [List.take_length] at ho hin
              have hdis := hR.dis
              have hbel := Mr.hid hR.bel
              have hq0 : decide (cls.length < cls.length) = false := by simp
              have hpm : (inL cls).Perm (Lf ++ outL cls) := hper.out.trans List.perm_append_comm
              have hle := hpm.length_eq
              have hlb : (inL cls).length ≤ 65536 := by
                have h9 := inL_len cls cls.length
                rw [List.take_length] at h9
                have := hcl.out; omega
              obtain ⟨_, _, v0, _, _, _⟩ := G.cells
              clear hR G hlt hi hqo hqi
              rw [← hle] at ho
              have hsl : (Lf ++ outL (List.take cls.length cls)).length = (inL cls).length := by rw [List.take_length]; exact hle.symm
              have hsl2 : (inL (List.take cls.length cls)).length = (inL cls).length := by rw [List.take_length]
              rw [hsl, hsl2]
              rw [hsl, hsl2] at hdis
              clear hle hsl hsl2
              generalize hlo : Lf ++ outL cls = lo0 at *
              generalize hl : inL cls = l at *
              generalize hml : l.length = m at *
              replace hml := Mr.hid hml
              replace hlo := Mr.hid hlo
              replace hl := Mr.hid hl
              have hM0 : Hid (0 < m → ∃ go gi, po = some ⟨go, 0, none⟩ ∧ pi = some ⟨gi, 0, none⟩ ∧ Mq w9 l m 0 go gi qo qi lo0 wr) := Mr.hid (fun h0 => by
                obtain ⟨go, c9, e9, _⟩ := ho.there h0
                obtain ⟨gi, c8, e8, _⟩ := hin.there h0
                cases e9
                cases e8
                exact ⟨go, gi, rfl, rfl, hbel.out, ho, hin, fun e => hdis go rfl (by rw [e]; rfl), by simpa using hpm⟩)
              clear ho hin hdis hpm
              go_wp2
              have hwb := Mr.hid G9.out.bel
              clear v0
              go_loopg [17] m (fun k s wx => ∃ (i : Nat), s = .int .i64 (i : Int) ∧ i + k = m ∧ Below w9.heap.size w9 wx ∧ (i < m → ∃ go gi lo, po = some ⟨go, 0, none⟩ ∧ pi = some ⟨gi, 0, none⟩ ∧ Mq w9 l m i go gi qo qi lo wx))
              case atStart => exact ⟨0, rfl, by omega, hbel.out, fun h => by obtain ⟨go, gi, e1, e2, h3⟩ := hM0.out h; exact ⟨go, gi, _, e1, e2, h3⟩⟩
              case round =>
                obtain ⟨i, rfl, hi, hbx, hMx⟩ := hrel
                clear hM0
                by_cases hlt : i < m
                · obtain ⟨go, gi, lo, rfl, rfl, hM⟩ := hMx hlt
                  have hlen := hM.len
                  obtain ⟨x, hx⟩ : ∃ x, l[i]? = some x := ⟨_, List.getElem?_eq_getElem (by rw [hlen.2]; exact hlt)⟩
                  obtain ⟨y, hy⟩ : ∃ y, lo[i]? = some y := ⟨_, List.getElem?_eq_getElem (by rw [hlen.1]; exact hlt)⟩
                  obtain ⟨ge, hge⟩ : ∃ ge, ge = gk := ⟨_, rfl⟩
                  have hib : Hid (i + ge = m ∧ ge = gk ∧ i < m) := Mr.hid ⟨by omega, hge, hlt⟩
                  have hil : (i : Int) < (m : Int) := by omega
                  have hil' : decide (i < m) = true := decide_eq_true hlt
                  have him := hlt
                  have tw : IntKind.i64.wrap ((i : Int) + 1) = (i : Int) + 1 := i64x _ (by omega) (by omega)
                  replace hM := Mr.hid hM
                  replace hlen := Mr.hid hlen
                  replace hx := Mr.hid hx
                  replace hy := Mr.hid hy
                  clear hbx hMx hge hi hlt
                  go_wp2
                  go_loopg [18, 19] (m - i) (fun k s18 s19 wy => ∃ (kk : Nat) (a : Int), s18 = .int .i64 a ∧ s19 = .int .i64 (kk : Int) ∧ kk + k = m ∧ i ≤ kk ∧ Hid (Fd lo x i kk a) ∧ Below _ _ wy)
                  case atStart => exact ⟨i, -1, rfl, rfl, by omega, Nat.le_refl _, Mr.hid (Fd.none i), Below.refl _ _⟩
                  case round =>
                    obtain ⟨kk, a, rfl, rfl, hk, hik, hF, hBy⟩ := hrel
                    have hMy := hM.out.below hBy
                    by_cases hkl : kk < m
                    · obtain ⟨z, hz⟩ : ∃ z, lo[kk]? = some z := ⟨_, List.getElem?_eq_getElem (by rw [hlen.out.1]; exact hkl)⟩
                      have r1 := (hMy.co hz).1
                      have r2 := hMy.ci hx.out
                      have hkb : Hid (kk + gk = m ∧ kk < m) := Mr.hid ⟨hk, hkl⟩
                      have hkl' : (kk : Int) < (m : Int) := by omega
                      have hkl'' : decide (kk < m) = true := decide_eq_true hkl
                      have tk : IntKind.i64.wrap ((kk : Int) + 1) = (kk : Int) + 1 := i64x _ (by omega) (by omega)
                      have hik' := Mr.hid hik
                      have hBy' := Mr.hid hBy
                      clear hMy hk hik hBy
                      by_cases hzx : z = x
                      · subst hzx
                        have hFn := Mr.hid (Fd.hit (lo := lo) hik'.out hz)
                        clear hz hF
                        go_upto_region 42 with fail
                        go_region
                        go_wp2
                        go_roundg (gk - 1)
                        case measure => have := hkb.out; omega
                        case rel => exact ⟨kk + 1, (kk : Int), rfl, by simp, by have := hkb.out; omega, by have := hik'.out; omega, hFn, hBy'.out.trans (by first | exact Below.refl _ _ | exact (Below.refl _ _).drew)⟩
                      · have ez : (z == x) = false := by simp [hzx]
                        have hFn := Mr.hid (Fd.miss hF.out (by rw [hz]; simp [hzx]))
                        clear hz hF hzx
                        go_upto_region 42 with fail
                        go_region
                        go_wp2
                        go_roundg (gk - 1)
                        case measure => have := hkb.out; omega
                        case rel => exact ⟨kk + 1, a, rfl, by simp, by have := hkb.out; omega, by have := hik'.out; omega, hFn, hBy'.out.trans (by first | exact Below.refl _ _ | exact (Below.refl _ _).drew)⟩
                    · have hkm : kk = m := by omega
                      have hF9 := hF.out
                      rw [hkm, ← hlen.out.1] at hF9
                      obtain ⟨b, rfl, hib2, hbl, hb⟩ := hF9.end hM.out.per hx.out
                      rw [hlen.out.1] at hbl
                      have hkl'' : decide (kk < m) = false := decide_eq_false (by omega)
                      have ed : decide ((b : Int) < 0) = false := by simp
                      obtain ⟨r1, f1⟩ := hMy.co hy.out
                      obtain ⟨r2, f2⟩ := hMy.co hb
                      have hsw := Mr.hid (hMy.swap hx.out hy.out hb hib2)
                      have hbx2 := Mr.hid hMy.bel
                      have himI : (i : Int) < (m : Int) := by omega
                      have hbI : (b : Int) < (m : Int) := by omega
                      by_cases hbi : b = i
                      · have hbi3 := hbi.symm
                        subst hbi3
                        obtain rfl : x = y := by have h9 := hy.out; rw [hb] at h9; exact Option.some.inj h9
                        clear hMy hF hF9 hb hk hik hBy hkm hkl
                        go_upto_region 46 with fail
                        go_region
                        go_wp2
                        go_roundg (ge - 1)
                        case measure => have := hib.out; omega
                        case rel => exact ⟨i + 1, by simp, by have := hib.out; omega, (by have h9 := hsw.out.bel; first | exact h9 | exact h9.drew), fun _ => ⟨go, gi, _, rfl, rfl, (by have h9 := hsw.out; first | exact h9 | exact h9.below (Below.refl _ _).drew)⟩⟩
                      · have hbi2 : ¬ i = b := fun e => hbi e.symm
                        clear hMy hF hF9 hb hk hik hBy hkm hkl
                        go_upto_region 46 with fail
                        go_region
                        go_wp2
                        go_roundg (ge - 1)
                        case measure => have := hib.out; omega
                        case rel => exact ⟨i + 1, by simp, by have := hib.out; omega, (by have h9 := hsw.out.bel; first | exact h9 | exact h9.drew), fun _ => ⟨go, gi, _, rfl, rfl, (by have h9 := hsw.out; first | exact h9 | exact h9.below (Below.refl _ _).drew)⟩⟩
                · obtain rfl : i = m := by omega
                  have hq5 : decide (i < i) = false := by simp
                  have hfin := Mr.hid (hwb.out.trans (hbx.mono hwb.out.size))
                  clear hbx hMx hlt hi
                  go_wp2
                  go_ret
                  exact ⟨rfl, hfin.out⟩
end Go.Proofs.Ytihkcbbbgmjogaa.Dm
