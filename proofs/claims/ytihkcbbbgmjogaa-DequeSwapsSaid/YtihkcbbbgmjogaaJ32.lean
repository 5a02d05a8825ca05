import Derived.Test.YtihkcbbbgmjogaaJ30
import Derived.Deep.Cut
import Derived.Test.YtihkcbbbgmjogaaJ25
import Derived.ProofKit
import Derived.OpenShut
import Derived.Deep.Slices
import Derived.SizedLaws
/-
  DequeAlone: the walk.
-/
namespace Go.Proofs.Ytihkcbbbgmjogaa.Dm
open Go.RowKit Go.Shelf Mr Me Ma Gm Dq
set_option linter.unusedVariables false
set_option linter.unusedSimpArgs false
set_option maxRecDepth 100000
theorem bq0 (w : World) (nt r : Nat) (m0 m1 m2 m3 : Int) : Bq w nt r m0 m1 m2 m3 ((w.alloc (dBox nt r)).alloc (mvO m0 m1 m2 m3)) := by
  refine ⟨(Below.heap_alloc _ _ _ (by simp)).trans (heap_alloc_new w _), ?_, ((Below.refl _ _).alloc (Nat.le_refl _) _).alloc (by simp) _⟩
  have := heap_alloc_new (w.alloc (dBox nt r)) (mvO m0 m1 m2 m3)
  rw [World.size_alloc] at this
  exact this
set_option maxHeartbeats 4000000 in
/-- No deque, or too many moves. -/
theorem alone_not (w : World) (th rm : Int) (am : Option Addr) (nm cm : Nat) (x m0 m1 m2 m3 : Int) (h : dqB th rm = false ∨ 65516 < nm) :
    Calls Try.prog 3 #[.agg #[.int .i64 th, .int .i64 rm], .slice am nm cm, .int .i64 x, .agg #[.int .i64 m0, .int .i64 m1, .int .i64 m2, .int .i64 m3]] w fun e w' => e = .returned (.bool true) ∧ Below w.heap.size w w' := by
  have FT := Mr.hid (fun w => fits_any th rm am nm cm w)
  have AW := Mr.hid (fun w => awake_any w)
  have B0 := Mr.hid (((Below.refl w.heap.size w).alloc (Nat.le_refl _) (.cells #[.int .i64 th, .int .i64 rm] 23 (0, 0))).alloc (by simp) (.cells #[.int .i64 m0, .int .i64 m1, .int .i64 m2, .int .i64 m3] 27 (0, 0)))
  have hx : (dqB th rm && decide ((nm : Int) ≤ 65536)) = false ∨ decide (65516 < (nm : Int)) = true := by
    rcases h with h | h
    · exact .inl (by rw [h]; rfl)
    · exact .inr (by simp; omega)
  clear h
  generalize (dqB th rm && decide ((nm : Int) ≤ 65536)) = cb at *
  generalize hdb : decide (65516 < (nm : Int)) = db at *
  cases cb with
  | false =>
    clear hx
    go_enter Try.func3, Try.ntmps3
    go_wp2_with (first | (go_at_call 6; refine (FT.out _).mono ?_; clear FT; rintro e w1 ⟨rfl, hB⟩; have hB1 := Mr.hid (B0.out.trans (hB.mono B0.out.size)); clear hB B0) | (go_at_call 7; refine (AW.out _).mono ?_; clear AW; rintro e w2 ⟨rfl, hB⟩; have hB2 := Mr.hid (hB1.out.trans (hB.mono hB1.out.size)); clear hB hB1))
    go_ret
    exact ⟨rfl, hB2.out⟩
  | true =>
    obtain rfl : db = true := by rcases hx with h | h; cases h; exact h
    clear hx
    go_enter Try.func3, Try.ntmps3
    go_wp2_with (first | (go_at_call 6; refine (FT.out _).mono ?_; clear FT; rintro e w1 ⟨rfl, hB⟩; have hB1 := Mr.hid (B0.out.trans (hB.mono B0.out.size)); clear hB B0) | (go_at_call 7; refine (AW.out _).mono ?_; clear AW; rintro e w2 ⟨rfl, hB⟩; have hB2 := Mr.hid (hB1.out.trans (hB.mono hB1.out.size)); clear hB hB1))
    go_ret
    exact ⟨rfl, hB2.out⟩
set_option maxHeartbeats 8000000 in
theorem alone_yes (w : World) (nt r : Nat) (hd : dqB (nt : Int) (r : Int) = true) (am : Option Addr) (nm cm : Nat) (ms : List Mv) (hm : MvAt w am nm ms) (hnm : nm ≤ 65516) (x m0 m1 m2 m3 : Int) :
    Calls Try.prog 3 #[.agg #[.int .i64 (nt : Int), .int .i64 (r : Int)], .slice am nm cm, .int .i64 x, .agg #[.int .i64 m0, .int .i64 m1, .int .i64 m2, .int .i64 m3]] w fun e w' => e = .returned (.bool true) ∧ Below w.heap.size w w' := by
  have hr : 1 ≤ nt ∧ nt ≤ 16 ∧ 1 ≤ r ∧ r ≤ 256 := by simp only [dqB, Bool.and_eq_true, decide_eq_true_eq] at hd; omega
  have FT := fun w => fits_any (nt : Int) (r : Int) am nm cm w
  have e1 : (dqB (nt : Int) (r : Int) && decide ((nm : Int) ≤ 65536)) = true := by rw [hd]; simp; omega
  rw [e1] at FT
  have d3 : decide (65516 < (nm : Int)) = false := by simp; omega
  have AW := Mr.hid (fun w => awake_any w)
  have NW := Mr.hid (fun (W : World) (h : Bq w nt r m0 m1 m2 m3 W) => newH h hr.1 hr.2.1 hr.2.2.1 hr.2.2.2)
  obtain ⟨hnml, _⟩ := id hm
  subst hnml
  have hI := Mr.hid (fun i => pl_inv (ms.take i) (p0_inv (nt := nt) hr.2.2.1 hr.2.2.2).1 (p0_inv hr.2.2.1 hr.2.2.2).2)
  have hN : (Pl r (P0 nt r) ms).n ≤ 65516 := by
    have := pl_n (r := r) ms (P0 nt r)
    have e0 : (P0 nt r).n = 0 := rfl
    omega
  have hp : (Pl r (P0 nt r) ms).pts.length = nt := (pl_pts ms _).trans (by simp [P0, Pg.new])
  obtain ⟨W0, hW0⟩ : ∃ W0, (w.alloc (dBox nt r)).alloc (mvO m0 m1 m2 m3) = W0 := ⟨_, rfl⟩
  have b0 : Bq w nt r m0 m1 m2 m3 W0 := by rw [← hW0]; exact bq0 w nt r m0 m1 m2 m3
  obtain ⟨y0, y1, y2, y3, y4, y5, yz⟩ := b0.cells
  replace b0 := Mr.hid b0
  replace FT := Mr.hid FT
  replace hN := Mr.hid hN
  replace hp := Mr.hid hp
  unfold dBox mvO at hW0
  clear hd e1 hr
  go_enter Try.func3, Try.ntmps3
  go_wp2_with (first | (go_at_call 6; refine (FT.out _).mono ?_; clear FT; rintro e w1 ⟨rfl, hB⟩; have b1 := b0.out.below (hB.mono b0.out.lt); clear hB b0 y0 y1 y2 y3 y4 y5 yz hW0; obtain ⟨y0, y1, y2, y3, y4, y5, yz⟩ := b1.cells; replace b1 := Mr.hid b1) | (go_at_call 8; refine (NW.out _ b1.out).mono ?_; clear NW; rintro e w2 ⟨bc, cs, c1, c2, km, K, q, rfl, hH, hK⟩; replace hH := Mr.hid hH; replace hK := Mr.hid hK; clear b1 y0 y1 y2 y3 y4 y5 yz) | (go_at_call 9; refine (num_any _ _).mono ?_; rintro e wn ⟨rfl, rfl⟩) | (go_at_call 7; refine (AW.out _).mono ?_; clear AW; rintro e w3 ⟨rfl, hB⟩; have hH3 := hH.out.below hB; clear hH hB; replace hH3 := Mr.hid hH3))
  generalize hP0 : P0 nt r = PP at *
  clear hP0
  go_loopg [11] ms.length (fun k s wr => ∃ (i : Nat), s = .int .i64 (i : Int) ∧ i + k = ms.length ∧ Hq w nt r bc cs c1 c2 km K q m0 m1 m2 m3 (Pl r PP (ms.take i)) wr)
  case atStart => exact ⟨0, rfl, by omega, hH3.out⟩
  case round =>
    obtain ⟨i, rfl, hi, H⟩ := hrel
    obtain ⟨hIi, hBi⟩ := hI.out i
    clear hH3
    by_cases hlt : i < ms.length
    · rcases hm.2 with h0' | ⟨bo, oo, rfl, hbo, hcc⟩
      · rw [h0'] at hlt; simp at hlt
      obtain ⟨z0, z1, z2, z3⟩ := hcc i hlt
      have hcW := fun (j : Nat) (u : Value) (hu : w.cell? ⟨bo, j, none⟩ = some u) => (H.bq.b.cell (p := ⟨bo, j, none⟩) hbo).trans hu
      have g0 := hcW _ _ z0
      have g1 := hcW _ _ z1
      have g2 := hcW _ _ z2
      have g3 := hcW _ _ z3
      have hsn := pl_snoc r PP ms i hlt
      have MV := fun (W' : World) (hB : Below wr.heap.size wr W') => (H.below hB).move hIi hBi (ms[i]?.getD noMv).th (ms[i]?.getD noMv).op (ms[i]?.getD noMv).arg (ms[i]?.getD noMv).data
      rw [← hsn] at MV
      generalize (Pl r PP (ms.take i)).move (dqY r) (ms[i]?.getD noMv).th (ms[i]?.getD noMv).op (ms[i]?.getD noMv).arg (ms[i]?.getD noMv).data = PM at *
      generalize ms[i]?.getD noMv = mm at *
      have hil : (i : Int) < (ms.length : Int) := by omega
      replace MV := Mr.hid MV
      clear hcc hcW z0 z1 z2 z3 hm hIi hBi H hsn
      go_wp2_with (go_at_call 10; refine (MV.out _ (by first | exact Below.refl _ _ | exact (Below.refl _ _).drew)).mono ?_; clear MV; rintro e w5 ⟨rfl, hO⟩; replace hO := Mr.hid hO)
      go_roundg (gk - 1)
      case measure => omega
      case rel => exact ⟨i + 1, by simp, by omega, hO.out⟩
    · obtain rfl : i = ms.length := by omega
      rw [List.take_length] at H hIi hBi
      have hN' := hN.out
      have hp' := hp.out
      clear hI hN hp hm
      generalize Pl r PP ms = P1 at *
      by_cases hth : x < 0 ∨ (nt : Int) ≤ x
      · have BS := Mr.hid (H.busy_out x (by rw [hp']; exact hth))
        have hb := Mr.hid H.bq.b
        obtain ⟨y0, y1, y2, y3, y4, y5, yz⟩ := H.bq.cells
        clear H hIi hBi
        by_cases h9 : x < 0
        · have d1 : decide (x < 0) = true := decide_eq_true h9
          go_wp2_with (go_at_call 11; refine BS.out.mono ?_; rintro e w' ⟨rfl, hw⟩; obtain rfl := hw.symm)
          go_ret
          exact ⟨rfl, hb.out⟩
        · have d1 : decide (x < 0) = false := decide_eq_false h9
          have d2 : decide ((nt : Int) ≤ x) = true := decide_eq_true (by omega)
          go_wp2_with (go_at_call 11; refine BS.out.mono ?_; rintro e w' ⟨rfl, hw⟩; obtain rfl := hw.symm)
          go_ret
          exact ⟨rfl, hb.out⟩
      · obtain ⟨i, rfl⟩ : ∃ i : Nat, x = i := ⟨x.toNat, by omega⟩
        have hin : i < P1.pts.length := by omega
        have d1 : decide ((i : Int) < 0) = false := by simp
        have d2 : decide (nt ≤ i) = false := decide_eq_false (by omega)
        have d4 : decide (i < nt) = true := decide_eq_true (by omega)
        have d5 : i < nt := by omega
        have A1 := Mr.hid (fun n (hn : n ≤ 7) => stN_all hIi hBi hin n (by omega))
        have Z1 := Mr.hid (st7 hIi hBi hin (by omega))
        obtain ⟨y0, y1, y2, y3, y4, y5, yz⟩ := H.bq.cells
        replace H := Mr.hid H
        replace hN' := Mr.hid hN'
        replace hp' := Mr.hid hp'
        replace hin := Mr.hid hin
        clear hIi hBi hth
        go_wp2
        clear y0 y1 y2 y3 y4 y5 yz
        go_loopg [12] 7 (fun k s wy => ∃ (n : Nat), s = .int .i64 (n : Int) ∧ n + k = 7 ∧ Hq w nt r bc cs c1 c2 km K q m0 m1 m2 m3 (stN r P1 i n) wy)
        case atStart => exact ⟨0, rfl, by omega, H.out⟩
        case round =>
          obtain ⟨n, rfl, hn, H2⟩ := hrel
          clear H
          by_cases hl2 : n < 7
          · obtain ⟨a1, a2, a3, a4, a5⟩ := A1.out n (by omega)
            have MV := fun (W' : World) (hB : Below _ _ W') => (H2.below hB).move a1 a2 (i : Int) 0 0 0
            have hil : (n : Int) < 7 := by omega
            have e9 := stN_succ r P1 i n
            generalize stN r P1 i n = PN at *
            rw [← e9] at MV
            generalize hPM : stN r P1 i (n + 1) = PM at *
            generalize PN.move (dqY r) (i : Int) 0 0 0 = PR at *
            replace MV := Mr.hid MV
            replace hPM := Mr.hid hPM
            clear a1 a2 a3 a4 a5 H2 e9
            go_wp2_with (go_at_call 10; refine (MV.out _ (by first | exact Below.refl _ _ | exact (Below.refl _ _).drew)).mono ?_; clear MV; rintro e w5 ⟨rfl, hO⟩; replace hO := Mr.hid hO)
            go_roundg (gk - 1)
            case measure => omega
            case rel => exact ⟨n + 1, by simp, by omega, by rw [hPM.out]; exact hO.out⟩
          · obtain rfl : n = 7 := by omega
            obtain ⟨a1, a2, a3, a4, a5⟩ := A1.out 7 (Nat.le_refl _)
            have z := Z1.out
            have hN2 := hN'.out
            have hi2 := hin.out
            clear A1 Z1
            generalize stN r P1 i 7 = P2 at *
            have BS := Mr.hid (H2.busy_in i (by omega) z)
            have i3 := a1.move (i : Int) m1 m2 m3
            have b3 := mv_bd (r := r) a2 (i : Int) m1 m2 m3
            have p3 := (Gm.move_pts (Y := dqY r) P2 (i : Int) m1 m2 m3).trans a3
            have n3 := mv_n (r := r) P2 (i : Int) m1 m2 m3
            have H3 := H2.set hK.out (i : Int)
            obtain ⟨y0, y1, y2, y3, y4, y5, yz⟩ := H2.bq.cells
            have MV := fun (W' : World) (hB : Below _ _ W') => (H3.below hB).move a1 a2 (i : Int) m1 m2 m3
            obtain ⟨v0, v1, v2, v3, v4, v5, vz⟩ := H3.bq.cells
            generalize hP3 : P2.move (dqY r) (i : Int) m1 m2 m3 = P3b at *
            obtain ⟨P3, b3b⟩ := P3b
            simp only at i3 b3 p3 n3 MV
            have A3 := Mr.hid (fun n (hn : n ≤ 7) => stN_all i3 b3 (i := i) (by omega) n (by omega))
            have Z3 := Mr.hid (st7 i3 b3 (i := i) (by omega) (by omega))
            replace p3 := Mr.hid p3
            replace MV := Mr.hid MV
            clear H2 H3 i3 b3 n3 a1 a2 a3 a4 a5 z hN2 hP3
            replace hi2 := Mr.hid hi2
            go_wp2_with (first | (go_at_call 11; refine BS.out.mono ?_; clear BS; rintro e w' ⟨rfl, hw⟩; obtain rfl := hw.symm) | (go_at_call 10; refine (MV.out _ (by first | exact Below.refl _ _ | exact (Below.refl _ _).drew)).mono ?_; clear MV; rintro e w6 ⟨rfl, H4⟩; replace H4 := Mr.hid H4; clear y0 y1 y2 y3 y4 y5 yz v0 v1 v2 v3 v4 v5 vz))
            go_loopg [13] 7 (fun k s wy => ∃ (n : Nat), s = .int .i64 (n : Int) ∧ n + k = 7 ∧ Hq w nt r bc cs c1 c2 km K q (i : Int) m1 m2 m3 (stN r P3 i n) wy)
            case atStart => exact ⟨0, rfl, by omega, H4.out⟩
            case round =>
              obtain ⟨n, rfl, hn, H2⟩ := hrel
              clear H4
              by_cases hl2 : n < 7
              · obtain ⟨a1, a2, a3, a4, a5⟩ := A3.out n (by omega)
                have MV := fun (W' : World) (hB : Below _ _ W') => (H2.below hB).move a1 a2 (i : Int) 0 0 0
                have hil : (n : Int) < 7 := by omega
                have e9 := stN_succ r P3 i n
                generalize stN r P3 i n = PN at *
                rw [← e9] at MV
                generalize hPM : stN r P3 i (n + 1) = PM at *
                generalize PN.move (dqY r) (i : Int) 0 0 0 = PR at *
                replace MV := Mr.hid MV
                replace hPM := Mr.hid hPM
                clear a1 a2 a3 a4 a5 H2 e9
                go_wp2_with (go_at_call 10; refine (MV.out _ (by first | exact Below.refl _ _ | exact (Below.refl _ _).drew)).mono ?_; clear MV; rintro e w5 ⟨rfl, hO⟩; replace hO := Mr.hid hO)
                go_roundg (gk - 1)
                case measure => omega
                case rel => exact ⟨n + 1, by simp, by omega, by rw [hPM.out]; exact hO.out⟩
              · obtain rfl : n = 7 := by omega
                obtain ⟨a1, a2, a3, a4, a5⟩ := A3.out 7 (Nat.le_refl _)
                have z := Z3.out
                have hi3 := hi2.out
                have p3' := p3.out
                clear A3 Z3
                generalize stN r P3 i 7 = P4 at *
                have BS := Mr.hid (H2.busy_in i (by omega) z)
                have hb := Mr.hid H2.bq.b
                clear H2 a1 a2 a3 a4 a5 z
                go_wp2_with (go_at_call 11; refine BS.out.mono ?_; clear BS; rintro e w' ⟨rfl, hw⟩; obtain rfl := hw.symm)
                go_ret
                exact ⟨rfl, hb.out⟩
end Go.Proofs.Ytihkcbbbgmjogaa.Dm
/-
  OPENING a row of moves that came in.
-/
namespace Go.Proofs.Ytihkcbbbgmjogaa.Ma
open Go.ChangeShapes Go.WideShapes Go.ChangeAt Go.RowKit Go.Deep
open Mr Me
theorem cells_u64 : Try.prog.cellsOf 56 = 1 := by kernel_rfl
theorem cells_i64 : Try.prog.cellsOf 3 = 1 := by kernel_rfl
theorem cells_op : Try.prog.cellsOf 25 = 1 := by kernel_rfl
theorem cells_mv : Try.prog.cellsOf 27 = 4 := by kernel_rfl
theorem cells_lm : Try.prog.cellsOf 24 = 1 := by kernel_rfl
section
variable {H : Type} {enc : TypeId × Value → H} {w : World} {base : Nat} {spare : Nat → Bool} {held : Bool}
/-- The field number t of a struct whose fields are one cell each. -/
theorem field_int {n : Nat} {ty : TypeId} {fs : Array Field} {cs : List Value} {x : DataW H × List MemPlace} (hs : Try.prog.underlying ty = some (.struct fs)) (h : DataW.trod enc Try.prog w base spare held n ty cs = some x) (t : Nat) (f : Field) (k : IntKind) (hf : fs[t]? = some f) (ho : f.offset = t) (hc : Try.prog.cellsOf f.type = 1) (hk : Try.prog.underlying f.type = some (.int k)) :
    ∃ z, cs[t]? = some (Value.int k z) := by
  obtain ⟨xs, m, _, _, hl, hxl, hx⟩ := DataW.trod_struct hs h
  have q := hx t f hf
  rw [ho, hc] at q
  have ht : t < fs.size := (Array.getElem?_eq_some_iff.1 hf).1
  rw [List.getElem?_eq_getElem (by omega)] at q
  obtain ⟨z, hz, _, _⟩ := DataW.trod_int hk q
  refine ⟨z, ?_⟩
  have : ((cs.drop t).take 1)[0]? = some (.int k z) := by rw [hz]; rfl
  rw [List.getElem?_take] at this
  simpa using this
theorem add_add (a : Addr) (i j : Nat) (v : Value) (h : w.cell? ((a.add i).add j) = some v) (ha : a.spot = none) : w.cell? ⟨a.block, a.off + i + j, none⟩ = some v := by
  obtain ⟨b, o, s⟩ := a
  simp at ha
  subst ha
  have e1 : ∀ (o i : Nat), (⟨b, o, none⟩ : Addr).add i = ⟨b, o + i, none⟩ := fun o i => by unfold Addr.add; split <;> simp_all
  rw [e1, e1] at h
  exact h
theorem spot_of {a : Addr} {i j : Nat} {v : Value} (h : w.cell? ((a.add i).add j) = some v) (ha : i = 0) (hj : j = 0) : a.spot = none := by
  subst ha; subst hj
  have := World.cell?_spot h
  simpa [Addr.add] using this
theorem open_mvs {fuel : Nat} {cs : List Value} {x : DataW H × List MemPlace} (hf : DataW.trod enc Try.prog w base spare held fuel 24 cs = some x) :
    ∃ a n cap ms, cs = [.slice a n cap] ∧ MvAt w a n ms ∧ n ≤ cap := by
  rcases open_slice Try.underlying24 hf with ⟨hc, hx⟩ | ⟨ad, n, cap, m, k, D, Pl, hc, _, hl, _, hm, hx, hel⟩
  · exact ⟨none, 0, 0, [], hc, ⟨rfl, .inl rfl⟩, Nat.le_refl _⟩
  · have hle : n ≤ m := by rw [hm]; split <;> omega
    have each : ∀ i, i < n → ∃ o : Mv, w.cell? ((ad.add (i * 4)).add 0) = some (.int .i64 o.th) ∧ w.cell? ((ad.add (i * 4)).add 1) = some (.int .i64 o.op) ∧ w.cell? ((ad.add (i * 4)).add 2) = some (.int .i64 o.arg) ∧ w.cell? ((ad.add (i * 4)).add 3) = some (.int .i64 o.data) := by
      intro i hi
      obtain ⟨cs, h1, h2⟩ := hel i (by omega)
      rw [cells_mv] at h1
      obtain ⟨_, hcl, hce⟩ := World.cells?_some h1
      obtain ⟨z0, e0⟩ := field_int Try.underlying27 h2 0 _ .i64 rfl rfl cells_i64 Try.underlying3
      obtain ⟨z1, e1⟩ := field_int Try.underlying27 h2 1 _ .i64 rfl rfl cells_op Try.underlying25
      obtain ⟨z2, e2⟩ := field_int Try.underlying27 h2 2 _ .i64 rfl rfl cells_i64 Try.underlying3
      obtain ⟨z3, e3⟩ := field_int Try.underlying27 h2 3 _ .i64 rfl rfl cells_i64 Try.underlying3
      exact ⟨⟨z0, z1, z2, z3⟩, (hce 0 (by omega)).trans e0, (hce 1 (by omega)).trans e1, (hce 2 (by omega)).trans e2, (hce 3 (by omega)).trans e3⟩
    obtain ⟨f, hf'⟩ := Classical.axiomOfChoice (fun i => (if h : i < n then (by obtain ⟨o, ho⟩ := each i h; exact ⟨o, fun _ => ho⟩) else ⟨noMv, fun h' => absurd h' h⟩ : ∃ o : Mv, i < n → w.cell? ((ad.add (i * 4)).add 0) = some (.int .i64 o.th) ∧ w.cell? ((ad.add (i * 4)).add 1) = some (.int .i64 o.op) ∧ w.cell? ((ad.add (i * 4)).add 2) = some (.int .i64 o.arg) ∧ w.cell? ((ad.add (i * 4)).add 3) = some (.int .i64 o.data)))
    have hlen : ((List.range n).map f).length = n := by simp
    refine ⟨some ad, n, cap, (List.range n).map f, hc, ⟨hlen.symm, ?_⟩, hl⟩
    by_cases hn : n = 0
    · subst hn; exact .inl rfl
    · have hsp : ad.spot = none := spot_of (hf' 0 (by omega)).1 (by omega) rfl
      refine .inr ⟨ad.block, ad.off, by obtain ⟨_, _, s⟩ := ad; simp at hsp; subst hsp; rfl, ?_, fun j hj => ?_⟩
      · have := World.block_lt_of_cell? w _ (hf' 0 (by omega)).1
        rwa [blk_add, blk_add] at this
      · rw [hlen] at hj
        obtain ⟨c0, c1, c2, c3⟩ := hf' j hj
        have eo : ((List.range n).map f)[j]?.getD noMv = f j := by simp [hj]
        rw [eo]
        exact ⟨add_add ad (j * 4) 0 _ c0 hsp, add_add ad (j * 4) 1 _ c1 hsp, add_add ad (j * 4) 2 _ c2 hsp, add_add ad (j * 4) 3 _ c3 hsp⟩
end
set_option maxRecDepth 100000 in
theorem open_mvl {H : Type} {enc : TypeId × Value → H} {w : World} {base : Nat} {spare : Nat → Bool} {held : Bool} {r : Reach} {b0 : Nat} {v : Value} {d : DataW H} {p : List MemPlace} (hv : Value.okWide Try.prog w r b0 24 v) (h : DataW.Trod enc Try.prog w base spare held 24 v d p) :
    ∃ a n cap ms, v = .slice a n cap ∧ MvAt w a n ms ∧ n ≤ cap := by
  obtain ⟨a, n, cap, rfl⟩ := okWide_slice Try.underlying24 hv
  obtain ⟨fuel, hf⟩ := h
  obtain ⟨a', n', cap', ms, hc, hm, hn⟩ := open_mvs hf
  simp [Value.cells] at hc
  obtain ⟨rfl, rfl, rfl⟩ := hc
  exact ⟨_, _, _, ms, rfl, hm, hn⟩
end Go.Proofs.Ytihkcbbbgmjogaa.Ma
