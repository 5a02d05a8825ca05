import Derived.Test.YtglppcoohojmpaaJ29
/-
  THE DOCUMENT's comparisons: equal lists.
-/
namespace Go.Proofs.Ytglppcoohojmpaa.Rf
open Go.RowKit Mr Me Ma
set_option maxRecDepth 100000 in
set_option maxHeartbeats 4000000 in
theorem sameW {w : World} {S T : Nat → Prop} {u v : Value} {ws : List Int} (hu : Has w S 59 1 u ws.length (wrd ws)) (hv : Has w T 59 1 v ws.length (wrd ws)) (hsm : ws.length ≤ 1000000) :
    Calls Try.prog 19 #[u, v] w fun e w' => e = .returned (.bool true) ∧ Below w.heap.size w w' := by
  obtain ⟨au, cu, rfl, hcu⟩ := hu.form
  obtain ⟨av, cv, rfl, hcv⟩ := hv.form
  go_enter Try.func19, Try.ntmps19
  go_wp2
  go_loopg [5] ws.length (fun k s wr => ∃ i : Nat, s = .int .i64 (i : Int) ∧ i + k = ws.length ∧ Below w.heap.size w wr)
  case atStart => exact ⟨0, rfl, by omega, Below.refl _ _⟩
  case round =>
    obtain ⟨i, rfl, hi, B⟩ := hrel
    by_cases hlt : i < ws.length
    · obtain ⟨gu, cu', hgu, _, hul, _⟩ := hu.there (by omega)
      obtain ⟨gv, cv', hgv, _, hvl, _⟩ := hv.there (by omega)
      cases hgu
      cases hgv
      have c1 := (B.cell (p := ⟨gu, i, none⟩) hul).trans (hu.cells (g := gu) rfl i _ (wrd_get ws i hlt))
      have c2 := (B.cell (p := ⟨gv, i, none⟩) hvl).trans (hv.cells (g := gv) rfl i _ (wrd_get ws i hlt))
      generalize hy : ws[i]?.getD 0 = y at *
      clear hy
      replace hu := Mr.hid hu
      replace hv := Mr.hid hv
      generalize ws.length = n at *
      have hB := Mr.hid B
      go_wp2
      go_region
      all_goals go_wp2
      all_goals go_roundg (gk - 1)
      case measure => omega
      case rel => exact ⟨i + 1, by simp, by omega, B.drew⟩
    · have hle : ws.length ≤ i := by omega
      go_wp2
      go_ret
      exact ⟨rfl, B⟩
end Go.Proofs.Ytglppcoohojmpaa.Rf
/-
  THE DOCUMENT's comparisons: equal lists.
-/
namespace Go.Proofs.Ytglppcoohojmpaa.Rf
open Go.RowKit Mr Me Ma
set_option maxRecDepth 100000 in
set_option maxHeartbeats 4000000 in
theorem sameC {w : World} {S T : Nat → Prop} {u v : Value} {ws : List Cl} (hu : Has w S 78 9 u ws.length (clc ws)) (hv : Has w T 78 9 v ws.length (clc ws)) (hsm : ws.length ≤ 1000000) :
    Calls Try.prog 41 #[u, v] w fun e w' => e = .returned (.bool true) ∧ Below w.heap.size w w' := by
  obtain ⟨au, cu, rfl, hcu⟩ := hu.form
  obtain ⟨av, cv, rfl, hcv⟩ := hv.form
  go_enter Try.func41, Try.ntmps41
  go_wp2
  go_loopg [5] ws.length (fun k s wr => ∃ i : Nat, s = .int .i64 (i : Int) ∧ i + k = ws.length ∧ Below w.heap.size w wr)
  case atStart => exact ⟨0, rfl, by omega, Below.refl _ _⟩
  case round =>
    obtain ⟨i, rfl, hi, B⟩ := hrel
    by_cases hlt : i < ws.length
    · obtain ⟨gu, cu', hgu, _, hul, _⟩ := hu.there (by omega)
      obtain ⟨gv, cv', hgv, _, hvl, _⟩ := hv.there (by omega)
      cases hgu
      cases hgv
      obtain ⟨x, hx⟩ : ∃ x, ws[i]? = some x := ⟨_, List.getElem?_eq_getElem hlt⟩
      have b0 : (clc ws)[i * 9 + 0]? = some (.int .i64 x.th) := flat_get cl_len ws i 0 x hx (by decide)
      have c0 := (B.cell (p := ⟨gu, i * 9 + 0, none⟩) hul).trans (hu.cells (g := gu) rfl _ _ b0)
      have e0 := (B.cell (p := ⟨gv, i * 9 + 0, none⟩) hvl).trans (hv.cells (g := gv) rfl _ _ b0)
      clear b0
      have b1 : (clc ws)[i * 9 + 1]? = some (.int .i64 x.op) := flat_get cl_len ws i 1 x hx (by decide)
      have c1 := (B.cell (p := ⟨gu, i * 9 + 1, none⟩) hul).trans (hu.cells (g := gu) rfl _ _ b1)
      have e1 := (B.cell (p := ⟨gv, i * 9 + 1, none⟩) hvl).trans (hv.cells (g := gv) rfl _ _ b1)
      clear b1
      have b2 : (clc ws)[i * 9 + 2]? = some (.int .i64 x.arg) := flat_get cl_len ws i 2 x hx (by decide)
      have c2 := (B.cell (p := ⟨gu, i * 9 + 2, none⟩) hul).trans (hu.cells (g := gu) rfl _ _ b2)
      have e2 := (B.cell (p := ⟨gv, i * 9 + 2, none⟩) hvl).trans (hv.cells (g := gv) rfl _ _ b2)
      clear b2
      have b3 : (clc ws)[i * 9 + 3]? = some (.int .i64 x.data) := flat_get cl_len ws i 3 x hx (by decide)
      have c3 := (B.cell (p := ⟨gu, i * 9 + 3, none⟩) hul).trans (hu.cells (g := gu) rfl _ _ b3)
      have e3 := (B.cell (p := ⟨gv, i * 9 + 3, none⟩) hvl).trans (hv.cells (g := gv) rfl _ _ b3)
      clear b3
      have b4 : (clc ws)[i * 9 + 4]? = some (.int .i64 x.beg) := flat_get cl_len ws i 4 x hx (by decide)
      have c4 := (B.cell (p := ⟨gu, i * 9 + 4, none⟩) hul).trans (hu.cells (g := gu) rfl _ _ b4)
      have e4 := (B.cell (p := ⟨gv, i * 9 + 4, none⟩) hvl).trans (hv.cells (g := gv) rfl _ _ b4)
      clear b4
      have b5 : (clc ws)[i * 9 + 5]? = some (.int .i64 x.fin) := flat_get cl_len ws i 5 x hx (by decide)
      have c5 := (B.cell (p := ⟨gu, i * 9 + 5, none⟩) hul).trans (hu.cells (g := gu) rfl _ _ b5)
      have e5 := (B.cell (p := ⟨gv, i * 9 + 5, none⟩) hvl).trans (hv.cells (g := gv) rfl _ _ b5)
      clear b5
      have b6 : (clc ws)[i * 9 + 6]? = some (.int .i64 x.pt) := flat_get cl_len ws i 6 x hx (by decide)
      have c6 := (B.cell (p := ⟨gu, i * 9 + 6, none⟩) hul).trans (hu.cells (g := gu) rfl _ _ b6)
      have e6 := (B.cell (p := ⟨gv, i * 9 + 6, none⟩) hvl).trans (hv.cells (g := gv) rfl _ _ b6)
      clear b6
      have b7 : (clc ws)[i * 9 + 7]? = some (.int .i64 x.ak) := flat_get cl_len ws i 7 x hx (by decide)
      have c7 := (B.cell (p := ⟨gu, i * 9 + 7, none⟩) hul).trans (hu.cells (g := gu) rfl _ _ b7)
      have e7 := (B.cell (p := ⟨gv, i * 9 + 7, none⟩) hvl).trans (hv.cells (g := gv) rfl _ _ b7)
      clear b7
      have b8 : (clc ws)[i * 9 + 8]? = some (.int .i64 x.av) := flat_get cl_len ws i 8 x hx (by decide)
      have c8 := (B.cell (p := ⟨gu, i * 9 + 8, none⟩) hul).trans (hu.cells (g := gu) rfl _ _ b8)
      have e8 := (B.cell (p := ⟨gv, i * 9 + 8, none⟩) hvl).trans (hv.cells (g := gv) rfl _ _ b8)
      clear b8
      rw [Nat.add_zero] at c0 e0
      clear hx
      replace hu := Mr.hid hu
      replace hv := Mr.hid hv
      generalize ws.length = n at *
      have hB := Mr.hid B
      go_wp2
      go_region
      all_goals go_wp2
      all_goals go_roundg (gk - 1)
      case measure => omega
      case rel => exact ⟨i + 1, by simp, by omega, B.drew⟩
    · have hle : ws.length ≤ i := by omega
      go_wp2
      go_ret
      exact ⟨rfl, B⟩
end Go.Proofs.Ytglppcoohojmpaa.Rf
/-
  THE DOCUMENT's comparisons: equal lists.
-/
namespace Go.Proofs.Ytglppcoohojmpaa.Rf
open Go.RowKit Mr Me Ma
set_option maxRecDepth 100000 in
set_option maxHeartbeats 4000000 in
theorem sameT {w : World} {S T : Nat → Prop} {u v : Value} {ws : List Acc} (hu : Has w S 128 7 u ws.length (lgc ws)) (hv : Has w T 128 7 v ws.length (lgc ws)) (hsm : ws.length ≤ 1000000) :
    Calls Try.prog 42 #[u, v] w fun e w' => e = .returned (.bool true) ∧ Below w.heap.size w w' := by
  obtain ⟨au, cu, rfl, hcu⟩ := hu.form
  obtain ⟨av, cv, rfl, hcv⟩ := hv.form
  go_enter Try.func42, Try.ntmps42
  go_wp2
  go_loopg [5] ws.length (fun k s wr => ∃ i : Nat, s = .int .i64 (i : Int) ∧ i + k = ws.length ∧ Below w.heap.size w wr)
  case atStart => exact ⟨0, rfl, by omega, Below.refl _ _⟩
  case round =>
    obtain ⟨i, rfl, hi, B⟩ := hrel
    by_cases hlt : i < ws.length
    · obtain ⟨gu, cu', hgu, _, hul, _⟩ := hu.there (by omega)
      obtain ⟨gv, cv', hgv, _, hvl, _⟩ := hv.there (by omega)
      cases hgu
      cases hgv
      obtain ⟨x, hx⟩ : ∃ x, ws[i]? = some x := ⟨_, List.getElem?_eq_getElem hlt⟩
      have b0 : (lgc ws)[i * 7 + 0]? = some (.int .i64 x.mv) := flat_get (f := Acc.cells) (fun _ => rfl) ws i 0 x hx (by decide)
      have c0 := (B.cell (p := ⟨gu, i * 7 + 0, none⟩) hul).trans (hu.cells (g := gu) rfl _ _ b0)
      have e0 := (B.cell (p := ⟨gv, i * 7 + 0, none⟩) hvl).trans (hv.cells (g := gv) rfl _ _ b0)
      clear b0
      have b1 : (lgc ws)[i * 7 + 1]? = some (.int .i64 x.th) := flat_get (f := Acc.cells) (fun _ => rfl) ws i 1 x hx (by decide)
      have c1 := (B.cell (p := ⟨gu, i * 7 + 1, none⟩) hul).trans (hu.cells (g := gu) rfl _ _ b1)
      have e1 := (B.cell (p := ⟨gv, i * 7 + 1, none⟩) hvl).trans (hv.cells (g := gv) rfl _ _ b1)
      clear b1
      have b2 : (lgc ws)[i * 7 + 2]? = some (.int .i64 x.kd) := flat_get (f := Acc.cells) (fun _ => rfl) ws i 2 x hx (by decide)
      have c2 := (B.cell (p := ⟨gu, i * 7 + 2, none⟩) hul).trans (hu.cells (g := gu) rfl _ _ b2)
      have e2 := (B.cell (p := ⟨gv, i * 7 + 2, none⟩) hvl).trans (hv.cells (g := gv) rfl _ _ b2)
      clear b2
      have b3 : (lgc ws)[i * 7 + 3]? = some (.int .i64 x.ad) := flat_get (f := Acc.cells) (fun _ => rfl) ws i 3 x hx (by decide)
      have c3 := (B.cell (p := ⟨gu, i * 7 + 3, none⟩) hul).trans (hu.cells (g := gu) rfl _ _ b3)
      have e3 := (B.cell (p := ⟨gv, i * 7 + 3, none⟩) hvl).trans (hv.cells (g := gv) rfl _ _ b3)
      clear b3
      have b4 : (lgc ws)[i * 7 + 4]? = some (.int .u64 x.old) := flat_get (f := Acc.cells) (fun _ => rfl) ws i 4 x hx (by decide)
      have c4 := (B.cell (p := ⟨gu, i * 7 + 4, none⟩) hul).trans (hu.cells (g := gu) rfl _ _ b4)
      have e4 := (B.cell (p := ⟨gv, i * 7 + 4, none⟩) hvl).trans (hv.cells (g := gv) rfl _ _ b4)
      clear b4
      have b5 : (lgc ws)[i * 7 + 5]? = some (.int .u64 x.new) := flat_get (f := Acc.cells) (fun _ => rfl) ws i 5 x hx (by decide)
      have c5 := (B.cell (p := ⟨gu, i * 7 + 5, none⟩) hul).trans (hu.cells (g := gu) rfl _ _ b5)
      have e5 := (B.cell (p := ⟨gv, i * 7 + 5, none⟩) hvl).trans (hv.cells (g := gv) rfl _ _ b5)
      clear b5
      have b6 : (lgc ws)[i * 7 + 6]? = some (.int .u64 x.saw) := flat_get (f := Acc.cells) (fun _ => rfl) ws i 6 x hx (by decide)
      have c6 := (B.cell (p := ⟨gu, i * 7 + 6, none⟩) hul).trans (hu.cells (g := gu) rfl _ _ b6)
      have e6 := (B.cell (p := ⟨gv, i * 7 + 6, none⟩) hvl).trans (hv.cells (g := gv) rfl _ _ b6)
      clear b6
      rw [Nat.add_zero] at c0 e0
      clear hx
      replace hu := Mr.hid hu
      replace hv := Mr.hid hv
      generalize ws.length = n at *
      have hB := Mr.hid B
      go_wp2
      go_region
      all_goals go_wp2
      all_goals go_roundg (gk - 1)
      case measure => omega
      case rel => exact ⟨i + 1, by simp, by omega, B.drew⟩
    · have hle : ws.length ≤ i := by omega
      go_wp2
      go_ret
      exact ⟨rfl, B⟩
end Go.Proofs.Ytglppcoohojmpaa.Rf
/-
  THE DOCUMENT's comparisons: equal runs.
-/
namespace Go.Proofs.Ytglppcoohojmpaa.Rf
open Go.RowKit Mr Me Ma
set_option maxRecDepth 100000 in
theorem sameS (w : World) : Calls Try.prog 43 #[.slice none 0 0, .slice none 0 0] w fun e w' => e = .returned (.bool true) ∧ w' = w := by
  go_enter Try.func43, Try.ntmps43
  go_wp2
  go_loopg [5] 0 (fun k s wr => s = .int .i64 0 ∧ wr = w)
  case atStart => exact ⟨rfl, rfl⟩
  case round =>
    obtain ⟨rfl, rfl⟩ := hrel
    go_wp2
    go_ret
    exact ⟨rfl, rfl⟩
/-- Two runs in their boxes. -/
def B8 (w : World) (x0 x1 x2 x3 y0 y1 y2 y3 : Value) (w' : World) : Prop := Below w.heap.size w w' ∧ w'.heap[w.heap.size]? = some (.cells #[x0, x1, x2, x3] 53 (0, 0)) ∧ w'.heap[w.heap.size + 1]? = some (.cells #[y0, y1, y2, y3] 53 (0, 0))
theorem B8.below {w w1 w2 : World} {x0 x1 x2 x3 y0 y1 y2 y3 : Value} (h : B8 w x0 x1 x2 x3 y0 y1 y2 y3 w1) (hB : Below w1.heap.size w1 w2) : B8 w x0 x1 x2 x3 y0 y1 y2 y3 w2 :=
  ⟨h.1.trans (hB.mono h.1.size), (hB.block _ (Array.getElem?_eq_some_iff.1 h.2.1).1).trans h.2.1, (hB.block _ (Array.getElem?_eq_some_iff.1 h.2.2).1).trans h.2.2⟩
theorem B8.cells {w w' : World} {x0 x1 x2 x3 y0 y1 y2 y3 : Value} (h : B8 w x0 x1 x2 x3 y0 y1 y2 y3 w') : w'.cell? ⟨w.heap.size, 1, none⟩ = some x1 ∧ w'.cell? ⟨w.heap.size, 2, none⟩ = some x2 ∧ w'.cell? ⟨w.heap.size, 3, none⟩ = some x3 ∧ w'.cell? ⟨w.heap.size + 1, 1, none⟩ = some y1 ∧ w'.cell? ⟨w.heap.size + 1, 2, none⟩ = some y2 ∧ w'.cell? ⟨w.heap.size + 1, 3, none⟩ = some y3 := by
  obtain ⟨_, h1, h2⟩ := h
  refine ⟨?_, ?_, ?_, ?_, ?_, ?_⟩ <;> simp [World.cell?, h1, h2]
set_option maxRecDepth 100000 in
set_option maxHeartbeats 4000000 in
theorem sameR {w : World} {S1 S2 S4 T1 T2 T4 : Nat → Prop} {v1 v2 v4 u1 u2 u4 : Value} {cls : List Cl} {lg : List Acc} {ws : List Int}
    (h1 : Has w S1 78 9 v1 cls.length (clc cls)) (g1 : Has w T1 78 9 u1 cls.length (clc cls)) (b1 : cls.length ≤ 1000000)
    (h2 : Has w S2 128 7 v2 lg.length (lgc lg)) (g2 : Has w T2 128 7 u2 lg.length (lgc lg)) (b2 : lg.length ≤ 1000000)
    (h4 : Has w S4 59 1 v4 ws.length (wrd ws)) (g4 : Has w T4 59 1 u4 ws.length (wrd ws)) (b4 : ws.length ≤ 1000000) :
    Calls Try.prog 16 #[runV v1 v2 (.slice none 0 0) v4, runV u1 u2 (.slice none 0 0) u4] w fun e w' => e = .returned (.bool true) ∧ Below w.heap.size w w' := by
  obtain ⟨p1, q1, rfl, _⟩ := h1.form
  obtain ⟨p2, q2, rfl, _⟩ := h2.form
  obtain ⟨p4, q4, rfl, _⟩ := h4.form
  obtain ⟨r1, s1, rfl, _⟩ := g1.form
  obtain ⟨r2, s2, rfl, _⟩ := g2.form
  obtain ⟨r4, s4, rfl, _⟩ := g4.form
  have C1 := fun (w' : World) (hB : Below w.heap.size w w') => sameC (h1.below hB) (g1.below hB) b1
  have C2 := fun (w' : World) (hB : Below w.heap.size w w') => sameT (h2.below hB) (g2.below hB) b2
  have C4 := fun (w' : World) (hB : Below w.heap.size w w') => sameW (h4.below hB) (g4.below hB) b4
  replace C1 := Mr.hid C1
  replace C2 := Mr.hid C2
  replace C4 := Mr.hid C4
  clear h1 h2 h4 g1 g2 g4
  generalize cls.length = n1 at *
  generalize lg.length = n2 at *
  generalize ws.length = n4 at *
  unfold runV
  have E0 : B8 w (.slice p1 n1 q1) (.slice p2 n2 q2) (.slice none 0 0) (.slice p4 n4 q4) (.slice r1 n1 s1) (.slice r2 n2 s2) (.slice none 0 0) (.slice r4 n4 s4) ((w.alloc (.cells #[.slice p1 n1 q1, .slice p2 n2 q2, .slice none 0 0, .slice p4 n4 q4] 53)).alloc (.cells #[.slice r1 n1 s1, .slice r2 n2 s2, .slice none 0 0, .slice r4 n4 s4] 53)) := ⟨(two_new w _ _).2.2, (two_new w _ _).1, (two_new w _ _).2.1⟩
  replace E0 := Mr.hid E0
  go_enter Try.func16, Try.ntmps16
  go_wp2_with (first
    | (go_at_call 41; refine (C1.out _ E0.out.1).mono ?_; clear C1; rintro e w1 ⟨rfl, hB1⟩; have E1 := E0.out.below hB1; obtain ⟨f1, f2, f3, f4, f5, f6⟩ := E1.cells; replace E1 := Mr.hid E1; clear hB1)
    | (go_at_call 42; refine (C2.out _ E1.out.1).mono ?_; clear C2; rintro e w2 ⟨rfl, hB2⟩; have E2 := E1.out.below hB2; obtain ⟨f1, f2, f3, f4, f5, f6⟩ := E2.cells; replace E2 := Mr.hid E2; clear hB2)
    | (go_at_call 43; refine (sameS _).mono ?_; rintro e w3 ⟨rfl, hw⟩; obtain rfl := hw.symm)
    | (go_at_call 19; refine (C4.out _ E2.out.1).mono ?_; clear C4; rintro e w4 ⟨rfl, hB4⟩; have E4 := E2.out.below hB4; obtain ⟨f1, f2, f3, f4, f5, f6⟩ := E4.cells; replace E4 := Mr.hid E4; clear hB4))
  go_ret
  exact ⟨rfl, E4.out.1⟩
end Go.Proofs.Ytglppcoohojmpaa.Rf
