import Derived.Test.YtglppcoohojmpaaRfSpoil5
/-
  THE DOCUMENT's Spoil.
-/
namespace Go.Proofs.Ytglppcoohojmpaa.Rf
open Go.RowKit Go.Shelf Mr Me Ma
noncomputable def codeS4 : Code := tl 4 (Try.f28.body.getD .skip)
set_option maxRecDepth 100000 in
set_option maxHeartbeats 8000000 in
theorem spoil_4 {W wr0 : World} {A : Nat → Prop} {v1 v2 v4 : Value} {cls : List Cl} {lg : List Acc} {ws : List Int} {mark : Int} (hE : Sb W wr0 A v1 v2 v4 v1 v2 (.slice none 0 0) v4 ((List.range cls.length).map (mC mark)) ((List.range lg.length).map (mA mark)) [] ws ((List.range cls.length).map (mC mark)) ((List.range lg.length).map (mA mark)) ws) (m0 : 0 ≤ mark) (m1 : mark ≤ 10000) (b1 : cls.length ≤ 100000) (b2 : lg.length ≤ 100000) (b4 : ws.length ≤ 100000) {z0 z3 z5 z6 z7 z8 z9 z10 z11 z12 z13 z14 z15 z16 z17 z18 z19 z20 z21 z22 z23 z24 z25 z26 z27 z28 z29 z30 z31 z32 z33 z34 z35 z36 z37 z38 z39 z40 z41 z42 z43 z44 z45 z46 z47 z48 z49 z50 z51 z52 z53 z54 z55 z56 z57 z58 z59 z60 z61 z62 z63 z64 z65 z66 z67 z68 z69 z70 z71 z72 z73 z74 z75 z76 z77 z78 z79 z80 z81 z82 z83 z84 z85 z86 z87 z88 z89 z90 z91 z92 z93 z94 z95 z96 z97 z98 z99 z100 z101 z102 z103 z104 z105 z106 z107 z108 z109 z110 z111 z112 z113 z114 z115 z116 z117 z118 z119 : Value} :
    Code.wp Try.prog codeS4 (bodyPost Try.prog Try.f28 fun e w' => SpPost W A v1 v2 v4 cls.length lg.length ws.length mark e w') ⟨#[z0, .int .i64 mark, .pointer (some ⟨W.heap.size, 0, none⟩), z3, .pointer (some ⟨(W.heap.size + 1), 0, none⟩), z5, z6, z7, z8, z9, z10, z11, z12, z13, z14, z15, z16, z17, z18, z19, z20, z21, z22, z23, z24, z25, z26, z27, z28, z29, z30, z31, z32, z33, z34, z35, z36, z37, z38, z39, z40, z41, z42, z43, z44, z45, z46, z47, z48, z49, z50, z51, z52, z53, z54, z55, z56, z57, z58, z59, z60, z61, z62, z63, z64, z65, z66, z67, z68, z69, z70, z71, z72, z73, z74, z75, z76, z77, z78, z79, z80, z81, z82, z83, z84, z85, z86, z87, z88, z89, z90, z91, z92, z93, z94, z95, z96, z97, z98, z99, z100, z101, z102, z103, z104, z105, z106, z107, z108, z109, z110, z111, z112, z113, z114, z115, z116, z117, z118, z119], []⟩ wr0 := by
  obtain ⟨pv, cv, rfl, _⟩ := hE.p4.form
  obtain ⟨f0, f1, f2, f3, f4, f5, f6⟩ := hE.cells
  have wn : IntKind.i64.wrap (-mark) = -mark := i64s _ (by omega) (by omega)
  have wu : IntKind.u64.wrap mark = mark := u64s _ (by omega) (by omega)
  replace hE := Mr.hid hE
  unfold codeS4
  conv => arg 2; whnf
  go_wp2
  rename (∀ (a : Act) (w : World), Code.wp _ (Code.seq _ _) _ a w → _) => hK1
  replace hK1 := Mr.hid hK1
  go_loopg [8] ws.length (fun k s wy => ∃ i : Nat, s = .int .i64 (i : Int) ∧ i + k = ws.length ∧ Sb W wy A v1 v2 (.slice pv ws.length cv) v1 v2 (.slice none 0 0) (.slice pv ws.length cv) ((List.range cls.length).map (mC mark)) ((List.range lg.length).map (mA mark)) [] (wov (mW mark) ws i) ((List.range cls.length).map (mC mark)) ((List.range lg.length).map (mA mark)) (wov (mW mark) ws i))
  case atStart => exact ⟨0, rfl, by omega, by rw [wov_zero]; exact hE.out⟩
  case round =>
    obtain ⟨i, rfl, hik, E⟩ := hrel
    clear hE f0 f1 f2 f3 f4 f5 f6
    obtain ⟨f0, f1, f2, f3, f4, f5, f6⟩ := E.cells
    by_cases hi : i < ws.length
    · have d0 : decide ((i : Int) < (ws.length : Int)) = true := decide_eq_true (by omega)
      have hii : (i : Int) < (ws.length : Int) := by omega
      have wa : IntKind.i64.wrap (mark + (i : Int)) = mark + (i : Int) := i64s _ (by omega) (by omega)
      have wb : IntKind.u64.wrap (mark + (i : Int)) = mark + (i : Int) := u64s _ (by omega) (by omega)
      have wc : IntKind.u64.wrap (i : Int) = (i : Int) := u64s _ (by omega) (by omega)
      have hwl := wov_len (mW mark) ws i (by omega)
      obtain ⟨x, hx⟩ : ∃ x, (wov (mW mark) ws i)[i]? = some x := ⟨_, List.getElem?_eq_getElem (by omega)⟩
      have HP := E.p4
      rw [hwl] at HP
      obtain ⟨g, c', hv, hg1, hg2, hg3, hg4⟩ := HP.there (by omega)
      cases hv
      replace hg4 : cv ≤ 9223372036854775807 := by unfold maxLen at hg4; omega
      have nB : g ≠ W.heap.size := by have := E.al g hg1; omega
      have nB' := nB.symm
      have fz := fun j => HP.frozen (g := g) rfl j
      have PT := Sb.put4 E (g := g) (c := cv) (by rw [hwl]) i x ((mW mark) i) hx
      rw [wov_set (mW mark) ws i hi] at PT
      have e0 : wr.cell? ⟨g, i, none⟩ = some (.int .u64 x) := HP.cells (g := g) rfl i _ (by simp [wrd, hx])
      replace PT := Mr.hid PT
      replace hx := Mr.hid hx
      replace hwl := Mr.hid hwl
      clear E HP
      generalize ws.length = nn at *
      go_wp2
      go_roundg (gk - 1)
      case measure => omega
      case rel => exact ⟨i + 1, by simp, by omega, PT.out⟩
    · have d0 : decide ((i : Int) < (ws.length : Int)) = false := decide_eq_false (by omega)
      obtain rfl : i = ws.length := by omega
      rw [wov_all] at E
      replace E := Mr.hid E
      go_wp2
      refine hK1.out _ _ ?_
      exact spoil_5 E.out m0 m1 b1 b2 b4
noncomputable def codeS3 : Code := tl 3 (Try.f28.body.getD .skip)
set_option maxRecDepth 100000 in
set_option maxHeartbeats 8000000 in
theorem spoil_3 {W wr0 : World} {A : Nat → Prop} {v1 v2 v4 : Value} {cls : List Cl} {lg : List Acc} {ws : List Int} {mark : Int} (hE : Sb W wr0 A v1 v2 v4 v1 v2 (.slice none 0 0) v4 ((List.range cls.length).map (mC mark)) ((List.range lg.length).map (mA mark)) [] ws ((List.range cls.length).map (mC mark)) ((List.range lg.length).map (mA mark)) ws) (m0 : 0 ≤ mark) (m1 : mark ≤ 10000) (b1 : cls.length ≤ 100000) (b2 : lg.length ≤ 100000) (b4 : ws.length ≤ 100000) {z0 z3 z5 z6 z7 z8 z9 z10 z11 z12 z13 z14 z15 z16 z17 z18 z19 z20 z21 z22 z23 z24 z25 z26 z27 z28 z29 z30 z31 z32 z33 z34 z35 z36 z37 z38 z39 z40 z41 z42 z43 z44 z45 z46 z47 z48 z49 z50 z51 z52 z53 z54 z55 z56 z57 z58 z59 z60 z61 z62 z63 z64 z65 z66 z67 z68 z69 z70 z71 z72 z73 z74 z75 z76 z77 z78 z79 z80 z81 z82 z83 z84 z85 z86 z87 z88 z89 z90 z91 z92 z93 z94 z95 z96 z97 z98 z99 z100 z101 z102 z103 z104 z105 z106 z107 z108 z109 z110 z111 z112 z113 z114 z115 z116 z117 z118 z119 : Value} :
    Code.wp Try.prog codeS3 (bodyPost Try.prog Try.f28 fun e w' => SpPost W A v1 v2 v4 cls.length lg.length ws.length mark e w') ⟨#[z0, .int .i64 mark, .pointer (some ⟨W.heap.size, 0, none⟩), z3, .pointer (some ⟨(W.heap.size + 1), 0, none⟩), z5, z6, z7, z8, z9, z10, z11, z12, z13, z14, z15, z16, z17, z18, z19, z20, z21, z22, z23, z24, z25, z26, z27, z28, z29, z30, z31, z32, z33, z34, z35, z36, z37, z38, z39, z40, z41, z42, z43, z44, z45, z46, z47, z48, z49, z50, z51, z52, z53, z54, z55, z56, z57, z58, z59, z60, z61, z62, z63, z64, z65, z66, z67, z68, z69, z70, z71, z72, z73, z74, z75, z76, z77, z78, z79, z80, z81, z82, z83, z84, z85, z86, z87, z88, z89, z90, z91, z92, z93, z94, z95, z96, z97, z98, z99, z100, z101, z102, z103, z104, z105, z106, z107, z108, z109, z110, z111, z112, z113, z114, z115, z116, z117, z118, z119], []⟩ wr0 := by
  obtain ⟨f0, f1, f2, f3, f4, f5, f6⟩ := hE.cells
  replace hE := Mr.hid hE
  unfold codeS3
  conv => arg 2; whnf
  go_wp2
  rename (∀ (a : Act) (w : World), Code.wp _ (Code.seq _ _) _ a w → _) => hK1
  replace hK1 := Mr.hid hK1
  go_loopg [7] 0 (fun k s7 wy => s7 = .int .i64 0 ∧ wy = wr0)
  case atStart => exact ⟨rfl, rfl⟩
  case round =>
    obtain ⟨rfl, hw⟩ := hrel
    obtain rfl := hw.symm
    go_wp2
    refine hK1.out _ _ ?_
    exact spoil_4 hE.out m0 m1 b1 b2 b4
noncomputable def codeS2 : Code := tl 2 (Try.f28.body.getD .skip)
set_option maxRecDepth 100000 in
set_option maxHeartbeats 8000000 in
theorem spoil_2 {W wr0 : World} {A : Nat → Prop} {v1 v2 v4 : Value} {cls : List Cl} {lg : List Acc} {ws : List Int} {mark : Int} (hE : Sb W wr0 A v1 v2 v4 v1 v2 (.slice none 0 0) v4 ((List.range cls.length).map (mC mark)) lg [] ws ((List.range cls.length).map (mC mark)) lg ws) (m0 : 0 ≤ mark) (m1 : mark ≤ 10000) (b1 : cls.length ≤ 100000) (b2 : lg.length ≤ 100000) (b4 : ws.length ≤ 100000) {z0 z3 z5 z6 z7 z8 z9 z10 z11 z12 z13 z14 z15 z16 z17 z18 z19 z20 z21 z22 z23 z24 z25 z26 z27 z28 z29 z30 z31 z32 z33 z34 z35 z36 z37 z38 z39 z40 z41 z42 z43 z44 z45 z46 z47 z48 z49 z50 z51 z52 z53 z54 z55 z56 z57 z58 z59 z60 z61 z62 z63 z64 z65 z66 z67 z68 z69 z70 z71 z72 z73 z74 z75 z76 z77 z78 z79 z80 z81 z82 z83 z84 z85 z86 z87 z88 z89 z90 z91 z92 z93 z94 z95 z96 z97 z98 z99 z100 z101 z102 z103 z104 z105 z106 z107 z108 z109 z110 z111 z112 z113 z114 z115 z116 z117 z118 z119 : Value} :
    Code.wp Try.prog codeS2 (bodyPost Try.prog Try.f28 fun e w' => SpPost W A v1 v2 v4 cls.length lg.length ws.length mark e w') ⟨#[z0, .int .i64 mark, .pointer (some ⟨W.heap.size, 0, none⟩), z3, .pointer (some ⟨(W.heap.size + 1), 0, none⟩), z5, z6, z7, z8, z9, z10, z11, z12, z13, z14, z15, z16, z17, z18, z19, z20, z21, z22, z23, z24, z25, z26, z27, z28, z29, z30, z31, z32, z33, z34, z35, z36, z37, z38, z39, z40, z41, z42, z43, z44, z45, z46, z47, z48, z49, z50, z51, z52, z53, z54, z55, z56, z57, z58, z59, z60, z61, z62, z63, z64, z65, z66, z67, z68, z69, z70, z71, z72, z73, z74, z75, z76, z77, z78, z79, z80, z81, z82, z83, z84, z85, z86, z87, z88, z89, z90, z91, z92, z93, z94, z95, z96, z97, z98, z99, z100, z101, z102, z103, z104, z105, z106, z107, z108, z109, z110, z111, z112, z113, z114, z115, z116, z117, z118, z119], []⟩ wr0 := by
  obtain ⟨pv, cv, rfl, _⟩ := hE.p2.form
  obtain ⟨f0, f1, f2, f3, f4, f5, f6⟩ := hE.cells
  have wn : IntKind.i64.wrap (-mark) = -mark := i64s _ (by omega) (by omega)
  have wu : IntKind.u64.wrap mark = mark := u64s _ (by omega) (by omega)
  replace hE := Mr.hid hE
  unfold codeS2
  conv => arg 2; whnf
  go_wp2
  rename (∀ (a : Act) (w : World), Code.wp _ (Code.seq _ _) _ a w → _) => hK1
  replace hK1 := Mr.hid hK1
  go_loopg [6] lg.length (fun k s wy => ∃ i : Nat, s = .int .i64 (i : Int) ∧ i + k = lg.length ∧ Sb W wy A v1 (.slice pv lg.length cv) v4 v1 (.slice pv lg.length cv) (.slice none 0 0) v4 ((List.range cls.length).map (mC mark)) (wov (mA mark) lg i) [] ws ((List.range cls.length).map (mC mark)) (wov (mA mark) lg i) ws)
  case atStart => exact ⟨0, rfl, by omega, by rw [wov_zero]; exact hE.out⟩
  case round =>
    obtain ⟨i, rfl, hik, E⟩ := hrel
    clear hE f0 f1 f2 f3 f4 f5 f6
    obtain ⟨f0, f1, f2, f3, f4, f5, f6⟩ := E.cells
    by_cases hi : i < lg.length
    · have d0 : decide ((i : Int) < (lg.length : Int)) = true := decide_eq_true (by omega)
      have hii : (i : Int) < (lg.length : Int) := by omega
      have wa : IntKind.i64.wrap (mark + (i : Int)) = mark + (i : Int) := i64s _ (by omega) (by omega)
      have wb : IntKind.u64.wrap (mark + (i : Int)) = mark + (i : Int) := u64s _ (by omega) (by omega)
      have wc : IntKind.u64.wrap (i : Int) = (i : Int) := u64s _ (by omega) (by omega)
      have hwl := wov_len (mA mark) lg i (by omega)
      obtain ⟨x, hx⟩ : ∃ x, (wov (mA mark) lg i)[i]? = some x := ⟨_, List.getElem?_eq_getElem (by omega)⟩
      have HP := E.p2
      rw [hwl] at HP
      obtain ⟨g, c', hv, hg1, hg2, hg3, hg4⟩ := HP.there (by omega)
      cases hv
      replace hg4 : cv ≤ 9223372036854775807 := by unfold maxLen at hg4; omega
      have nB : g ≠ W.heap.size := by have := E.al g hg1; omega
      have nB' := nB.symm
      have fz := fun j => HP.frozen (g := g) rfl j
      have PT := Sb.put2 E (g := g) (c := cv) (by rw [hwl]) i x ((mA mark) i) hx
      rw [wov_set (mA mark) lg i hi] at PT
      have cc : ∀ (p : Nat) (u : Value), p < 7 → (Acc.cells x)[p]? = some u → wr.cell? ⟨g, i * 7 + p, none⟩ = some u := fun p u hp hu => HP.cells (g := g) rfl _ _ (by rw [lgc, flat_get (f := Acc.cells) (m := 7) (fun _ => rfl) _ i p x hx hp]; exact hu)
      have e0 := cc 0 _ (by decide) rfl
      have e1 := cc 1 _ (by decide) rfl
      have e2 := cc 2 _ (by decide) rfl
      have e3 := cc 3 _ (by decide) rfl
      have e4 := cc 4 _ (by decide) rfl
      have e5 := cc 5 _ (by decide) rfl
      have e6 := cc 6 _ (by decide) rfl
      rw [Nat.add_zero] at e0
      clear cc
      replace PT := Mr.hid PT
      replace hx := Mr.hid hx
      replace hwl := Mr.hid hwl
      clear E HP
      generalize lg.length = nn at *
      go_wp2
      go_roundg (gk - 1)
      case measure => omega
      case rel => exact ⟨i + 1, by simp, by omega, PT.out⟩
    · have d0 : decide ((i : Int) < (lg.length : Int)) = false := decide_eq_false (by omega)
      obtain rfl : i = lg.length := by omega
      rw [wov_all] at E
      replace E := Mr.hid E
      go_wp2
      refine hK1.out _ _ ?_
      exact spoil_3 E.out m0 m1 b1 b2 b4
noncomputable def codeS1 : Code := tl 1 (Try.f28.body.getD .skip)
set_option maxRecDepth 100000 in
set_option maxHeartbeats 8000000 in
theorem spoil_1 {W wr0 : World} {A : Nat → Prop} {v1 v2 v4 : Value} {cls : List Cl} {lg : List Acc} {ws : List Int} {mark : Int} (hE : Sb W wr0 A v1 v2 v4 v1 v2 (.slice none 0 0) v4 cls lg [] ws cls lg ws) (m0 : 0 ≤ mark) (m1 : mark ≤ 10000) (b1 : cls.length ≤ 100000) (b2 : lg.length ≤ 100000) (b4 : ws.length ≤ 100000) {z0 z3 z5 z6 z7 z8 z9 z10 z11 z12 z13 z14 z15 z16 z17 z18 z19 z20 z21 z22 z23 z24 z25 z26 z27 z28 z29 z30 z31 z32 z33 z34 z35 z36 z37 z38 z39 z40 z41 z42 z43 z44 z45 z46 z47 z48 z49 z50 z51 z52 z53 z54 z55 z56 z57 z58 z59 z60 z61 z62 z63 z64 z65 z66 z67 z68 z69 z70 z71 z72 z73 z74 z75 z76 z77 z78 z79 z80 z81 z82 z83 z84 z85 z86 z87 z88 z89 z90 z91 z92 z93 z94 z95 z96 z97 z98 z99 z100 z101 z102 z103 z104 z105 z106 z107 z108 z109 z110 z111 z112 z113 z114 z115 z116 z117 z118 z119 : Value} :
    Code.wp Try.prog codeS1 (bodyPost Try.prog Try.f28 fun e w' => SpPost W A v1 v2 v4 cls.length lg.length ws.length mark e w') ⟨#[z0, .int .i64 mark, .pointer (some ⟨W.heap.size, 0, none⟩), z3, .pointer (some ⟨(W.heap.size + 1), 0, none⟩), z5, z6, z7, z8, z9, z10, z11, z12, z13, z14, z15, z16, z17, z18, z19, z20, z21, z22, z23, z24, z25, z26, z27, z28, z29, z30, z31, z32, z33, z34, z35, z36, z37, z38, z39, z40, z41, z42, z43, z44, z45, z46, z47, z48, z49, z50, z51, z52, z53, z54, z55, z56, z57, z58, z59, z60, z61, z62, z63, z64, z65, z66, z67, z68, z69, z70, z71, z72, z73, z74, z75, z76, z77, z78, z79, z80, z81, z82, z83, z84, z85, z86, z87, z88, z89, z90, z91, z92, z93, z94, z95, z96, z97, z98, z99, z100, z101, z102, z103, z104, z105, z106, z107, z108, z109, z110, z111, z112, z113, z114, z115, z116, z117, z118, z119], []⟩ wr0 := by
  obtain ⟨pv, cv, rfl, _⟩ := hE.p1.form
  obtain ⟨f0, f1, f2, f3, f4, f5, f6⟩ := hE.cells
  have wn : IntKind.i64.wrap (-mark) = -mark := i64s _ (by omega) (by omega)
  have wu : IntKind.u64.wrap mark = mark := u64s _ (by omega) (by omega)
  replace hE := Mr.hid hE
  unfold codeS1
  conv => arg 2; whnf
  go_wp2
  rename (∀ (a : Act) (w : World), Code.wp _ (Code.seq _ _) _ a w → _) => hK1
  replace hK1 := Mr.hid hK1
  go_loopg [5] cls.length (fun k s wy => ∃ i : Nat, s = .int .i64 (i : Int) ∧ i + k = cls.length ∧ Sb W wy A (.slice pv cls.length cv) v2 v4 (.slice pv cls.length cv) v2 (.slice none 0 0) v4 (wov (mC mark) cls i) lg [] ws (wov (mC mark) cls i) lg ws)
  case atStart => exact ⟨0, rfl, by omega, by rw [wov_zero]; exact hE.out⟩
  case round =>
    obtain ⟨i, rfl, hik, E⟩ := hrel
    clear hE f0 f1 f2 f3 f4 f5 f6
    obtain ⟨f0, f1, f2, f3, f4, f5, f6⟩ := E.cells
    by_cases hi : i < cls.length
    · have d0 : decide ((i : Int) < (cls.length : Int)) = true := decide_eq_true (by omega)
      have hii : (i : Int) < (cls.length : Int) := by omega
      have wa : IntKind.i64.wrap (mark + (i : Int)) = mark + (i : Int) := i64s _ (by omega) (by omega)
      have wb : IntKind.u64.wrap (mark + (i : Int)) = mark + (i : Int) := u64s _ (by omega) (by omega)
      have wc : IntKind.u64.wrap (i : Int) = (i : Int) := u64s _ (by omega) (by omega)
      have hwl := wov_len (mC mark) cls i (by omega)
      obtain ⟨x, hx⟩ : ∃ x, (wov (mC mark) cls i)[i]? = some x := ⟨_, List.getElem?_eq_getElem (by omega)⟩
      have HP := E.p1
      rw [hwl] at HP
      obtain ⟨g, c', hv, hg1, hg2, hg3, hg4⟩ := HP.there (by omega)
      cases hv
      replace hg4 : cv ≤ 9223372036854775807 := by unfold maxLen at hg4; omega
      have nB : g ≠ W.heap.size := by have := E.al g hg1; omega
      have nB' := nB.symm
      have fz := fun j => HP.frozen (g := g) rfl j
      have PT := Sb.put1 E (g := g) (c := cv) (by rw [hwl]) i x ((mC mark) i) hx
      rw [wov_set (mC mark) cls i hi] at PT
      have cc : ∀ (p : Nat) (u : Value), p < 9 → (Cl.cells x)[p]? = some u → wr.cell? ⟨g, i * 9 + p, none⟩ = some u := fun p u hp hu => HP.cells (g := g) rfl _ _ (by rw [clc, flat_get (f := Cl.cells) (m := 9) (fun _ => rfl) _ i p x hx hp]; exact hu)
      have e0 := cc 0 _ (by decide) rfl
      have e1 := cc 1 _ (by decide) rfl
      have e2 := cc 2 _ (by decide) rfl
      have e3 := cc 3 _ (by decide) rfl
      have e4 := cc 4 _ (by decide) rfl
      have e5 := cc 5 _ (by decide) rfl
      have e6 := cc 6 _ (by decide) rfl
      have e7 := cc 7 _ (by decide) rfl
      have e8 := cc 8 _ (by decide) rfl
      rw [Nat.add_zero] at e0
      clear cc
      replace PT := Mr.hid PT
      replace hx := Mr.hid hx
      replace hwl := Mr.hid hwl
      clear E HP
      generalize cls.length = nn at *
      go_wp2
      go_roundg (gk - 1)
      case measure => omega
      case rel => exact ⟨i + 1, by simp, by omega, PT.out⟩
    · have d0 : decide ((i : Int) < (cls.length : Int)) = false := decide_eq_false (by omega)
      obtain rfl : i = cls.length := by omega
      rw [wov_all] at E
      replace E := Mr.hid E
      go_wp2
      refine hK1.out _ _ ?_
      exact spoil_2 E.out m0 m1 b1 b2 b4
set_option maxRecDepth 100000 in
set_option maxHeartbeats 8000000 in
theorem Spoil_any {W : World} {A : Nat → Prop} {v1 v2 v4 : Value} {cls : List Cl} {lg : List Acc} {ws : List Int} (h1 : Has W A 78 9 v1 cls.length (clc cls)) (h2 : Has W A 128 7 v2 lg.length (lgc lg)) (h4 : Has W A 59 1 v4 ws.length (wrd ws)) (hA : ∀ k, A k → k < W.heap.size) (mark : Int) (m0 : 0 ≤ mark) (m1 : mark ≤ 10000) (b1 : cls.length ≤ 100000) (b2 : lg.length ≤ 100000) (b4 : ws.length ≤ 100000) :
    Calls Try.prog 28 #[runV v1 v2 (.slice none 0 0) v4, .int .i64 mark] W fun e w' => SpPost W A v1 v2 v4 cls.length lg.length ws.length mark e w' := by
  obtain ⟨p1, q1, rfl, _⟩ := h1.form
  obtain ⟨p2, q2, rfl, _⟩ := h2.form
  obtain ⟨p4, q4, rfl, _⟩ := h4.form
  have E0 : Sb W ((W.alloc (.cells #[.slice p1 cls.length q1, .slice p2 lg.length q2, .slice none 0 0, .slice p4 ws.length q4] 53)).alloc (.cells #[.slice none 0 0, .slice none 0 0, .slice none 0 0, .slice none 0 0] 53)) A (.slice p1 cls.length q1) (.slice p2 lg.length q2) (.slice p4 ws.length q4) (.slice p1 cls.length q1) (.slice p2 lg.length q2) (.slice none 0 0) (.slice p4 ws.length q4) cls lg [] ws cls lg ws := by
    obtain ⟨t1, t2, t3⟩ := two_new W (.cells #[.slice p1 cls.length q1, .slice p2 lg.length q2, .slice none 0 0, .slice p4 ws.length q4] 53) (.cells #[.slice none 0 0, .slice none 0 0, .slice none 0 0, .slice none 0 0] 53)
    exact ⟨Fr.of_below t3, hA, t1, t2, (h1.below t3).mono (fun _ h => .inl h), (h2.below t3).mono (fun _ h => .inl h), Has.nil _ _ _ _, (h4.below t3).mono (fun _ h => .inl h), h1.below t3, h2.below t3, h4.below t3, Nat.le_refl _, Nat.le_refl _, Nat.le_refl _⟩
  replace E0 := Mr.hid E0
  clear h1 h2 h4 hA
  unfold runV
  go_enter Try.func28, Try.ntmps28
  go_upto_region 0 with fail
  go_cut [2, 4] (fun s2 s4 wx => s2 = .pointer (some ⟨W.heap.size, 0, none⟩) ∧ s4 = .pointer (some ⟨W.heap.size + 1, 0, none⟩) ∧ wx = ((W.alloc (.cells #[.slice p1 cls.length q1, .slice p2 lg.length q2, .slice none 0 0, .slice p4 ws.length q4] 53)).alloc (.cells #[.slice none 0 0, .slice none 0 0, .slice none 0 0, .slice none 0 0] 53)))
  case first =>
    go_wp2
    go_meet
    case rel => exact ⟨rfl, by simp, rfl⟩
  case rest =>
    obtain ⟨rfl, rfl, hw⟩ := hcut
    obtain rfl := hw.symm
    go_step
    exact spoil_1 E0.out m0 m1 b1 b2 b4
end Go.Proofs.Ytglppcoohojmpaa.Rf
