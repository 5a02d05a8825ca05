import Derived.Test.YtglppcoohojmpaaRfDuo
/-
  MachineMoves: behind its loop.
-/
namespace Go.Proofs.Ytglppcoohojmpaa.Rf
open Go.RowKit Go.Shelf Mr Me Ma
noncomputable def codeMC : Code := tl 9 (Try.f5.body.getD .skip)
/-- A call in its box. -/
def Bc (W : World) (B : Nat) (c : Cl) : Prop := W.heap[B]? = some (.cells #[.int .i64 c.th, .int .i64 c.op, .int .i64 c.arg, .int .i64 c.data, .int .i64 c.beg, .int .i64 c.fin, .int .i64 c.pt, .int .i64 c.ak, .int .i64 c.av] 78 (0, 0))
theorem Bc.below {W W' : World} {B : Nat} {c : Cl} (h : Bc W B c) (hB : Below W.heap.size W W') : Bc W' B c := (hB.block _ (Array.getElem?_eq_some_iff.1 h).1).trans h
theorem Bc.cells {W : World} {B : Nat} {c : Cl} (h : Bc W B c) : W.cell? ⟨B, 0, none⟩ = some (.int .i64 c.th) ∧ W.cell? ⟨B, 1, none⟩ = some (.int .i64 c.op) ∧ W.cell? ⟨B, 2, none⟩ = some (.int .i64 c.arg) ∧ W.cell? ⟨B, 3, none⟩ = some (.int .i64 c.data) ∧ W.cell? ⟨B, 4, none⟩ = some (.int .i64 c.beg) ∧ W.cell? ⟨B, 5, none⟩ = some (.int .i64 c.fin) ∧ W.cell? ⟨B, 6, none⟩ = some (.int .i64 c.pt) ∧ W.cell? ⟨B, 7, none⟩ = some (.int .i64 c.ak) ∧ W.cell? ⟨B, 8, none⟩ = some (.int .i64 c.av) := by
  unfold Bc at h
  refine ⟨?_, ?_, ?_, ?_, ?_, ?_, ?_, ?_, ?_⟩ <;> simp [World.cell?, h]
theorem Duo.lens {w W : World} {D1 D2 k0 k1 : Nat} {q1 : Ph} {q2 : Rc} {x y z : Value} {P : Pm} (h : Duo w W D1 D2 k0 k1 q1 q2 x y z P P) : P.cls.length ≤ 1000000 ∧ P.lg.length ≤ 1000000 ∧ P.ws.length ≤ 1000000 := by
  obtain ⟨⟨U1, U2, _, e2, _⟩, _⟩ := h
  have h1 := e2.2.1.cls
  have h2 := e2.2.1.lg
  have h3 := e2.2.1.n
  have h4 := e2.2.2.1
  exact ⟨by omega, by omega, by omega⟩
set_option maxRecDepth 100000 in
set_option maxHeartbeats 8000000 in
theorem moves_C {w W : World} {D1 D2 k0 k1 : Nat} {q1 : Ph} {q2 : Rc} {x y z : Value} {P : Pm} (h : Duo w W D1 D2 k0 k1 q1 q2 x y z P P) (hl : Lc P) (ask : Int) {z0 z3 z4 z6 z7 z8 z10 z11 z12 z13 z14 z15 z16 z17 z18 z19 z20 z21 z22 z23 z24 z25 z26 z27 z28 z29 z30 z31 z32 z33 z34 z35 z36 z37 z38 z39 z40 z41 z42 z43 z44 z45 z46 z47 z48 z49 z50 z51 z52 z53 z54 z55 z56 z57 z58 z59 z60 z61 z62 z63 z64 z65 z66 z67 z68 z69 z70 z71 z72 z73 z74 z75 z76 z77 z78 z79 z80 z81 z82 z83 z84 z85 z86 z87 z88 z89 z90 z91 z92 z93 z94 z95 z96 z97 z98 z99 z100 z101 z102 z103 z104 z105 z106 z107 z108 z109 z110 z111 z112 z113 z114 z115 z116 z117 z118 z119 z120 z121 z122 z123 z124 z125 z126 z127 z128 z129 z130 z131 z132 z133 z134 z135 z136 z137 z138 z139 z140 z141 z142 z143 z144 z145 z146 z147 z148 z149 z150 z151 z152 z153 z154 z155 z156 z157 z158 z159 z160 z161 z162 z163 z164 z165 z166 z167 z168 z169 z170 z171 z172 z173 z174 z175 z176 z177 z178 z179 z180 z181 z182 z183 z184 z185 z186 z187 z188 z189 z190 z191 z192 z193 z194 z195 z196 z197 : Value} :
    Code.wp Try.prog codeMC (bodyPost Try.prog Try.f5 fun e w' => e = .returned (.bool true) ∧ Below w.heap.size w w') ⟨#[z0, .int .i64 ask, .pointer (some ⟨w.heap.size, 0, none⟩), z3, z4, .pointer (some ⟨q1.b, 0, none⟩), z6, z7, z8, .pointer (some ⟨q2.b, 0, none⟩), z10, z11, z12, z13, z14, z15, z16, z17, z18, z19, z20, z21, z22, z23, z24, z25, z26, z27, z28, z29, z30, z31, z32, z33, z34, z35, z36, z37, z38, z39, z40, z41, z42, z43, z44, z45, z46, z47, z48, z49, z50, z51, z52, z53, z54, z55, z56, z57, z58, z59, z60, z61, z62, z63, z64, z65, z66, z67, z68, z69, z70, z71, z72, z73, z74, z75, z76, z77, z78, z79, z80, z81, z82, z83, z84, z85, z86, z87, z88, z89, z90, z91, z92, z93, z94, z95, z96, z97, z98, z99, z100, z101, z102, z103, z104, z105, z106, z107, z108, z109, z110, z111, z112, z113, z114, z115, z116, z117, z118, z119, z120, z121, z122, z123, z124, z125, z126, z127, z128, z129, z130, z131, z132, z133, z134, z135, z136, z137, z138, z139, z140, z141, z142, z143, z144, z145, z146, z147, z148, z149, z150, z151, z152, z153, z154, z155, z156, z157, z158, z159, z160, z161, z162, z163, z164, z165, z166, z167, z168, z169, z170, z171, z172, z173, z174, z175, z176, z177, z178, z179, z180, z181, z182, z183, z184, z185, z186, z187, z188, z189, z190, z191, z192, z193, z194, z195, z196, z197], []⟩ W := by
  obtain ⟨b, kn, c, g, hcase, AK⟩ := duo_ask h hl ask
  obtain ⟨n1, n2, n3⟩ := h.lens
  have A1 := Mr.hid (AK W (Below.refl _ _)).1
  have A2 := Mr.hid (fun (W' : World) (hB : Below W.heap.size W W') => (AK W' hB).2.1)
  have A3 := Mr.hid (fun (W' : World) (hB : Below W.heap.size W W') => (AK W' hB).2.2)
  clear AK
  replace h := Mr.hid h
  replace hl := Mr.hid hl
  replace hcase := Mr.hid hcase
  unfold codeMC
  conv => arg 2; whnf
  go_upto_region 27 with (first
    | (go_at_call 25; refine A1.out.mono ?_; clear A1; rintro e w1 ⟨rfl, hB1⟩; unfold Cl.val; replace hB1 := Mr.hid hB1)
    | fail)
  obtain ⟨W2, hW2⟩ : ∃ W2, w1.alloc (.cells #[.int .i64 c.th, .int .i64 c.op, .int .i64 c.arg, .int .i64 c.data, .int .i64 c.beg, .int .i64 c.fin, .int .i64 c.pt, .int .i64 c.ak, .int .i64 c.av] 78) = W2 := ⟨_, rfl⟩
  have B2 : Bc W2 w1.heap.size c := by rw [← hW2]; exact heap_alloc_new w1 _
  have hB2 : Below W.heap.size W W2 := by rw [← hW2]; exact hB1.out.alloc hB1.out.size _
  rw [hW2]
  clear hW2 hB1
  generalize w1.heap.size = b17 at *
  have A2' := Mr.hid (A2.out W2 hB2)
  clear A2
  replace B2 := Mr.hid B2
  replace hB2 := Mr.hid hB2
  go_upto_region 28 with (first
    | (go_at_call 26; refine A2'.out.mono ?_; clear A2'; rintro e w3 ⟨rfl, hB3⟩; unfold Cl.val; replace hB3 := Mr.hid hB3)
    | fail)
  obtain ⟨W4, hW4⟩ : ∃ W4, w3.alloc (.cells #[.int .i64 g.th, .int .i64 g.op, .int .i64 g.arg, .int .i64 g.data, .int .i64 g.beg, .int .i64 g.fin, .int .i64 g.pt, .int .i64 g.ak, .int .i64 g.av] 78) = W4 := ⟨_, rfl⟩
  have B4 : Bc W4 w3.heap.size g := by rw [← hW4]; exact heap_alloc_new w3 _
  have hB34 : Below W2.heap.size W2 W4 := by rw [← hW4]; exact hB3.out.alloc hB3.out.size _
  rw [hW4]
  clear hW4 hB3
  generalize w3.heap.size = b19 at *
  have B2' := B2.out.below hB34
  have hB4 := hB2.out.trans (hB34.mono hB2.out.size)
  clear B2 hB2 hB34
  have A3' := Mr.hid (A3.out W4 hB4)
  clear A3
  obtain ⟨c0, c1, c2, c3, c4, c5, c6, c7, c8⟩ := B2'.cells
  obtain ⟨g0, g1, g2, g3, g4, g5, g6, g7, g8⟩ := B4.cells
  have D4 := h.out.below hB4
  have RN := Mr.hid (duo_run D4)
  have TD := Mr.hid (fun (W' : World) (hB : Below W4.heap.size W4 W') => duo_told (D4.below hB))
  have K4 := Mr.hid D4.k.1
  clear D4 B2' B4 h hl hB4
  have arm : ∀ (Q : Prop), Q → Q := fun _ h => h
  clear arm
  rcases hcase.out with ⟨rfl, rfl, hbeg⟩ | ⟨rfl, rfl, rfl⟩
  · clear hcase
    have e1 : decide (0 ≤ c.beg) = true := decide_eq_true hbeg
    cases b
    all_goals go_wp2_with (first
      | (go_at_call 27; refine A3'.out.mono ?_; clear A3'; rintro e w5 ⟨rfl, hw⟩; obtain rfl := hw.symm)
      | (go_at_call 17; refine RN.out.mono ?_; clear RN; rintro e w6 ⟨v1, v2, v4, rfl, h1, h2, h4, hB6⟩; have TD6 := Mr.hid (TD.out w6 hB6); unfold runV; replace h1 := Mr.hid h1; replace h2 := Mr.hid h2; replace h4 := Mr.hid h4; replace hB6 := Mr.hid hB6; clear TD)
      | (go_at_call 18; refine TD6.out.mono ?_; clear TD6; rintro e w7 ⟨u1, u2, u4, rfl, j1, j2, j4, hB7⟩; have SR := sameR (h1.out.below hB7) j1 n1 (h2.out.below hB7) j2 n2 (h4.out.below hB7) j4 n3; unfold runV at SR ⊢; replace SR := Mr.hid SR; replace hB7 := Mr.hid hB7; clear j1 j2 j4)
      | (go_at_call 16; refine SR.out.mono ?_; clear SR; rintro e w8 ⟨rfl, hB8⟩; replace hB8 := Mr.hid hB8))
    all_goals go_ret
    all_goals exact ⟨rfl, ((K4.out.trans (hB6.out.mono K4.out.size)).trans (hB7.out.mono (Nat.le_trans K4.out.size hB6.out.size))).trans (hB8.out.mono (Nat.le_trans (Nat.le_trans K4.out.size hB6.out.size) hB7.out.size))⟩
  · clear hcase
    simp only [noBeg, noCl] at c0 c1 c2 c3 c4 c5 c6 c7 c8 g0 g1 g2 g3 g4 g5 g6 g7 g8
    cases b
    all_goals go_wp2_with (first
      | (go_at_call 27; refine A3'.out.mono ?_; clear A3'; rintro e w5 ⟨rfl, hw⟩; obtain rfl := hw.symm)
      | (go_at_call 17; refine RN.out.mono ?_; clear RN; rintro e w6 ⟨v1, v2, v4, rfl, h1, h2, h4, hB6⟩; have TD6 := Mr.hid (TD.out w6 hB6); unfold runV; replace h1 := Mr.hid h1; replace h2 := Mr.hid h2; replace h4 := Mr.hid h4; replace hB6 := Mr.hid hB6; clear TD)
      | (go_at_call 18; refine TD6.out.mono ?_; clear TD6; rintro e w7 ⟨u1, u2, u4, rfl, j1, j2, j4, hB7⟩; have SR := sameR (h1.out.below hB7) j1 n1 (h2.out.below hB7) j2 n2 (h4.out.below hB7) j4 n3; unfold runV at SR ⊢; replace SR := Mr.hid SR; replace hB7 := Mr.hid hB7; clear j1 j2 j4)
      | (go_at_call 16; refine SR.out.mono ?_; clear SR; rintro e w8 ⟨rfl, hB8⟩; replace hB8 := Mr.hid hB8))
    all_goals go_ret
    all_goals exact ⟨rfl, ((K4.out.trans (hB6.out.mono K4.out.size)).trans (hB7.out.mono (Nat.le_trans K4.out.size hB6.out.size))).trans (hB8.out.mono (Nat.le_trans (Nat.le_trans K4.out.size hB6.out.size) hB7.out.size))⟩
end Go.Proofs.Ytglppcoohojmpaa.Rf
