import Derived.Test.YtglppcoohojmpaaRfSpoilt2
import Derived.BigQuiet
/-
  THE DOCUMENT's Spoilt.
-/
namespace Go.Proofs.Ytglppcoohojmpaa.Rf
open Go.RowKit Go.Shelf Mr Me Ma
set_option linter.unusedVariables false
noncomputable def codeQ1 : Code := tl 1 (Try.f29.body.getD .skip)
set_option maxRecDepth 100000 in
set_option maxHeartbeats 8000000 in
theorem spt_1 {W wr0 : World} {S1 S2 S3 S4 : Nat → Prop} {p1 p2 p3 p4 r1 r2 r4 : Option Addr} {c1 c2 c3 c4 d1 d2 d4 n1 n2 n4 k : Nat} {mark : Int} (hE : B8 W (.slice p1 (n1 + k) c1) (.slice p2 (n2 + k) c2) (.slice p3 k c3) (.slice p4 (n4 + k) c4) (.slice r1 n1 d1) (.slice r2 n2 d2) (.slice none 0 0) (.slice r4 n4 d4) wr0) (h1 : Has W S1 78 9 (.slice p1 (n1 + k) c1) (n1 + k) (clc (spl (mC mark) (aC mark) n1 k))) (h2 : Has W S2 128 7 (.slice p2 (n2 + k) c2) (n2 + k) (lgc (spl (mA mark) (aA mark) n2 k))) (h3 : Has W S3 130 5 (.slice p3 k c3) k (sfc (spl (aS mark) (aS mark) 0 k))) (h4 : Has W S4 59 1 (.slice p4 (n4 + k) c4) (n4 + k) (wrd (spl (mW mark) (aW mark) n4 k))) (m0 : 0 ≤ mark) (m1 : mark ≤ 10000) (b1 : n1 ≤ 100000) (b2 : n2 ≤ 100000) (b4 : n4 ≤ 100000) (bk : k ≤ 100) {z0 z1 z5 z6 z7 z8 z9 z10 z11 z12 z13 z14 z15 z16 z17 z18 z19 z20 z21 z22 z23 z24 z25 z26 z27 z28 z29 z30 z31 z32 z33 z34 z35 z36 z37 z38 z39 z40 z41 z42 z43 z44 z45 z46 z47 z48 z49 z50 z51 z52 z53 z54 z55 z56 z57 z58 z59 z60 z61 z62 z63 z64 z65 z66 z67 z68 z69 z70 z71 z72 z73 z74 z75 z76 z77 z78 z79 z80 z81 z82 z83 z84 z85 z86 z87 z88 z89 z90 z91 z92 z93 z94 z95 z96 z97 z98 z99 z100 z101 z102 z103 z104 z105 z106 z107 z108 z109 z110 z111 z112 z113 z114 z115 z116 z117 z118 z119 z120 z121 z122 z123 z124 z125 z126 z127 z128 z129 z130 z131 z132 z133 z134 z135 z136 z137 z138 z139 z140 z141 z142 z143 z144 z145 z146 z147 z148 z149 z150 z151 z152 z153 z154 z155 z156 z157 z158 z159 z160 z161 z162 z163 z164 z165 z166 z167 z168 z169 z170 z171 z172 z173 z174 z175 z176 z177 z178 z179 z180 z181 z182 z183 z184 z185 z186 z187 z188 z189 z190 z191 z192 z193 z194 z195 z196 z197 z198 z199 z200 z201 z202 z203 : Value} :
    Code.wp Try.prog codeQ1 (bodyPost Try.prog Try.f29 fun e w' => e = .returned (.bool true) ∧ Below W.heap.size W w') ⟨#[z0, z1, .int .i64 mark, .pointer (some ⟨W.heap.size, 0, none⟩), .pointer (some ⟨(W.heap.size + 1), 0, none⟩), z5, z6, z7, z8, z9, z10, z11, z12, z13, z14, z15, z16, z17, z18, z19, z20, z21, z22, z23, z24, z25, z26, z27, z28, z29, z30, z31, z32, z33, z34, z35, z36, z37, z38, z39, z40, z41, z42, z43, z44, z45, z46, z47, z48, z49, z50, z51, z52, z53, z54, z55, z56, z57, z58, z59, z60, z61, z62, z63, z64, z65, z66, z67, z68, z69, z70, z71, z72, z73, z74, z75, z76, z77, z78, z79, z80, z81, z82, z83, z84, z85, z86, z87, z88, z89, z90, z91, z92, z93, z94, z95, z96, z97, z98, z99, z100, z101, z102, z103, z104, z105, z106, z107, z108, z109, z110, z111, z112, z113, z114, z115, z116, z117, z118, z119, z120, z121, z122, z123, z124, z125, z126, z127, z128, z129, z130, z131, z132, z133, z134, z135, z136, z137, z138, z139, z140, z141, z142, z143, z144, z145, z146, z147, z148, z149, z150, z151, z152, z153, z154, z155, z156, z157, z158, z159, z160, z161, z162, z163, z164, z165, z166, z167, z168, z169, z170, z171, z172, z173, z174, z175, z176, z177, z178, z179, z180, z181, z182, z183, z184, z185, z186, z187, z188, z189, z190, z191, z192, z193, z194, z195, z196, z197, z198, z199, z200, z201, z202, z203], []⟩ wr0 := by
  have HJ := Mr.hid h1
  replace h1 := Mr.hid h1
  replace h2 := Mr.hid h2
  replace h3 := Mr.hid h3
  replace h4 := Mr.hid h4
  obtain ⟨⟨f0, f1, f2, f3⟩, g0, g1, g2, g3⟩ := hE.all
  have wn : IntKind.i64.wrap (-mark) = -mark := i64s _ (by omega) (by omega)
  have wu : IntKind.u64.wrap mark = mark := u64s _ (by omega) (by omega)
  have wu2 : IntKind.u64.wrap (mark + 1000000) = mark + 1000000 := u64s _ (by omega) (by omega)
  replace hE := Mr.hid hE
  unfold codeQ1
  conv => arg 2; whnf
  go_wp2
  rename (∀ (a : Act) (w : World), Code.wp _ (Code.seq _ _) _ a w → _) => hK1
  replace hK1 := Mr.hid hK1
  go_loopg [7] (n1 + k) (fun k0 s wy => ∃ i : Nat, s = .int .i64 (i : Int) ∧ i + k0 = (n1 + k) ∧ B8 W (.slice p1 (n1 + k) c1) (.slice p2 (n2 + k) c2) (.slice p3 k c3) (.slice p4 (n4 + k) c4) (.slice r1 n1 d1) (.slice r2 n2 d2) (.slice none 0 0) (.slice r4 n4 d4) wy)
  case atStart => exact ⟨0, rfl, by omega, hE.out⟩
  case round =>
    obtain ⟨i, rfl, hik, E⟩ := hrel
    clear hE f0 f1 f2 f3 g0 g1 g2 g3
    obtain ⟨⟨f0, f1, f2, f3⟩, g0, g1, g2, g3⟩ := E.all
    by_cases hi : i < (n1 + k)
    · have hii : (i : Int) < (((n1 + k) : Nat) : Int) := by omega
      have Ed := Mr.hid (fun (m : Nat) => B8.drewN E m)
      obtain ⟨g, c', hv, hg1, hg2, hg3, hg4⟩ := HJ.out.there (by omega)
      cases hv
      replace hg4 : c1 ≤ 9223372036854775807 := by unfold maxLen at hg4; omega
      by_cases hin : i < n1
      · have d1 : decide ((i : Int) < (n1 : Int)) = true := decide_eq_true (by omega)
        have d2 : decide ((n1 : Int) ≤ (i : Int)) = false := decide_eq_false (by omega)
        have d3 : decide (n1 ≤ i) = false := decide_eq_false (by omega)
        have wa : IntKind.i64.wrap (mark + (i : Int)) = mark + (i : Int) := i64s _ (by omega) (by omega)
        have wb : IntKind.u64.wrap (mark + (i : Int)) = mark + (i : Int) := u64s _ (by omega) (by omega)
        have wc : IntKind.u64.wrap (i : Int) = (i : Int) := u64s _ (by omega) (by omega)
        have hx := spl_old (mC mark) (aC mark) n1 k i hin
        have cc : ∀ (p : Nat) (u : Value), p < 9 → (Cl.cells (mC mark i))[p]? = some u → wr.cell? ⟨g, (i) * 9 + p, none⟩ = some u := fun p u hp hu => (E.1.cell (p := ⟨g, (i) * 9 + p, none⟩) hg2).trans (HJ.out.cells (g := g) rfl _ _ (by rw [clc, flat_get (f := Cl.cells) (m := 9) (fun _ => rfl) _ (i) p (mC mark i) hx hp]; exact hu))
        have e0 := cc 0 _ (by decide) rfl
        have e1 := cc 1 _ (by decide) rfl
        have e2 := cc 2 _ (by decide) rfl
        have e3 := cc 3 _ (by decide) rfl
        have e4 := cc 4 _ (by decide) rfl
        have e5 := cc 5 _ (by decide) rfl
        have e6 := cc 6 _ (by decide) rfl
        have e7 := cc 7 _ (by decide) rfl
        have e8 := cc 8 _ (by decide) rfl
        rw [Nat.add_zero] at e0
        clear cc
        simp only [mC] at e0 e1 e2 e3 e4 e5 e6 e7 e8
        replace hx := Mr.hid hx
        clear E
        go_wp2
        go_quiet (fail)
        go_wp2
        go_roundg (gk - 1)
        case measure => omega
        case rel => exact ⟨i + 1, by simp, by omega, Ed.out _⟩
      · obtain ⟨j, hij⟩ : ∃ j, i = n1 + j := ⟨i - n1, by omega⟩
        have hj : j < k := by omega
        have d1 : decide ((i : Int) < (n1 : Int)) = false := decide_eq_false (by omega)
        have d2 : decide ((n1 : Int) ≤ (i : Int)) = true := decide_eq_true (by omega)
        have d3 : decide (n1 ≤ i) = true := decide_eq_true (by omega)
        have d4 : decide (i < n1) = false := decide_eq_false (by omega)
        have wj : IntKind.i64.wrap ((i : Int) - (n1 : Int)) = (i : Int) - (n1 : Int) := i64s _ (by omega) (by omega)
        have wj2 : IntKind.i64.wrap (-mark - ((i : Int) - (n1 : Int))) = -mark - ((i : Int) - (n1 : Int)) := i64s _ (by omega) (by omega)
        have hx := spl_new (mC mark) (aC mark) n1 k j hj
        rw [← hij] at hx
        have cc : ∀ (p : Nat) (u : Value), p < 9 → (Cl.cells (aC mark j))[p]? = some u → wr.cell? ⟨g, (i) * 9 + p, none⟩ = some u := fun p u hp hu => (E.1.cell (p := ⟨g, (i) * 9 + p, none⟩) hg2).trans (HJ.out.cells (g := g) rfl _ _ (by rw [clc, flat_get (f := Cl.cells) (m := 9) (fun _ => rfl) _ (i) p (aC mark j) hx hp]; exact hu))
        have e0 := cc 0 _ (by decide) rfl
        have e1 := cc 1 _ (by decide) rfl
        have e2 := cc 2 _ (by decide) rfl
        have e3 := cc 3 _ (by decide) rfl
        have e4 := cc 4 _ (by decide) rfl
        have e5 := cc 5 _ (by decide) rfl
        have e6 := cc 6 _ (by decide) rfl
        have e7 := cc 7 _ (by decide) rfl
        have e8 := cc 8 _ (by decide) rfl
        rw [Nat.add_zero] at e0
        clear cc
        simp only [aC] at e0 e1 e2 e3 e4 e5 e6 e7 e8
        have ej : (j : Int) = (i : Int) - (n1 : Int) := by omega
        rw [ej] at e0
        replace ej := Mr.hid ej
        replace hij := Mr.hid hij
        replace hx := Mr.hid hx
        clear E
        go_wp2
        go_quiet (fail)
        go_wp2
        go_roundg (gk - 1)
        case measure => omega
        case rel => exact ⟨i + 1, by simp, by omega, Ed.out _⟩
    · have hle : (n1 + k) ≤ i := by omega
      replace E := Mr.hid E
      go_wp2
      refine hK1.out _ _ ?_
      exact spt_2 E.out h1.out h2.out h3.out h4.out m0 m1 b1 b2 b4 bk
end Go.Proofs.Ytglppcoohojmpaa.Rf
