import Derived.Test.YtglppcoohojmpaaRfOwnP
import Derived.Deep.RegionHeld3
/-
  MachineOwn: from the second spoiling on.
-/
namespace Go.Proofs.Ytglppcoohojmpaa.Rf
open Go.RowKit Go.Shelf Mr Me Ma
set_option linter.unusedVariables false
noncomputable def codeO17 : Code := tl 17 (Try.f6.body.getD .skip)
set_option maxRecDepth 100000 in
set_option maxHeartbeats 8000000 in
theorem own_17 {w W : World} {U : Nat → Prop} {k0 s3 ya yp Ba1 Bp1 B3 t3 k1 sa ta sb tb Ba Bb sp tp Bp sq tq Bq : Nat} {q : Ph} {P : Pm} {c1 c2 c4 b1 b2 b4 r1 r2 r4 a1 a2 a4 p1 p2 p4 d1 d2 d3 d4 f1 f2 f3 f4 : Value} (hW : Below w.heap.size w W) (M : Lv W U k0 k1 q P) (hU : ∀ k, U k → k < sa) (n1 : P.cls.length ≤ 100000) (n2 : P.lg.length ≤ 100000) (n4 : P.ws.length ≤ 100000) (O : Od w.heap.size B3 t3 k1 sa ta sb tb Ba Bb sp tp Bp sq tq Bq) (hya : Bq < ya) (hyp : Bq < yp) (hBa : Bq < Ba1) (hBp : Bq < Bp1) (H3 : Rx W B3 (itv s3 t3) c1 c2 (.slice none 0 0) c4 P.cls P.lg [] P.ws) (Hb : Rx W Bb (itv sb tb) b1 b2 (.slice none 0 0) b4 P.cls P.lg [] P.ws) (Hq : Rx W Bq (itv sq tq) r1 r2 (.slice none 0 0) r4 P.cls P.lg [] P.ws) (Ha : Rx W Ba (itv sa ta) a1 a2 (.slice none 0 0) a4 (spl (mC 1000) (aC 1000) P.cls.length 0) (spl (mA 1000) (aA 1000) P.lg.length 0) (spl (aS 1000) (aS 1000) 0 0) (spl (mW 1000) (aW 1000) P.ws.length 0)) (Hp : Rx W Bp (itv sp tp) p1 p2 (.slice none 0 0) p4 (spl (mC 2000) (aC 2000) P.cls.length 0) (spl (mA 2000) (aA 2000) P.lg.length 0) (spl (aS 2000) (aS 2000) 0 0) (spl (mW 2000) (aW 2000) P.ws.length 0)) (Ha1 : Rx W Ba1 (fun k => (itv sa ta) k ∨ ya ≤ k) d1 d2 d3 d4 (spl (mC 1000) (aC 1000) P.cls.length 70) (spl (mA 1000) (aA 1000) P.lg.length 70) (spl (aS 1000) (aS 1000) 0 70) (spl (mW 1000) (aW 1000) P.ws.length 70)) (Hp1 : Rx W Bp1 (fun k => (itv sp tp) k ∨ yp ≤ k) f1 f2 f3 f4 (spl (mC 2000) (aC 2000) P.cls.length 70) (spl (mA 2000) (aA 2000) P.lg.length 70) (spl (aS 2000) (aS 2000) 0 70) (spl (mW 2000) (aW 2000) P.ws.length 70)) {z0 z2 z4 z5 z7 z8 z9 z10 z15 z18 z19 z20 z21 z22 z23 z24 z25 z26 z27 z28 z29 z30 z31 z32 z33 z34 z35 z36 z37 z38 z39 z40 z41 z42 z43 z44 z45 z46 z47 z48 z49 z50 z51 z52 z53 z54 z55 z56 z57 z58 z59 z60 z61 z62 z63 z64 z65 z66 z67 z68 z69 z70 z71 z72 z73 z74 z75 z76 z77 z78 z79 z80 z81 z82 z83 z84 z85 z86 z87 z88 z89 z90 z91 z92 z93 z94 z95 z96 z97 z98 z99 z100 z101 z102 z103 z104 z105 z106 z107 z108 z109 z110 z111 z112 z113 z114 z115 z116 z117 z118 z119 z120 z121 z122 z123 z124 z125 z126 z127 z128 z129 z130 z131 z132 z133 z134 z135 z136 z137 z138 z139 z140 z141 z142 z143 z144 z145 z146 z147 z148 z149 z150 z151 z152 z153 z154 z155 z156 z157 z158 z159 z160 z161 z162 z163 z164 z165 z166 z167 z168 z169 z170 : Value} :
    Code.wp Try.prog codeO17 (bodyPost Try.prog Try.f6 fun e w' => e = .returned (.bool true) ∧ Below w.heap.size w w') ⟨#[z0, .pointer (some ⟨w.heap.size, 0, none⟩), z2, .pointer (some ⟨B3, 0, none⟩), z4, z5, .pointer (some ⟨q.b, 0, none⟩), z7, z8, z9, z10, .pointer (some ⟨Ba, 0, none⟩), .pointer (some ⟨Bb, 0, none⟩), .pointer (some ⟨Bp, 0, none⟩), .pointer (some ⟨Bq, 0, none⟩), z15, .pointer (some ⟨Ba1, 0, none⟩), .pointer (some ⟨Bp1, 0, none⟩), z18, z19, z20, z21, z22, z23, z24, z25, z26, z27, z28, z29, z30, z31, z32, z33, z34, z35, z36, z37, z38, z39, z40, z41, z42, z43, z44, z45, z46, z47, z48, z49, z50, z51, z52, z53, z54, z55, z56, z57, z58, z59, z60, z61, z62, z63, z64, z65, z66, z67, z68, z69, z70, z71, z72, z73, z74, z75, z76, z77, z78, z79, z80, z81, z82, z83, z84, z85, z86, z87, z88, z89, z90, z91, z92, z93, z94, z95, z96, z97, z98, z99, z100, z101, z102, z103, z104, z105, z106, z107, z108, z109, z110, z111, z112, z113, z114, z115, z116, z117, z118, z119, z120, z121, z122, z123, z124, z125, z126, z127, z128, z129, z130, z131, z132, z133, z134, z135, z136, z137, z138, z139, z140, z141, z142, z143, z144, z145, z146, z147, z148, z149, z150, z151, z152, z153, z154, z155, z156, z157, z158, z159, z160, z161, z162, z163, z164, z165, z166, z167, z168, z169, z170], []⟩ W := by
  replace O := Mr.hid O
  have lq := Hq.lt
  obtain ⟨g30, g31, g32, g33, g34⟩ := H3.cells
  obtain ⟨gb0, gb1, gb2, gb3, gb4⟩ := Hb.cells
  obtain ⟨gq0, gq1, gq2, gq3, gq4⟩ := Hq.cells
  obtain ⟨ga0, ga1, ga2, ga3, ga4⟩ := Ha.cells
  obtain ⟨gp0, gp1, gp2, gp3, gp4⟩ := Hp.cells
  obtain ⟨ga10, ga11, ga12, ga13, ga14⟩ := Ha1.cells
  obtain ⟨gp10, gp11, gp12, gp13, gp14⟩ := Hp1.cells
  have SPC := Mr.hid (spoil_rx Hb (by obtain ⟨o0, o1, o2, o3, o4, o5, o5', o6, o6', o7, o8, o9, x0, x1, x2, x3⟩ := O.out; omega) (by obtain ⟨o0, o1, o2, o3, o4, o5, o5', o6, o6', o7, o8, o9, x0, x1, x2, x3⟩ := O.out; omega) 3000 (by decide) (by decide) n1 n2 n4)
  have FR := Mr.hid (fun (w1 : World) (hf : Fr W w1 (itv sb tb)) => (show Below w.heap.size w w1 ∧ Lv w1 U k0 k1 q P ∧ (Rx w1 B3 (itv s3 t3) c1 c2 (.slice none 0 0) c4 P.cls P.lg [] P.ws) ∧ (Rx w1 Bq (itv sq tq) r1 r2 (.slice none 0 0) r4 P.cls P.lg [] P.ws) ∧ (Rx w1 Ba (itv sa ta) a1 a2 (.slice none 0 0) a4 (spl (mC 1000) (aC 1000) P.cls.length 0) (spl (mA 1000) (aA 1000) P.lg.length 0) (spl (aS 1000) (aS 1000) 0 0) (spl (mW 1000) (aW 1000) P.ws.length 0)) ∧ (Rx w1 Bp (itv sp tp) p1 p2 (.slice none 0 0) p4 (spl (mC 2000) (aC 2000) P.cls.length 0) (spl (mA 2000) (aA 2000) P.lg.length 0) (spl (aS 2000) (aS 2000) 0 0) (spl (mW 2000) (aW 2000) P.ws.length 0)) ∧ (Rx w1 Ba1 (fun k => (itv sa ta) k ∨ ya ≤ k) d1 d2 d3 d4 (spl (mC 1000) (aC 1000) P.cls.length 70) (spl (mA 1000) (aA 1000) P.lg.length 70) (spl (aS 1000) (aS 1000) 0 70) (spl (mW 1000) (aW 1000) P.ws.length 70)) ∧ (Rx w1 Bp1 (fun k => (itv sp tp) k ∨ yp ≤ k) f1 f2 f3 f4 (spl (mC 2000) (aC 2000) P.cls.length 70) (spl (mA 2000) (aA 2000) P.lg.length 70) (spl (aS 2000) (aS 2000) 0 70) (spl (mW 2000) (aW 2000) P.ws.length 70)) from by
    obtain ⟨o0, o1, o2, o3, o4, o5, o5', o6, o6', o7, o8, o9, x0, x1, x2, x3⟩ := O.out
    refine ⟨hW.trans (hf.below (fun k hk => by have := hk.1; omega) hW.size), M.itv hf (fun k hk => by have := hU k hk; omega) (by omega) (by omega), H3.fr hf (fun hk => by have := hk.1; have := hk.2; omega) (fun k hk hl hk2 => by have := hk2.1; have := hk2.2; have := hk.1; have := hk.2; omega), Hq.fr hf (fun hk => by have := hk.1; have := hk.2; omega) (fun k hk hl hk2 => by have := hk2.1; have := hk2.2; have := hk.1; have := hk.2; omega), Ha.fr hf (fun hk => by have := hk.1; have := hk.2; omega) (fun k hk hl hk2 => by have := hk2.1; have := hk2.2; have := hk.1; have := hk.2; omega), Hp.fr hf (fun hk => by have := hk.1; have := hk.2; omega) (fun k hk hl hk2 => by have := hk2.1; have := hk2.2; have := hk.1; have := hk.2; omega), Ha1.fr hf (fun hk => by have := hk.1; have := hk.2; omega) (fun k hk hl hk2 => by have := hk2.1; have := hk2.2; rcases hk with hk | hk <;> (try have := hk.1) <;> (try have := hk.2) <;> omega), Hp1.fr hf (fun hk => by have := hk.1; have := hk.2; omega) (fun k hk hl hk2 => by have := hk2.1; have := hk2.2; rcases hk with hk | hk <;> (try have := hk.1) <;> (try have := hk.2) <;> omega)⟩))
  replace H3 := Mr.hid H3
  replace Hb := Mr.hid Hb
  replace Hq := Mr.hid Hq
  replace Ha := Mr.hid Ha
  replace Hp := Mr.hid Hp
  replace Ha1 := Mr.hid Ha1
  replace Hp1 := Mr.hid Hp1
  replace hW := Mr.hid hW
  replace M := Mr.hid M
  replace hU := Mr.hid hU
  unfold codeO17
  conv => arg 2; whnf
  go_upto_region 30 with (first
    | (go_at_call 28; refine SPC.out.mono ?_; clear SPC; rintro e w1 ⟨e1, e2, e3, e4, rfl, hF, RW, HB⟩; obtain ⟨⟨pe1, Ne1, qe1, rfl⟩, ⟨pe2, Ne2, qe2, rfl⟩, ⟨pe3, Ne3, qe3, rfl⟩, ⟨pe4, Ne4, qe4, rfl⟩⟩ := RW.forms; obtain ⟨hW1, M1, G3, Gq, Ga, Gp, Ga1, Gp1⟩ := FR.out w1 hF; replace hF := hF.size; clear FR hW M H3 Hb Hq Ha Hp Ha1 Hp1 g30 g31 g32 g33 g34 gb0 gb1 gb2 gb3 gb4 gq0 gq1 gq2 gq3 gq4 ga0 ga1 ga2 ga3 ga4 gp0 gp1 gp2 gp3 gp4 ga10 ga11 ga12 ga13 ga14 gp10 gp11 gp12 gp13 gp14; replace hW1 := Mr.hid hW1; replace M1 := Mr.hid M1; replace G3 := Mr.hid G3; replace Gq := Mr.hid Gq; replace Ga := Mr.hid Ga; replace Gp := Mr.hid Gp; replace Ga1 := Mr.hid Ga1; replace Gp1 := Mr.hid Gp1; replace RW := Mr.hid RW; replace HB := Mr.hid HB)
    | fail)
  have AL := (Below.refl w1.heap.size w1).alloc (Nat.le_refl _) (.cells #[.slice pe1 Ne1 qe1, .slice pe2 Ne2 qe2, .slice pe3 Ne3 qe3, .slice pe4 Ne4 qe4] 53)
  have Hb1 := RW.out.box
  have hW := hW1.out.trans (AL.mono hW1.out.size)
  have M := M1.out.below AL
  have H3 := G3.out.below AL
  have Hq := Gq.out.below AL
  have Ha := Ga.out.below AL
  have Hp := Gp.out.below AL
  have Ha1 := Ga1.out.below AL
  have Hp1 := Gp1.out.below AL
  have Hb := HB.out.below AL
  generalize w1.alloc (.cells #[.slice pe1 Ne1 qe1, .slice pe2 Ne2 qe2, .slice pe3 Ne3 qe3, .slice pe4 Ne4 qe4] 53) = W2 at *
  generalize w1.heap.size = Bb1 at *
  clear AL RW HB hW1 M1 G3 Gq Ga Gp Ga1 Gp1
  have hyb : Bq < W.heap.size + 2 := by omega
  have hBb1 : Bq < Bb1 := by omega
  generalize W.heap.size + 2 = yb at *
  obtain ⟨g30, g31, g32, g33, g34⟩ := H3.cells
  obtain ⟨gb0, gb1, gb2, gb3, gb4⟩ := Hb.cells
  obtain ⟨gq0, gq1, gq2, gq3, gq4⟩ := Hq.cells
  obtain ⟨ga0, ga1, ga2, ga3, ga4⟩ := Ha.cells
  obtain ⟨gp0, gp1, gp2, gp3, gp4⟩ := Hp.cells
  obtain ⟨ga10, ga11, ga12, ga13, ga14⟩ := Ha1.cells
  obtain ⟨gp10, gp11, gp12, gp13, gp14⟩ := Hp1.cells
  obtain ⟨gb10, gb11, gb12, gb13, gb14⟩ := Hb1.cells
  have SPC := Mr.hid (spoil_rx Hq (by obtain ⟨o0, o1, o2, o3, o4, o5, o5', o6, o6', o7, o8, o9, x0, x1, x2, x3⟩ := O.out; omega) (by obtain ⟨o0, o1, o2, o3, o4, o5, o5', o6, o6', o7, o8, o9, x0, x1, x2, x3⟩ := O.out; omega) 4000 (by decide) (by decide) n1 n2 n4)
  have FR := Mr.hid (fun (w1 : World) (hf : Fr W2 w1 (itv sq tq)) => (show Below w.heap.size w w1 ∧ Lv w1 U k0 k1 q P ∧ (Rx w1 B3 (itv s3 t3) c1 c2 (.slice none 0 0) c4 P.cls P.lg [] P.ws) ∧ (Rx w1 Bb (itv sb tb) b1 b2 (.slice none 0 0) b4 (spl (mC 3000) (aC 3000) P.cls.length 0) (spl (mA 3000) (aA 3000) P.lg.length 0) (spl (aS 3000) (aS 3000) 0 0) (spl (mW 3000) (aW 3000) P.ws.length 0)) ∧ (Rx w1 Ba (itv sa ta) a1 a2 (.slice none 0 0) a4 (spl (mC 1000) (aC 1000) P.cls.length 0) (spl (mA 1000) (aA 1000) P.lg.length 0) (spl (aS 1000) (aS 1000) 0 0) (spl (mW 1000) (aW 1000) P.ws.length 0)) ∧ (Rx w1 Bp (itv sp tp) p1 p2 (.slice none 0 0) p4 (spl (mC 2000) (aC 2000) P.cls.length 0) (spl (mA 2000) (aA 2000) P.lg.length 0) (spl (aS 2000) (aS 2000) 0 0) (spl (mW 2000) (aW 2000) P.ws.length 0)) ∧ (Rx w1 Ba1 (fun k => (itv sa ta) k ∨ ya ≤ k) d1 d2 d3 d4 (spl (mC 1000) (aC 1000) P.cls.length 70) (spl (mA 1000) (aA 1000) P.lg.length 70) (spl (aS 1000) (aS 1000) 0 70) (spl (mW 1000) (aW 1000) P.ws.length 70)) ∧ (Rx w1 Bp1 (fun k => (itv sp tp) k ∨ yp ≤ k) f1 f2 f3 f4 (spl (mC 2000) (aC 2000) P.cls.length 70) (spl (mA 2000) (aA 2000) P.lg.length 70) (spl (aS 2000) (aS 2000) 0 70) (spl (mW 2000) (aW 2000) P.ws.length 70)) ∧ (Rx w1 Bb1 (fun k => (itv sb tb) k ∨ yb ≤ k) (.slice pe1 Ne1 qe1) (.slice pe2 Ne2 qe2) (.slice pe3 Ne3 qe3) (.slice pe4 Ne4 qe4) (spl (mC 3000) (aC 3000) P.cls.length 70) (spl (mA 3000) (aA 3000) P.lg.length 70) (spl (aS 3000) (aS 3000) 0 70) (spl (mW 3000) (aW 3000) P.ws.length 70)) from by
    obtain ⟨o0, o1, o2, o3, o4, o5, o5', o6, o6', o7, o8, o9, x0, x1, x2, x3⟩ := O.out
    refine ⟨hW.trans (hf.below (fun k hk => by have := hk.1; omega) hW.size), M.itv hf (fun k hk => by have := hU.out k hk; omega) (by omega) (by omega), H3.fr hf (fun hk => by have := hk.1; have := hk.2; omega) (fun k hk hl hk2 => by have := hk2.1; have := hk2.2; have := hk.1; have := hk.2; omega), Hb.fr hf (fun hk => by have := hk.1; have := hk.2; omega) (fun k hk hl hk2 => by have := hk2.1; have := hk2.2; have := hk.1; have := hk.2; omega), Ha.fr hf (fun hk => by have := hk.1; have := hk.2; omega) (fun k hk hl hk2 => by have := hk2.1; have := hk2.2; have := hk.1; have := hk.2; omega), Hp.fr hf (fun hk => by have := hk.1; have := hk.2; omega) (fun k hk hl hk2 => by have := hk2.1; have := hk2.2; have := hk.1; have := hk.2; omega), Ha1.fr hf (fun hk => by have := hk.1; have := hk.2; omega) (fun k hk hl hk2 => by have := hk2.1; have := hk2.2; rcases hk with hk | hk <;> (try have := hk.1) <;> (try have := hk.2) <;> omega), Hp1.fr hf (fun hk => by have := hk.1; have := hk.2; omega) (fun k hk hl hk2 => by have := hk2.1; have := hk2.2; rcases hk with hk | hk <;> (try have := hk.1) <;> (try have := hk.2) <;> omega), Hb1.fr hf (fun hk => by have := hk.1; have := hk.2; omega) (fun k hk hl hk2 => by have := hk2.1; have := hk2.2; rcases hk with hk | hk <;> (try have := hk.1) <;> (try have := hk.2) <;> omega)⟩))
  replace H3 := Mr.hid H3
  replace Hb := Mr.hid Hb
  replace Hq := Mr.hid Hq
  replace Ha := Mr.hid Ha
  replace Hp := Mr.hid Hp
  replace Ha1 := Mr.hid Ha1
  replace Hp1 := Mr.hid Hp1
  replace Hb1 := Mr.hid Hb1
  replace hW := Mr.hid hW
  replace M := Mr.hid M
  go_upto_region 31 with (first
    | (go_at_call 28; refine SPC.out.mono ?_; clear SPC; rintro e w3 ⟨x1, x2, x3, x4, rfl, hF, RW, HB⟩; obtain ⟨⟨px1, Nx1, qx1, rfl⟩, ⟨px2, Nx2, qx2, rfl⟩, ⟨px3, Nx3, qx3, rfl⟩, ⟨px4, Nx4, qx4, rfl⟩⟩ := RW.forms; obtain ⟨hW1, M1, G3, Gb, Ga, Gp, Ga1, Gp1, Gb1⟩ := FR.out w3 hF; replace hF := hF.size; clear FR hW M H3 Hb Hq Ha Hp Ha1 Hp1 Hb1 g30 g31 g32 g33 g34 gb0 gb1 gb2 gb3 gb4 gq0 gq1 gq2 gq3 gq4 ga0 ga1 ga2 ga3 ga4 gp0 gp1 gp2 gp3 gp4 ga10 ga11 ga12 ga13 ga14 gp10 gp11 gp12 gp13 gp14 gb10 gb11 gb12 gb13 gb14; replace hW1 := Mr.hid hW1; replace M1 := Mr.hid M1; replace G3 := Mr.hid G3; replace Gb := Mr.hid Gb; replace Ga := Mr.hid Ga; replace Gp := Mr.hid Gp; replace Ga1 := Mr.hid Ga1; replace Gp1 := Mr.hid Gp1; replace Gb1 := Mr.hid Gb1; replace RW := Mr.hid RW; replace HB := Mr.hid HB)
    | fail)
  have AL := (Below.refl w3.heap.size w3).alloc (Nat.le_refl _) (.cells #[.slice px1 Nx1 qx1, .slice px2 Nx2 qx2, .slice px3 Nx3 qx3, .slice px4 Nx4 qx4] 53)
  have Hq1 := RW.out.box
  have hW := hW1.out.trans (AL.mono hW1.out.size)
  have M := M1.out.below AL
  have H3 := G3.out.below AL
  have Hb := Gb.out.below AL
  have Ha := Ga.out.below AL
  have Hp := Gp.out.below AL
  have Ha1 := Ga1.out.below AL
  have Hp1 := Gp1.out.below AL
  have Hb1 := Gb1.out.below AL
  generalize w3.alloc (.cells #[.slice px1 Nx1 qx1, .slice px2 Nx2 qx2, .slice px3 Nx3 qx3, .slice px4 Nx4 qx4] 53) = W4 at *
  generalize w3.heap.size = Bq1 at *
  clear AL RW HB hW1 M1 G3 Gb Ga Gp Ga1 Gp1 Gb1
  obtain ⟨g30, g31, g32, g33, g34⟩ := H3.cells
  have RN := Mr.hid (fun (W' : World) (hB : Below W4.heap.size W4 W') => live_rw (M.below hB))
  have SR := Mr.hid (fun (W' : World) (hB : Below W4.heap.size W4 W') (v1 v2 v4 : Value) (S : Nat → Prop) (h : Rw W' S v1 v2 (.slice none 0 0) v4 P.cls P.lg [] P.ws) => same_rx h (H3.r.below hB) n1 n2 n4)
  have FC := Mr.hid (fun (W' : World) (hB : Below W4.heap.size W4 W') => (H3.below hB).cells)
  have BE := Mr.hid (Below.refl W4.heap.size W4).drew
  have KS := Mr.hid (fun (W' : World) (hB : Below W4.heap.size W4 W') => (show (W'.cell? ⟨B3, 0, none⟩ = some c1 ∧ W'.cell? ⟨B3, 1, none⟩ = some c2 ∧ W'.cell? ⟨B3, 2, none⟩ = some (.slice none 0 0) ∧ W'.cell? ⟨B3, 3, none⟩ = some c4 ∧ B3 < W'.heap.size) ∧ (W'.cell? ⟨Ba1, 0, none⟩ = some d1 ∧ W'.cell? ⟨Ba1, 1, none⟩ = some d2 ∧ W'.cell? ⟨Ba1, 2, none⟩ = some d3 ∧ W'.cell? ⟨Ba1, 3, none⟩ = some d4 ∧ Ba1 < W'.heap.size) ∧ (W'.cell? ⟨Bp1, 0, none⟩ = some f1 ∧ W'.cell? ⟨Bp1, 1, none⟩ = some f2 ∧ W'.cell? ⟨Bp1, 2, none⟩ = some f3 ∧ W'.cell? ⟨Bp1, 3, none⟩ = some f4 ∧ Bp1 < W'.heap.size) ∧ (W'.cell? ⟨Bb1, 0, none⟩ = some (.slice pe1 Ne1 qe1) ∧ W'.cell? ⟨Bb1, 1, none⟩ = some (.slice pe2 Ne2 qe2) ∧ W'.cell? ⟨Bb1, 2, none⟩ = some (.slice pe3 Ne3 qe3) ∧ W'.cell? ⟨Bb1, 3, none⟩ = some (.slice pe4 Ne4 qe4) ∧ Bb1 < W'.heap.size) ∧ (W'.cell? ⟨Ba, 0, none⟩ = some a1 ∧ W'.cell? ⟨Ba, 1, none⟩ = some a2 ∧ W'.cell? ⟨Ba, 2, none⟩ = some (.slice none 0 0) ∧ W'.cell? ⟨Ba, 3, none⟩ = some a4 ∧ Ba < W'.heap.size) ∧ (W'.cell? ⟨Bp, 0, none⟩ = some p1 ∧ W'.cell? ⟨Bp, 1, none⟩ = some p2 ∧ W'.cell? ⟨Bp, 2, none⟩ = some (.slice none 0 0) ∧ W'.cell? ⟨Bp, 3, none⟩ = some p4 ∧ Bp < W'.heap.size) ∧ (W'.cell? ⟨Bq1, 0, none⟩ = some (.slice px1 Nx1 qx1) ∧ W'.cell? ⟨Bq1, 1, none⟩ = some (.slice px2 Nx2 qx2) ∧ W'.cell? ⟨Bq1, 2, none⟩ = some (.slice px3 Nx3 qx3) ∧ W'.cell? ⟨Bq1, 3, none⟩ = some (.slice px4 Nx4 qx4) ∧ Bq1 < W'.heap.size) from ⟨(H3.below hB).cells, (Ha1.below hB).cells, (Hp1.below hB).cells, (Hb1.below hB).cells, (Ha.below hB).cells, (Hp.below hB).cells, (Hq1.below hB).cells⟩))
  have SP := Mr.hid (fun (W' : World) (hB : Below W4.heap.size W4 W') => (⟨spoilt_rx (Ha1.r.below hB) (H3.r.below hB) (by decide) (by decide) n1 n2 n4 (by decide), spoilt_rx (Hp1.r.below hB) (H3.r.below hB) (by decide) (by decide) n1 n2 n4 (by decide), spoilt_rx (Hb1.r.below hB) (H3.r.below hB) (by decide) (by decide) n1 n2 n4 (by decide), spoilt_rx (Hq1.r.below hB) (H3.r.below hB) (by decide) (by decide) n1 n2 n4 (by decide), spoilt_rx (Ha.r.below hB) (H3.r.below hB) (by decide) (by decide) n1 n2 n4 (by decide), spoilt_rx (Hp.r.below hB) (H3.r.below hB) (by decide) (by decide) n1 n2 n4 (by decide)⟩ : _ ∧ _ ∧ _ ∧ _ ∧ _ ∧ _))
  replace hW := Mr.hid hW
  replace M := Mr.hid M
  clear H3
  clear Hb
  clear Ha
  clear Hp
  clear Ha1
  clear Hp1
  clear Hb1
  clear Hq1
  go_cut [142] (fun t wx => t = .bool false ∧ Below W4.heap.size W4 wx)
  case first =>
    go_wp2
    go_region_held3 (fun w' => w'.cell? ⟨B3, 0, none⟩ = some c1 ∧ w'.cell? ⟨B3, 1, none⟩ = some c2 ∧ w'.cell? ⟨B3, 2, none⟩ = some (.slice none 0 0) ∧ w'.cell? ⟨B3, 3, none⟩ = some c4) (first | exact CF7.out | exact CF6.out | exact CF5.out | go_keep)
      (first
        | (go_at_call 17; refine (RN.out _ BE.out).mono ?_; rintro e w6 ⟨u1, u2, u4, rfl, RU, hB6⟩; have B6 := Mr.hid (BE.out.trans (hB6.mono BE.out.size)); obtain ⟨y0, y1, y2, y3, _⟩ := FC.out w6 B6.out; have CF6 := Mr.hid (And.intro y0 (And.intro y1 (And.intro y2 y3))); replace RU := Mr.hid RU; clear hB6 y0 y1 y2 y3)
        | (go_at_call 16; refine (SR.out _ B6.out _ _ _ _ RU.out).mono ?_; rintro e w7 ⟨rfl, hB7⟩; have B7 := Mr.hid (B6.out.trans (hB7.mono B6.out.size)); obtain ⟨y0, y1, y2, y3, _⟩ := FC.out w7 B7.out; have CF7 := Mr.hid (And.intro y0 (And.intro y1 (And.intro y2 y3))); clear hB7 y0 y1 y2 y3))
    all_goals go_wp2
    all_goals go_meet
    all_goals exact ⟨rfl, B7.out⟩
  case rest =>
    obtain ⟨rfl, BC⟩ := hcut
    clear g30 g31 g32 g33 g34 RN SR FC BE
    obtain ⟨⟨g30, g31, g32, g33, g34⟩, ⟨ga10, ga11, ga12, ga13, ga14⟩, ⟨gp10, gp11, gp12, gp13, gp14⟩, ⟨gb10, gb11, gb12, gb13, gb14⟩, ⟨ga0, ga1, ga2, ga3, ga4⟩, ⟨gp0, gp1, gp2, gp3, gp4⟩, ⟨gq10, gq11, gq12, gq13, gq14⟩⟩ := KS.out wc BC
    replace BC := Mr.hid BC
    go_wp2_with (go_at_call 29; (first | (refine (SP.out _ BC.out).1.mono ?_; have SP2 := Mr.hid (fun (W' : World) (hB : Below W4.heap.size W4 W') => (SP.out W' hB).2); clear SP; have SP := SP2; clear SP2) | (refine (SP.out _ BC.out).mono ?_; clear SP)); rintro e wy ⟨rfl, hBy⟩; have BD := Mr.hid (BC.out.trans (hBy.mono BC.out.size)); clear g30 g31 g32 g33 g34 ga10 ga11 ga12 ga13 ga14 gp10 gp11 gp12 gp13 gp14 gb10 gb11 gb12 gb13 gb14 ga0 ga1 ga2 ga3 ga4 gp0 gp1 gp2 gp3 gp4 gq10 gq11 gq12 gq13 gq14 hBy BC; have BC := BD; clear BD; obtain ⟨⟨g30, g31, g32, g33, g34⟩, ⟨ga10, ga11, ga12, ga13, ga14⟩, ⟨gp10, gp11, gp12, gp13, gp14⟩, ⟨gb10, gb11, gb12, gb13, gb14⟩, ⟨ga0, ga1, ga2, ga3, ga4⟩, ⟨gp0, gp1, gp2, gp3, gp4⟩, ⟨gq10, gq11, gq12, gq13, gq14⟩⟩ := KS.out wy BC.out)
    go_ret
    exact ⟨rfl, hW.out.trans (BC.out.mono hW.out.size)⟩
end Go.Proofs.Ytglppcoohojmpaa.Rf
