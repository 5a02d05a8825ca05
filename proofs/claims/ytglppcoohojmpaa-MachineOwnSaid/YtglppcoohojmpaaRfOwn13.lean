import Derived.Test.YtglppcoohojmpaaRfOwn17
/-
  MachineOwn: from the first spoiling on.
-/
namespace Go.Proofs.Ytglppcoohojmpaa.Rf
open Go.RowKit Go.Shelf Mr Me Ma
set_option linter.unusedVariables false
noncomputable def codeO13 : Code := tl 13 (Try.f6.body.getD .skip)
set_option maxRecDepth 100000 in
set_option maxHeartbeats 8000000 in
theorem own_13 {w W : World} {U : Nat → Prop} {k0 s3 B3 t3 k1 sa ta sb tb Ba Bb sp tp Bp sq tq Bq : Nat} {q : Ph} {P : Pm} {c1 c2 c4 a1 a2 a4 b1 b2 b4 p1 p2 p4 r1 r2 r4 : Value} (hW : Below w.heap.size w W) (M : Lv W U k0 k1 q P) (hU : ∀ k, U k → k < sa) (n1 : P.cls.length ≤ 100000) (n2 : P.lg.length ≤ 100000) (n4 : P.ws.length ≤ 100000) (O : Od w.heap.size B3 t3 k1 sa ta sb tb Ba Bb sp tp Bp sq tq Bq) (H3 : Rx W B3 (itv s3 t3) c1 c2 (.slice none 0 0) c4 P.cls P.lg [] P.ws) (Ha : Rx W Ba (itv sa ta) a1 a2 (.slice none 0 0) a4 P.cls P.lg [] P.ws) (Hb : Rx W Bb (itv sb tb) b1 b2 (.slice none 0 0) b4 P.cls P.lg [] P.ws) (Hp : Rx W Bp (itv sp tp) p1 p2 (.slice none 0 0) p4 P.cls P.lg [] P.ws) (Hq : Rx W Bq (itv sq tq) r1 r2 (.slice none 0 0) r4 P.cls P.lg [] P.ws) {z0 z2 z4 z5 z7 z8 z9 z10 z15 z16 z17 z18 z19 z20 z21 z22 z23 z24 z25 z26 z27 z28 z29 z30 z31 z32 z33 z34 z35 z36 z37 z38 z39 z40 z41 z42 z43 z44 z45 z46 z47 z48 z49 z50 z51 z52 z53 z54 z55 z56 z57 z58 z59 z60 z61 z62 z63 z64 z65 z66 z67 z68 z69 z70 z71 z72 z73 z74 z75 z76 z77 z78 z79 z80 z81 z82 z83 z84 z85 z86 z87 z88 z89 z90 z91 z92 z93 z94 z95 z96 z97 z98 z99 z100 z101 z102 z103 z104 z105 z106 z107 z108 z109 z110 z111 z112 z113 z114 z115 z116 z117 z118 z119 z120 z121 z122 z123 z124 z125 z126 z127 z128 z129 z130 z131 z132 z133 z134 z135 z136 z137 z138 z139 z140 z141 z142 z143 z144 z145 z146 z147 z148 z149 z150 z151 z152 z153 z154 z155 z156 z157 z158 z159 z160 z161 z162 z163 z164 z165 z166 z167 z168 z169 z170 : Value} :
    Code.wp Try.prog codeO13 (bodyPost Try.prog Try.f6 fun e w' => e = .returned (.bool true) ∧ Below w.heap.size w w') ⟨#[z0, .pointer (some ⟨w.heap.size, 0, none⟩), z2, .pointer (some ⟨B3, 0, none⟩), z4, z5, .pointer (some ⟨q.b, 0, none⟩), z7, z8, z9, z10, .pointer (some ⟨Ba, 0, none⟩), .pointer (some ⟨Bb, 0, none⟩), .pointer (some ⟨Bp, 0, none⟩), .pointer (some ⟨Bq, 0, none⟩), z15, z16, z17, z18, z19, z20, z21, z22, z23, z24, z25, z26, z27, z28, z29, z30, z31, z32, z33, z34, z35, z36, z37, z38, z39, z40, z41, z42, z43, z44, z45, z46, z47, z48, z49, z50, z51, z52, z53, z54, z55, z56, z57, z58, z59, z60, z61, z62, z63, z64, z65, z66, z67, z68, z69, z70, z71, z72, z73, z74, z75, z76, z77, z78, z79, z80, z81, z82, z83, z84, z85, z86, z87, z88, z89, z90, z91, z92, z93, z94, z95, z96, z97, z98, z99, z100, z101, z102, z103, z104, z105, z106, z107, z108, z109, z110, z111, z112, z113, z114, z115, z116, z117, z118, z119, z120, z121, z122, z123, z124, z125, z126, z127, z128, z129, z130, z131, z132, z133, z134, z135, z136, z137, z138, z139, z140, z141, z142, z143, z144, z145, z146, z147, z148, z149, z150, z151, z152, z153, z154, z155, z156, z157, z158, z159, z160, z161, z162, z163, z164, z165, z166, z167, z168, z169, z170], []⟩ W := by
  replace O := Mr.hid O
  have lq := Hq.lt
  obtain ⟨g30, g31, g32, g33, g34⟩ := H3.cells
  obtain ⟨ga0, ga1, ga2, ga3, ga4⟩ := Ha.cells
  obtain ⟨gb0, gb1, gb2, gb3, gb4⟩ := Hb.cells
  obtain ⟨gp0, gp1, gp2, gp3, gp4⟩ := Hp.cells
  obtain ⟨gq0, gq1, gq2, gq3, gq4⟩ := Hq.cells
  have SPC := Mr.hid (spoil_rx Ha (by obtain ⟨o0, o1, o2, o3, o4, o5, o5', o6, o6', o7, o8, o9, x0, x1, x2, x3⟩ := O.out; omega) (by obtain ⟨o0, o1, o2, o3, o4, o5, o5', o6, o6', o7, o8, o9, x0, x1, x2, x3⟩ := O.out; omega) 1000 (by decide) (by decide) n1 n2 n4)
  have FR := Mr.hid (fun (w1 : World) (hf : Fr W w1 (itv sa ta)) => (show Below w.heap.size w w1 ∧ Lv w1 U k0 k1 q P ∧ (Rx w1 B3 (itv s3 t3) c1 c2 (.slice none 0 0) c4 P.cls P.lg [] P.ws) ∧ (Rx w1 Bb (itv sb tb) b1 b2 (.slice none 0 0) b4 P.cls P.lg [] P.ws) ∧ (Rx w1 Bp (itv sp tp) p1 p2 (.slice none 0 0) p4 P.cls P.lg [] P.ws) ∧ (Rx w1 Bq (itv sq tq) r1 r2 (.slice none 0 0) r4 P.cls P.lg [] P.ws) from by
    obtain ⟨o0, o1, o2, o3, o4, o5, o5', o6, o6', o7, o8, o9, x0, x1, x2, x3⟩ := O.out
    refine ⟨hW.trans (hf.below (fun k hk => by have := hk.1; omega) hW.size), M.itv hf (fun k hk => by have := hU k hk; omega) (by omega) (by omega), H3.fr hf (fun hk => by have := hk.1; have := hk.2; omega) (fun k hk hl hk2 => by have := hk2.1; have := hk2.2; have := hk.1; have := hk.2; omega), Hb.fr hf (fun hk => by have := hk.1; have := hk.2; omega) (fun k hk hl hk2 => by have := hk2.1; have := hk2.2; have := hk.1; have := hk.2; omega), Hp.fr hf (fun hk => by have := hk.1; have := hk.2; omega) (fun k hk hl hk2 => by have := hk2.1; have := hk2.2; have := hk.1; have := hk.2; omega), Hq.fr hf (fun hk => by have := hk.1; have := hk.2; omega) (fun k hk hl hk2 => by have := hk2.1; have := hk2.2; have := hk.1; have := hk.2; omega)⟩))
  replace H3 := Mr.hid H3
  replace Ha := Mr.hid Ha
  replace Hb := Mr.hid Hb
  replace Hp := Mr.hid Hp
  replace Hq := Mr.hid Hq
  replace hW := Mr.hid hW
  replace M := Mr.hid M
  replace hU := Mr.hid hU
  unfold codeO13
  conv => arg 2; whnf
  go_upto_region 24 with (first
    | (go_at_call 28; refine SPC.out.mono ?_; clear SPC; rintro e w1 ⟨d1, d2, d3, d4, rfl, hF, RW, HB⟩; obtain ⟨⟨pd1, Nd1, qd1, rfl⟩, ⟨pd2, Nd2, qd2, rfl⟩, ⟨pd3, Nd3, qd3, rfl⟩, ⟨pd4, Nd4, qd4, rfl⟩⟩ := RW.forms; obtain ⟨hW1, M1, G3, Gb, Gp, Gq⟩ := FR.out w1 hF; replace hF := hF.size; clear FR hW M H3 Ha Hb Hp Hq g30 g31 g32 g33 g34 ga0 ga1 ga2 ga3 ga4 gb0 gb1 gb2 gb3 gb4 gp0 gp1 gp2 gp3 gp4 gq0 gq1 gq2 gq3 gq4; replace hW1 := Mr.hid hW1; replace M1 := Mr.hid M1; replace G3 := Mr.hid G3; replace Gb := Mr.hid Gb; replace Gp := Mr.hid Gp; replace Gq := Mr.hid Gq; replace RW := Mr.hid RW; replace HB := Mr.hid HB)
    | fail)
  have AL := (Below.refl w1.heap.size w1).alloc (Nat.le_refl _) (.cells #[.slice pd1 Nd1 qd1, .slice pd2 Nd2 qd2, .slice pd3 Nd3 qd3, .slice pd4 Nd4 qd4] 53)
  have Ha1 := RW.out.box
  have hW := hW1.out.trans (AL.mono hW1.out.size)
  have M := M1.out.below AL
  have H3 := G3.out.below AL
  have Hb := Gb.out.below AL
  have Hp := Gp.out.below AL
  have Hq := Gq.out.below AL
  have Ha := HB.out.below AL
  generalize w1.alloc (.cells #[.slice pd1 Nd1 qd1, .slice pd2 Nd2 qd2, .slice pd3 Nd3 qd3, .slice pd4 Nd4 qd4] 53) = W1 at *
  generalize w1.heap.size = Ba1 at *
  clear AL RW HB hW1 M1 G3 Gb Gp Gq
  have hya : Bq < W.heap.size + 2 := by omega
  have hBa : Bq < Ba1 := by omega
  generalize W.heap.size + 2 = ya at *
  have lq2 := Hq.lt
  obtain ⟨g30, g31, g32, g33, g34⟩ := H3.cells
  obtain ⟨ga0, ga1, ga2, ga3, ga4⟩ := Ha.cells
  obtain ⟨gb0, gb1, gb2, gb3, gb4⟩ := Hb.cells
  obtain ⟨gp0, gp1, gp2, gp3, gp4⟩ := Hp.cells
  obtain ⟨gq0, gq1, gq2, gq3, gq4⟩ := Hq.cells
  obtain ⟨ga10, ga11, ga12, ga13, ga14⟩ := Ha1.cells
  have SPC := Mr.hid (spoil_rx Hp (by obtain ⟨o0, o1, o2, o3, o4, o5, o5', o6, o6', o7, o8, o9, x0, x1, x2, x3⟩ := O.out; omega) (by obtain ⟨o0, o1, o2, o3, o4, o5, o5', o6, o6', o7, o8, o9, x0, x1, x2, x3⟩ := O.out; omega) 2000 (by decide) (by decide) n1 n2 n4)
  have FR := Mr.hid (fun (w1 : World) (hf : Fr W1 w1 (itv sp tp)) => (show Below w.heap.size w w1 ∧ Lv w1 U k0 k1 q P ∧ (Rx w1 B3 (itv s3 t3) c1 c2 (.slice none 0 0) c4 P.cls P.lg [] P.ws) ∧ (Rx w1 Ba (itv sa ta) a1 a2 (.slice none 0 0) a4 (spl (mC 1000) (aC 1000) P.cls.length 0) (spl (mA 1000) (aA 1000) P.lg.length 0) (spl (aS 1000) (aS 1000) 0 0) (spl (mW 1000) (aW 1000) P.ws.length 0)) ∧ (Rx w1 Bb (itv sb tb) b1 b2 (.slice none 0 0) b4 P.cls P.lg [] P.ws) ∧ (Rx w1 Bq (itv sq tq) r1 r2 (.slice none 0 0) r4 P.cls P.lg [] P.ws) ∧ (Rx w1 Ba1 (fun k => (itv sa ta) k ∨ ya ≤ k) (.slice pd1 Nd1 qd1) (.slice pd2 Nd2 qd2) (.slice pd3 Nd3 qd3) (.slice pd4 Nd4 qd4) (spl (mC 1000) (aC 1000) P.cls.length 70) (spl (mA 1000) (aA 1000) P.lg.length 70) (spl (aS 1000) (aS 1000) 0 70) (spl (mW 1000) (aW 1000) P.ws.length 70)) from by
    obtain ⟨o0, o1, o2, o3, o4, o5, o5', o6, o6', o7, o8, o9, x0, x1, x2, x3⟩ := O.out
    refine ⟨hW.trans (hf.below (fun k hk => by have := hk.1; omega) hW.size), M.itv hf (fun k hk => by have := hU.out k hk; omega) (by omega) (by omega), H3.fr hf (fun hk => by have := hk.1; have := hk.2; omega) (fun k hk hl hk2 => by have := hk2.1; have := hk2.2; have := hk.1; have := hk.2; omega), Ha.fr hf (fun hk => by have := hk.1; have := hk.2; omega) (fun k hk hl hk2 => by have := hk2.1; have := hk2.2; have := hk.1; have := hk.2; omega), Hb.fr hf (fun hk => by have := hk.1; have := hk.2; omega) (fun k hk hl hk2 => by have := hk2.1; have := hk2.2; have := hk.1; have := hk.2; omega), Hq.fr hf (fun hk => by have := hk.1; have := hk.2; omega) (fun k hk hl hk2 => by have := hk2.1; have := hk2.2; have := hk.1; have := hk.2; omega), Ha1.fr hf (fun hk => by have := hk.1; have := hk.2; omega) (fun k hk hl hk2 => by have := hk2.1; have := hk2.2; rcases hk with hk | hk <;> (try have := hk.1) <;> (try have := hk.2) <;> omega)⟩))
  replace H3 := Mr.hid H3
  replace Ha := Mr.hid Ha
  replace Hb := Mr.hid Hb
  replace Hp := Mr.hid Hp
  replace Hq := Mr.hid Hq
  replace Ha1 := Mr.hid Ha1
  replace hW := Mr.hid hW
  replace M := Mr.hid M
  go_upto_region 25 with (first
    | (go_at_call 28; refine SPC.out.mono ?_; clear SPC; rintro e w3 ⟨f1, f2, f3, f4, rfl, hF, RW, HB⟩; obtain ⟨⟨pf1, Nf1, qf1, rfl⟩, ⟨pf2, Nf2, qf2, rfl⟩, ⟨pf3, Nf3, qf3, rfl⟩, ⟨pf4, Nf4, qf4, rfl⟩⟩ := RW.forms; obtain ⟨hW1, M1, G3, Ga, Gb, Gq, Ga1⟩ := FR.out w3 hF; replace hF := hF.size; clear FR hW M H3 Ha Hb Hp Hq Ha1 g30 g31 g32 g33 g34 ga0 ga1 ga2 ga3 ga4 gb0 gb1 gb2 gb3 gb4 gp0 gp1 gp2 gp3 gp4 gq0 gq1 gq2 gq3 gq4 ga10 ga11 ga12 ga13 ga14; replace hW1 := Mr.hid hW1; replace M1 := Mr.hid M1; replace G3 := Mr.hid G3; replace Ga := Mr.hid Ga; replace Gb := Mr.hid Gb; replace Gq := Mr.hid Gq; replace Ga1 := Mr.hid Ga1; replace RW := Mr.hid RW; replace HB := Mr.hid HB)
    | fail)
  have AL := (Below.refl w3.heap.size w3).alloc (Nat.le_refl _) (.cells #[.slice pf1 Nf1 qf1, .slice pf2 Nf2 qf2, .slice pf3 Nf3 qf3, .slice pf4 Nf4 qf4] 53)
  have Hp1 := RW.out.box
  have hW := hW1.out.trans (AL.mono hW1.out.size)
  have M := M1.out.below AL
  have H3 := G3.out.below AL
  have Ha := Ga.out.below AL
  have Hb := Gb.out.below AL
  have Hq := Gq.out.below AL
  have Ha1 := Ga1.out.below AL
  have Hp := HB.out.below AL
  generalize w3.alloc (.cells #[.slice pf1 Nf1 qf1, .slice pf2 Nf2 qf2, .slice pf3 Nf3 qf3, .slice pf4 Nf4 qf4] 53) = W3 at *
  generalize w3.heap.size = Bp1 at *
  clear AL RW HB hW1 M1 G3 Ga Gb Gq Ga1
  have hyp : Bq < W1.heap.size + 2 := by omega
  have hBp : Bq < Bp1 := by omega
  generalize W1.heap.size + 2 = yp at *
  have RN := Mr.hid (fun (W' : World) (hB : Below W3.heap.size W3 W') => live_rw (M.below hB))
  have SR := Mr.hid (fun (W' : World) (hB : Below W3.heap.size W3 W') (v1 v2 v4 : Value) (S : Nat → Prop) (h : Rw W' S v1 v2 (.slice none 0 0) v4 P.cls P.lg [] P.ws) => same_rx h (H3.r.below hB) n1 n2 n4)
  have SB := Mr.hid (fun (W' : World) (hB : Below W3.heap.size W3 W') => same_rx (Hb.r.below hB) (H3.r.below hB) n1 n2 n4)
  have SQ := Mr.hid (fun (W' : World) (hB : Below W3.heap.size W3 W') => same_rx (Hq.r.below hB) (H3.r.below hB) n1 n2 n4)
  have KS := Mr.hid (fun (W' : World) (hB : Below W3.heap.size W3 W') => (show (W'.cell? ⟨B3, 0, none⟩ = some c1 ∧ W'.cell? ⟨B3, 1, none⟩ = some c2 ∧ W'.cell? ⟨B3, 2, none⟩ = some (.slice none 0 0) ∧ W'.cell? ⟨B3, 3, none⟩ = some c4 ∧ B3 < W'.heap.size) ∧ (W'.cell? ⟨Bb, 0, none⟩ = some b1 ∧ W'.cell? ⟨Bb, 1, none⟩ = some b2 ∧ W'.cell? ⟨Bb, 2, none⟩ = some (.slice none 0 0) ∧ W'.cell? ⟨Bb, 3, none⟩ = some b4 ∧ Bb < W'.heap.size) ∧ (W'.cell? ⟨Bq, 0, none⟩ = some r1 ∧ W'.cell? ⟨Bq, 1, none⟩ = some r2 ∧ W'.cell? ⟨Bq, 2, none⟩ = some (.slice none 0 0) ∧ W'.cell? ⟨Bq, 3, none⟩ = some r4 ∧ Bq < W'.heap.size) from ⟨(H3.below hB).cells, (Hb.below hB).cells, (Hq.below hB).cells⟩))
  have FIN := Mr.hid (fun (W' : World) (hB : Below W3.heap.size W3 W') => (show Below w.heap.size w W' ∧ Lv W' U k0 k1 q P ∧ (Rx W' B3 (itv s3 t3) c1 c2 (.slice none 0 0) c4 P.cls P.lg [] P.ws) ∧ (Rx W' Bb (itv sb tb) b1 b2 (.slice none 0 0) b4 P.cls P.lg [] P.ws) ∧ (Rx W' Bq (itv sq tq) r1 r2 (.slice none 0 0) r4 P.cls P.lg [] P.ws) ∧ (Rx W' Ba (itv sa ta) a1 a2 (.slice none 0 0) a4 (spl (mC 1000) (aC 1000) P.cls.length 0) (spl (mA 1000) (aA 1000) P.lg.length 0) (spl (aS 1000) (aS 1000) 0 0) (spl (mW 1000) (aW 1000) P.ws.length 0)) ∧ (Rx W' Bp (itv sp tp) p1 p2 (.slice none 0 0) p4 (spl (mC 2000) (aC 2000) P.cls.length 0) (spl (mA 2000) (aA 2000) P.lg.length 0) (spl (aS 2000) (aS 2000) 0 0) (spl (mW 2000) (aW 2000) P.ws.length 0)) ∧ (Rx W' Ba1 (fun k => (itv sa ta) k ∨ ya ≤ k) (.slice pd1 Nd1 qd1) (.slice pd2 Nd2 qd2) (.slice pd3 Nd3 qd3) (.slice pd4 Nd4 qd4) (spl (mC 1000) (aC 1000) P.cls.length 70) (spl (mA 1000) (aA 1000) P.lg.length 70) (spl (aS 1000) (aS 1000) 0 70) (spl (mW 1000) (aW 1000) P.ws.length 70)) ∧ (Rx W' Bp1 (fun k => (itv sp tp) k ∨ yp ≤ k) (.slice pf1 Nf1 qf1) (.slice pf2 Nf2 qf2) (.slice pf3 Nf3 qf3) (.slice pf4 Nf4 qf4) (spl (mC 2000) (aC 2000) P.cls.length 70) (spl (mA 2000) (aA 2000) P.lg.length 70) (spl (aS 2000) (aS 2000) 0 70) (spl (mW 2000) (aW 2000) P.ws.length 70)) from ⟨hW.trans (hB.mono hW.size), M.below hB, H3.below hB, Hb.below hB, Hq.below hB, Ha.below hB, Hp.below hB, Ha1.below hB, Hp1.below hB⟩))
  have BC := Mr.hid (Below.refl W3.heap.size W3)
  obtain ⟨⟨g30, g31, g32, g33, g34⟩, ⟨gb0, gb1, gb2, gb3, gb4⟩, ⟨gq0, gq1, gq2, gq3, gq4⟩⟩ := KS.out W3 BC.out
  replace hW := Mr.hid hW
  replace M := Mr.hid M
  clear H3 Hb Hq Ha Hp Ha1 Hp1
  go_upto_region 27 with (first
    | (go_at_call 16; (first | (refine (SB.out _ BC.out).mono ?_; clear SB) | (refine (SQ.out _ BC.out).mono ?_; clear SQ)); rintro e wy ⟨rfl, hBy⟩; have BD := Mr.hid (BC.out.trans (hBy.mono BC.out.size)); clear g30 g31 g32 g33 g34 gb0 gb1 gb2 gb3 gb4 gq0 gq1 gq2 gq3 gq4 hBy BC; have BC := BD; clear BD; obtain ⟨⟨g30, g31, g32, g33, g34⟩, ⟨gb0, gb1, gb2, gb3, gb4⟩, ⟨gq0, gq1, gq2, gq3, gq4⟩⟩ := KS.out wy BC.out)
    | fail)
  have BE := Mr.hid (BC.out.trans ((Below.refl _ _).drew.mono BC.out.size))
  go_cut [133] (fun t wx => t = .bool false ∧ Below W3.heap.size W3 wx)
  case first =>
    go_wp2
    go_region_held3 (fun w' => w'.cell? ⟨B3, 0, none⟩ = some c1 ∧ w'.cell? ⟨B3, 1, none⟩ = some c2 ∧ w'.cell? ⟨B3, 2, none⟩ = some (.slice none 0 0) ∧ w'.cell? ⟨B3, 3, none⟩ = some c4) (first | exact CF7.out | exact CF6.out | go_keep)
      (first
        | (go_at_call 17; refine (RN.out _ BE.out).mono ?_; rintro e w6 ⟨u1, u2, u4, rfl, RU, hB6⟩; have B6 := Mr.hid (BE.out.trans (hB6.mono BE.out.size)); obtain ⟨⟨y0, y1, y2, y3, _⟩, _⟩ := KS.out w6 B6.out; have CF6 := Mr.hid (And.intro y0 (And.intro y1 (And.intro y2 y3))); replace RU := Mr.hid RU; clear hB6 y0 y1 y2 y3)
        | (go_at_call 16; refine (SR.out _ B6.out _ _ _ _ RU.out).mono ?_; rintro e w7 ⟨rfl, hB7⟩; have B7 := Mr.hid (B6.out.trans (hB7.mono B6.out.size)); obtain ⟨⟨y0, y1, y2, y3, _⟩, _⟩ := KS.out w7 B7.out; have CF7 := Mr.hid (And.intro y0 (And.intro y1 (And.intro y2 y3))); clear hB7 y0 y1 y2 y3))
    all_goals go_wp2
    all_goals go_meet
    all_goals exact ⟨rfl, B7.out⟩
  case rest =>
    obtain ⟨rfl, BX⟩ := hcut
    replace BX := Mr.hid BX
    rename (∀ (a : Act) (w : World), Code.wp _ (Code.seq _ _) _ a w → _) => hK1
    replace hK1 := Mr.hid hK1
    go_wp2
    refine hK1.out _ _ ?_
    obtain ⟨hWx, Mx, H3, Hb, Hq, Ha, Hp, Ha1, Hp1⟩ := FIN.out wc BX.out
    exact own_17 hWx Mx hU.out n1 n2 n4 O.out hya hyp hBa hBp H3 Hb Hq Ha Hp Ha1 Hp1
end Go.Proofs.Ytglppcoohojmpaa.Rf
