import Derived.Test.YtglppcoohojmpaaRfMovesB
/-
  MachineMoves: from the machines' making on; its refusals; the whole.
-/
namespace Go.Proofs.Ytglppcoohojmpaa.Rf
open Go.RowKit Go.Shelf Mr Me Ma
noncomputable def codeM3 : Code := tl 3 (Try.f5.body.getD .skip)
set_option maxRecDepth 100000 in
set_option maxHeartbeats 8000000 in
theorem moves_A3 {w W : World} {U1 : Nat → Prop} {k0 k1 nth n cap nm cm : Nat} {q1 : Ph} {a am : Option Addr} {ws : List Int} {ms : List Mv} (hL : Lv W U1 k0 k1 q1 (Pm.new nth ws)) (hk0 : w.heap.size < k0) (hk : k0 ≤ k1) (K : K3 w W (.int .i64 (nth : Int)) (.slice a n cap) (.slice am nm cm)) (h1 : 1 ≤ nth) (h2 : nth ≤ 16) (hs : Src w a n cap ws) (hn : n ≤ 8192) (hm : MvAt w am nm ms) (hz : nm * 32 ≤ 140737488351232) (ask : Int) {z0 z3 z4 z7 z8 z9 z10 z11 z12 z13 z14 z15 z16 z17 z18 z19 z20 z21 z22 z23 z24 z25 z26 z27 z28 z29 z30 z31 z32 z33 z34 z35 z36 z37 z38 z39 z40 z41 z42 z43 z44 z45 z46 z47 z48 z49 z50 z51 z52 z53 z54 z55 z56 z57 z58 z59 z60 z61 z62 z63 z64 z65 z66 z67 z68 z69 z70 z71 z72 z73 z74 z75 z76 z77 z78 z79 z80 z81 z82 z83 z84 z85 z86 z87 z88 z89 z90 z91 z92 z93 z94 z95 z96 z97 z98 z99 z100 z101 z102 z103 z104 z105 z106 z107 z108 z109 z110 z111 z112 z113 z114 z115 z116 z117 z118 z119 z120 z121 z122 z123 z124 z125 z126 z127 z128 z129 z130 z131 z132 z133 z134 z135 z136 z137 z138 z139 z140 z141 z142 z143 z144 z145 z146 z147 z148 z149 z150 z151 z152 z153 z154 z155 z156 z157 z158 z159 z160 z161 z162 z163 z164 z165 z166 z167 z168 z169 z170 z171 z172 z173 z174 z175 z176 z177 z178 z179 z180 z181 z182 z183 z184 z185 z186 z187 z188 z189 z190 z191 z192 z193 z194 z195 z196 z197 : Value} :
    Code.wp Try.prog codeM3 (bodyPost Try.prog Try.f5 fun e w' => e = .returned (.bool true) ∧ Below w.heap.size w w') ⟨#[z0, .int .i64 ask, .pointer (some ⟨w.heap.size, 0, none⟩), z3, z4, .pointer (some ⟨q1.b, 0, none⟩), .int .i64 0, z7, z8, z9, z10, z11, z12, z13, z14, z15, z16, z17, z18, z19, z20, z21, z22, z23, z24, z25, z26, z27, z28, z29, z30, z31, z32, z33, z34, z35, z36, z37, z38, z39, z40, z41, z42, z43, z44, z45, z46, z47, z48, z49, z50, z51, z52, z53, z54, z55, z56, z57, z58, z59, z60, z61, z62, z63, z64, z65, z66, z67, z68, z69, z70, z71, z72, z73, z74, z75, z76, z77, z78, z79, z80, z81, z82, z83, z84, z85, z86, z87, z88, z89, z90, z91, z92, z93, z94, z95, z96, z97, z98, z99, z100, z101, z102, z103, z104, z105, z106, z107, z108, z109, z110, z111, z112, z113, z114, z115, z116, z117, z118, z119, z120, z121, z122, z123, z124, z125, z126, z127, z128, z129, z130, z131, z132, z133, z134, z135, z136, z137, z138, z139, z140, z141, z142, z143, z144, z145, z146, z147, z148, z149, z150, z151, z152, z153, z154, z155, z156, z157, z158, z159, z160, z161, z162, z163, z164, z165, z166, z167, z168, z169, z170, z171, z172, z173, z174, z175, z176, z177, z178, z179, z180, z181, z182, z183, z184, z185, z186, z187, z188, z189, z190, z191, z192, z193, z194, z195, z196, z197], []⟩ W := by
  have hl := hs.1
  have hkl : k1 ≤ W.heap.size := by
    obtain ⟨S, vl, va, vc, mv, ah, bt, hM, _⟩ := hL.r
    have := hM.2.ul _ hM.2.ub.1
    have := hL.u _ hM.2.ub.1
    omega
  have d1 : decide ((nth : Int) < 1) = false := decide_eq_false (by omega)
  have d2 : decide (16 < (nth : Int)) = false := decide_eq_false (by omega)
  have d3 : decide (8192 < (n : Int)) = false := decide_eq_false (by omega)
  have O := Mr.hid (Own_any W)
  have NW := Mr.hid (fun (w1 : World) (hK : K3 w w1 (.int .i64 (nth : Int)) (.slice a n cap) (.slice am nm cm)) (g1 g2 : Nat) (c1 : w1.heap[g1]? = some (.cells (ownCode.flatMap Ins.cells).toArray 112 (0, 0))) => New_any w1 nth (by omega) a n cap ws (hs.below hK.1) hn (gd := g1) (cd := 13) (ne := 2) (code := ownCode) (S := fun _ => True) (ae := some ⟨g2, 0, none⟩) (ce := 2) (has_code trivial c1) own_kinds)
  have ST := Mr.hid (fun (w1 w2 : World) (b g1 g2 : Nat) (vw vlb vt : Value) (k1 : _) (k2 : _) (k3 : W.heap.size ≤ g1) (k4 : W.heap.size ≤ g2) (k5 : W.heap.size ≤ w1.heap.size) (N : Nw w1 w2 nth b ws ownCode (.slice (some ⟨g1, 0, none⟩) 13 13) (.slice (some ⟨g2, 0, none⟩) 2 2) vw vlb vt) => start_sm (B := W.heap.size) h1 (by omega) k1 k2 k3 k4 k5 N)
  obtain ⟨f0, f1, f2, hw0⟩ := K.cells
  replace hL := Mr.hid hL
  replace K := Mr.hid K
  replace hs := Mr.hid hs
  replace hm := Mr.hid hm
  replace hl := Mr.hid hl
  unfold codeM3
  conv => arg 2; whnf
  go_upto_region 11 with (first
    | (go_at_call 12; refine O.out.mono ?_; clear O; rintro e w1 ⟨g1, g2, rfl, l1, l2, c1, c2, hB1⟩; have K1 := K.out.below hB1; have NW1 := Mr.hid (NW.out w1 K1 g1 g2 c1); have ST1 := Mr.hid (fun (w2 : World) (b : Nat) (vw vlb vt : Value) => ST.out w1 w2 b g1 g2 vw vlb vt c1 c2 l1 l2 hB1.size); have L1 := Mr.hid (hL.out.below hB1); have hU1 := Mr.hid (hL.out.ul); have hs1 := hB1.size; replace K1 := Mr.hid K1; clear NW ST hB1 c1 c2 l1 l2 hL K f0 f1 f2 hw0)
    | fail)
  obtain ⟨f0, f1, f2, hw1⟩ := K1.out.cells
  go_cut [9] (fun s9 wx => ∃ (q2 : Rc) (D1 D2 : Nat), s9 = .pointer (some ⟨q2.b, 0, none⟩) ∧ Duo w wx D1 D2 k0 k1 q1 q2 (.int .i64 (nth : Int)) (.slice a n cap) (.slice am nm cm) (Pm.new nth ws) (Pm.new nth ws))
  case first =>
    go_wp2_with (go_at_call 13; refine NW1.out.mono ?_; clear NW1; rintro e w2 ⟨b, vw, vlb, vt, rfl, N⟩; obtain ⟨q2, U2, hqb, hS, hU2⟩ := ST1.out w2 b vw vlb vt N; have DD : Duo w w2 W.heap.size w2.heap.size k0 k1 q1 q2 (.int .i64 (nth : Int)) (.slice a n cap) (.slice am nm cm) (Pm.new nth ws) (Pm.new nth ws) := ⟨⟨U1, U2, L1.out.below N.bel, hS, fun k g1 g2 => by have := hU1.out k g1; have := hU2 k g2; omega, fun k g => by have := hU2 k g; omega, hU1.out, hS.ul⟩, hk0, hk, by have := N.bel.size; omega, Nat.le_refl _, K1.out.below N.bel⟩; obtain rfl := hqb; replace DD := Mr.hid DD; clear N hS ST1 hU2)
    go_meet
    case rel => exact ⟨q2, _, _, rfl, DD.out⟩
  case rest =>
    obtain ⟨q2, D1, D2, rfl, DD⟩ := hcut
    go_step
    exact moves_B DD (Lc.new nth ws) h2 hm.out hz ask
end Go.Proofs.Ytglppcoohojmpaa.Rf
