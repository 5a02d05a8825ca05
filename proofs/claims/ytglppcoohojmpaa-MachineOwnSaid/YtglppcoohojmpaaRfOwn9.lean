import Derived.Test.YtglppcoohojmpaaRfOwn13
/-
  MachineOwn: from the runs on.
-/
namespace Go.Proofs.Ytglppcoohojmpaa.Rf
open Go.RowKit Go.Shelf Mr Me Ma
set_option linter.unusedVariables false
theorem play_rw (w : World) (nth : Nat) (h1 : 1 ≤ nth) (h2 : nth ≤ 16) (a : Option Addr) (n cap : Nat) (ws : List Int) (hs : Src w a n cap ws) (hn : n ≤ 8192) (am : Option Addr) (nm cm : Nat) (ms : List Mv) (hm : MvAt w am nm ms) (hnm : nm ≤ 65536) :
    Calls Try.prog 21 #[.int .i64 (nth : Int), .slice a n cap, .slice am nm cm] w fun e w' => ∃ v1 v2 v4, e = .returned (.tuple #[.agg #[v1, v2, .slice none 0 0, v4], .int .i64 0]) ∧ Rw w' (itv w.heap.size w'.heap.size) v1 v2 (.slice none 0 0) v4 ((Pm.new nth ws).play ms).cls ((Pm.new nth ws).play ms).lg [] ((Pm.new nth ws).play ms).ws ∧ Below w.heap.size w w' := by
  refine (play_ok w nth h1 h2 a n cap ws hs hn am nm cm ms hm hnm).mono ?_
  rintro e w' ⟨v1, v2, v4, rfl, h1, h2, h4, hB⟩
  have up : ∀ {e sz n : Nat} {v : Value} {xs : List Value}, Has w' (fun k => w.heap.size ≤ k) e sz v n xs → Has w' (itv w.heap.size w'.heap.size) e sz v n xs := fun hh => hh.kept (fun _ _ => rfl) (fun k hk => ⟨(hh.lt k hk).1, (hh.lt k hk).2⟩)
  exact ⟨v1, v2, v4, rfl, ⟨up h1, up h2, Has.nil _ _ _ _, up h4⟩, hB⟩
noncomputable def codeO9 : Code := tl 9 (Try.f6.body.getD .skip)
set_option maxRecDepth 100000 in
set_option maxHeartbeats 8000000 in
theorem own_9 {w W : World} {U : Nat → Prop} {k0 k1 s3 t3 B3 nth n cap nm cm : Nat} {a am : Option Addr} {ws : List Int} {ms : List Mv} {q : Ph} {P : Pm} {c1 c2 c4 : Value} (K : K3 w W (.int .i64 (nth : Int)) (.slice a n cap) (.slice am nm cm)) (M : Lv W U k0 k1 q P) (hP : P = (Pm.new nth ws).play ms) (n1 : P.cls.length ≤ 100000) (n2 : P.lg.length ≤ 100000) (n4 : P.ws.length ≤ 100000) (h1 : 1 ≤ nth) (h2 : nth ≤ 16) (hs : Src w a n cap ws) (hn : n ≤ 8192) (hm : MvAt w am nm ms) (hnm : nm ≤ 65536) (hB3 : w.heap.size < B3) (ht3 : t3 ≤ B3) (hk1 : k1 ≤ W.heap.size) (H3 : Rx W B3 (itv s3 t3) c1 c2 (.slice none 0 0) c4 P.cls P.lg [] P.ws) {z0 z2 z4 z5 z7 z8 z9 z10 z11 z12 z13 z14 z15 z16 z17 z18 z19 z20 z21 z22 z23 z24 z25 z26 z27 z28 z29 z30 z31 z32 z33 z34 z35 z36 z37 z38 z39 z40 z41 z42 z43 z44 z45 z46 z47 z48 z49 z50 z51 z52 z53 z54 z55 z56 z57 z58 z59 z60 z61 z62 z63 z64 z65 z66 z67 z68 z69 z70 z71 z72 z73 z74 z75 z76 z77 z78 z79 z80 z81 z82 z83 z84 z85 z86 z87 z88 z89 z90 z91 z92 z93 z94 z95 z96 z97 z98 z99 z100 z101 z102 z103 z104 z105 z106 z107 z108 z109 z110 z111 z112 z113 z114 z115 z116 z117 z118 z119 z120 z121 z122 z123 z124 z125 z126 z127 z128 z129 z130 z131 z132 z133 z134 z135 z136 z137 z138 z139 z140 z141 z142 z143 z144 z145 z146 z147 z148 z149 z150 z151 z152 z153 z154 z155 z156 z157 z158 z159 z160 z161 z162 z163 z164 z165 z166 z167 z168 z169 z170 : Value} :
    Code.wp Try.prog codeO9 (bodyPost Try.prog Try.f6 fun e w' => e = .returned (.bool true) ∧ Below w.heap.size w w') ⟨#[z0, .pointer (some ⟨w.heap.size, 0, none⟩), z2, .pointer (some ⟨B3, 0, none⟩), z4, z5, .pointer (some ⟨q.b, 0, none⟩), z7, z8, z9, z10, z11, z12, z13, z14, z15, z16, z17, z18, z19, z20, z21, z22, z23, z24, z25, z26, z27, z28, z29, z30, z31, z32, z33, z34, z35, z36, z37, z38, z39, z40, z41, z42, z43, z44, z45, z46, z47, z48, z49, z50, z51, z52, z53, z54, z55, z56, z57, z58, z59, z60, z61, z62, z63, z64, z65, z66, z67, z68, z69, z70, z71, z72, z73, z74, z75, z76, z77, z78, z79, z80, z81, z82, z83, z84, z85, z86, z87, z88, z89, z90, z91, z92, z93, z94, z95, z96, z97, z98, z99, z100, z101, z102, z103, z104, z105, z106, z107, z108, z109, z110, z111, z112, z113, z114, z115, z116, z117, z118, z119, z120, z121, z122, z123, z124, z125, z126, z127, z128, z129, z130, z131, z132, z133, z134, z135, z136, z137, z138, z139, z140, z141, z142, z143, z144, z145, z146, z147, z148, z149, z150, z151, z152, z153, z154, z155, z156, z157, z158, z159, z160, z161, z162, z163, z164, z165, z166, z167, z168, z169, z170], []⟩ W := by
  have l3 := H3.lt
  have hU := Mr.hid M.ul
  have PL := Mr.hid (fun (W' : World) (hK : K3 w W' (.int .i64 (nth : Int)) (.slice a n cap) (.slice am nm cm)) => play_rw W' nth h1 h2 a n cap ws (hs.below hK.1) hn am nm cm ms (hm.below hK.1) hnm)
  rw [← hP] at PL
  have RN := Mr.hid (fun (W' : World) (hB : Below W.heap.size W W') => live_rw (M.below hB))
  have R1 := Mr.hid (live_rw M)
  replace K := Mr.hid K
  replace M := Mr.hid M
  replace H3 := Mr.hid H3
  replace hP := Mr.hid hP
  replace hs := Mr.hid hs
  replace hm := Mr.hid hm
  unfold codeO9
  conv => arg 2; whnf
  go_upto_region 19 with (first
    | (go_at_call 17; first
        | (refine R1.out.mono ?_; clear R1; rintro e w1 ⟨a1, a2, a4, rfl, RA, hB1⟩; obtain ⟨⟨pa1, Na1, qa1, rfl⟩, ⟨pa2, Na2, qa2, rfl⟩, _, ⟨pa4, Na4, qa4, rfl⟩⟩ := RA.forms; replace RA := Mr.hid RA; replace hB1 := Mr.hid hB1)
        | (refine (RN.out _ hB1.out).mono ?_; clear RN; rintro e w2 ⟨b1, b2, b4, rfl, RB, hB2⟩; obtain ⟨⟨pb1, Nb1, qb1, rfl⟩, ⟨pb2, Nb2, qb2, rfl⟩, _, ⟨pb4, Nb4, qb4, rfl⟩⟩ := RB.forms; replace RB := Mr.hid RB; replace hB2 := Mr.hid hB2))
    | fail)
  have A1 := (Below.refl w2.heap.size w2).alloc (Nat.le_refl _) (.cells #[.slice pa1 Na1 qa1, .slice pa2 Na2 qa2, .slice none 0 0, .slice pa4 Na4 qa4] 53)
  have A2 := (Below.refl (w2.alloc (.cells #[.slice pa1 Na1 qa1, .slice pa2 Na2 qa2, .slice none 0 0, .slice pa4 Na4 qa4] 53)).heap.size (w2.alloc (.cells #[.slice pa1 Na1 qa1, .slice pa2 Na2 qa2, .slice none 0 0, .slice pa4 Na4 qa4] 53))).alloc (Nat.le_refl _) (.cells #[.slice pb1 Nb1 qb1, .slice pb2 Nb2 qb2, .slice none 0 0, .slice pb4 Nb4 qb4] 53)
  have Ha := ((RA.out.below hB2.out).box).below A2
  have Hb := (RB.out.below A1).box
  have hsA : (w2.alloc (.cells #[.slice pa1 Na1 qa1, .slice pa2 Na2 qa2, .slice none 0 0, .slice pa4 Na4 qa4] 53)).heap.size = w2.heap.size + 1 := by simp
  have hs3 : ((w2.alloc (.cells #[.slice pa1 Na1 qa1, .slice pa2 Na2 qa2, .slice none 0 0, .slice pa4 Na4 qa4] 53)).alloc (.cells #[.slice pb1 Nb1 qb1, .slice pb2 Nb2 qb2, .slice none 0 0, .slice pb4 Nb4 qb4] 53)).heap.size = w2.heap.size + 2 := by simp
  rw [hsA] at Hb
  have B13 : Below W.heap.size W ((w2.alloc (.cells #[.slice pa1 Na1 qa1, .slice pa2 Na2 qa2, .slice none 0 0, .slice pa4 Na4 qa4] 53)).alloc (.cells #[.slice pb1 Nb1 qb1, .slice pb2 Nb2 qb2, .slice none 0 0, .slice pb4 Nb4 qb4] 53)) := ((hB1.out.trans (hB2.out.mono hB1.out.size)).trans (A1.mono (Nat.le_trans hB1.out.size hB2.out.size))).trans (A2.mono (by rw [hsA]; have := hB1.out.size; have := hB2.out.size; omega))
  have z1 := hB1.out.size
  have z2 := hB2.out.size
  have K3' := Mr.hid (K.out.below B13)
  have M3 := Mr.hid (M.out.below B13)
  have H33 := Mr.hid (H3.out.below B13)
  replace Ha := Mr.hid Ha
  replace Hb := Mr.hid Hb
  clear RA RB hB1 hB2 A1 A2 B13 hsA K M H3
  generalize (w2.alloc (.cells #[.slice pa1 Na1 qa1, .slice pa2 Na2 qa2, .slice none 0 0, .slice pa4 Na4 qa4] 53)).alloc (.cells #[.slice pb1 Nb1 qb1, .slice pb2 Nb2 qb2, .slice none 0 0, .slice pb4 Nb4 qb4] 53) = W3 at *
  generalize w2.heap.size = tb at *
  generalize w1.heap.size = ta at *
  obtain ⟨f0, f1, f2, hw3⟩ := K3'.out.cells
  have P1 := Mr.hid (PL.out W3 K3'.out)
  go_upto_region 20 with (first
    | (go_at_call 21; refine P1.out.mono ?_; clear P1; rintro e w4 ⟨p1, p2, p4, rfl, RP, hB4⟩; obtain ⟨⟨pp1, Np1, qp1, rfl⟩, ⟨pp2, Np2, qp2, rfl⟩, _, ⟨pp4, Np4, qp4, rfl⟩⟩ := RP.forms; replace RP := Mr.hid RP; replace hB4 := Mr.hid hB4; clear f0 f1 f2 hw3)
    | fail)
  have A4 := (Below.refl w4.heap.size w4).alloc (Nat.le_refl _) (.cells #[.slice pp1 Np1 qp1, .slice pp2 Np2 qp2, .slice none 0 0, .slice pp4 Np4 qp4] 53)
  have Hp := Mr.hid RP.out.box
  have hs5 : (w4.alloc (.cells #[.slice pp1 Np1 qp1, .slice pp2 Np2 qp2, .slice none 0 0, .slice pp4 Np4 qp4] 53)).heap.size = w4.heap.size + 1 := by simp
  have B45 := hB4.out.trans (A4.mono hB4.out.size)
  have z4 := hB4.out.size
  have K5 := Mr.hid (K3'.out.below B45)
  have M5 := Mr.hid (M3.out.below B45)
  have H35 := Mr.hid (H33.out.below B45)
  have Ha5 := Mr.hid (Ha.out.below B45)
  have Hb5 := Mr.hid (Hb.out.below B45)
  clear RP hB4 A4 B45 K3' M3 H33 Ha Hb
  generalize w4.alloc (.cells #[.slice pp1 Np1 qp1, .slice pp2 Np2 qp2, .slice none 0 0, .slice pp4 Np4 qp4] 53) = W5 at *
  generalize w4.heap.size = tp at *
  obtain ⟨f0, f1, f2, hw5⟩ := K5.out.cells
  have P2 := Mr.hid (PL.out W5 K5.out)
  go_upto_region 21 with (first
    | (go_at_call 21; refine P2.out.mono ?_; clear P2; rintro e w6 ⟨r1, r2, r4, rfl, RQ, hB6⟩; obtain ⟨⟨pr1, Nr1, qr1, rfl⟩, ⟨pr2, Nr2, qr2, rfl⟩, _, ⟨pr4, Nr4, qr4, rfl⟩⟩ := RQ.forms; replace RQ := Mr.hid RQ; replace hB6 := Mr.hid hB6; clear f0 f1 f2 hw5)
    | fail)
  have A6 := (Below.refl w6.heap.size w6).alloc (Nat.le_refl _) (.cells #[.slice pr1 Nr1 qr1, .slice pr2 Nr2 qr2, .slice none 0 0, .slice pr4 Nr4 qr4] 53)
  have Hq := RQ.out.box
  have B67 := hB6.out.trans (A6.mono hB6.out.size)
  have z6 := hB6.out.size
  have K7 := K5.out.below B67
  have M7 := M5.out.below B67
  have H3 := H35.out.below B67
  have Ha := Ha5.out.below B67
  have Hb := Hb5.out.below B67
  have Hp := Hp.out.below B67
  clear RQ hB6 A6 B67 K5 M5 H35 Ha5 Hb5
  generalize w6.alloc (.cells #[.slice pr1 Nr1 qr1, .slice pr2 Nr2 qr2, .slice none 0 0, .slice pr4 Nr4 qr4] 53) = W7 at *
  generalize w6.heap.size = tq at *
  have OO : Od w.heap.size B3 t3 k1 W.heap.size ta ta tb tb (tb + 1) W3.heap.size tp tp W5.heap.size tq tq := ⟨hB3, ht3, l3, hk1, Nat.le_refl _, Nat.le_refl _, by omega, by omega, by omega, Nat.le_refl _, by omega, Nat.le_refl _, z1, z2, z4, z6⟩
  have SA := Mr.hid (fun (W' : World) (hB : Below W7.heap.size W7 W') => same_rx (Ha.r.below hB) (H3.r.below hB) n1 n2 n4)
  have SP := Mr.hid (fun (W' : World) (hB : Below W7.heap.size W7 W') => same_rx (Hp.r.below hB) (H3.r.below hB) n1 n2 n4)
  have KS := Mr.hid (fun (W' : World) (hB : Below W7.heap.size W7 W') => (⟨(H3.below hB).cells, (Ha.below hB).cells, (Hp.below hB).cells⟩ : _ ∧ _ ∧ _))
  have FIN := Mr.hid (fun (W' : World) (hB : Below W7.heap.size W7 W') => (⟨K7.1.trans (hB.mono K7.1.size), M7.below hB, H3.below hB, Ha.below hB, Hb.below hB, Hp.below hB, Hq.below hB⟩ : _ ∧ _ ∧ _ ∧ _ ∧ _ ∧ _ ∧ _))
  have BC := Mr.hid (Below.refl W7.heap.size W7)
  replace OO := Mr.hid OO
  clear K7 M7 Ha Hb Hp Hq PL
  obtain ⟨⟨g30, g31, g32, g33, g34⟩, ⟨ga0, ga1, ga2, ga3, ga4⟩, ⟨gp0, gp1, gp2, gp3, gp4⟩⟩ := KS.out W7 BC.out
  clear H3 hs3 hs5 z1 z2 z4 z6
  rename (∀ (a : Act) (w : World), Code.wp _ (Code.seq _ _) _ a w → _) => hK1
  replace hK1 := Mr.hid hK1
  go_wp2_with (go_at_call 16; (first | (refine (SA.out _ BC.out).mono ?_; clear SA) | (refine (SP.out _ BC.out).mono ?_; clear SP)); rintro e wy ⟨rfl, hBy⟩; have BD := Mr.hid (BC.out.trans (hBy.mono BC.out.size)); clear g30 g31 g32 g33 g34 ga0 ga1 ga2 ga3 ga4 gp0 gp1 gp2 gp3 gp4 hBy BC; have BC := BD; clear BD; obtain ⟨⟨g30, g31, g32, g33, g34⟩, ⟨ga0, ga1, ga2, ga3, ga4⟩, ⟨gp0, gp1, gp2, gp3, gp4⟩⟩ := KS.out wy BC.out)
  refine hK1.out _ _ ?_
  obtain ⟨hWx, Mx, H3, Ha, Hb, Hp, Hq⟩ := FIN.out _ BC.out
  exact own_13 hWx Mx hU.out n1 n2 n4 OO.out H3 Ha Hb Hp Hq
end Go.Proofs.Ytglppcoohojmpaa.Rf
