import Derived.Test.YtglppcoohojmpaaRfJn10
/-
  MachineJoins: the document's machines are made.
-/
namespace Go.Proofs.Ytglppcoohojmpaa.Rf
open Go.RowKit Go.Shelf Mr Me Ma
set_option linter.unusedVariables false
theorem pe_start {w w1 w2 w3 : World} {x y z : Value} {g1 g2 x0 x1 x2 x3 x4 x5 x6 kma kmb kmc la lb : Nat} {Ua Ub Uc V3 V4 : Nat → Prop} {qa qb qc : Ph} {qw qp : Rc} {P : Pm}
    (ea : LvG w3 Ua (fun k => x0 ≤ k ∧ k < x1) kma la qa P) (eb : LvG w3 Ub (fun k => x2 ≤ k ∧ k < x3) kmb lb qb P) (ec : LvG w3 Uc (fun k => x4 ≤ k ∧ k < x5) kmc 0 qc P) (e3 : Ss w3 V3 g1 g2 qw P) (e4 : Ss w3 V4 g1 g2 qp P) (k : K3 w w3 x y z)
    (o0 : w.heap.size < x0) (o1 : x0 ≤ x1) (o2 : x1 ≤ x2) (o3 : x2 ≤ x3) (o4 : x3 ≤ x4) (o5 : x4 ≤ x5) (o6 : x5 ≤ x6) (ga : x6 ≤ g1) (gb : x6 ≤ g2) (ga' : g1 < w1.heap.size) (gb' : g2 < w1.heap.size) (z12 : w1.heap.size ≤ w2.heap.size) (z23 : w2.heap.size ≤ w3.heap.size)
    (ua : ∀ k, Ua k → x1 ≤ k ∧ k < x2) (ub : ∀ k, Ub k → x3 ≤ k ∧ k < x4) (uc : ∀ k, Uc k → x5 ≤ k ∧ k < x6) (u3 : ∀ k, V3 k → w1.heap.size ≤ k ∧ k < w2.heap.size) (u4 : ∀ k, V4 k → w2.heap.size ≤ k ∧ k < w3.heap.size) :
    Pe w w3 (fun k => k ≤ w.heap.size ∨ (x0 ≤ k ∧ k < x1) ∨ (x2 ≤ k ∧ k < x3) ∨ (x4 ≤ k ∧ k < x5) ∨ k = g1 ∨ k = g2) x y z g1 g2 (fun k => x0 ≤ k ∧ k < x1) (fun k => x2 ≤ k ∧ k < x3) (fun k => x4 ≤ k ∧ k < x5) kma kmb kmc la lb qa qb qc qw qp P P P P P := by
  have lo : ∀ i k, (match i with | 0 => Ua | 1 => Ub | 2 => Uc | 3 => V3 | _ => V4) k → i < 5 → (i = 0 ∧ x1 ≤ k ∧ k < x2) ∨ (i = 1 ∧ x3 ≤ k ∧ k < x4) ∨ (i = 2 ∧ x5 ≤ k ∧ k < x6) ∨ (i = 3 ∧ w1.heap.size ≤ k ∧ k < w2.heap.size) ∨ (i = 4 ∧ w2.heap.size ≤ k ∧ k < w3.heap.size) := fun i k hk hi => by
    have : i = 0 ∨ i = 1 ∨ i = 2 ∨ i = 3 ∨ i = 4 := by omega
    rcases this with rfl | rfl | rfl | rfl | rfl
    · exact .inl ⟨rfl, ua k hk⟩
    · exact .inr (.inl ⟨rfl, ub k hk⟩)
    · exact .inr (.inr (.inl ⟨rfl, uc k hk⟩))
    · exact .inr (.inr (.inr (.inl ⟨rfl, u3 k hk⟩)))
    · exact .inr (.inr (.inr (.inr ⟨rfl, u4 k hk⟩)))
  have kl := (Array.getElem?_eq_some_iff.1 k.2).1
  refine ⟨⟨fun i => match i with | 0 => Ua | 1 => Ub | 2 => Uc | 3 => V3 | _ => V4, ea, eb, ec, e3, e4, fun i k hk hi => ?_, fun i j k hk1 hk2 hi hj => ?_⟩, fun k hk => by omega, fun k hk => .inr (.inl hk), fun k hk => .inr (.inr (.inl hk)), fun k hk => .inr (.inr (.inr (.inl hk))), ⟨.inr (.inr (.inr (.inr (.inl rfl)))), .inr (.inr (.inr (.inr (.inr rfl))))⟩, fun k hk => .inl hk, fun k hk => by omega, ⟨by omega, by omega⟩, k⟩
  · have := lo i k hk hi
    constructor
    · omega
    · omega
  · have := lo i k hk1 hi
    have := lo j k hk2 hj
    omega
noncomputable def codeJ7 : Code := tl 7 (Try.f3.body.getD .skip)
set_option maxRecDepth 100000 in
set_option maxHeartbeats 8000000 in
theorem joins_7 {w W : World} {x0 x1 x2 x3 x4 x5 kma kmb kmc small n cap nm cm nth : Nat} {Ua Ub Uc : Nat → Prop} {qa qb qc : Ph} {a am : Option Addr} {ws : List Int} {ms : List Mv} (ea : LvG W Ua (fun k => x0 ≤ k ∧ k < x1) kma n qa (Pm.new nth ws)) (eb : LvG W Ub (fun k => x2 ≤ k ∧ k < x3) kmb small qb (Pm.new nth ws)) (ec : LvG W Uc (fun k => x4 ≤ k ∧ k < x5) kmc 0 qc (Pm.new nth ws)) (K : K3 w W (.int .i64 (nth : Int)) (.slice a n cap) (.slice am nm cm))
    (o0 : w.heap.size < x0) (o1 : x0 ≤ x1) (o2 : x1 ≤ x2) (o3 : x2 ≤ x3) (o4 : x3 ≤ x4) (o5 : x4 ≤ x5) (o6 : x5 ≤ W.heap.size) (ua : ∀ k, Ua k → x1 ≤ k ∧ k < x2) (ub : ∀ k, Ub k → x3 ≤ k ∧ k < x4) (uc : ∀ k, Uc k → x5 ≤ k) (h1 : 1 ≤ nth) (h2 : nth ≤ 16) (hs : Src w a n cap ws) (hn : n ≤ 8192) (hm : MvAt w am nm ms) (hnm : nm ≤ 65536) (hsm : small ≤ 8192) {z0 z3 z4 z6 z8 z10 z11 z12 z13 z14 z15 z16 z17 z18 z19 z20 z21 z22 z23 z24 z25 z26 z27 z28 z29 z30 z31 z32 z33 z34 z35 z36 z37 z38 z39 z40 z41 z42 z43 z44 z45 z46 z47 z48 z49 z50 z51 z52 z53 z54 z55 z56 z57 z58 z59 z60 z61 z62 z63 z64 z65 z66 z67 z68 z69 z70 z71 z72 z73 z74 z75 z76 z77 z78 z79 z80 z81 z82 z83 z84 z85 z86 z87 z88 z89 z90 z91 z92 z93 z94 z95 z96 z97 z98 z99 z100 z101 z102 z103 z104 z105 z106 z107 z108 z109 z110 z111 z112 z113 z114 z115 z116 z117 z118 z119 z120 z121 z122 z123 z124 z125 z126 z127 z128 z129 z130 z131 z132 z133 z134 z135 z136 z137 z138 z139 z140 z141 z142 z143 z144 z145 z146 z147 z148 z149 z150 z151 z152 z153 z154 z155 z156 z157 z158 z159 z160 z161 z162 z163 z164 z165 z166 z167 z168 z169 z170 z171 z172 z173 z174 z175 z176 z177 z178 z179 z180 z181 z182 z183 z184 z185 z186 z187 z188 z189 z190 : Value} :
    Code.wp Try.prog codeJ7 (bodyPost Try.prog Try.f3 fun e w' => e = .returned (.bool true) ∧ Below w.heap.size w w') ⟨#[z0, .int .i64 (small : Int), .pointer (some ⟨w.heap.size, 0, none⟩), z3, z4, .pointer (some ⟨qa.b, 0, none⟩), z6, .pointer (some ⟨qb.b, 0, none⟩), z8, .pointer (some ⟨qc.b, 0, none⟩), z10, z11, z12, z13, z14, z15, z16, z17, z18, z19, z20, z21, z22, z23, z24, z25, z26, z27, z28, z29, z30, z31, z32, z33, z34, z35, z36, z37, z38, z39, z40, z41, z42, z43, z44, z45, z46, z47, z48, z49, z50, z51, z52, z53, z54, z55, z56, z57, z58, z59, z60, z61, z62, z63, z64, z65, z66, z67, z68, z69, z70, z71, z72, z73, z74, z75, z76, z77, z78, z79, z80, z81, z82, z83, z84, z85, z86, z87, z88, z89, z90, z91, z92, z93, z94, z95, z96, z97, z98, z99, z100, z101, z102, z103, z104, z105, z106, z107, z108, z109, z110, z111, z112, z113, z114, z115, z116, z117, z118, z119, z120, z121, z122, z123, z124, z125, z126, z127, z128, z129, z130, z131, z132, z133, z134, z135, z136, z137, z138, z139, z140, z141, z142, z143, z144, z145, z146, z147, z148, z149, z150, z151, z152, z153, z154, z155, z156, z157, z158, z159, z160, z161, z162, z163, z164, z165, z166, z167, z168, z169, z170, z171, z172, z173, z174, z175, z176, z177, z178, z179, z180, z181, z182, z183, z184, z185, z186, z187, z188, z189, z190], []⟩ W := by
  have hl := hs.1
  have uc' : ∀ k, Uc k → x5 ≤ k ∧ k < W.heap.size := fun k hk => ⟨uc k hk, ec.ul k hk⟩
  have O := Mr.hid (Own_any W)
  have NW := Mr.hid (fun (w1 : World) (hK : K3 w w1 (.int .i64 (nth : Int)) (.slice a n cap) (.slice am nm cm)) (g1 g2 : Nat) (c1 : w1.heap[g1]? = some (.cells (ownCode.flatMap Ins.cells).toArray 112 (0, 0))) => New_any w1 nth (by omega) a n cap ws (hs.below hK.1) hn (gd := g1) (cd := 13) (ne := 2) (code := ownCode) (S := fun _ => True) (ae := some ⟨g2, 0, none⟩) (ce := 2) (has_code trivial c1) own_kinds)
  have LK := Mr.hid (fun (W' : World) (hB : Below W.heap.size W W') => (show LvG W' Ua (fun k => x0 ≤ k ∧ k < x1) kma n qa (Pm.new nth ws) ∧ LvG W' Ub (fun k => x2 ≤ k ∧ k < x3) kmb small qb (Pm.new nth ws) ∧ LvG W' Uc (fun k => x4 ≤ k ∧ k < x5) kmc 0 qc (Pm.new nth ws) from
    ⟨ea.kept (fun k hk => hB.block k (by rcases hk with g | g; exact ea.ul k g; omega)) hB.size, eb.kept (fun k hk => hB.block k (by rcases hk with g | g; exact eb.ul k g; omega)) hB.size, ec.kept (fun k hk => hB.block k (by rcases hk with g | g; exact ec.ul k g; omega)) hB.size⟩))
  obtain ⟨f0, f1, f2, hw0⟩ := K.cells
  replace K := Mr.hid K
  replace hs := Mr.hid hs
  replace hm := Mr.hid hm
  replace hl := Mr.hid hl
  replace ua := Mr.hid ua
  replace ub := Mr.hid ub
  replace uc := Mr.hid uc'
  clear uc' ea eb ec
  unfold codeJ7
  conv => arg 2; whnf
  go_upto_region 10 with (first
    | (go_at_call 12; refine O.out.mono ?_; clear O; rintro e w1 ⟨g1, g2, rfl, l1, l2, c1, c2, hB1⟩; have K1 := K.out.below hB1; have NW1 := Mr.hid (NW.out w1 K1 g1 g2 c1); obtain ⟨k0, k1, k2, hw1⟩ := K1.cells; have gl1 := (Array.getElem?_eq_some_iff.1 c1).1; have gl2 := (Array.getElem?_eq_some_iff.1 c2).1; have zs1 := hB1.size; replace K1 := Mr.hid K1; replace hB1 := Mr.hid hB1; replace c1 := Mr.hid c1; replace c2 := Mr.hid c2; clear K f0 f1 f2 hw0)
    | fail)
  go_upto_region 11 with (first
    | (go_at_call 13; refine NW1.out.mono ?_; clear NW1; rintro e w2 ⟨b, vw, vlb, vt, rfl, N⟩; obtain ⟨qw, V3, hqb, hS3, hV3⟩ := start_sh h1 (by rw [← hl.out]; exact hn) c1.out c2.out N; obtain rfl := hqb; have K2 := K1.out.below N.bel; have C1 := (N.bel.block _ gl1).trans c1.out; have C2 := (N.bel.block _ gl2).trans c2.out; have NW2 := Mr.hid (NW.out w2 K2 g1 g2 C1); obtain ⟨f0, f1, f2, hw2⟩ := K2.cells; have zs2 := N.bel.size; have B12 := Mr.hid N.bel; replace C1 := Mr.hid C1; replace C2 := Mr.hid C2; replace K2 := Mr.hid K2; replace hS3 := Mr.hid hS3; replace hV3 := Mr.hid hV3; clear N NW k0 k1 k2 hw1)
    | fail)
  go_cut [14] (fun s14 wx => ∃ (qp : Rc) (Z : Nat → Prop), s14 = .pointer (some ⟨qp.b, 0, none⟩) ∧ Pe w wx Z (.int .i64 (nth : Int)) (.slice a n cap) (.slice am nm cm) g1 g2 (fun k => x0 ≤ k ∧ k < x1) (fun k => x2 ≤ k ∧ k < x3) (fun k => x4 ≤ k ∧ k < x5) kma kmb kmc n small qa qb qc qw qp (Pm.new nth ws) (Pm.new nth ws) (Pm.new nth ws) (Pm.new nth ws) (Pm.new nth ws))
  case first =>
    go_wp2_with (go_at_call 13; refine NW2.out.mono ?_; clear NW2; rintro e w3 ⟨b, vw, vlb, vt, rfl, N⟩; obtain ⟨qp, V4, hqb, hS4, hV4⟩ := start_sh h1 (by rw [← hl.out]; exact hn) C1.out C2.out N; obtain rfl := hqb; have K3x := K2.out.below N.bel; have zs3 := N.bel.size; obtain ⟨La, Lb, Lc⟩ := LK.out w3 ((hB1.out.trans (B12.out.mono zs1)).trans (N.bel.mono (Nat.le_trans zs1 zs2))); have PP := pe_start (w1 := w1) (w2 := w2) (x6 := W.heap.size) La Lb Lc (hS3.out.same (fun k hk => N.bel.block k (hS3.out.s.ul k hk)) N.bel.size) hS4 K3x o0 o1 o2 o3 o4 o5 o6 l1 l2 gl1 gl2 zs2 zs3 ua.out ub.out uc.out (fun k hk => ⟨hV3.out k hk, hS3.out.ul k hk⟩) (fun k hk => ⟨hV4 k hk, hS4.ul k hk⟩); replace PP := Mr.hid PP; clear N hS4 hV4 La Lb Lc K3x zs3)
    go_meet
    case rel => exact ⟨qp, _, rfl, PP.out⟩
  case rest =>
    obtain ⟨qp, Z, rfl, PP⟩ := hcut
    go_step
    exact joins_10 PP hl.out.symm (Ic.new nth ws) rfl hs.out hn hm.out hnm hsm
end Go.Proofs.Ytglppcoohojmpaa.Rf
