import Derived.Test.YtglppcoohojmpaaRfJn11
/-
  MachineJoins: its loop.
-/
namespace Go.Proofs.Ytglppcoohojmpaa.Rf
open Go.RowKit Go.Shelf Mr Me Ma
set_option linter.unusedVariables false
noncomputable def codeJ10 : Code := tl 10 (Try.f3.body.getD .skip)
set_option maxRecDepth 100000 in
set_option maxHeartbeats 8000000 in
theorem joins_10 {w W : World} {Z : Nat → Prop} {g1 g2 : Nat} {Ka Kb Kc : Nat → Prop} {kma kmb kmc small n cap nm cm nth : Nat} {qa qb qc : Ph} {qw qp : Rc} {a am : Option Addr} {ws : List Int} {ms : List Mv} {Q1 Q2 Qc : Pm} (h : Pe w W Z (.int .i64 (nth : Int)) (.slice a n cap) (.slice am nm cm) g1 g2 Ka Kb Kc kma kmb kmc n small qa qb qc qw qp Q1 Q2 Qc Q1 Q2) (hP : Q1.ws.length = n) (hc : Ic Qc) (hcw : Qc.ws = ws) (hs : Src w a n cap ws) (hn : n ≤ 8192) (hm : MvAt w am nm ms) (hnm : nm ≤ 65536) (hsm : small ≤ 8192) {z0 z3 z4 z6 z8 z10 z11 z12 z15 z16 z17 z18 z19 z20 z21 z22 z23 z24 z25 z26 z27 z28 z29 z30 z31 z32 z33 z34 z35 z36 z37 z38 z39 z40 z41 z42 z43 z44 z45 z46 z47 z48 z49 z50 z51 z52 z53 z54 z55 z56 z57 z58 z59 z60 z61 z62 z63 z64 z65 z66 z67 z68 z69 z70 z71 z72 z73 z74 z75 z76 z77 z78 z79 z80 z81 z82 z83 z84 z85 z86 z87 z88 z89 z90 z91 z92 z93 z94 z95 z96 z97 z98 z99 z100 z101 z102 z103 z104 z105 z106 z107 z108 z109 z110 z111 z112 z113 z114 z115 z116 z117 z118 z119 z120 z121 z122 z123 z124 z125 z126 z127 z128 z129 z130 z131 z132 z133 z134 z135 z136 z137 z138 z139 z140 z141 z142 z143 z144 z145 z146 z147 z148 z149 z150 z151 z152 z153 z154 z155 z156 z157 z158 z159 z160 z161 z162 z163 z164 z165 z166 z167 z168 z169 z170 z171 z172 z173 z174 z175 z176 z177 z178 z179 z180 z181 z182 z183 z184 z185 z186 z187 z188 z189 z190 : Value} :
    Code.wp Try.prog codeJ10 (bodyPost Try.prog Try.f3 fun e w' => e = .returned (.bool true) ∧ Below w.heap.size w w') ⟨#[z0, .int .i64 (small : Int), .pointer (some ⟨w.heap.size, 0, none⟩), z3, z4, .pointer (some ⟨qa.b, 0, none⟩), z6, .pointer (some ⟨qb.b, 0, none⟩), z8, .pointer (some ⟨qc.b, 0, none⟩), z10, z11, z12, .pointer (some ⟨qw.b, 0, none⟩), .pointer (some ⟨qp.b, 0, none⟩), z15, z16, z17, z18, z19, z20, z21, z22, z23, z24, z25, z26, z27, z28, z29, z30, z31, z32, z33, z34, z35, z36, z37, z38, z39, z40, z41, z42, z43, z44, z45, z46, z47, z48, z49, z50, z51, z52, z53, z54, z55, z56, z57, z58, z59, z60, z61, z62, z63, z64, z65, z66, z67, z68, z69, z70, z71, z72, z73, z74, z75, z76, z77, z78, z79, z80, z81, z82, z83, z84, z85, z86, z87, z88, z89, z90, z91, z92, z93, z94, z95, z96, z97, z98, z99, z100, z101, z102, z103, z104, z105, z106, z107, z108, z109, z110, z111, z112, z113, z114, z115, z116, z117, z118, z119, z120, z121, z122, z123, z124, z125, z126, z127, z128, z129, z130, z131, z132, z133, z134, z135, z136, z137, z138, z139, z140, z141, z142, z143, z144, z145, z146, z147, z148, z149, z150, z151, z152, z153, z154, z155, z156, z157, z158, z159, z160, z161, z162, z163, z164, z165, z166, z167, z168, z169, z170, z171, z172, z173, z174, z175, z176, z177, z178, z179, z180, z181, z182, z183, z184, z185, z186, z187, z188, z189, z190], []⟩ W := by
  have hlen := hm.1
  have MC := Mr.hid (fun (W' : World) (hK : K3 w W' (.int .i64 (nth : Int)) (.slice a n cap) (.slice am nm cm)) (i : Nat) (hi : i < nm) => (show ∃ (bo oo : Nat) (mv : Mv), am = some ⟨bo, oo, none⟩ ∧ bo < W'.heap.size ∧ W'.cell? ⟨bo, oo + i * 4, none⟩ = some (.int .i64 mv.th) ∧ W'.cell? ⟨bo, oo + i * 4 + 1, none⟩ = some (.int .i64 mv.op) ∧ W'.cell? ⟨bo, oo + i * 4 + 2, none⟩ = some (.int .i64 mv.arg) ∧ W'.cell? ⟨bo, oo + i * 4 + 3, none⟩ = some (.int .i64 mv.data) by
    rcases (hm.below hK.1).2 with h0 | ⟨bo, oo, e, hb, hc⟩
    · rw [hlen, h0] at hi; simp at hi
    · exact ⟨bo, oo, _, e, hb, hc i (by omega)⟩))
  obtain ⟨f0, f1, f2, hw0⟩ := h.k.cells
  have hza := h.za
  have hzb := h.zb
  have hzc := h.zc
  have hzg := h.zg
  have hzw := h.zw
  have ZS := Mr.hid (And.intro hza (And.intro hzb (And.intro hzc (And.intro hzg hzw))))
  clear hza hzb hzc hzg hzw
  replace hlen := Mr.hid hlen
  replace h := Mr.hid h
  replace hs := Mr.hid hs
  replace hm := Mr.hid hm
  replace hP := Mr.hid hP
  replace hc := Mr.hid hc
  replace hcw := Mr.hid hcw
  unfold codeJ10
  conv => arg 2; whnf
  go_wp2
  rename (∀ (a : Act) (w : World), Code.wp _ (Code.seq _ _) _ a w → _) => hK1
  replace hK1 := Mr.hid hK1
  go_loopg [119] nm (fun k s119 wy => ∃ (i : Nat) (P1 P2 Pc : Pm), s119 = .int .i64 (i : Int) ∧ i + k = nm ∧ Pe w wy Z (.int .i64 (nth : Int)) (.slice a n cap) (.slice am nm cm) g1 g2 Ka Kb Kc kma kmb kmc n small qa qb qc qw qp P1 P2 Pc P1 P2 ∧ P1.ws.length = n ∧ Ic Pc ∧ Pc.ws = ws)
  case atStart => exact ⟨0, Q1, Q2, Qc, rfl, by omega, h.out, hP.out, hc.out, hcw.out⟩
  case round =>
    obtain ⟨i, P1, P2, Pc, rfl, hik, hD, hP1, hIc, hIw⟩ := hrel
    clear h hP hc hcw f0 f1 f2 hw0
    by_cases hi : i < nm
    · have d0 : decide ((i : Int) < (nm : Int)) = true := decide_eq_true (by omega)
      have hii : (i : Int) < (nm : Int) := by omega
      obtain ⟨bo, oo, mv, rfl, hbo, c0, c1, c2, c3⟩ := MC.out wr hD.k i hi
      have hB := hD.add (.cells #[.int .i64 mv.th, .int .i64 mv.op, .int .i64 mv.arg, .int .i64 mv.data] 46)
      have gl1 : g1 < wr.heap.size ∧ g2 < wr.heap.size := ⟨hD.zl _ hD.zg.1, hD.zl _ hD.zg.2⟩
      replace hD := Mr.hid hD
      replace hB := Mr.hid hB
      replace hP1 := Mr.hid hP1
      replace hIc := Mr.hid hIc
      replace hIw := Mr.hid hIw
      go_upto_region 15 with fail
      have x1 : (wr.alloc (.cells #[.int .i64 mv.th, .int .i64 mv.op, .int .i64 mv.arg, .int .i64 mv.data] 46)).heap[wr.heap.size]? = some (.cells #[.int .i64 mv.th, .int .i64 mv.op, .int .i64 mv.arg, .int .i64 mv.data] 46 (0, 0)) := heap_alloc_new wr _
      generalize wr.alloc (.cells #[.int .i64 mv.th, .int .i64 mv.op, .int .i64 mv.arg, .int .i64 mv.data] 46) = W1 at *
      clear hD c0 c1 c2 c3 hbo MC
      generalize wr.heap.size = B at *
      have nB1 : B ≠ g1 := by omega
      have nB2 : B ≠ g2 := by omega
      have CE := Mr.hid (fun (W' : World) (hx : W'.heap[B]? = some (.cells #[.int .i64 mv.th, .int .i64 mv.op, .int .i64 mv.arg, .int .i64 mv.data] 46 (0, 0))) => (show W'.cell? ⟨B, 0, none⟩ = some (.int .i64 mv.th) ∧ W'.cell? ⟨B, 1, none⟩ = some (.int .i64 mv.op) ∧ W'.cell? ⟨B, 2, none⟩ = some (.int .i64 mv.arg) ∧ W'.cell? ⟨B, 3, none⟩ = some (.int .i64 mv.data) by simp [World.cell?, hx]))
      obtain ⟨m0, m1, m2, m3⟩ := CE.out W1 x1
      have lB := (Array.getElem?_eq_some_iff.1 x1).1
      replace x1 := Mr.hid x1
      replace nB1 := Mr.hid nB1
      replace nB2 := Mr.hid nB2
      go_cut [17] (fun t wx => t = .bool (decide ((mv.op = 1 ∨ mv.op = 2) ∧ (small : Int) ≤ mv.arg)) ∧ wx = W1)
      case first =>
        by_cases o1 : mv.op = 1
        · have b1 : (mv.op == 1) = true := by simpa using o1
          cases b3 : decide ((small : Int) ≤ mv.arg) <;> go_wp2 <;> go_meet <;> (simp at b3; simp [o1]; omega)
        · have b1 : (mv.op == 1) = false := by simpa using o1
          by_cases o2 : mv.op = 2
          · have b2 : (mv.op == 2) = true := by simpa using o2
            cases b3 : decide ((small : Int) ≤ mv.arg) <;> go_wp2 <;> go_meet <;> (simp at b3; simp [o2]; omega)
          · have b2 : (mv.op == 2) = false := by simpa using o2
            go_wp2
            go_meet
            case rel => simp [o1, o2]
      case rest =>
        obtain ⟨rfl, hw⟩ := hcut
        obtain rfl := hw.symm
        obtain ⟨rb, hrb⟩ : ∃ rb : Bool, rb = decide ((mv.op = 1 ∨ mv.op = 2) ∧ (small : Int) ≤ mv.arg) := ⟨_, rfl⟩
        rw [← hrb]
        replace hrb := Mr.hid hrb
        obtain ⟨P1', mb, hp⟩ : ∃ P' mb, P1.move mv.th mv.op mv.arg mv.data = (P', mb) := ⟨_, _, rfl⟩
        obtain ⟨ic1, ic2, ic3⟩ := hIc.out.move mv.th mv.op mv.arg mv.data
        have hw1 : P1'.ws.length = n := by
          have := move_ws P1 mv.th mv.op mv.arg mv.data
          rw [hp] at this
          exact this.trans hP1.out
        have M1 := fun (W' : World) (hBl : Below W1.heap.size W1 W') => pe_a (hB.out.below hBl) mv.th mv.op mv.arg mv.data
        simp only [moveL_whole P1 n hP1.out, hp] at M1
        have M2 := fun (W' : World) (D : Pe w W' (fun k => Z k ∨ k = B) (.int .i64 (nth : Int)) (.slice a n cap) (.slice (some ⟨bo, oo, none⟩) nm cm) g1 g2 Ka Kb Kc kma kmb kmc n small qa qb qc qw qp P1' P2 Pc P1 P2) => pe_w D mv.th mv.op mv.arg mv.data
        simp only [hp] at M2
        obtain ⟨Pc', hpc⟩ : ∃ P', (Pc.moveL 0 mv.th mv.op mv.arg mv.data).1 = P' := ⟨_, rfl⟩
        have M3 := fun (W' : World) (D : Pe w W' (fun k => Z k ∨ k = B) (.int .i64 (nth : Int)) (.slice a n cap) (.slice (some ⟨bo, oo, none⟩) nm cm) g1 g2 Ka Kb Kc kma kmb kmc n small qa qb qc qw qp P1' P2 Pc P1' P2) => pe_c D mv.th mv.op mv.arg mv.data
        simp only [ic1, hpc] at M3
        rw [hpc] at ic2 ic3
        have X1 := Mr.hid (fun (W' : World) (hBl : Below W1.heap.size W1 W') => (hBl.block B lB).trans x1.out)
        have hBe := Mr.hid (Below.refl W1.heap.size W1).drew
        have x1d := Mr.hid (X1.out _ hBe.out)
        replace M1 := Mr.hid M1
        replace M2 := Mr.hid M2
        replace M3 := Mr.hid M3
        replace hp := Mr.hid hp
        replace hpc := Mr.hid hpc
        replace ic2 := Mr.hid ic2
        replace ic3 := Mr.hid (ic3.trans hIw.out)
        replace hw1 := Mr.hid hw1
        clear ic1
        have bb : (mb == mb) = true := by simp
        have bn : (mb != mb) = false := by simp
        have KZ := Mr.hid (fun (W2 W3 : World) (hx : W2.heap[B]? = some (.cells #[.int .i64 mv.th, .int .i64 mv.op, .int .i64 mv.arg, .int .i64 mv.data] 46 (0, 0))) (hz : ∀ k, (Z k ∨ k = B) → k ≠ g1 → k ≠ g2 → W3.heap[k]? = W2.heap[k]?) => (hz B (.inr rfl) nB1.out nB2.out).trans hx)
        go_upto_region 16 with fail
        go_cut [148] (fun t wx => t = .bool false ∧ Pe w wx (fun k => Z k ∨ k = B) (.int .i64 (nth : Int)) (.slice a n cap) (.slice (some ⟨bo, oo, none⟩) nm cm) g1 g2 Ka Kb Kc kma kmb kmc n small qa qb qc qw qp P1' P2 Pc' P1' P2 ∧ wx.heap[B]? = some (.cells #[.int .i64 mv.th, .int .i64 mv.op, .int .i64 mv.arg, .int .i64 mv.data] 46 (0, 0)))
        case first =>
          go_wp2
          go_region_held3 (fun w' => w'.cell? ⟨B, 0, none⟩ = some (.int .i64 mv.th) ∧ w'.cell? ⟨B, 1, none⟩ = some (.int .i64 mv.op) ∧ w'.cell? ⟨B, 2, none⟩ = some (.int .i64 mv.arg) ∧ w'.cell? ⟨B, 3, none⟩ = some (.int .i64 mv.data)) (first | exact CE.out _ x7.out | exact CE.out _ x6.out | exact CE.out _ x5.out | exact CE.out _ x1d.out | go_keep)
            (first
              | (go_at_call 14; first
                  | (refine (M1.out _ hBe.out).mono ?_; clear M1; rintro e w5 ⟨rfl, D5, hf5, _⟩; have x5 := Mr.hid (KZ.out _ w5 x1d.out hf5); replace D5 := Mr.hid D5; clear hf5)
                  | (refine (M3.out _ D6.out).mono ?_; clear M3; rintro e w7 ⟨rfl, D7, hf7, _⟩; have x7 := Mr.hid (KZ.out _ w7 x6.out hf7); replace D7 := Mr.hid D7; clear hf7))
              | (go_at_call 15; refine (M2.out _ D5.out).mono ?_; clear M2; rintro e w6 ⟨rfl, D6, hf6, _⟩; have x6 := Mr.hid (KZ.out _ w6 x5.out hf6); replace D6 := Mr.hid D6; clear hf6))
          all_goals go_wp2
          all_goals go_meet
          all_goals exact ⟨rfl, D7.out, x7.out⟩
        case rest =>
          obtain ⟨rfl, D7, x7⟩ := hcut
          clear M1 M2 M3 X1 x1d hBe m0 m1 m2 m3 bb bn x1 hB
          obtain ⟨m0, m1, m2, m3⟩ := CE.out wc x7
          have lB7 := (Array.getElem?_eq_some_iff.1 x7).1
          by_cases hr : (mv.op = 1 ∨ mv.op = 2) ∧ (small : Int) ≤ mv.arg
          · obtain rfl : rb = true := hrb.out.trans (decide_eq_true hr)
            obtain ⟨q1, q2, q3, q4⟩ := pm_out P2
            have N1 := pe_b D7 mv.th mv.op mv.arg mv.data
            rw [moveL_no P2 small mv.th mv.op mv.arg mv.data hr, q1] at N1
            have N2 := Mr.hid (fun (W' : World) (D : Pe w W' (fun k => Z k ∨ k = B) (.int .i64 (nth : Int)) (.slice a n cap) (.slice (some ⟨bo, oo, none⟩) nm cm) g1 g2 Ka Kb Kc kma kmb kmc n small qa qb qc qw qp P1' (P2.move (-1) 0 0 0).1 Pc' P1' P2) => pe_p D (-1) 0 0 0)
            replace N1 := Mr.hid N1
            clear hr q1 q2 q3 q4 D7
            go_wp2_with (first
              | (go_at_call 14; refine N1.out.mono ?_; clear N1; rintro e w8 ⟨rfl, D8, _, z8⟩; have N2' := Mr.hid (N2.out w8 D8); clear N2 D8 z8)
              | (go_at_call 15; refine N2'.out.mono ?_; clear N2'; rintro e w9 ⟨rfl, D9, _, z9⟩; replace D9 := Mr.hid D9; clear z9))
            go_roundg (gk - 1)
            case measure => omega
            case rel => exact ⟨i + 1, P1', _, Pc', by simp, by omega, D9.out.sub (fun k hk => .inl hk) ZS.out.1 ZS.out.2.1 ZS.out.2.2.1 ZS.out.2.2.2.1 ZS.out.2.2.2.2, hw1.out, ic2.out, ic3.out⟩
          · obtain rfl : rb = false := hrb.out.trans (decide_eq_false hr)
            obtain ⟨P2', mb2, hp2⟩ : ∃ P' mb, P2.move mv.th mv.op mv.arg mv.data = (P', mb) := ⟨_, _, rfl⟩
            have N1 := fun (W' : World) (hBl : Below wc.heap.size wc W') => pe_b (D7.below hBl) mv.th mv.op mv.arg mv.data
            simp only [moveL_yes P2 small mv.th mv.op mv.arg mv.data hr, hp2] at N1
            have N2 := fun (W' : World) (D : Pe w W' (fun k => Z k ∨ k = B) (.int .i64 (nth : Int)) (.slice a n cap) (.slice (some ⟨bo, oo, none⟩) nm cm) g1 g2 Ka Kb Kc kma kmb kmc n small qa qb qc qw qp P1' P2' Pc' P1' P2) => pe_p D mv.th mv.op mv.arg mv.data
            simp only [hp2] at N2
            replace N1 := Mr.hid N1
            replace N2 := Mr.hid N2
            replace hp2 := Mr.hid hp2
            have X7 := Mr.hid (fun (W' : World) (hBl : Below wc.heap.size wc W') => (hBl.block B lB7).trans x7)
            have hBe := Mr.hid (Below.refl wc.heap.size wc).drew
            have x7d := Mr.hid (X7.out _ hBe.out)
            replace x7 := Mr.hid x7
            have bb : (mb2 == mb2) = true := by simp
            have bn : (mb2 != mb2) = false := by simp
            clear hr D7
            go_wp2
            go_region_held3 (fun w' => w'.cell? ⟨B, 0, none⟩ = some (.int .i64 mv.th) ∧ w'.cell? ⟨B, 1, none⟩ = some (.int .i64 mv.op) ∧ w'.cell? ⟨B, 2, none⟩ = some (.int .i64 mv.arg) ∧ w'.cell? ⟨B, 3, none⟩ = some (.int .i64 mv.data)) (first | exact CE.out _ x9.out | exact CE.out _ x8.out | exact CE.out _ x7d.out | go_keep)
              (first
                | (go_at_call 14; refine (N1.out _ hBe.out).mono ?_; clear N1; rintro e w8 ⟨rfl, D8, hf8, _⟩; have x8 := Mr.hid (KZ.out _ w8 x7d.out hf8); replace D8 := Mr.hid D8; clear hf8)
                | (go_at_call 15; refine (N2.out _ D8.out).mono ?_; clear N2; rintro e w9 ⟨rfl, D9, hf9, _⟩; have x9 := Mr.hid (KZ.out _ w9 x8.out hf9); replace D9 := Mr.hid D9; clear hf9))
            all_goals go_wp2
            all_goals go_roundg (gk - 1)
            case measure => omega
            case rel => exact ⟨i + 1, P1', P2', Pc', by simp, by omega, D9.out.sub (fun k hk => .inl hk) ZS.out.1 ZS.out.2.1 ZS.out.2.2.1 ZS.out.2.2.2.1 ZS.out.2.2.2.2, hw1.out, ic2.out, ic3.out⟩
    · have d0 : decide ((i : Int) < (nm : Int)) = false := decide_eq_false (by omega)
      replace hD := Mr.hid hD
      replace hP1 := Mr.hid hP1
      replace hIc := Mr.hid hIc
      replace hIw := Mr.hid hIw
      go_wp2
      refine hK1.out _ _ ?_
      exact joins_11 hD.out hIc.out hIw.out hs.out hn
end Go.Proofs.Ytglppcoohojmpaa.Rf
