import Derived.Test.YtglppcoohojmpaaRfMovesC
/-
  MachineMoves: its loop.
-/
namespace Go.Proofs.Ytglppcoohojmpaa.Rf
open Go.RowKit Go.Shelf Mr Me Ma
theorem i64w' (x : Int) (h1 : -9223372036854775808 ≤ x) (h2 : x ≤ 9223372036854775807) : IntKind.i64.wrap x = x := by
  simp [IntKind.wrap, IntKind.signed, IntKind.bits]; omega
noncomputable def codeMB : Code := tl 8 (Try.f5.body.getD .skip)
set_option maxRecDepth 100000 in
set_option maxHeartbeats 8000000 in
theorem moves_B {w W : World} {D1 D2 k0 k1 nth nm cm : Nat} {q1 : Ph} {q2 : Rc} {y : Value} {am : Option Addr} {ms : List Mv} {P0 : Pm} (h : Duo w W D1 D2 k0 k1 q1 q2 (.int .i64 (nth : Int)) y (.slice am nm cm) P0 P0) (hl : Lc P0) (hnth : nth ≤ 16) (hm : MvAt w am nm ms) (hz : nm * 32 ≤ 140737488351232) (ask : Int) {z0 z3 z4 z6 z7 z8 z10 z11 z12 z13 z14 z15 z16 z17 z18 z19 z20 z21 z22 z23 z24 z25 z26 z27 z28 z29 z30 z31 z32 z33 z34 z35 z36 z37 z38 z39 z40 z41 z42 z43 z44 z45 z46 z47 z48 z49 z50 z51 z52 z53 z54 z55 z56 z57 z58 z59 z60 z61 z62 z63 z64 z65 z66 z67 z68 z69 z70 z71 z72 z73 z74 z75 z76 z77 z78 z79 z80 z81 z82 z83 z84 z85 z86 z87 z88 z89 z90 z91 z92 z93 z94 z95 z96 z97 z98 z99 z100 z101 z102 z103 z104 z105 z106 z107 z108 z109 z110 z111 z112 z113 z114 z115 z116 z117 z118 z119 z120 z121 z122 z123 z124 z125 z126 z127 z128 z129 z130 z131 z132 z133 z134 z135 z136 z137 z138 z139 z140 z141 z142 z143 z144 z145 z146 z147 z148 z149 z150 z151 z152 z153 z154 z155 z156 z157 z158 z159 z160 z161 z162 z163 z164 z165 z166 z167 z168 z169 z170 z171 z172 z173 z174 z175 z176 z177 z178 z179 z180 z181 z182 z183 z184 z185 z186 z187 z188 z189 z190 z191 z192 z193 z194 z195 z196 z197 : Value} :
    Code.wp Try.prog codeMB (bodyPost Try.prog Try.f5 fun e w' => e = .returned (.bool true) ∧ Below w.heap.size w w') ⟨#[z0, .int .i64 ask, .pointer (some ⟨w.heap.size, 0, none⟩), z3, z4, .pointer (some ⟨q1.b, 0, none⟩), z6, z7, z8, .pointer (some ⟨q2.b, 0, none⟩), z10, z11, z12, z13, z14, z15, z16, z17, z18, z19, z20, z21, z22, z23, z24, z25, z26, z27, z28, z29, z30, z31, z32, z33, z34, z35, z36, z37, z38, z39, z40, z41, z42, z43, z44, z45, z46, z47, z48, z49, z50, z51, z52, z53, z54, z55, z56, z57, z58, z59, z60, z61, z62, z63, z64, z65, z66, z67, z68, z69, z70, z71, z72, z73, z74, z75, z76, z77, z78, z79, z80, z81, z82, z83, z84, z85, z86, z87, z88, z89, z90, z91, z92, z93, z94, z95, z96, z97, z98, z99, z100, z101, z102, z103, z104, z105, z106, z107, z108, z109, z110, z111, z112, z113, z114, z115, z116, z117, z118, z119, z120, z121, z122, z123, z124, z125, z126, z127, z128, z129, z130, z131, z132, z133, z134, z135, z136, z137, z138, z139, z140, z141, z142, z143, z144, z145, z146, z147, z148, z149, z150, z151, z152, z153, z154, z155, z156, z157, z158, z159, z160, z161, z162, z163, z164, z165, z166, z167, z168, z169, z170, z171, z172, z173, z174, z175, z176, z177, z178, z179, z180, z181, z182, z183, z184, z185, z186, z187, z188, z189, z190, z191, z192, z193, z194, z195, z196, z197], []⟩ W := by
  have hlen := hm.1
  have MC := Mr.hid (fun (W' : World) (D1 D2 : Nat) (P : Pm) (hD : Duo w W' D1 D2 k0 k1 q1 q2 (.int .i64 (nth : Int)) y (.slice am nm cm) P P) (i : Nat) (hi : i < nm) => (show ∃ (bo oo : Nat) (mv : Mv), am = some ⟨bo, oo, none⟩ ∧ bo < W'.heap.size ∧ W'.cell? ⟨bo, oo + i * 4, none⟩ = some (.int .i64 mv.th) ∧ W'.cell? ⟨bo, oo + i * 4 + 1, none⟩ = some (.int .i64 mv.op) ∧ W'.cell? ⟨bo, oo + i * 4 + 2, none⟩ = some (.int .i64 mv.arg) ∧ W'.cell? ⟨bo, oo + i * 4 + 3, none⟩ = some (.int .i64 mv.data) by
    rcases (hm.below hD.k.1).2 with h0 | ⟨bo, oo, e, hb, hc⟩
    · rw [hlen, h0] at hi; simp at hi
    · exact ⟨bo, oo, _, e, hb, hc i (by omega)⟩))
  obtain ⟨f0, f1, f2, hw0⟩ := h.k.cells
  replace hlen := Mr.hid hlen
  replace h := Mr.hid h
  replace hl := Mr.hid hl
  clear hm
  unfold codeMB
  conv => arg 2; whnf
  go_wp2
  rename (∀ (a : Act) (w : World), Code.wp _ (Code.seq _ _) _ a w → _) => hK1
  replace hK1 := Mr.hid hK1
  go_loopg [81] nm (fun k s81 wy => ∃ (i D1 D2 : Nat) (P : Pm), s81 = .int .i64 (i : Int) ∧ i + k = nm ∧ Duo w wy D1 D2 k0 k1 q1 q2 (.int .i64 (nth : Int)) y (.slice am nm cm) P P ∧ Lc P)
  case atStart => exact ⟨0, D1, D2, P0, rfl, by omega, h.out, hl.out⟩
  case round =>
    obtain ⟨i, E1, E2, P, rfl, hik, hD, hlc⟩ := hrel
    clear h hl f0 f1 f2 hw0
    by_cases hi : i < nm
    · have d0 : decide ((i : Int) < (nm : Int)) = true := decide_eq_true (by omega)
      have hii : (i : Int) < (nm : Int) := by omega
      obtain ⟨bo, oo, mv, rfl, hbo, c0, c1, c2, c3⟩ := MC.out wr E1 E2 P hD i hi
      obtain ⟨f0, f1, f2, hw0⟩ := hD.k.cells
      have hlc' : Lc (P.move mv.th mv.op mv.arg mv.data).1 := hlc.move _ _ _ _
      have d1 := hD.d1
      have d2 := hD.d2
      replace hD := Mr.hid hD
      replace hlc' := Mr.hid hlc'
      clear hlc
      go_upto_region 15 with fail
      obtain ⟨W1, hW1⟩ : ∃ W1, wr.alloc (.cells #[.int .i64 mv.th, .int .i64 mv.op, .int .i64 mv.arg, .int .i64 mv.data] 46) = W1 := ⟨_, rfl⟩
      have x1 : W1.heap[wr.heap.size]? = some (.cells #[.int .i64 mv.th, .int .i64 mv.op, .int .i64 mv.arg, .int .i64 mv.data] 46 (0, 0)) := by rw [← hW1]; exact heap_alloc_new wr _
      have D1' : Duo w W1 E1 E2 k0 k1 q1 q2 (.int .i64 (nth : Int)) y (.slice (some ⟨bo, oo, none⟩) nm cm) P P := by rw [← hW1]; exact hD.out.below ((Below.refl _ _).alloc (Nat.le_refl _) _)
      rw [hW1]
      clear hW1 hD c0 c1 c2 c3 f0 f1 f2 hw0 MC hbo
      generalize wr.heap.size = B at *
      have lB := (Array.getElem?_eq_some_iff.1 x1).1
      obtain ⟨P', mb, hp⟩ : ∃ P' mb, P.move mv.th mv.op mv.arg mv.data = (P', mb) := ⟨_, _, rfl⟩
      have CE := Mr.hid (fun (W' : World) (hx : W'.heap[B]? = some (.cells #[.int .i64 mv.th, .int .i64 mv.op, .int .i64 mv.arg, .int .i64 mv.data] 46 (0, 0))) => (show W'.cell? ⟨B, 0, none⟩ = some (.int .i64 mv.th) ∧ W'.cell? ⟨B, 1, none⟩ = some (.int .i64 mv.op) ∧ W'.cell? ⟨B, 2, none⟩ = some (.int .i64 mv.arg) ∧ W'.cell? ⟨B, 3, none⟩ = some (.int .i64 mv.data) by simp [World.cell?, hx]))
      have M1 := fun (W' : World) (hB : Below W1.heap.size W1 W') => duo_move1 (D1'.below hB) mv.th mv.op mv.arg mv.data
      have M2 := fun (W' : World) (F1 : Nat) (D : Duo w W' F1 E2 k0 k1 q1 q2 (.int .i64 (nth : Int)) y (.slice (some ⟨bo, oo, none⟩) nm cm) P' P) => duo_move2 D mv.th mv.op mv.arg mv.data
      rw [hp] at hlc'
      simp only [hp] at M1 M2
      have X1 := Mr.hid (fun (W' : World) (hB : Below W1.heap.size W1 W') => (hB.block B lB).trans x1)
      obtain ⟨m0, m1, m2, m3⟩ := CE.out W1 x1
      have hBe := Mr.hid (Below.refl W1.heap.size W1).drew
      have hBr := Mr.hid (Below.refl W1.heap.size W1)
      have x1d := Mr.hid (X1.out _ hBe.out)
      replace M1 := Mr.hid M1
      replace M2 := Mr.hid M2
      replace D1' := Mr.hid D1'
      replace x1 := Mr.hid x1
      replace hp := Mr.hid hp
      have bb : (mb == mb) = true := by simp
      have bn : (mb != mb) = false := by simp
      have nn : ((P'.n : Int) == (P'.n : Int)) = true := by simp
      have nn' : ((P'.n : Int) != (P'.n : Int)) = false := by simp
      go_cut [101] (fun t wx => t = .bool false ∧ ∃ F1 F2, Duo w wx F1 F2 k0 k1 q1 q2 (.int .i64 (nth : Int)) y (.slice (some ⟨bo, oo, none⟩) nm cm) P' P')
      case first =>
        refine wp_region_held_drew (S := fun w' => w'.cell? ⟨B, 0, none⟩ = some (.int .i64 mv.th) ∧ w'.cell? ⟨B, 1, none⟩ = some (.int .i64 mv.op) ∧ w'.cell? ⟨B, 2, none⟩ = some (.int .i64 mv.arg) ∧ w'.cell? ⟨B, 3, none⟩ = some (.int .i64 mv.data)) (by kernel_rfl) (CE.out _ x1d.out) (fun hS => ?_)
        refine wpAnyH_take (i := 0) (v := .pointer (some ⟨q1.b, 0, none⟩)) rfl (by kernel_rfl) (by kernel_rfl) (by kernel_rfl) (fun _ _ _ h => h) (Or.inl ⟨by rfl, fun w' hw => ?y0⟩) hS ?_
        case y0 =>
          obtain ⟨s1, s2, s3, s4⟩ := hw
          clear hS
          go_simp
        refine wpAnyH_take (i := 1) (v := .agg #[.int .i64 mv.th, .int .i64 mv.op, .int .i64 mv.arg, .int .i64 mv.data]) rfl (by kernel_rfl) (by kernel_rfl) (by kernel_rfl) (fun _ _ _ h => h) (Or.inl ⟨by rfl, fun w' hw => ?y1⟩) hS ?_
        case y1 =>
          obtain ⟨s1, s2, s3, s4⟩ := hw
          clear hS
          go_simp
        refine wpAnyH_take (i := 3) (v := .pointer (some ⟨q2.b, 0, none⟩)) rfl (by kernel_rfl) (by kernel_rfl) (by kernel_rfl) (fun _ _ _ h => h) (Or.inl ⟨by rfl, fun w' hw => ?y3⟩) hS ?_
        case y3 =>
          obtain ⟨s1, s2, s3, s4⟩ := hw
          clear hS
          go_simp
        refine wpAnyH_take (i := 4) (v := .agg #[.int .i64 mv.th, .int .i64 mv.op, .int .i64 mv.arg, .int .i64 mv.data]) rfl (by kernel_rfl) (by kernel_rfl) (by kernel_rfl) (fun _ _ _ h => h) (Or.inl ⟨by rfl, fun w' hw => ?y4⟩) hS ?_
        case y4 =>
          obtain ⟨s1, s2, s3, s4⟩ := hw
          clear hS
          go_simp
        refine wpAnyH_ready (rs := [2]) (by kernel_rfl) (by simp) (AllReadyH.cons rfl (fun K hK => ?_) AllReadyH.nil)
        go_simp
        go_at_call 14
        refine (M1.out _ hBe.out).mono ?_
        clear M1
        rintro e w5 ⟨rfl, D5, hf5⟩
        have x5 := Mr.hid ((hf5 B (by omega) (Array.getElem?_eq_some_iff.1 x1d.out).1).trans x1d.out)
        replace D5 := Mr.hid D5
        clear hf5
        go_wp2_with fail
        refine hK.out _ _ (CE.out _ x5.out) (fun hS => ?_)
        clear hK K
        refine wpAnyH_ready (rs := [5]) (by kernel_rfl) (by simp) (AllReadyH.cons rfl (fun K hK => ?_) AllReadyH.nil)
        go_simp
        go_at_call 15
        refine (M2.out _ _ D5.out).mono ?_
        clear M2
        rintro e w6 ⟨rfl, D6, hf6⟩
        have x6 := Mr.hid ((hf6 B (by omega) (Array.getElem?_eq_some_iff.1 x5.out).1).trans x5.out)
        have n6 := duo_n D6
        have MV := Mr.hid (duo_moves D6)
        replace D6 := Mr.hid D6
        clear hf6
        go_wp2_with fail
        refine hK.out _ _ (CE.out _ x6.out) (fun hS => ?_)
        clear hK K
        refine wpAnyH_take (i := 6) (v := .bool false) rfl (by kernel_rfl) (by kernel_rfl) (by kernel_rfl) (fun _ _ _ h => h) (Or.inl ⟨by rfl, fun w' hw => ?y6⟩) hS ?_
        case y6 =>
          obtain ⟨s1, s2, s3, s4⟩ := hw
          clear hS
          go_simp
        refine wpAnyH_take (i := 7) (v := .bool false) rfl (by kernel_rfl) (by kernel_rfl) (by kernel_rfl) (fun _ _ _ h => h) (Or.inl ⟨by rfl, fun w' hw => ?y7⟩) hS ?_
        case y7 =>
          obtain ⟨s1, s2, s3, s4⟩ := hw
          clear hS
          go_simp
        refine wpAnyH_take (i := 8) (v := .pointer (some ⟨q1.b, 0, none⟩)) rfl (by kernel_rfl) (by kernel_rfl) (by kernel_rfl) (fun _ _ _ h => h) (Or.inl ⟨by rfl, fun w' hw => ?y8⟩) hS ?_
        case y8 =>
          obtain ⟨s1, s2, s3, s4⟩ := hw
          clear hS
          go_simp
        refine wpAnyH_take (i := 10) (v := .pointer (some ⟨q2.b, 0, none⟩)) rfl (by kernel_rfl) (by kernel_rfl) (by kernel_rfl) (fun _ _ _ h => h) (Or.inl ⟨by rfl, fun w' hw => ?y10⟩) hS ?_
        case y10 =>
          obtain ⟨s1, s2, s3, s4⟩ := hw
          clear hS
          go_simp
        refine wpAnyH_take (i := 11) (v := .pointer (some ⟨q2.b, 0, none⟩)) rfl (by kernel_rfl) (by kernel_rfl) (by kernel_rfl) (fun _ _ _ h => h) (Or.inl ⟨by rfl, fun w' hw => ?y11⟩) hS ?_
        case y11 =>
          obtain ⟨s1, s2, s3, s4⟩ := hw
          clear hS
          go_simp
        refine wpAnyH_take (i := 12) (v := .pointer (some ⟨q2.b, 23, none⟩)) rfl (by kernel_rfl) (by kernel_rfl) (by kernel_rfl) (fun _ _ _ h => h) (Or.inl ⟨by rfl, fun w' hw => ?y12⟩) hS ?_
        case y12 =>
          obtain ⟨s1, s2, s3, s4⟩ := hw
          clear hS
          go_simp
        refine wpAnyH_ready (rs := [9, 13]) (by kernel_rfl) (by simp) (AllReadyH.cons rfl (fun K hK => ?a9) (AllReadyH.cons rfl (fun K hK => ?a13) AllReadyH.nil))
        case a9 =>
          go_simp
          go_at_call 24
          refine MV.out.mono ?_
          rintro e w7 ⟨rfl, hw⟩
          obtain rfl := hw.symm
          go_wp2_with fail
          refine hK.out _ _ (CE.out _ x6.out) (fun hS => ?_)
          clear hK K
          refine wpAnyH_ready (rs := [13]) (by kernel_rfl) (by simp) (AllReadyH.cons rfl (fun K hK => ?_) AllReadyH.nil)
          go_simp
          refine hK.out _ _ (CE.out _ x6.out) (fun hS => ?_)
          clear hK K
          refine wpAnyH_ready (rs := [14]) (by kernel_rfl) (by simp) (AllReadyH.cons rfl (fun K hK => ?_) AllReadyH.nil)
          go_simp
          refine hK.out _ _ (CE.out _ x6.out) (fun hS => ?_)
          clear hK K
          refine wpAnyH_ready (rs := [15]) (by kernel_rfl) (by simp) (AllReadyH.cons rfl (fun K hK => ?_) AllReadyH.nil)
          go_simp
          refine hK.out _ _ (CE.out _ x6.out) (fun hS => ?_)
          clear hK K
          refine wpAnyH_done (by kernel_rfl) ?_ _
          go_wp2
          go_meet
          exact ⟨rfl, _, _, D6.out⟩
        case a13 =>
          go_simp
          refine hK.out _ _ (CE.out _ x6.out) (fun hS => ?_)
          clear hK K
          refine wpAnyH_ready (rs := [9]) (by kernel_rfl) (by simp) (AllReadyH.cons rfl (fun K hK => ?_) AllReadyH.nil)
          go_simp
          go_at_call 24
          refine MV.out.mono ?_
          rintro e w7 ⟨rfl, hw⟩
          obtain rfl := hw.symm
          go_wp2_with fail
          refine hK.out _ _ (CE.out _ x6.out) (fun hS => ?_)
          clear hK K
          refine wpAnyH_ready (rs := [14]) (by kernel_rfl) (by simp) (AllReadyH.cons rfl (fun K hK => ?_) AllReadyH.nil)
          go_simp
          refine hK.out _ _ (CE.out _ x6.out) (fun hS => ?_)
          clear hK K
          refine wpAnyH_ready (rs := [15]) (by kernel_rfl) (by simp) (AllReadyH.cons rfl (fun K hK => ?_) AllReadyH.nil)
          go_simp
          refine hK.out _ _ (CE.out _ x6.out) (fun hS => ?_)
          clear hK K
          refine wpAnyH_done (by kernel_rfl) ?_ _
          go_wp2
          go_meet
          exact ⟨rfl, _, _, D6.out⟩
      case rest =>
        obtain ⟨rfl, F1, F2, D6⟩ := hcut
        clear CE M1 M2 X1 m0 m1 m2 m3 hBe hBr x1d D1' x1 hp bb bn nn nn'
        obtain ⟨f0, f1, f2, hw0⟩ := D6.k.cells
        replace D6 := Mr.hid D6
        go_upto_region 17 with fail
        go_cut [112] (fun t wx => (∃ bb, t = .bool bb) ∧ wx = wc)
        case first =>
          go_wp2
          all_goals go_meet
          all_goals exact ⟨⟨_, rfl⟩, rfl⟩
        case rest =>
          obtain ⟨⟨bb, rfl⟩, hw⟩ := hcut
          obtain rfl := hw.symm
          obtain ⟨gko, hgko⟩ : ∃ g, g = gk := ⟨_, rfl⟩
          cases bb
          · go_wp2
            go_loopg [12] (nth + 2) (fun k s12 wy => ∃ (t : Int), s12 = .int .i64 t ∧ t + (k : Int) = (nth : Int) + 1 ∧ -1 ≤ t ∧ Duo w wy F1 F2 k0 k1 q1 q2 (.int .i64 (nth : Int)) y (.slice (some ⟨bo, oo, none⟩) nm cm) P' P')
            case atStart => exact ⟨-1, rfl, by omega, by omega, D6.out⟩
            case round =>
              obtain ⟨t, rfl, htk, ht1, hD⟩ := hrel
              clear D6 f0 f1 f2 hw0
              obtain ⟨f0, f1, f2, hw0⟩ := hD.k.cells
              by_cases htn : t ≤ (nth : Int)
              · have dt : decide (t ≤ (nth : Int)) = true := decide_eq_true htn
                obtain ⟨b, kn, c, g, hcase, AK⟩ := duo_ask hD hlc'.out t
                have A1 := Mr.hid (AK wr (Below.refl _ _)).1
                have A2 := Mr.hid (fun (W' : World) (hB : Below wr.heap.size wr W') => (AK W' hB).2.1)
                have A3 := Mr.hid (fun (W' : World) (hB : Below wr.heap.size wr W') => (AK W' hB).2.2)
                have tw1 : IntKind.i64.wrap (t + 1) = t + 1 := i64w' _ (by omega) (by omega)
                clear AK
                replace hD := Mr.hid hD
                replace hcase := Mr.hid hcase
                go_upto_region 22 with (first
                  | (go_at_call 25; refine A1.out.mono ?_; clear A1; rintro e w1 ⟨rfl, hB1⟩; unfold Cl.val; replace hB1 := Mr.hid hB1)
                  | fail)
                obtain ⟨W2, hW2⟩ : ∃ W2, w1.alloc (.cells #[.int .i64 c.th, .int .i64 c.op, .int .i64 c.arg, .int .i64 c.data, .int .i64 c.beg, .int .i64 c.fin, .int .i64 c.pt, .int .i64 c.ak, .int .i64 c.av] 78) = W2 := ⟨_, rfl⟩
                have B2 : Bc W2 w1.heap.size c := by rw [← hW2]; exact heap_alloc_new w1 _
                have hB2 : Below wr.heap.size wr W2 := by rw [← hW2]; exact hB1.out.alloc hB1.out.size _
                rw [hW2]
                clear hW2 hB1
                generalize w1.heap.size = b13 at *
                have A2' := Mr.hid (A2.out W2 hB2)
                clear A2
                replace B2 := Mr.hid B2
                replace hB2 := Mr.hid hB2
                go_upto_region 23 with (first
                  | (go_at_call 26; refine A2'.out.mono ?_; clear A2'; rintro e w3 ⟨rfl, hB3⟩; unfold Cl.val; replace hB3 := Mr.hid hB3)
                  | fail)
                obtain ⟨W4, hW4⟩ : ∃ W4, w3.alloc (.cells #[.int .i64 g.th, .int .i64 g.op, .int .i64 g.arg, .int .i64 g.data, .int .i64 g.beg, .int .i64 g.fin, .int .i64 g.pt, .int .i64 g.ak, .int .i64 g.av] 78) = W4 := ⟨_, rfl⟩
                have B4 : Bc W4 w3.heap.size g := by rw [← hW4]; exact heap_alloc_new w3 _
                have hB34 : Below W2.heap.size W2 W4 := by rw [← hW4]; exact hB3.out.alloc hB3.out.size _
                rw [hW4]
                clear hW4 hB3
                generalize w3.heap.size = b15 at *
                have B2' := B2.out.below hB34
                have hB4 := hB2.out.trans (hB34.mono hB2.out.size)
                clear B2 hB2 hB34
                have A3' := Mr.hid (A3.out W4 hB4)
                clear A3 f0 f1 f2
                obtain ⟨c0, c1, c2, c3, c4, c5, c6, c7, c8⟩ := B2'.cells
                obtain ⟨g0, g1, g2, g3, g4, g5, g6, g7, g8⟩ := B4.cells
                have D4 := Mr.hid (hD.out.below hB4)
                obtain ⟨f0, f1, f2, _⟩ := D4.out.k.cells
                clear B2' B4 hB4 hD
                rcases hcase.out with ⟨rfl, rfl, hbeg⟩ | ⟨rfl, rfl, rfl⟩
                · clear hcase
                  have e1 : decide (0 ≤ c.beg) = true := decide_eq_true hbeg
                  cases b
                  all_goals go_wp2_with (go_at_call 27; refine A3'.out.mono ?_; clear A3'; rintro e w5 ⟨rfl, hw⟩; obtain rfl := hw.symm)
                  all_goals go_roundg (gk - 1)
                  case measure => omega
                  case measure => omega
                  case rel => exact ⟨t + 1, rfl, by omega, by omega, D4.out⟩
                  case rel => exact ⟨t + 1, rfl, by omega, by omega, D4.out⟩
                · clear hcase
                  simp only [noBeg, noCl] at c0 c1 c2 c3 c4 c5 c6 c7 c8 g0 g1 g2 g3 g4 g5 g6 g7 g8
                  cases b
                  all_goals go_wp2_with (go_at_call 27; refine A3'.out.mono ?_; clear A3'; rintro e w5 ⟨rfl, hw⟩; obtain rfl := hw.symm)
                  all_goals go_roundg (gk - 1)
                  case measure => omega
                  case measure => omega
                  case rel => exact ⟨t + 1, rfl, by omega, by omega, D4.out⟩
                  case rel => exact ⟨t + 1, rfl, by omega, by omega, D4.out⟩
              · have dt : decide (t ≤ (nth : Int)) = false := decide_eq_false htn
                replace hD := Mr.hid hD
                go_wp2
                go_roundg (gko - 1)
                case measure => omega
                case rel => exact ⟨i + 1, F1, F2, P', by simp, by omega, hD.out, hlc'.out⟩
          · go_wp2
            go_roundg (gk - 1)
            case measure => omega
            case rel => exact ⟨i + 1, F1, F2, P', by simp, by omega, D6.out, hlc'.out⟩
    · have d0 : decide ((i : Int) < (nm : Int)) = false := decide_eq_false (by omega)
      replace hD := Mr.hid hD
      replace hlc := Mr.hid hlc
      go_wp2
      refine hK1.out _ _ ?_
      exact moves_C hD.out hlc.out ask
end Go.Proofs.Ytglppcoohojmpaa.Rf
