import Derived.Test.YtkfpiafgfjpodaaGreatArFreshC
/-
  ArenaFresh: the walk's middle part.
-/
namespace Go.Proofs.YtkfpiafgfjpodaaGreat.Ar
open Go.RowKit Go.Shelf Mr Me Ma Wc Wm Wr
set_option maxRecDepth 100000 in
set_option maxHeartbeats 8000000 in
theorem fresh_B {w wc : World} {c : Cf} {n nt : Nat} {P0 Q : Pa} {am : Option Addr} {ms : List Mv} (H : FrH w c n nt P0 Q am ms) (cm : Nat) {gg qg B0 Br B1 B2 Bq : Nat} {v1 v2 v3 v4 u1 u2 u3 u4 : Value} (Kn : Kg w wc c gg qg ms B0) (R1n : Rk wc B0 B1 Br v1 v2 v3 v4 Q) (Rn : Rk wc B1 B2 Bq u1 u2 u3 u4 Q)
    {s0 s3 s4 s10 s11 s12 s13 s14 s15 s16 s17 s18 s19 s20 s21 s22 s23 s24 s25 s26 s27 s28 s29 s30 s31 s32 s33 s34 s35 s36 s37 s38 s39 s40 s41 s42 s43 s44 s45 s46 s47 s48 s49 s50 s51 s52 s53 s54 s55 s56 s57 s58 s59 s60 s61 s62 s63 s64 s65 s66 s67 s68 s69 s70 s71 s72 s73 s74 s75 s76 s77 s78 s79 s80 s81 s82 s83 s84 s85 s86 s87 s88 s89 s90 s91 s92 s93 s94 s95 s96 s97 s98 s99 s100 s101 s102 s103 s104 s105 s106 s107 s108 s109 s110 s111 s112 s113 s114 s115 s116 s117 s118 s119 s120 s121 s122 s123 s124 s125 s126 s127 s128 s129 s130 s131 s132 s133 s134 s135 s136 s137 s138 s139 s140 s141 s142 s143 s144 s145 s146 s147 s148 s149 s150 s151 s152 s153 s154 s155 s156 s157 s158 s159 s160 s161 s162 s163 s164 s165 s166 s167 s168 s169 s170 s171 s172 s173 s174 s175 s176 s177 s178 s179 s180 s181 s182 s183 s184 s185 s186 s187 s188 s189 s190 s191 s192 s193 s194 s195 s196 s197 s198 s199 s200 s201 s202 s203 s204 s205 s206 s207 s208 s209 s210 s211 s212 s213 s214 s215 s216 s217 s218 s219 s220 s221 : Value} :
    Code.wp Tryz.prog codeB (bodyPost Tryz.prog Tryz.f7 fun e w' => e = .returned (.bool true) ∧ Below w.heap.size w w') ⟨#[s0, .slice am ms.length cm, .pointer (some ⟨w.heap.size, 0, none⟩), s3, s4, .slice (some ⟨gg, 0, none⟩) (ms.length + 1) qg, .pointer (some ⟨Br, 0, none⟩), .int .i64 0, .pointer (some ⟨Bq, 0, none⟩), .int .i64 0, s10, s11, s12, s13, s14, s15, s16, s17, s18, s19, s20, s21, s22, s23, s24, s25, s26, s27, s28, s29, s30, s31, s32, s33, s34, s35, s36, s37, s38, s39, s40, s41, s42, s43, s44, s45, s46, s47, s48, s49, s50, s51, s52, s53, s54, s55, s56, s57, s58, s59, s60, s61, s62, s63, s64, s65, s66, s67, s68, s69, s70, s71, s72, s73, s74, s75, s76, s77, s78, s79, s80, s81, s82, s83, s84, s85, s86, s87, s88, s89, s90, s91, s92, s93, s94, s95, s96, s97, s98, s99, s100, s101, s102, s103, s104, s105, s106, s107, s108, s109, s110, s111, s112, s113, s114, s115, s116, s117, s118, s119, s120, s121, s122, s123, s124, s125, s126, s127, s128, s129, s130, s131, s132, s133, s134, s135, s136, s137, s138, s139, s140, s141, s142, s143, s144, s145, s146, s147, s148, s149, s150, s151, s152, s153, s154, s155, s156, s157, s158, s159, s160, s161, s162, s163, s164, s165, s166, s167, s168, s169, s170, s171, s172, s173, s174, s175, s176, s177, s178, s179, s180, s181, s182, s183, s184, s185, s186, s187, s188, s189, s190, s191, s192, s193, s194, s195, s196, s197, s198, s199, s200, s201, s202, s203, s204, s205, s206, s207, s208, s209, s210, s211, s212, s213, s214, s215, s216, s217, s218, s219, s220, s221], []⟩ wc := by
  have TBL := H.tbl
  have PL := H.pl
  unfold Cf.val at TBL PL
  replace TBL := Mr.hid TBL
  replace PL := Mr.hid PL
  have hInv := Mr.hid H.inv
  have hmo := Mr.hid H.mo
  have hn0 := Mr.hid H.n0
  have hin := Mr.hid H.inn
  have h0 := Mr.hid H.h0
  have z1 := Mr.hid H.z1
  have z2 := Mr.hid H.z2
  have z3 := Mr.hid H.z3
  have z4 := Mr.hid H.z4
  have hm := Mr.hid H.hm
  have hnm := H.nm
  have AW := Mr.hid (fun W => awake_any W)
  clear TBL hInv hmo hn0 hin h0
  replace H := Mr.hid H
  unfold codeB
  conv => arg 2; whnf
  obtain ⟨p1, q1, rfl, _⟩ := R1n.h1.form
  obtain ⟨p2, q2, rfl, _⟩ := R1n.h2.form
  obtain ⟨p3, q3, rfl, _⟩ := R1n.h3.form
  obtain ⟨p4, q4, rfl, _⟩ := R1n.h4.form
  obtain ⟨p5, q5, rfl, _⟩ := Rn.h1.form
  obtain ⟨p6, q6, rfl, _⟩ := Rn.h2.form
  obtain ⟨p7, q7, rfl, _⟩ := Rn.h3.form
  obtain ⟨p8, q8, rfl, _⟩ := Rn.h4.form
  have lB12 : B1 ≤ B2 := by have := Rn.lt; omega
  have SM := fun (W' : World) (hB : Below wc.heap.size wc W') => same_eq (R1n.below hB).h1 (R1n.below hB).h2 (R1n.below hB).h3 (R1n.below hB).h4 (Rn.below hB).h1 (Rn.below hB).h2 (Rn.below hB).h3 (Rn.below hB).h4 z1.out z2.out z3.out z4.out
  unfold runV at SM
  have KC := fun (W' : World) (hB : Below wc.heap.size wc W') => (⟨Kn.below hB, R1n.below hB, Rn.below hB, (R1n.below hB).cells, (Rn.below hB).cells, (Kn.below hB).last⟩ : _ ∧ _ ∧ _ ∧ _ ∧ _ ∧ _)
  obtain ⟨_, _, _, ⟨x0, x1, x2, x3⟩, ⟨x4, x5, x6, x7⟩, x8⟩ := KC wc (Below.refl _ _)
  have hcap : ms.length + 1 ≤ qg := by
    obtain ⟨_, _, e, _, _, hq, _⟩ := Kn.gv.there (by omega)
    cases e
    omega
  have hqgx : qg ≤ 9223372036854775807 := by
    obtain ⟨_, _, e, _, _, _, hq⟩ := Kn.gv.there (by omega)
    cases e
    unfold maxLen at hq
    exact hq
  have lR := R1n.size
  have lQ := Rn.size
  have lG := Kn.lt.2.2
  replace SM := Mr.hid SM
  replace KC := Mr.hid KC
  clear Kn R1n Rn
  go_wp2_with (first | (go_at_call 12; refine (num_any _ _).mono ?_; rintro e wn ⟨rfl, hwn⟩; obtain rfl := hwn.symm) | (go_at_call 10; refine (AW.out _).mono ?_; clear AW; rintro e w8 ⟨rfl, hB8⟩; have l8 := hB8.size; have SM8 := SM.out w8 hB8; obtain ⟨m1, m2, m3, ⟨e0, e1, e2, e3⟩, ⟨e4, e5, e6, e7⟩, e8⟩ := KC.out w8 hB8; replace SM8 := Mr.hid SM8; clear x0 x1 x2 x3 x4 x5 x6 x7 x8 SM; have hB8' := Mr.hid hB8; clear m1 m2 m3 hB8) | (go_at_call 19; refine SM8.out.mono ?_; clear SM8; rintro e w9 ⟨rfl, hB9⟩; have l9 := hB9.size; obtain ⟨n1, n2, n3, ⟨t0, t1, t2, t3⟩, ⟨t4, t5, t6, t7⟩, t8⟩ := KC.out w9 (hB8'.out.trans (hB9.mono l8)); clear e0 e1 e2 e3 e4 e5 e6 e7 e8 KC hB8' hB9; replace n1 := Mr.hid n1; replace n2 := Mr.hid n2; replace n3 := Mr.hid n3))
  clear t0 t1 t2 t3 t4 t5 t6 t7 t8 lR lQ lG l8 l9
  go_loopg [10] ms.length (fun k s wy => ∃ j : Nat, s = .int .i64 (j : Int) ∧ j + k = ms.length ∧ Kg w wy c gg qg ms B0 ∧ Rk wy B0 B1 Br (.slice p1 Q.cls.length q1) (.slice p2 Q.lg.length q2) (.slice p3 Q.shs.length q3) (.slice p4 Q.ws.length q4) Q ∧ Rk wy B1 B2 Bq (.slice p5 Q.cls.length q5) (.slice p6 Q.lg.length q6) (.slice p7 Q.shs.length q7) (.slice p8 Q.ws.length q8) Q)
  case atStart => exact ⟨0, rfl, by omega, n1.out, n2.out, n3.out⟩
  case round =>
    obtain ⟨j, rfl, hj, Kj, R1j, R2j⟩ := hrel
    by_cases hjl : j < ms.length
    · rcases hm.out.2 with h0' | ⟨bo, oo, rfl, hbo, hcc⟩
      · rw [h0'] at hjl; simp at hjl
      obtain ⟨c0, c1, c2, c3⟩ := hcc j hjl
      have hcW := fun (i : Nat) (u : Value) (hu : w.cell? ⟨bo, i, none⟩ = some u) => (Kj.bel.cell (p := ⟨bo, i, none⟩) hbo).trans hu
      have g0 := hcW _ _ c0
      have g1 := hcW _ _ c1
      have g2 := hcW _ _ c2
      have g3 := hcW _ _ c3
      rcases Kj.mv.2 with h0' | ⟨b', o', e', _, hcd⟩
      · rw [h0'] at hjl; simp at hjl
      cases e'
      obtain ⟨f0, f1, f2, f3⟩ := hcd j hjl
      rw [Nat.zero_add] at f0 f1 f2 f3
      generalize ms[j]?.getD noMv = m0 at *
      have hjl' : (j : Int) < (ms.length : Int) := by omega
      have fin := fun nq => (⟨Kj.below (Bx.draws _ _ nq), R1j.below (Bx.draws _ _ nq), R2j.below (Bx.draws _ _ nq)⟩ : _ ∧ _ ∧ _)
      have lb : bo < wr.heap.size := Nat.lt_of_lt_of_le hbo Kj.bel.size
      have lg2 := Kj.lt.2.2
      clear hcc hcd hcW c0 c1 c2 c3
      replace fin := Mr.hid fin
      replace Kj := Mr.hid Kj
      replace R1j := Mr.hid R1j
      replace R2j := Mr.hid R2j
      go_wp2
      go_quiet (fail)
      go_wp2
      go_roundg (gk - 1)
      case measure => omega
      case rel => exact ⟨j + 1, by simp, by omega, fin.out _⟩
    · clear n1 n2 n3
      have K0 := Mr.hid Kj
      have R0 := Mr.hid (Ro.of R1j)
      have S0 := Mr.hid R2j
      clear Kj R1j R2j
      go_wp2
      go_loopg [11] Q.ws.length (fun k s wy => ∃ j : Nat, s = .int .i64 (j : Int) ∧ j + k = Q.ws.length ∧ Kg w wy c gg qg ms B0 ∧ Ro wy B0 B1 Br (.slice p1 Q.cls.length q1) (.slice p2 Q.lg.length q2) (.slice p3 Q.shs.length q3) (.slice p4 Q.ws.length q4) Q ∧ Rk wy B1 B2 Bq (.slice p5 Q.cls.length q5) (.slice p6 Q.lg.length q6) (.slice p7 Q.shs.length q7) (.slice p8 Q.ws.length q8) Q)
      case atStart => exact ⟨0, rfl, by omega, K0.out, R0.out, S0.out⟩
      case round =>
        obtain ⟨j, rfl, hj, Kj, Rj, Sj⟩ := hrel
        clear K0 R0 S0
        obtain ⟨x0, x1, x2, x3⟩ := Rj.cells
        have lR := Rj.size
        by_cases hjl : j < Q.ws.length
        · have hrow := Rj.h4
          have hno := hrow.not Rj.bx (by decide)
          obtain ⟨g, qq, hg, ⟨hg1, hg2⟩, hgw, hgn, hgx⟩ := hrow.there (by omega)
          cases hg
          unfold maxLen at hgx
          have hgb : g ≠ Br := fun e => hno (by rw [e]; rfl)
          have hgb' : Br ≠ g := fun e => hgb e.symm
          obtain ⟨zz0, cc0⟩ := hrow.cell (j) (by omega)
          have fz := hrow.frozen
          have hji : (j : Int) < (Q.ws.length : Int) := by omega
          have fin : Kg w (wr.setCell ⟨g, j, none⟩ (.int .u64 5)) c gg qg ms B0 ∧ Ro (wr.setCell ⟨g, j, none⟩ (.int .u64 5)) B0 B1 Br (.slice p1 Q.cls.length q1) (.slice p2 Q.lg.length q2) (.slice p3 Q.shs.length q3) (.slice (some ⟨g, 0, none⟩) Q.ws.length q4) Q ∧ Rk (wr.setCell ⟨g, j, none⟩ (.int .u64 5)) B1 B2 Bq (.slice p5 Q.cls.length q5) (.slice p6 Q.lg.length q6) (.slice p7 Q.shs.length q7) (.slice p8 Q.ws.length q8) Q := ⟨(Kj.set ⟨g, j, none⟩ hg1 _), (Rj.set g (j) hgb _), (Sj.set ⟨g, j, none⟩ (.inl hg2) _)⟩
          clear hrow hno
          replace fin := Mr.hid fin
          replace Kj := Mr.hid Kj
          replace Rj := Mr.hid Rj
          replace Sj := Mr.hid Sj
          have zq := z4.out
          go_wp2
          go_roundg (gk - 1)
          case measure => omega
          case rel => exact ⟨j + 1, by simp, by omega, fin.out⟩
        · have K0 := Mr.hid Kj
          have R0 := Mr.hid Rj
          have S0 := Mr.hid Sj
          clear Kj Rj Sj
          have zq := z4.out
          go_wp2
          go_loopg [12] Q.lg.length (fun k s wy => ∃ j : Nat, s = .int .i64 (j : Int) ∧ j + k = Q.lg.length ∧ Kg w wy c gg qg ms B0 ∧ Ro wy B0 B1 Br (.slice p1 Q.cls.length q1) (.slice p2 Q.lg.length q2) (.slice p3 Q.shs.length q3) (.slice p4 Q.ws.length q4) Q ∧ Rk wy B1 B2 Bq (.slice p5 Q.cls.length q5) (.slice p6 Q.lg.length q6) (.slice p7 Q.shs.length q7) (.slice p8 Q.ws.length q8) Q)
          case atStart => exact ⟨0, rfl, by omega, K0.out, R0.out, S0.out⟩
          case round =>
            obtain ⟨j, rfl, hj, Kj, Rj, Sj⟩ := hrel
            clear K0 R0 S0
            obtain ⟨x0, x1, x2, x3⟩ := Rj.cells
            have lR := Rj.size
            by_cases hjl : j < Q.lg.length
            · have hrow := Rj.h2
              have hno := hrow.not Rj.bx (by decide)
              obtain ⟨g, qq, hg, ⟨hg1, hg2⟩, hgw, hgn, hgx⟩ := hrow.there (by omega)
              cases hg
              unfold maxLen at hgx
              have hgb : g ≠ Br := fun e => hno (by rw [e]; rfl)
              have hgb' : Br ≠ g := fun e => hgb e.symm
              obtain ⟨zz0, cc0⟩ := hrow.cell (j * 7) (by omega)
              obtain ⟨zz1, cc1⟩ := hrow.cell (j * 7 + 1) (by omega)
              obtain ⟨zz2, cc2⟩ := hrow.cell (j * 7 + 2) (by omega)
              obtain ⟨zz3, cc3⟩ := hrow.cell (j * 7 + 3) (by omega)
              obtain ⟨zz4, cc4⟩ := hrow.cell (j * 7 + 4) (by omega)
              obtain ⟨zz5, cc5⟩ := hrow.cell (j * 7 + 5) (by omega)
              obtain ⟨zz6, cc6⟩ := hrow.cell (j * 7 + 6) (by omega)
              have fz := hrow.frozen
              have hji : (j : Int) < (Q.lg.length : Int) := by omega
              have fin : Kg w (((((((wr.setCell ⟨g, j * 7, none⟩ (.int .i64 (-9))).setCell ⟨g, j * 7 + 1, none⟩ (.int .i64 0)).setCell ⟨g, j * 7 + 2, none⟩ (.int .i64 0)).setCell ⟨g, j * 7 + 3, none⟩ (.int .i64 0)).setCell ⟨g, j * 7 + 4, none⟩ (.int .u64 0)).setCell ⟨g, j * 7 + 5, none⟩ (.int .u64 0)).setCell ⟨g, j * 7 + 6, none⟩ (.int .u64 0)) c gg qg ms B0 ∧ Ro (((((((wr.setCell ⟨g, j * 7, none⟩ (.int .i64 (-9))).setCell ⟨g, j * 7 + 1, none⟩ (.int .i64 0)).setCell ⟨g, j * 7 + 2, none⟩ (.int .i64 0)).setCell ⟨g, j * 7 + 3, none⟩ (.int .i64 0)).setCell ⟨g, j * 7 + 4, none⟩ (.int .u64 0)).setCell ⟨g, j * 7 + 5, none⟩ (.int .u64 0)).setCell ⟨g, j * 7 + 6, none⟩ (.int .u64 0)) B0 B1 Br (.slice p1 Q.cls.length q1) (.slice (some ⟨g, 0, none⟩) Q.lg.length q2) (.slice p3 Q.shs.length q3) (.slice p4 Q.ws.length q4) Q ∧ Rk (((((((wr.setCell ⟨g, j * 7, none⟩ (.int .i64 (-9))).setCell ⟨g, j * 7 + 1, none⟩ (.int .i64 0)).setCell ⟨g, j * 7 + 2, none⟩ (.int .i64 0)).setCell ⟨g, j * 7 + 3, none⟩ (.int .i64 0)).setCell ⟨g, j * 7 + 4, none⟩ (.int .u64 0)).setCell ⟨g, j * 7 + 5, none⟩ (.int .u64 0)).setCell ⟨g, j * 7 + 6, none⟩ (.int .u64 0)) B1 B2 Bq (.slice p5 Q.cls.length q5) (.slice p6 Q.lg.length q6) (.slice p7 Q.shs.length q7) (.slice p8 Q.ws.length q8) Q := ⟨(((((((Kj.set ⟨g, j * 7, none⟩ hg1 _).set ⟨g, j * 7 + 1, none⟩ hg1 _).set ⟨g, j * 7 + 2, none⟩ hg1 _).set ⟨g, j * 7 + 3, none⟩ hg1 _).set ⟨g, j * 7 + 4, none⟩ hg1 _).set ⟨g, j * 7 + 5, none⟩ hg1 _).set ⟨g, j * 7 + 6, none⟩ hg1 _), (((((((Rj.set g (j * 7) hgb _).set g (j * 7 + 1) hgb _).set g (j * 7 + 2) hgb _).set g (j * 7 + 3) hgb _).set g (j * 7 + 4) hgb _).set g (j * 7 + 5) hgb _).set g (j * 7 + 6) hgb _), (((((((Sj.set ⟨g, j * 7, none⟩ (.inl hg2) _).set ⟨g, j * 7 + 1, none⟩ (.inl hg2) _).set ⟨g, j * 7 + 2, none⟩ (.inl hg2) _).set ⟨g, j * 7 + 3, none⟩ (.inl hg2) _).set ⟨g, j * 7 + 4, none⟩ (.inl hg2) _).set ⟨g, j * 7 + 5, none⟩ (.inl hg2) _).set ⟨g, j * 7 + 6, none⟩ (.inl hg2) _)⟩
              clear hrow hno
              replace fin := Mr.hid fin
              replace Kj := Mr.hid Kj
              replace Rj := Mr.hid Rj
              replace Sj := Mr.hid Sj
              have zq := z2.out
              go_wp2
              go_roundg (gk - 1)
              case measure => omega
              case rel => exact ⟨j + 1, by simp, by omega, fin.out⟩
            · have K0 := Mr.hid Kj
              have R0 := Mr.hid Rj
              have S0 := Mr.hid Sj
              clear Kj Rj Sj
              have zq := z2.out
              go_wp2
              go_loopg [13] Q.shs.length (fun k s wy => ∃ j : Nat, s = .int .i64 (j : Int) ∧ j + k = Q.shs.length ∧ Kg w wy c gg qg ms B0 ∧ Ro wy B0 B1 Br (.slice p1 Q.cls.length q1) (.slice p2 Q.lg.length q2) (.slice p3 Q.shs.length q3) (.slice p4 Q.ws.length q4) Q ∧ Rk wy B1 B2 Bq (.slice p5 Q.cls.length q5) (.slice p6 Q.lg.length q6) (.slice p7 Q.shs.length q7) (.slice p8 Q.ws.length q8) Q)
              case atStart => exact ⟨0, rfl, by omega, K0.out, R0.out, S0.out⟩
              case round =>
                obtain ⟨j, rfl, hj, Kj, Rj, Sj⟩ := hrel
                clear K0 R0 S0
                obtain ⟨x0, x1, x2, x3⟩ := Rj.cells
                have lR := Rj.size
                by_cases hjl : j < Q.shs.length
                · have hrow := Rj.h3
                  have hno := hrow.not Rj.bx (by decide)
                  obtain ⟨g, qq, hg, ⟨hg1, hg2⟩, hgw, hgn, hgx⟩ := hrow.there (by omega)
                  cases hg
                  unfold maxLen at hgx
                  have hgb : g ≠ Br := fun e => hno (by rw [e]; rfl)
                  have hgb' : Br ≠ g := fun e => hgb e.symm
                  obtain ⟨zz0, cc0⟩ := hrow.cell (j * 5) (by omega)
                  obtain ⟨zz1, cc1⟩ := hrow.cell (j * 5 + 1) (by omega)
                  obtain ⟨zz2, cc2⟩ := hrow.cell (j * 5 + 2) (by omega)
                  obtain ⟨zz3, cc3⟩ := hrow.cell (j * 5 + 3) (by omega)
                  obtain ⟨zz4, cc4⟩ := hrow.cell (j * 5 + 4) (by omega)
                  have fz := hrow.frozen
                  have hji : (j : Int) < (Q.shs.length : Int) := by omega
                  have fin : Kg w (((((wr.setCell ⟨g, j * 5, none⟩ (.int .i64 (-9))).setCell ⟨g, j * 5 + 1, none⟩ (.int .i64 0)).setCell ⟨g, j * 5 + 2, none⟩ (.int .i64 0)).setCell ⟨g, j * 5 + 3, none⟩ (.int .i64 0)).setCell ⟨g, j * 5 + 4, none⟩ (.int .i64 0)) c gg qg ms B0 ∧ Ro (((((wr.setCell ⟨g, j * 5, none⟩ (.int .i64 (-9))).setCell ⟨g, j * 5 + 1, none⟩ (.int .i64 0)).setCell ⟨g, j * 5 + 2, none⟩ (.int .i64 0)).setCell ⟨g, j * 5 + 3, none⟩ (.int .i64 0)).setCell ⟨g, j * 5 + 4, none⟩ (.int .i64 0)) B0 B1 Br (.slice p1 Q.cls.length q1) (.slice p2 Q.lg.length q2) (.slice (some ⟨g, 0, none⟩) Q.shs.length q3) (.slice p4 Q.ws.length q4) Q ∧ Rk (((((wr.setCell ⟨g, j * 5, none⟩ (.int .i64 (-9))).setCell ⟨g, j * 5 + 1, none⟩ (.int .i64 0)).setCell ⟨g, j * 5 + 2, none⟩ (.int .i64 0)).setCell ⟨g, j * 5 + 3, none⟩ (.int .i64 0)).setCell ⟨g, j * 5 + 4, none⟩ (.int .i64 0)) B1 B2 Bq (.slice p5 Q.cls.length q5) (.slice p6 Q.lg.length q6) (.slice p7 Q.shs.length q7) (.slice p8 Q.ws.length q8) Q := ⟨(((((Kj.set ⟨g, j * 5, none⟩ hg1 _).set ⟨g, j * 5 + 1, none⟩ hg1 _).set ⟨g, j * 5 + 2, none⟩ hg1 _).set ⟨g, j * 5 + 3, none⟩ hg1 _).set ⟨g, j * 5 + 4, none⟩ hg1 _), (((((Rj.set g (j * 5) hgb _).set g (j * 5 + 1) hgb _).set g (j * 5 + 2) hgb _).set g (j * 5 + 3) hgb _).set g (j * 5 + 4) hgb _), (((((Sj.set ⟨g, j * 5, none⟩ (.inl hg2) _).set ⟨g, j * 5 + 1, none⟩ (.inl hg2) _).set ⟨g, j * 5 + 2, none⟩ (.inl hg2) _).set ⟨g, j * 5 + 3, none⟩ (.inl hg2) _).set ⟨g, j * 5 + 4, none⟩ (.inl hg2) _)⟩
                  clear hrow hno
                  replace fin := Mr.hid fin
                  replace Kj := Mr.hid Kj
                  replace Rj := Mr.hid Rj
                  replace Sj := Mr.hid Sj
                  have zq := z3.out
                  go_wp2
                  go_roundg (gk - 1)
                  case measure => omega
                  case rel => exact ⟨j + 1, by simp, by omega, fin.out⟩
                · have K0 := Mr.hid Kj
                  have R0 := Mr.hid Rj
                  have S0 := Mr.hid Sj
                  clear Kj Rj Sj
                  have zq := z3.out
                  go_wp2
                  go_loopg [14] Q.cls.length (fun k s wy => ∃ j : Nat, s = .int .i64 (j : Int) ∧ j + k = Q.cls.length ∧ Kg w wy c gg qg ms B0 ∧ Ro wy B0 B1 Br (.slice p1 Q.cls.length q1) (.slice p2 Q.lg.length q2) (.slice p3 Q.shs.length q3) (.slice p4 Q.ws.length q4) Q ∧ Rk wy B1 B2 Bq (.slice p5 Q.cls.length q5) (.slice p6 Q.lg.length q6) (.slice p7 Q.shs.length q7) (.slice p8 Q.ws.length q8) Q)
                  case atStart => exact ⟨0, rfl, by omega, K0.out, R0.out, S0.out⟩
                  case round =>
                    obtain ⟨j, rfl, hj, Kj, Rj, Sj⟩ := hrel
                    clear K0 R0 S0
                    obtain ⟨x0, x1, x2, x3⟩ := Rj.cells
                    have lR := Rj.size
                    by_cases hjl : j < Q.cls.length
                    · have hrow := Rj.h1
                      have hno := hrow.not Rj.bx (by decide)
                      obtain ⟨g, qq, hg, ⟨hg1, hg2⟩, hgw, hgn, hgx⟩ := hrow.there (by omega)
                      cases hg
                      unfold maxLen at hgx
                      have hgb : g ≠ Br := fun e => hno (by rw [e]; rfl)
                      have hgb' : Br ≠ g := fun e => hgb e.symm
                      obtain ⟨zz0, cc0⟩ := hrow.cell (j * 9) (by omega)
                      obtain ⟨zz1, cc1⟩ := hrow.cell (j * 9 + 1) (by omega)
                      obtain ⟨zz2, cc2⟩ := hrow.cell (j * 9 + 2) (by omega)
                      obtain ⟨zz3, cc3⟩ := hrow.cell (j * 9 + 3) (by omega)
                      obtain ⟨zz4, cc4⟩ := hrow.cell (j * 9 + 4) (by omega)
                      obtain ⟨zz5, cc5⟩ := hrow.cell (j * 9 + 5) (by omega)
                      obtain ⟨zz6, cc6⟩ := hrow.cell (j * 9 + 6) (by omega)
                      obtain ⟨zz7, cc7⟩ := hrow.cell (j * 9 + 7) (by omega)
                      obtain ⟨zz8, cc8⟩ := hrow.cell (j * 9 + 8) (by omega)
                      have fz := hrow.frozen
                      have hji : (j : Int) < (Q.cls.length : Int) := by omega
                      have fin : Kg w (((((((((wr.setCell ⟨g, j * 9, none⟩ (.int .i64 0)).setCell ⟨g, j * 9 + 1, none⟩ (.int .i64 0)).setCell ⟨g, j * 9 + 2, none⟩ (.int .i64 0)).setCell ⟨g, j * 9 + 3, none⟩ (.int .i64 0)).setCell ⟨g, j * 9 + 4, none⟩ (.int .i64 (-9))).setCell ⟨g, j * 9 + 5, none⟩ (.int .i64 0)).setCell ⟨g, j * 9 + 6, none⟩ (.int .i64 0)).setCell ⟨g, j * 9 + 7, none⟩ (.int .i64 0)).setCell ⟨g, j * 9 + 8, none⟩ (.int .i64 0)) c gg qg ms B0 ∧ Ro (((((((((wr.setCell ⟨g, j * 9, none⟩ (.int .i64 0)).setCell ⟨g, j * 9 + 1, none⟩ (.int .i64 0)).setCell ⟨g, j * 9 + 2, none⟩ (.int .i64 0)).setCell ⟨g, j * 9 + 3, none⟩ (.int .i64 0)).setCell ⟨g, j * 9 + 4, none⟩ (.int .i64 (-9))).setCell ⟨g, j * 9 + 5, none⟩ (.int .i64 0)).setCell ⟨g, j * 9 + 6, none⟩ (.int .i64 0)).setCell ⟨g, j * 9 + 7, none⟩ (.int .i64 0)).setCell ⟨g, j * 9 + 8, none⟩ (.int .i64 0)) B0 B1 Br (.slice (some ⟨g, 0, none⟩) Q.cls.length q1) (.slice p2 Q.lg.length q2) (.slice p3 Q.shs.length q3) (.slice p4 Q.ws.length q4) Q ∧ Rk (((((((((wr.setCell ⟨g, j * 9, none⟩ (.int .i64 0)).setCell ⟨g, j * 9 + 1, none⟩ (.int .i64 0)).setCell ⟨g, j * 9 + 2, none⟩ (.int .i64 0)).setCell ⟨g, j * 9 + 3, none⟩ (.int .i64 0)).setCell ⟨g, j * 9 + 4, none⟩ (.int .i64 (-9))).setCell ⟨g, j * 9 + 5, none⟩ (.int .i64 0)).setCell ⟨g, j * 9 + 6, none⟩ (.int .i64 0)).setCell ⟨g, j * 9 + 7, none⟩ (.int .i64 0)).setCell ⟨g, j * 9 + 8, none⟩ (.int .i64 0)) B1 B2 Bq (.slice p5 Q.cls.length q5) (.slice p6 Q.lg.length q6) (.slice p7 Q.shs.length q7) (.slice p8 Q.ws.length q8) Q := ⟨(((((((((Kj.set ⟨g, j * 9, none⟩ hg1 _).set ⟨g, j * 9 + 1, none⟩ hg1 _).set ⟨g, j * 9 + 2, none⟩ hg1 _).set ⟨g, j * 9 + 3, none⟩ hg1 _).set ⟨g, j * 9 + 4, none⟩ hg1 _).set ⟨g, j * 9 + 5, none⟩ hg1 _).set ⟨g, j * 9 + 6, none⟩ hg1 _).set ⟨g, j * 9 + 7, none⟩ hg1 _).set ⟨g, j * 9 + 8, none⟩ hg1 _), (((((((((Rj.set g (j * 9) hgb _).set g (j * 9 + 1) hgb _).set g (j * 9 + 2) hgb _).set g (j * 9 + 3) hgb _).set g (j * 9 + 4) hgb _).set g (j * 9 + 5) hgb _).set g (j * 9 + 6) hgb _).set g (j * 9 + 7) hgb _).set g (j * 9 + 8) hgb _), (((((((((Sj.set ⟨g, j * 9, none⟩ (.inl hg2) _).set ⟨g, j * 9 + 1, none⟩ (.inl hg2) _).set ⟨g, j * 9 + 2, none⟩ (.inl hg2) _).set ⟨g, j * 9 + 3, none⟩ (.inl hg2) _).set ⟨g, j * 9 + 4, none⟩ (.inl hg2) _).set ⟨g, j * 9 + 5, none⟩ (.inl hg2) _).set ⟨g, j * 9 + 6, none⟩ (.inl hg2) _).set ⟨g, j * 9 + 7, none⟩ (.inl hg2) _).set ⟨g, j * 9 + 8, none⟩ (.inl hg2) _)⟩
                      clear hrow hno
                      replace fin := Mr.hid fin
                      replace Kj := Mr.hid Kj
                      replace Rj := Mr.hid Rj
                      replace Sj := Mr.hid Sj
                      have zq := z1.out
                      go_wp2
                      go_roundg (gk - 1)
                      case measure => omega
                      case rel => exact ⟨j + 1, by simp, by omega, fin.out⟩
                    · have K0 := Mr.hid Kj
                      have R0 := Mr.hid Rj
                      have S0 := Mr.hid Sj
                      clear Kj Rj Sj
                      have zq := z1.out
                      have Kx := K0
                      have R2 := S0
                      clear K0 R0 S0
                      have l0 := Kx.out.size
                      have lg := Kx.out.lt
                      obtain ⟨y0, y1, y2, y3, y4, y5, y6⟩ := Kx.out.cfg
                      have PLw := fun (W' : World) (hB : Below wr.heap.size wr W') => PL.out W' gg qg (Kx.out.below hB).mv
                      have n1 : w.heap.size ≠ wr.heap.size := by omega
                      have n1' := n1.symm
                      have hBe : Below wr.heap.size wr wr.drew := (Below.refl _ _).drew
                      have hBd : Below wr.heap.size wr (wr.alloc (.cells #[.slice none 0 0, .slice none 0 0, .slice none 0 0, .slice none 0 0] 32)).drew := ((Below.refl _ _).alloc (Nat.le_refl _) _).drew
                      have hBx : ∀ w0 w6 : World, Below w0.heap.size w0 w6 → w0.heap[wr.heap.size]? = some (.cells #[.slice none 0 0, .slice none 0 0, .slice none 0 0, .slice none 0 0] 32 (0, 0)) → (w6.cell? ⟨wr.heap.size, 0, none⟩ = some (.slice none 0 0) ∧ w6.cell? ⟨wr.heap.size, 1, none⟩ = some (.slice none 0 0) ∧ w6.cell? ⟨wr.heap.size, 2, none⟩ = some (.slice none 0 0) ∧ w6.cell? ⟨wr.heap.size, 3, none⟩ = some (.slice none 0 0)) ∧ (∀ j, w6.frozen? ⟨wr.heap.size, j, none⟩ = false) ∧ wr.heap.size < w6.heap.size ∧ w6.heap[wr.heap.size]? = some (.cells #[.slice none 0 0, .slice none 0 0, .slice none 0 0, .slice none 0 0] 32 (0, 0)) := fun w0 w6 hB h0 => by
                        have hb : w6.heap[wr.heap.size]? = some (.cells #[.slice none 0 0, .slice none 0 0, .slice none 0 0, .slice none 0 0] 32 (0, 0)) := (hB.block _ (Array.getElem?_eq_some_iff.1 h0).1).trans h0
                        refine ⟨⟨?_, ?_, ?_, ?_⟩, fun j => ?_, (Array.getElem?_eq_some_iff.1 hb).1, hb⟩ <;> simp [World.cell?, World.frozen?, hb]
                      have hKx := fun (w0 w6 : World) (h0 : Below wr.heap.size wr w0) (hB : Below w0.heap.size w0 w6) => (Kx.out.below (h0.trans (hB.mono h0.size))).cfg
                      have hcap : (ms.length : Int) ≤ (qg : Int) := by
                        obtain ⟨_, _, _, _, _, hq, _⟩ := Kx.out.gv.there (by omega)
                        rename_i e _ _ _
                        cases e
                        omega
                      replace hBe := Mr.hid hBe
                      replace hBd := Mr.hid hBd
                      replace hBx := Mr.hid hBx
                      replace hKx := Mr.hid hKx
                      replace PLw := Mr.hid PLw
                      go_upto_region 29 with fail
                      go_cut [15, 16] (fun sp se wx => ∃ Bz v1 v2 v3 v4 Bh, sp = .pointer (some ⟨Bz, 0, none⟩) ∧ se = .int .i64 0 ∧ Kg w wx c gg qg ms B0 ∧ Rk wx wr.heap.size Bh Bz v1 v2 v3 v4 Q ∧ wx.heap.size = Bh ∧ Rk wx B1 B2 Bq (.slice p5 Q.cls.length q5) (.slice p6 Q.lg.length q6) (.slice p7 Q.shs.length q7) (.slice p8 Q.ws.length q8) Q)
                      case first =>
                        go_wp2
                        go_region_held3 (fun w' => w'.cell? ⟨w.heap.size, 0, none⟩ = some (.int .i64 c.a0) ∧ w'.cell? ⟨w.heap.size, 1, none⟩ = some (.int .i64 c.a1) ∧ w'.cell? ⟨w.heap.size, 2, none⟩ = some (.int .i64 c.a2) ∧ w'.cell? ⟨w.heap.size, 3, none⟩ = some (.int .i64 c.a3) ∧ w'.cell? ⟨w.heap.size, 4, none⟩ = some (.int .i64 c.a4) ∧ w'.cell? ⟨w.heap.size, 5, none⟩ = some (.int .i64 c.a5) ∧ w'.cell? ⟨w.heap.size, 6, none⟩ = some (.int .i64 c.a6)) (go_keep)
                          (first
                            | (go_at_call 11; refine (PLw.out _ (by first | exact hBe.out | exact hBd.out)).mono ?_; clear PLw; rintro e w6 ⟨v1, v2, v3, v4, rfl, hv1, hv2, hv3, hv4, hB6⟩; unfold runV; obtain ⟨k0, k1, k2, k3, k4, k5, k6⟩ := hKx.out _ w6 (by first | exact hBe.out | exact hBd.out) hB6; have hbx := hBx.out _ w6 hB6; simp only [drew_heap3, alloc_at3, true_implies, not_there3, false_implies] at hbx; obtain ⟨p1, q1, rfl, _⟩ := hv1.form; obtain ⟨p2, q2, rfl, _⟩ := hv2.form; obtain ⟨p3, q3, rfl, _⟩ := hv3.form; obtain ⟨p4, q4, rfl, _⟩ := hv4.form; replace hv1 := Mr.hid hv1; replace hv2 := Mr.hid hv2; replace hv3 := Mr.hid hv3; replace hv4 := Mr.hid hv4; replace hB6 := Mr.hid hB6))
                        all_goals go_wp2
                        all_goals go_meet
                        case rel =>
                          obtain ⟨X1, X2⟩ := play_newA hB6.out hv1.out hv2.out hv3.out hv4.out
                          exact ⟨_, _, _, _, _, _, rfl, rfl, Kx.out.below X1, X2, rfl, R2.out.below X1⟩
                        case rel =>
                          obtain ⟨X1, X2⟩ := play_newB hbx.2.2.2 hB6.out hv1.out hv2.out hv3.out hv4.out
                          exact ⟨_, _, _, _, _, _, rfl, rfl, Kx.out.below X1, X2, rfl, R2.out.below X1⟩
                      case rest =>
                        obtain ⟨Bs, v1, v2, v3, v4, B3, rfl, rfl, Kn, Rn, hBh, R2n⟩ := hcut
                        clear y0 y1 y2 y3 y4 y5 y6 l0 lg n1 n1' hBe hBd hBx hKx PLw Kx hcap
                        go_step
                        exact fresh_C H.out cm Kn Rn R2n
end Go.Proofs.YtkfpiafgfjpodaaGreat.Ar
