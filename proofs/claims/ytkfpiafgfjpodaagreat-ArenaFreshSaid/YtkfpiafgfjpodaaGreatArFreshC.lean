import Derived.Test.YtkfpiafgfjpodaaGreatArFreshK
import Derived.Deep.Cut
import Derived.Deep.DeepCutAuto
import Derived.BigQuiet
/-
  ArenaFresh: the walk's last part.
-/
namespace Go.Proofs.YtkfpiafgfjpodaaGreat.Ar
open Go.RowKit Go.Shelf Mr Me Ma Wc Wm Wr
theorem drew_heap3 (W : World) : W.drew.heap = W.heap := rfl
theorem alloc_at3 (W : World) (o x : Obj) : ((W.alloc o).heap[W.heap.size]? = some x) = (o = x) := by rw [heap_alloc_new]; simp
theorem not_there3 (W : World) (x : Obj) : (W.heap[W.heap.size]? = some x) = False := by simp
/-- What the walk's parts know. -/
structure FrH (w : World) (c : Cf) (n nt : Nat) (P0 Q : Pa) (am : Option Addr) (ms : List Mv) : Prop where
  tbl : ∀ W : World, Calls Tryz.prog 13 #[c.val] W fun e w' => ∃ tb U K f h, e = .returned (.pointer (some ⟨tb, 0, none⟩)) ∧ w'.heap[tb]? = some (tbO c f.ba f.q.b) ∧ RA w' U K f h P0 ∧ (∀ k, U k → W.heap.size ≤ k ∧ k < tb) ∧ W.heap.size ≤ tb ∧ f.c = c ∧ Below W.heap.size W w'
  pl : ∀ (W : World) (gg qg : Nat) (_ : MvAt W (some ⟨gg, 0, none⟩) ms.length ms), Calls Tryz.prog 11 #[c.val, .slice (some ⟨gg, 0, none⟩) ms.length qg] W fun e w' => ∃ v1 v2 v3 v4, e = .returned (.tuple #[runV v1 v2 v3 v4, .int .i64 0]) ∧ Has w' (fun k => W.heap.size ≤ k) 42 9 v1 Q.cls.length (clc Q.cls) ∧ Has w' (fun k => W.heap.size ≤ k) 48 7 v2 Q.lg.length (lgc Q.lg) ∧ Has w' (fun k => W.heap.size ≤ k) 66 5 v3 Q.shs.length (shc Q.shs) ∧ Has w' (fun k => W.heap.size ≤ k) 44 1 v4 Q.ws.length (wrd Q.ws) ∧ Below W.heap.size W w'
  inv : ∀ j : Nat, Inv (P0.play (ms.take j)) (P0.play (ms.take j)).n ∧ (P0.play (ms.take j)).A.sl.length = n
  mo : ∀ j : Nat, (P0.play (ms.take j)).pts.length = nt
  n0 : 0 < n
  inn : (1 ≤ c.a0 ∧ c.a0 ≤ 16) ∧ 0 ≤ c.a4 ∧ 1 ≤ c.a5
  h0 : c.a0 = nt
  z1 : Q.cls.length ≤ 100000
  z2 : Q.lg.length ≤ 100000
  z3 : Q.shs.length ≤ 100000
  z4 : Q.ws.length ≤ 100000
  nm : ms.length ≤ 65536
  hm : MvAt w am ms.length ms
/-- What is behind the first n statements of a row of them. -/
def tl : Nat → Code → Code
  | n + 1, .seq _ b => tl n b
  | _, c => c
/-- The law from the third run's test on. -/
noncomputable def codeC : Code := tl 12 (Tryz.f7.body.getD .skip)
/-- The law from the first two runs' test on. -/
noncomputable def codeB : Code := tl 5 (Tryz.f7.body.getD .skip)
set_option maxRecDepth 100000 in
set_option maxHeartbeats 8000000 in
theorem fresh_C {w wc : World} {c : Cf} {n nt : Nat} {P0 Q : Pa} {am : Option Addr} {ms : List Mv} (H : FrH w c n nt P0 Q am ms) (cm : Nat) {gg qg B0 Bl B3 Bs B1 B2 Bq : Nat} {v1 v2 v3 v4 u1 u2 u3 u4 : Value} (Kn : Kg w wc c gg qg ms B0) (Rn : Rk wc Bl B3 Bs v1 v2 v3 v4 Q) (R2n : Rk wc B1 B2 Bq u1 u2 u3 u4 Q)
    {s0 s3 s4 s5 s6 s7 s9 s10 s11 s12 s13 s14 s17 s18 s19 s20 s21 s22 s23 s24 s25 s26 s27 s28 s29 s30 s31 s32 s33 s34 s35 s36 s37 s38 s39 s40 s41 s42 s43 s44 s45 s46 s47 s48 s49 s50 s51 s52 s53 s54 s55 s56 s57 s58 s59 s60 s61 s62 s63 s64 s65 s66 s67 s68 s69 s70 s71 s72 s73 s74 s75 s76 s77 s78 s79 s80 s81 s82 s83 s84 s85 s86 s87 s88 s89 s90 s91 s92 s93 s94 s95 s96 s97 s98 s99 s100 s101 s102 s103 s104 s105 s106 s107 s108 s109 s110 s111 s112 s113 s114 s115 s116 s117 s118 s119 s120 s121 s122 s123 s124 s125 s126 s127 s128 s129 s130 s131 s132 s133 s134 s135 s136 s137 s138 s139 s140 s141 s142 s143 s144 s145 s146 s147 s148 s149 s150 s151 s152 s153 s154 s155 s156 s157 s158 s159 s160 s161 s162 s163 s164 s165 s166 s167 s168 s169 s170 s171 s172 s173 s174 s175 s176 s177 s178 s179 s180 s181 s182 s183 s184 s185 s186 s187 s188 s189 s190 s191 s192 s193 s194 s195 s196 s197 s198 s199 s200 s201 s202 s203 s204 s205 s206 s207 s208 s209 s210 s211 s212 s213 s214 s215 s216 s217 s218 s219 s220 s221 : Value} :
    Code.wp Tryz.prog codeC (bodyPost Tryz.prog Tryz.f7 fun e w' => e = .returned (.bool true) ∧ Below w.heap.size w w') ⟨#[s0, .slice am ms.length cm, .pointer (some ⟨w.heap.size, 0, none⟩), s3, s4, s5, s6, s7, .pointer (some ⟨Bq, 0, none⟩), s9, s10, s11, s12, s13, s14, .pointer (some ⟨Bs, 0, none⟩), .int .i64 0, s17, s18, s19, s20, s21, s22, s23, s24, s25, s26, s27, s28, s29, s30, s31, s32, s33, s34, s35, s36, s37, s38, s39, s40, s41, s42, s43, s44, s45, s46, s47, s48, s49, s50, s51, s52, s53, s54, s55, s56, s57, s58, s59, s60, s61, s62, s63, s64, s65, s66, s67, s68, s69, s70, s71, s72, s73, s74, s75, s76, s77, s78, s79, s80, s81, s82, s83, s84, s85, s86, s87, s88, s89, s90, s91, s92, s93, s94, s95, s96, s97, s98, s99, s100, s101, s102, s103, s104, s105, s106, s107, s108, s109, s110, s111, s112, s113, s114, s115, s116, s117, s118, s119, s120, s121, s122, s123, s124, s125, s126, s127, s128, s129, s130, s131, s132, s133, s134, s135, s136, s137, s138, s139, s140, s141, s142, s143, s144, s145, s146, s147, s148, s149, s150, s151, s152, s153, s154, s155, s156, s157, s158, s159, s160, s161, s162, s163, s164, s165, s166, s167, s168, s169, s170, s171, s172, s173, s174, s175, s176, s177, s178, s179, s180, s181, s182, s183, s184, s185, s186, s187, s188, s189, s190, s191, s192, s193, s194, s195, s196, s197, s198, s199, s200, s201, s202, s203, s204, s205, s206, s207, s208, s209, s210, s211, s212, s213, s214, s215, s216, s217, s218, s219, s220, s221], []⟩ wc := by
  have TBL := H.tbl
  have PL := H.pl
  unfold Cf.val at TBL PL
  replace TBL := Mr.hid TBL
  replace PL := Mr.hid PL
  have hInv := Mr.hid H.inv
  have hmo := Mr.hid H.mo
  have hn0 := Mr.hid H.n0
  have hin := Mr.hid H.inn
  have h0 := Mr.hid H.h0
  have z1 := Mr.hid H.z1
  have z2 := Mr.hid H.z2
  have z3 := Mr.hid H.z3
  have z4 := Mr.hid H.z4
  have hm := Mr.hid H.hm
  have hnm := H.nm
  clear H PL
  unfold codeC
  conv => arg 2; whnf
  obtain ⟨p5, q5, rfl, _⟩ := R2n.h1.form
  obtain ⟨p6, q6, rfl, _⟩ := R2n.h2.form
  obtain ⟨p7, q7, rfl, _⟩ := R2n.h3.form
  obtain ⟨p8, q8, rfl, _⟩ := R2n.h4.form
  obtain ⟨p9, q9, rfl, _⟩ := Rn.h1.form
  obtain ⟨pA, qA, rfl, _⟩ := Rn.h2.form
  obtain ⟨pB, qB, rfl, _⟩ := Rn.h3.form
  obtain ⟨pC, qC, rfl, _⟩ := Rn.h4.form
  have SM := same_eq Rn.h1 Rn.h2 Rn.h3 Rn.h4 R2n.h1 R2n.h2 R2n.h3 R2n.h4 z1.out z2.out z3.out z4.out
  unfold runV at SM
  obtain ⟨x0, x1, x2, x3⟩ := Rn.cells
  obtain ⟨x4, x5, x6, x7⟩ := R2n.cells
  obtain ⟨y0, y1, y2, y3, y4, y5, y6⟩ := Kn.cfg
  replace SM := Mr.hid SM
  replace Kn := Mr.hid Kn
  clear Rn R2n
  go_wp2_with (first | (go_at_call 12; refine (num_any _ _).mono ?_; rintro e wn ⟨rfl, hwn⟩; obtain rfl := hwn.symm) | (go_at_call 19; refine SM.out.mono ?_; clear SM; rintro e w9 ⟨rfl, hB9⟩; have K9 := Kn.out.below hB9; clear Kn hB9 x0 x1 x2 x3 x4 x5 x6 x7 y0 y1 y2 y3 y4 y5 y6; obtain ⟨y0, y1, y2, y3, y4, y5, y6⟩ := K9.cfg; replace K9 := Mr.hid K9) | (go_at_call 13; refine (TBL.out _).mono ?_; clear TBL; rintro e w2 ⟨tb, U, K, f, h, rfl, t1, t2, t3, t4, t5, t6⟩; have T3 := Tb.open K9.out.s0 K9.out.bel t1 t2 t3 t4 t5 t6; clear t1 t2 t3 t4 t5 t6 K9 y0 y1 y2 y3 y4 y5 y6; replace T3 := Mr.hid T3))
  go_loopg [18] ms.length (fun k s wr => ∃ (i : Nat) (U' : Nat → Prop) (h' : Wh), s = .int .i64 (i : Int) ∧ i + k = ms.length ∧ Tb w wr c tb U' K f h' (P0.play (ms.take i)))
  case atStart => exact ⟨0, U, h, rfl, by omega, T3.out⟩
  case round =>
    obtain ⟨i, U', h', rfl, hi, T⟩ := hrel
    clear T3
    obtain ⟨⟨y0, y1, y2, y3, y4, y5, y6⟩, x7, x8⟩ := T.cells
    have l1 := T.size
    have l2 := T.lt
    by_cases hlt : i < ms.length
    · rcases hm.out.2 with h0' | ⟨bo, oo, rfl, hbo, hcc⟩
      · rw [h0'] at hlt; simp at hlt
      obtain ⟨c0, c1, c2, c3⟩ := hcc i hlt
      have hcW := fun (j : Nat) (u : Value) (hu : w.cell? ⟨bo, j, none⟩ = some u) => (T.bel.cell (p := ⟨bo, j, none⟩) hbo).trans hu
      have g0 := hcW _ _ c0
      have g1 := hcW _ _ c1
      have g2 := hcW _ _ c2
      have g3 := hcW _ _ c3
      have hsn := Mr.hid (play_snoc P0 ms i hlt)
      have hIi := (hInv.out i).2
      have MV := fun (W' : World) (hB : Below wr.heap.size wr W') => move_arena (T.ra.below hB) (by rw [hIi]; exact hn0.out) (ms[i]?.getD noMv).th (ms[i]?.getD noMv).op (ms[i]?.getD noMv).arg (ms[i]?.getD noMv).data
      have fin := fun (W' w5 : World) (hB : Below wr.heap.size wr W') (hO : OutA W' U' K f ((P0.play (ms.take i)).move (ms[i]?.getD noMv).th (ms[i]?.getD noMv).op (ms[i]?.getD noMv).arg (ms[i]?.getD noMv).data).1 w5) => (show ∃ U'' h'', Tb w w5 c tb U'' K f h'' (P0.play (ms.take (i + 1))) from by
        rw [hsn.out]
        exact (T.below hB).out hO)
      generalize (P0.play (ms.take i)).move (ms[i]?.getD noMv).th (ms[i]?.getD noMv).op (ms[i]?.getD noMv).arg (ms[i]?.getD noMv).data = PM at *
      generalize ms[i]?.getD noMv = m0 at *
      have hil : (i : Int) < (ms.length : Int) := by omega
      have cw := fun (W : World) (hB : Below w.heap.size w W) => (⟨(hB.cell (p := ⟨bo, oo + i * 4, none⟩) hbo).trans c0, (hB.cell (p := ⟨bo, oo + i * 4 + 1, none⟩) hbo).trans c1, (hB.cell (p := ⟨bo, oo + i * 4 + 2, none⟩) hbo).trans c2, (hB.cell (p := ⟨bo, oo + i * 4 + 3, none⟩) hbo).trans c3⟩ : W.cell? ⟨bo, oo + i * 4, none⟩ = some (.int .i64 m0.th) ∧ W.cell? ⟨bo, oo + i * 4 + 1, none⟩ = some (.int .i64 m0.op) ∧ W.cell? ⟨bo, oo + i * 4 + 2, none⟩ = some (.int .i64 m0.arg) ∧ W.cell? ⟨bo, oo + i * 4 + 3, none⟩ = some (.int .i64 m0.data))
      replace T := Mr.hid T
      replace MV := Mr.hid MV
      replace fin := Mr.hid fin
      replace cw := Mr.hid cw
      clear hcc hcW c0 c1 c2 c3 hIi
      go_wp2
      go_region_held3 (fun w' => w'.cell? ⟨tb, 8, none⟩ = some (.pointer (some ⟨f.q.b, 0, none⟩)) ∧ w'.cell? ⟨bo, oo + i * 4, none⟩ = some (.int .i64 m0.th) ∧ w'.cell? ⟨bo, oo + i * 4 + 1, none⟩ = some (.int .i64 m0.op) ∧ w'.cell? ⟨bo, oo + i * 4 + 2, none⟩ = some (.int .i64 m0.arg) ∧ w'.cell? ⟨bo, oo + i * 4 + 3, none⟩ = some (.int .i64 m0.data)) (simp [*])
        (first | (go_at_call 15; refine (MV.out _ (Below.refl _ _).drew).mono ?_; clear MV; rintro e w5 ⟨rfl, hO⟩; obtain ⟨U'', h'', T''⟩ := fin.out _ w5 (Below.refl _ _).drew hO; clear fin hO; obtain ⟨_, _, v8⟩ := T''.cells; obtain ⟨v0, v1, v2, v3⟩ := cw.out w5 T''.bel; replace T'' := Mr.hid T''))
      go_wp2
      go_roundg (gk - 1)
      case measure => omega
      case rel => exact ⟨i + 1, U'', h'', by simp, by omega, T''.out.below (Below.refl _ _)⟩
    · obtain rfl : i = ms.length := by omega
      have hp1 := hmo.out ms.length
      rw [List.take_length] at T hp1
      have hI1 := T.ra.inv
      have hK64 := T.ra.K
      generalize P0.play ms = P1 at *
      have hL : ∀ kk : Nat, kk < nt → (P1.A.cache kk).length ≤ 64 := fun kk hk => by
        obtain ⟨_, h2, _⟩ := hI1.ca kk _ (hI1.cacheEq (by omega))
        omega
      have hkc := hI1.kc
      have hca : P1.A.ca.length = nt := by omega
      clear hI1 hkc hp1 hK64
      replace hL := Mr.hid hL
      replace hca := Mr.hid hca
      replace T := Mr.hid T
      go_wp2
      clear y0 y1 y2 y3 y4 y5 y6 x7 x8 l1 l2
      go_loopg [19] nt (fun k s wy => ∃ kk : Nat, s = .int .i64 (kk : Int) ∧ kk + k = nt ∧ Tb w wy c tb U' K f h' P1)
      case atStart => exact ⟨0, rfl, by omega, T.out⟩
      case round =>
        obtain ⟨kk, rfl, hkk, Tk⟩ := hrel
        clear T
        obtain ⟨⟨y0, y1, y2, y3, y4, y5, y6⟩, x7, x8⟩ := Tk.cells
        have l1 := Tk.size
        have l2 := Tk.lt
        by_cases hkn : kk < nt
        · have d1 : decide ((kk : Int) < c.a0) = true := decide_eq_true (by rw [h0.out]; omega)
          have hl64 := hL.out kk hkn
          have hnt16 : nt ≤ 16 := by have h1 := hin.out.1.2; have h2 := h0.out; omega
          have CH := fun (W' : World) (hB : Below wr.heap.size wr W') => cached_in (Tk.ra.below hB).ar kk (by rw [hca.out]; exact hkn) (by omega)
          generalize P1.A.cache kk = lk at *
          have TB := fun (W' : World) (hB : Below wr.heap.size wr W') => Tk.below hB
          have C1 := CH wr (Below.refl _ _)
          have hBk0 : Below wr.heap.size wr wr := Below.refl _ _
          obtain ⟨Wk, hWk⟩ : ∃ Wk : World, wr = Wk := ⟨_, rfl⟩
          have TBk := TB
          have CHk := CH
          have hBk : Below Wk.heap.size Wk wr := by rw [← hWk]; exact hBk0
          rw [hWk] at TBk CHk
          clear CH TB hWk hBk0
          replace TBk := Mr.hid TBk
          replace CHk := Mr.hid CHk
          replace C1 := Mr.hid C1
          replace Tk := Mr.hid Tk
          replace hBk := Mr.hid hBk
          obtain ⟨gko, hgko⟩ : ∃ g, g = gk := ⟨_, rfl⟩
          go_wp2_with (first | (go_at_call 18; refine C1.out.mono ?_; clear C1; rintro e w7 ⟨va, rfl, hva, hB7⟩; obtain ⟨pa, qa, rfl, _⟩ := hva.form; replace hB7 := hBk.out.trans (hB7.mono hBk.out.size); have C2 := CHk.out w7 hB7; have l7 := (TBk.out w7 hB7).size; clear y0 y1 y2 y3 y4 y5 y6 x7 x8 l1; obtain ⟨⟨y0, y1, y2, y3, y4, y5, y6⟩, x7, x8⟩ := (TBk.out w7 hB7).cells; replace C2 := Mr.hid C2; replace hva := Mr.hid hva; replace hB7 := Mr.hid hB7) | (go_at_call 18; refine C2.out.mono ?_; clear C2; rintro e w8 ⟨vb, rfl, hvb, hB8⟩; obtain ⟨pb, qb, rfl, _⟩ := hvb.form; have hva8 := hva.out.below hB8; have SI := sameInts_eq hva8 hvb (by omega); have hA8 : Hx w8 (fun k => Wk.heap.size ≤ k ∧ k < w7.heap.size) 3 1 (.slice pa lk.length qa) lk.length := ⟨_, hva8.kept (fun _ _ => rfl) (fun k hk => ⟨Nat.le_trans hBk.out.size (hva.out.lt k hk).1, (hva.out.lt k hk).2⟩)⟩; replace hB8 := hB7.out.trans (hB8.mono hB7.out.size); clear y0 y1 y2 y3 y4 y5 y6 x7 x8 l7; obtain ⟨⟨y0, y1, y2, y3, y4, y5, y6⟩, x7, x8⟩ := (TBk.out w8 hB8).cells; have l8 := (TBk.out w8 hB8).size; clear hva8 hva; replace SI := Mr.hid SI; replace hvb := Mr.hid hvb; replace hA8 := Mr.hid hA8; replace hB8 := Mr.hid hB8) | (go_at_call 20; refine SI.out.mono ?_; clear SI; rintro e w9 ⟨rfl, hB9⟩; have hb9 := hvb.out.below hB9; have hA9 := hA8.out.below hB9; replace hB9 := hB8.out.trans (hB9.mono hB8.out.size); clear hvb hA8 hB8 hB7; replace hb9 := Mr.hid hb9; replace hA9 := Mr.hid hA9; replace hB9 := Mr.hid hB9))
          clear y0 y1 y2 y3 y4 y5 y6 x7 x8 l8 Tk
          generalize w7.heap.size = hi7 at *
          go_loopg [22] lk.length (fun k s wz => ∃ i : Nat, s = .int .i64 (i : Int) ∧ i + k = lk.length ∧ Below Wk.heap.size Wk wz ∧ Hx wz (fun k => Wk.heap.size ≤ k ∧ k < hi7) 3 1 (.slice pa lk.length qa) lk.length ∧ Has wz (fun k => hi7 ≤ k) 3 1 (.slice pb lk.length qb) lk.length (ints lk))
          case atStart => exact ⟨0, rfl, by omega, hB9.out, hA9.out, hb9.out⟩
          case round =>
            obtain ⟨i, rfl, hi8, hBz, hAz, hbz⟩ := hrel
            clear hB9 hA9 hb9
            by_cases hil : i < lk.length
            · obtain ⟨g, qq, hg, ⟨hg1, hg2⟩, hgw, hgn, hgx⟩ := hAz.there (by omega)
              cases hg
              unfold maxLen at hgx
              obtain ⟨zz, cc⟩ := hAz.cell i (by omega)
              have fz := hAz.frozen
              have fin : Below Wk.heap.size Wk (wr.setCell ⟨g, i, none⟩ (.int .i64 (-1))) ∧ Hx (wr.setCell ⟨g, i, none⟩ (.int .i64 (-1))) (fun k => Wk.heap.size ≤ k ∧ k < hi7) 3 1 (.slice (some ⟨g, 0, none⟩) lk.length qa) lk.length ∧ Has (wr.setCell ⟨g, i, none⟩ (.int .i64 (-1))) (fun k => hi7 ≤ k) 3 1 (.slice pb lk.length qb) lk.length (ints lk) := ⟨hBz.setCell (p := ⟨g, i, none⟩) hg1 _, hAz.set g i _, hbz.setCell ⟨g, i, none⟩ _ (fun e => by have := (hbz.lt _ e).1; simp at this; omega)⟩
              have hii : (i : Int) < (lk.length : Int) := by omega
              replace fin := Mr.hid fin
              replace hBz := Mr.hid hBz
              replace hAz := Mr.hid hAz
              replace hbz := Mr.hid hbz
              go_wp2
              go_roundg (gk - 1)
              case measure => omega
              case rel => exact ⟨i + 1, by simp, by omega, fin.out⟩
            · have C3 := CHk.out wr hBz
              obtain ⟨⟨y0, y1, y2, y3, y4, y5, y6⟩, x7, x8⟩ := (TBk.out wr hBz).cells
              have l8 := (TBk.out wr hBz).size
              replace C3 := Mr.hid C3
              replace hBz := Mr.hid hBz
              replace hbz := Mr.hid hbz
              clear hAz
              go_wp2_with (first | (go_at_call 18; refine C3.out.mono ?_; clear C3; rintro e wA ⟨vc, rfl, hvc, hBA⟩; obtain ⟨pc, qc, rfl, _⟩ := hvc.form; have SI := sameInts_eq hvc (hbz.out.below hBA) (by omega); replace hBA := hBz.out.trans (hBA.mono hBz.out.size); replace SI := Mr.hid SI; replace hBA := Mr.hid hBA; clear hvc) | (go_at_call 20; refine SI.out.mono ?_; clear SI; rintro e wB ⟨rfl, hBB⟩; have TE := TBk.out wB (hBA.out.trans (hBB.mono hBA.out.size)); clear hBB; replace TE := Mr.hid TE))
              go_roundg (gko - 1)
              case measure => omega
              case rel => exact ⟨kk + 1, by simp, by omega, TE.out⟩
        · have d1 : decide ((kk : Int) < c.a0) = false := decide_eq_false (by rw [h0.out]; omega)
          replace Tk := Mr.hid Tk
          go_wp2
          go_ret
          exact ⟨rfl, Tk.out.bel⟩
end Go.Proofs.YtkfpiafgfjpodaaGreat.Ar
