import Derived.Test.YtkfpiafgfjpodabGreatArAgainC
/-
  ArenaAgain: the walk's middle part: all slots are given back, all caches flushed.
-/
namespace Go.Proofs.YtkfpiafgfjpodabGreat.Ar
open Go.RowKit Go.Shelf Mr Me Ma Wc Wm Wr
theorem info_b : (Tryz.prog.info? 4).map (fun i => (i.zero, i.size, i.bytes)) = some (some (.bool false), 1, 1) := by kernel_rfl
theorem make_bools (W : World) (n : Nat) (hn : n ≤ 100000) :
    (Instr.makeSlice 43 (.int .i64 (n : Int)) (.int .i64 (n : Int))).run Tryz.prog W = .ok (.slice (some ⟨W.heap.size, 0, none⟩) n n) (W.alloc (.cells (madeCells #[.bool false] n) 4)) := by
  obtain ⟨i0, hi, hz0, hz1, hz2⟩ := info_parts info_b
  have h := run_make (P := Tryz.prog) W 43 4 i0 (.bool false) Tryz.underlying43 hi hz0 .i64 .i64 n n (by omega) (Int.le_refl _) (by rw [hz2]; omega) (by omega)
  rw [hz1, Nat.mul_one] at h
  simpa [Value.cells] using h
theorem made_bools (W : World) (S : Nat → Prop) (n : Nat) (hn : n ≤ 100000) (hS : S W.heap.size) : Has (W.alloc (.cells (madeCells #[.bool false] n) 4)) S 4 1 (.slice (some ⟨W.heap.size, 0, none⟩) n n) n (bools (List.replicate n false)) := by
  refine ⟨by simp [bools], .inr ⟨_, n, _, rfl, hS, heap_alloc_new W _, Nat.le_refl _, by unfold maxLen; omega, by rw [size_madeCells]; omega, ?_⟩⟩
  apply List.ext_getElem?
  intro j
  rw [Nat.mul_one, List.getElem?_take]
  by_cases hj : j < n
  · rw [if_pos hj]
    simp [bools, madeCells, hj, Nat.mod_one]
  · rw [if_neg hj, List.getElem?_eq_none (by simp [bools]; omega)]
set_option maxRecDepth 100000 in
set_option maxHeartbeats 8000000 in
theorem again_B {w wc : World} {c : Cf} {n nt : Nat} (h0 : c.a0 = nt) (h5 : c.a5 = n) (hn0 : 0 < n) (hnt : 0 < nt ∧ nt ≤ 16) {tb : Nat} {U K : Nat → Prop} {f : Fx} {h : Wh} {P : Pa} (T : Tb w wc c tb U K f h P) (G : G2 P n nt 0)
    {s0 s1 s3 s4 s6 s7 s8 s9 s10 s11 s12 s13 s14 s15 s16 s17 s18 s19 s20 s21 s22 s23 s24 s25 s26 s27 s28 s29 s30 s31 s32 s33 s34 s35 s36 s37 s38 s39 s40 s41 s42 s43 s44 s45 s46 s47 s48 s49 s50 s51 s52 s53 s54 s55 s56 s57 s58 s59 s60 s61 s62 s63 s64 s65 s66 s67 s68 s69 s70 s71 s72 s73 s74 s75 s76 s77 s78 s79 s80 s81 s82 s83 s84 s85 s86 s87 s88 s89 s90 s91 s92 s93 s94 s95 s96 s97 s98 s99 s100 s101 s102 s103 s104 s105 s106 s107 s108 s109 s110 s111 s112 s113 s114 s115 s116 s117 s118 s119 s120 s121 s122 s123 s124 s125 s126 s127 s128 s129 s130 s131 s132 s133 s134 s135 s136 s137 s138 s139 s140 s141 s142 s143 s144 s145 s146 s147 s148 s149 s150 s151 s152 s153 s154 s155 s156 s157 s158 s159 s160 s161 s162 s163 s164 s165 s166 s167 s168 s169 s170 s171 s172 s173 s174 s175 s176 s177 s178 s179 s180 s181 s182 s183 s184 s185 s186 s187 s188 : Value} :
    Code.wp Tryz.prog codeB (bodyPost Tryz.prog Tryz.f3 fun e w' => e = .returned (.bool true) ∧ Below w.heap.size w w') ⟨#[s0, s1, .pointer (some ⟨w.heap.size, 0, none⟩), s3, s4, .pointer (some ⟨tb, 0, none⟩), s6, s7, s8, s9, s10, s11, s12, s13, s14, s15, s16, s17, s18, s19, s20, s21, s22, s23, s24, s25, s26, s27, s28, s29, s30, s31, s32, s33, s34, s35, s36, s37, s38, s39, s40, s41, s42, s43, s44, s45, s46, s47, s48, s49, s50, s51, s52, s53, s54, s55, s56, s57, s58, s59, s60, s61, s62, s63, s64, s65, s66, s67, s68, s69, s70, s71, s72, s73, s74, s75, s76, s77, s78, s79, s80, s81, s82, s83, s84, s85, s86, s87, s88, s89, s90, s91, s92, s93, s94, s95, s96, s97, s98, s99, s100, s101, s102, s103, s104, s105, s106, s107, s108, s109, s110, s111, s112, s113, s114, s115, s116, s117, s118, s119, s120, s121, s122, s123, s124, s125, s126, s127, s128, s129, s130, s131, s132, s133, s134, s135, s136, s137, s138, s139, s140, s141, s142, s143, s144, s145, s146, s147, s148, s149, s150, s151, s152, s153, s154, s155, s156, s157, s158, s159, s160, s161, s162, s163, s164, s165, s166, s167, s168, s169, s170, s171, s172, s173, s174, s175, s176, s177, s178, s179, s180, s181, s182, s183, s184, s185, s186, s187, s188], []⟩ wc := by
  have hnb : n ≤ 1024 := by have h1 := G.1.ns; have h2 := G.1.inv.ns; omega
  replace h0 := Mr.hid h0
  replace h5 := Mr.hid h5
  replace hn0 := Mr.hid hn0
  replace hnt := Mr.hid hnt
  replace T := Mr.hid T
  replace G := Mr.hid G
  unfold codeB
  conv => arg 2; whnf
  go_wp2
  go_loopg [8] n (fun k s wy => ∃ (j : Nat) (U' : Nat → Prop) (h' : Wh) (P' : Pa), s = .int .i64 (j : Int) ∧ j + k = n ∧ Tb w wy c tb U' K f h' P' ∧ G2 P' n nt j)
  case atStart => exact ⟨0, U, h, P, rfl, by omega, T.out, G.out⟩
  case round =>
    obtain ⟨j, U', h', P', rfl, hjk, T1, G1⟩ := hrel
    clear T G
    obtain ⟨⟨y0, y1, y2, y3, y4, y5, y6⟩, x7, x8⟩ := T1.cells
    rw [h5.out] at y5
    have l1 := T1.size
    have l2 := T1.lt
    by_cases hjn : j < n
    · have d0 : decide ((j : Int) < (n : Int)) = true := decide_eq_true (by omega)
      have hx : P'.A.has (j : Int) := ⟨by omega, by have := G1.1.ns; omega⟩
      have ST := state_yes T1.ra.ar (j : Int) hx
      by_cases h2 : (P'.A.st (j : Int)).1 = 2
      · obtain ⟨i, hi, hst⟩ := G1.own hjn h2
        have G2' := G1.give hjn hi hst
        rw [hst] at ST
        have hsl1 : (P'.move (i : Int) 11 (j : Int) 0).1.A.sl.length = n := (move_sl P' G1.1.inv (i : Int) 11 (j : Int) 0).trans G1.1.ns
        have MV := fun (w4 : World) (hB : Below wr.heap.size wr w4) => move_arena (T1.ra.below hB) (by rw [G1.1.ns]; exact hn0.out) (i : Int) 11 (j : Int) 0
        have TB := fun (w4 : World) (hB : Below wr.heap.size wr w4) => (T1.below hB).cells.2.2
        have RS := fun (w4 w5 : World) (hB : Below wr.heap.size wr w4) (hO : OutA w4 U' K f (P'.move (i : Int) 11 (j : Int) 0).1 w5) => rest_after (T1.below hB) hO (by rw [hsl1]; exact hn0.out) i
        have FN := fun (w4 w6 : World) (hB : Below wr.heap.size wr w4) (hO : OutA w4 U' K f (restP 400 (P'.move (i : Int) 11 (j : Int) 0).1 i) w6) => (T1.below hB).outs hO
        clear hst h2 hx
        generalize (P'.move (i : Int) 11 (j : Int) 0) = PM at *
        generalize restP 400 PM.1 i = PR at *
        replace T1 := Mr.hid T1
        replace G1 := Mr.hid G1
        replace G2' := Mr.hid G2'
        replace ST := Mr.hid ST
        replace MV := Mr.hid MV
        replace TB := Mr.hid TB
        replace RS := Mr.hid RS
        replace FN := Mr.hid FN
        replace hsl1 := Mr.hid hsl1
        go_wp2_with (first
          | (go_at_call 9; refine ST.out.mono ?_; clear ST; rintro e w4 ⟨rfl, hB4, _⟩; have t4 := TB.out w4 hB4; have MV4 := MV.out w4 hB4; have RS4 := fun w5 => RS.out w4 w5 hB4; have FN4 := fun w6 => FN.out w4 w6 hB4; replace MV4 := Mr.hid MV4; replace RS4 := Mr.hid RS4; replace FN4 := Mr.hid FN4; clear MV RS FN TB hB4)
          | (go_at_call 7; refine MV4.out.mono ?_; clear MV4; rintro e w5 ⟨rfl, hO5⟩; have RS5 := RS4.out w5 hO5; replace RS5 := Mr.hid RS5; clear RS4 hO5)
          | (go_at_call 8; refine RS5.out.mono ?_; clear RS5; rintro e w6 ⟨rfl, hO6⟩; obtain ⟨U'', h'', T2, _, _, _⟩ := FN4.out w6 hO6; replace T2 := Mr.hid T2; clear FN4 hO6))
        go_roundg (gk - 1)
        case measure => omega
        case rel => exact ⟨j + 1, U'', h'', PR, by simp, by omega, T2.out, G2'.out⟩
      · have G2' := G1.skip h2
        have b1 : ((P'.A.st (j : Int)).1 == 2) = false := by simpa using h2
        have FN := fun (w4 : World) (hB : Below wr.heap.size wr w4) => T1.below hB
        generalize P'.A.st (j : Int) = sj at *
        clear h2 hx
        replace T1 := Mr.hid T1
        replace G1 := Mr.hid G1
        replace G2' := Mr.hid G2'
        replace ST := Mr.hid ST
        replace FN := Mr.hid FN
        go_wp2_with (first
          | (go_at_call 9; refine ST.out.mono ?_; clear ST; rintro e w4 ⟨rfl, hB4, _⟩; have T2 := FN.out w4 hB4; replace T2 := Mr.hid T2; clear FN hB4))
        go_roundg (gk - 1)
        case measure => omega
        case rel => exact ⟨j + 1, U', h', P', by simp, by omega, T2.out, G2'.out⟩
    · have d0 : decide ((j : Int) < (n : Int)) = false := decide_eq_false (by omega)
      obtain rfl : j = n := by omega
      have G3' := Mr.hid G1.done
      replace T1 := Mr.hid T1
      clear G1
      go_wp2
      clear y0 y1 y2 y3 y4 y5 y6 x7 x8 l1 l2
      go_loopg [12] nt (fun k s wy => ∃ (i : Nat) (U' : Nat → Prop) (h' : Wh) (P' : Pa), s = .int .i64 (i : Int) ∧ i + k = nt ∧ Tb w wy c tb U' K f h' P' ∧ G3 P' j nt i)
      case atStart => exact ⟨0, U', h', P', rfl, by omega, T1.out, G3'.out⟩
      case round =>
        obtain ⟨i, U2, h2, P2, rfl, hik, T2, G4'⟩ := hrel
        clear T1 G3'
        obtain ⟨⟨y0, y1, y2, y3, y4, y5, y6⟩, x7, x8⟩ := T2.cells
        rw [h0.out] at y0
        rw [h5.out] at y5
        have l1 := T2.size
        have l2 := T2.lt
        by_cases hin : i < nt
        · have d1 : decide ((i : Int) < (nt : Int)) = true := decide_eq_true (by omega)
          have hnt16 : nt ≤ 16 := hnt.out.2
          have G5 := G4'.flush hnt16 hin
          have hsl1 : (P2.move (i : Int) 12 0 0).1.A.sl.length = j := (move_sl P2 G4'.1.inv (i : Int) 12 0 0).trans G4'.1.ns
          have MV := move_arena T2.ra (by rw [G4'.1.ns]; exact hn0.out) (i : Int) 12 0 0
          have RS := fun (w5 : World) (hO : OutA wr U2 K f (P2.move (i : Int) 12 0 0).1 w5) => rest_after T2 hO (by rw [hsl1]; exact hn0.out) i
          have FN := fun (w6 : World) (hO : OutA wr U2 K f (restP 400 (P2.move (i : Int) 12 0 0).1 i) w6) => T2.outs hO
          generalize (P2.move (i : Int) 12 0 0) = PM at *
          generalize restP 400 PM.1 i = PR at *
          replace T2 := Mr.hid T2
          replace G4' := Mr.hid G4'
          replace G5 := Mr.hid G5
          replace MV := Mr.hid MV
          replace RS := Mr.hid RS
          replace FN := Mr.hid FN
          replace hsl1 := Mr.hid hsl1
          go_wp2_with (first
            | (go_at_call 7; refine MV.out.mono ?_; clear MV; rintro e w5 ⟨rfl, hO5⟩; have RS5 := RS.out w5 hO5; replace RS5 := Mr.hid RS5; clear RS hO5)
            | (go_at_call 8; refine RS5.out.mono ?_; clear RS5; rintro e w6 ⟨rfl, hO6⟩; obtain ⟨U'', h'', T3, _, _, _⟩ := FN.out w6 hO6; replace T3 := Mr.hid T3; clear FN hO6))
          go_roundg (gk - 1)
          case measure => omega
          case rel => exact ⟨i + 1, U'', h'', PR, by simp, by omega, T3.out, G5.out⟩
        · have d1 : decide ((i : Int) < (nt : Int)) = false := decide_eq_false (by omega)
          obtain rfl : i = nt := by omega
          obtain ⟨G5, hcn, hse⟩ := G4'.done hnt.out.2
          have CT := fun (W' : World) (hB : Below wr.heap.size wr W') => count_any (T2.ra.below hB).ar (T2.ra.below hB).tl (by rw [G4'.1.ns]; exact hnb) 0
          have hcn' : cntS 0 P2.A.sl = j := hcn
          rw [hcn'] at CT
          have FN := fun (w4 : World) (hB : Below wr.heap.size wr w4) => T2.below hB
          have hmk := fun u => make_bools u j (by omega)
          have b1 : (!((j : Int) == (j : Int))) = false := by simp
          replace T2 := Mr.hid T2
          replace G4' := Mr.hid G4'
          replace G5 := Mr.hid G5
          replace hcn := Mr.hid hcn
          replace hcn' := Mr.hid hcn'
          replace hse := Mr.hid hse
          replace CT := Mr.hid CT
          replace FN := Mr.hid FN
          go_wp2
          go_region_held3 (fun w' => w'.cell? ⟨tb, 7, none⟩ = some (.pointer (some ⟨f.ba, 0, none⟩)) ∧ w'.cell? ⟨w.heap.size, 5, none⟩ = some (.int .i64 (j : Int))) (simp [*])
            (first | (go_at_call 10; refine (CT.out _ (Below.refl _ _).drew).mono ?_; clear CT; rintro e w4 ⟨rfl, hB4⟩; have T4 := FN.out w4 ((Below.refl _ _).drew.trans hB4); clear FN hB4; obtain ⟨⟨_, _, _, _, _, z5, _⟩, z7, _⟩ := T4.cells; rw [h5.out] at z5; replace T4 := Mr.hid T4))
          have l4 := T4.out.size
          have l5 := T4.out.lt
          clear y0 y1 y2 y3 y4 y5 y6 x7 x8 l1 l2
          go_upto_region 28 with fail
          go_cut [13] (fun s wx => ∃ gs, s = .slice (some ⟨gs, 0, none⟩) j j ∧ w.heap.size < gs ∧ gs ≠ tb ∧ ¬ U2 gs ∧ ¬ K gs ∧ Tb w wx c tb U2 K f h2 P2 ∧ Has wx (fun k => k = gs) 4 1 (.slice (some ⟨gs, 0, none⟩) j j) j (bools (seenL P2.A)))
          case first =>
            go_wp2
            go_meet
            case rel =>
              have t := T4.out
              refine ⟨_, rfl, by omega, by omega, fun hu => ?_, fun hu => ?_, t.box _, ?_⟩
              · have := t.ra.mch.2.ul _ hu
                omega
              · have := (t.ra.ku _ hu).2
                omega
              · rw [hse.out]
                exact made_bools _ _ j (by omega) rfl
          case rest =>
            obtain ⟨gs, rfl, e1, e2, e3, e4, T5, hv5⟩ := hcut
            go_step
            exact again_C h5.out hn0.out hnt.out.1 T5 G5.out e1 e2 e3 e4 hv5
end Go.Proofs.YtkfpiafgfjpodabGreat.Ar
