/-
  THE LAW WordOwn.
-/
import Derived.Test.YtbbgobahhcfjjaaWordOwnP
import Derived.Test.YtbbgobahhcfjjaaWordAddrB
import Derived.Deep.DeepCutAuto
import Derived.Deep.Onto
import Derived.WalkLawsBesides
namespace Go.Proofs.Ytbbgobahhcfjjaa.Wo
open Go.RowKit
open Wc Wm Wr
set_option linter.unusedVariables false
/-- Is the small configuration taken? -/
def badB (a0 a1 a2 a3 a4 a5 a6 u : Int) : Bool := !(cfgB a0 a1 a2 a3 a4 a5 a6 && inB u 0 a5)
set_option maxHeartbeats 4000000 in
set_option maxRecDepth 100000 in
theorem law_own (a0 a1 a2 a3 a4 a5 a6 u : Int) (w : World) :
    Calls Try.prog 6 #[.agg #[.int .i64 a0, .int .i64 a1, .int .i64 a2, .int .i64 a3, .int .i64 a4, .int .i64 a5, .int .i64 a6], .int .i64 u] w fun e w' =>
      e = .returned (.bool true) ∧ Below w.heap.size w w' := by
  go_enter Try.func6, Try.ntmps6
  go_upto_region 1 with fail
  go_cut [30] (fun t wc => t = .bool (badB a0 a1 a2 a3 a4 a5 a6 u) ∧ Bx.Cfg7 wc w.heap.size a0 a1 a2 a3 a4 a5 a6 ∧ (∀ k, wc.frozen? ⟨w.heap.size, k, none⟩ = false) ∧ Below w.heap.size w wc)
  case first =>
    go_wp2_with fail
    refine (check_any _ _ _ _ _ _ _ _).mono ?_
    rintro e w1 ⟨rfl, hb⟩
    have B := Bx.boxSeq (Bx.box0 _ _) hb
    have H := (Bx.Cfg7.made w a0 a1 a2 a3 a4 a5 a6 27).below hb
    have F : ∀ k, w1.frozen? ⟨w.heap.size, k, none⟩ = false := fun k => (hb.frozen (p := ⟨w.heap.size, k, none⟩) (by simp)).trans (World.frozen?_alloc_at _ _ _ _ rfl)
    clear hb
    have E := Bx.boxEnd B
    obtain ⟨q0, q1, q2, q3, q4, q5, q6, hs⟩ := id H
    cases hc : cfgB a0 a1 a2 a3 a4 a5 a6
    · have k1 := chk_f
      go_wp2_with fail
      go_meet
      case rel => exact ⟨by simp [badB, hc], H, F, E⟩
    have k1 := chk_t
    by_cases u0 : u < 0
    · go_wp2_with fail
      go_meet
      case rel => exact ⟨by simp [badB, hc, used_out (.inl u0)], H, F, E⟩
    by_cases u1 : a5 < u
    · go_wp2_with fail
      go_meet
      case rel => exact ⟨by simp [badB, hc, used_out (.inr u1)], H, F, E⟩
    · have hd : decide (a5 < u) = false := by simpa using u1
      go_wp2_with fail
      go_meet
      case rel => exact ⟨by simp [badB, hc, used_in (show 0 ≤ u by omega) (show u ≤ a5 by omega)]; omega, H, F, E⟩
  case rest =>
    obtain ⟨rfl, H, F, E⟩ := hcut
    go_upto_if 30 with fail
    go_cut [1] (fun s wx => ∃ v x0 x1 x2 x3 x4 x5 x6 : Int, s = .int .i64 v ∧ cfgB x0 x1 x2 x3 x4 x5 x6 = true ∧ 0 ≤ v ∧ v ≤ x5 ∧ Bx.Cfg7 wx w.heap.size x0 x1 x2 x3 x4 x5 x6 ∧ Below w.heap.size w wx)
    case first =>
      cases hbad : badB a0 a1 a2 a3 a4 a5 a6 u
      · go_wp2_with fail
        go_meet
        case rel =>
          simp only [badB, Bool.not_eq_false', Bool.and_eq_true] at hbad
          have := inB_iff hbad.2
          exact ⟨u, a0, a1, a2, a3, a4, a5, a6, rfl, hbad.1, this.1, this.2, H, E⟩
      · go_wp2_with fail
        refine (small_any _).mono ?_
        rintro e w1 ⟨rfl, hb⟩
        have H1 := H.below hb
        have F1 : ∀ k, w1.frozen? ⟨w.heap.size, k, none⟩ = false := fun k => (hb.frozen (p := ⟨w.heap.size, k, none⟩) H.size).trans (F k)
        have E1 := Bx.seqB E hb (Nat.le_refl _)
        clear hb
        obtain ⟨q0, q1, q2, q3, q4, q5, q6, hs⟩ := id H1
        go_wp2_with fail
        go_meet
        case rel =>
          exact ⟨0, 2, 2, 3, 1, 0, 4, 2, rfl, by decide, by decide, by decide, H1.stored 2 2 3 1 0 4 2, ((((((E1.setCell (by simp) _).setCell (by simp) _).setCell (by simp) _).setCell (by simp) _).setCell (by simp) _).setCell (by simp) _).setCell (by simp) _⟩
    case rest =>
      obtain ⟨v, x0, x1, x2, x3, x4, x5, x6, rfl, hc, v0, v1, H, E⟩ := hcut
      clear F
      have hok := ok_of hc
      obtain ⟨n, m, hn, hm, g1, g2, g3, g4⟩ := sizes hok
      have hx5 : 1 ≤ x5 := hok.2.2.2.2.1
      have hn6 : 6 < n := by omega
      have hd6 : decide ((n : Int) < 6) = false := by simp; omega
      clear hm g1 g2 g3 hx5
      obtain ⟨i0, hi, hz0, hz1, hz2⟩ := info_parts info_u64
      obtain ⟨q0, q1, q2, q3, q4, q5, q6, hs⟩ := id H
      go_wp2_with fail
      refine (first_all _ _ _ _ _ _ _ _ n _ hc hn v0 v1).mono ?_
      rintro e w1 ⟨b1, rfl, hbl1, R1, hb⟩
      have l1 : w.heap.size < b1 := Nat.lt_of_lt_of_le H.size hbl1
      have H1 := H.below hb
      have E1 := Bx.seqB E hb (Nat.le_refl _)
      clear hb q0 q1 q2 q3 q4 q5 q6 hs hbl1 E H
      obtain ⟨q0, q1, q2, q3, q4, q5, q6, hs⟩ := id H1
      generalize hff : fstF x1 x2 x5 x6 v = f at R1
      have hff' : Hid (fstF x1 x2 x5 x6 v = f) := hff
      clear hff
      go_wp2_with fail
      refine (first_all _ _ _ _ _ _ _ _ n _ hc hn v0 v1).mono ?_
      rintro e w2 ⟨b2, rfl, hbl2, R2, hb⟩
      rw [hff'.out] at R2
      have l2 : b1 < b2 := Nat.lt_of_lt_of_le R1.size hbl2
      have S1 := R1.below hb
      have H2 := H1.below hb
      have E2 := Bx.seqB E1 hb (Nat.le_refl _)
      clear hb q0 q1 q2 q3 q4 q5 q6 hs hbl2 E1 H1 R1
      go_wp2_with (at_builtin; refine wpList_append_grows _ rfl (.const (.slice none 0 0)) (.tmp 62) 40 rfl 22 i0 (.int .u64 0) 1 8 Try.underlying40 hi hz0 hz1 hz2 rfl (by decide) none 0 0 [] rfl (fun _ => ⟨rfl, rfl⟩) rfl (fun _ h => by cases h) ⟨b1, 0, none⟩ n n (rowL f n) rfl (rowL_len f n) (rowL_cells S1) (rowL_one f n) (by omega) (by unfold maxLen; omega) (by omega) ?_)
      intro wv w3 hown hg
      have hown : w3.ownsRow w2.heap.size 22 1 wv n (rowL f n) := by simpa using hown
      obtain ⟨gw, cw, hv, hgw, Rw⟩ := row_of_own (m := n) (f := f) hown (by omega) (Nat.le_refl n) (fun i hi => rowL_get f n i hi)
      have hb := below_of_grown hg
      have T1 := S1.below hb
      have T2 := R2.below hb
      have H3 := H2.below hb
      have E3 := Bx.seqB E2 hb (Nat.le_refl _)
      have l3 : b2 < gw := Nat.lt_of_lt_of_le R2.size hgw
      rw [hv]
      clear hb hg hown hv hgw S1 R2 H2 E2
      go_wp2_with fail
      go_loopw [10] (fun s W => ∃ k : Nat, k ≤ n ∧ s = .int .i64 (k : Int) ∧ Row W b1 n (gk f k) ∧ Row W b2 n f ∧ Row W gw n f ∧ Bx.Cfg7 W w.heap.size x0 x1 x2 x3 x4 x5 x6 ∧ Below w.heap.size w W) (fun s _ => n - (intOf s).toNat)
      case atStart => exact ⟨0, by omega, rfl, T1.congr (fun i _ => by simp [gk]), T2, Rw, H3, E3⟩
      case round =>
        obtain ⟨k, k1, rfl, A, B, G, H, E⟩ := hrel
        clear T1 T2 Rw H3 E3
        by_cases hlt : k < n
        · have hlt' : (k : Int) < (n : Int) := by omega
          have ca := A.cell k hlt
          rw [show gk f k k = f k from by simp [gk]] at ca
          have fa := A.free k hlt
          have cb := B.cell k hlt
          go_wp2_with fail
          go_quiet (fail)
          go_wp2_with fail
          have A' := ((A.set k (77 + (k : Int)) (gk f (k + 1)) hlt (fun i _ => gk_step f k i)))
          have B' := B.setFar ⟨b1, k, none⟩ (.int .u64 (77 + (k : Int))) (by show b1 ≠ b2; omega)
          have G' := G.setFar ⟨b1, k, none⟩ (.int .u64 (77 + (k : Int))) (by show b1 ≠ gw; omega)
          have H' := H.setFar ⟨b1, k, none⟩ (.int .u64 (77 + (k : Int))) (by show b1 ≠ w.heap.size; omega)
          have E' := E.setCell (p := ⟨b1, k, none⟩) (by show w.heap.size ≤ b1; omega) (.int .u64 (77 + (k : Int)))
          exact ⟨⟨k + 1, by omega, by go_num, A'.below (Bx.draws _ _ _), B'.below (Bx.draws _ _ _), G'.below (Bx.draws _ _ _), H'.below (Bx.draws _ _ _), E'.trans (Bx.draws _ _ _)⟩, by simp [intOf]; omega⟩
        · obtain rfl : n = k := by omega
          have A7 := A.congr (g := s77) (fun i hi => (gk_end f n i hi).symm)
          have hlt' : ¬ (n : Int) < (n : Int) := by omega
          have sz1 := A.size
          have sz2 := B.size
          have szg := G.size
          have szc := H.size
          clear A hlt
          go_wp2_with fail
          clear hlt' hd6
          obtain ⟨B0, hBe⟩ : ∃ B0, B0 = wr.heap.size := ⟨_, rfl⟩
          rw [← hBe] at sz1 sz2 szg szc
          have hBh : Hid (B0 = wr.heap.size) := hBe
          clear hBe
          go_loopw [11, 12] (fun gv s W => ∃ k : Nat, k ≤ 70 ∧ s = .int .i64 (k : Int) ∧ ((k = 0 ∧ gv = .slice (some ⟨b1, 0, none⟩) n n) ∨ (1 ≤ k ∧ W.ownsRow B0 22 1 gv (n + k) (grownL n k))) ∧ Row W b1 n s77 ∧ Row W b2 n f ∧ Row W gw n f ∧ Bx.Cfg7 W w.heap.size x0 x1 x2 x3 x4 x5 x6 ∧ Below w.heap.size w W ∧ B0 ≤ W.heap.size) (fun _ s _ => 70 - (intOf s).toNat)
          case atStart => exact ⟨0, by omega, rfl, .inl ⟨rfl, rfl⟩, A7, B, G, H, E, Nat.le_of_eq hBh.out⟩
          case round =>
            obtain ⟨k, k1, rfl, hgv, A, B', G', H', E', hW⟩ := hrel
            clear A7 B G H E hBh
            by_cases hlt : k < 70
            · rcases hgv with ⟨rfl, rfl⟩ | ⟨k2, hown⟩
              · go_wp2_with (at_builtin; refine wpList_append_grows _ rfl (.tmp 90) (.tmp 91) 40 rfl 22 i0 (.int .u64 0) 1 8 Try.underlying40 hi hz0 hz1 hz2 rfl (by decide) (some ⟨b1, 0, none⟩) n n (rowL s77 n) rfl (fun h => by cases h) (rowL_len s77 n) ?ho ⟨_, 0, none⟩ 1 1 [.int .u64 99] rfl rfl ?hc ?h1 (by omega) (by unfold maxLen; omega) (by omega) ?_)
                case ho =>
                  intro b hb j u hu
                  injection hb with hb
                  subst hb
                  exact rowL_cells (A.below ((Below.refl _ _).alloc (Nat.le_refl _) _)) j u hu
                case hc =>
                  intro j u hj
                  match j, hj with
                  | 0, hj => simp at hj; subst hj; simp [Addr.add]
                case h1 => intro u hu; simp at hu; subst hu; rfl
                · intro gv' w4 hown hg
                  have hb : Below wr.heap.size wr w4 := ((Below.refl _ _).alloc (Nat.le_refl _) _).trans ((below_of_grown hg).mono (by simp))
                  have hown2 : w4.ownsRow B0 22 1 gv' (n + 1) (grownL n 1) := by
                    rw [← grownL_succ, grownL_zero]; exact hown.mono (by omega)
                  have A2 := A.below hb
                  have B2 := B'.below hb
                  have G2 := G'.below hb
                  have H2 := H'.below hb
                  have E2 := Bx.seqB E' hb (Nat.le_refl _)
                  have W2 : B0 ≤ w4.heap.size := Nat.le_trans hW hb.size
                  clear hown hg hb A B' G' H' E' hW
                  go_wp2_with fail
                  exact ⟨⟨1, by omega, by go_num, .inr ⟨by omega, hown2⟩, A2, B2, G2, H2, E2, W2⟩, by simp [intOf]⟩
              · obtain ⟨g, cap, rfl, hB0, hglt⟩ := hown.form (by omega)
                go_wp2_with (at_builtin; refine wpList_append_own _ rfl (.tmp 90) (.tmp 91) 40 rfl B0 22 i0 (.int .u64 0) 1 8 Try.underlying40 hi hz0 hz1 hz2 rfl (by decide) (.slice (some ⟨g, 0, none⟩) (n + k) cap) (n + k) (grownL n k) rfl (hown.alloc _) ⟨wr.heap.size, 0, none⟩ 1 1 [.int .u64 99] rfl rfl ?hc2 ?h12 (by unfold maxLen; omega) (by omega) (by simp; omega) ?_)
                case hc2 =>
                  intro j u hj
                  match j, hj with
                  | 0, hj => simp at hj; subst hj; simp [Addr.add]
                case h12 => intro u hu; simp at hu; subst hu; rfl
                · intro gv' w4 hown' hg _
                  have al : Below wr.heap.size wr (wr.alloc (.cells #[.int .u64 99] 22)) := (Below.refl _ _).alloc (Nat.le_refl _) _
                  have hown2 : w4.ownsRow B0 22 1 gv' (n + (k + 1)) (grownL n (k + 1)) := by
                    rw [← grownL_succ]; exact hown'
                  have A2 := Wo.Row.grown (A.below al) hg (by simp [Value.ownBlock]; omega)
                  have B2 := Wo.Row.grown (B'.below al) hg (by simp [Value.ownBlock]; omega)
                  have G2 := Wo.Row.grown (G'.below al) hg (by simp [Value.ownBlock]; omega)
                  have H2 := cfg_grown (H'.below al) hg (by simp [Value.ownBlock]; omega)
                  have E2 := (Bx.seqB E' al (Nat.le_refl _)).grown hg (by have := E'.size; simp; omega) (by intro k hk; simp [Value.ownBlock] at hk; omega)
                  have W2 : B0 ≤ w4.heap.size := Nat.le_trans hW (Nat.le_trans al.size hg.size)
                  clear hown hown' hg al A B' G' H' E' hW
                  go_wp2_with fail
                  exact ⟨⟨k + 1, by omega, by go_num, .inr ⟨by omega, hown2⟩, A2, B2, G2, H2, E2, W2⟩, by simp [intOf]; omega⟩
            · rcases hgv with ⟨hk0, _⟩ | ⟨k2, hown⟩
              · omega
              obtain ⟨g, cap, rfl, hB0, Rg⟩ := row_of_own (m := n) (f := s77) hown (by omega) (by omega) (fun i hi => grownL_get n k i hi)
              clear hown
              obtain ⟨q0, q1, q2, q3, q4, q5, q6, hs⟩ := id H'
              go_wp2_with fail
              refine (first_all _ _ _ _ _ _ _ _ n _ hc hn v0 v1).mono ?_
              rintro e w5 ⟨b3, rfl, hbl3, R3, hb⟩
              rw [hff'.out] at R3
              have A5 := A.below hb
              have B5 := B'.below hb
              have G5 := G'.below hb
              have D5 := Rg.below hb
              have E5 := Bx.seqB E' hb (Nat.le_refl _)
              have l4 : b1 < g := by omega
              have l5 : b2 < g := by omega
              have l6 : b2 < b3 := Nat.lt_of_lt_of_le B'.size hbl3
              clear hb q0 q1 q2 q3 q4 q5 q6 hs hbl3 A B' G' H' E' Rg hW sz1 sz2 szg szc hB0 k1 k2 hlt
              go_wp2_with fail
              go_loopw [15] (fun s W => ∃ t : Nat, t ≤ n ∧ s = .int .i64 (t : Int) ∧ Row W b1 n s77 ∧ Row W b2 n f ∧ Row W gw n f ∧ Row W g n s77 ∧ Row W b3 n f ∧ Below w.heap.size w W) (fun s _ => n - (intOf s).toNat)
              case atStart => exact ⟨0, by omega, rfl, A5, B5, G5, D5, R3, E5⟩
              case round =>
                obtain ⟨t, t1, rfl, A, B, G, D, C, E⟩ := hrel
                clear A5 B5 G5 D5 R3 E5
                by_cases hlt : t < n
                · have hlt' : (t : Int) < (n : Int) := by omega
                  have cb := B.cell t hlt
                  have cg := G.cell t hlt
                  have cc := C.cell t hlt
                  generalize f t = ft at cb cg cc
                  go_wp2_with fail
                  go_quiet (fail)
                  go_wp2_with fail
                  exact ⟨⟨t + 1, by omega, by go_num, A.below (Bx.draws _ _ _), B.below (Bx.draws _ _ _), G.below (Bx.draws _ _ _), D.below (Bx.draws _ _ _), C.below (Bx.draws _ _ _), E.trans (Bx.draws _ _ _)⟩, by simp [intOf]; omega⟩
                · have hlt' : ¬ (t : Int) < (n : Int) := by omega
                  go_wp2_with fail
                  clear hlt' hlt t1
                  go_loopw [16] (fun s W => ∃ t : Nat, t ≤ n ∧ s = .int .i64 (t : Int) ∧ Row W b1 n s77 ∧ Row W b2 n (ek f t) ∧ Row W gw n f ∧ Row W g n s77 ∧ Row W b3 n f ∧ Below w.heap.size w W) (fun s _ => n - (intOf s).toNat)
                  case atStart => exact ⟨0, by omega, rfl, A, B.congr (fun i _ => by simp [ek]), G, D, C, E⟩
                  case round =>
                    obtain ⟨t, t1, rfl, A', B', G', D', C', E'⟩ := hrel
                    clear A B G D C E
                    by_cases hlt : t < n
                    · have hlt' : (t : Int) < (n : Int) := by omega
                      have cb := B'.cell t hlt
                      have fb := B'.free t hlt
                      go_wp2_with fail
                      have B2 := B'.set t 11 (ek f (t + 1)) hlt (fun i _ => ek_step f t i)
                      have A2 := A'.setFar ⟨b2, t, none⟩ (.int .u64 11) (by show b2 ≠ b1; omega)
                      have G2 := G'.setFar ⟨b2, t, none⟩ (.int .u64 11) (by show b2 ≠ gw; omega)
                      have D2 := D'.setFar ⟨b2, t, none⟩ (.int .u64 11) (by show b2 ≠ g; omega)
                      have C2 := C'.setFar ⟨b2, t, none⟩ (.int .u64 11) (by show b2 ≠ b3; omega)
                      have E2 := E'.setCell (p := ⟨b2, t, none⟩) (by show w.heap.size ≤ b2; omega) (.int .u64 11)
                      exact ⟨⟨t + 1, by omega, by go_num, A2, B2, G2, D2, C2, E2⟩, by simp [intOf]; omega⟩
                    · have hlt' : ¬ (t : Int) < (n : Int) := by omega
                      go_wp2_with fail
                      clear hlt' hlt t1
                      go_loopw [17] (fun s W => ∃ t : Nat, t ≤ n ∧ s = .int .i64 (t : Int) ∧ Row W b1 n s77 ∧ Row W gw n f ∧ Row W g n s77 ∧ Row W b3 n f ∧ Below w.heap.size w W) (fun s _ => n - (intOf s).toNat)
                      case atStart => exact ⟨0, by omega, rfl, A', G', D', C', E'⟩
                      case round =>
                        obtain ⟨t, t1, rfl, A, G, D, C, E⟩ := hrel
                        clear A' B' G' D' C' E'
                        by_cases hlt : t < n
                        · have hlt' : (t : Int) < (n : Int) := by omega
                          have ca := A.cell t hlt
                          have cd := D.cell t hlt
                          have cg := G.cell t hlt
                          have cc := C.cell t hlt
                          rw [show s77 t = 77 + (t : Int) from rfl] at ca cd
                          generalize f t = ft at cg cc
                          have hng : (t : Int) < (n : Int) + (k : Int) := by omega
                          go_wp2_with fail
                          go_quiet (fail)
                          go_wp2_with fail
                          exact ⟨⟨t + 1, by omega, by go_num, A.below (Bx.draws _ _ _), G.below (Bx.draws _ _ _), D.below (Bx.draws _ _ _), C.below (Bx.draws _ _ _), E.trans (Bx.draws _ _ _)⟩, by simp [intOf]; omega⟩
                        · have hlt' : ¬ (t : Int) < (n : Int) := by omega
                          go_wp2_with fail
                          go_ret
                          exact ⟨rfl, E⟩
end Go.Proofs.Ytbbgobahhcfjjaa.Wo
