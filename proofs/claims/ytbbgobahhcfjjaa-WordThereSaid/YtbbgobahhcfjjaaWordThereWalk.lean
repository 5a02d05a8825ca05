/-
  THE LAW WordThere.
-/
import Derived.Test.YtbbgobahhcfjjaaWordThereP
import Derived.Deep.DeepCutAuto
import Derived.WalkLawsBesides
namespace Go.Proofs.Ytbbgobahhcfjjaa.Wt
open Go.RowKit
open Wc Wm
set_option linter.unusedVariables false
set_option maxHeartbeats 4000000 in
set_option maxRecDepth 100000 in
theorem law_there (a0 a1 a2 a3 a4 a5 a6 : Int) (w : World) :
    Calls Try.prog 5 #[.agg #[.int .i64 a0, .int .i64 a1, .int .i64 a2, .int .i64 a3, .int .i64 a4, .int .i64 a5, .int .i64 a6]] w fun e w' =>
      e = .returned (.bool true) ∧ Below w.heap.size w w' := by
  go_enter Try.func5, Try.ntmps5
  go_upto_region 1 with fail
  go_cut [15] (fun t wc => t = .bool (!cfgB a0 a1 a2 a3 a4 a5 a6) ∧ Bx.Cfg7 wc w.heap.size a0 a1 a2 a3 a4 a5 a6 ∧ (∀ k, wc.frozen? ⟨w.heap.size, k, none⟩ = false) ∧ Below w.heap.size w wc)
  case first =>
    go_wp2_with fail
    refine (check_any _ _ _ _ _ _ _ _).mono ?_
    rintro e w1 ⟨rfl, hb⟩
    have B := Bx.boxSeq (Bx.box0 _ _) hb
    have H := (Bx.Cfg7.made w a0 a1 a2 a3 a4 a5 a6 27).below hb
    have F : ∀ k, w1.frozen? ⟨w.heap.size, k, none⟩ = false := fun k => (hb.frozen (p := ⟨w.heap.size, k, none⟩) (by simp)).trans (World.frozen?_alloc_at _ _ _ _ rfl)
    clear hb
    have E := Bx.boxEnd B
    cases hc : cfgB a0 a1 a2 a3 a4 a5 a6
    · have k1 := chk_f
      go_wp2_with fail
      go_meet
      case rel => exact ⟨by simp [hc], H, F, E⟩
    · have k1 := chk_t
      go_wp2_with fail
      go_meet
      case rel => exact ⟨by simp [hc], H, F, E⟩
  case rest =>
    obtain ⟨rfl, H, F, E⟩ := hcut
    go_upto_if 15 with fail
    go_cut [] (fun wx => ∃ x0 x1 x2 x3 x4 x5 x6 : Int, cfgB x0 x1 x2 x3 x4 x5 x6 = true ∧ Bx.Cfg7 wx w.heap.size x0 x1 x2 x3 x4 x5 x6 ∧ Below w.heap.size w wx)
    case first =>
      cases hbad : cfgB a0 a1 a2 a3 a4 a5 a6
      · go_wp2_with fail
        refine (small_any _).mono ?_
        rintro e w1 ⟨rfl, hb⟩
        have H1 := H.below hb
        have F1 : ∀ k, w1.frozen? ⟨w.heap.size, k, none⟩ = false := fun k => (hb.frozen (p := ⟨w.heap.size, k, none⟩) H.size).trans (F k)
        have E1 := Bx.seqB E hb (Nat.le_refl _)
        clear hb
        obtain ⟨q0, q1, q2, q3, q4, q5, q6, hs⟩ := id H1
        go_wp2_with fail
        go_meet
        case rel =>
          exact ⟨2, 2, 3, 1, 0, 4, 2, by decide, H1.stored 2 2 3 1 0 4 2, ((((((E1.setCell (by simp) _).setCell (by simp) _).setCell (by simp) _).setCell (by simp) _).setCell (by simp) _).setCell (by simp) _).setCell (by simp) _⟩
      · go_wp2_with fail
        go_meet
        case rel => exact ⟨a0, a1, a2, a3, a4, a5, a6, hbad, H, E⟩
    case rest =>
      obtain ⟨x0, x1, x2, x3, x4, x5, x6, hc, H, E⟩ := hcut
      clear F
      have hok := ok_of hc
      obtain ⟨n, hn⟩ : ∃ n : Nat, base x1 x2 x5 x6 14 = (n : Int) := ⟨(base x1 x2 x5 x6 14).toNat, by have := base_bd hok 14; omega⟩
      have hsum : Hid (6 + x6 + x1 + x1 * x2 + 4 * x5 = (n : Int)) := by have := Wr.base14 x1 x2 x5 x6; rw [hn] at this; exact this.symm
      have m0 : 0 ≤ x1 * x2 := by obtain ⟨o1, o2, o3, o4, o5, o6, o7, o8⟩ := hok; exact Int.mul_nonneg (by omega) (by omega)
      have m1 : x1 * x2 ≤ 16 * 8 := by obtain ⟨o1, o2, o3, o4, o5, o6, o7, o8⟩ := hok; exact Int.mul_le_mul o2 o4 (by omega) (by omega)
      have ho := hok
      obtain ⟨o1, o2, o3, o4, o5, o6, o7, o8⟩ := ho
      have hn6 : 6 < n := by have := hsum.out; omega
      have hn7 : n ≤ 65536 := by have := hsum.out; omega
      have hd6 : decide ((n : Int) < 6) = false := by simp; omega
      have hne : ((n : Int) != 6 + x6 + x1 + x1 * x2 + 4 * x5) = false := by have := hsum.out; simp; omega
      obtain ⟨q0, q1, q2, q3, q4, q5, q6, hs⟩ := id H
      go_wp2_with fail
      refine (size_ok _ _ _ _ _ _ _ _ hc).mono ?_
      rintro e w1 ⟨rfl, hb⟩
      have H1 := H.below hb
      have E1 := Bx.seqB E hb (Nat.le_refl _)
      clear hb q0 q1 q2 q3 q4 q5 q6 hs E H
      obtain ⟨q0, q1, q2, q3, q4, q5, q6, hs⟩ := id H1
      go_wp2_with fail
      have bl0 : w.heap.size < w1.heap.size := hs
      have P0 := Pl3.made w1 0 0 0 36
      have H2 := H1.alloc (.cells #[.int .i64 0, .int .i64 0, .int .i64 0] 36)
      have E2 := E1.alloc (Nat.le_of_lt bl0) (.cells #[.int .i64 0, .int .i64 0, .int .i64 0] 36)
      clear q0 q1 q2 q3 q4 q5 q6 hs H1 E1 hd6 hne m0 m1
      have hbl : w.heap.size ≤ w1.heap.size := Nat.le_of_lt bl0
      have hbne : w1.heap.size ≠ w.heap.size := by omega
      clear bl0
      go_loopw [6] (fun s W => ∃ (t : Nat) (r i k : Int), t ≤ n ∧ s = .int .i64 (t : Int) ∧ Ahead x1 x2 x5 x6 (t : Int) r i k ∧ Pl3 W w1.heap.size r i k ∧ Bx.Cfg7 W w.heap.size x0 x1 x2 x3 x4 x5 x6 ∧ Below w.heap.size w W) (fun s _ => n - (intOf s).toNat)
      case atStart => exact ⟨0, 0, 0, 0, by omega, rfl, .inl ⟨rfl, rfl, rfl, rfl⟩, P0, H2, E2⟩
      case round =>
        obtain ⟨t, r, i, k, t2, rfl, hA, P, H, E⟩ := hrel
        clear P0 H2 E2
        generalize w1.heap.size = bl at *
        obtain ⟨q0, q1, q2, q3, q4, q5, q6, hs⟩ := id H
        by_cases htn : t < n
        · obtain ⟨j, j1, j2, j3, j4⟩ := find_at hok (t : Int) (by omega) 14 (by omega) (by omega)
          have hP : Hid (PlaceAt x1 x2 x5 x6 (t : Int) (j : Int) (((t : Int) - base x1 x2 x5 x6 j) / each x2 (j : Int)) (((t : Int) - base x1 x2 x5 x6 j) % each x2 (j : Int))) := ⟨j, j1, by omega, j3, j4, rfl, rfl, rfl⟩
          generalize ((t : Int) - base x1 x2 x5 x6 j) / each x2 (j : Int) = i' at hP
          generalize ((t : Int) - base x1 x2 x5 x6 j) % each x2 (j : Int) = k' at hP
          generalize (j : Int) = r' at hP
          have hnp := next_place hok hA hP.out
          clear j1 j2 j3 j4
          have htn' : (t : Int) < (n : Int) := by omega
          go_wp2_with fail
          refine (at_place _ _ _ _ _ _ _ _ _ _ _ _ hc hP.out).mono ?_
          rintro e w2 ⟨rfl, hb⟩
          have P3 := P.below hb
          have H3 := H.below hb
          have E3 := Bx.seqB E hb (Nat.le_refl _)
          clear hb q0 q1 q2 q3 q4 q5 q6 hs E H P
          have pc0 : ∀ o, (w2.alloc o).cell? ⟨bl, 0, none⟩ = some (.int .i64 r) := fun o => (P3.alloc o).c0
          have pc1 : ∀ o, (w2.alloc o).cell? ⟨bl, 1, none⟩ = some (.int .i64 i) := fun o => (P3.alloc o).c1
          have pc2 : ∀ o, (w2.alloc o).cell? ⟨bl, 2, none⟩ = some (.int .i64 k) := fun o => (P3.alloc o).c2
          have cc0 : ∀ o, (w2.alloc o).cell? ⟨w.heap.size, 0, none⟩ = some (.int .i64 x0) := fun o => (H3.alloc o).c0
          have cc1 : ∀ o, (w2.alloc o).cell? ⟨w.heap.size, 1, none⟩ = some (.int .i64 x1) := fun o => (H3.alloc o).c1
          have cc2 : ∀ o, (w2.alloc o).cell? ⟨w.heap.size, 2, none⟩ = some (.int .i64 x2) := fun o => (H3.alloc o).c2
          have cc3 : ∀ o, (w2.alloc o).cell? ⟨w.heap.size, 3, none⟩ = some (.int .i64 x3) := fun o => (H3.alloc o).c3
          have cc4 : ∀ o, (w2.alloc o).cell? ⟨w.heap.size, 4, none⟩ = some (.int .i64 x4) := fun o => (H3.alloc o).c4
          have cc5 : ∀ o, (w2.alloc o).cell? ⟨w.heap.size, 5, none⟩ = some (.int .i64 x5) := fun o => (H3.alloc o).c5
          have cc6 : ∀ o, (w2.alloc o).cell? ⟨w.heap.size, 6, none⟩ = some (.int .i64 x6) := fun o => (H3.alloc o).c6
          have rb := ahead_bd hok hA
          obtain ⟨rb1, rb2, rb3, rb4, rb5, rb6⟩ := rb
          clear hA
          rcases hnp with ⟨g1, g2, g3⟩ | ⟨g1, g2, g3⟩ | ⟨g1, g2, g3⟩
          · have e1 : (r' == r) = true := by simp [g1]
            have e1' : (r' != r) = false := by simp [g1]
            have l1 : decide (r' < r) = false := by simp; omega
            have l2 : decide (r + 1 < r') = false := by simp; omega
            have e2 : (i' == i) = true := by simp [g2]
            have e3 : (k' == k + 1) = true := by simp [g3]
            clear g1 g2 g3
            go_wp2_with fail
            refine (addr_back _ _ _ _ _ _ _ _ _ _ _ _ hc hP.out).mono ?_
            rintro e w3 ⟨rfl, hb⟩
            have P4 := (P3.alloc _).below hb
            have Q4 := (Pl3.made w2 r' i' k' 36).below hb
            have H4 := (H3.alloc _).below hb
            have E4 := Bx.seqB (E3.alloc (Nat.le_of_lt (Nat.lt_of_le_of_lt hbl P3.size)) _) hb (Nat.le_refl _)
            clear hb pc0 pc1 pc2 cc0 cc1 cc2 cc3 cc4 cc5 cc6 P3 H3 E3
            obtain ⟨p0, p1, p2, pf, _⟩ := id P4
            obtain ⟨s0, s1, s2, _, _⟩ := id Q4
            go_wp2_with fail
            exact ⟨⟨t + 1, r', i', k', by omega, by go_num, ahead_next hP.out, P4.stored r' i' k', cfgSet H4 hbne _ _ _, ((E4.setCell hbl _).setCell hbl _).setCell hbl _⟩, by simp [intOf]; omega⟩
          · have e1 : (r' == r) = true := by simp [g1]
            have e1' : (r' != r) = false := by simp [g1]
            have l1 : decide (r' < r) = false := by simp; omega
            have l2 : decide (r + 1 < r') = false := by simp; omega
            have e2 : (i' == i) = false := by simp; omega
            have e4 : (i' == i + 1) = true := by simp [g2]
            have e3 : (k' == 0) = true := by simp [g3]
            clear g1 g2 g3
            go_wp2_with fail
            refine (addr_back _ _ _ _ _ _ _ _ _ _ _ _ hc hP.out).mono ?_
            rintro e w3 ⟨rfl, hb⟩
            have P4 := (P3.alloc _).below hb
            have Q4 := (Pl3.made w2 r' i' k' 36).below hb
            have H4 := (H3.alloc _).below hb
            have E4 := Bx.seqB (E3.alloc (Nat.le_of_lt (Nat.lt_of_le_of_lt hbl P3.size)) _) hb (Nat.le_refl _)
            clear hb pc0 pc1 pc2 cc0 cc1 cc2 cc3 cc4 cc5 cc6 P3 H3 E3
            obtain ⟨p0, p1, p2, pf, _⟩ := id P4
            obtain ⟨s0, s1, s2, _, _⟩ := id Q4
            go_wp2_with fail
            exact ⟨⟨t + 1, r', i', k', by omega, by go_num, ahead_next hP.out, P4.stored r' i' k', cfgSet H4 hbne _ _ _, ((E4.setCell hbl _).setCell hbl _).setCell hbl _⟩, by simp [intOf]; omega⟩
          · have e1 : (r' == r) = false := by simp; omega
            have e1' : (r' != r) = true := by simp; omega
            have l1 : decide (r' < r) = false := by simp; omega
            have l2 : decide (r + 1 < r') = false := by simp; omega
            have e2 : (i' != 0) = false := by simp [g2]
            have e3 : (k' != 0) = false := by simp [g3]
            clear g1 g2 g3
            go_wp2_with fail
            refine (addr_back _ _ _ _ _ _ _ _ _ _ _ _ hc hP.out).mono ?_
            rintro e w3 ⟨rfl, hb⟩
            have P4 := (P3.alloc _).below hb
            have Q4 := (Pl3.made w2 r' i' k' 36).below hb
            have H4 := (H3.alloc _).below hb
            have E4 := Bx.seqB (E3.alloc (Nat.le_of_lt (Nat.lt_of_le_of_lt hbl P3.size)) _) hb (Nat.le_refl _)
            clear hb pc0 pc1 pc2 cc0 cc1 cc2 cc3 cc4 cc5 cc6 P3 H3 E3
            obtain ⟨p0, p1, p2, pf, _⟩ := id P4
            obtain ⟨s0, s1, s2, _, _⟩ := id Q4
            go_wp2_with fail
            exact ⟨⟨t + 1, r', i', k', by omega, by go_num, ahead_next hP.out, P4.stored r' i' k', cfgSet H4 hbne _ _ _, ((E4.setCell hbl _).setCell hbl _).setCell hbl _⟩, by simp [intOf]; omega⟩
        · have htn' : ¬ (t : Int) < (n : Int) := by omega
          obtain rfl : t = n := by omega
          obtain ⟨rfl, rfl, rfl⟩ := last_place hok hn hn6 hA
          clear hA
          go_wp2_with fail
          refine (at_hi _ _ _ _ _ _ _ _ _ hc (by rw [hn]; omega) (by omega)).mono ?_
          rintro e w2 ⟨rfl, hb⟩
          have P3 := P.below hb
          have H3 := H.below hb
          have E3 := Bx.seqB E hb (Nat.le_refl _)
          clear hb q0 q1 q2 q3 q4 q5 q6 hs E H P
          have pc0 : ∀ o, (w2.alloc o).cell? ⟨bl, 0, none⟩ = some (.int .i64 13) := fun o => (P3.alloc o).c0
          have pc1 : ∀ o, (w2.alloc o).cell? ⟨bl, 1, none⟩ = some (.int .i64 (x5 - 1)) := fun o => (P3.alloc o).c1
          have pc2 : ∀ o, (w2.alloc o).cell? ⟨bl, 2, none⟩ = some (.int .i64 0) := fun o => (P3.alloc o).c2
          have cc5 : ∀ o, (w2.alloc o).cell? ⟨w.heap.size, 5, none⟩ = some (.int .i64 x5) := fun o => (H3.alloc o).c5
          go_wp2_with fail
          go_ret
          exact ⟨rfl, E3.alloc (by have := E3.size; omega) _⟩
end Go.Proofs.Ytbbgobahhcfjjaa.Wt
