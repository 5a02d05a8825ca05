/-
  THE LAW WordChain.
-/
import Derived.Test.YtbbgobahhcfjjabWordChainP
namespace Go.Proofs.Ytbbgobahhcfjjab.Wr
open Go.RowKit
open Wc Wm
set_option linter.unusedVariables false
/-- Is the small configuration taken? -/
def badB (a0 a1 a2 a3 a4 a5 a6 u : Int) : Bool := !(cfgB a0 a1 a2 a3 a4 a5 a6 && inB u 0 a5)
set_option maxHeartbeats 4000000 in
set_option maxRecDepth 100000 in
theorem law_chain (a0 a1 a2 a3 a4 a5 a6 u : Int) (w : World) :
    Calls Try.prog 3 #[.agg #[.int .i64 a0, .int .i64 a1, .int .i64 a2, .int .i64 a3, .int .i64 a4, .int .i64 a5, .int .i64 a6], .int .i64 u] w fun e w' =>
      e = .returned (.bool true) ∧ Below w.heap.size w w' := by
  go_enter Try.func3, Try.ntmps3
  go_upto_region 1 with fail
  go_cut [33] (fun t wc => t = .bool (badB a0 a1 a2 a3 a4 a5 a6 u) ∧ Bx.Cfg7 wc w.heap.size a0 a1 a2 a3 a4 a5 a6 ∧ (∀ k, wc.frozen? ⟨w.heap.size, k, none⟩ = false) ∧ Below w.heap.size w wc)
  case first =>
    go_wp2_with fail
    refine (check_any _ _ _ _ _ _ _ _).mono ?_
    rintro e w1 ⟨rfl, hb⟩
    have B := Bx.boxSeq (Bx.box0 _ _) hb
    have H := (Bx.Cfg7.made w a0 a1 a2 a3 a4 a5 a6 23).below hb
    have F : ∀ k, w1.frozen? ⟨w.heap.size, k, none⟩ = false := fun k => (hb.frozen (p := ⟨w.heap.size, k, none⟩) (by simp)).trans (World.frozen?_alloc_at _ _ _ _ rfl)
    clear hb
    have E := Bx.boxEnd B
    obtain ⟨q0, q1, q2, q3, q4, q5, q6, hs⟩ := id H
    cases hc : cfgB a0 a1 a2 a3 a4 a5 a6
    · have k1 := chk_f
      go_wp2_with fail
      go_meet
      case rel => exact ⟨by simp [badB, hc], H, F, E⟩
    have k1 := chk_t
    by_cases u0 : u < 0
    · go_wp2_with fail
      go_meet
      case rel => exact ⟨by simp [badB, hc, used_out (.inl u0)], H, F, E⟩
    by_cases u1 : a5 < u
    · go_wp2_with fail
      go_meet
      case rel => exact ⟨by simp [badB, hc, used_out (.inr u1)], H, F, E⟩
    · have hd : decide (a5 < u) = false := by simpa using u1
      go_wp2_with fail
      go_meet
      case rel => exact ⟨by simp [badB, hc, used_in (show 0 ≤ u by omega) (show u ≤ a5 by omega)]; omega, H, F, E⟩
  case rest =>
    obtain ⟨rfl, H, F, E⟩ := hcut
    go_upto_if 33 with fail
    go_cut [1] (fun s wx => ∃ v x0 x1 x2 x3 x4 x5 x6 : Int, s = .int .i64 v ∧ cfgB x0 x1 x2 x3 x4 x5 x6 = true ∧ 0 ≤ v ∧ v ≤ x5 ∧ Bx.Cfg7 wx w.heap.size x0 x1 x2 x3 x4 x5 x6 ∧ Below w.heap.size w wx)
    case first =>
      cases hbad : badB a0 a1 a2 a3 a4 a5 a6 u
      · go_wp2_with fail
        go_meet
        case rel =>
          simp only [badB, Bool.not_eq_false', Bool.and_eq_true] at hbad
          have := inB_iff hbad.2
          exact ⟨u, a0, a1, a2, a3, a4, a5, a6, rfl, hbad.1, this.1, this.2, H, E⟩
      · go_wp2_with fail
        refine (small_any _).mono ?_
        rintro e w1 ⟨rfl, hb⟩
        have H1 := H.below hb
        have F1 : ∀ k, w1.frozen? ⟨w.heap.size, k, none⟩ = false := fun k => (hb.frozen (p := ⟨w.heap.size, k, none⟩) H.size).trans (F k)
        have E1 := Bx.seqB E hb (Nat.le_refl _)
        clear hb
        obtain ⟨q0, q1, q2, q3, q4, q5, q6, hs⟩ := id H1
        go_wp2_with fail
        go_meet
        case rel =>
          exact ⟨1, 2, 2, 3, 1, 0, 4, 2, rfl, by decide, by decide, by decide, H1.stored 2 2 3 1 0 4 2, ((((((E1.setCell (by simp) _).setCell (by simp) _).setCell (by simp) _).setCell (by simp) _).setCell (by simp) _).setCell (by simp) _).setCell (by simp) _⟩
    case rest =>
      obtain ⟨v, x0, x1, x2, x3, x4, x5, x6, rfl, hc, v0, v1, H, E⟩ := hcut
      clear F
      obtain ⟨V, rfl⟩ := Int.eq_ofNat_of_zero_le v0
      have hok := ok_of hc
      obtain ⟨n, m, hn, hm, g1, g2, g3, g4⟩ := sizes hok
      have nb := nextI_bd (V : Int) x5 v0 g3
      obtain ⟨q0, q1, q2, q3, q4, q5, q6, hs⟩ := id H
      go_wp2_with fail
      refine (first_all _ _ _ _ _ _ _ _ n _ hc hn v0 v1).mono ?_
      rintro e w1 ⟨b, rfl, hbl, R, hb⟩
      have H1 := H.below hb
      have E1 := Bx.seqB E hb (Nat.le_refl _)
      clear hb q0 q1 q2 q3 q4 q5 q6 hs hbl E H
      obtain ⟨q0, q1, q2, q3, q4, q5, q6, hs⟩ := id H1
      go_wp2_with fail
      refine (size_ok _ _ _ _ _ _ _ _ hc).mono ?_
      rintro e w2 ⟨rfl, hb⟩
      have R2 := R.below hb
      have H2 := H1.below hb
      have E2 := Bx.seqB E1 hb (Nat.le_refl _)
      clear hb q0 q1 q2 q3 q4 q5 q6 hs E1 H1 R
      have c0 := R2.cell 0 (by omega)
      rw [fst_head] at c0
      have hn0 : ((n : Int) == 0) = false := by simp; omega
      go_wp2_with (go_at_call 10; refine (unhead_small _ _ nb.1 nb.2).mono ?_; rintro e w2 ⟨rfl, rfl⟩)
      clear c0
      go_loopw [10, 11] (fun t s W => ∃ k : Nat, V ≤ k ∧ (k : Int) ≤ x5 ∧ s = .int .i64 (k : Int) ∧ t = .int .i64 (nextI (k : Int) x5) ∧ Row W b n (fstF x1 x2 x5 x6 (V : Int)) ∧ Bx.Cfg7 W w.heap.size x0 x1 x2 x3 x4 x5 x6 ∧ Below w.heap.size w W) (fun _ s _ => (x5 - intOf s).toNat)
      case atStart => exact ⟨V, by omega, v1, rfl, rfl, R2, H2, E2⟩
      case round =>
        obtain ⟨k, k1, k2, rfl, rfl, R, H, E⟩ := hrel
        clear R2 H2 E2 nb
        obtain ⟨q0, q1, q2, q3, q4, q5, q6, hs⟩ := id H
        by_cases hlt : (k : Int) < x5
        · have hx : (nextI (k : Int) x5 != (k : Int)) = false := by simp [nextI, hlt]
          have nb := nextI_bd ((k : Int) + 1) x5 (by omega) g3
          go_wp2_with fail
          refine (addr_spare _ _ _ _ _ _ _ k m _ hc hm hlt).mono ?_
          rintro e w3 ⟨rfl, hb⟩
          have R3 := R.below hb
          have H3 := H.below hb
          have E3 := Bx.seqB E hb (Nat.le_refl _)
          clear hb q0 q1 q2 q3 q4 q5 q6 hs E H R hx
          have ck := R3.cell (m + k) (by omega)
          rw [fst_spare hm g2 (by omega) hlt v0] at ck
          have hlo : ¬ ((m : Int) + (k : Int) < 0) := by omega
          have hhi : ¬ ((n : Int) ≤ (m : Int) + (k : Int)) := by omega
          go_wp2_with (go_at_call 12; refine (unlink_small _ _ nb.1 nb.2).mono ?_; rintro e w3 ⟨rfl, rfl⟩)
          exact ⟨⟨k + 1, by omega, by omega, by go_num, by rw [show ((k + 1 : Nat) : Int) = (k : Int) + 1 from by omega], R3, H3, E3⟩, by simp [intOf]; omega⟩
        · have hx : (nextI (k : Int) x5 != -1) = false := by simp [nextI, hlt]
          go_wp2_with fail
          clear q0 q1 q2 q3 q4 q5 q6 hs hx
          go_loopw [16] (fun s W => ∃ t : Nat, 1 ≤ t ∧ t ≤ n ∧ s = .int .i64 (t : Int) ∧ Row W b n (fstF x1 x2 x5 x6 (V : Int)) ∧ Bx.Cfg7 W w.heap.size x0 x1 x2 x3 x4 x5 x6 ∧ Below w.heap.size w W) (fun s _ => n - (intOf s).toNat)
          case atStart => exact ⟨1, by omega, by omega, rfl, R, H, E⟩
          case round =>
            obtain ⟨t, t1, t2, rfl, R', H', E'⟩ := hrel
            clear R H E
            obtain ⟨q0, q1, q2, q3, q4, q5, q6, hs⟩ := id H'
            by_cases htn : t < n
            · obtain ⟨j, j1, j2, j3, j4⟩ := find_at' hok (t : Int) (by omega) 14 (by omega) (by omega)
              have htn' : (t : Int) < (n : Int) := by omega
              go_wp2_with fail
              refine (at_ok _ _ _ _ _ _ _ _ j _ hc j1 (by omega) j3 j4).mono ?_
              rintro e w3 ⟨rfl, hb⟩
              have R3 := R'.below hb
              have H3 := H'.below hb
              have E3 := Bx.seqB E' hb (Nat.le_refl _)
              clear hb q0 q1 q2 q3 q4 q5 q6 hs E' H' R'
              have rc := rowAlloc R3 t htn
              have xc := cfgAlloc5 H3
              have hfa := fst_at (n := n) hok hm v1 t1 j1 j3 j4
              clear j3 j4
              by_cases hV : 0 < V
              · rcases hfa with ⟨cj, d1, d2⟩ | ⟨cj, d1, hf⟩ | ⟨cj, d1, d2, hf⟩ | ⟨cj, hf⟩ | ⟨cj, hf⟩ | ⟨c1, c2, c3, hf⟩
                · have dV : decide (0 < V) = true := by simpa using hV
                  have e10 : ((j : Int) == 10) = true := by simp; omega
                  have e4 : ((j : Int) == 4) = false := by simp; omega
                  have e5 : ((j : Int) == 5) = false := by simp; omega
                  have hI : ((t : Int) - base x1 x2 x5 x6 j) / each x2 (j : Int) = (t : Int) - m := by rw [cj, hm, show each x2 ((10 : Nat) : Int) = 1 from by simp [each], Int.ediv_one]
                  have g1 : decide ((V : Int) ≤ (t : Int) - m) = true := by simpa using d1
                  have g2 : decide ((t : Int) - m < x5 - 1) = true := by simpa using d2
                  generalize fstF x1 x2 x5 x6 (V : Int) t = ff at rc
                  clear d1 d2 cj
                  go_wp2_with fail
                  exact ⟨⟨t + 1, by omega, by omega, by go_num, R3.below ((Below.refl _ _).alloc (Nat.le_refl _) _), H3.alloc _, E3.alloc (by have := E3.size; omega) _⟩, by simp [intOf]; omega⟩
                · have dV : decide (0 < V) = true := by simpa using hV
                  have e10 : ((j : Int) == 10) = true := by simp; omega
                  have e4 : ((j : Int) == 4) = false := by simp; omega
                  have e5 : ((j : Int) == 5) = false := by simp; omega
                  have hI : ((t : Int) - base x1 x2 x5 x6 j) / each x2 (j : Int) = (t : Int) - m := by rw [cj, hm, show each x2 ((10 : Nat) : Int) = 1 from by simp [each], Int.ediv_one]
                  have g1 : decide ((V : Int) ≤ (t : Int) - m) = false := by simpa using d1
                  rw [hf] at rc
                  clear d1 hf cj
                  go_wp2_with fail
                  exact ⟨⟨t + 1, by omega, by omega, by go_num, R3.below ((Below.refl _ _).alloc (Nat.le_refl _) _), H3.alloc _, E3.alloc (by have := E3.size; omega) _⟩, by simp [intOf]; omega⟩
                · have dV : decide (0 < V) = true := by simpa using hV
                  have e10 : ((j : Int) == 10) = true := by simp; omega
                  have e4 : ((j : Int) == 4) = false := by simp; omega
                  have e5 : ((j : Int) == 5) = false := by simp; omega
                  have hI : ((t : Int) - base x1 x2 x5 x6 j) / each x2 (j : Int) = (t : Int) - m := by rw [cj, hm, show each x2 ((10 : Nat) : Int) = 1 from by simp [each], Int.ediv_one]
                  have g1 : decide ((V : Int) ≤ (t : Int) - m) = true := by simpa using d1
                  have g2 : decide ((t : Int) - m < x5 - 1) = false := by simpa using d2
                  rw [hf] at rc
                  clear d1 d2 hf cj
                  go_wp2_with fail
                  exact ⟨⟨t + 1, by omega, by omega, by go_num, R3.below ((Below.refl _ _).alloc (Nat.le_refl _) _), H3.alloc _, E3.alloc (by have := E3.size; omega) _⟩, by simp [intOf]; omega⟩
                · have dV : decide (0 < V) = true := by simpa using hV
                  have e10 : ((j : Int) == 10) = false := by simp; omega
                  have e4 : ((j : Int) == 4) = true := by simp; omega
                  rw [if_pos (by omega)] at hf
                  rw [hf] at rc
                  clear hf cj
                  go_wp2_with fail
                  exact ⟨⟨t + 1, by omega, by omega, by go_num, R3.below ((Below.refl _ _).alloc (Nat.le_refl _) _), H3.alloc _, E3.alloc (by have := E3.size; omega) _⟩, by simp [intOf]; omega⟩
                · have dV : decide (0 < V) = true := by simpa using hV
                  have e10 : ((j : Int) == 10) = false := by simp; omega
                  have e4 : ((j : Int) == 4) = false := by simp; omega
                  have e5 : ((j : Int) == 5) = true := by simp; omega
                  rw [if_pos (by omega)] at hf
                  rw [hf] at rc
                  clear hf cj
                  go_wp2_with fail
                  exact ⟨⟨t + 1, by omega, by omega, by go_num, R3.below ((Below.refl _ _).alloc (Nat.le_refl _) _), H3.alloc _, E3.alloc (by have := E3.size; omega) _⟩, by simp [intOf]; omega⟩
                · have dV : decide (0 < V) = true := by simpa using hV
                  have e10 : ((j : Int) == 10) = false := by simp; omega
                  have e4 : ((j : Int) == 4) = false := by simp; omega
                  have e5 : ((j : Int) == 5) = false := by simp; omega
                  rw [hf] at rc
                  clear hf c1 c2 c3
                  go_wp2_with fail
                  exact ⟨⟨t + 1, by omega, by omega, by go_num, R3.below ((Below.refl _ _).alloc (Nat.le_refl _) _), H3.alloc _, E3.alloc (by have := E3.size; omega) _⟩, by simp [intOf]; omega⟩
              · rcases hfa with ⟨cj, d1, d2⟩ | ⟨cj, d1, hf⟩ | ⟨cj, d1, d2, hf⟩ | ⟨cj, hf⟩ | ⟨cj, hf⟩ | ⟨c1, c2, c3, hf⟩
                · have dV : decide (0 < V) = false := by simpa using hV
                  have e10 : ((j : Int) == 10) = true := by simp; omega
                  have e4 : ((j : Int) == 4) = false := by simp; omega
                  have e5 : ((j : Int) == 5) = false := by simp; omega
                  have hI : ((t : Int) - base x1 x2 x5 x6 j) / each x2 (j : Int) = (t : Int) - m := by rw [cj, hm, show each x2 ((10 : Nat) : Int) = 1 from by simp [each], Int.ediv_one]
                  have g1 : decide ((V : Int) ≤ (t : Int) - m) = true := by simpa using d1
                  have g2 : decide ((t : Int) - m < x5 - 1) = true := by simpa using d2
                  generalize fstF x1 x2 x5 x6 (V : Int) t = ff at rc
                  clear d1 d2 cj
                  go_wp2_with fail
                  exact ⟨⟨t + 1, by omega, by omega, by go_num, R3.below ((Below.refl _ _).alloc (Nat.le_refl _) _), H3.alloc _, E3.alloc (by have := E3.size; omega) _⟩, by simp [intOf]; omega⟩
                · have dV : decide (0 < V) = false := by simpa using hV
                  have e10 : ((j : Int) == 10) = true := by simp; omega
                  have e4 : ((j : Int) == 4) = false := by simp; omega
                  have e5 : ((j : Int) == 5) = false := by simp; omega
                  have hI : ((t : Int) - base x1 x2 x5 x6 j) / each x2 (j : Int) = (t : Int) - m := by rw [cj, hm, show each x2 ((10 : Nat) : Int) = 1 from by simp [each], Int.ediv_one]
                  have g1 : decide ((V : Int) ≤ (t : Int) - m) = false := by simpa using d1
                  rw [hf] at rc
                  clear d1 hf cj
                  go_wp2_with fail
                  exact ⟨⟨t + 1, by omega, by omega, by go_num, R3.below ((Below.refl _ _).alloc (Nat.le_refl _) _), H3.alloc _, E3.alloc (by have := E3.size; omega) _⟩, by simp [intOf]; omega⟩
                · have dV : decide (0 < V) = false := by simpa using hV
                  have e10 : ((j : Int) == 10) = true := by simp; omega
                  have e4 : ((j : Int) == 4) = false := by simp; omega
                  have e5 : ((j : Int) == 5) = false := by simp; omega
                  have hI : ((t : Int) - base x1 x2 x5 x6 j) / each x2 (j : Int) = (t : Int) - m := by rw [cj, hm, show each x2 ((10 : Nat) : Int) = 1 from by simp [each], Int.ediv_one]
                  have g1 : decide ((V : Int) ≤ (t : Int) - m) = true := by simpa using d1
                  have g2 : decide ((t : Int) - m < x5 - 1) = false := by simpa using d2
                  rw [hf] at rc
                  clear d1 d2 hf cj
                  go_wp2_with fail
                  exact ⟨⟨t + 1, by omega, by omega, by go_num, R3.below ((Below.refl _ _).alloc (Nat.le_refl _) _), H3.alloc _, E3.alloc (by have := E3.size; omega) _⟩, by simp [intOf]; omega⟩
                · have dV : decide (0 < V) = false := by simpa using hV
                  have e10 : ((j : Int) == 10) = false := by simp; omega
                  have e4 : ((j : Int) == 4) = true := by simp; omega
                  rw [if_neg (by omega)] at hf
                  rw [hf] at rc
                  clear hf cj
                  go_wp2_with fail
                  exact ⟨⟨t + 1, by omega, by omega, by go_num, R3.below ((Below.refl _ _).alloc (Nat.le_refl _) _), H3.alloc _, E3.alloc (by have := E3.size; omega) _⟩, by simp [intOf]; omega⟩
                · have dV : decide (0 < V) = false := by simpa using hV
                  have e10 : ((j : Int) == 10) = false := by simp; omega
                  have e4 : ((j : Int) == 4) = false := by simp; omega
                  have e5 : ((j : Int) == 5) = true := by simp; omega
                  rw [if_neg (by omega)] at hf
                  rw [hf] at rc
                  clear hf cj
                  go_wp2_with fail
                  exact ⟨⟨t + 1, by omega, by omega, by go_num, R3.below ((Below.refl _ _).alloc (Nat.le_refl _) _), H3.alloc _, E3.alloc (by have := E3.size; omega) _⟩, by simp [intOf]; omega⟩
                · have dV : decide (0 < V) = false := by simpa using hV
                  have e10 : ((j : Int) == 10) = false := by simp; omega
                  have e4 : ((j : Int) == 4) = false := by simp; omega
                  have e5 : ((j : Int) == 5) = false := by simp; omega
                  rw [hf] at rc
                  clear hf c1 c2 c3
                  go_wp2_with fail
                  exact ⟨⟨t + 1, by omega, by omega, by go_num, R3.below ((Below.refl _ _).alloc (Nat.le_refl _) _), H3.alloc _, E3.alloc (by have := E3.size; omega) _⟩, by simp [intOf]; omega⟩
            · have htn' : ¬ (t : Int) < (n : Int) := by omega
              go_wp2_with fail
              go_ret
              exact ⟨rfl, E'⟩
end Go.Proofs.Ytbbgobahhcfjjab.Wr
