/-
  THE DOCUMENT'S RegionName, Places and Name by their contracts.
-/
import Derived.Test.YtpmpdkpnjfidhaaDoorRefNumB
namespace Go.Proofs.YtpmpdkpnjfidhaaDoor.St
open Go.RowKit
open Go.Lib (decDigits)
open Tr Wp
set_option linter.unusedVariables false
theorem regName_in (r : Int) (w : World) (h1 : 1 ≤ r) (h2 : r ≤ 13) : Calls Tryd.prog 27 #[.int .i64 r] w fun e w' => e = .returned (.string (tName r)) ∧ w' = w := by
  rcases reg_cases r h1 h2 with rfl | rfl | rfl | rfl | rfl | rfl | rfl | rfl | rfl | rfl | rfl | rfl | rfl
  all_goals (clear h1 h2; go_enter Tryd.func27, Tryd.ntmps27; go_wp2; go_ret; exact ⟨rfl, rfl⟩)
theorem nums_low (r : Int) (h1 : 1 ≤ r) (h2 : r ≤ 6) : tNums r = 0 := by
  rcases reg_cases r h1 (by omega) with rfl | rfl | rfl | rfl | rfl | rfl | rfl | rfl | rfl | rfl | rfl | rfl | rfl <;> first | rfl | omega
theorem nums_one (r : Int) (h1 : 7 ≤ r) (h2 : r ≤ 13) (h : r ≠ 9) : tNums r = 1 := by
  rcases reg_cases r (by omega) h2 with rfl | rfl | rfl | rfl | rfl | rfl | rfl | rfl | rfl | rfl | rfl | rfl | rfl <;> first | rfl | omega
theorem places_any (r i k : Int) (w : World) : Calls Tryd.prog 7 #[.agg #[.int .i64 r, .int .i64 i, .int .i64 k]] w fun e w' => e = .returned (.bool (named r i k)) ∧ Below w.heap.size w w' := by
  have hB : ∀ o, Below w.heap.size w (w.alloc o) := fun o => (Below.refl _ _).alloc (Nat.le_refl _) o
  by_cases hr : 1 ≤ r ∧ r ≤ 13
  · obtain ⟨h1, h2⟩ := hr
    have q1 : decide (r < 1) = false := decide_eq_false (by omega)
    have q2 : decide (13 < r) = false := decide_eq_false (by omega)
    by_cases h6 : r ≤ 6
    · have q3 : decide (r ≤ 6) = true := decide_eq_true h6
      have e : named r i k = ((i == 0) && (k == 0)) := by
        have := nums_low r h1 h6
        simp only [named, bareI, bareK, this, inB, h1, h2]
        by_cases hi : i = 0
        · subst hi
          by_cases hk : k = 0
          · subst hk; simp
          · have hk' : (k == 0) = false := beq_eq_false_iff_ne.2 hk
            simp [hk']
        · have hi' : (i == 0) = false := beq_eq_false_iff_ne.2 hi
          simp [hi']
      rw [e]
      clear e h1 h2 h6
      cases hi : (i == 0)
      · go_enter Tryd.func7, Tryd.ntmps7
        go_wp2
        go_ret
        exact ⟨rfl, hB _⟩
      · go_enter Tryd.func7, Tryd.ntmps7
        go_wp2
        go_ret
        exact ⟨by simp, hB _⟩
    · have q3 : decide (r ≤ 6) = false := decide_eq_false h6
      by_cases h9 : r = 9
      · subst h9
        have e : named 9 i k = (decide (0 ≤ i) && decide (i ≤ 2147483646) && (decide (0 ≤ k) && decide (k ≤ 2147483646))) := by
          have hn : tNums 9 = 2 := rfl
          simp only [named, bareI, bareK, hn, inB]
          simp
        rw [e]
        clear e h1 h2 h6 q1 q2 q3
        by_cases g1 : i < 0
        · have p1 : decide (i < 0) = true := decide_eq_true g1
          have p2 : decide (0 ≤ i) = false := decide_eq_false (by omega)
          rw [p2]
          go_enter Tryd.func7, Tryd.ntmps7
          go_wp2
          go_ret
          exact ⟨by simp, hB _⟩
        · have p1 : decide (i < 0) = false := decide_eq_false g1
          have p2 : decide (0 ≤ i) = true := decide_eq_true (by omega)
          by_cases g2 : 2147483646 < i
          · have p3 : decide (2147483646 < i) = true := decide_eq_true g2
            have p4 : decide (i ≤ 2147483646) = false := decide_eq_false (by omega)
            rw [p2, p4]
            go_enter Tryd.func7, Tryd.ntmps7
            go_wp2
            go_ret
            exact ⟨by simp, hB _⟩
          · have p3 : decide (2147483646 < i) = false := decide_eq_false g2
            have p4 : decide (i ≤ 2147483646) = true := decide_eq_true (by omega)
            rw [p2, p4]
            by_cases g3 : 0 ≤ k
            · have p5 : decide (0 ≤ k) = true := decide_eq_true g3
              rw [p5]
              go_enter Tryd.func7, Tryd.ntmps7
              go_wp2
              go_ret
              exact ⟨by simp, hB _⟩
            · have p5 : decide (0 ≤ k) = false := decide_eq_false g3
              rw [p5]
              go_enter Tryd.func7, Tryd.ntmps7
              go_wp2
              go_ret
              exact ⟨by simp, hB _⟩
      · have q4 : (r == 9) = false := beq_eq_false_iff_ne.2 h9
        have e : named r i k = (decide (0 ≤ i) && decide (i ≤ 2147483646) && (k == 0)) := by
          have hn := nums_one r (by omega) h2 h9
          simp only [named, bareI, bareK, hn, inB, h1, h2]
          by_cases hk : k = 0
          · subst hk; simp
          · have hk' : (k == 0) = false := beq_eq_false_iff_ne.2 hk
            simp [hk']
        rw [e]
        clear e h1 h2 h6 h9
        by_cases g1 : i < 0
        · have p1 : decide (i < 0) = true := decide_eq_true g1
          have p2 : decide (0 ≤ i) = false := decide_eq_false (by omega)
          rw [p2]
          go_enter Tryd.func7, Tryd.ntmps7
          go_wp2
          go_ret
          exact ⟨by simp, hB _⟩
        · have p1 : decide (i < 0) = false := decide_eq_false g1
          have p2 : decide (0 ≤ i) = true := decide_eq_true (by omega)
          by_cases g2 : 2147483646 < i
          · have p3 : decide (2147483646 < i) = true := decide_eq_true g2
            have p4 : decide (i ≤ 2147483646) = false := decide_eq_false (by omega)
            rw [p2, p4]
            go_enter Tryd.func7, Tryd.ntmps7
            go_wp2
            go_ret
            exact ⟨by simp, hB _⟩
          · have p3 : decide (2147483646 < i) = false := decide_eq_false g2
            have p4 : decide (i ≤ 2147483646) = true := decide_eq_true (by omega)
            rw [p2, p4]
            go_enter Tryd.func7, Tryd.ntmps7
            go_wp2
            go_ret
            exact ⟨by simp, hB _⟩
  · have e : named r i k = false := by
      simp only [named]
      by_cases h1 : 1 ≤ r
      · have : ¬ r ≤ 13 := fun h => hr ⟨h1, h⟩
        simp [this]
      · simp [h1]
    rw [e]
    clear e
    by_cases h1 : r < 1
    · have q1 : decide (r < 1) = true := decide_eq_true h1
      clear hr h1
      go_enter Tryd.func7, Tryd.ntmps7
      go_wp2
      go_ret
      exact ⟨rfl, hB _⟩
    · have q1 : decide (r < 1) = false := decide_eq_false h1
      have q2 : decide (13 < r) = true := decide_eq_true (by omega)
      clear hr h1
      go_enter Tryd.func7, Tryd.ntmps7
      go_wp2
      go_ret
      exact ⟨rfl, hB _⟩
theorem rname_any (r i k : Int) (w : World) (hn : named r i k = true) : Calls Tryd.prog 8 #[.agg #[.int .i64 r, .int .i64 i, .int .i64 k]] w fun e w' => e = .returned (.string (nameB r i k)) ∧ Below w.heap.size w w' := by
  have hn0 := hn
  simp only [named, Bool.and_eq_true, decide_eq_true_eq, beq_iff_eq] at hn
  obtain ⟨⟨⟨⟨⟨h1, h2⟩, hi⟩, hk⟩, hi2⟩, hk2⟩ := hn
  have ib : 0 ≤ i ∧ i ≤ 2147483646 := by simpa [inB] using hi2
  have kb : 0 ≤ k ∧ k ≤ 2147483646 := by simpa [inB] using hk2
  obtain ⟨u, rfl⟩ : ∃ u : Nat, i = u := ⟨i.toNat, by omega⟩
  obtain ⟨v, rfl⟩ : ∃ v : Nat, k = v := ⟨k.toNat, by omega⟩
  have R := fun (W : World) => regName_in r W h1 h2
  have D := fun (W : World) => digits_any u W (by omega)
  have D2 := fun (W : World) => digits_any v W (by omega)
  have z0 := tName_size r h1 h2
  have z1 := dec_size (u : Int) (by omega) (by omega)
  have z2 := dec_size (v : Int) (by omega) (by omega)
  have wu : IntKind.u64.wrap (u : Int) = (u : Int) := by rw [IntKind.wrap_u64]; omega
  have wv : IntKind.u64.wrap (v : Int) = (v : Int) := by rw [IntKind.wrap_u64]; omega
  have eu : (⟨(Lib.itoa (u : Int)).toArray⟩ : ByteArray) = dec (u : Int) := ito_dec (u : Int) (by omega)
  have ev : (⟨(Lib.itoa (v : Int)).toArray⟩ : ByteArray) = dec (v : Int) := ito_dec (v : Int) (by omega)
  have hB : ∀ o, Below w.heap.size w (w.alloc o) := fun o => (Below.refl _ _).alloc (Nat.le_refl _) o
  have hlt : ∀ o, w.heap.size < (w.alloc o).heap.size := fun o => by simp
  obtain ⟨W1, hW1⟩ : ∃ W1, w.alloc (.cells #[.int .i64 r, .int .i64 (u : Int), .int .i64 (v : Int)] 24) = W1 := ⟨_, rfl⟩
  have P1 : Pl W1 w.heap.size r u v := by rw [← hW1]; exact Pl.made w r u v _
  have B1 : Below w.heap.size w W1 := by rw [← hW1]; exact hB _
  obtain ⟨c0, c1, c2, c3⟩ := id P1
  replace P1 := hidS P1
  replace B1 := hidS B1
  unfold nameB
  rw [eu, ev]
  clear eu ev hn0 hi hk hi2 hk2 hB hlt
  by_cases h6 : r ≤ 6
  · rw [if_pos (nums_low r h1 h6)]
    have q1 : decide (6 < r) = false := decide_eq_false (by omega)
    have q2 : (r == 9) = false := beq_eq_false_iff_ne.2 (by omega)
    clear h1 h2 h6 D D2 z1 z2
    generalize tName r = t at *
    go_enter Tryd.func8, Tryd.ntmps8
    go_wp2_with (first | (go_at_call 27; refine (R _).mono ?_; clear R; rintro e w2 ⟨rfl, hw⟩; obtain rfl := hw.symm))
    go_ret
    exact ⟨rfl, B1.out⟩
  · have q1 : decide (6 < r) = true := decide_eq_true (by omega)
    by_cases h9 : r = 9
    · subst h9
      rw [if_neg (by decide), if_neg (by decide)]
      clear h1 h2 h6
      generalize tName 9 = t at *
      generalize dec (u : Int) = du at *
      generalize dec (v : Int) = dv at *
      go_enter Tryd.func8, Tryd.ntmps8
      go_wp2_with (first | (go_at_call 27; refine (R _).mono ?_; clear R; rintro e w2 ⟨rfl, hw⟩; obtain rfl := hw.symm) | (go_at_call 28; refine (D _).mono ?_; clear D; rintro e w3 ⟨rfl, B3⟩; clear c0 c1 c2 c3; obtain ⟨c0, c1, c2, c3⟩ := P1.out.below B3; replace B3 := hidS B3) | (go_at_call 28; refine (D2 _).mono ?_; clear D2; rintro e w4 ⟨rfl, B4⟩; replace B4 := hidS B4))
      go_ret
      exact ⟨rfl, seqB (seqB B1.out B3.out (Nat.le_refl _)) B4.out (Nat.le_refl _)⟩
    · have q2 : (r == 9) = false := beq_eq_false_iff_ne.2 h9
      have hn := nums_one r (by omega) h2 h9
      rw [if_neg (by omega), if_pos hn]
      clear h1 h2 h6 hn D2 z2 h9
      generalize tName r = t at *
      generalize dec (u : Int) = du at *
      go_enter Tryd.func8, Tryd.ntmps8
      go_wp2_with (first | (go_at_call 27; refine (R _).mono ?_; clear R; rintro e w2 ⟨rfl, hw⟩; obtain rfl := hw.symm) | (go_at_call 28; refine (D _).mono ?_; clear D; rintro e w3 ⟨rfl, B3⟩; replace B3 := hidS B3))
      go_ret
      exact ⟨rfl, seqB B1.out B3.out (Nat.le_refl _)⟩
end Go.Proofs.YtpmpdkpnjfidhaaDoor.St
