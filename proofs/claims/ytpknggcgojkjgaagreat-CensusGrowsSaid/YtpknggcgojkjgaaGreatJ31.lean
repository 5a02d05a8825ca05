import Derived.Test.YtpknggcgojkjgaaGreatJ30
import Derived.Test.YtpknggcgojkjgaaGreatJ22
/-
  CONTRACTS of the document's answers on places: Many, Base, Size, Addr, At.
-/
namespace Go.Proofs.YtpknggcgojkjgaaGreat.Wm
open Go.RowKit
open Wc
set_option linter.unusedVariables false
set_option maxHeartbeats 1000000 in
theorem refMany (a0 a1 a2 a3 a4 a5 a6 r : Int) (w : World) (hok : Ok a1 a2 a5 a6) :
    Calls Tryz.prog 126 #[.agg #[.int .i64 a0, .int .i64 a1, .int .i64 a2, .int .i64 a3, .int .i64 a4, .int .i64 a5, .int .i64 a6], .int .i64 r] w fun e w' =>
      e = .returned (.int .i64 (many a1 a2 a5 a6 r)) ∧ Below w.heap.size w w' := by
  obtain ⟨o1, o2, o3, o4, o5, o6, o7, o8⟩ := hok
  by_cases h9 : r = 9
  · subst h9
    have m1 : 0 ≤ a1 * a2 := Int.mul_nonneg (by omega) (by omega)
    have m2 : a1 * a2 ≤ 16 * 8 := Int.mul_le_mul o2 o4 (by omega) (by omega)
    go_enter Tryz.func126, Tryz.ntmps126
    go_wp2
    go_ret
    exact ⟨by simp [many, items, each], (Below.refl _ _).alloc (Nat.le_refl _) _⟩
  have e9 : (r == 9) = false := by simpa using h9
  by_cases h7 : r = 7
  · subst h7
    go_enter Tryz.func126, Tryz.ntmps126
    go_wp2
    go_ret
    exact ⟨by simp [many, items, each], (Below.refl _ _).alloc (Nat.le_refl _) _⟩
  have e7 : (r == 7) = false := by simpa using h7
  by_cases h8 : r = 8
  · subst h8
    go_enter Tryz.func126, Tryz.ntmps126
    go_wp2
    go_ret
    exact ⟨by simp [many, items, each], (Below.refl _ _).alloc (Nat.le_refl _) _⟩
  have e8 : (r == 8) = false := by simpa using h8
  by_cases h10 : r = 10
  · subst h10
    go_enter Tryz.func126, Tryz.ntmps126
    go_wp2
    go_ret
    exact ⟨by simp [many, items, each], (Below.refl _ _).alloc (Nat.le_refl _) _⟩
  have e10 : (r == 10) = false := by simpa using h10
  by_cases h11 : r = 11
  · subst h11
    go_enter Tryz.func126, Tryz.ntmps126
    go_wp2
    go_ret
    exact ⟨by simp [many, items, each], (Below.refl _ _).alloc (Nat.le_refl _) _⟩
  have e11 : (r == 11) = false := by simpa using h11
  by_cases h12 : r = 12
  · subst h12
    go_enter Tryz.func126, Tryz.ntmps126
    go_wp2
    go_ret
    exact ⟨by simp [many, items, each], (Below.refl _ _).alloc (Nat.le_refl _) _⟩
  have e12 : (r == 12) = false := by simpa using h12
  by_cases h13 : r = 13
  · subst h13
    go_enter Tryz.func126, Tryz.ntmps126
    go_wp2
    go_ret
    exact ⟨by simp [many, items, each], (Below.refl _ _).alloc (Nat.le_refl _) _⟩
  have e13 : (r == 13) = false := by simpa using h13
  have hm : many a1 a2 a5 a6 r = 1 := by unfold many items each; rw [if_neg h7, if_neg h8, if_neg h9, if_neg (by omega), if_neg h9]; rfl
  rw [hm]
  clear h7 h8 h9 h10 h11 h12 h13 hm
  go_enter Tryz.func126, Tryz.ntmps126
  go_wp2
  go_ret
  exact ⟨rfl, (Below.refl _ _).alloc (Nat.le_refl _) _⟩
set_option maxHeartbeats 1000000 in
theorem refBase (a0 a1 a2 a3 a4 a5 a6 : Int) (k : Nat) (w : World) (hok : Ok a1 a2 a5 a6) (h1 : 1 ≤ k) (h2 : k ≤ 14) :
    Calls Tryz.prog 90 #[.agg #[.int .i64 a0, .int .i64 a1, .int .i64 a2, .int .i64 a3, .int .i64 a4, .int .i64 a5, .int .i64 a6], .int .i64 (k : Int)] w fun e w' =>
      e = .returned (.int .i64 (base a1 a2 a5 a6 k)) ∧ Below w.heap.size w w' := by
  go_enter Tryz.func90, Tryz.ntmps90
  go_wp2
  go_loopw [5, 6] (fun t i w' => ∃ j : Nat, 1 ≤ j ∧ j ≤ k ∧ i = .int .i64 (j : Int) ∧ t = .int .i64 (base a1 a2 a5 a6 j) ∧ Below (w.heap.size + 1) (w.alloc (.cells #[.int .i64 a0, .int .i64 a1, .int .i64 a2, .int .i64 a3, .int .i64 a4, .int .i64 a5, .int .i64 a6] 23)) w') (fun _ i _ => k - (intOf i).toNat)
  case atStart => exact ⟨1, by omega, h1, rfl, rfl, Bx.box0 _ _⟩
  case round =>
    obtain ⟨j, j1, j2, rfl, rfl, B⟩ := hrel
    have q := Bx.boxCell B
    have bb := base_bd hok j
    have mb := many_bd hok (j : Int)
    have bs : Hid (base a1 a2 a5 a6 (j + 1) = base a1 a2 a5 a6 j + many a1 a2 a5 a6 (j : Int)) := base_succ a1 a2 a5 a6 j j1
    by_cases hlt : j < k
    · go_wp2_with fail
      refine (refMany _ _ _ _ _ _ _ _ _ hok).mono ?_
      rintro e w1 ⟨rfl, hb1⟩
      have B1 := Bx.boxSeq B hb1
      clear hb1 q B
      go_wp2_with fail
      exact ⟨⟨j + 1, by omega, by omega, by go_num, by rw [bs.out], B1⟩, by simp [intOf]; omega⟩
    · have : j = k := by omega
      subst this
      go_wp2_with fail
      go_ret
      exact ⟨rfl, Bx.boxEnd B⟩
theorem refBase_i (a0 a1 a2 a3 a4 a5 a6 r : Int) (w : World) (hok : Ok a1 a2 a5 a6) (h1 : 1 ≤ r) (h2 : r ≤ 14) :
    Calls Tryz.prog 90 #[.agg #[.int .i64 a0, .int .i64 a1, .int .i64 a2, .int .i64 a3, .int .i64 a4, .int .i64 a5, .int .i64 a6], .int .i64 r] w fun e w' =>
      e = .returned (.int .i64 (base a1 a2 a5 a6 r.toNat)) ∧ Below w.heap.size w w' := by
  obtain ⟨k, rfl⟩ := Int.eq_ofNat_of_zero_le (show 0 ≤ r by omega)
  exact refBase a0 a1 a2 a3 a4 a5 a6 k w hok (by omega) (by omega)
theorem ret1 {a b : Int} (h : a = b) : Ending.returned (.int .i64 a) = .returned (.int .i64 b) := by rw [h]
theorem size_sum {a1 a2 a5 a6 : Int} (hok : Ok a1 a2 a5 a6) : IntKind.i64.wrap (base a1 a2 a5 a6 ((13 : Int).toNat) + a5) = base a1 a2 a5 a6 14 := by
  have bb := base_bd hok 13
  have e : base a1 a2 a5 a6 14 = base a1 a2 a5 a6 13 + a5 := by
    rw [base_succ _ _ _ _ 13 (by omega)]; simp [many, items, each]
  obtain ⟨o1, o2, o3, o4, o5, o6, o7, o8⟩ := hok
  show IntKind.i64.wrap (base a1 a2 a5 a6 13 + a5) = _
  rw [e, i64w _ (by omega) (by omega)]
set_option maxHeartbeats 1000000 in
theorem refSize (a0 a1 a2 a3 a4 a5 a6 : Int) (w : World) (hok : Ok a1 a2 a5 a6) :
    Calls Tryz.prog 87 #[.agg #[.int .i64 a0, .int .i64 a1, .int .i64 a2, .int .i64 a3, .int .i64 a4, .int .i64 a5, .int .i64 a6]] w fun e w' =>
      e = .returned (.int .i64 (base a1 a2 a5 a6 14)) ∧ Below w.heap.size w w' := by
  go_enter Tryz.func87, Tryz.ntmps87
  go_wp2_with fail
  go_region_held3 (fun W => W.cell? ⟨w.heap.size, 0, none⟩ = some (.int .i64 a0) ∧ W.cell? ⟨w.heap.size, 1, none⟩ = some (.int .i64 a1) ∧ W.cell? ⟨w.heap.size, 2, none⟩ = some (.int .i64 a2) ∧ W.cell? ⟨w.heap.size, 3, none⟩ = some (.int .i64 a3) ∧ W.cell? ⟨w.heap.size, 4, none⟩ = some (.int .i64 a4) ∧ W.cell? ⟨w.heap.size, 5, none⟩ = some (.int .i64 a5) ∧ W.cell? ⟨w.heap.size, 6, none⟩ = some (.int .i64 a6)) (simp [*, go_sem])
    (first
      | (go_at_call 90; refine (refBase_i _ _ _ _ _ _ _ _ _ hok (by omega) (by omega)).mono ?_; rintro e w3 ⟨rfl, hb3⟩; have B3 := Bx.boxSeq (Bx.box0 _ _).drew hb3; clear hb3; have qa := Bx.boxCell B3))
  go_wp2_with fail
  go_ret
  exact ⟨ret1 (size_sum hok), Bx.boxEnd B3⟩
end Go.Proofs.YtpknggcgojkjgaaGreat.Wm
/-
  CONTRACT of the document's First.
-/
namespace Go.Proofs.YtpknggcgojkjgaaGreat.Wr
open Go.RowKit
open Wc Wm
set_option linter.unusedVariables false
theorem refPackHead0 (i : Int) (w : World) (h1 : -1 ≤ i) (h2 : i ≤ 2147483646) :
    Calls Tryz.prog 88 #[.int .u64 0, .int .i64 i] w fun e w' => e = .returned (.int .u64 (i + 1)) ∧ Below w.heap.size w w' := by
  go_enter Tryz.func88, Tryz.ntmps88
  go_wp2
  go_ret
  exact ⟨by simp, Below.refl _ _⟩
theorem refPackLinkF (i : Int) (w : World) (h1 : -1 ≤ i) (h2 : i ≤ 2147483646) :
    Calls Tryz.prog 89 #[.int .i64 i, .bool false] w fun e w' => e = .returned (.int .u64 (i + 1)) ∧ w' = w := by
  go_enter Tryz.func89, Tryz.ntmps89
  go_wp2
  go_ret
  exact ⟨rfl, rfl⟩
set_option maxHeartbeats 2000000 in
theorem refFirst_a (a0 a1 a2 a3 a4 a5 a6 : Int) (U n m : Nat) (w : World) (hok : Ok a1 a2 a5 a6) (hn : base a1 a2 a5 a6 14 = (n : Int)) (hm : base a1 a2 a5 a6 10 = (m : Int)) (hnm : (m : Int) + 4 * a5 ≤ n) (hm6 : 6 < m) (ha : a5 ≤ 1024) (hn6 : n ≤ 65536) (h1 : (U : Int) < a5) (hp : 0 < U) :
    Calls Tryz.prog 54 #[.agg #[.int .i64 a0, .int .i64 a1, .int .i64 a2, .int .i64 a3, .int .i64 a4, .int .i64 a5, .int .i64 a6], .int .i64 (U : Int)] w fun e w' =>
      ∃ b : Nat, e = .returned (.slice (some ⟨b, 0, none⟩) n n) ∧ w.heap.size ≤ b ∧ Row w' b n (memF ((U : Int) + 1) 1 1 m (U : Int) (a5 - 1)) ∧ Below w.heap.size w w' := by
  have hmk := mk_nat n (by omega)
  have e4 := base4 a1 a2 a5 a6
  have e5 := base5 a1 a2 a5 a6
  go_enter Tryz.func54, Tryz.ntmps54
  go_wp2_with fail
  refine (refSize _ _ _ _ _ _ _ _ hok).mono ?_
  rintro e w1 ⟨rfl, hb⟩
  have B := Bx.boxSeq (Bx.box0 _ _) hb
  clear hb
  have q := Bx.boxCell B
  have qq := Bx.oneAlloc B
  go_wp2_with fail
  refine (refPackHead0 _ _ (by omega) (by omega)).mono ?_
  rintro e w2 ⟨rfl, hb⟩
  have R2 := ((Row.made w1 n 115).congr (g := memF 0 0 0 m (U : Int) (U : Int)) (fun i _ => memF_zero _ _ i)).below hb
  have B2 := Bx.boxSeq (row_alloc B _) hb
  have hbl := box_le B
  clear hb q qq hmk B
  generalize w1.heap.size = b at *
  have c0 := R2.cell 0 (by omega)
  have f0 := R2.free 0 (by omega)
  have q := Bx.boxCell B2
  go_wp2_with fail
  have R3 := R2.set 0 ((U : Int) + 1) (memF ((U : Int) + 1) 0 0 m (U : Int) (U : Int)) (by omega) (fun i _ => memF_head _ _ _ _ _ _ _ i)
  have B3 := B2.setCell (p := ⟨b, 0, none⟩) hbl (.int .u64 ((U : Int) + 1))
  clear q c0 f0 R2 B2
  go_loopw [6] (fun s W => ∃ k : Nat, U ≤ k ∧ (k : Int) ≤ (a5 - 1) ∧ s = .int .i64 (k : Int) ∧ Row W b n (memF ((U : Int) + 1) 0 0 m (U : Int) (k : Int)) ∧ Below (w.heap.size + 1) (w.alloc (.cells #[.int .i64 a0, .int .i64 a1, .int .i64 a2, .int .i64 a3, .int .i64 a4, .int .i64 a5, .int .i64 a6] 23)) W) (fun s _ => (a5 - intOf s).toNat)
  case atStart => exact ⟨U, by omega, by omega, rfl, R3, B3⟩
  case round =>
    obtain ⟨k, k1, k2, rfl, R, B⟩ := hrel
    clear R3 B3
    have q := Bx.boxCell B
    by_cases hlt : (k : Int) + 1 < a5
    · go_wp2_with fail
      refine (refBase_i _ _ _ _ _ _ _ 10 _ hok (by decide) (by decide)).mono ?_
      rintro e w3 ⟨rfl, hb⟩
      replace R := R.below hb
      replace B := Bx.boxSeq B hb
      clear hb q
      have ck := R.cell (m + k) (by omega)
      have fk := R.free (m + k) (by omega)
      go_wp2_with (go_at_call 89; refine (refPackLinkF _ _ (by omega) (by omega)).mono ?_; rintro e w3 ⟨rfl, rfl⟩)
      have R' := R.set (m + k) ((k : Int) + 1 + 1) (memF ((U : Int) + 1) 0 0 m (U : Int) ((k + 1 : Nat) : Int)) (by omega) (fun i _ => spare_step _ _ _ _ _ _ hm6 k1 i)
      have B' := B.setCell (p := ⟨b, m + k, none⟩) hbl (.int .u64 ((k : Int) + 1 + 1))
      exact ⟨⟨k + 1, by omega, by omega, by go_num, R', B'⟩, by simp [intOf]; omega⟩
    · have hk : (k : Int) = a5 - 1 := by omega
      have RR : Hid (Row wr b n (memF ((U : Int) + 1) 0 0 m (U : Int) (a5 - 1))) := by rw [← hk]; exact R
      clear hk R
      have hk1 : ¬ (k : Int) + 1 < a5 := hlt
      go_wp2_with fail
      refine (refBase_i _ _ _ _ _ _ _ 4 _ hok (by decide) (by decide)).mono ?_
      rintro e w4 ⟨rfl, hb⟩
      have R4 := (Hid.out RR).below hb
      have B4 := Bx.boxSeq B hb
      clear hb q B RR
      have c3 := R4.cell 3 (by omega)
      have f3 := R4.free 3 (by omega)
      have q := Bx.boxCell B4
      go_wp2_with (go_at_call 89; refine (refPackLinkF _ _ (by omega) (by omega)).mono ?_; rintro e w4 ⟨rfl, rfl⟩)
      refine (refBase_i _ _ _ _ _ _ _ 5 _ hok (by decide) (by decide)).mono ?_
      rintro e w5 ⟨rfl, hb⟩
      have R5 := (R4.set 3 1 (memF ((U : Int) + 1) 1 0 m (U : Int) (a5 - 1)) (by omega) (fun i _ => memF_three _ _ _ _ _ _ _ i)).below hb
      have B5 := Bx.boxSeq (B4.setCell (p := ⟨b, 3, none⟩) hbl _) hb
      clear hb q c3 f3 R4 B4
      have c4 := R5.cell 4 (by omega)
      have f4 := R5.free 4 (by omega)
      go_wp2_with (go_at_call 89; refine (refPackLinkF _ _ (by omega) (by omega)).mono ?_; rintro e w5 ⟨rfl, rfl⟩)
      go_ret
      exact ⟨b, rfl, by omega, R5.set 4 1 (memF ((U : Int) + 1) 1 1 m (U : Int) (a5 - 1)) (by omega) (fun i _ => memF_four _ _ _ _ _ _ _ i), Bx.boxEnd (B5.setCell (p := ⟨b, 4, none⟩) hbl _)⟩
set_option maxHeartbeats 2000000 in
theorem refFirst_b (a0 a1 a2 a3 a4 a5 a6 : Int) (n m : Nat) (w : World) (hok : Ok a1 a2 a5 a6) (hn : base a1 a2 a5 a6 14 = (n : Int)) (hm : base a1 a2 a5 a6 10 = (m : Int)) (hnm : (m : Int) + 4 * a5 ≤ n) (hm6 : 6 < m) (ha : a5 ≤ 1024) (hn6 : n ≤ 65536) (h1 : 0 < a5) :
    Calls Tryz.prog 54 #[.agg #[.int .i64 a0, .int .i64 a1, .int .i64 a2, .int .i64 a3, .int .i64 a4, .int .i64 a5, .int .i64 a6], .int .i64 0] w fun e w' =>
      ∃ b : Nat, e = .returned (.slice (some ⟨b, 0, none⟩) n n) ∧ w.heap.size ≤ b ∧ Row w' b n (memF 1 0 0 m ((0 : Nat) : Int) (a5 - 1)) ∧ Below w.heap.size w w' := by
  have hmk := mk_nat n (by omega)
  have e4 := base4 a1 a2 a5 a6
  have e5 := base5 a1 a2 a5 a6
  go_enter Tryz.func54, Tryz.ntmps54
  go_wp2_with fail
  refine (refSize _ _ _ _ _ _ _ _ hok).mono ?_
  rintro e w1 ⟨rfl, hb⟩
  have B := Bx.boxSeq (Bx.box0 _ _) hb
  clear hb
  have q := Bx.boxCell B
  have qq := Bx.oneAlloc B
  go_wp2_with fail
  refine (refPackHead0 _ _ (by omega) (by omega)).mono ?_
  rintro e w2 ⟨rfl, hb⟩
  have R2 := ((Row.made w1 n 115).congr (g := memF 0 0 0 m ((0 : Nat) : Int) ((0 : Nat) : Int)) (fun i _ => memF_zero _ _ i)).below hb
  have B2 := Bx.boxSeq (row_alloc B _) hb
  have hbl := box_le B
  clear hb q qq hmk B
  generalize w1.heap.size = b at *
  have c0 := R2.cell 0 (by omega)
  have f0 := R2.free 0 (by omega)
  have q := Bx.boxCell B2
  go_wp2_with fail
  have R3 := R2.set 0 1 (memF 1 0 0 m ((0 : Nat) : Int) ((0 : Nat) : Int)) (by omega) (fun i _ => memF_head _ _ _ _ _ _ _ i)
  have B3 := B2.setCell (p := ⟨b, 0, none⟩) hbl (.int .u64 1)
  clear q c0 f0 R2 B2
  go_loopw [6] (fun s W => ∃ k : Nat, 0 ≤ k ∧ (k : Int) ≤ (a5 - 1) ∧ s = .int .i64 (k : Int) ∧ Row W b n (memF 1 0 0 m ((0 : Nat) : Int) (k : Int)) ∧ Below (w.heap.size + 1) (w.alloc (.cells #[.int .i64 a0, .int .i64 a1, .int .i64 a2, .int .i64 a3, .int .i64 a4, .int .i64 a5, .int .i64 a6] 23)) W) (fun s _ => (a5 - intOf s).toNat)
  case atStart => exact ⟨0, by omega, by omega, rfl, R3, B3⟩
  case round =>
    obtain ⟨k, k1, k2, rfl, R, B⟩ := hrel
    clear R3 B3
    have q := Bx.boxCell B
    by_cases hlt : (k : Int) + 1 < a5
    · go_wp2_with fail
      refine (refBase_i _ _ _ _ _ _ _ 10 _ hok (by decide) (by decide)).mono ?_
      rintro e w3 ⟨rfl, hb⟩
      replace R := R.below hb
      replace B := Bx.boxSeq B hb
      clear hb q
      have ck := R.cell (m + k) (by omega)
      have fk := R.free (m + k) (by omega)
      go_wp2_with (go_at_call 89; refine (refPackLinkF _ _ (by omega) (by omega)).mono ?_; rintro e w3 ⟨rfl, rfl⟩)
      have R' := R.set (m + k) ((k : Int) + 1 + 1) (memF 1 0 0 m ((0 : Nat) : Int) ((k + 1 : Nat) : Int)) (by omega) (fun i _ => spare_step _ _ _ _ _ _ hm6 k1 i)
      have B' := B.setCell (p := ⟨b, m + k, none⟩) hbl (.int .u64 ((k : Int) + 1 + 1))
      exact ⟨⟨k + 1, by omega, by omega, by go_num, R', B'⟩, by simp [intOf]; omega⟩
    · have hk : (k : Int) = a5 - 1 := by omega
      have RR : Hid (Row wr b n (memF 1 0 0 m ((0 : Nat) : Int) (a5 - 1))) := by rw [← hk]; exact R
      clear hk R
      have hk1 : ¬ (k : Int) + 1 < a5 := hlt
      go_wp2_with fail
      go_ret
      exact ⟨b, rfl, by omega, Hid.out RR, Bx.boxEnd B⟩
set_option maxHeartbeats 2000000 in
theorem refFirst_c (a0 a1 a2 a3 a4 a5 a6 : Int) (U n m : Nat) (w : World) (hok : Ok a1 a2 a5 a6) (hn : base a1 a2 a5 a6 14 = (n : Int)) (hm : base a1 a2 a5 a6 10 = (m : Int)) (hnm : (m : Int) + 4 * a5 ≤ n) (hm6 : 6 < m) (ha : a5 ≤ 1024) (hn6 : n ≤ 65536) (h1 : (U : Int) = a5) (hp : 0 < U) :
    Calls Tryz.prog 54 #[.agg #[.int .i64 a0, .int .i64 a1, .int .i64 a2, .int .i64 a3, .int .i64 a4, .int .i64 a5, .int .i64 a6], .int .i64 (U : Int)] w fun e w' =>
      ∃ b : Nat, e = .returned (.slice (some ⟨b, 0, none⟩) n n) ∧ w.heap.size ≤ b ∧ Row w' b n (memF 0 1 1 m (U : Int) (U : Int)) ∧ Below w.heap.size w w' := by
  have hmk := mk_nat n (by omega)
  have e4 := base4 a1 a2 a5 a6
  have e5 := base5 a1 a2 a5 a6
  have hlt : decide ((U : Int) < a5) = false := by simp; omega
  have h1a : a5 ≤ (U : Int) := by omega
  have h1b : (U : Int) ≤ a5 := by omega
  clear h1
  go_enter Tryz.func54, Tryz.ntmps54
  go_wp2_with fail
  refine (refSize _ _ _ _ _ _ _ _ hok).mono ?_
  rintro e w1 ⟨rfl, hb⟩
  have B := Bx.boxSeq (Bx.box0 _ _) hb
  clear hb
  have q := Bx.boxCell B
  have qq := Bx.oneAlloc B
  go_wp2_with fail
  have R3 := (Row.made w1 n 115).congr (g := memF 0 0 0 m (U : Int) (U : Int)) (fun i _ => memF_zero _ _ i)
  have B3 := row_alloc B (.cells (madeCells #[.int .u64 0] n) 115)
  have hbl := box_le B
  clear q qq hmk B
  generalize hbw : w1.heap.size = b at *
  go_loopw [6] (fun s W => ∃ k : Nat, U ≤ k ∧ (k : Int) ≤ (U : Int) ∧ s = .int .i64 (k : Int) ∧ Row W b n (memF 0 0 0 m (U : Int) (k : Int)) ∧ Below (w.heap.size + 1) (w.alloc (.cells #[.int .i64 a0, .int .i64 a1, .int .i64 a2, .int .i64 a3, .int .i64 a4, .int .i64 a5, .int .i64 a6] 23)) W) (fun s _ => (a5 - intOf s).toNat)
  case atStart => exact ⟨U, by omega, by omega, rfl, R3, B3⟩
  case round =>
    obtain ⟨k, k1, k2, rfl, R, B⟩ := hrel
    clear R3 B3
    have q := Bx.boxCell B
    · have hlt : ¬ (k : Int) + 1 < a5 := by omega
      have hk : (k : Int) = (U : Int) := by omega
      have RR : Hid (Row wr b n (memF 0 0 0 m (U : Int) (U : Int))) := by rw [hk] at R; exact R
      clear hk R
      go_wp2_with fail
      refine (refBase_i _ _ _ _ _ _ _ 4 _ hok (by decide) (by decide)).mono ?_
      rintro e w4 ⟨rfl, hb⟩
      have R4 := (Hid.out RR).below hb
      have B4 := Bx.boxSeq B hb
      clear hb q B RR
      have c3 := R4.cell 3 (by omega)
      have f3 := R4.free 3 (by omega)
      have q := Bx.boxCell B4
      go_wp2_with (go_at_call 89; refine (refPackLinkF _ _ (by omega) (by omega)).mono ?_; rintro e w4 ⟨rfl, rfl⟩)
      refine (refBase_i _ _ _ _ _ _ _ 5 _ hok (by decide) (by decide)).mono ?_
      rintro e w5 ⟨rfl, hb⟩
      have R5 := (R4.set 3 1 (memF 0 1 0 m (U : Int) (U : Int)) (by omega) (fun i _ => memF_three _ _ _ _ _ _ _ i)).below hb
      have B5 := Bx.boxSeq (B4.setCell (p := ⟨b, 3, none⟩) hbl _) hb
      clear hb q c3 f3 R4 B4
      have c4 := R5.cell 4 (by omega)
      have f4 := R5.free 4 (by omega)
      go_wp2_with (go_at_call 89; refine (refPackLinkF _ _ (by omega) (by omega)).mono ?_; rintro e w5 ⟨rfl, rfl⟩)
      go_ret
      exact ⟨b, rfl, by omega, R5.set 4 1 (memF 0 1 1 m (U : Int) (U : Int)) (by omega) (fun i _ => memF_four _ _ _ _ _ _ _ i), Bx.boxEnd (B5.setCell (p := ⟨b, 4, none⟩) hbl _)⟩
end Go.Proofs.YtpknggcgojkjgaaGreat.Wr
