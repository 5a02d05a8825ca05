import Derived.Test.YtkimmfdicohoiaaWordFst
import Derived.Test.YtkimmfdicohoiaaWordRef
/-
  CONTRACT of the document's First.
-/
namespace Go.Proofs.Ytkimmfdicohoiaa.Wr
open Go.RowKit
open Wc Wm
set_option linter.unusedVariables false
theorem refPackHead0 (i : Int) (w : World) (h1 : -1 ≤ i) (h2 : i ≤ 2147483646) :
    Calls Try.prog 24 #[.int .u64 0, .int .i64 i] w fun e w' => e = .returned (.int .u64 (i + 1)) ∧ Below w.heap.size w w' := by
  go_enter Try.func24, Try.ntmps24
  go_wp2
  go_ret
  exact ⟨by simp, Below.refl _ _⟩
theorem refPackLinkF (i : Int) (w : World) (h1 : -1 ≤ i) (h2 : i ≤ 2147483646) :
    Calls Try.prog 25 #[.int .i64 i, .bool false] w fun e w' => e = .returned (.int .u64 (i + 1)) ∧ w' = w := by
  go_enter Try.func25, Try.ntmps25
  go_wp2
  go_ret
  exact ⟨rfl, rfl⟩
set_option maxHeartbeats 2000000 in
theorem refFirst_a (a0 a1 a2 a3 a4 a5 a6 : Int) (U n m : Nat) (w : World) (hok : Ok a1 a2 a5 a6) (hn : base a1 a2 a5 a6 14 = (n : Int)) (hm : base a1 a2 a5 a6 10 = (m : Int)) (hnm : (m : Int) + 4 * a5 ≤ n) (hm6 : 6 < m) (ha : a5 ≤ 1024) (hn6 : n ≤ 65536) (h1 : (U : Int) < a5) (hp : 0 < U) :
    Calls Try.prog 13 #[.agg #[.int .i64 a0, .int .i64 a1, .int .i64 a2, .int .i64 a3, .int .i64 a4, .int .i64 a5, .int .i64 a6], .int .i64 (U : Int)] w fun e w' =>
      ∃ b : Nat, e = .returned (.slice (some ⟨b, 0, none⟩) n n) ∧ w.heap.size ≤ b ∧ Row w' b n (memF ((U : Int) + 1) 1 1 m (U : Int) (a5 - 1)) ∧ Below w.heap.size w w' := by
  have hmk := mk_nat n (by omega)
  have e4 := base4 a1 a2 a5 a6
  have e5 := base5 a1 a2 a5 a6
  go_enter Try.func13, Try.ntmps13
  go_wp2_with fail
  refine (refSize _ _ _ _ _ _ _ _ hok).mono ?_
  rintro e w1 ⟨rfl, hb⟩
  have B := Bx.boxSeq (Bx.box0 _ _) hb
  clear hb
  have q := Bx.boxCell B
  have qq := Bx.oneAlloc B
  go_wp2_with fail
  refine (refPackHead0 _ _ (by omega) (by omega)).mono ?_
  rintro e w2 ⟨rfl, hb⟩
  have R2 := ((Row.made w1 n 54).congr (g := memF 0 0 0 m (U : Int) (U : Int)) (fun i _ => memF_zero _ _ i)).below hb
  have B2 := Bx.boxSeq (row_alloc B _) hb
  have hbl := box_le B
  clear hb q qq hmk B
  generalize w1.heap.size = b at *
  have c0 := R2.cell 0 (by omega)
  have f0 := R2.free 0 (by omega)
  have q := Bx.boxCell B2
  go_wp2_with fail
  have R3 := R2.set 0 ((U : Int) + 1) (memF ((U : Int) + 1) 0 0 m (U : Int) (U : Int)) (by omega) (fun i _ => memF_head _ _ _ _ _ _ _ i)
  have B3 := B2.setCell (p := ⟨b, 0, none⟩) hbl (.int .u64 ((U : Int) + 1))
  clear q c0 f0 R2 B2
  go_loopw [6] (fun s W => ∃ k : Nat, U ≤ k ∧ (k : Int) ≤ (a5 - 1) ∧ s = .int .i64 (k : Int) ∧ Row W b n (memF ((U : Int) + 1) 0 0 m (U : Int) (k : Int)) ∧ Below (w.heap.size + 1) (w.alloc (.cells #[.int .i64 a0, .int .i64 a1, .int .i64 a2, .int .i64 a3, .int .i64 a4, .int .i64 a5, .int .i64 a6] 23)) W) (fun s _ => (a5 - intOf s).toNat)
  case atStart => exact ⟨U, by omega, by omega, rfl, R3, B3⟩
  case round =>
    obtain ⟨k, k1, k2, rfl, R, B⟩ := hrel
    clear R3 B3
    have q := Bx.boxCell B
    by_cases hlt : (k : Int) + 1 < a5
    · go_wp2_with fail
      refine (refBase_i _ _ _ _ _ _ _ 10 _ hok (by decide) (by decide)).mono ?_
      rintro e w3 ⟨rfl, hb⟩
      replace R := R.below hb
      replace B := Bx.boxSeq B hb
      clear hb q
      have ck := R.cell (m + k) (by omega)
      have fk := R.free (m + k) (by omega)
      go_wp2_with (go_at_call 25; refine (refPackLinkF _ _ (by omega) (by omega)).mono ?_; rintro e w3 ⟨rfl, rfl⟩)
      have R' := R.set (m + k) ((k : Int) + 1 + 1) (memF ((U : Int) + 1) 0 0 m (U : Int) ((k + 1 : Nat) : Int)) (by omega) (fun i _ => spare_step _ _ _ _ _ _ hm6 k1 i)
      have B' := B.setCell (p := ⟨b, m + k, none⟩) hbl (.int .u64 ((k : Int) + 1 + 1))
      exact ⟨⟨k + 1, by omega, by omega, by go_num, R', B'⟩, by simp [intOf]; omega⟩
    · have hk : (k : Int) = a5 - 1 := by omega
      have RR : Hid (Row wr b n (memF ((U : Int) + 1) 0 0 m (U : Int) (a5 - 1))) := by rw [← hk]; exact R
      clear hk R
      have hk1 : ¬ (k : Int) + 1 < a5 := hlt
      go_wp2_with fail
      refine (refBase_i _ _ _ _ _ _ _ 4 _ hok (by decide) (by decide)).mono ?_
      rintro e w4 ⟨rfl, hb⟩
      have R4 := (Hid.out RR).below hb
      have B4 := Bx.boxSeq B hb
      clear hb q B RR
      have c3 := R4.cell 3 (by omega)
      have f3 := R4.free 3 (by omega)
      have q := Bx.boxCell B4
      go_wp2_with (go_at_call 25; refine (refPackLinkF _ _ (by omega) (by omega)).mono ?_; rintro e w4 ⟨rfl, rfl⟩)
      refine (refBase_i _ _ _ _ _ _ _ 5 _ hok (by decide) (by decide)).mono ?_
      rintro e w5 ⟨rfl, hb⟩
      have R5 := (R4.set 3 1 (memF ((U : Int) + 1) 1 0 m (U : Int) (a5 - 1)) (by omega) (fun i _ => memF_three _ _ _ _ _ _ _ i)).below hb
      have B5 := Bx.boxSeq (B4.setCell (p := ⟨b, 3, none⟩) hbl _) hb
      clear hb q c3 f3 R4 B4
      have c4 := R5.cell 4 (by omega)
      have f4 := R5.free 4 (by omega)
      go_wp2_with (go_at_call 25; refine (refPackLinkF _ _ (by omega) (by omega)).mono ?_; rintro e w5 ⟨rfl, rfl⟩)
      go_ret
      exact ⟨b, rfl, by omega, R5.set 4 1 (memF ((U : Int) + 1) 1 1 m (U : Int) (a5 - 1)) (by omega) (fun i _ => memF_four _ _ _ _ _ _ _ i), Bx.boxEnd (B5.setCell (p := ⟨b, 4, none⟩) hbl _)⟩
set_option maxHeartbeats 2000000 in
theorem refFirst_b (a0 a1 a2 a3 a4 a5 a6 : Int) (n m : Nat) (w : World) (hok : Ok a1 a2 a5 a6) (hn : base a1 a2 a5 a6 14 = (n : Int)) (hm : base a1 a2 a5 a6 10 = (m : Int)) (hnm : (m : Int) + 4 * a5 ≤ n) (hm6 : 6 < m) (ha : a5 ≤ 1024) (hn6 : n ≤ 65536) (h1 : 0 < a5) :
    Calls Try.prog 13 #[.agg #[.int .i64 a0, .int .i64 a1, .int .i64 a2, .int .i64 a3, .int .i64 a4, .int .i64 a5, .int .i64 a6], .int .i64 0] w fun e w' =>
      ∃ b : Nat, e = .returned (.slice (some ⟨b, 0, none⟩) n n) ∧ w.heap.size ≤ b ∧ Row w' b n (memF 1 0 0 m ((0 : Nat) : Int) (a5 - 1)) ∧ Below w.heap.size w w' := by
  have hmk := mk_nat n (by omega)
  have e4 := base4 a1 a2 a5 a6
  have e5 := base5 a1 a2 a5 a6
  go_enter Try.func13, Try.ntmps13
  go_wp2_with fail
  refine (refSize _ _ _ _ _ _ _ _ hok).mono ?_
  rintro e w1 ⟨rfl, hb⟩
  have B := Bx.boxSeq (Bx.box0 _ _) hb
  clear hb
  have q := Bx.boxCell B
  have qq := Bx.oneAlloc B
  go_wp2_with fail
  refine (refPackHead0 _ _ (by omega) (by omega)).mono ?_
  rintro e w2 ⟨rfl, hb⟩
  have R2 := ((Row.made w1 n 54).congr (g := memF 0 0 0 m ((0 : Nat) : Int) ((0 : Nat) : Int)) (fun i _ => memF_zero _ _ i)).below hb
  have B2 := Bx.boxSeq (row_alloc B _) hb
  have hbl := box_le B
  clear hb q qq hmk B
  generalize w1.heap.size = b at *
  have c0 := R2.cell 0 (by omega)
  have f0 := R2.free 0 (by omega)
  have q := Bx.boxCell B2
  go_wp2_with fail
  have R3 := R2.set 0 1 (memF 1 0 0 m ((0 : Nat) : Int) ((0 : Nat) : Int)) (by omega) (fun i _ => memF_head _ _ _ _ _ _ _ i)
  have B3 := B2.setCell (p := ⟨b, 0, none⟩) hbl (.int .u64 1)
  clear q c0 f0 R2 B2
  go_loopw [6] (fun s W => ∃ k : Nat, 0 ≤ k ∧ (k : Int) ≤ (a5 - 1) ∧ s = .int .i64 (k : Int) ∧ Row W b n (memF 1 0 0 m ((0 : Nat) : Int) (k : Int)) ∧ Below (w.heap.size + 1) (w.alloc (.cells #[.int .i64 a0, .int .i64 a1, .int .i64 a2, .int .i64 a3, .int .i64 a4, .int .i64 a5, .int .i64 a6] 23)) W) (fun s _ => (a5 - intOf s).toNat)
  case atStart => exact ⟨0, by omega, by omega, rfl, R3, B3⟩
  case round =>
    obtain ⟨k, k1, k2, rfl, R, B⟩ := hrel
    clear R3 B3
    have q := Bx.boxCell B
    by_cases hlt : (k : Int) + 1 < a5
    · go_wp2_with fail
      refine (refBase_i _ _ _ _ _ _ _ 10 _ hok (by decide) (by decide)).mono ?_
      rintro e w3 ⟨rfl, hb⟩
      replace R := R.below hb
      replace B := Bx.boxSeq B hb
      clear hb q
      have ck := R.cell (m + k) (by omega)
      have fk := R.free (m + k) (by omega)
      go_wp2_with (go_at_call 25; refine (refPackLinkF _ _ (by omega) (by omega)).mono ?_; rintro e w3 ⟨rfl, rfl⟩)
      have R' := R.set (m + k) ((k : Int) + 1 + 1) (memF 1 0 0 m ((0 : Nat) : Int) ((k + 1 : Nat) : Int)) (by omega) (fun i _ => spare_step _ _ _ _ _ _ hm6 k1 i)
      have B' := B.setCell (p := ⟨b, m + k, none⟩) hbl (.int .u64 ((k : Int) + 1 + 1))
      exact ⟨⟨k + 1, by omega, by omega, by go_num, R', B'⟩, by simp [intOf]; omega⟩
    · have hk : (k : Int) = a5 - 1 := by omega
      have RR : Hid (Row wr b n (memF 1 0 0 m ((0 : Nat) : Int) (a5 - 1))) := by rw [← hk]; exact R
      clear hk R
      have hk1 : ¬ (k : Int) + 1 < a5 := hlt
      go_wp2_with fail
      go_ret
      exact ⟨b, rfl, by omega, Hid.out RR, Bx.boxEnd B⟩
set_option maxHeartbeats 2000000 in
theorem refFirst_c (a0 a1 a2 a3 a4 a5 a6 : Int) (U n m : Nat) (w : World) (hok : Ok a1 a2 a5 a6) (hn : base a1 a2 a5 a6 14 = (n : Int)) (hm : base a1 a2 a5 a6 10 = (m : Int)) (hnm : (m : Int) + 4 * a5 ≤ n) (hm6 : 6 < m) (ha : a5 ≤ 1024) (hn6 : n ≤ 65536) (h1 : (U : Int) = a5) (hp : 0 < U) :
    Calls Try.prog 13 #[.agg #[.int .i64 a0, .int .i64 a1, .int .i64 a2, .int .i64 a3, .int .i64 a4, .int .i64 a5, .int .i64 a6], .int .i64 (U : Int)] w fun e w' =>
      ∃ b : Nat, e = .returned (.slice (some ⟨b, 0, none⟩) n n) ∧ w.heap.size ≤ b ∧ Row w' b n (memF 0 1 1 m (U : Int) (U : Int)) ∧ Below w.heap.size w w' := by
  have hmk := mk_nat n (by omega)
  have e4 := base4 a1 a2 a5 a6
  have e5 := base5 a1 a2 a5 a6
  have hlt : decide ((U : Int) < a5) = false := by simp; omega
  have h1a : a5 ≤ (U : Int) := by omega
  have h1b : (U : Int) ≤ a5 := by omega
  clear h1
  go_enter Try.func13, Try.ntmps13
  go_wp2_with fail
  refine (refSize _ _ _ _ _ _ _ _ hok).mono ?_
  rintro e w1 ⟨rfl, hb⟩
  have B := Bx.boxSeq (Bx.box0 _ _) hb
  clear hb
  have q := Bx.boxCell B
  have qq := Bx.oneAlloc B
  go_wp2_with fail
  have R3 := (Row.made w1 n 54).congr (g := memF 0 0 0 m (U : Int) (U : Int)) (fun i _ => memF_zero _ _ i)
  have B3 := row_alloc B (.cells (madeCells #[.int .u64 0] n) 54)
  have hbl := box_le B
  clear q qq hmk B
  generalize hbw : w1.heap.size = b at *
  go_loopw [6] (fun s W => ∃ k : Nat, U ≤ k ∧ (k : Int) ≤ (U : Int) ∧ s = .int .i64 (k : Int) ∧ Row W b n (memF 0 0 0 m (U : Int) (k : Int)) ∧ Below (w.heap.size + 1) (w.alloc (.cells #[.int .i64 a0, .int .i64 a1, .int .i64 a2, .int .i64 a3, .int .i64 a4, .int .i64 a5, .int .i64 a6] 23)) W) (fun s _ => (a5 - intOf s).toNat)
  case atStart => exact ⟨U, by omega, by omega, rfl, R3, B3⟩
  case round =>
    obtain ⟨k, k1, k2, rfl, R, B⟩ := hrel
    clear R3 B3
    have q := Bx.boxCell B
    · have hlt : ¬ (k : Int) + 1 < a5 := by omega
      have hk : (k : Int) = (U : Int) := by omega
      have RR : Hid (Row wr b n (memF 0 0 0 m (U : Int) (U : Int))) := by rw [hk] at R; exact R
      clear hk R
      go_wp2_with fail
      refine (refBase_i _ _ _ _ _ _ _ 4 _ hok (by decide) (by decide)).mono ?_
      rintro e w4 ⟨rfl, hb⟩
      have R4 := (Hid.out RR).below hb
      have B4 := Bx.boxSeq B hb
      clear hb q B RR
      have c3 := R4.cell 3 (by omega)
      have f3 := R4.free 3 (by omega)
      have q := Bx.boxCell B4
      go_wp2_with (go_at_call 25; refine (refPackLinkF _ _ (by omega) (by omega)).mono ?_; rintro e w4 ⟨rfl, rfl⟩)
      refine (refBase_i _ _ _ _ _ _ _ 5 _ hok (by decide) (by decide)).mono ?_
      rintro e w5 ⟨rfl, hb⟩
      have R5 := (R4.set 3 1 (memF 0 1 0 m (U : Int) (U : Int)) (by omega) (fun i _ => memF_three _ _ _ _ _ _ _ i)).below hb
      have B5 := Bx.boxSeq (B4.setCell (p := ⟨b, 3, none⟩) hbl _) hb
      clear hb q c3 f3 R4 B4
      have c4 := R5.cell 4 (by omega)
      have f4 := R5.free 4 (by omega)
      go_wp2_with (go_at_call 25; refine (refPackLinkF _ _ (by omega) (by omega)).mono ?_; rintro e w5 ⟨rfl, rfl⟩)
      go_ret
      exact ⟨b, rfl, by omega, R5.set 4 1 (memF 0 1 1 m (U : Int) (U : Int)) (by omega) (fun i _ => memF_four _ _ _ _ _ _ _ i), Bx.boxEnd (B5.setCell (p := ⟨b, 4, none⟩) hbl _)⟩
end Go.Proofs.Ytkimmfdicohoiaa.Wr
