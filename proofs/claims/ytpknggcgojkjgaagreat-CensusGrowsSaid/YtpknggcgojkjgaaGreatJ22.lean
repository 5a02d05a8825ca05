import Derived.Test.YtpknggcgojkjgaaGreatJ02
import Derived.Test.YtpknggcgojkjgaaGreatJ20
import Derived.Test.YtpknggcgojkjgaaGreatJ21
import Derived.OwnWalk
/-
  MORE SMALL LAWS on worlds behind calls that only make memory.
-/
namespace Go.Proofs.YtpknggcgojkjgaaGreat.Bx
open Go.RowKit
theorem oneAlloc {w w1 : World} {o : Obj} (B : Below (w.heap.size + 1) (w.alloc o) w1) : ∀ q k, (w1.alloc q).cell? ⟨w.heap.size, k, none⟩ = (w.alloc o).cell? ⟨w.heap.size, k, none⟩ := by
  intro q k
  have hs := B.size
  simp at hs
  exact ((B.alloc (by omega) q)).cell (by simp)
end Go.Proofs.YtpknggcgojkjgaaGreat.Bx
/-
  CONTRACT of First.
-/
namespace Go.Proofs.YtpknggcgojkjgaaGreat.Wr
open Go.RowKit
open Wc Wm
set_option linter.unusedVariables false
theorem info_u64 : (Tryz.prog.info? 115).map (fun i => (i.zero, i.size, i.bytes)) = some (some (.int .u64 0), 1, 8) := by kernel_rfl
/-- make([]uint64, n), n known to be small. -/
theorem mk_words (n : Int) (h0 : 0 ≤ n) (h1 : n ≤ 65536) (W : World) :
    (Instr.makeSlice 34 (.int .i64 n) (.int .i64 n)).run Tryz.prog W = .ok (.slice (some ⟨W.heap.size, 0, none⟩) n.toNat n.toNat) (W.alloc (.cells (madeCells #[.int .u64 0] n.toNat) 115)) := by
  obtain ⟨i0, hi, hz0, hz1, hz2⟩ := info_parts info_u64
  have h := run_make (P := Tryz.prog) W 34 115 i0 (.int .u64 0) Tryz.underlying34 hi hz0 .i64 .i64 n n h0 (Int.le_refl _) (by rw [hz2]; omega) (by omega)
  rw [hz1, Nat.mul_one] at h
  exact h
theorem slotWord_any (i : Int) (w : World) (h1 : -1 ≤ i) (h2 : i ≤ 9223372036854775806) :
    Calls Tryz.prog 111 #[.int .i64 i] w fun e w' => e = .returned (.int .u64 (i + 1)) ∧ w' = w := by
  go_enter Tryz.func111, Tryz.ntmps111
  go_wp2
  go_ret
  exact ⟨rfl, rfl⟩
theorem used_in {u a5 : Int} (h0 : 0 ≤ u) (h1 : u ≤ a5) : inB u 0 a5 = true := by simp [inB, h0, h1]
theorem used_out {u a5 : Int} (h : u < 0 ∨ a5 < u) : inB u 0 a5 = false := by rcases h with h | h <;> simp [inB] <;> omega
theorem first_cfg (a0 a1 a2 a3 a4 a5 a6 u : Int) (w : World) (hc : cfgB a0 a1 a2 a3 a4 a5 a6 = false) :
    Calls Tryz.prog 76 #[.agg #[.int .i64 a0, .int .i64 a1, .int .i64 a2, .int .i64 a3, .int .i64 a4, .int .i64 a5, .int .i64 a6], .int .i64 u] w fun e w' =>
      e = .returned (.tuple #[.slice none 0 0, .int .i64 1]) ∧ Below w.heap.size w w' := by
  go_enter Tryz.func76, Tryz.ntmps76
  go_wp2_with fail
  refine (size_bad _ _ _ _ _ _ _ _ hc).mono ?_
  rintro e w1 ⟨rfl, hb⟩
  have B := Bx.boxSeq (Bx.box0 _ _) hb
  clear hb
  go_wp2_with fail
  go_ret2
  exact ⟨rfl, Bx.boxEnd B⟩
theorem first_used (a0 a1 a2 a3 a4 a5 a6 u : Int) (w : World) (hc : cfgB a0 a1 a2 a3 a4 a5 a6 = true) (h : u < 0 ∨ a5 < u) :
    Calls Tryz.prog 76 #[.agg #[.int .i64 a0, .int .i64 a1, .int .i64 a2, .int .i64 a3, .int .i64 a4, .int .i64 a5, .int .i64 a6], .int .i64 u] w fun e w' =>
      e = .returned (.tuple #[.slice none 0 0, .int .i64 2]) ∧ Below w.heap.size w w' := by
  have hu := used_out h
  go_enter Tryz.func76, Tryz.ntmps76
  go_wp2_with fail
  refine (size_ok _ _ _ _ _ _ _ _ hc).mono ?_
  rintro e w1 ⟨rfl, hb⟩
  have B := Bx.boxSeq (Bx.box0 _ _) hb
  clear hb
  have q := Bx.boxCell B
  go_wp2_with (go_at_call 109; refine (within_any _ _ _ _).mono ?_; rintro e w' ⟨rfl, rfl⟩)
  go_ret2
  exact ⟨rfl, Bx.boxEnd B⟩
/-- make([]uint64, n), n a natural number. -/
theorem mk_nat (n : Nat) (h1 : n ≤ 65536) (W : World) :
    (Instr.makeSlice 34 (.int .i64 (n : Int)) (.int .i64 (n : Int))).run Tryz.prog W = .ok (.slice (some ⟨W.heap.size, 0, none⟩) n n) (W.alloc (.cells (madeCells #[.int .u64 0] n) 115)) := by
  have h := mk_words (n : Int) (by omega) (by omega) W
  rwa [Int.toNat_natCast] at h
theorem box_le {w w1 : World} {o : Obj} (B : Below (w.heap.size + 1) (w.alloc o) w1) : w.heap.size + 1 ≤ w1.heap.size := by have := B.size; simpa using this
theorem row_alloc {w w1 : World} {o : Obj} (B : Below (w.heap.size + 1) (w.alloc o) w1) (q : Obj) : Below (w.heap.size + 1) (w.alloc o) (w1.alloc q) := B.alloc (box_le B) q
theorem spare_step (hd : Int) (m U k : Nat) (t3 t4 : Int) (hm : 6 < m) (hk : U ≤ k) (i : Nat) : memF hd t3 t4 m U ((k + 1 : Nat) : Int) i = if i = m + k then (k : Int) + 1 + 1 else memF hd t3 t4 m U k i := by
  have h := memF_spare hd m U k t3 t4 (by omega) (by omega) (by omega) i
  rw [show ((m : Int) + (k : Int)).toNat = m + k from by omega] at h
  rw [show ((k + 1 : Nat) : Int) = (k : Int) + 1 from by omega, h, show (k : Int) + 2 = (k : Int) + 1 + 1 from by omega]
set_option maxHeartbeats 2000000 in
theorem first_a (a0 a1 a2 a3 a4 a5 a6 : Int) (U n m : Nat) (w : World) (hc : cfgB a0 a1 a2 a3 a4 a5 a6 = true) (hn : base a1 a2 a5 a6 14 = (n : Int)) (hm : base a1 a2 a5 a6 10 = (m : Int)) (hnm : (m : Int) + 4 * a5 ≤ n) (hm6 : 6 < m) (ha : a5 ≤ 1024) (hn6 : n ≤ 65536) (h1 : (U : Int) < a5) (hp : 0 < U) :
    Calls Tryz.prog 76 #[.agg #[.int .i64 a0, .int .i64 a1, .int .i64 a2, .int .i64 a3, .int .i64 a4, .int .i64 a5, .int .i64 a6], .int .i64 (U : Int)] w fun e w' =>
      ∃ b : Nat, e = .returned (.tuple #[.slice (some ⟨b, 0, none⟩) n n, .int .i64 0]) ∧ w.heap.size ≤ b ∧ Row w' b n (memF ((U : Int) + 1) 1 1 m (U : Int) (a5 - 1)) ∧ Below w.heap.size w w' := by
  have hok := ok_of hc
  have hu := used_in (u := (U : Int)) (a5 := a5) (by omega) (by omega)
  have hmk := mk_nat n (by omega)
  have e1 := base1 a1 a2 a5 a6
  have e4 := base4 a1 a2 a5 a6
  have e5 := base5 a1 a2 a5 a6
  go_enter Tryz.func76, Tryz.ntmps76
  go_wp2_with fail
  refine (size_ok _ _ _ _ _ _ _ _ hc).mono ?_
  rintro e w1 ⟨rfl, hb⟩
  have B := Bx.boxSeq (Bx.box0 _ _) hb
  clear hb
  have q := Bx.boxCell B
  have qq := Bx.oneAlloc B
  go_wp2_with (go_at_call 109; refine (within_any _ _ _ _).mono ?_; rintro e w1 ⟨rfl, rfl⟩)
  refine (start_i _ _ _ _ _ _ _ 1 _ hok (by decide) (by decide)).mono ?_
  rintro e w2 ⟨rfl, hb⟩
  have R2 := ((Row.made w1 n 115).congr (g := memF 0 0 0 m (U : Int) (U : Int)) (fun i _ => memF_zero _ _ i)).below hb
  have B2 := Bx.boxSeq (row_alloc B _) hb
  have hbl := box_le B
  clear hb q qq hmk B
  generalize w1.heap.size = b at *
  have c0 := R2.cell 0 (by omega)
  have f0 := R2.free 0 (by omega)
  have q := Bx.boxCell B2
  go_wp2_with (go_at_call 111; refine (slotWord_any _ _ (by omega) (by omega)).mono ?_; rintro e w2 ⟨rfl, rfl⟩)
  refine (start_i _ _ _ _ _ _ _ 10 _ hok (by decide) (by decide)).mono ?_
  rintro e w3 ⟨rfl, hb⟩
  have R3 := (R2.set 0 ((U : Int) + 1) (memF ((U : Int) + 1) 0 0 m (U : Int) (U : Int)) (by omega) (fun i _ => memF_head _ _ _ _ _ _ _ i)).below hb
  have B3 := Bx.boxSeq (B2.setCell (p := ⟨b, 0, none⟩) hbl _) hb
  clear hb q c0 f0 R2 B2
  go_wp2_with fail
  go_loopw [10] (fun s W => ∃ k : Nat, U ≤ k ∧ (k : Int) ≤ (a5 - 1) ∧ s = .int .i64 (k : Int) ∧ Row W b n (memF ((U : Int) + 1) 0 0 m (U : Int) (k : Int)) ∧ Below (w.heap.size + 1) (w.alloc (.cells #[.int .i64 a0, .int .i64 a1, .int .i64 a2, .int .i64 a3, .int .i64 a4, .int .i64 a5, .int .i64 a6] 23)) W) (fun s _ => (a5 - intOf s).toNat)
  case atStart => exact ⟨U, by omega, by omega, rfl, R3, B3⟩
  case round =>
    obtain ⟨k, k1, k2, rfl, R, B⟩ := hrel
    clear R3 B3
    have q := Bx.boxCell B
    by_cases hlt : (k : Int) < a5 - 1
    · have ck := R.cell (m + k) (by omega)
      have fk := R.free (m + k) (by omega)
      go_wp2_with (go_at_call 111; refine (slotWord_any _ _ (by omega) (by omega)).mono ?_; rintro e wr ⟨rfl, rfl⟩)
      have R' := R.set (m + k) ((k : Int) + 1 + 1) (memF ((U : Int) + 1) 0 0 m (U : Int) ((k + 1 : Nat) : Int)) (by omega) (fun i _ => spare_step _ _ _ _ _ _ hm6 k1 i)
      have B' := B.setCell (p := ⟨b, m + k, none⟩) hbl (.int .u64 ((k : Int) + 1 + 1))
      exact ⟨⟨k + 1, by omega, by omega, by go_num, R', B'⟩, by simp [intOf]; omega⟩
    · have hk : (k : Int) = a5 - 1 := by omega
      have RR : Hid (Row wr b n (memF ((U : Int) + 1) 0 0 m (U : Int) (a5 - 1))) := by rw [← hk]; exact R
      clear hk R
      have hk1 : ¬ (k : Int) < a5 - 1 := hlt
      go_wp2_with fail
      refine (start_i _ _ _ _ _ _ _ 4 _ hok (by decide) (by decide)).mono ?_
      rintro e w4 ⟨rfl, hb⟩
      have R4 := (Hid.out RR).below hb
      have B4 := Bx.boxSeq B hb
      clear hb q B RR
      have c3 := R4.cell 3 (by omega)
      have f3 := R4.free 3 (by omega)
      have q := Bx.boxCell B4
      go_wp2_with (go_at_call 111; refine (slotWord_any _ _ (by omega) (by omega)).mono ?_; rintro e w4 ⟨rfl, rfl⟩)
      refine (start_i _ _ _ _ _ _ _ 5 _ hok (by decide) (by decide)).mono ?_
      rintro e w5 ⟨rfl, hb⟩
      have R5 := (R4.set 3 1 (memF ((U : Int) + 1) 1 0 m (U : Int) (a5 - 1)) (by omega) (fun i _ => memF_three _ _ _ _ _ _ _ i)).below hb
      have B5 := Bx.boxSeq (B4.setCell (p := ⟨b, 3, none⟩) hbl _) hb
      clear hb q c3 f3 R4 B4
      have c4 := R5.cell 4 (by omega)
      have f4 := R5.free 4 (by omega)
      go_wp2_with (go_at_call 111; refine (slotWord_any _ _ (by omega) (by omega)).mono ?_; rintro e w5 ⟨rfl, rfl⟩)
      go_ret2
      exact ⟨b, rfl, by omega, R5.set 4 1 (memF ((U : Int) + 1) 1 1 m (U : Int) (a5 - 1)) (by omega) (fun i _ => memF_four _ _ _ _ _ _ _ i), Bx.boxEnd (B5.setCell (p := ⟨b, 4, none⟩) hbl _)⟩
set_option maxHeartbeats 2000000 in
theorem first_b (a0 a1 a2 a3 a4 a5 a6 : Int) (n m : Nat) (w : World) (hc : cfgB a0 a1 a2 a3 a4 a5 a6 = true) (hn : base a1 a2 a5 a6 14 = (n : Int)) (hm : base a1 a2 a5 a6 10 = (m : Int)) (hnm : (m : Int) + 4 * a5 ≤ n) (hm6 : 6 < m) (ha : a5 ≤ 1024) (hn6 : n ≤ 65536) (h1 : 0 < a5) :
    Calls Tryz.prog 76 #[.agg #[.int .i64 a0, .int .i64 a1, .int .i64 a2, .int .i64 a3, .int .i64 a4, .int .i64 a5, .int .i64 a6], .int .i64 0] w fun e w' =>
      ∃ b : Nat, e = .returned (.tuple #[.slice (some ⟨b, 0, none⟩) n n, .int .i64 0]) ∧ w.heap.size ≤ b ∧ Row w' b n (memF 1 0 0 m ((0 : Nat) : Int) (a5 - 1)) ∧ Below w.heap.size w w' := by
  have hok := ok_of hc
  have hu := used_in (u := 0) (a5 := a5) (by omega) (by omega)
  have hmk := mk_nat n (by omega)
  have e1 := base1 a1 a2 a5 a6
  have e4 := base4 a1 a2 a5 a6
  have e5 := base5 a1 a2 a5 a6
  go_enter Tryz.func76, Tryz.ntmps76
  go_wp2_with fail
  refine (size_ok _ _ _ _ _ _ _ _ hc).mono ?_
  rintro e w1 ⟨rfl, hb⟩
  have B := Bx.boxSeq (Bx.box0 _ _) hb
  clear hb
  have q := Bx.boxCell B
  have qq := Bx.oneAlloc B
  go_wp2_with (go_at_call 109; refine (within_any _ _ _ _).mono ?_; rintro e w1 ⟨rfl, rfl⟩)
  refine (start_i _ _ _ _ _ _ _ 1 _ hok (by decide) (by decide)).mono ?_
  rintro e w2 ⟨rfl, hb⟩
  have R2 := ((Row.made w1 n 115).congr (g := memF 0 0 0 m ((0 : Nat) : Int) ((0 : Nat) : Int)) (fun i _ => memF_zero _ _ i)).below hb
  have B2 := Bx.boxSeq (row_alloc B _) hb
  have hbl := box_le B
  clear hb q qq hmk B
  generalize w1.heap.size = b at *
  have c0 := R2.cell 0 (by omega)
  have f0 := R2.free 0 (by omega)
  have q := Bx.boxCell B2
  go_wp2_with (go_at_call 111; refine (slotWord_any _ _ (by omega) (by omega)).mono ?_; rintro e w2 ⟨rfl, rfl⟩)
  refine (start_i _ _ _ _ _ _ _ 10 _ hok (by decide) (by decide)).mono ?_
  rintro e w3 ⟨rfl, hb⟩
  have R3 := (R2.set 0 1 (memF 1 0 0 m ((0 : Nat) : Int) ((0 : Nat) : Int)) (by omega) (fun i _ => memF_head _ _ _ _ _ _ _ i)).below hb
  have B3 := Bx.boxSeq (B2.setCell (p := ⟨b, 0, none⟩) hbl _) hb
  clear hb q c0 f0 R2 B2
  go_wp2_with fail
  go_loopw [10] (fun s W => ∃ k : Nat, 0 ≤ k ∧ (k : Int) ≤ (a5 - 1) ∧ s = .int .i64 (k : Int) ∧ Row W b n (memF 1 0 0 m ((0 : Nat) : Int) (k : Int)) ∧ Below (w.heap.size + 1) (w.alloc (.cells #[.int .i64 a0, .int .i64 a1, .int .i64 a2, .int .i64 a3, .int .i64 a4, .int .i64 a5, .int .i64 a6] 23)) W) (fun s _ => (a5 - intOf s).toNat)
  case atStart => exact ⟨0, by omega, by omega, rfl, R3, B3⟩
  case round =>
    obtain ⟨k, k1, k2, rfl, R, B⟩ := hrel
    clear R3 B3
    have q := Bx.boxCell B
    by_cases hlt : (k : Int) < a5 - 1
    · have ck := R.cell (m + k) (by omega)
      have fk := R.free (m + k) (by omega)
      go_wp2_with (go_at_call 111; refine (slotWord_any _ _ (by omega) (by omega)).mono ?_; rintro e wr ⟨rfl, rfl⟩)
      have R' := R.set (m + k) ((k : Int) + 1 + 1) (memF 1 0 0 m ((0 : Nat) : Int) ((k + 1 : Nat) : Int)) (by omega) (fun i _ => spare_step _ _ _ _ _ _ hm6 k1 i)
      have B' := B.setCell (p := ⟨b, m + k, none⟩) hbl (.int .u64 ((k : Int) + 1 + 1))
      exact ⟨⟨k + 1, by omega, by omega, by go_num, R', B'⟩, by simp [intOf]; omega⟩
    · have hk : (k : Int) = a5 - 1 := by omega
      have RR : Hid (Row wr b n (memF 1 0 0 m ((0 : Nat) : Int) (a5 - 1))) := by rw [← hk]; exact R
      clear hk R
      have hk1 : ¬ (k : Int) < a5 - 1 := hlt
      go_wp2_with fail
      go_ret2
      exact ⟨b, rfl, by omega, Hid.out RR, Bx.boxEnd B⟩
set_option maxHeartbeats 2000000 in
theorem first_c (a0 a1 a2 a3 a4 a5 a6 : Int) (U n m : Nat) (w : World) (hc : cfgB a0 a1 a2 a3 a4 a5 a6 = true) (hn : base a1 a2 a5 a6 14 = (n : Int)) (hm : base a1 a2 a5 a6 10 = (m : Int)) (hnm : (m : Int) + 4 * a5 ≤ n) (hm6 : 6 < m) (ha : a5 ≤ 1024) (hn6 : n ≤ 65536) (h1 : (U : Int) = a5) (hp : 0 < U) :
    Calls Tryz.prog 76 #[.agg #[.int .i64 a0, .int .i64 a1, .int .i64 a2, .int .i64 a3, .int .i64 a4, .int .i64 a5, .int .i64 a6], .int .i64 (U : Int)] w fun e w' =>
      ∃ b : Nat, e = .returned (.tuple #[.slice (some ⟨b, 0, none⟩) n n, .int .i64 0]) ∧ w.heap.size ≤ b ∧ Row w' b n (memF 0 1 1 m (U : Int) (U : Int)) ∧ Below w.heap.size w w' := by
  have hok := ok_of hc
  have hu := used_in (u := (U : Int)) (a5 := a5) (by omega) (by omega)
  have hmk := mk_nat n (by omega)
  have e1 := base1 a1 a2 a5 a6
  have e4 := base4 a1 a2 a5 a6
  have e5 := base5 a1 a2 a5 a6
  have hlt : decide ((U : Int) < a5) = false := by simp; omega
  have h1a : a5 ≤ (U : Int) := by omega
  have h1b : (U : Int) ≤ a5 := by omega
  clear h1
  go_enter Tryz.func76, Tryz.ntmps76
  go_wp2_with fail
  refine (size_ok _ _ _ _ _ _ _ _ hc).mono ?_
  rintro e w1 ⟨rfl, hb⟩
  have B := Bx.boxSeq (Bx.box0 _ _) hb
  clear hb
  have q := Bx.boxCell B
  have qq := Bx.oneAlloc B
  go_wp2_with (go_at_call 109; refine (within_any _ _ _ _).mono ?_; rintro e w1 ⟨rfl, rfl⟩)
  refine (start_i _ _ _ _ _ _ _ 10 _ hok (by decide) (by decide)).mono ?_
  rintro e w3 ⟨rfl, hb⟩
  have R3 := ((Row.made w1 n 115).congr (g := memF 0 0 0 m (U : Int) (U : Int)) (fun i _ => memF_zero _ _ i)).below hb
  have B3 := Bx.boxSeq (row_alloc B _) hb
  have hbl := box_le B
  clear hb q qq hmk B
  generalize w1.heap.size = b at *
  go_wp2_with fail
  go_loopw [10] (fun s W => ∃ k : Nat, U ≤ k ∧ (k : Int) ≤ (U : Int) ∧ s = .int .i64 (k : Int) ∧ Row W b n (memF 0 0 0 m (U : Int) (k : Int)) ∧ Below (w.heap.size + 1) (w.alloc (.cells #[.int .i64 a0, .int .i64 a1, .int .i64 a2, .int .i64 a3, .int .i64 a4, .int .i64 a5, .int .i64 a6] 23)) W) (fun s _ => (a5 - intOf s).toNat)
  case atStart => exact ⟨U, by omega, by omega, rfl, R3, B3⟩
  case round =>
    obtain ⟨k, k1, k2, rfl, R, B⟩ := hrel
    clear R3 B3
    have q := Bx.boxCell B
    · have hlt : ¬ (k : Int) < a5 - 1 := by omega
      have hk : (k : Int) = (U : Int) := by omega
      have RR : Hid (Row wr b n (memF 0 0 0 m (U : Int) (U : Int))) := by rw [hk] at R; exact R
      clear hk R
      go_wp2_with fail
      refine (start_i _ _ _ _ _ _ _ 4 _ hok (by decide) (by decide)).mono ?_
      rintro e w4 ⟨rfl, hb⟩
      have R4 := (Hid.out RR).below hb
      have B4 := Bx.boxSeq B hb
      clear hb q B RR
      have c3 := R4.cell 3 (by omega)
      have f3 := R4.free 3 (by omega)
      have q := Bx.boxCell B4
      go_wp2_with (go_at_call 111; refine (slotWord_any _ _ (by omega) (by omega)).mono ?_; rintro e w4 ⟨rfl, rfl⟩)
      refine (start_i _ _ _ _ _ _ _ 5 _ hok (by decide) (by decide)).mono ?_
      rintro e w5 ⟨rfl, hb⟩
      have R5 := (R4.set 3 1 (memF 0 1 0 m (U : Int) (U : Int)) (by omega) (fun i _ => memF_three _ _ _ _ _ _ _ i)).below hb
      have B5 := Bx.boxSeq (B4.setCell (p := ⟨b, 3, none⟩) hbl _) hb
      clear hb q c3 f3 R4 B4
      have c4 := R5.cell 4 (by omega)
      have f4 := R5.free 4 (by omega)
      go_wp2_with (go_at_call 111; refine (slotWord_any _ _ (by omega) (by omega)).mono ?_; rintro e w5 ⟨rfl, rfl⟩)
      go_ret2
      exact ⟨b, rfl, by omega, R5.set 4 1 (memF 0 1 1 m (U : Int) (U : Int)) (by omega) (fun i _ => memF_four _ _ _ _ _ _ _ i), Bx.boxEnd (B5.setCell (p := ⟨b, 4, none⟩) hbl _)⟩
end Go.Proofs.YtpknggcgojkjgaaGreat.Wr
