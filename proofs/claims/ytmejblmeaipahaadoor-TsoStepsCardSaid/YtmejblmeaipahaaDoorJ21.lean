import Derived.Test.YtmejblmeaipahaaDoorJ01
/-
  TSO: may an instruction be? the program's rule and the document's.
-/
namespace Go.Proofs.YtmejblmeaipahaaDoor.Ts
open Go.RowKit Mr
set_option linter.unusedVariables false
set_option linter.unusedSimpArgs false
set_option maxRecDepth 100000
theorem fit_1 (n rg ad vl fr ol ct : Int) : fitB n ⟨1, rg, ad, vl, fr, ol, ct⟩ = (inB rg 0 3 && inB ad 0 (n - 1)) := by
  have h : inB 1 1 7 = true := by decide
  simp [fitB, h]
theorem fit_2 (n rg ad vl fr ol ct : Int) : fitB n ⟨2, rg, ad, vl, fr, ol, ct⟩ = (inB ad 0 (n - 1) && inB fr (-1) 3) := by
  have h : inB 2 1 7 = true := by decide
  simp [fitB, h]
theorem fit_3 (n rg ad vl fr ol ct : Int) : fitB n ⟨3, rg, ad, vl, fr, ol, ct⟩ = (inB rg 0 3 && inB ad 0 (n - 1)) := by
  have h : inB 3 1 7 = true := by decide
  simp [fitB, h]
theorem fit_4 (n rg ad vl fr ol ct : Int) : fitB n ⟨4, rg, ad, vl, fr, ol, ct⟩ = (true) := by
  have h : inB 4 1 7 = true := by decide
  simp [fitB, h]
theorem fit_5 (n rg ad vl fr ol ct : Int) : fitB n ⟨5, rg, ad, vl, fr, ol, ct⟩ = (inB rg 0 3) := by
  have h : inB 5 1 7 = true := by decide
  simp [fitB, h]
theorem fit_6 (n rg ad vl fr ol ct : Int) : fitB n ⟨6, rg, ad, vl, fr, ol, ct⟩ = (inB rg 0 3) := by
  have h : inB 6 1 7 = true := by decide
  simp [fitB, h]
theorem fit_7 (n rg ad vl fr ol ct : Int) : fitB n ⟨7, rg, ad, vl, fr, ol, ct⟩ = (inB rg 0 3 && inB ct 0 10) := by
  have h : inB 7 1 7 = true := by decide
  simp [fitB, h]
theorem fit_low (n : Int) (i : In) (h : i.kd < 1 ∨ 7 < i.kd) : fitB n i = false := by
  have : inB i.kd 1 7 = false := by unfold inB; rcases h with h | h <;> simp <;> omega
  simp [fitB, this]
theorem kinds (k : Int) (h : ¬ (k < 1 ∨ 7 < k)) : k = 1 ∨ k = 2 ∨ k = 3 ∨ k = 4 ∨ k = 5 ∨ k = 6 ∨ k = 7 := by omega
set_option maxHeartbeats 8000000 in
theorem instr_low (i : In) (n : Int) (w : World) (h : i.kd < 1 ∨ 7 < i.kd) : Calls Tryd.prog 56 #[i.val, .int .i64 n] w fun e w' => e = .returned (.bool false) ∧ Below w.heap.size w w' := by
  obtain ⟨kd, rg, ad, vl, fr, ol, ct⟩ := i
  unfold In.val
  dsimp only at h ⊢
  have B0 : Hid (Below w.heap.size w (w.alloc (.cells #[.int .i64 kd, .int .i64 rg, .int .i64 ad, .int .i64 vl, .int .i64 fr, .int .i64 ol, .int .i64 ct] 73))) := (Below.refl _ _).alloc (Nat.le_refl _) _
  by_cases h1 : kd < 1
  · have d1 : decide (kd < 1) = true := decide_eq_true h1
    go_enter Tryd.func56, Tryd.ntmps56
    go_wp2
    go_ret
    exact ⟨rfl, B0.out⟩
  · have d1 : decide (kd < 1) = false := decide_eq_false h1
    have d2 : decide (7 < kd) = true := decide_eq_true (by omega)
    have d3 : 7 < kd := by omega
    go_enter Tryd.func56, Tryd.ntmps56
    go_wp2
    go_ret
    exact ⟨rfl, B0.out⟩
set_option maxHeartbeats 8000000 in
theorem instr_1 (n rg ad vl fr ol ct : Int) (w : World) (E : Env w) (hn : 1 ≤ n ∧ n ≤ 1000000) : Calls Tryd.prog 56 #[.agg #[.int .i64 1, .int .i64 rg, .int .i64 ad, .int .i64 vl, .int .i64 fr, .int .i64 ol, .int .i64 ct], .int .i64 n] w fun e w' => e = .returned (.bool (fitB n ⟨1, rg, ad, vl, fr, ol, ct⟩)) ∧ Below w.heap.size w w' := by
  rw [fit_1]
  have t0 : w.cell? ⟨0, 4, none⟩ = some (.bool true) := E.tab 1 0 (by decide) (by decide)
  have t1 : w.cell? ⟨0, 5, none⟩ = some (.bool true) := E.tab 1 1 (by decide) (by decide)
  have t2 : w.cell? ⟨0, 6, none⟩ = some (.bool false) := E.tab 1 2 (by decide) (by decide)
  have t3 : w.cell? ⟨0, 7, none⟩ = some (.bool false) := E.tab 1 3 (by decide) (by decide)
  have lt := E.lt
  have hw1 : IntKind.i64.wrap (n - 1) = n - 1 := i64x _ (by omega) (by omega)
  have B0 : Hid (Below w.heap.size w ((w.alloc (.cells #[.int .i64 1, .int .i64 rg, .int .i64 ad, .int .i64 vl, .int .i64 fr, .int .i64 ol, .int .i64 ct] 73)).alloc (.cells #[.bool true, .bool true, .bool false, .bool false] 106))) := ((Below.refl _ _).alloc (Nat.le_refl _) _).alloc (by simp) _
  obtain ⟨bR, eR⟩ : ∃ b, inB rg 0 3 = b := ⟨_, rfl⟩
  obtain ⟨bA, eA⟩ : ∃ b, inB ad 0 (n - 1) = b := ⟨_, rfl⟩
  clear E
  have WB : Hid (∀ x lo hi W, Calls Tryd.prog 36 #[.int .i64 x, .int .i64 lo, .int .i64 hi] W fun e w' => e = .returned (.bool (inB x lo hi)) ∧ w' = W) := fun x lo hi W => within_any x lo hi W
  cases bR <;> cases bA <;> (
    go_enter Tryd.func56, Tryd.ntmps56
    go_wp2_with (go_at_call 36; refine (WB.out _ _ _ _).mono ?_; rintro e w9 ⟨rfl, hw9⟩; obtain rfl := hw9.symm)
    go_ret
    exact ⟨by simp [*], B0.out⟩)
set_option maxHeartbeats 8000000 in
theorem instr_2 (n rg ad vl fr ol ct : Int) (w : World) (E : Env w) (hn : 1 ≤ n ∧ n ≤ 1000000) : Calls Tryd.prog 56 #[.agg #[.int .i64 2, .int .i64 rg, .int .i64 ad, .int .i64 vl, .int .i64 fr, .int .i64 ol, .int .i64 ct], .int .i64 n] w fun e w' => e = .returned (.bool (fitB n ⟨2, rg, ad, vl, fr, ol, ct⟩)) ∧ Below w.heap.size w w' := by
  rw [fit_2]
  have t0 : w.cell? ⟨0, 8, none⟩ = some (.bool false) := E.tab 2 0 (by decide) (by decide)
  have t1 : w.cell? ⟨0, 9, none⟩ = some (.bool true) := E.tab 2 1 (by decide) (by decide)
  have t2 : w.cell? ⟨0, 10, none⟩ = some (.bool true) := E.tab 2 2 (by decide) (by decide)
  have t3 : w.cell? ⟨0, 11, none⟩ = some (.bool false) := E.tab 2 3 (by decide) (by decide)
  have lt := E.lt
  have hw1 : IntKind.i64.wrap (n - 1) = n - 1 := i64x _ (by omega) (by omega)
  have B0 : Hid (Below w.heap.size w ((w.alloc (.cells #[.int .i64 2, .int .i64 rg, .int .i64 ad, .int .i64 vl, .int .i64 fr, .int .i64 ol, .int .i64 ct] 73)).alloc (.cells #[.bool false, .bool true, .bool true, .bool false] 106))) := ((Below.refl _ _).alloc (Nat.le_refl _) _).alloc (by simp) _
  obtain ⟨bA, eA⟩ : ∃ b, inB ad 0 (n - 1) = b := ⟨_, rfl⟩
  obtain ⟨bF, eF⟩ : ∃ b, inB fr (-1) 3 = b := ⟨_, rfl⟩
  clear E
  have WB : Hid (∀ x lo hi W, Calls Tryd.prog 36 #[.int .i64 x, .int .i64 lo, .int .i64 hi] W fun e w' => e = .returned (.bool (inB x lo hi)) ∧ w' = W) := fun x lo hi W => within_any x lo hi W
  cases bA <;> cases bF <;> (
    go_enter Tryd.func56, Tryd.ntmps56
    go_wp2_with (go_at_call 36; refine (WB.out _ _ _ _).mono ?_; rintro e w9 ⟨rfl, hw9⟩; obtain rfl := hw9.symm)
    go_ret
    exact ⟨by simp [*], B0.out⟩)
set_option maxHeartbeats 8000000 in
theorem instr_3 (n rg ad vl fr ol ct : Int) (w : World) (E : Env w) (hn : 1 ≤ n ∧ n ≤ 1000000) : Calls Tryd.prog 56 #[.agg #[.int .i64 3, .int .i64 rg, .int .i64 ad, .int .i64 vl, .int .i64 fr, .int .i64 ol, .int .i64 ct], .int .i64 n] w fun e w' => e = .returned (.bool (fitB n ⟨3, rg, ad, vl, fr, ol, ct⟩)) ∧ Below w.heap.size w w' := by
  rw [fit_3]
  have t0 : w.cell? ⟨0, 12, none⟩ = some (.bool true) := E.tab 3 0 (by decide) (by decide)
  have t1 : w.cell? ⟨0, 13, none⟩ = some (.bool true) := E.tab 3 1 (by decide) (by decide)
  have t2 : w.cell? ⟨0, 14, none⟩ = some (.bool false) := E.tab 3 2 (by decide) (by decide)
  have t3 : w.cell? ⟨0, 15, none⟩ = some (.bool false) := E.tab 3 3 (by decide) (by decide)
  have lt := E.lt
  have hw1 : IntKind.i64.wrap (n - 1) = n - 1 := i64x _ (by omega) (by omega)
  have B0 : Hid (Below w.heap.size w ((w.alloc (.cells #[.int .i64 3, .int .i64 rg, .int .i64 ad, .int .i64 vl, .int .i64 fr, .int .i64 ol, .int .i64 ct] 73)).alloc (.cells #[.bool true, .bool true, .bool false, .bool false] 106))) := ((Below.refl _ _).alloc (Nat.le_refl _) _).alloc (by simp) _
  obtain ⟨bR, eR⟩ : ∃ b, inB rg 0 3 = b := ⟨_, rfl⟩
  obtain ⟨bA, eA⟩ : ∃ b, inB ad 0 (n - 1) = b := ⟨_, rfl⟩
  clear E
  have WB : Hid (∀ x lo hi W, Calls Tryd.prog 36 #[.int .i64 x, .int .i64 lo, .int .i64 hi] W fun e w' => e = .returned (.bool (inB x lo hi)) ∧ w' = W) := fun x lo hi W => within_any x lo hi W
  cases bR <;> cases bA <;> (
    go_enter Tryd.func56, Tryd.ntmps56
    go_wp2_with (go_at_call 36; refine (WB.out _ _ _ _).mono ?_; rintro e w9 ⟨rfl, hw9⟩; obtain rfl := hw9.symm)
    go_ret
    exact ⟨by simp [*], B0.out⟩)
set_option maxHeartbeats 8000000 in
theorem instr_4 (n rg ad vl fr ol ct : Int) (w : World) (E : Env w) (hn : 1 ≤ n ∧ n ≤ 1000000) : Calls Tryd.prog 56 #[.agg #[.int .i64 4, .int .i64 rg, .int .i64 ad, .int .i64 vl, .int .i64 fr, .int .i64 ol, .int .i64 ct], .int .i64 n] w fun e w' => e = .returned (.bool (fitB n ⟨4, rg, ad, vl, fr, ol, ct⟩)) ∧ Below w.heap.size w w' := by
  rw [fit_4]
  have t0 : w.cell? ⟨0, 16, none⟩ = some (.bool false) := E.tab 4 0 (by decide) (by decide)
  have t1 : w.cell? ⟨0, 17, none⟩ = some (.bool false) := E.tab 4 1 (by decide) (by decide)
  have t2 : w.cell? ⟨0, 18, none⟩ = some (.bool false) := E.tab 4 2 (by decide) (by decide)
  have t3 : w.cell? ⟨0, 19, none⟩ = some (.bool false) := E.tab 4 3 (by decide) (by decide)
  have lt := E.lt
  have hw1 : IntKind.i64.wrap (n - 1) = n - 1 := i64x _ (by omega) (by omega)
  have B0 : Hid (Below w.heap.size w ((w.alloc (.cells #[.int .i64 4, .int .i64 rg, .int .i64 ad, .int .i64 vl, .int .i64 fr, .int .i64 ol, .int .i64 ct] 73)).alloc (.cells #[.bool false, .bool false, .bool false, .bool false] 106))) := ((Below.refl _ _).alloc (Nat.le_refl _) _).alloc (by simp) _
  clear E
  have WB : Hid (∀ x lo hi W, Calls Tryd.prog 36 #[.int .i64 x, .int .i64 lo, .int .i64 hi] W fun e w' => e = .returned (.bool (inB x lo hi)) ∧ w' = W) := fun x lo hi W => within_any x lo hi W
  go_enter Tryd.func56, Tryd.ntmps56
  go_wp2
  go_ret
  exact ⟨by simp, B0.out⟩
set_option maxHeartbeats 8000000 in
theorem instr_5 (n rg ad vl fr ol ct : Int) (w : World) (E : Env w) (hn : 1 ≤ n ∧ n ≤ 1000000) : Calls Tryd.prog 56 #[.agg #[.int .i64 5, .int .i64 rg, .int .i64 ad, .int .i64 vl, .int .i64 fr, .int .i64 ol, .int .i64 ct], .int .i64 n] w fun e w' => e = .returned (.bool (fitB n ⟨5, rg, ad, vl, fr, ol, ct⟩)) ∧ Below w.heap.size w w' := by
  rw [fit_5]
  have t0 : w.cell? ⟨0, 20, none⟩ = some (.bool true) := E.tab 5 0 (by decide) (by decide)
  have t1 : w.cell? ⟨0, 21, none⟩ = some (.bool false) := E.tab 5 1 (by decide) (by decide)
  have t2 : w.cell? ⟨0, 22, none⟩ = some (.bool false) := E.tab 5 2 (by decide) (by decide)
  have t3 : w.cell? ⟨0, 23, none⟩ = some (.bool false) := E.tab 5 3 (by decide) (by decide)
  have lt := E.lt
  have hw1 : IntKind.i64.wrap (n - 1) = n - 1 := i64x _ (by omega) (by omega)
  have B0 : Hid (Below w.heap.size w ((w.alloc (.cells #[.int .i64 5, .int .i64 rg, .int .i64 ad, .int .i64 vl, .int .i64 fr, .int .i64 ol, .int .i64 ct] 73)).alloc (.cells #[.bool true, .bool false, .bool false, .bool false] 106))) := ((Below.refl _ _).alloc (Nat.le_refl _) _).alloc (by simp) _
  obtain ⟨bR, eR⟩ : ∃ b, inB rg 0 3 = b := ⟨_, rfl⟩
  clear E
  have WB : Hid (∀ x lo hi W, Calls Tryd.prog 36 #[.int .i64 x, .int .i64 lo, .int .i64 hi] W fun e w' => e = .returned (.bool (inB x lo hi)) ∧ w' = W) := fun x lo hi W => within_any x lo hi W
  cases bR <;> (
    go_enter Tryd.func56, Tryd.ntmps56
    go_wp2_with (go_at_call 36; refine (WB.out _ _ _ _).mono ?_; rintro e w9 ⟨rfl, hw9⟩; obtain rfl := hw9.symm)
    go_ret
    exact ⟨by simp [*], B0.out⟩)
set_option maxHeartbeats 8000000 in
theorem instr_6 (n rg ad vl fr ol ct : Int) (w : World) (E : Env w) (hn : 1 ≤ n ∧ n ≤ 1000000) : Calls Tryd.prog 56 #[.agg #[.int .i64 6, .int .i64 rg, .int .i64 ad, .int .i64 vl, .int .i64 fr, .int .i64 ol, .int .i64 ct], .int .i64 n] w fun e w' => e = .returned (.bool (fitB n ⟨6, rg, ad, vl, fr, ol, ct⟩)) ∧ Below w.heap.size w w' := by
  rw [fit_6]
  have t0 : w.cell? ⟨0, 24, none⟩ = some (.bool true) := E.tab 6 0 (by decide) (by decide)
  have t1 : w.cell? ⟨0, 25, none⟩ = some (.bool false) := E.tab 6 1 (by decide) (by decide)
  have t2 : w.cell? ⟨0, 26, none⟩ = some (.bool false) := E.tab 6 2 (by decide) (by decide)
  have t3 : w.cell? ⟨0, 27, none⟩ = some (.bool false) := E.tab 6 3 (by decide) (by decide)
  have lt := E.lt
  have hw1 : IntKind.i64.wrap (n - 1) = n - 1 := i64x _ (by omega) (by omega)
  have B0 : Hid (Below w.heap.size w ((w.alloc (.cells #[.int .i64 6, .int .i64 rg, .int .i64 ad, .int .i64 vl, .int .i64 fr, .int .i64 ol, .int .i64 ct] 73)).alloc (.cells #[.bool true, .bool false, .bool false, .bool false] 106))) := ((Below.refl _ _).alloc (Nat.le_refl _) _).alloc (by simp) _
  obtain ⟨bR, eR⟩ : ∃ b, inB rg 0 3 = b := ⟨_, rfl⟩
  clear E
  have WB : Hid (∀ x lo hi W, Calls Tryd.prog 36 #[.int .i64 x, .int .i64 lo, .int .i64 hi] W fun e w' => e = .returned (.bool (inB x lo hi)) ∧ w' = W) := fun x lo hi W => within_any x lo hi W
  cases bR <;> (
    go_enter Tryd.func56, Tryd.ntmps56
    go_wp2_with (go_at_call 36; refine (WB.out _ _ _ _).mono ?_; rintro e w9 ⟨rfl, hw9⟩; obtain rfl := hw9.symm)
    go_ret
    exact ⟨by simp [*], B0.out⟩)
set_option maxHeartbeats 8000000 in
theorem instr_7 (n rg ad vl fr ol ct : Int) (w : World) (E : Env w) (hn : 1 ≤ n ∧ n ≤ 1000000) : Calls Tryd.prog 56 #[.agg #[.int .i64 7, .int .i64 rg, .int .i64 ad, .int .i64 vl, .int .i64 fr, .int .i64 ol, .int .i64 ct], .int .i64 n] w fun e w' => e = .returned (.bool (fitB n ⟨7, rg, ad, vl, fr, ol, ct⟩)) ∧ Below w.heap.size w w' := by
  rw [fit_7]
  have t0 : w.cell? ⟨0, 28, none⟩ = some (.bool true) := E.tab 7 0 (by decide) (by decide)
  have t1 : w.cell? ⟨0, 29, none⟩ = some (.bool false) := E.tab 7 1 (by decide) (by decide)
  have t2 : w.cell? ⟨0, 30, none⟩ = some (.bool false) := E.tab 7 2 (by decide) (by decide)
  have t3 : w.cell? ⟨0, 31, none⟩ = some (.bool true) := E.tab 7 3 (by decide) (by decide)
  have lt := E.lt
  have hw1 : IntKind.i64.wrap (n - 1) = n - 1 := i64x _ (by omega) (by omega)
  have B0 : Hid (Below w.heap.size w ((w.alloc (.cells #[.int .i64 7, .int .i64 rg, .int .i64 ad, .int .i64 vl, .int .i64 fr, .int .i64 ol, .int .i64 ct] 73)).alloc (.cells #[.bool true, .bool false, .bool false, .bool true] 106))) := ((Below.refl _ _).alloc (Nat.le_refl _) _).alloc (by simp) _
  obtain ⟨bR, eR⟩ : ∃ b, inB rg 0 3 = b := ⟨_, rfl⟩
  obtain ⟨bC, eC⟩ : ∃ b, inB ct 0 10 = b := ⟨_, rfl⟩
  clear E
  have WB : Hid (∀ x lo hi W, Calls Tryd.prog 36 #[.int .i64 x, .int .i64 lo, .int .i64 hi] W fun e w' => e = .returned (.bool (inB x lo hi)) ∧ w' = W) := fun x lo hi W => within_any x lo hi W
  cases bR <;> cases bC <;> (
    go_enter Tryd.func56, Tryd.ntmps56
    go_wp2_with (go_at_call 36; refine (WB.out _ _ _ _).mono ?_; rintro e w9 ⟨rfl, hw9⟩; obtain rfl := hw9.symm)
    go_ret
    exact ⟨by simp [*], B0.out⟩)
theorem instr_any (i : In) (n : Int) (w : World) (E : Env w) (hn : 1 ≤ n ∧ n ≤ 1000000) : Calls Tryd.prog 56 #[i.val, .int .i64 n] w fun e w' => e = .returned (.bool (fitB n i)) ∧ Below w.heap.size w w' := by
  by_cases h : i.kd < 1 ∨ 7 < i.kd
  · rw [fit_low n i h]
    exact instr_low i n w h
  · obtain ⟨kd, rg, ad, vl, fr, ol, ct⟩ := i
    rcases kinds kd h with rfl | rfl | rfl | rfl | rfl | rfl | rfl
    · exact instr_1 n rg ad vl fr ol ct w E hn
    · exact instr_2 n rg ad vl fr ol ct w E hn
    · exact instr_3 n rg ad vl fr ol ct w E hn
    · exact instr_4 n rg ad vl fr ol ct w E hn
    · exact instr_5 n rg ad vl fr ol ct w E hn
    · exact instr_6 n rg ad vl fr ol ct w E hn
    · exact instr_7 n rg ad vl fr ol ct w E hn
end Go.Proofs.YtmejblmeaipahaaDoor.Ts
/-
  TSO: Check.
-/
namespace Go.Proofs.YtmejblmeaipahaaDoor.Ts
open Go.RowKit Mr
set_option linter.unusedVariables false
set_option linter.unusedSimpArgs false
set_option maxRecDepth 100000
set_option maxHeartbeats 8000000 in
theorem code_any (c : List In) (a : Option Addr) (m cp : Nat) (n : Int) (w : World) (E : Env w) (hn : 1 ≤ n ∧ n ≤ 1000000) (hC : CdAt w a m c) :
    Calls Tryd.prog 43 #[.slice a m cp, .int .i64 n] w fun e w' => e = .returned (.bool (codeB n c)) ∧ Below w.heap.size w w' := by
  have hl := Mr.hid hC.1
  have IM : Hid (∀ i W, Below w.heap.size w W → Calls Tryd.prog 56 #[i.val, .int .i64 n] W fun e w' => e = .returned (.bool (fitB n i)) ∧ Below W.heap.size W w') := fun i W hB => instr_any i n W (E.below hB) hn
  replace hC := Mr.hid hC
  clear E
  by_cases h10 : m ≤ 10
  · have d1 : decide ((10 : Int) < (m : Int)) = false := decide_eq_false (by omega)
    have d2 : ¬ (10 : Int) < (m : Int) := by omega
    have hcb : Hid (codeB n c = c.all (fitB n)) := by show _ = _; unfold codeB; rw [decide_eq_true (by rw [← hl.out]; exact h10)]; rfl
    rw [hcb.out]
    obtain ⟨R, hR⟩ : ∃ R, c.all (fitB n) = R := ⟨_, rfl⟩
    rw [hR]
    replace hR := Mr.hid hR
    go_enter Tryd.func43, Tryd.ntmps43
    go_upto_region 4 with fail
    clear d1 d2
    go_loopg [12] m (fun gk s12 wr => ∃ i : Nat, s12 = .int .i64 (i : Int) ∧ i + gk = m ∧ (c.take i).all (fitB n) = true ∧ Below w.heap.size w wr)
    case atStart => exact ⟨0, rfl, by omega, rfl, Below.refl _ _⟩
    case round =>
      obtain ⟨i, rfl, hi, hall, hB⟩ := hrel
      by_cases hlt : i < m
      · have hli : i < c.length := by have := hl.out; omega
        obtain ⟨x, hx⟩ : ∃ x, c[i]? = some x := ⟨c[i], List.getElem?_eq_getElem hli⟩
        obtain ⟨g, o, rfl, hg, hc⟩ := hC.out.2.resolve_left (by intro e; rw [e] at hli; simp at hli)
        have hcx : ∀ f u, x.cells[f]? = some u → wr.cell? ⟨g, o + i * 7 + f, none⟩ = some u := fun f u hu => (hB.cell (p := ⟨g, _, none⟩) hg).trans (hc i x hx f u hu)
        have c0 := hcx 0 _ rfl
        have c1 := hcx 1 _ rfl
        have c2 := hcx 2 _ rfl
        have c3 := hcx 3 _ rfl
        have c4 := hcx 4 _ rfl
        have c5 := hcx 5 _ rfl
        have c6 := hcx 6 _ rfl
        rw [Nat.add_zero] at c0
        have hgw : g < wr.heap.size := Nat.lt_of_lt_of_le hg hB.size
        have hts := take_succ_of hx
        have hmem := List.mem_of_getElem? hx
        have hlI : (i : Int) < (m : Int) := by omega
        have dl : decide ((i : Int) < (m : Int)) = true := by simpa using hlI
        have hw : IntKind.i64.wrap ((i : Int) + 1) = (i : Int) + 1 := i64x _ (by omega) (by omega)
        have hi' := Mr.hid hi
        have hnext : Hid (fitB n x = true → (c.take (i + 1)).all (fitB n) = true) := fun h => by rw [hts, List.all_append, hall]; simp [h]
        have hbad : Hid (fitB n x = false → c.all (fitB n) = false) := fun h => by
          cases ha : c.all (fitB n) with
          | false => rfl
          | true => have := List.all_eq_true.1 ha x hmem; rw [h] at this; cases this
        have I1 : Hid (∀ W, Below w.heap.size w W → Calls Tryd.prog 56 #[x.val, .int .i64 n] W fun e w' => e = .returned (.bool (fitB n x)) ∧ Below W.heap.size W w') := fun W h => IM.out x W h
        generalize hfx : fitB n x = fx at *
        obtain ⟨kd, rg, ad, vl, fr, ol, ct⟩ := x
        unfold In.val at I1
        dsimp only at I1
        have hBa : Below w.heap.size w (wr.alloc (.cells #[.int .i64 kd, .int .i64 rg, .int .i64 ad, .int .i64 vl, .int .i64 fr, .int .i64 ol, .int .i64 ct] 73)) := hB.alloc hB.size _
        have I2 := Mr.hid (I1.out _ hBa)
        replace hBa := Mr.hid hBa
        clear hcx hc hx hts hli hi hfx hall hmem I1 hB
        cases fx with
        | true =>
          go_wp2_with (go_at_call 56; refine I2.out.mono ?_; clear I2; rintro e w9 ⟨rfl, B9⟩; have hB9 : Hid (Below w.heap.size w w9) := hBa.out.trans (B9.mono hBa.out.size); clear B9)
          go_roundg (gk - 1)
          case measure => have := hi'.out; omega
          case rel => exact ⟨i + 1, by simp, by have := hi'.out; omega, hnext.out (by trivial), hB9.out⟩
        | false =>
          go_wp2_with (go_at_call 56; refine I2.out.mono ?_; clear I2; rintro e w9 ⟨rfl, B9⟩; have hB9 : Hid (Below w.heap.size w w9) := hBa.out.trans (B9.mono hBa.out.size); clear B9)
          go_ret
          exact ⟨by rw [← hR.out, hbad.out (by trivial)]; rfl, hB9.out⟩
      · have hfin : c.take i = c := List.take_of_length_le (by have := hl.out; omega)
        rw [hfin] at hall
        have dl : decide ((i : Int) < (m : Int)) = false := decide_eq_false (by omega)
        have dl2 : ¬ (i : Int) < (m : Int) := by omega
        replace hall := Mr.hid hall
        replace hB := Mr.hid hB
        clear hlt hi hfin
        go_wp2
        go_ret
        exact ⟨by rw [← hR.out, hall.out]; rfl, hB.out⟩
  · have d1 : decide ((10 : Int) < (m : Int)) = true := decide_eq_true (by omega)
    have d2 : (10 : Int) < (m : Int) := by omega
    have hcb : codeB n c = false := by unfold codeB; rw [decide_eq_false (by rw [← hl.out]; exact h10)]; rfl
    rw [hcb]
    go_enter Tryd.func43, Tryd.ntmps43
    go_wp2
    go_ret
    exact ⟨rfl, Below.refl _ _⟩
end Go.Proofs.YtmejblmeaipahaaDoor.Ts
