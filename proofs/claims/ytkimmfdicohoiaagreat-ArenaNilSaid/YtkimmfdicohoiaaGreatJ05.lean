import Derived.WalkKit
import Derived.WalkSpells
import Derived.Below
import Derived.Deep.Draws
import Derived.Test.YtkimmfdicohoiaaGreatJ04
import Derived.Test.YtkimmfdicohoiaaGreatChecked
import Derived.OpenShut
import Derived.Deep.QuietTactic
import Derived.BigQuiet
import Derived.Outline
/-
  SMALL LAWS on worlds behind calls that only make memory.
-/
namespace Go.Proofs.YtkimmfdicohoiaaGreat.Bx
open Go.RowKit
theorem seqB {n : Nat} {w w1 w2 : World} (h1 : Below n w w1) (h2 : Below w1.heap.size w1 w2) (hn : n ≤ w.heap.size) : Below n w w2 :=
  h1.trans (h2.mono (by have := h1.size; omega))
theorem box0 (w : World) (o : Obj) : Below (w.heap.size + 1) (w.alloc o) (w.alloc o) := Below.refl _ _
theorem boxSeq {w w1 w2 : World} {o : Obj} (h1 : Below (w.heap.size + 1) (w.alloc o) w1) (h2 : Below w1.heap.size w1 w2) : Below (w.heap.size + 1) (w.alloc o) w2 :=
  seqB h1 h2 (by simp)
theorem boxCell {w w1 : World} {o : Obj} (B : Below (w.heap.size + 1) (w.alloc o) w1) : ∀ k, w1.cell? ⟨w.heap.size, k, none⟩ = (w.alloc o).cell? ⟨w.heap.size, k, none⟩ :=
  fun _ => B.cell (by simp)
theorem boxEnd {w w1 : World} {o : Obj} (B : Below (w.heap.size + 1) (w.alloc o) w1) : Below w.heap.size w w1 :=
  ((Below.refl _ _).alloc (Nat.le_refl _) o).trans (B.mono (by omega))
theorem two0 (w : World) (o p : Obj) : Below (w.heap.size + 2) ((w.alloc o).alloc p) ((w.alloc o).alloc p) := Below.refl _ _
theorem twoSeq {w w1 w2 : World} {o p : Obj} (h1 : Below (w.heap.size + 2) ((w.alloc o).alloc p) w1) (h2 : Below w1.heap.size w1 w2) : Below (w.heap.size + 2) ((w.alloc o).alloc p) w2 :=
  seqB h1 h2 (by simp)
theorem twoCellA {w w1 : World} {o p : Obj} (B : Below (w.heap.size + 2) ((w.alloc o).alloc p) w1) : ∀ k, w1.cell? ⟨w.heap.size, k, none⟩ = ((w.alloc o).alloc p).cell? ⟨w.heap.size, k, none⟩ :=
  fun _ => B.cell (by simp)
theorem twoCellB {w w1 : World} {o p : Obj} (B : Below (w.heap.size + 2) ((w.alloc o).alloc p) w1) : ∀ k, w1.cell? ⟨w.heap.size + 1, k, none⟩ = ((w.alloc o).alloc p).cell? ⟨w.heap.size + 1, k, none⟩ :=
  fun _ => B.cell (by simp)
theorem twoFrozenB {w w1 : World} {o p : Obj} (B : Below (w.heap.size + 2) ((w.alloc o).alloc p) w1) : ∀ k, w1.frozen? ⟨w.heap.size + 1, k, none⟩ = ((w.alloc o).alloc p).frozen? ⟨w.heap.size + 1, k, none⟩ :=
  fun _ => B.frozen (by simp)
theorem twoEnd {w w1 : World} {o p : Obj} (B : Below (w.heap.size + 2) ((w.alloc o).alloc p) w1) : Below w.heap.size w w1 :=
  (((Below.refl _ _).alloc (Nat.le_refl _) o).alloc (by simp) p).trans (B.mono (by omega))
theorem twoSize {w w1 : World} {o p : Obj} (B : Below (w.heap.size + 2) ((w.alloc o).alloc p) w1) : w.heap.size + 1 < w1.heap.size := by
  have := B.size; simp at this; omega
theorem twoThru {w w3 w4 : World} {o p q : Obj} (h1 : Below (w.heap.size + 2) ((w.alloc o).alloc p) w3) (h2 : Below (w3.heap.size + 1) (w3.alloc q) w4) : Below (w.heap.size + 2) ((w.alloc o).alloc p) w4 := by
  have hs := h1.size
  simp at hs
  exact (h1.alloc (by omega) q).trans (h2.mono (by omega))
theorem oneThru {w w3 w4 : World} {o q : Obj} (h1 : Below (w.heap.size + 1) (w.alloc o) w3) (h2 : Below (w3.heap.size + 1) (w3.alloc q) w4) : Below (w.heap.size + 1) (w.alloc o) w4 := by
  have hs := h1.size
  simp at hs
  exact (h1.alloc (by omega) q).trans (h2.mono (by omega))
theorem draws (B : Nat) (w : World) (n : Nat) : Below B w (w.drewN n) := ⟨rfl, rfl, rfl, Nat.le_refl _, fun _ _ => rfl⟩
theorem boxSize {w w1 : World} {o : Obj} (B : Below (w.heap.size + 1) (w.alloc o) w1) : w.heap.size < w1.heap.size := by
  have := B.size; simp at this; omega
end Go.Proofs.YtkimmfdicohoiaaGreat.Bx
/-
  CONTRACTS of extent and start.
-/
namespace Go.Proofs.YtkimmfdicohoiaaGreat.Wm
open Go.RowKit
set_option linter.unusedVariables false
set_option maxHeartbeats 1000000 in
theorem extent_any (a0 a1 a2 a3 a4 a5 a6 r : Int) (w : World) :
    Calls Tryz.prog 112 #[.agg #[.int .i64 a0, .int .i64 a1, .int .i64 a2, .int .i64 a3, .int .i64 a4, .int .i64 a5, .int .i64 a6], .int .i64 r] w fun e w' =>
      e = .returned (.tuple #[.int .i64 (items a1 a5 a6 r), .int .i64 (each a2 r)]) ∧ Below w.heap.size w w' := by
  by_cases h9 : r = 9
  · subst h9
    go_enter Tryz.func112, Tryz.ntmps112
    go_wp2
    go_quiet (fail)
    go_wp2
    go_ret2
    exact ⟨by simp [items, each], ((Below.refl _ _).alloc (Nat.le_refl _) _).trans (Bx.draws _ _ _)⟩
  by_cases h7 : r = 7
  · subst h7
    go_enter Tryz.func112, Tryz.ntmps112
    go_wp2
    go_ret2
    exact ⟨by simp [items, each], (Below.refl _ _).alloc (Nat.le_refl _) _⟩
  by_cases h8 : r = 8
  · subst h8
    go_enter Tryz.func112, Tryz.ntmps112
    go_wp2
    go_ret2
    exact ⟨by simp [items, each], (Below.refl _ _).alloc (Nat.le_refl _) _⟩
  have e7 : (r == 7) = false := by simpa using h7
  have e8 : (r == 8) = false := by simpa using h8
  have e9 : (r == 9) = false := by simpa using h9
  by_cases h10 : r = 10
  · subst h10
    go_enter Tryz.func112, Tryz.ntmps112
    go_wp2
    go_ret2
    exact ⟨by simp [items, each], (Below.refl _ _).alloc (Nat.le_refl _) _⟩
  have e10 : (r == 10) = false := by simpa using h10
  by_cases h11 : r = 11
  · subst h11
    go_enter Tryz.func112, Tryz.ntmps112
    go_wp2
    go_ret2
    exact ⟨by simp [items, each], (Below.refl _ _).alloc (Nat.le_refl _) _⟩
  have e11 : (r == 11) = false := by simpa using h11
  by_cases h12 : r = 12
  · subst h12
    go_enter Tryz.func112, Tryz.ntmps112
    go_wp2
    go_ret2
    exact ⟨by simp [items, each], (Below.refl _ _).alloc (Nat.le_refl _) _⟩
  have e12 : (r == 12) = false := by simpa using h12
  by_cases h13 : r = 13
  · subst h13
    go_enter Tryz.func112, Tryz.ntmps112
    go_wp2
    go_ret2
    exact ⟨by simp [items, each], (Below.refl _ _).alloc (Nat.le_refl _) _⟩
  have e13 : (r == 13) = false := by simpa using h13
  have hit : items a1 a5 a6 r = 1 := by unfold items; rw [if_neg h7, if_neg h8, if_neg h9, if_neg (by omega)]
  have hea : each a2 r = 1 := by unfold each; rw [if_neg h9]
  rw [hit, hea]
  clear h7 h8 h9 h10 h11 h12 h13 hit hea
  go_enter Tryz.func112, Tryz.ntmps112
  go_wp2
  go_ret2
  exact ⟨rfl, (Below.refl _ _).alloc (Nat.le_refl _) _⟩

set_option maxHeartbeats 1000000 in
theorem start_any (a0 a1 a2 a3 a4 a5 a6 : Int) (k : Nat) (w : World) (hok : Ok a1 a2 a5 a6) (h1 : 1 ≤ k) (h2 : k ≤ 14) :
    Calls Tryz.prog 78 #[.agg #[.int .i64 a0, .int .i64 a1, .int .i64 a2, .int .i64 a3, .int .i64 a4, .int .i64 a5, .int .i64 a6], .int .i64 (k : Int)] w fun e w' =>
      e = .returned (.int .i64 (base a1 a2 a5 a6 k)) ∧ Below w.heap.size w w' := by
  go_enter Tryz.func78, Tryz.ntmps78
  go_wp2
  go_loopw [5, 6] (fun t i w' => ∃ j : Nat, 1 ≤ j ∧ j ≤ k ∧ i = .int .i64 (j : Int) ∧ t = .int .i64 (base a1 a2 a5 a6 j) ∧ Below (w.heap.size + 1) (w.alloc (.cells #[.int .i64 a0, .int .i64 a1, .int .i64 a2, .int .i64 a3, .int .i64 a4, .int .i64 a5, .int .i64 a6] 23)) w') (fun _ i _ => k - (intOf i).toNat)
  case atStart => exact ⟨1, by omega, h1, rfl, rfl, Bx.box0 _ _⟩
  case round =>
    obtain ⟨j, j1, j2, rfl, rfl, B⟩ := hrel
    have q := Bx.boxCell B
    have bb := base_bd hok j
    have mb := many_bd hok (j : Int)
    have bs : Hid (base a1 a2 a5 a6 (j + 1) = base a1 a2 a5 a6 j + items a1 a5 a6 (j : Int) * each a2 (j : Int)) := base_succ a1 a2 a5 a6 j j1
    have ib := items_bd hok (j : Int)
    have eb := each_bd hok (j : Int)
    by_cases hlt : j < k
    · go_wp2_with fail
      refine (extent_any _ _ _ _ _ _ _ _ _).mono ?_
      rintro e w1 ⟨rfl, hb1⟩
      have B1 := Bx.boxSeq B hb1
      clear hb1 q B
      have mb2 : items a1 a5 a6 (j : Int) * each a2 (j : Int) ≤ 1024 := mb.2
      have mb1 : 0 ≤ items a1 a5 a6 (j : Int) * each a2 (j : Int) := by have := mb.1; unfold many at this; omega
      clear mb
      go_wp2_with fail
      exact ⟨⟨j + 1, by omega, by omega, by go_num, by rw [bs.out], B1⟩, by simp [intOf]; omega⟩
    · have : j = k := by omega
      subst this
      go_wp2_with fail
      go_ret
      exact ⟨rfl, Bx.boxEnd B⟩
theorem start_i (a0 a1 a2 a3 a4 a5 a6 r : Int) (w : World) (hok : Ok a1 a2 a5 a6) (h1 : 1 ≤ r) (h2 : r ≤ 14) :
    Calls Tryz.prog 78 #[.agg #[.int .i64 a0, .int .i64 a1, .int .i64 a2, .int .i64 a3, .int .i64 a4, .int .i64 a5, .int .i64 a6], .int .i64 r] w fun e w' =>
      e = .returned (.int .i64 (base a1 a2 a5 a6 r.toNat)) ∧ Below w.heap.size w w' := by
  obtain ⟨k, rfl⟩ := Int.eq_ofNat_of_zero_le (show 0 ≤ r by omega)
  exact start_any a0 a1 a2 a3 a4 a5 a6 k w hok (by omega) (by omega)
end Go.Proofs.YtkimmfdicohoiaaGreat.Wm
/-
  CONTRACTS over api.Config: Check, the document's Config, small.
-/
namespace Go.Proofs.YtkimmfdicohoiaaGreat.Wc
open Go.RowKit
set_option linter.unusedVariables false

def inB (n a b : Int) : Bool := decide (a ≤ n) && decide (n ≤ b)
def cfgB (a0 a1 a2 a3 a4 a5 a6 : Int) : Bool := inB a0 1 16 && inB a1 1 16 && inB a2 3 8 && inB a3 1 1024 && inB a4 0 64 && inB a5 1 1024 && inB a6 1 64

theorem within_any (n a b : Int) (w : World) :
    Calls Tryz.prog 76 #[.int .i64 n, .int .i64 a, .int .i64 b] w fun e w' => e = .returned (.bool (inB n a b)) ∧ w' = w := by
  by_cases h : a ≤ n
  · go_enter Tryz.func76, Tryz.ntmps76
    go_wp2
    go_ret
    exact ⟨by simp [inB, h], rfl⟩
  · go_enter Tryz.func76, Tryz.ntmps76
    go_wp2
    go_ret
    exact ⟨by simp [inB]; omega, rfl⟩

def chkN (b : Bool) : Int := if b then 0 else 1
theorem cfg_cases (a0 a1 a2 a3 a4 a5 a6 : Int) :
    inB a0 1 16 = false ∨ (inB a0 1 16 = true ∧ inB a1 1 16 = false) ∨ (inB a0 1 16 = true ∧ inB a1 1 16 = true ∧ inB a2 3 8 = false) ∨
    (inB a0 1 16 = true ∧ inB a1 1 16 = true ∧ inB a2 3 8 = true ∧ inB a3 1 1024 = false) ∨
    (inB a0 1 16 = true ∧ inB a1 1 16 = true ∧ inB a2 3 8 = true ∧ inB a3 1 1024 = true ∧ inB a4 0 64 = false) ∨
    (inB a0 1 16 = true ∧ inB a1 1 16 = true ∧ inB a2 3 8 = true ∧ inB a3 1 1024 = true ∧ inB a4 0 64 = true ∧ inB a5 1 1024 = false) ∨
    (inB a0 1 16 = true ∧ inB a1 1 16 = true ∧ inB a2 3 8 = true ∧ inB a3 1 1024 = true ∧ inB a4 0 64 = true ∧ inB a5 1 1024 = true ∧ inB a6 1 64 = false) ∨
    (inB a0 1 16 = true ∧ inB a1 1 16 = true ∧ inB a2 3 8 = true ∧ inB a3 1 1024 = true ∧ inB a4 0 64 = true ∧ inB a5 1 1024 = true ∧ inB a6 1 64 = true) := by
  cases inB a0 1 16 <;> cases inB a1 1 16 <;> cases inB a2 3 8 <;> cases inB a3 1 1024 <;> cases inB a4 0 64 <;> cases inB a5 1 1024 <;> cases inB a6 1 64 <;> simp

set_option maxHeartbeats 1000000 in
theorem check_any (a0 a1 a2 a3 a4 a5 a6 : Int) (w : World) :
    Calls Tryz.prog 40 #[.agg #[.int .i64 a0, .int .i64 a1, .int .i64 a2, .int .i64 a3, .int .i64 a4, .int .i64 a5, .int .i64 a6]] w fun e w' =>
      e = .returned (.int .i64 (chkN (cfgB a0 a1 a2 a3 a4 a5 a6))) ∧ Below w.heap.size w w' := by
  rcases cfg_cases a0 a1 a2 a3 a4 a5 a6 with h0 | ⟨h0, h1⟩ | ⟨h0, h1, h2⟩ | ⟨h0, h1, h2, h3⟩ | ⟨h0, h1, h2, h3, h4⟩ | ⟨h0, h1, h2, h3, h4, h5⟩ | ⟨h0, h1, h2, h3, h4, h5, h6⟩ | ⟨h0, h1, h2, h3, h4, h5, h6⟩
  all_goals
    go_enter Tryz.func40, Tryz.ntmps40
    go_wp2_with (go_at_call 76; refine (within_any _ _ _ _).mono ?_; rintro e w' ⟨rfl, rfl⟩)
    go_ret
    exact ⟨by simp [chkN, cfgB, *], (Below.refl _ _).alloc (Nat.le_refl _) _⟩

theorem dec_cases (a0 a1 a2 a3 a4 a5 a6 : Int) (P : Prop)
    (k0 : inB a0 1 16 = false → P) (k1 : 1 ≤ a0 → a0 ≤ 16 → inB a1 1 16 = false → P) (k2 : 1 ≤ a0 → a0 ≤ 16 → 1 ≤ a1 → a1 ≤ 16 → inB a2 3 8 = false → P)
    (k3 : 1 ≤ a0 → a0 ≤ 16 → 1 ≤ a1 → a1 ≤ 16 → 3 ≤ a2 → a2 ≤ 8 → inB a3 1 1024 = false → P)
    (k4 : 1 ≤ a0 → a0 ≤ 16 → 1 ≤ a1 → a1 ≤ 16 → 3 ≤ a2 → a2 ≤ 8 → 1 ≤ a3 → a3 ≤ 1024 → inB a4 0 64 = false → P)
    (k5 : 1 ≤ a0 → a0 ≤ 16 → 1 ≤ a1 → a1 ≤ 16 → 3 ≤ a2 → a2 ≤ 8 → 1 ≤ a3 → a3 ≤ 1024 → 0 ≤ a4 → a4 ≤ 64 → inB a5 1 1024 = false → P)
    (k6 : 1 ≤ a0 → a0 ≤ 16 → 1 ≤ a1 → a1 ≤ 16 → 3 ≤ a2 → a2 ≤ 8 → 1 ≤ a3 → a3 ≤ 1024 → 0 ≤ a4 → a4 ≤ 64 → 1 ≤ a5 → a5 ≤ 1024 → inB a6 1 64 = false → P)
    (k7 : 1 ≤ a0 → a0 ≤ 16 → 1 ≤ a1 → a1 ≤ 16 → 3 ≤ a2 → a2 ≤ 8 → 1 ≤ a3 → a3 ≤ 1024 → 0 ≤ a4 → a4 ≤ 64 → 1 ≤ a5 → a5 ≤ 1024 → 1 ≤ a6 → a6 ≤ 64 → P) : P := by
  have q : ∀ n a b, inB n a b = true → a ≤ n ∧ n ≤ b := by intro n a b h; simpa [inB] using h
  rcases cfg_cases a0 a1 a2 a3 a4 a5 a6 with h0 | ⟨h0, h1⟩ | ⟨h0, h1, h2⟩ | ⟨h0, h1, h2, h3⟩ | ⟨h0, h1, h2, h3, h4⟩ | ⟨h0, h1, h2, h3, h4, h5⟩ | ⟨h0, h1, h2, h3, h4, h5, h6⟩ | ⟨h0, h1, h2, h3, h4, h5, h6⟩
  · exact k0 h0
  · exact k1 (q _ _ _ h0).1 (q _ _ _ h0).2 h1
  · exact k2 (q _ _ _ h0).1 (q _ _ _ h0).2 (q _ _ _ h1).1 (q _ _ _ h1).2 h2
  · exact k3 (q _ _ _ h0).1 (q _ _ _ h0).2 (q _ _ _ h1).1 (q _ _ _ h1).2 (q _ _ _ h2).1 (q _ _ _ h2).2 h3
  · exact k4 (q _ _ _ h0).1 (q _ _ _ h0).2 (q _ _ _ h1).1 (q _ _ _ h1).2 (q _ _ _ h2).1 (q _ _ _ h2).2 (q _ _ _ h3).1 (q _ _ _ h3).2 h4
  · exact k5 (q _ _ _ h0).1 (q _ _ _ h0).2 (q _ _ _ h1).1 (q _ _ _ h1).2 (q _ _ _ h2).1 (q _ _ _ h2).2 (q _ _ _ h3).1 (q _ _ _ h3).2 (q _ _ _ h4).1 (q _ _ _ h4).2 h5
  · exact k6 (q _ _ _ h0).1 (q _ _ _ h0).2 (q _ _ _ h1).1 (q _ _ _ h1).2 (q _ _ _ h2).1 (q _ _ _ h2).2 (q _ _ _ h3).1 (q _ _ _ h3).2 (q _ _ _ h4).1 (q _ _ _ h4).2 (q _ _ _ h5).1 (q _ _ _ h5).2 h6
  · exact k7 (q _ _ _ h0).1 (q _ _ _ h0).2 (q _ _ _ h1).1 (q _ _ _ h1).2 (q _ _ _ h2).1 (q _ _ _ h2).2 (q _ _ _ h3).1 (q _ _ _ h3).2 (q _ _ _ h4).1 (q _ _ _ h4).2 (q _ _ _ h5).1 (q _ _ _ h5).2 (q _ _ _ h6).1 (q _ _ _ h6).2

end Go.Proofs.YtkimmfdicohoiaaGreat.Wc
