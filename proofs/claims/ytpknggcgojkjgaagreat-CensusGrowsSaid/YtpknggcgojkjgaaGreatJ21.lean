import Derived.Test.YtpknggcgojkjgaaGreatChecked
import Derived.WalkKit
import Derived.WalkSpells
import Derived.OpenShut
import Derived.Outline
import Derived.Below
import Derived.Test.YtpknggcgojkjgaaGreatJ20
import Derived.Deep.RegionHeld3
import Derived.RegionTactic
/-
  CONTRACTS over api.Config: Check, the document's Config, small.
-/
namespace Go.Proofs.YtpknggcgojkjgaaGreat.Wc
open Go.RowKit
set_option linter.unusedVariables false

def inB (n a b : Int) : Bool := decide (a ≤ n) && decide (n ≤ b)
def cfgB (a0 a1 a2 a3 a4 a5 a6 : Int) : Bool := inB a0 1 16 && inB a1 1 16 && inB a2 3 8 && inB a3 1 1024 && inB a4 0 64 && inB a5 1 1024 && inB a6 1 64

theorem within_any (n a b : Int) (w : World) :
    Calls Tryz.prog 109 #[.int .i64 n, .int .i64 a, .int .i64 b] w fun e w' => e = .returned (.bool (inB n a b)) ∧ w' = w := by
  by_cases h : a ≤ n
  · go_enter Tryz.func109, Tryz.ntmps109
    go_wp2
    go_ret
    exact ⟨by simp [inB, h], rfl⟩
  · go_enter Tryz.func109, Tryz.ntmps109
    go_wp2
    go_ret
    exact ⟨by simp [inB]; omega, rfl⟩

def chkN (b : Bool) : Int := if b then 0 else 1
theorem cfg_cases (a0 a1 a2 a3 a4 a5 a6 : Int) :
    inB a0 1 16 = false ∨ (inB a0 1 16 = true ∧ inB a1 1 16 = false) ∨ (inB a0 1 16 = true ∧ inB a1 1 16 = true ∧ inB a2 3 8 = false) ∨
    (inB a0 1 16 = true ∧ inB a1 1 16 = true ∧ inB a2 3 8 = true ∧ inB a3 1 1024 = false) ∨
    (inB a0 1 16 = true ∧ inB a1 1 16 = true ∧ inB a2 3 8 = true ∧ inB a3 1 1024 = true ∧ inB a4 0 64 = false) ∨
    (inB a0 1 16 = true ∧ inB a1 1 16 = true ∧ inB a2 3 8 = true ∧ inB a3 1 1024 = true ∧ inB a4 0 64 = true ∧ inB a5 1 1024 = false) ∨
    (inB a0 1 16 = true ∧ inB a1 1 16 = true ∧ inB a2 3 8 = true ∧ inB a3 1 1024 = true ∧ inB a4 0 64 = true ∧ inB a5 1 1024 = true ∧ inB a6 1 64 = false) ∨
    (inB a0 1 16 = true ∧ inB a1 1 16 = true ∧ inB a2 3 8 = true ∧ inB a3 1 1024 = true ∧ inB a4 0 64 = true ∧ inB a5 1 1024 = true ∧ inB a6 1 64 = true) := by
  cases inB a0 1 16 <;> cases inB a1 1 16 <;> cases inB a2 3 8 <;> cases inB a3 1 1024 <;> cases inB a4 0 64 <;> cases inB a5 1 1024 <;> cases inB a6 1 64 <;> simp

set_option maxHeartbeats 1000000 in
theorem check_any (a0 a1 a2 a3 a4 a5 a6 : Int) (w : World) :
    Calls Tryz.prog 73 #[.agg #[.int .i64 a0, .int .i64 a1, .int .i64 a2, .int .i64 a3, .int .i64 a4, .int .i64 a5, .int .i64 a6]] w fun e w' =>
      e = .returned (.int .i64 (chkN (cfgB a0 a1 a2 a3 a4 a5 a6))) ∧ Below w.heap.size w w' := by
  rcases cfg_cases a0 a1 a2 a3 a4 a5 a6 with h0 | ⟨h0, h1⟩ | ⟨h0, h1, h2⟩ | ⟨h0, h1, h2, h3⟩ | ⟨h0, h1, h2, h3, h4⟩ | ⟨h0, h1, h2, h3, h4, h5⟩ | ⟨h0, h1, h2, h3, h4, h5, h6⟩ | ⟨h0, h1, h2, h3, h4, h5, h6⟩
  all_goals
    go_enter Tryz.func73, Tryz.ntmps73
    go_wp2_with (go_at_call 109; refine (within_any _ _ _ _).mono ?_; rintro e w' ⟨rfl, rfl⟩)
    go_ret
    exact ⟨by simp [chkN, cfgB, *], (Below.refl _ _).alloc (Nat.le_refl _) _⟩

theorem dec_cases (a0 a1 a2 a3 a4 a5 a6 : Int) (P : Prop)
    (k0 : inB a0 1 16 = false → P) (k1 : 1 ≤ a0 → a0 ≤ 16 → inB a1 1 16 = false → P) (k2 : 1 ≤ a0 → a0 ≤ 16 → 1 ≤ a1 → a1 ≤ 16 → inB a2 3 8 = false → P)
    (k3 : 1 ≤ a0 → a0 ≤ 16 → 1 ≤ a1 → a1 ≤ 16 → 3 ≤ a2 → a2 ≤ 8 → inB a3 1 1024 = false → P)
    (k4 : 1 ≤ a0 → a0 ≤ 16 → 1 ≤ a1 → a1 ≤ 16 → 3 ≤ a2 → a2 ≤ 8 → 1 ≤ a3 → a3 ≤ 1024 → inB a4 0 64 = false → P)
    (k5 : 1 ≤ a0 → a0 ≤ 16 → 1 ≤ a1 → a1 ≤ 16 → 3 ≤ a2 → a2 ≤ 8 → 1 ≤ a3 → a3 ≤ 1024 → 0 ≤ a4 → a4 ≤ 64 → inB a5 1 1024 = false → P)
    (k6 : 1 ≤ a0 → a0 ≤ 16 → 1 ≤ a1 → a1 ≤ 16 → 3 ≤ a2 → a2 ≤ 8 → 1 ≤ a3 → a3 ≤ 1024 → 0 ≤ a4 → a4 ≤ 64 → 1 ≤ a5 → a5 ≤ 1024 → inB a6 1 64 = false → P)
    (k7 : 1 ≤ a0 → a0 ≤ 16 → 1 ≤ a1 → a1 ≤ 16 → 3 ≤ a2 → a2 ≤ 8 → 1 ≤ a3 → a3 ≤ 1024 → 0 ≤ a4 → a4 ≤ 64 → 1 ≤ a5 → a5 ≤ 1024 → 1 ≤ a6 → a6 ≤ 64 → P) : P := by
  have q : ∀ n a b, inB n a b = true → a ≤ n ∧ n ≤ b := by intro n a b h; simpa [inB] using h
  rcases cfg_cases a0 a1 a2 a3 a4 a5 a6 with h0 | ⟨h0, h1⟩ | ⟨h0, h1, h2⟩ | ⟨h0, h1, h2, h3⟩ | ⟨h0, h1, h2, h3, h4⟩ | ⟨h0, h1, h2, h3, h4, h5⟩ | ⟨h0, h1, h2, h3, h4, h5, h6⟩ | ⟨h0, h1, h2, h3, h4, h5, h6⟩
  · exact k0 h0
  · exact k1 (q _ _ _ h0).1 (q _ _ _ h0).2 h1
  · exact k2 (q _ _ _ h0).1 (q _ _ _ h0).2 (q _ _ _ h1).1 (q _ _ _ h1).2 h2
  · exact k3 (q _ _ _ h0).1 (q _ _ _ h0).2 (q _ _ _ h1).1 (q _ _ _ h1).2 (q _ _ _ h2).1 (q _ _ _ h2).2 h3
  · exact k4 (q _ _ _ h0).1 (q _ _ _ h0).2 (q _ _ _ h1).1 (q _ _ _ h1).2 (q _ _ _ h2).1 (q _ _ _ h2).2 (q _ _ _ h3).1 (q _ _ _ h3).2 h4
  · exact k5 (q _ _ _ h0).1 (q _ _ _ h0).2 (q _ _ _ h1).1 (q _ _ _ h1).2 (q _ _ _ h2).1 (q _ _ _ h2).2 (q _ _ _ h3).1 (q _ _ _ h3).2 (q _ _ _ h4).1 (q _ _ _ h4).2 h5
  · exact k6 (q _ _ _ h0).1 (q _ _ _ h0).2 (q _ _ _ h1).1 (q _ _ _ h1).2 (q _ _ _ h2).1 (q _ _ _ h2).2 (q _ _ _ h3).1 (q _ _ _ h3).2 (q _ _ _ h4).1 (q _ _ _ h4).2 (q _ _ _ h5).1 (q _ _ _ h5).2 h6
  · exact k7 (q _ _ _ h0).1 (q _ _ _ h0).2 (q _ _ _ h1).1 (q _ _ _ h1).2 (q _ _ _ h2).1 (q _ _ _ h2).2 (q _ _ _ h3).1 (q _ _ _ h3).2 (q _ _ _ h4).1 (q _ _ _ h4).2 (q _ _ _ h5).1 (q _ _ _ h5).2 (q _ _ _ h6).1 (q _ _ _ h6).2

end Go.Proofs.YtpknggcgojkjgaaGreat.Wc
/-
  CONTRACTS of Size, Addr and At.
-/
namespace Go.Proofs.YtpknggcgojkjgaaGreat.Wm
open Go.RowKit
open Wc
set_option linter.unusedVariables false
theorem ok_of {a0 a1 a2 a3 a4 a5 a6 : Int} (h : cfgB a0 a1 a2 a3 a4 a5 a6 = true) : Ok a1 a2 a5 a6 := by
  simp only [cfgB, inB, Bool.and_eq_true, decide_eq_true_eq] at h
  unfold Ok; omega
theorem chk_t : chkN true = 0 := rfl
theorem chk_f : chkN false = 1 := rfl
theorem size_ok (a0 a1 a2 a3 a4 a5 a6 : Int) (w : World) (hc : cfgB a0 a1 a2 a3 a4 a5 a6 = true) :
    Calls Tryz.prog 110 #[.agg #[.int .i64 a0, .int .i64 a1, .int .i64 a2, .int .i64 a3, .int .i64 a4, .int .i64 a5, .int .i64 a6]] w fun e w' =>
      e = .returned (.tuple #[.int .i64 (base a1 a2 a5 a6 14), .int .i64 0]) ∧ Below w.heap.size w w' := by
  have hok := ok_of hc
  have k1 := chk_t
  go_enter Tryz.func110, Tryz.ntmps110
  go_wp2_with fail
  refine (check_any _ _ _ _ _ _ _ _).mono ?_
  rintro e w1 ⟨rfl, hb1⟩
  have B1 := Bx.boxSeq (Bx.box0 _ _) hb1
  clear hb1
  have q1 := Bx.boxCell B1
  go_wp2_with fail
  refine (start_i _ _ _ _ _ _ _ _ _ hok (by decide) (by decide)).mono ?_
  rintro e w2 ⟨rfl, hb2⟩
  have B2 := Bx.boxSeq B1 hb2
  clear hb2 q1 B1
  go_wp2_with fail
  go_ret2
  exact ⟨rfl, Bx.boxEnd B2⟩
theorem size_bad (a0 a1 a2 a3 a4 a5 a6 : Int) (w : World) (hc : cfgB a0 a1 a2 a3 a4 a5 a6 = false) :
    Calls Tryz.prog 110 #[.agg #[.int .i64 a0, .int .i64 a1, .int .i64 a2, .int .i64 a3, .int .i64 a4, .int .i64 a5, .int .i64 a6]] w fun e w' =>
      e = .returned (.tuple #[.int .i64 0, .int .i64 1]) ∧ Below w.heap.size w w' := by
  have k1 := chk_f
  go_enter Tryz.func110, Tryz.ntmps110
  go_wp2_with fail
  refine (check_any _ _ _ _ _ _ _ _).mono ?_
  rintro e w1 ⟨rfl, hb1⟩
  have B1 := Bx.boxSeq (Bx.box0 _ _) hb1
  clear hb1
  go_wp2_with fail
  go_ret2
  exact ⟨rfl, Bx.boxEnd B1⟩
end Go.Proofs.YtpknggcgojkjgaaGreat.Wm
