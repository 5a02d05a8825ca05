/-
  CONTRACTS over api.Config: Check, the document's Config, small.
-/
import Derived.Test.YtfhkgeoionkonaaGreatDoorChecked
import Derived.WalkKit
import Derived.WalkSpells
import Derived.OpenShut
import Derived.Outline
import Derived.Below
namespace Go.Proofs.YtfhkgeoionkonaaGreatDoor.Wc
open Go.RowKit
set_option linter.unusedVariables false

def inB (n a b : Int) : Bool := decide (a ≤ n) && decide (n ≤ b)
def cfgB (a0 a1 a2 a3 a4 a5 a6 : Int) : Bool := inB a0 1 16 && inB a1 1 16 && inB a2 3 8 && inB a3 1 1024 && inB a4 0 64 && inB a5 1 1024 && inB a6 1 64

theorem within_any (n a b : Int) (w : World) :
    Calls Tryz.prog 32 #[.int .i64 n, .int .i64 a, .int .i64 b] w fun e w' => e = .returned (.bool (inB n a b)) ∧ w' = w := by
  by_cases h : a ≤ n
  · go_enter Tryz.func32, Tryz.ntmps32
    go_wp2
    go_ret
    exact ⟨by simp [inB, h], rfl⟩
  · go_enter Tryz.func32, Tryz.ntmps32
    go_wp2
    go_ret
    exact ⟨by simp [inB]; omega, rfl⟩

def chkN (b : Bool) : Int := if b then 0 else 1
theorem cfg_cases (a0 a1 a2 a3 a4 a5 a6 : Int) :
    inB a0 1 16 = false ∨ (inB a0 1 16 = true ∧ inB a1 1 16 = false) ∨ (inB a0 1 16 = true ∧ inB a1 1 16 = true ∧ inB a2 3 8 = false) ∨
    (inB a0 1 16 = true ∧ inB a1 1 16 = true ∧ inB a2 3 8 = true ∧ inB a3 1 1024 = false) ∨
    (inB a0 1 16 = true ∧ inB a1 1 16 = true ∧ inB a2 3 8 = true ∧ inB a3 1 1024 = true ∧ inB a4 0 64 = false) ∨
    (inB a0 1 16 = true ∧ inB a1 1 16 = true ∧ inB a2 3 8 = true ∧ inB a3 1 1024 = true ∧ inB a4 0 64 = true ∧ inB a5 1 1024 = false) ∨
    (inB a0 1 16 = true ∧ inB a1 1 16 = true ∧ inB a2 3 8 = true ∧ inB a3 1 1024 = true ∧ inB a4 0 64 = true ∧ inB a5 1 1024 = true ∧ inB a6 1 64 = false) ∨
    (inB a0 1 16 = true ∧ inB a1 1 16 = true ∧ inB a2 3 8 = true ∧ inB a3 1 1024 = true ∧ inB a4 0 64 = true ∧ inB a5 1 1024 = true ∧ inB a6 1 64 = true) := by
  cases inB a0 1 16 <;> cases inB a1 1 16 <;> cases inB a2 3 8 <;> cases inB a3 1 1024 <;> cases inB a4 0 64 <;> cases inB a5 1 1024 <;> cases inB a6 1 64 <;> simp

set_option maxHeartbeats 1000000 in
theorem check_any (a0 a1 a2 a3 a4 a5 a6 : Int) (w : World) :
    Calls Tryz.prog 24 #[.agg #[.int .i64 a0, .int .i64 a1, .int .i64 a2, .int .i64 a3, .int .i64 a4, .int .i64 a5, .int .i64 a6]] w fun e w' =>
      e = .returned (.int .i64 (chkN (cfgB a0 a1 a2 a3 a4 a5 a6))) ∧ Below w.heap.size w w' := by
  rcases cfg_cases a0 a1 a2 a3 a4 a5 a6 with h0 | ⟨h0, h1⟩ | ⟨h0, h1, h2⟩ | ⟨h0, h1, h2, h3⟩ | ⟨h0, h1, h2, h3, h4⟩ | ⟨h0, h1, h2, h3, h4, h5⟩ | ⟨h0, h1, h2, h3, h4, h5, h6⟩ | ⟨h0, h1, h2, h3, h4, h5, h6⟩
  all_goals
    go_enter Tryz.func24, Tryz.ntmps24
    go_wp2_with (go_at_call 32; refine (within_any _ _ _ _).mono ?_; rintro e w' ⟨rfl, rfl⟩)
    go_ret
    exact ⟨by simp [chkN, cfgB, *], (Below.refl _ _).alloc (Nat.le_refl _) _⟩

theorem dec_cases (a0 a1 a2 a3 a4 a5 a6 : Int) (P : Prop)
    (k0 : inB a0 1 16 = false → P) (k1 : 1 ≤ a0 → a0 ≤ 16 → inB a1 1 16 = false → P) (k2 : 1 ≤ a0 → a0 ≤ 16 → 1 ≤ a1 → a1 ≤ 16 → inB a2 3 8 = false → P)
    (k3 : 1 ≤ a0 → a0 ≤ 16 → 1 ≤ a1 → a1 ≤ 16 → 3 ≤ a2 → a2 ≤ 8 → inB a3 1 1024 = false → P)
    (k4 : 1 ≤ a0 → a0 ≤ 16 → 1 ≤ a1 → a1 ≤ 16 → 3 ≤ a2 → a2 ≤ 8 → 1 ≤ a3 → a3 ≤ 1024 → inB a4 0 64 = false → P)
    (k5 : 1 ≤ a0 → a0 ≤ 16 → 1 ≤ a1 → a1 ≤ 16 → 3 ≤ a2 → a2 ≤ 8 → 1 ≤ a3 → a3 ≤ 1024 → 0 ≤ a4 → a4 ≤ 64 → inB a5 1 1024 = false → P)
    (k6 : 1 ≤ a0 → a0 ≤ 16 → 1 ≤ a1 → a1 ≤ 16 → 3 ≤ a2 → a2 ≤ 8 → 1 ≤ a3 → a3 ≤ 1024 → 0 ≤ a4 → a4 ≤ 64 → 1 ≤ a5 → a5 ≤ 1024 → inB a6 1 64 = false → P)
    (k7 : 1 ≤ a0 → a0 ≤ 16 → 1 ≤ a1 → a1 ≤ 16 → 3 ≤ a2 → a2 ≤ 8 → 1 ≤ a3 → a3 ≤ 1024 → 0 ≤ a4 → a4 ≤ 64 → 1 ≤ a5 → a5 ≤ 1024 → 1 ≤ a6 → a6 ≤ 64 → P) : P := by
  have q : ∀ n a b, inB n a b = true → a ≤ n ∧ n ≤ b := by intro n a b h; simpa [inB] using h
  rcases cfg_cases a0 a1 a2 a3 a4 a5 a6 with h0 | ⟨h0, h1⟩ | ⟨h0, h1, h2⟩ | ⟨h0, h1, h2, h3⟩ | ⟨h0, h1, h2, h3, h4⟩ | ⟨h0, h1, h2, h3, h4, h5⟩ | ⟨h0, h1, h2, h3, h4, h5, h6⟩ | ⟨h0, h1, h2, h3, h4, h5, h6⟩
  · exact k0 h0
  · exact k1 (q _ _ _ h0).1 (q _ _ _ h0).2 h1
  · exact k2 (q _ _ _ h0).1 (q _ _ _ h0).2 (q _ _ _ h1).1 (q _ _ _ h1).2 h2
  · exact k3 (q _ _ _ h0).1 (q _ _ _ h0).2 (q _ _ _ h1).1 (q _ _ _ h1).2 (q _ _ _ h2).1 (q _ _ _ h2).2 h3
  · exact k4 (q _ _ _ h0).1 (q _ _ _ h0).2 (q _ _ _ h1).1 (q _ _ _ h1).2 (q _ _ _ h2).1 (q _ _ _ h2).2 (q _ _ _ h3).1 (q _ _ _ h3).2 h4
  · exact k5 (q _ _ _ h0).1 (q _ _ _ h0).2 (q _ _ _ h1).1 (q _ _ _ h1).2 (q _ _ _ h2).1 (q _ _ _ h2).2 (q _ _ _ h3).1 (q _ _ _ h3).2 (q _ _ _ h4).1 (q _ _ _ h4).2 h5
  · exact k6 (q _ _ _ h0).1 (q _ _ _ h0).2 (q _ _ _ h1).1 (q _ _ _ h1).2 (q _ _ _ h2).1 (q _ _ _ h2).2 (q _ _ _ h3).1 (q _ _ _ h3).2 (q _ _ _ h4).1 (q _ _ _ h4).2 (q _ _ _ h5).1 (q _ _ _ h5).2 h6
  · exact k7 (q _ _ _ h0).1 (q _ _ _ h0).2 (q _ _ _ h1).1 (q _ _ _ h1).2 (q _ _ _ h2).1 (q _ _ _ h2).2 (q _ _ _ h3).1 (q _ _ _ h3).2 (q _ _ _ h4).1 (q _ _ _ h4).2 (q _ _ _ h5).1 (q _ _ _ h5).2 (q _ _ _ h6).1 (q _ _ _ h6).2

end Go.Proofs.YtfhkgeoionkonaaGreatDoor.Wc
