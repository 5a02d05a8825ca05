/-
  math/bits.Mul of one and a number.
-/
import Derived.Test.YtpckcfdjgpdooaaWordPlain
import Derived.Test.YtpckcfdjgpdooaaChecked
import Derived.WalkKit
import Derived.WalkSpells
import Derived.OpenShut
namespace Go.Proofs.Ytpckcfdjgpdooaa.Ma
open Go.RowKit
set_option maxRecDepth 100000 in
set_option maxHeartbeats 4000000 in
theorem mul_one (n : Nat) (h2 : n ≤ 65536) (w : World) : Calls Try.prog 49 #[.int .u64 1, .int .u64 (n : Int)] w fun e w' => e = .returned (.tuple #[.int .u64 0, .int .u64 (n : Int)]) ∧ w' = w := by
  have M : Calls Try.prog 59 #[.int .u64 1, .int .u64 (n : Int)] w fun e w' => e = .returned (.tuple #[.int .u64 0, .int .u64 (n : Int)]) ∧ w' = w := by
    have a1 : bits .and .u64 (n : Int) 4294967295 = (n : Int) := by rw [Wp.and_low _ (by omega) (by omega)]; omega
    have a2 : (n : Int) / 4294967296 = 0 := by omega
    have a3 : IntKind.u64.wrap (n : Int) = (n : Int) := Wp.wrapu64_small _ (by omega) (by omega)
    have a4 : bits .and .u64 1 4294967295 = 1 := by rw [Wp.and_low _ (by omega) (by omega)]; rfl
    have a5 : bits .and .u64 0 4294967295 = 0 := by rw [Wp.and_low _ (by omega) (by omega)]; rfl
    have a6 : IntKind.u64.wrap 0 = 0 := Wp.wrapu64_small _ (by omega) (by omega)
    go_enter Try.func59, Try.ntmps59
    go_wp2
    go_ret2
    exact ⟨rfl, rfl⟩
  go_enter Try.func49, Try.ntmps49
  go_wp2_with (go_at_call 59; refine M.mono ?_; clear M; rintro e w' ⟨rfl, hw⟩; obtain rfl := hw.symm)
  go_ret2
  exact ⟨rfl, rfl⟩
end Go.Proofs.Ytpckcfdjgpdooaa.Ma
