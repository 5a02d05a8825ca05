import Derived.Test.YtbbgobahhcfjjaaChecked
import Derived.WalkKit
import Derived.OpenShut
import Derived.Below
namespace Go.Proofs.Ytbbgobahhcfjjaa.Wn
open Go.RowKit
theorem e2 : (wrap64 18446744073709551614 != -2) = false := by simp [wrap64]
theorem e3 (a : Int) (h : (Lit.int .i64 a).wf = true) : (wrap64 (IntKind.u64.wrap a) == a) = true := by
  have := bounds_i64 h
  simp [wrap64, IntKind.wrap, IntKind.signed, IntKind.bits]
  omega
set_option maxHeartbeats 400000 in
theorem walk_numbers (a0 : Int) (a1 : Int) (w : World) (w0 : (Lit.int .i64 a0).wf = true) (_w1 : (Lit.int .u64 a1).wf = true) :
    Calls Try.prog 3 #[.int .i64 a0, .int .u64 a1] w fun e w' => e = .returned (.bool true) ∧ Below w.heap.size w w' := by
  have e2 := e2
  have e3 := e3 a0 w0
  go_enter Try.func3, Try.ntmps3
  go_wp2
  go_ret
  exact ⟨rfl, Below.refl _ _⟩
end Go.Proofs.Ytbbgobahhcfjjaa.Wn
