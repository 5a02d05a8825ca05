import Derived.Test.YtkimmfdicohoiaaWordAddr
/-
  CONTRACT of Addr.
-/
namespace Go.Proofs.Ytkimmfdicohoiaa.Wm
open Go.RowKit
open Wc
set_option linter.unusedVariables false
theorem i64w (x : Int) (h1 : -9223372036854775808 ≤ x) (h2 : x ≤ 9223372036854775807) : IntKind.i64.wrap x = x := by
  simp [IntKind.wrap, IntKind.signed, IntKind.bits]; omega
theorem inB_iff {n a b : Int} (h : inB n a b = true) : a ≤ n ∧ n ≤ b := by simpa [inB] using h
end Go.Proofs.Ytkimmfdicohoiaa.Wm
