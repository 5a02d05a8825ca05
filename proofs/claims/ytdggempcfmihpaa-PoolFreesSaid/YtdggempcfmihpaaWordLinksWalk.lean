import Derived.Test.YtdggempcfmihpaaWordPack
namespace Go.Proofs.Ytdggempcfmihpaa.Wp
open Go.RowKit
set_option linter.unusedVariables false
theorem refIsLink (x : Int) (w : World) (h0 : 0 ≤ x) (h1 : x ≤ 18446744073709551615) :
    Calls Try.prog 25 #[.int .u64 x] w fun e w' => e = .returned (.bool (isLinkB x)) ∧ w' = w := by
  by_cases h : x < 8589934592
  · go_enter Try.func25, Try.ntmps25
    go_wp2
    go_ret
    exact ⟨by simp [isLinkB, h], rfl⟩
  · go_enter Try.func25, Try.ntmps25
    go_wp2
    go_ret
    exact ⟨by simp [isLinkB]; omega, rfl⟩
theorem refLinkIndex (x : Int) (w : World) (h0 : 0 ≤ x) (h1 : x ≤ 18446744073709551615) :
    Calls Try.prog 27 #[.int .u64 x] w fun e w' => e = .returned (.int .i64 (x % 4294967296 - 1)) ∧ w' = w := by
  have h2 : 0 ≤ x % 4294967296 := by omega
  have h3 : x % 4294967296 < 4294967296 := by omega
  go_enter Try.func27, Try.ntmps27
  go_wp2
  go_ret
  exact ⟨rfl, rfl⟩
theorem refLinkMark (x : Int) (w : World) (h0 : 0 ≤ x) (h1 : x ≤ 18446744073709551615) :
    Calls Try.prog 26 #[.int .u64 x] w fun e w' => e = .returned (.bool (x / 4294967296 % 2 == 1)) ∧ w' = w := by
  go_enter Try.func26, Try.ntmps26
  go_wp2
  go_ret
  exact ⟨rfl, rfl⟩
end Go.Proofs.Ytdggempcfmihpaa.Wp
namespace Go.Proofs.Ytdggempcfmihpaa.Wp
open Go.RowKit
end Go.Proofs.Ytdggempcfmihpaa.Wp
