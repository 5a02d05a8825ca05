import Derived.Test.YtdggempcfmihpaaWordLinksWalk
namespace Go.Proofs.Ytdggempcfmihpaa.Wp
open Go.RowKit
set_option linter.unusedVariables false
theorem refIsHead (x : Int) (w : World) (h0 : 0 ≤ x) (h1 : x ≤ 18446744073709551615) :
    Calls Try.prog 40 #[.int .u64 x] w fun e w' => e = .returned (.bool (decide (x % 4294967296 ≤ 2147483647))) ∧ w' = w := by
  go_enter Try.func40, Try.ntmps40
  go_wp2
  go_ret
  exact ⟨rfl, rfl⟩
end Go.Proofs.Ytdggempcfmihpaa.Wp
