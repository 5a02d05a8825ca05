import Derived.Test.YtfgnaffomglmdaaGreatJ29
/-
  Package model: Do of the stack.
-/
namespace Go.Proofs.YtfgnaffomglmdaaGreat.Md
open Go.RowKit Mr
set_option linter.unusedVariables false
set_option linter.unusedSimpArgs false

end Go.Proofs.YtfgnaffomglmdaaGreat.Md
/-
  Package model: Do of the queue.
-/
namespace Go.Proofs.YtfgnaffomglmdaaGreat.Md
open Go.RowKit Mr
set_option linter.unusedVariables false
set_option linter.unusedSimpArgs false

end Go.Proofs.YtfgnaffomglmdaaGreat.Md
