import Derived.Test.YtnbibkohgppjnaaGreatJ10
set_option linter.unusedVariables false
set_option linter.unusedSimpArgs false
set_option maxRecDepth 100000
namespace Go.Proofs.YtnbibkohgppjnaaGreat.Wt
open Go.RowKit Mr Md
end Go.Proofs.YtnbibkohgppjnaaGreat.Wt
