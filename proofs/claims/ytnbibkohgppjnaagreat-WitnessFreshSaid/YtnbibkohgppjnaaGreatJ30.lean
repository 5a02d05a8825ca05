import Derived.Test.YtnbibkohgppjnaaGreatJ24
set_option linter.unusedVariables false
set_option linter.unusedSimpArgs false
namespace Go.Proofs.YtnbibkohgppjnaaGreat.Md
open Go.RowKit Mr
end Go.Proofs.YtnbibkohgppjnaaGreat.Md
