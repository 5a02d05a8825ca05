import Derived.Test.YtnbibkohgppjnaaGreatJ06
set_option linter.unusedVariables false
set_option linter.unusedSimpArgs false
namespace Go.Proofs.YtnbibkohgppjnaaGreat.Md
open Go.RowKit Mr Me
end Go.Proofs.YtnbibkohgppjnaaGreat.Md
