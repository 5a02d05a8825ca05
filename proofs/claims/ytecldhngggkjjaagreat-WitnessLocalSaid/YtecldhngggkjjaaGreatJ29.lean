import Derived.Test.YtecldhngggkjjaaGreatJ23
set_option linter.unusedVariables false
set_option linter.unusedSimpArgs false
namespace Go.Proofs.YtecldhngggkjjaaGreat.Md
open Go.RowKit Mr
end Go.Proofs.YtecldhngggkjjaaGreat.Md
