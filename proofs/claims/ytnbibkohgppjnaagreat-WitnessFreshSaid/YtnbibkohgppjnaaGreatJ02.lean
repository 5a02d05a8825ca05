import Derived.Test.YtnbibkohgppjnaaGreatJ01
import Derived.Test.YtnbibkohgppjnaaGreatChecked
import Derived.Laws.AppendOwn
import Derived.WalkSpells
import Derived.Deep.RegionHeld3
set_option linter.unusedVariables false
set_option linter.unusedSimpArgs false
namespace Go.Proofs.YtnbibkohgppjnaaGreat.Md
open Go.RowKit Mr
def ans (k v : Int) : Value := .agg #[.int .i64 k, .int .i64 v]
end Go.Proofs.YtnbibkohgppjnaaGreat.Md
namespace Go.Proofs.YtnbibkohgppjnaaGreat.Me
open Go.RowKit Mr
section
variable {P : Program} (w : World)
end
end Go.Proofs.YtnbibkohgppjnaaGreat.Me
