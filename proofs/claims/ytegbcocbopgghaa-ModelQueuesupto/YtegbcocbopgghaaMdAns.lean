import Derived.Test.YtegbcocbopgghaaMdObj
/-
  reclaimmodel's answers: kind, value, yes.
-/
namespace Go.Proofs.Ytegbcocbopgghaa.Md
open Go.RowKit Mr
set_option linter.unusedVariables false
set_option linter.unusedSimpArgs false
def ans (k v : Int) : Value := .agg #[.int .i64 k, .int .i64 v]



end Go.Proofs.Ytegbcocbopgghaa.Md
