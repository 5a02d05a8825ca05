import Derived.Test.YtegbcocbopgghacMdCopy
import Derived.Deep.Cut
/-
  reclaimmodel.Part, of any contents.
-/
namespace Go.Proofs.Ytegbcocbopgghac.Md
open Go.RowKit Mr Me
set_option linter.unusedVariables false
set_option linter.unusedSimpArgs false
def nil5 : Obj := ctO (.slice none 0 0) (.slice none 0 0) (.slice none 0 0) (.slice none 0 0) (.slice none 0 0)
end Go.Proofs.Ytegbcocbopgghac.Md
