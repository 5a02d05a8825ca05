import Derived.Test.YtegbcocbopgghabMdCopy
import Derived.Deep.Cut
/-
  reclaimmodel.Part, of any contents.
-/
namespace Go.Proofs.Ytegbcocbopgghab.Md
open Go.RowKit Mr Me
set_option linter.unusedVariables false
set_option linter.unusedSimpArgs false
/-- One object's contents. -/
def prt (x : Ct) (o : Int) : Ct := ⟨if o = 1 then x.cell else [], if o = 2 then x.stack else [], if o = 3 then x.queue else [], if o = 4 then x.set else [], if o = 5 then x.table else []⟩
def nil5 : Obj := ctO (.slice none 0 0) (.slice none 0 0) (.slice none 0 0) (.slice none 0 0) (.slice none 0 0)
end Go.Proofs.Ytegbcocbopgghab.Md
