/-
  SCRIPT: what the rows list gives the walks, errors.errorType too.
-/
import Derived.Test.YtfhkgeoionkonaaGreatDoorScLaid
import Derived.Test.YtfhkgeoionkonaaGreatDoorSeEx
import Derived.LaidHandle
import Derived.LaidLaws
namespace Go.Proofs.YtfhkgeoionkonaaGreatDoor.Sc
open Go.RowKit Go.Shelf
set_option linter.unusedVariables false
theorem gET : Tryz.prog.globalNamed "errors.errorType" = some 0 := by kernel_rfl
theorem gRT : (Tryz.prog.cutTypes.find? (·.1 == "internal/reflectlite.rtype")).map (·.2) = some 108 := by kernel_rfl
theorem oneRow : ((List.range 210).filter fun t => Tryz.prog.rowNamed t [101, 114, 114, 111, 114]) = [52] := by kernel_rfl
theorem nTypes : Tryz.prog.types.size = 210 := by kernel_rfl
def kq (x : String × DataW Unit) : Bool := x.1 == "errors.errorType"
theorem et_of_laid {W : World} (h0 : laidMetH Tryz.prog Rows.scriptLinesRow.laid W) : EtAt W := by
  have h := laidMetH.filter kq h0
  have hl : Rows.scriptLinesRow.laid.filter kq = [("errors.errorType", .iface "internal/reflectlite.rtype" (.agg [.ptr (.lit (.string [101, 114, 114, 111, 114]))]))] := by rfl
  rw [hl] at h
  have h' : laidMet Tryz.prog [] W ∧ handlesMet Tryz.prog [("errors.errorType", .iface "internal/reflectlite.rtype" (.agg [.ptr (.lit (.string [101, 114, 114, 111, 114]))]))] W := h
  obtain ⟨name, u, ty, e1, e2, e3, e4, e5⟩ := h'.2 _ (List.mem_singleton.2 rfl)
  have en : name = [101, 114, 114, 111, 114] := (Option.some.inj e1).symm
  subst en
  obtain rfl := Option.some.inj (gRT.symm.trans e2)
  have hm : ty ∈ (List.range 210).filter fun t => Tryz.prog.rowNamed t [101, 114, 114, 111, 114] := List.mem_filter.2 ⟨List.mem_range.2 (by rw [← nTypes]; exact e3), e4⟩
  rw [oneRow] at hm
  obtain rfl := List.mem_singleton.1 hm
  have hh : typeHandle Tryz.prog 52 = .pointer (some ⟨7, 52, none⟩) := by kernel_rfl
  rw [hh] at e5
  have := World.var?_cell gET e5 0
  unfold EtAt
  simpa using this
theorem envx_of_laid {W : World} (h0 : laidMetH Tryz.prog Rows.scriptLinesRow.laid W) (hs : W.ShapedOpen Tryz.prog) : EnvX W := ⟨env_of_laid h0 hs, et_of_laid h0⟩
end Go.Proofs.YtfhkgeoionkonaaGreatDoor.Sc
