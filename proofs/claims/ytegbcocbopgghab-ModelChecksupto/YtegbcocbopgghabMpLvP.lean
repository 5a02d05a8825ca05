/-
  Package model: lengths behind an insert and a delete.
-/
import Derived.Test.YtegbcocbopgghabMpSet
import Derived.Test.YtegbcocbopgghabMpIns
import Derived.Test.YtegbcocbopgghabMpLeave
import Derived.Deep.RegionWith
namespace Go.Proofs.Ytegbcocbopgghab.Md
open Go.RowKit Mr
set_option linter.unusedVariables false
set_option linter.unusedSimpArgs false
theorem insM_len (l : List Int) (k : Int) : (insL l k).length = l.length + 1 := by
  have := plcM_le l k
  unfold insL
  simp; omega
theorem delM_len {l : List Int} {k : Int} (h : inB l k = true) : (delL l k).length = l.length - 1 := by
  have := plcM_lt h
  unfold delL
  simp; omega
theorem keysM_len (t : List (Int × Int)) : (keysOf t).length = t.length := by unfold keysOf; exact List.length_map ..
theorem insMT_len (t : List (Int × Int)) (k d : Int) : (insT t k d).length = t.length + 1 := by
  have := plcM_le (keysOf t) k
  rw [keysM_len] at this
  unfold insT
  simp; omega
theorem delMT_len {t : List (Int × Int)} {k : Int} (h : inB (keysOf t) k = true) : (delT t k).length = t.length - 1 := by
  have := plcM_lt h
  rw [keysM_len] at this
  unfold delT
  simp; omega
end Go.Proofs.Ytegbcocbopgghab.Md
