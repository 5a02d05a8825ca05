import Derived.Test.YtegbcocbopgghaaMdDoP
import Derived.Test.YtegbcocbopgghaaMdApp
import Derived.Deep.RegionHeld3
import Derived.Deep.RegionLaw
/-
  reclaimmodel.keyed: the list's and the table's.
-/
namespace Go.Proofs.Ytegbcocbopgghaa.Md
open Go.RowKit Mr Me
set_option linter.unusedVariables false
set_option linter.unusedSimpArgs false
theorem dan_50 (x : Ct) (arg : Int) : dan x 50 arg = (if inB x.set arg then 6 else 5, 0) := rfl
theorem dan_51 (x : Ct) (arg : Int) : dan x 51 arg = (if inB x.set arg then 5 else 6, 0) := rfl
theorem dan_60 (x : Ct) (arg : Int) : dan x 60 arg = (if inB (keysOf x.table) arg then 6 else 5, 0) := rfl
theorem dan_61 (x : Ct) (arg : Int) : dan x 61 arg = getT x.table arg := rfl
theorem dan_62 (x : Ct) (arg : Int) : dan x 62 arg = getT x.table arg := rfl
theorem getT_n {l : List (Int × Int)} {k : Int} (h : inB (keysOf l) k = false) : getT l k = (6, 0) := by unfold getT; rw [h]; rfl
theorem getT_y {l : List (Int × Int)} {k : Int} (h : inB (keysOf l) k = true) : getT l k = (2, (l[plc (keysOf l) k]?.getD (0, 0)).2) := by unfold getT; rw [h]; rfl
theorem dnx_50 (x : Ct) (arg data : Int) : dnx x 50 arg data = { x with set := if inB x.set arg then x.set else insL x.set arg } := rfl
theorem dnx_51 (x : Ct) (arg data : Int) : dnx x 51 arg data = { x with set := if inB x.set arg then delL x.set arg else x.set } := rfl
theorem dnx_60 (x : Ct) (arg data : Int) : dnx x 60 arg data = { x with table := if inB (keysOf x.table) arg then x.table else insT x.table arg data } := rfl
theorem dnx_61 (x : Ct) (arg data : Int) : dnx x 61 arg data = { x with table := if inB (keysOf x.table) arg then delT x.table arg else x.table } := rfl
theorem inB_lt {l : List Int} {k : Int} (h : inB l k = true) : plc l k < l.length := by
  unfold inB at h
  by_cases hl : plc l k < l.length
  · exact hl
  · rw [in_no (by omega)] at h; cases h
theorem plc_le (l : List Int) (k : Int) : plc l k ≤ l.length := by unfold plc; exact (List.takeWhile_sublist _).length_le
theorem plcT_le (l : List (Int × Int)) (k : Int) : plc (l.map Prod.fst) k ≤ l.length := by have := plc_le (l.map Prod.fst) k; simpa using this
end Go.Proofs.Ytegbcocbopgghaa.Md
