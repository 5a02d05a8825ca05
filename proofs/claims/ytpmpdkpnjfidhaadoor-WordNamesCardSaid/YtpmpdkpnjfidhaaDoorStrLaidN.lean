/-
  WHAT THE ROWS LIST GIVES THE WALKS: the table and the two sentinels; and one start that fits.
-/
import Derived.Test.YtpmpdkpnjfidhaaDoorStrEnv
import Derived.Test.YtpmpdkpnjfidhaaDoorRows
import Derived.Lib.LaidTab
import Derived.Stop.LaidErr
import Derived.LaidMore
import Derived.Stop.Joined
namespace Go.Proofs.YtpmpdkpnjfidhaaDoor.St
open Go.RowKit Go.Shelf
set_option linter.unusedVariables false
theorem gES : Tryd.prog.globalNamed "strconv.ErrSyntax" = some 2 := by kernel_rfl
theorem gESType : (Tryd.prog.globals[2]?).map (·.type) = some 86 := by kernel_rfl
theorem gER : Tryd.prog.globalNamed "strconv.ErrRange" = some 3 := by kernel_rfl
theorem gERType : (Tryd.prog.globals[3]?).map (·.type) = some 86 := by kernel_rfl
theorem gP : Tryd.prog.globalNamed "internal/strconv.uint64pow10" = some 0 := by kernel_rfl
theorem gPType : (Tryd.prog.globals[0]?).map (·.type) = some 98 := by kernel_rfl
theorem star : "*" ++ "errors.errorString" = "*errors.errorString" := by decide
theorem rowES (u : TypeId) (h : Tryd.prog.typeName? 3 u = some "*errors.errorString") : u = 124 :=
  typeName_ptr_named (nm := "errors.errorString") (by rw [star]; kernel_rfl) (by kernel_rfl) (by decide) u (by rw [star]; exact h)
theorem env_of_laid {W : World} (h : laidMetH Tryd.prog Rows.wordNamesRow.laid W) : Env W := by
  rw [MakeChecks.laidMetH_plain _ _ _ (by kernel_rfl)] at h
  have t := Lib.tabIs_of_head (zs := Lib.pow10Tab) gP gPType Tryd.underlying98 Tryd.underlying36 (by kernel_rfl) (by kernel_rfl) h.tail.tail
  obtain ⟨a1, s1, hv1, -, -, -⟩ := laid_sentinel h.tail.tail.tail gER gERType Tryd.underlying86 rowES Tryd.underlying124 Tryd.underlying126 rfl rfl Tryd.underlying9 (by kernel_rfl) (by kernel_rfl)
  obtain ⟨a0, s0, hv0, -, -, -⟩ := laid_sentinel h.tail.tail.tail.tail gES gESType Tryd.underlying86 rowES Tryd.underlying124 Tryd.underlying126 rfl rfl Tryd.underlying9 (by kernel_rfl) (by kernel_rfl)
  have c0 := World.var?_cell gES hv0 0
  have c1 := World.var?_cell gER hv1 0
  have d1 : W.cell? ⟨3, 0, none⟩ = some (.iface 124 (.pointer (some a1))) := by simpa using c1
  exact ⟨t, ⟨_, _, by simpa using c0⟩, ⟨_, _, d1⟩, World.block_lt_of_cell? _ _ d1⟩
theorem door_met (os : Os) (args : Array Value) : laidMetH Tryd.prog Rows.wordNamesRow.laid ((World.doorLaid Tryd.prog 400 os).forCall (fun _ _ => 0) ⟨#[], args, []⟩).memory :=
  laidMetH_of_parts3 (fuel := 8) (laidMet_of_run' 8 (by kernel_rfl) (by kernel_rfl)) (by kernel_rfl) (by kernel_rfl)
end Go.Proofs.YtpmpdkpnjfidhaaDoor.St
