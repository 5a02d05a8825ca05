import Derived.Test.YtkimmfdicohoiaaWordMap
import Derived.Test.YtkimmfdicohoiaaWordBox
import Derived.Test.YtkimmfdicohoiaaChecked
import Derived.WalkKit
import Derived.WalkSpells
import Derived.OpenShut
import Derived.Deep.QuietTactic
import Derived.BigQuiet
import Derived.Test.YtkimmfdicohoiaaWordCfg
import Derived.Deep.RegionHeld3
import Derived.RegionTactic
/-
  CONTRACTS of Size, Addr and At.
-/
namespace Go.Proofs.Ytkimmfdicohoiaa.Wm
open Go.RowKit
open Wc
set_option linter.unusedVariables false
theorem ok_of {a0 a1 a2 a3 a4 a5 a6 : Int} (h : cfgB a0 a1 a2 a3 a4 a5 a6 = true) : Ok a1 a2 a5 a6 := by
  simp only [cfgB, inB, Bool.and_eq_true, decide_eq_true_eq] at h
  unfold Ok; omega
theorem chk_t : chkN true = 0 := rfl
theorem chk_f : chkN false = 1 := rfl
end Go.Proofs.Ytkimmfdicohoiaa.Wm
