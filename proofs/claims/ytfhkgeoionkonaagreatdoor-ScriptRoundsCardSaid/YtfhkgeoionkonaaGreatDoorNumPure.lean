import Derived.Test.YtfhkgeoionkonaaGreatDoorStrShow
/-
  NUMERALS, THERE AND BACK; cuts at a byte: no Go in sight.
-/
namespace Go.Proofs.YtfhkgeoionkonaaGreatDoor.St
open Go.RowKit
open Go.Lib (parseUint10 parseMag atoiAll decDigits itoa)
set_option linter.unusedVariables false
theorem dig_nat (d : Nat) (h : d < 10) : (UInt8.ofNat (48 + d)).toNat = 48 + d := by
  rw [UInt8.toNat_ofNat']; omega
theorem dec_ne (u : Nat) : decDigits u ≠ [] := by
  intro h
  have := congrArg List.length h
  rw [Lib.decDigits_length] at this
  have := Lib.nDigits_pos u
  simp at *
  omega
theorem ba_ext {a b : ByteArray} (h : a.data.toList = b.data.toList) : a = b := by
  have h : a.data = b.data := Array.toList_inj.mp h
  cases a; cases b; simp_all
theorem app_list (a b : ByteArray) : (a ++ b).data.toList = a.data.toList ++ b.data.toList := by
  rw [ByteArray.data_append, Array.toList_append]
end Go.Proofs.YtfhkgeoionkonaaGreatDoor.St
