import Derived.Test.YtcomelbphdjnnaaGreatDoorJ21
import Derived.Lib.ItoaLen
import Derived.Test.YtcomelbphdjnnaaGreatDoorShelf
import Derived.Lib.AppendIntMem
import Derived.Lib.AtoiErrMem
import Derived.Lib.ItoaMem
import Derived.Test.YtcomelbphdjnnaaGreatDoorChecked
import Derived.Laws.BitsAllLaws
import Derived.Laws.Wrap64
import Derived.OpenShut
import Derived.WalkKit
import Derived.WalkSpells
import Derived.Outline
/-
  CONTRACTS of Show and its parts.
-/
namespace Go.Proofs.YtcomelbphdjnnaaGreatDoor.St
open Go.RowKit
open Tr
set_option linter.unusedVariables false
def dec (u : Int) : ByteArray := ⟨(Lib.decDigits u.toNat).toArray⟩
def ito (n : Int) : ByteArray := ⟨(Lib.itoa n).toArray⟩
def slotT (i : Int) : ByteArray := if i = -1 then ⟨#[45]⟩ else ito i
def badL (x : Int) : Bool := decide (8589934592 ≤ x) || decide (2147483647 < x % 4294967296)
def shH (x : Int) : ByteArray × Int := if decide (2147483647 < x % 4294967296) then (⟨#[]⟩, 10) else ((dec (x / 4294967296) ++ ⟨#[58]⟩) ++ slotT (x % 4294967296 - 1), 0)
def shP (x : Int) : ByteArray × Int := if badL x || (x / 4294967296 % 2 == 1) then (⟨#[]⟩, 10) else (slotT (x % 4294967296 - 1), 0)
def shL (x : Int) : ByteArray × Int := if badL x then (⟨#[]⟩, 10) else if x / 4294967296 % 2 == 1 then (slotT (x % 4294967296 - 1) ++ ⟨#[42]⟩, 0) else (slotT (x % 4294967296 - 1), 0)
def shF (x : Int) : ByteArray × Int := if decide (1 < x) then (⟨#[]⟩, 10) else (dec x, 0)
def shV (x : Int) : ByteArray × Int := (ito (wrap64 x), 0)
def shw (r x : Int) : ByteArray × Int :=
  if decide (1 ≤ r) && decide (r ≤ 13) then
    if tKind r = 0 then shH x else if tKind r = 1 then shP x else if tKind r = 2 then shF x else if tKind r = 4 then shL x else shV x
  else (⟨#[]⟩, 2)
theorem dec_size (u : Int) (h0 : 0 ≤ u) (h1 : u ≤ 18446744073709551615) : (dec u).size ≤ 20 := by
  obtain ⟨n, rfl⟩ := Int.eq_ofNat_of_zero_le h0
  show (Lib.decDigits n).length ≤ 20
  rw [Lib.decDigits_length]
  exact Lib.nDigits_le20 n (by omega)
theorem wrap64_bd (x : Int) : -9223372036854775808 ≤ wrap64 x ∧ wrap64 x ≤ 9223372036854775807 := by
  unfold wrap64; omega
end Go.Proofs.YtcomelbphdjnnaaGreatDoor.St
/-
  NUMERALS, THERE AND BACK; cuts at a byte: no Go in sight.
-/
namespace Go.Proofs.YtcomelbphdjnnaaGreatDoor.St
open Go.RowKit
open Go.Lib (parseUint10 parseMag atoiAll decDigits itoa)
open Tr
set_option linter.unusedVariables false
theorem dig_nat (d : Nat) (h : d < 10) : (UInt8.ofNat (48 + d)).toNat = 48 + d := by
  rw [UInt8.toNat_ofNat']; omega
theorem dec_digs (u : Nat) : ∀ b ∈ decDigits u, 48 ≤ b.toNat ∧ b.toNat ≤ 57 := by
  induction u using Nat.strongRecOn with
  | _ u ih =>
    by_cases h : u < 10
    · rw [Lib.decDigits_one h]
      intro b hb
      rw [List.mem_singleton] at hb
      subst hb
      rw [dig_nat u h]; omega
    · rw [decDigits, dif_neg h]
      intro b hb
      rcases List.mem_append.1 hb with hb | hb
      · exact ih (u / 10) (by omega) b hb
      · rw [List.mem_singleton] at hb
        subst hb
        rw [dig_nat (u % 10) (by omega)]; omega
theorem dec_ne (u : Nat) : decDigits u ≠ [] := by
  intro h
  have := congrArg List.length h
  rw [Lib.decDigits_length] at this
  have := Lib.nDigits_pos u
  simp at *
  omega
theorem ba_ext {a b : ByteArray} (h : a.data.toList = b.data.toList) : a = b := by
  have h : a.data = b.data := Array.toList_inj.mp h
  cases a; cases b; simp_all
theorem app_list (a b : ByteArray) : (a ++ b).data.toList = a.data.toList ++ b.data.toList := by
  rw [ByteArray.data_append, Array.toList_append]
theorem ext_list (a : ByteArray) (i j : Nat) : (a.extract i j).data.toList = (a.data.toList.take j).drop i := by
  rw [ByteArray.data_extract, Array.toList_extract, List.extract_eq_take_drop, List.drop_take]
end Go.Proofs.YtcomelbphdjnnaaGreatDoor.St
