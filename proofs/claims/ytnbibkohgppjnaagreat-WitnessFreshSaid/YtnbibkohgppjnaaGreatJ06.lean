import Derived.Test.YtnbibkohgppjnaaGreatJ05
import Derived.Deep.RegionLaw
set_option linter.unusedVariables false
set_option linter.unusedSimpArgs false
namespace Go.Proofs.YtnbibkohgppjnaaGreat.Md
open Go.RowKit Mr Me
def Tk (S : Nat → Prop) (lo : Nat) : Nat → Prop := fun k => (S k ∧ k < lo) ∨ lo + 3 ≤ k
theorem inB_lt {l : List Int} {k : Int} (h : inB l k = true) : plc l k < l.length := by
 unfold inB at h
 by_cases hl : plc l k < l.length
 ·exact hl
 ·rw [in_no (by omega)] at h; cases h
theorem plc_le (l : List Int) (k : Int) : plc l k ≤ l.length := by unfold plc; exact (List.takeWhile_sublist _).length_le
def Tn (S : Nat → Prop) (lo : Nat) : Nat → Prop := fun k => Tk S lo k ∧ k ≠ lo ∧ (k < lo ∨ lo + 3 ≤ k)
theorem plcT_le (l : List (Int × Int)) (k : Int) : plc (l.map Prod.fst) k ≤ l.length := by have := plc_le (l.map Prod.fst) k; simpa using this
end Go.Proofs.YtnbibkohgppjnaaGreat.Md
