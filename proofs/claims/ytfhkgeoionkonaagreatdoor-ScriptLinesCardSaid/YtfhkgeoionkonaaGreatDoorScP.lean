/-
  SCRIPT, pure: forms filled with numbers; lines of moves; the text of a script.
-/
import Derived.Test.YtfhkgeoionkonaaGreatDoorScTab
import Derived.Lib.AppendIntMem
import Derived.Lib.Repeat
namespace Go.Proofs.YtfhkgeoionkonaaGreatDoor.Sc
open Go.RowKit
set_option linter.unusedVariables false
set_option linter.unusedSimpArgs false
/-- A form filled: each 0 is the next number. -/
def fil : List UInt8 → List Int → List UInt8
  | [], _ => []
  | c :: r, ns => if c = 48 then (match ns with | [] => fil r [] | n :: ms => Lib.itoa n ++ fil r ms) else c :: fil r ns
/-- How many numbers a form wants. -/
def zer : List UInt8 → Nat
  | [] => 0
  | c :: r => (if c = 48 then 1 else 0) + zer r
/-- A move. -/
structure Mv where
  th : Int
  op : Int
  arg : Int
  data : Int
deriving DecidableEq
def noMv : Mv := ⟨0, 0, 0, 0⟩
def stp (t : Int) : Mv := ⟨t, 0, 0, 0⟩
def fMachine : List UInt8 := [109, 97, 99, 104, 105, 110, 101, 32, 116, 104, 114, 101, 97, 100, 115, 32, 48, 32, 114, 101, 99, 111, 114, 100, 115, 32, 48, 32, 104, 97, 122, 97, 114, 100, 115, 32, 48, 32, 114, 101, 116, 105, 114, 101, 32, 48, 32, 99, 97, 99, 104, 101, 32, 48, 32, 115, 108, 111, 116, 115, 32, 48, 32, 98, 117, 99, 107, 101, 116, 115, 32, 48]
def fStep : List UInt8 := [48, 32, 46]
def fSteps : List UInt8 := [48, 32, 46, 32, 48]
def fRounds : List UInt8 := [42, 32, 48]
def fOp : List UInt8 := [48, 32, 111, 112, 32, 48, 32, 48, 32, 48]
/-- A row of the table as a form. -/
def fCall (k : Nat) : List UInt8 := [48, 32] ++ (wdA k).data.toList ++ Lib.repeatL [32, 48] (tkA k).toNat
/-- The row of an op. -/
def rowOf (op : Int) : Option Nat := (List.range 21).find? (fun k => opA k == op)
/-- Has a line with the word all of the move? -/
def tels (k : Nat) (m : Mv) : Bool := (decide (0 < tkA k) || m.arg == 0) && (decide (1 < tkA k) || m.data == 0)
/-- The line of a move that is no step. -/
def callLn (m : Mv) : List UInt8 :=
  match rowOf m.op with
  | some k => if tels k m = true then fil (fCall k) [m.th, m.arg, m.data] ++ [10] else fil fOp [m.th, m.op, m.arg, m.data] ++ [10]
  | none => fil fOp [m.th, m.op, m.arg, m.data] ++ [10]
/-- How many steps of thread t a list begins with. -/
def stepsOf (t : Int) : List Mv → Nat
  | [] => 0
  | m :: r => if m = stp t then stepsOf t r + 1 else 0
theorem stepsOf_le (t : Int) : ∀ l, stepsOf t l ≤ l.length
  | [] => Nat.le_refl _
  | m :: r => by have := stepsOf_le t r; unfold stepsOf; split <;> simp <;> omega
/-- The first line, and how many moves it takes. -/
def lineOf (m : Mv) (r : List Mv) : List UInt8 × Nat :=
  if stepsOf m.th (m :: r) = 0 then (callLn m, 1)
  else if stepsOf m.th (m :: r) = 1 then (fil fStep [m.th] ++ [10], 1)
  else (fil fSteps [m.th, (stepsOf m.th (m :: r) : Int)] ++ [10], stepsOf m.th (m :: r))
theorem lineOf_pos (m : Mv) (r : List Mv) : 1 ≤ (lineOf m r).2 ∧ (lineOf m r).2 ≤ (m :: r).length := by
  have h := stepsOf_le m.th (m :: r)
  unfold lineOf
  split
  · simp
  · split
    · simp
    · dsimp only; omega
/-- The lines of a script; 'fuel' bounds them. -/
def linesF : Nat → List Mv → List UInt8
  | 0, _ => []
  | _ + 1, [] => []
  | f + 1, m :: r => (lineOf m r).1 ++ linesF f ((m :: r).drop (lineOf m r).2)
def lines (ms : List Mv) : List UInt8 := linesF ms.length ms
theorem linesF_fuel : ∀ (f : Nat) (ms : List Mv), ms.length ≤ f → linesF f ms = linesF ms.length ms := by
  intro f
  induction f using Nat.strongRecOn with
  | ind f ih =>
    intro ms h
    cases ms with
    | nil => cases f <;> rfl
    | cons m r =>
      obtain ⟨p1, p2⟩ := lineOf_pos m r
      cases f with
      | zero => simp at h
      | succ f =>
        simp only [List.length_cons, linesF]
        have hd : ((m :: r).drop (lineOf m r).2).length ≤ r.length := by simp; omega
        have hd2 : ((m :: r).drop (lineOf m r).2).length ≤ f := by simp at h; omega
        by_cases e : f = r.length
        · rw [e]
        · rw [ih f (by omega) _ hd2, ih r.length (by simp at h; omega) _ hd]
theorem lines_cons (m : Mv) (r : List Mv) : lines (m :: r) = (lineOf m r).1 ++ lines ((m :: r).drop (lineOf m r).2) := by
  have hd : ((m :: r).drop (lineOf m r).2).length ≤ r.length := by have := (lineOf_pos m r).1; simp; omega
  unfold lines
  simp only [List.length_cons, linesF]
  rw [linesF_fuel r.length _ hd]
/-- The text of a script. -/
def prints (c : List Int) (ms : List Mv) : List UInt8 := fil fMachine c ++ [10] ++ lines ms
end Go.Proofs.YtfhkgeoionkonaaGreatDoor.Sc
