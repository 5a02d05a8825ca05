import Derived.Test.YtfgnaffomglmdaaMdAllows
/-
  Calls one behind the other, purely; rows of calls; sizes.
-/
namespace Go.Proofs.Ytfgnaffomglmdaa.Md
open Go.RowKit Mr Me
set_option linter.unusedVariables false
set_option linter.unusedSimpArgs false
/-- A call's cells; calls' rows. -/
def Cq.row (c : Cq) : List Value := [.int .i64 c.th, .int .i64 c.op, .int .i64 c.arg, .int .i64 c.data, .int .i64 c.beg, .int .i64 c.fin, .int .i64 c.pt, .int .i64 c.ak, .int .i64 c.av]
def cqs (l : List Cq) : List Value := l.flatMap Cq.row
theorem cqs_get (l : List Cq) (i : Nat) (c : Cq) (h : l[i]? = some c) (j : Nat) (hj : j < 9) : (cqs l)[i * 9 + j]? = c.row[j]? := by
  induction l generalizing i with
  | nil => simp at h
  | cons x l ih =>
    cases i with
    | zero =>
      simp at h; subst h
      simp only [cqs, List.flatMap_cons]
      rw [List.getElem?_append_left (by simp [Cq.row]; omega)]
      simp
    | succ i =>
      have := ih i (by simpa using h)
      simp only [cqs, List.flatMap_cons] at this ⊢
      rw [List.getElem?_append_right (by simp [Cq.row]; omega)]
      rw [← this]
      congr 1
      simp [Cq.row]; omega
theorem cqs_length (l : List Cq) : (cqs l).length = l.length * 9 := by
  induction l with
  | nil => rfl
  | cons x l ih => simp only [cqs, List.flatMap_cons, List.length_append] at ih ⊢; simp [Cq.row] at ih ⊢; omega
end Go.Proofs.Ytfgnaffomglmdaa.Md
