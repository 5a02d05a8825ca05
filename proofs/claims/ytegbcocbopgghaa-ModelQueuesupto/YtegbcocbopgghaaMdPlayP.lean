import Derived.Test.YtegbcocbopgghaaMdAllows
/-
  Calls one behind the other, purely; rows of calls; sizes.
-/
namespace Go.Proofs.Ytegbcocbopgghaa.Md
open Go.RowKit Mr Me
set_option linter.unusedVariables false
set_option linter.unusedSimpArgs false
/-- Calls one behind the other: what is left, and the first that may not answer so. -/
def plays (x : Ct) : List Cq → Nat → Ct × Int
  | [], _ => (x, -1)
  | c :: cs, i => if (alw x c).2 = true then plays (alw x c).1 cs (i + 1) else (x, (i : Int))
theorem insL_len (l : List Int) (k : Int) : (insL l k).length = l.length + 1 := by
  have := plc_le l k
  simp [insL]; omega
theorem delL_len (l : List Int) (k : Int) : (delL l k).length ≤ l.length := by simp [delL]; omega
theorem insT_len (l : List (Int × Int)) (k d : Int) : (insT l k d).length = l.length + 1 := by
  have := plcT_le l k
  simp [insT, keysOf] at this ⊢; omega
theorem delT_len (l : List (Int × Int)) (k : Int) : (delT l k).length ≤ l.length := by simp [delT]; omega
theorem dnx_in {B : Nat} {x : Ct} (h : CtIn B x) (op arg data : Int) : CtIn (B + 16) (dnx x op arg data) := by
  obtain ⟨h0, h1, h2, h3, h4⟩ := h
  have i3 := insL_len x.set arg
  have d3 := delL_len x.set arg
  have i4 := insT_len x.table arg data
  have d4 := delT_len x.table arg
  have hw : CtIn (B + 16) x := ⟨by omega, by omega, by omega, by omega, by omega⟩
  obtain ⟨w0, w1, w2, w3, w4⟩ := hw
  unfold dnx
  split
  · exact ⟨by show 1 * 8 ≤ _; omega, w1, w2, w3, w4⟩
  split
  · exact ⟨w0, by simp; omega, w2, w3, w4⟩
  split
  · exact ⟨w0, by simp; omega, w2, w3, w4⟩
  split
  · exact ⟨w0, w1, by simp; omega, w3, w4⟩
  split
  · exact ⟨w0, w1, by simp; omega, w3, w4⟩
  split
  · refine ⟨w0, w1, w2, ?_, w4⟩
    show (if inB x.set arg = true then x.set else insL x.set arg).length * 8 ≤ _
    split <;> omega
  split
  · refine ⟨w0, w1, w2, ?_, w4⟩
    show (if inB x.set arg = true then delL x.set arg else x.set).length * 8 ≤ _
    split <;> omega
  split
  · refine ⟨w0, w1, w2, w3, ?_⟩
    show (if inB (keysOf x.table) arg = true then x.table else insT x.table arg data).length * 16 ≤ _
    split <;> omega
  split
  · refine ⟨w0, w1, w2, w3, ?_⟩
    show (if inB (keysOf x.table) arg = true then delT x.table arg else x.table).length * 16 ≤ _
    split <;> omega
  · exact ⟨w0, w1, w2, w3, w4⟩
/-- A call's cells; calls' rows. -/
def Cq.row (c : Cq) : List Value := [.int .i64 c.th, .int .i64 c.op, .int .i64 c.arg, .int .i64 c.data, .int .i64 c.beg, .int .i64 c.fin, .int .i64 c.pt, .int .i64 c.ak, .int .i64 c.av]
def cqs (l : List Cq) : List Value := l.flatMap Cq.row
theorem cqs_get (l : List Cq) (i : Nat) (c : Cq) (h : l[i]? = some c) (j : Nat) (hj : j < 9) : (cqs l)[i * 9 + j]? = c.row[j]? := by
  induction l generalizing i with
  | nil => simp at h
  | cons x l ih =>
    cases i with
    | zero =>
      simp at h; subst h
      simp only [cqs, List.flatMap_cons]
      rw [List.getElem?_append_left (by simp [Cq.row]; omega)]
      simp
    | succ i =>
      have := ih i (by simpa using h)
      simp only [cqs, List.flatMap_cons] at this ⊢
      rw [List.getElem?_append_right (by simp [Cq.row]; omega)]
      rw [← this]
      congr 1
      simp [Cq.row]; omega
end Go.Proofs.Ytegbcocbopgghaa.Md
