import Derived.Test.YtfgnaffomglmdaaMdObj
import Derived.Test.YtfgnaffomglmdaaMdRow
import Derived.Test.YtfgnaffomglmdaaWordBox
import Derived.Deep.RegionHeld3
import Derived.BigQuiet
import Derived.Deep.LoopGhost
import Derived.Test.YtfgnaffomglmdaaRfFresh
import Derived.Deep.RegionHeldLaw
import Derived.Deep.Cut
import Derived.Test.YtfgnaffomglmdaaMdApp
import Derived.Deep.RegionLaw
/-
  reclaimmodel.Allows, of any call whose op has an object.
-/
namespace Go.Proofs.Ytfgnaffomglmdaa.Md
open Go.RowKit Mr Me
set_option linter.unusedVariables false
set_option linter.unusedSimpArgs false
/-- A call. -/
structure Cq where
  th : Int
  op : Int
  arg : Int
  data : Int
  beg : Int
  fin : Int
  pt : Int
  ak : Int
  av : Int
def Cq.val (c : Cq) : Value := .agg #[.int .i64 c.th, .int .i64 c.op, .int .i64 c.arg, .int .i64 c.data, .int .i64 c.beg, .int .i64 c.fin, .int .i64 c.pt, .int .i64 c.ak, .int .i64 c.av]
def cqO (c : Cq) : Obj := .cells #[.int .i64 c.th, .int .i64 c.op, .int .i64 c.arg, .int .i64 c.data, .int .i64 c.beg, .int .i64 c.fin, .int .i64 c.pt, .int .i64 c.ak, .int .i64 c.av] 43 (0, 0)
theorem cq_cells {W : World} {b : Nat} {c : Cq} (h : W.heap[b]? = some (cqO c)) : W.cell? ⟨b, 0, none⟩ = some (.int .i64 c.th) ∧ W.cell? ⟨b, 1, none⟩ = some (.int .i64 c.op) ∧ W.cell? ⟨b, 2, none⟩ = some (.int .i64 c.arg) ∧ W.cell? ⟨b, 3, none⟩ = some (.int .i64 c.data) ∧ W.cell? ⟨b, 4, none⟩ = some (.int .i64 c.beg) ∧ W.cell? ⟨b, 5, none⟩ = some (.int .i64 c.fin) ∧ W.cell? ⟨b, 6, none⟩ = some (.int .i64 c.pt) ∧ W.cell? ⟨b, 7, none⟩ = some (.int .i64 c.ak) ∧ W.cell? ⟨b, 8, none⟩ = some (.int .i64 c.av) ∧ b < W.heap.size := by
  have hlt := (Array.getElem?_eq_some_iff.1 h).1
  unfold cqO at h
  exact ⟨by simp [World.cell?, h], by simp [World.cell?, h], by simp [World.cell?, h], by simp [World.cell?, h], by simp [World.cell?, h], by simp [World.cell?, h], by simp [World.cell?, h], by simp [World.cell?, h], by simp [World.cell?, h], hlt⟩
/-- An op that may find no room. -/
def fullOp (op : Int) : Prop := op = 22 ∨ op = 30 ∨ op = 40 ∨ op = 50 ∨ op = 60
instance decFull (op : Int) : Decidable (fullOp op) := by unfold fullOp; infer_instance
end Go.Proofs.Ytfgnaffomglmdaa.Md
