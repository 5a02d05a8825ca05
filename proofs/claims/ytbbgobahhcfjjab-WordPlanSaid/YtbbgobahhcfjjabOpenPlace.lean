/-
  OPENING api.Place.
-/
import Derived.Test.YtbbgobahhcfjjabOpen
namespace Go.Proofs.Ytbbgobahhcfjjab.Opn
open Go.ChangeShapes Go.WideShapes Go.ChangeAt Go.RowKit
theorem cells_place : Try.prog.cellsOf 39 = 3 := by kernel_rfl
theorem open_place {H : Type} {enc : TypeId × Value → H} {w : World} {base : Nat} {spare : Nat → Bool} {held : Bool} {r : Reach} {b0 : Nat} {v : Value} {d : DataW H} {p : List MemPlace}
    (hv : Value.okWide Try.prog w r b0 39 v) (h : DataW.Trod enc Try.prog w base spare held 39 v d p) :
    ∃ a0 a1 a2 : Int, v = .agg #[.int .i64 a0, .int .i64 a1, .int .i64 a2] ∧
      ((Lit.int .i64 a0).wf = true ∧ (Lit.int .i64 a1).wf = true ∧ (Lit.int .i64 a2).wf = true) := by
  obtain ⟨zs, hl, hvv, hw⟩ := open_struct_ints Try.underlying39 cells_place (by
    intro i f hi
    rcases i with _ | _ | _ | i <;> simp at hi <;> subst hi <;> first | exact ⟨rfl, by kernel_rfl, Try.underlying3⟩ | exact ⟨rfl, by kernel_rfl, Try.underlying37⟩) hv h
  match zs, hl with
  | [a0, a1, a2], _ => exact ⟨a0, a1, a2, hvv, hw a0 (by simp), hw a1 (by simp), hw a2 (by simp)⟩
end Go.Proofs.Ytbbgobahhcfjjab.Opn
