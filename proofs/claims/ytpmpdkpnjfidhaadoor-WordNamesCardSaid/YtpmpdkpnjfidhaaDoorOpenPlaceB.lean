/-
  OPENING api.Place.
-/
import Derived.Test.YtpmpdkpnjfidhaaDoorOpenInts
namespace Go.Proofs.YtpmpdkpnjfidhaaDoor.Opn
open Go.ChangeShapes Go.WideShapes Go.ChangeAt Go.RowKit
theorem cells_place : Tryd.prog.cellsOf 24 = 3 := by kernel_rfl
set_option maxRecDepth 100000 in
theorem open_place {H : Type} {enc : TypeId × Value → H} {w : World} {base : Nat} {spare : Nat → Bool} {held : Bool} {r : Reach} {b0 : Nat} {v : Value} {d : DataW H} {p : List MemPlace}
    (hv : Value.okWide Tryd.prog w r b0 24 v) (h : DataW.Trod enc Tryd.prog w base spare held 24 v d p) :
    ∃ a0 a1 a2 : Int, v = .agg #[.int .i64 a0, .int .i64 a1, .int .i64 a2] ∧
      ((Lit.int .i64 a0).wf = true ∧ (Lit.int .i64 a1).wf = true ∧ (Lit.int .i64 a2).wf = true) := by
  obtain ⟨zs, hl, hvv, hw⟩ := open_struct_ints Tryd.underlying24 cells_place (by
    intro i f hi
    rcases i with _ | _ | _ | i <;> simp at hi <;> subst hi <;> first | exact ⟨rfl, by kernel_rfl, Tryd.underlying3⟩ | exact ⟨rfl, by kernel_rfl, Tryd.underlying22⟩) hv h
  match zs, hl with
  | [a0, a1, a2], _ => exact ⟨a0, a1, a2, hvv, hw a0 (by simp), hw a1 (by simp), hw a2 (by simp)⟩
end Go.Proofs.YtpmpdkpnjfidhaaDoor.Opn
