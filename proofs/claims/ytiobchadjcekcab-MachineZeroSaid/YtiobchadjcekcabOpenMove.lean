/-
  OPENING a move that came in.
-/
import Derived.Test.YtiobchadjcekcabOpenScript
namespace Go.Proofs.Ytiobchadjcekcab.Ma
open Go.ChangeShapes Go.WideShapes Go.ChangeAt Go.RowKit Go.Deep
set_option maxRecDepth 100000 in
theorem open_mv {H : Type} {enc : TypeId × Value → H} {w : World} {base : Nat} {spare : Nat → Bool} {held : Bool} {r : Reach} {b0 : Nat} {v : Value} {d : DataW H} {p : List MemPlace} (hv : Value.okWide Try.prog w r b0 39 v) (h : DataW.Trod enc Try.prog w base spare held 39 v d p) :
    ∃ a0 a1 a2 a3 : Int, v = .agg #[.int .i64 a0, .int .i64 a1, .int .i64 a2, .int .i64 a3] := by
  obtain ⟨cs, rfl, hsz⟩ := okWide_struct Try.underlying39 hv
  rw [cells_mv] at hsz
  obtain ⟨fuel, hfu⟩ := h
  obtain ⟨l, rfl⟩ : ∃ l : List Value, cs = l.toArray := ⟨cs.toList, by simp⟩
  have hcs : (Value.agg l.toArray).cells.toList = l := rfl
  rw [hcs] at hfu
  obtain ⟨z0, e0⟩ := field_int Try.underlying39 hfu 0 _ .i64 rfl rfl cells_i64 Try.underlying3
  obtain ⟨z1, e1⟩ := field_int Try.underlying39 hfu 1 _ .i64 rfl rfl cells_op Try.underlying37
  obtain ⟨z2, e2⟩ := field_int Try.underlying39 hfu 2 _ .i64 rfl rfl cells_i64 Try.underlying3
  obtain ⟨z3, e3⟩ := field_int Try.underlying39 hfu 3 _ .i64 rfl rfl cells_i64 Try.underlying3
  match l, hsz with
  | [x0, x1, x2, x3], _ =>
    simp at e0 e1 e2 e3
    subst e0; subst e1; subst e2; subst e3
    exact ⟨z0, z1, z2, z3, rfl⟩
end Go.Proofs.Ytiobchadjcekcab.Ma
