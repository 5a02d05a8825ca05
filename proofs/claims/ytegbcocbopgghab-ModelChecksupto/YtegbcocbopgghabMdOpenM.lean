import Derived.Test.YtegbcocbopgghabMdOpen
/-
  OPENING a move (api.Move) that came in.
-/
namespace Go.Proofs.Ytegbcocbopgghab.Md
open Go.ChangeShapes Go.WideShapes Go.ChangeAt Go.RowKit Go.Deep
open Mr
set_option linter.unusedVariables false
set_option maxRecDepth 100000
theorem cells_opM : Try.prog.cellsOf 35 = 1 := by kernel_rfl
theorem cells_mv : Try.prog.cellsOf 41 = 4 := by kernel_rfl
section
variable {H : Type} {enc : TypeId × Value → H} {w : World} {base : Nat} {spare : Nat → Bool} {held : Bool}
theorem trod_mv {fuel : Nat} {cs : List Value} {x : DataW H × List MemPlace} (hf : DataW.trod enc Try.prog w base spare held fuel 41 cs = some x) : ∃ a b c d : Int, cs = [.int .i64 a, .int .i64 b, .int .i64 c, .int .i64 d] := by
  obtain ⟨xs, n, _, hxx, hl, hxl, hx⟩ := DataW.trod_struct Try.underlying41 hf
  rw [cells_mv] at hl
  match cs, hl with
  | [x0, x1, x2, x3], _ =>
    have q0 := hx 0 _ rfl
    have q1 := hx 1 _ rfl
    have q2 := hx 2 _ rfl
    have q3 := hx 3 _ rfl
    have hxs : xs.length = 4 := by simpa using hxl
    match xs, hxs with
    | [y0, y1, y2, y3], _ =>
      simp [cells_opM, cells_i64] at q0 q1 q2 q3
      obtain ⟨z0, e0, _⟩ := DataW.trod_int Try.underlying3 q0
      obtain ⟨z1, e1, _⟩ := DataW.trod_int Try.underlying35 q1
      obtain ⟨z2, e2, _⟩ := DataW.trod_int Try.underlying3 q2
      obtain ⟨z3, e3, _⟩ := DataW.trod_int Try.underlying3 q3
      simp at e0 e1 e2 e3
      subst e0; subst e1; subst e2; subst e3
      exact ⟨z0, z1, z2, z3, rfl⟩
theorem open_mv4 {r : Reach} {b0 : Nat} {v : Value} {d : DataW H} {p : List MemPlace} (hv : Value.okWide Try.prog w r b0 41 v) (h : DataW.Trod enc Try.prog w base spare held 41 v d p) :
    ∃ a b c d : Int, v = .agg #[.int .i64 a, .int .i64 b, .int .i64 c, .int .i64 d] := by
  obtain ⟨cs, rfl, hcz⟩ := okWide_struct Try.underlying41 hv
  obtain ⟨fuel, hfu⟩ := h
  obtain ⟨a, b, c, d', hc⟩ := trod_mv hfu
  have hcs : (Value.agg cs).cells.toList = cs.toList := rfl
  rw [hcs] at hc
  refine ⟨a, b, c, d', ?_⟩
  congr 1
  have : cs = ([.int .i64 a, .int .i64 b, .int .i64 c, .int .i64 d'] : List Value).toArray := by rw [← hc]
  rw [this]
end
end Go.Proofs.Ytegbcocbopgghab.Md
