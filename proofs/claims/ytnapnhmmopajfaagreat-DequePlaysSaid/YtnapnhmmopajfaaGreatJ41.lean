import Derived.Test.YtnapnhmmopajfaaGreatJ25
import Derived.ProofKit
import Derived.OpenShut
import Derived.Deep.Slices
import Derived.SizedLaws
import Derived.ChangeSame
/-
  DEQUE: opening a deque's configuration that came in.
-/
namespace Go.Proofs.YtnapnhmmopajfaaGreat.Dq
open Go.ChangeShapes Go.WideShapes Go.ChangeAt Go.RowKit Go.Deep Mr
set_option linter.unusedVariables false
theorem ci : Tryz.prog.cellsOf 3 = 1 := by kernel_rfl
theorem cw : Tryz.prog.cellsOf 63 = 1 := by kernel_rfl
theorem byw : Tryz.prog.bytesOf 63 = 8 := by kernel_rfl
section
variable {H : Type} {enc : TypeId × Value → H} {w : World} {base : Nat} {spare : Nat → Bool} {held : Bool}
theorem at_of {cs : List Value} {t : Nat} {v : Value} (h : (cs.drop t).take 1 = [v]) : cs[t]? = some v := by
  have : ((cs.drop t).take 1)[0]? = some v := by rw [h]; rfl
  rw [List.getElem?_take] at this
  simpa using this
theorem fldI {n : Nat} {ty : TypeId} {fs : Array Field} {cs : List Value} {x : DataW H × List MemPlace} (hs : Tryz.prog.underlying ty = some (.struct fs)) (h : DataW.trod enc Tryz.prog w base spare held n ty cs = some x) (t : Nat) (f : Field) (hf : fs[t]? = some f) (ho : f.offset = t) (hc : Tryz.prog.cellsOf f.type = 1) (hk : Tryz.prog.underlying f.type = some (.int .i64)) : ∃ z, cs[t]? = some (Value.int .i64 z) := by
  obtain ⟨xs, m, _, _, hl, hxl, hx⟩ := DataW.trod_struct hs h
  have q := hx t f hf
  rw [ho, hc] at q
  have ht : t < fs.size := (Array.getElem?_eq_some_iff.1 hf).1
  rw [List.getElem?_eq_getElem (by omega)] at q
  obtain ⟨z, hz, _, _⟩ := DataW.trod_int hk q
  exact ⟨z, at_of hz⟩
set_option maxRecDepth 100000 in
theorem open_deq {r : Reach} {b0 : Nat} {v : Value} {d : DataW H} {p : List MemPlace} (hv : Value.okWide Tryz.prog w r b0 23 v) (h : DataW.Trod enc Tryz.prog w base spare held 23 v d p) : ∃ th rm : Int, v = dV th rm := by
  obtain ⟨cs, rfl, hcs⟩ := okWide_struct Tryz.underlying23 hv
  obtain ⟨fuel, hf⟩ := h
  obtain ⟨z0, e0⟩ := fldI Tryz.underlying23 hf 0 _ rfl rfl ci Tryz.underlying3
  obtain ⟨z1, e1⟩ := fldI Tryz.underlying23 hf 1 _ rfl rfl ci Tryz.underlying3
  have h9 : (Value.agg cs).cells.toList = cs.toList := rfl
  rw [h9] at e0 e1
  have hl2 : cs.toList.length = 2 := by
    have h8 : Tryz.prog.cellsOf 23 = 2 := by kernel_rfl
    rw [h8] at hcs
    simpa using hcs
  refine ⟨z0, z1, ?_⟩
  have hc2 : cs = #[.int .i64 z0, .int .i64 z1] := by
    apply Array.ext'
    apply List.ext_getElem?
    intro i
    match i with
    | 0 => exact e0
    | 1 => exact e1
    | i + 2 => rw [List.getElem?_eq_none (by omega)]; rfl
  rw [hc2]; rfl
end
end Go.Proofs.YtnapnhmmopajfaaGreat.Dq
