/-
  OPENING lists of moves and an answer that came in, by their bulk.
-/
import Derived.Test.YtegbcocbopgghabMdOpenU
import Derived.Test.YtegbcocbopgghabMdOpenM
import Derived.Test.YtegbcocbopgghabMdOpenC
import Derived.Test.YtegbcocbopgghabMlChkP
namespace Go.Proofs.Ytegbcocbopgghab.Md
open Go.ChangeShapes Go.WideShapes Go.ChangeAt Go.RowKit Go.Deep
open Mr
set_option linter.unusedVariables false
set_option maxRecDepth 100000
section
variable {H : Type} {enc : TypeId × Value → H} {w : World} {base : Nat} {spare : Nat → Bool} {held : Bool}
theorem open_msl {fuel : Nat} {cs : List Value} {x : DataW H × List MemPlace} (hf : DataW.trod enc Try.prog w base spare held fuel 47 cs = some x) :
    ∃ v l, cs = [v] ∧ Sl w (fun _ => True) 4 v l.length (mws l) := by
  rcases open_slice Try.underlying47 hf with ⟨hc, hx⟩ | ⟨ad, n, cap, m, k, D, Pl, hc, _, hl, _, hm, hx, hel⟩
  · exact ⟨_, [], hc, Sl.nil _ _ _⟩
  · have hle : n ≤ m := by rw [hm]; split <;> omega
    obtain ⟨l, hs, hn⟩ := sl_rows (w := w) (ad := ad) (n := n) (cap := cap) ⟨0, 0, 0, 0⟩ Mw.row 4 (by omega) (fun _ => rfl) (by omega) (fun i hi => by
      obtain ⟨cs, h1, h2⟩ := hel i (by omega)
      rw [cells_mv] at h1
      obtain ⟨_, hcl, hce⟩ := World.cells?_some h1
      obtain ⟨a, b, c, d, hcc⟩ := trod_mv h2
      exact ⟨⟨a, b, c, d⟩, fun t ht => by rw [show Mw.row ⟨a, b, c, d⟩ = cs from hcc.symm]; exact hce t (by omega)⟩)
    exact ⟨_, l, by rw [hc, hn], hs⟩
theorem open_moves_u {r : Reach} {b0 : Nat} {v : Value} {d : DataW H} {p : List MemPlace} (hv : Value.okWide Try.prog w r b0 47 v) (h : DataW.Trod enc Try.prog w base spare held 47 v d p) (hk : Rows.uptoBulk d ≤ 1048576) :
    ∃ l, Sl w (fun _ => True) 4 v l.length (mws l) ∧ l.length ≤ 1048576 := by
  obtain ⟨a, n, cap, rfl⟩ := okWide_slice Try.underlying47 hv
  obtain ⟨fuel, hf⟩ := h
  have e0 : (Value.slice a n cap).cells.toList = [.slice a n cap] := rfl
  rw [e0] at hf
  obtain ⟨w0, l, e1, hs⟩ := open_msl hf
  simp at e1
  subst e1
  have f := len_slice Try.underlying47 hf rfl hs
  have g := bulk_of f
  exact ⟨l, hs, by simp only at g; omega⟩
theorem open_ans2 {r : Reach} {b0 : Nat} {v : Value} {d : DataW H} {p : List MemPlace} (hv : Value.okWide Try.prog w r b0 31 v) (h : DataW.Trod enc Try.prog w base spare held 31 v d p) :
    ∃ a b : Int, v = .agg #[.int .i64 a, .int .i64 b] := by
  obtain ⟨cs, rfl, hcz⟩ := okWide_struct Try.underlying31 hv
  obtain ⟨fuel, hfu⟩ := h
  obtain ⟨a, b, hc⟩ := trod_an hfu
  have hcs : (Value.agg cs).cells.toList = cs.toList := rfl
  rw [hcs] at hc
  refine ⟨a, b, ?_⟩
  congr 1
  have : cs = ([.int .i64 a, .int .i64 b] : List Value).toArray := by rw [← hc]
  rw [this]
end
end Go.Proofs.Ytegbcocbopgghab.Md
