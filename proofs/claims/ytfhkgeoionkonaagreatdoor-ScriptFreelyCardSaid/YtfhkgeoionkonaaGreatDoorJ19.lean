import Derived.Test.YtfhkgeoionkonaaGreatDoorJ03
import Derived.Test.YtfhkgeoionkonaaGreatDoorJ18
import Derived.LaidHandle
import Derived.LaidLaws
import Derived.Test.YtfhkgeoionkonaaGreatDoorChecked
import Derived.WalkKit
import Derived.ProofKit
import Derived.OpenShut
import Derived.Below
/-
  SCRIPT: what the rows list gives the walks, errors.errorType too.
-/
namespace Go.Proofs.YtfhkgeoionkonaaGreatDoor.Sc
open Go.RowKit Go.Shelf
set_option linter.unusedVariables false
theorem gET : Tryz.prog.globalNamed "errors.errorType" = some 0 := by kernel_rfl
theorem gRT : (Tryz.prog.cutTypes.find? (·.1 == "internal/reflectlite.rtype")).map (·.2) = some 108 := by kernel_rfl
theorem oneRow : ((List.range 210).filter fun t => Tryz.prog.rowNamed t [101, 114, 114, 111, 114]) = [52] := by kernel_rfl
theorem nTypes : Tryz.prog.types.size = 210 := by kernel_rfl
def kq (x : String × DataW Unit) : Bool := x.1 == "errors.errorType"
theorem et_of_laid {W : World} (h0 : laidMetH Tryz.prog Rows.scriptFreelyRow.laid W) : EtAt W := by
  have h := laidMetH.filter kq h0
  have hl : Rows.scriptFreelyRow.laid.filter kq = [("errors.errorType", .iface "internal/reflectlite.rtype" (.agg [.ptr (.lit (.string [101, 114, 114, 111, 114]))]))] := by rfl
  rw [hl] at h
  have h' : laidMet Tryz.prog [] W ∧ handlesMet Tryz.prog [("errors.errorType", .iface "internal/reflectlite.rtype" (.agg [.ptr (.lit (.string [101, 114, 114, 111, 114]))]))] W := h
  obtain ⟨name, u, ty, e1, e2, e3, e4, e5⟩ := h'.2 _ (List.mem_singleton.2 rfl)
  have en : name = [101, 114, 114, 111, 114] := (Option.some.inj e1).symm
  subst en
  obtain rfl := Option.some.inj (gRT.symm.trans e2)
  have hm : ty ∈ (List.range 210).filter fun t => Tryz.prog.rowNamed t [101, 114, 114, 111, 114] := List.mem_filter.2 ⟨List.mem_range.2 (by rw [← nTypes]; exact e3), e4⟩
  rw [oneRow] at hm
  obtain rfl := List.mem_singleton.1 hm
  have hh : typeHandle Tryz.prog 52 = .pointer (some ⟨7, 52, none⟩) := by kernel_rfl
  rw [hh] at e5
  have := World.var?_cell gET e5 0
  unfold EtAt
  simpa using this
theorem envx_of_laid {W : World} (h0 : laidMetH Tryz.prog Rows.scriptFreelyRow.laid W) (hs : W.ShapedOpen Tryz.prog) : EnvX W := ⟨env_of_laid h0 hs, et_of_laid h0⟩
end Go.Proofs.YtfhkgeoionkonaaGreatDoor.Sc
/-
  OPENING a struct by value whose fields are all int (api.Config, api.Place).
-/
namespace Go.Proofs.YtfhkgeoionkonaaGreatDoor.Opn
open Go.ChangeShapes Go.WideShapes Go.ChangeAt Go.RowKit
section
variable {H : Type} {enc : TypeId × Value → H} {P : Program} {w : World} {base : Nat} {spare : Nat → Bool} {held : Bool}

theorem open_struct_ints {r : Reach} {b0 : Nat} {t : TypeId} {fs : Array Field} {v : Value} {d : DataW H} {p : List MemPlace} (hs : P.underlying t = some (.struct fs)) (hC : P.cellsOf t = fs.size)
    (hf : ∀ (i : Nat) (f : Field), fs[i]? = some f → f.offset = i ∧ P.cellsOf f.type = 1 ∧ P.underlying f.type = some (.int .i64))
    (hv : Value.okWide P w r b0 t v) (h : DataW.Trod enc P w base spare held t v d p) :
    ∃ zs : List Int, zs.length = fs.size ∧ v = .agg (zs.map (Value.int .i64 ·)).toArray ∧ (∀ z ∈ zs, (Lit.int .i64 z).wf = true) := by
  obtain ⟨cs, rfl, hsz⟩ := okWide_struct hs hv
  obtain ⟨fuel, hfu⟩ := h
  obtain ⟨xs, n, _, _, hl, hxl, hx⟩ := DataW.trod_struct hs hfu
  have key : ∀ i (hi : i < cs.size), ∃ z, cs[i] = Value.int .i64 z ∧ (Lit.int .i64 z).wf = true := by
    intro i hi
    have hi' : i < fs.size := by omega
    obtain ⟨o, c1, u⟩ := hf i fs[i] (by simp [hi'])
    have hxi : i < xs.length := by omega
    have q := hx i fs[i] (by simp [hi'])
    rw [o, c1] at q
    have hcells : (Value.agg cs).cells.toList = cs.toList := rfl
    rw [hcells] at q
    have e1 : (cs.toList.drop i).take 1 = [cs[i]] := by
      rw [List.drop_eq_getElem_cons (by simpa using hi)]; simp
    rw [e1, List.getElem?_eq_getElem hxi] at q
    obtain ⟨z, hz, _, hw⟩ := DataW.trod_int u q
    exact ⟨z, by simpa using hz, hw⟩
  refine ⟨cs.toList.map intOf, by simp [hsz, hC], ?_, ?_⟩
  · congr 1
    apply Array.ext
    · simp
    · intro i h1 h2
      obtain ⟨z, hz, _⟩ := key i h1
      simp [hz, intOf]
  · intro z hz
    simp only [List.mem_map] at hz
    obtain ⟨v, hv', rfl⟩ := hz
    obtain ⟨i, hi, rfl⟩ := List.getElem_of_mem hv'
    obtain ⟨z, hz, hw⟩ := key i (by simpa using hi)
    simp [hz, intOf, hw]
end

theorem cells_cfg : Tryz.prog.cellsOf 23 = 7 := by kernel_rfl
set_option maxRecDepth 100000 in
theorem open_cfg {H : Type} {enc : TypeId × Value → H} {w : World} {base : Nat} {spare : Nat → Bool} {held : Bool} {r : Reach} {b0 : Nat} {v : Value} {d : DataW H} {p : List MemPlace}
    (hv : Value.okWide Tryz.prog w r b0 23 v) (h : DataW.Trod enc Tryz.prog w base spare held 23 v d p) :
    ∃ a0 a1 a2 a3 a4 a5 a6 : Int, v = .agg #[.int .i64 a0, .int .i64 a1, .int .i64 a2, .int .i64 a3, .int .i64 a4, .int .i64 a5, .int .i64 a6] ∧
      ((Lit.int .i64 a0).wf = true ∧ (Lit.int .i64 a1).wf = true ∧ (Lit.int .i64 a2).wf = true ∧ (Lit.int .i64 a3).wf = true ∧ (Lit.int .i64 a4).wf = true ∧ (Lit.int .i64 a5).wf = true ∧ (Lit.int .i64 a6).wf = true) := by
  obtain ⟨zs, hl, hvv, hw⟩ := open_struct_ints Tryz.underlying23 cells_cfg (by
    intro i f hi
    rcases i with _ | _ | _ | _ | _ | _ | _ | i <;> simp at hi <;> subst hi <;> exact ⟨rfl, by kernel_rfl, Tryz.underlying3⟩) hv h
  match zs, hl with
  | [a0, a1, a2, a3, a4, a5, a6], _ =>
    exact ⟨a0, a1, a2, a3, a4, a5, a6, hvv, hw a0 (by simp), hw a1 (by simp), hw a2 (by simp), hw a3 (by simp), hw a4 (by simp), hw a5 (by simp), hw a6 (by simp)⟩
end Go.Proofs.YtfhkgeoionkonaaGreatDoor.Opn
