import Derived.Test.YtailcefgkgpalaaMdRow
import Derived.ProofKit
import Derived.OpenShut
import Derived.Deep.Slices
import Derived.SizedLaws
/-
  OPENING contents (api.Contents) and lists of ints that came in, with their reach.
-/
namespace Go.Proofs.Ytailcefgkgpalaa.Md
open Go.ChangeShapes Go.WideShapes Go.ChangeAt Go.RowKit Go.Deep
open Mr
set_option linter.unusedVariables false
set_option maxRecDepth 100000
theorem bytes_i64 : Try.prog.bytesOf 3 = 8 := by kernel_rfl
section
variable {H : Type} {enc : TypeId × Value → H} {w : World} {base : Nat} {spare : Nat → Bool} {held : Bool}
theorem spot0 {a : Addr} {v : Value} (h : w.cell? (a.add 0) = some v) : a.spot = none := by
  have := World.cell?_spot h
  simpa [Addr.add] using this
theorem len_slice {fuel : Nat} {cs : List Value} {x : DataW H × List MemPlace} {t e : TypeId} {v : Value} {n : Nat} {T : Nat → Prop} {size : Nat} {xs : List Value} (ht : Try.prog.underlying t = some (.slice e)) (hf : DataW.trod enc Try.prog w base spare held fuel t cs = some x) (hc : cs = [v]) (hv : Sl w T size v n xs) : n = 0 ∨ ∃ es rs, x.1 = .slice es rs ∧ es.length = n := by
  obtain ⟨a, cap, rfl, _⟩ := hv.form
  rcases open_slice ht hf with ⟨h, _⟩ | ⟨ad, n', cap', m, k, D, Pl, h, _, _, _, _, hx, _⟩
  · rw [hc] at h
    simp at h
    exact .inl h.2.1
  · rw [hc] at h
    simp at h
    obtain ⟨_, rfl, _⟩ := h
    exact .inr ⟨_, _, by rw [hx], by simp⟩

end
end Go.Proofs.Ytailcefgkgpalaa.Md
