import Derived.Test.YtfbneodldlcdjaaMdRow
import Derived.ProofKit
import Derived.OpenShut
import Derived.Deep.Slices
import Derived.SizedLaws
/-
  OPENING contents (api.Contents) and lists of ints that came in, with their reach.
-/
namespace Go.Proofs.Ytfbneodldlcdjaa.Md
open Go.ChangeShapes Go.WideShapes Go.ChangeAt Go.RowKit Go.Deep
open Mr
set_option linter.unusedVariables false
set_option maxRecDepth 100000
theorem cells_i64 : Try.prog.cellsOf 3 = 1 := by kernel_rfl
theorem bytes_i64 : Try.prog.bytesOf 3 = 8 := by kernel_rfl
section
variable {H : Type} {enc : TypeId × Value → H} {w : World} {base : Nat} {spare : Nat → Bool} {held : Bool}
theorem spot0 {a : Addr} {v : Value} (h : w.cell? (a.add 0) = some v) : a.spot = none := by
  have := World.cell?_spot h
  simpa [Addr.add] using this
theorem open_isl {fuel : Nat} {cs : List Value} {x : DataW H × List MemPlace} (hf : DataW.trod enc Try.prog w base spare held fuel 22 cs = some x) :
    ∃ v l, cs = [v] ∧ Sl w (fun _ => True) 1 v l.length (ints l) := by
  rcases open_ints Try.underlying22 Try.underlying3 cells_i64 hf with ⟨hc, _⟩ | ⟨ad, n, cap, zs, hc, _, hl, _, hz, _, hcell, _⟩
  · exact ⟨_, [], hc, Sl.nil _ _ _⟩
  · have hle : n ≤ zs.length := by rw [hz]; split <;> omega
    have hlen : (zs.take n).length = n := by simp [hle]
    refine ⟨_, zs.take n, hc, by simp [ints], some ad, cap, by rw [hlen], by omega, ?_⟩
    by_cases hn : n = 0
    · exact .inl (by omega)
    · have hs := spot0 (hcell 0 (by omega))
      obtain ⟨b, o, s⟩ := ad
      simp only at hs
      subst hs
      refine .inr ⟨b, o, rfl, trivial, ?_, fun j u hu => ?_⟩
      · have := World.block_lt_of_cell? w _ (hcell 0 (by omega))
        rwa [add1] at this
      · have hj : j < n := by
          have := (List.getElem?_eq_some_iff.1 hu).1
          simp [ints] at this; omega
        have := hcell j (by omega)
        rw [add1] at this
        rw [this, ← hu]
        simp [ints, hj, List.getD, show j < zs.length by omega]
theorem len_slice {fuel : Nat} {cs : List Value} {x : DataW H × List MemPlace} {t e : TypeId} {v : Value} {n : Nat} {T : Nat → Prop} {size : Nat} {xs : List Value} (ht : Try.prog.underlying t = some (.slice e)) (hf : DataW.trod enc Try.prog w base spare held fuel t cs = some x) (hc : cs = [v]) (hv : Sl w T size v n xs) : n = 0 ∨ ∃ es rs, x.1 = .slice es rs ∧ es.length = n := by
  obtain ⟨a, cap, rfl, _⟩ := hv.form
  rcases open_slice ht hf with ⟨h, _⟩ | ⟨ad, n', cap', m, k, D, Pl, h, _, _, _, _, hx, _⟩
  · rw [hc] at h
    simp at h
    exact .inl h.2.1
  · rw [hc] at h
    simp at h
    obtain ⟨_, rfl, _⟩ := h
    exact .inr ⟨_, _, by rw [hx], by simp⟩
theorem open_intsz {r : Reach} {b0 : Nat} {v : Value} {d : DataW H} {p : List MemPlace} (hv : Value.okWide Try.prog w r b0 22 v) (h : DataW.Trod enc Try.prog w base spare held 22 v d p) (hsz : (d.weights Try.prog 22).all (· ≤ reachBytes) = true) :
    ∃ l, Sl w (fun _ => True) 1 v l.length (ints l) ∧ l.length * 8 ≤ 140737488351232 := by
  obtain ⟨a, n, cap, rfl⟩ := okWide_slice Try.underlying22 hv
  obtain ⟨fuel, hf⟩ := h
  have e0 : (Value.slice a n cap).cells.toList = [.slice a n cap] := rfl
  rw [e0] at hf
  obtain ⟨w0, l, e1, hs⟩ := open_isl hf
  simp at e1
  subst e1
  have f := len_slice Try.underlying22 hf rfl hs
  refine ⟨l, hs, ?_⟩
  rcases f with f | ⟨es, rs, hd, hl⟩
  · omega
  · simp only at hd
    subst hd
    simp only [DataW.weights, Try.underlying22, List.all_cons, Bool.and_eq_true, decide_eq_true_eq, bytes_i64] at hsz
    have e : reachBytes = 140737488351232 := by decide
    have := hsz.1
    rw [e, Nat.add_mul] at this
    omega
end
end Go.Proofs.Ytfbneodldlcdjaa.Md
