/-
  OPENING a list of words that came in.
-/
import Derived.Test.YtdggempcfmihpaaPlView
import Derived.ProofKit
import Derived.OpenShut
import Derived.Deep.Slices
import Derived.SizedLaws
namespace Go.Proofs.Ytdggempcfmihpaa.Pl
open Go.ChangeShapes Go.WideShapes Go.ChangeAt Go.RowKit Go.Deep
open Mr Me
set_option maxRecDepth 100000
theorem cells_u64 : Try.prog.cellsOf 25 = 1 := by kernel_rfl
theorem bytes_u64 : Try.prog.bytesOf 25 = 8 := by kernel_rfl
theorem reach8 {n : Nat} (h : n * 8 ≤ reachBytes) : n * 8 ≤ 140737488351232 := h
section
variable {H : Type} {enc : TypeId × Value → H} {w : World} {base : Nat} {spare : Nat → Bool} {held : Bool}
theorem open_wordz {r : Reach} {b0 : Nat} {v : Value} {d : DataW H} {p : List MemPlace} (hv : Value.okWide Try.prog w r b0 24 v) (h : DataW.Trod enc Try.prog w base spare held 24 v d p) :
    ∃ a n cap ws, v = .slice a n cap ∧ Rds w a n ws ∧ (∀ x ∈ ws, 0 ≤ x ∧ x ≤ 18446744073709551615) ∧ ((d = .nil ∧ n = 0) ∨ ∃ es rs, d = .slice es rs ∧ es.length = n) := by
  obtain ⟨a, n, cap, rfl⟩ := okWide_slice Try.underlying24 hv
  obtain ⟨fuel, hf⟩ := h
  rcases open_ints Try.underlying24 Try.underlying25 cells_u64 hf with ⟨hc, hx⟩ | ⟨ad, len, cap', zs, hc, _, hl, _, hz, hx, hcell, hwf⟩
  · simp [Value.cells] at hc
    obtain ⟨rfl, rfl, rfl⟩ := hc
    exact ⟨none, 0, 0, [], rfl, ⟨rfl, fun _ => rfl, fun ad e => by cases e⟩, by simp, .inl ⟨by simpa using congrArg Prod.fst hx, rfl⟩⟩
  · simp [Value.cells] at hc
    obtain ⟨rfl, rfl, rfl⟩ := hc
    have hle : n ≤ zs.length := by rw [hz]; split <;> omega
    have hbd : ∀ x ∈ zs.take n, 0 ≤ x ∧ x ≤ 18446744073709551615 := fun x hx => by
      have := hwf x (List.mem_of_mem_take hx)
      simp [Lit.wf, IntKind.min, IntKind.max, IntKind.signed, IntKind.bits] at this
      omega
    refine ⟨some ad, n, cap, zs.take n, rfl, ⟨by simp [hle], (fun e => by cases e), fun ad' e => ?_⟩, hbd, .inr ⟨_, _, congrArg Prod.fst hx, by simp [lits, hle]⟩⟩
    cases e
    refine ⟨fun j u hu => ?_, hbd⟩
    have hj : j < n := by
      have := (List.getElem?_eq_some_iff.1 hu).1
      simp at this; omega
    rw [hcell j (by omega)]
    rw [List.getElem?_take, if_pos hj] at hu
    simp [List.getD, hu]
end
end Go.Proofs.Ytdggempcfmihpaa.Pl
