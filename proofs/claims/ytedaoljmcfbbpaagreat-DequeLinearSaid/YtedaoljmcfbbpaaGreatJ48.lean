import Derived.Test.YtedaoljmcfbbpaaGreatJ46
import Derived.Test.YtedaoljmcfbbpaaGreatJ47
/-
  DequeLinear, as the frame asks for it.
-/
namespace Go.Proofs.YtedaoljmcfbbpaaGreat.Dm
open Go.RowKit Go.Shelf Mr Me Ma Gm Dq
theorem wf_wi {x : Int} (h : (Lit.int .i64 x).wf = true) : Wi x := by
  have h2 : (decide (IntKind.min .i64 ≤ x) && decide (x ≤ IntKind.max .i64)) = true := h
  rw [Bool.and_eq_true, decide_eq_true_eq, decide_eq_true_eq] at h2
  exact h2
theorem lin_law (th rm : Int) (am : Option Addr) (nm cm : Nat) (ms : List Mv) (w : World) (hm : MvAt w am nm ms) (_ : nm ≤ cm) (hw : ∀ m ∈ ms, (Lit.int .i64 m.arg).wf = true) :
    Calls Tryz.prog 3 #[.agg #[.int .i64 th, .int .i64 rm], .slice am nm cm] w fun e w' => e = .returned (.bool true) ∧ Below w.heap.size w w' := by
  cases h : (dqB th rm && decide ((nm : Int) ≤ 65536)) with
  | false => exact lin_not w th rm am nm cm h
  | true =>
    rw [Bool.and_eq_true, decide_eq_true_eq] at h
    have h1 := dqB_in h.1
    obtain ⟨nt, rfl⟩ : ∃ nt : Nat, th = nt := ⟨th.toNat, by omega⟩
    obtain ⟨r, rfl⟩ : ∃ r : Nat, rm = r := ⟨rm.toNat, by omega⟩
    exact lin_yes w nt r h.1 am nm cm ms hm (fun m hm => wf_wi (hw m hm)) (by omega)
end Go.Proofs.YtedaoljmcfbbpaaGreat.Dm
