/-
  DEQUE: the document's Plain: what it does.
-/
import Derived.Test.YtaojggnflblgnaaHdOnceA
import Derived.Deep.RegionHeldLaw
import Derived.Deep.RegionLaw
namespace Go.Proofs.Ytaojggnflblgnaa.Hd
open Go.RowKit Mr Md
set_option linter.unusedVariables false
set_option linter.unusedSimpArgs false
set_option maxRecDepth 100000
def PlO (rm : Int) (vs : List Int) (c : Cq) : Prop := ∀ (T : Nat → Prop) (a : Option Addr) (cap : Nat) (w : World), Sl w T 1 (.slice a vs.length cap) vs.length (ints vs) →
    Calls Try.prog 18 #[.slice a vs.length cap, .int .i64 rm, c.val] w fun e w' => ∃ v', e = .returned (.tuple #[v', .bool (okA c (atO rm vs c).2)]) ∧ Own w' (fun k => w.heap.size ≤ k) 3 1 v' (atO rm vs c).1.length (ints (atO rm vs c).1) ∧ Below w.heap.size w w'
theorem ints_one (xs : List Int) : ∀ u ∈ ints xs, u.oneCell' = true := by
  intro u hu
  simp only [ints, List.mem_map] at hu
  obtain ⟨x, _, rfl⟩ := hu
  rfl
theorem ints_len (xs : List Int) : (ints xs).length = xs.length := by simp [ints]
/-- The source of a copy. -/
theorem sl_src {w : World} {T : Nat → Prop} {a : Option Addr} {cap : Nat} {vs : List Int} (h : Sl w T 1 (.slice a vs.length cap) vs.length (ints vs)) : (a = none → vs.length = 0) ∧ ∀ ad, a = some ad → ∀ j u, (ints vs)[j]? = some u → w.cell? (ad.add j) = some u := by
  by_cases h0 : vs.length = 0
  · refine ⟨fun _ => h0, fun ad _ j u hu => ?_⟩
    have := (List.getElem?_eq_some_iff.1 hu).1
    rw [ints_len] at this; omega
  · obtain ⟨b, o, cap', e, _, _, hl, hr⟩ := h.there (by omega)
    cases e
    refine ⟨fun e => (by cases e), fun ad e j u hu => ?_⟩
    cases e
    rw [add1]; exact hr j u hu
end Go.Proofs.Ytaojggnflblgnaa.Hd
