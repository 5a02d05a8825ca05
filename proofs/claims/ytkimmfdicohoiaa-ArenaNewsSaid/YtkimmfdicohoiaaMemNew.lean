import Derived.Test.YtkimmfdicohoiaaMemRep
import Derived.WalkSpells
/-
  slices.Clone at uint64; Words; New.
-/
namespace Go.Proofs.Ytkimmfdicohoiaa.Me
open Go.RowKit Mr
theorem info_u64 : (Try.prog.info? 54).map (fun i => (i.zero, i.size, i.bytes)) = some (some (.int .u64 0), 1, 8) := by kernel_rfl
theorem info_int : (Try.prog.info? 3).map (fun i => (i.zero, i.size, i.bytes)) = some (some (.int .i64 0), 1, 8) := by kernel_rfl

/-- The slice value .slice a n cap reads as the words ws. -/
def Src (W : World) (a : Option Addr) (n cap : Nat) (ws : List Int) : Prop :=
  n = ws.length ∧ ((a = none ∧ n = 0 ∧ cap = 0) ∨ ∃ ad : Addr, a = some ad ∧ ∀ j u, (wrd ws)[j]? = some u → W.cell? (ad.add j) = some u)
theorem Src.below {W W' : World} {a : Option Addr} {n cap : Nat} {ws : List Int} (h : Src W a n cap ws) (hb : Below W.heap.size W W') : Src W' a n cap ws := by
  refine ⟨h.1, ?_⟩
  rcases h.2 with h | ⟨ad, rfl, hc⟩
  · exact .inl h
  · refine .inr ⟨ad, rfl, fun j u hu => ?_⟩
    rw [hb.cell (p := ad.add j) (World.block_lt_of_cell? W _ (hc j u hu))]
    exact hc j u hu

section
variable {W : World} {S : Nat → Prop} {b : Nat} {vw vl va : Value} {ws : List Int} {mv : Int} {lg : List Acc} {ah : List Int}
end
end Go.Proofs.Ytkimmfdicohoiaa.Me
