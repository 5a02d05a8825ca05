/-
  MOVES as they lie in the world.
-/
import Derived.Test.YtpckcfdjgpdooaaMacRun2
import Derived.Laws.ResultCell
namespace Go.Proofs.Ytpckcfdjgpdooaa.Ma
open Go.RowKit Go.Shelf Mr Me
/-- A move. -/
structure Mv where
  th : Int
  op : Int
  arg : Int
  data : Int
def noMv : Mv := ⟨0, 0, 0, 0⟩
/-- The slice value .slice a n cap reads as the moves ms. -/
def MvAt (W : World) (a : Option Addr) (n : Nat) (ms : List Mv) : Prop :=
  n = ms.length ∧ (ms = [] ∨ ∃ b off, a = some ⟨b, off, none⟩ ∧ b < W.heap.size ∧ ∀ j, j < ms.length →
    W.cell? ⟨b, off + j * 4, none⟩ = some (.int .i64 (ms[j]?.getD noMv).th) ∧ W.cell? ⟨b, off + j * 4 + 1, none⟩ = some (.int .i64 (ms[j]?.getD noMv).op) ∧ W.cell? ⟨b, off + j * 4 + 2, none⟩ = some (.int .i64 (ms[j]?.getD noMv).arg) ∧ W.cell? ⟨b, off + j * 4 + 3, none⟩ = some (.int .i64 (ms[j]?.getD noMv).data))
theorem MvAt.below {W W' : World} {a : Option Addr} {n : Nat} {ms : List Mv} (h : MvAt W a n ms) (hB : Below W.heap.size W W') : MvAt W' a n ms := by
  refine ⟨h.1, ?_⟩
  rcases h.2 with h | ⟨b, off, rfl, hb, hc⟩
  · exact .inl h
  · refine .inr ⟨b, off, rfl, Nat.lt_of_lt_of_le hb hB.size, fun j hj => ?_⟩
    obtain ⟨c0, c1, c2, c3⟩ := hc j hj
    exact ⟨(hB.cell (p := ⟨b, _, none⟩) hb).trans c0, (hB.cell (p := ⟨b, _, none⟩) hb).trans c1, (hB.cell (p := ⟨b, _, none⟩) hb).trans c2, (hB.cell (p := ⟨b, _, none⟩) hb).trans c3⟩
end Go.Proofs.Ytpckcfdjgpdooaa.Ma
