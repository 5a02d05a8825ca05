import Derived.Test.YtmmjdlbeiaoojaaGreatArHonestWalk
import Derived.Test.YtmmjdlbeiaoojaaGreatJ12
import Derived.Test.YtmmjdlbeiaoojaaGreatJ32
/-
  ArenaHonest, as the frame asks for it.
-/
namespace Go.Proofs.YtmmjdlbeiaoojaaGreat.Ar
open Go.RowKit Go.Shelf Mr Me Ma Wc Wm Wr
theorem honest_law (a0 a1 a2 a3 a4 a5 a6 : Int) (am : Option Addr) (nm cm : Nat) (ms : List Mv) (w : World) (_ : (Lit.int .i64 a0).wf = true ∧ (Lit.int .i64 a1).wf = true ∧ (Lit.int .i64 a2).wf = true ∧ (Lit.int .i64 a3).wf = true ∧ (Lit.int .i64 a4).wf = true ∧ (Lit.int .i64 a5).wf = true ∧ (Lit.int .i64 a6).wf = true) (hm : MvAt w am nm ms) (_ : nm ≤ cm) :
    Calls Tryz.prog 8 #[.agg #[.int .i64 a0, .int .i64 a1, .int .i64 a2, .int .i64 a3, .int .i64 a4, .int .i64 a5, .int .i64 a6], .slice am nm cm] w fun e w' => e = .returned (.bool true) ∧ Below w.heap.size w w' :=
  honest_any ⟨a0, a1, a2, a3, a4, a5, a6⟩ am nm cm ms w hm
end Go.Proofs.YtmmjdlbeiaoojaaGreat.Ar
