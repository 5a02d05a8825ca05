import Derived.Test.YtkimmfdicohoiaaWordFstAll
import Derived.Test.YtkimmfdicohoiaaWordFstRef
/-
  The document's First, joined.
-/
namespace Go.Proofs.Ytkimmfdicohoiaa.Wr
open Go.RowKit
open Wc Wm
theorem refFirst_all (a0 a1 a2 a3 a4 a5 a6 u : Int) (n : Nat) (w : World) (hok : Ok a1 a2 a5 a6) (hn : base a1 a2 a5 a6 14 = (n : Int)) (h0 : 0 ≤ u) (h1 : u ≤ a5) :
    Calls Try.prog 13 #[.agg #[.int .i64 a0, .int .i64 a1, .int .i64 a2, .int .i64 a3, .int .i64 a4, .int .i64 a5, .int .i64 a6], .int .i64 u] w fun e w' =>
      ∃ b : Nat, e = .returned (.slice (some ⟨b, 0, none⟩) n n) ∧ w.heap.size ≤ b ∧ Row w' b n (fstF a1 a2 a5 a6 u) ∧ Below w.heap.size w w' := by
  obtain ⟨n', m, hn', hm, g1, g2, g3, g4⟩ := sizes hok
  obtain rfl : n' = n := by omega
  obtain ⟨U, rfl⟩ := Int.eq_ofNat_of_zero_le h0
  unfold fstF
  rw [hm]
  by_cases c1 : (U : Int) < a5
  · rw [if_pos c1, if_pos c1]
    by_cases c2 : 0 < U
    · rw [if_pos (by omega)]
      exact refFirst_a a0 a1 a2 a3 a4 a5 a6 U n' m w hok hn hm g1 g2 g3 g4 c1 c2
    · obtain rfl : U = 0 := by omega
      rw [if_neg (by omega)]
      exact refFirst_b a0 a1 a2 a3 a4 a5 a6 n' m w hok hn hm g1 g2 g3 g4 (by omega)
  · rw [if_neg c1, if_neg c1]
    have o := hok
    obtain ⟨o1, o2, o3, o4, o5, o6, o7, o8⟩ := o
    rw [if_pos (by omega)]
    exact refFirst_c a0 a1 a2 a3 a4 a5 a6 U n' m w hok hn hm g1 g2 g3 g4 (by omega) (by omega)
end Go.Proofs.Ytkimmfdicohoiaa.Wr
