/-
  First, joined: whatever number of used slots.
-/
import Derived.Test.YtbbgobahhcfjjaaWordFst
namespace Go.Proofs.Ytbbgobahhcfjjaa.Wr
open Go.RowKit
open Wc Wm
/-- What First leaves, of a configuration that may be. -/
def fstF (a1 a2 a5 a6 u : Int) : Nat → Int := memF (if u < a5 then u + 1 else 0) (if 0 < u then 1 else 0) (if 0 < u then 1 else 0) (base a1 a2 a5 a6 10) u (if u < a5 then a5 - 1 else u)
theorem sizes {a1 a2 a5 a6 : Int} (hok : Ok a1 a2 a5 a6) : ∃ n m : Nat, base a1 a2 a5 a6 14 = (n : Int) ∧ base a1 a2 a5 a6 10 = (m : Int) ∧ (m : Int) + 4 * a5 ≤ n ∧ 6 < m ∧ a5 ≤ 1024 ∧ n ≤ 65536 := by
  have b14 := base_bd hok 14
  have b10 := base_bd hok 10
  obtain ⟨o1, o2, o3, o4, o5, o6, o7, o8⟩ := hok
  have m1 : 0 ≤ a1 * a2 := Int.mul_nonneg (by omega) (by omega)
  have h14 := base14 a1 a2 a5 a6
  have h10 := base10 a1 a2 a5 a6
  exact ⟨(base a1 a2 a5 a6 14).toNat, (base a1 a2 a5 a6 10).toNat, by omega, by omega, by omega, by omega, by omega, by omega⟩
theorem first_all (a0 a1 a2 a3 a4 a5 a6 u : Int) (n : Nat) (w : World) (hc : cfgB a0 a1 a2 a3 a4 a5 a6 = true) (hn : base a1 a2 a5 a6 14 = (n : Int)) (h0 : 0 ≤ u) (h1 : u ≤ a5) :
    Calls Try.prog 17 #[.agg #[.int .i64 a0, .int .i64 a1, .int .i64 a2, .int .i64 a3, .int .i64 a4, .int .i64 a5, .int .i64 a6], .int .i64 u] w fun e w' =>
      ∃ b : Nat, e = .returned (.tuple #[.slice (some ⟨b, 0, none⟩) n n, .int .i64 0]) ∧ w.heap.size ≤ b ∧ Row w' b n (fstF a1 a2 a5 a6 u) ∧ Below w.heap.size w w' := by
  obtain ⟨n', m, hn', hm, g1, g2, g3, g4⟩ := sizes (ok_of hc)
  obtain rfl : n' = n := by omega
  obtain ⟨U, rfl⟩ := Int.eq_ofNat_of_zero_le h0
  unfold fstF
  rw [hm]
  by_cases c1 : (U : Int) < a5
  · rw [if_pos c1, if_pos c1]
    by_cases c2 : 0 < U
    · rw [if_pos (by omega)]
      exact first_a a0 a1 a2 a3 a4 a5 a6 U n' m w hc hn hm g1 g2 g3 g4 c1 c2
    · obtain rfl : U = 0 := by omega
      rw [if_neg (by omega)]
      exact first_b a0 a1 a2 a3 a4 a5 a6 n' m w hc hn hm g1 g2 g3 g4 (by omega)
  · rw [if_neg c1, if_neg c1]
    have o := ok_of hc
    obtain ⟨o1, o2, o3, o4, o5, o6, o7, o8⟩ := o
    rw [if_pos (by omega)]
    exact first_c a0 a1 a2 a3 a4 a5 a6 U n' m w hc hn hm g1 g2 g3 g4 (by omega) (by omega)
end Go.Proofs.Ytbbgobahhcfjjaa.Wr
