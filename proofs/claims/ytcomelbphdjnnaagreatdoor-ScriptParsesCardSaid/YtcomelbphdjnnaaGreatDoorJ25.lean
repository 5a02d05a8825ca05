import Derived.Test.YtcomelbphdjnnaaGreatDoorJ24
import Derived.Deep.CutRange
/-
  THE DOCUMENT'S Kind, Fits and Show by their contracts.
-/
namespace Go.Proofs.YtcomelbphdjnnaaGreatDoor.St
open Go.RowKit
open Go.Lib (decDigits)
open Tr
set_option linter.unusedVariables false
def kdR (r : Int) : Int := if inB r 1 13 = true then (if tKind r = 0 then 1 else if tKind r = 1 then 2 else if tKind r = 2 then 4 else if tKind r = 4 then 3 else 5) else 0
theorem kind_in (r : Int) (w : World) (h1 : 1 ≤ r) (h2 : r ≤ 13) : Calls Tryz.prog 71 #[.int .i64 r] w fun e w' => e = .returned (.int .i64 (kdR r)) ∧ w' = w := by
  rcases reg_cases r h1 h2 with rfl | rfl | rfl | rfl | rfl | rfl | rfl | rfl | rfl | rfl | rfl | rfl | rfl
  all_goals (clear h1 h2; go_enter Tryz.func71, Tryz.ntmps71; go_wp2; go_ret; exact ⟨rfl, rfl⟩)
theorem decimal_any (n : Int) (w : World) (h0 : -9223372036854775808 ≤ n) (h1 : n ≤ 9223372036854775807) : Calls Tryz.prog 16 #[.int .i64 n] w fun e w' => e = .returned (.string (ito n)) ∧ Below w.heap.size w w' := by
  by_cases hn : n < 0
  · obtain ⟨u, hu⟩ : ∃ u : Nat, -n = u := ⟨n.natAbs, by omega⟩
    have D := digits_any u w (by omega)
    have q1 : decide (n < 0) = true := by simpa using hn
    have hw : IntKind.u64.wrap n = n + 18446744073709551616 := by rw [IntKind.wrap_u64]; omega
    have hw2 : IntKind.u64.wrap (-(n + 18446744073709551616)) = (u : Int) := by rw [IntKind.wrap_u64]; omega
    have hsz := dec_size (u : Int) (by omega) (by omega)
    have hs : ito n = ⟨#[45]⟩ ++ dec (u : Int) := by
      refine ba_ext ?_
      rw [app_list, dec_list]
      show ((Lib.itoa n).toArray).toList = _
      unfold Lib.itoa
      rw [if_pos hn, show n.natAbs = u by omega]
      simp
    rw [hs]
    clear hs
    generalize dec (u : Int) = t at *
    go_enter Tryz.func16, Tryz.ntmps16
    go_wp2_with (go_at_call 31; refine D.mono ?_; clear D; rintro e w1 ⟨rfl, B1⟩)
    go_ret
    exact ⟨rfl, B1⟩
  · obtain ⟨u, rfl⟩ : ∃ u : Nat, n = u := ⟨n.toNat, by omega⟩
    have D := digits_any u w (by omega)
    have q1 : decide ((u : Int) < 0) = false := by simp
    have hw : IntKind.u64.wrap (u : Int) = (u : Int) := by rw [IntKind.wrap_u64]; omega
    have hs : ito (u : Int) = dec (u : Int) := ito_dec _ (by omega)
    rw [hs]
    go_enter Tryz.func16, Tryz.ntmps16
    go_wp2_with (go_at_call 31; refine D.mono ?_; clear D; rintro e w1 ⟨rfl, B1⟩)
    go_ret
    exact ⟨rfl, B1⟩
theorem in13 (r : Int) (h1 : 1 ≤ r) (h2 : r ≤ 13) : inB r 1 13 = true := by simp [inB]; omega
end Go.Proofs.YtcomelbphdjnnaaGreatDoor.St
/-
  THE DOCUMENT'S Parse by its contract: flags, plain links, numbers.
-/
namespace Go.Proofs.YtcomelbphdjnnaaGreatDoor.St
open Go.RowKit
open Go.Lib (decDigits)
open Tr
set_option linter.unusedVariables false
/-- What Parse is to answer. -/
def PsR (r : Int) (s : ByteArray) (e : Ending) : Prop := (∃ x : Int, 0 ≤ x ∧ x ≤ 18446744073709551615 ∧ shw r x = (s, 0) ∧ e = .returned (.tuple #[.int .u64 x, .bool true])) ∨ ((∀ x : Int, 0 ≤ x → x ≤ 18446744073709551615 → shw r x ≠ (s, 0)) ∧ ∃ y : Int, e = .returned (.tuple #[.int .u64 y, .bool false]))
end Go.Proofs.YtcomelbphdjnnaaGreatDoor.St
