import Derived.Test.YtkimmfdicohoiaaArRep2
import Derived.Deep.RegionHeldLaw
import Derived.Deep.LoopGhost
import Derived.LoopN
import Derived.Test.YtkimmfdicohoiaaArPure
import Derived.Test.YtkimmfdicohoiaaMacRep
import Derived.Deep.RegionHeld3
import Derived.Defers
import Derived.Recover
import Derived.Shelf.Abstract
/-
  THE ARENA's kit: its map, its makers by their contracts.
-/
namespace Go.Proofs.Ytkimmfdicohoiaa.Ar
open Go.RowKit Mr Me Ma Wc Wm
section
variable {W : World} {T K : Nat → Prop} {ba gs cs km ca : Nat} {c : Cf} {vca : Value} {vs : List Value} {A : Ao}
theorem state_no (h : Ar W T ba gs cs c vca vs A) (x : Int) (hx : ¬ A.has x) : Calls Try.prog 31 #[.pointer (some ⟨ba, 0, none⟩), .int .i64 x] W fun e w' => e = .returned (.tuple #[.int .i64 0, .int .i64 0, .int .i64 2]) ∧ w' = W := by
  have C := hasSlot_any h x
  rw [decide_eq_false hx] at C
  clear h
  go_enter Try.func31, Try.ntmps31
  go_wp2_with (go_at_call 38; refine C.mono ?_; clear C; rintro e w' ⟨rfl, hw⟩; obtain rfl := hw.symm)
  go_ret3
  exact ⟨rfl, rfl⟩
set_option maxRecDepth 100000 in
theorem state_yes (h : Ar W T ba gs cs c vca vs A) (x : Int) (hx : A.has x) : Calls Try.prog 31 #[.pointer (some ⟨ba, 0, none⟩), .int .i64 x] W fun e w' => e = .returned (.tuple #[.int .i64 (A.st x).1, .int .i64 (A.st x).2, .int .i64 0]) ∧ Below W.heap.size W w' ∧ w'.heap.size = W.heap.size + 1 := by
  have C := hasSlot_any h x
  rw [decide_eq_true hx] at C
  obtain ⟨n, rfl⟩ : ∃ n : Nat, x = n := ⟨x.toNat, by have := hx.1; omega⟩
  have hn : n < A.sl.length := by have := hx.2; omega
  obtain ⟨y, hy⟩ : ∃ y, A.sl[n]? = some y := ⟨_, List.getElem?_eq_getElem hn⟩
  have hst : A.st (n : Int) = y := by simp [Ao.st, hy]
  rw [hst]
  have c7 := h.c7
  obtain ⟨k0, _⟩ := h.slotAt n 0 y _ hy rfl
  obtain ⟨k1, _⟩ := h.slotAt n 1 y _ hy rfl
  rw [Nat.add_zero] at k0
  have hn' : (n : Int) < (A.sl.length : Int) := by omega
  clear h
  go_enter Try.func31, Try.ntmps31
  go_wp2_with (go_at_call 38; refine C.mono ?_; clear C; rintro e w' ⟨rfl, hw⟩; obtain rfl := hw.symm)
  go_quiet (fail)
  go_wp2
  go_ret3
  exact ⟨rfl, ((Below.refl _ _).alloc (Nat.le_refl _) _).trans (Bx.draws _ _ _), by simp [World.drewN]⟩
end
end Go.Proofs.Ytkimmfdicohoiaa.Ar
