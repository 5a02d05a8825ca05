import Derived.Test.YtkimmfdicohoiaaRfNewA4
/-
  THE DOCUMENT's ARENA: its code and its entries.
-/
namespace Go.Proofs.Ytkimmfdicohoiaa.Rf
open Go.RowKit Mr Me Ma
set_option linter.unusedVariables false
def takingL : List Ins := [⟨10, 10, 0, 0, 0, 0⟩, ⟨31, 30, 0, 0, 0, 15⟩, ⟨30, 30, 0, 0, 2, 0⟩, ⟨13, 0, 0, 0, 0, 0⟩, ⟨10, 15, 0, 0, 0, 0⟩, ⟨1, 31, 1, 47, 0, 0⟩, ⟨23, 31, 0, 0, 0, 16⟩, ⟨18, 32, 31, 0, 0, 0⟩, ⟨1, 33, 10, 32, 0, 0⟩, ⟨18, 33, 33, 0, 0, 0⟩, ⟨22, 35, 31, 33, 0, 0⟩, ⟨3, 31, 1, 47, 35, 15⟩, ⟨16, 30, 32, 0, 0, 0⟩, ⟨30, 30, 0, 0, 2, 0⟩, ⟨13, 0, 0, 0, 0, 0⟩, ⟨10, 16, 0, 0, 0, 0⟩, ⟨15, 30, 0, 0, -1, 0⟩, ⟨13, 0, 0, 0, 0, 0⟩]
def linkL (l : Int) : List Ins := [⟨10, l, 0, 0, 0, 0⟩, ⟨1, 31, 1, 47, 0, 0⟩, ⟨18, 32, 31, 0, 0, 0⟩, ⟨19, 33, 32, 0, 0, 0⟩, ⟨2, 33, 10, 34, 0, 0⟩, ⟨22, 35, 31, 34, 0, 0⟩, ⟨3, 31, 1, 47, 35, l⟩, ⟨30, 34, 0, 0, 0, 0⟩]
def givingL : List Ins := [⟨10, 11, 0, 0, 0, 0⟩, ⟨32, 34, 0, 0, 0, 17⟩, ⟨30, 34, 0, 0, 1, 0⟩, ⟨13, 0, 0, 0, 0, 0⟩] ++ linkL 17 ++ [⟨13, 0, 0, 0, 0, 0⟩]
def flushingL : List Ins := [⟨10, 12, 0, 0, 0, 0⟩, ⟨33, 34, 0, 0, 0, 19⟩] ++ linkL 18 ++ [⟨34, 0, 0, 0, 0, 0⟩, ⟨11, 0, 0, 0, 0, 12⟩, ⟨10, 19, 0, 0, 0, 0⟩, ⟨13, 0, 0, 0, 0, 0⟩]
def callsL : List Ins := [⟨10, 20, 0, 0, 0, 0⟩, ⟨12, 0, 0, 0, 0, 10⟩, ⟨26, 30, 47, 0, 0, 22⟩, ⟨14, 30, 0, 0, 2, 0⟩, ⟨10, 22, 0, 0, 0, 0⟩, ⟨14, 0, 0, 0, 4, 0⟩, ⟨10, 21, 0, 0, 0, 0⟩, ⟨48, 34, 0, 0, 0, 0⟩, ⟨12, 0, 0, 0, 0, 11⟩, ⟨14, 0, 0, 0, 1, 0⟩, ⟨10, 23, 0, 0, 0, 0⟩, ⟨12, 0, 0, 0, 0, 12⟩, ⟨14, 0, 0, 0, 1, 0⟩]
def code4 : List Ins := takingL ++ givingL ++ flushingL ++ callsL
def ens4 : List En := [⟨10, 20, 0⟩, ⟨11, 21, 4⟩, ⟨12, 23, 0⟩]
/-- A new row of instructions. -/
def IsCode (W w' : World) (v : Value) (l : List Ins) : Prop := Below W.heap.size W w' ∧ Has w' (fun k => W.heap.size ≤ k) 74 6 v l.length (l.flatMap Ins.cells)
theorem info_ins : (Try.prog.info? 74).map (fun i => (i.zero, i.size, i.bytes)) = some (some (.agg #[.int .i64 0, .int .i64 0, .int .i64 0, .int .i64 0, .int .i64 0, .int .i64 0]), 6, 48) := by kernel_rfl
theorem new_code (W : World) (l : List Ins) (n : Nat) (hn : l.length = n) (hm : n ≤ maxLen) (xs : List Value) (hx : l.flatMap Ins.cells = xs) : IsCode W (W.alloc (.cells xs.toArray 74)) (.slice (some ⟨W.heap.size, 0, none⟩) n n) l := by
  subst hx
  refine ⟨(Below.refl _ _).alloc (Nat.le_refl _) _, ?_, .inr ⟨W.heap.size, n, (l.flatMap Ins.cells).toArray, by rw [hn], Nat.le_refl _, heap_alloc_new _ _, by omega, hm, ?_, ?_⟩⟩
  · rw [flat_length ins_len]
  · rw [List.size_toArray, flat_length ins_len, hn]; exact Nat.le_refl _
  · rw [List.take_of_length_le (by rw [flat_length ins_len, hn]; omega)]
set_option maxRecDepth 100000 in
set_option maxHeartbeats 4000000 in
theorem taking_any (W : World) : Calls Try.prog 27 #[] W fun e w' => ∃ g, e = .returned (.slice (some ⟨g, 0, none⟩) 18 18) ∧ IsCode W w' (.slice (some ⟨g, 0, none⟩) 18 18) takingL := by
  go_enter Try.func27, Try.ntmps27
  go_wp2
  go_ret
  exact ⟨_, rfl, new_code W takingL 18 rfl (by decide) _ rfl⟩
set_option maxRecDepth 100000 in
set_option maxHeartbeats 4000000 in
theorem link_any (W : World) (l : Int) : Calls Try.prog 37 #[.int .i64 l] W fun e w' => ∃ g, e = .returned (.slice (some ⟨g, 0, none⟩) 8 8) ∧ IsCode W w' (.slice (some ⟨g, 0, none⟩) 8 8) (linkL l) := by
  go_enter Try.func37, Try.ntmps37
  go_wp2
  go_ret
  exact ⟨_, rfl, new_code W (linkL l) 8 rfl (by decide) _ rfl⟩
set_option maxRecDepth 100000 in
set_option maxHeartbeats 4000000 in
theorem calls_any (W : World) : Calls Try.prog 30 #[] W fun e w' => ∃ g, e = .returned (.slice (some ⟨g, 0, none⟩) 13 13) ∧ IsCode W w' (.slice (some ⟨g, 0, none⟩) 13 13) callsL := by
  go_enter Try.func30, Try.ntmps30
  go_wp2
  go_ret
  exact ⟨_, rfl, new_code W callsL 13 rfl (by decide) _ rfl⟩
end Go.Proofs.Ytkimmfdicohoiaa.Rf
