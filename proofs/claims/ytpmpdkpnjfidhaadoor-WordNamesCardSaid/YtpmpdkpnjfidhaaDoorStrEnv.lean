/-
  WHAT THE LIBRARY's VARIABLES HOLD, carried from call to call; Itoa and Atoi by the shelf's contracts.
-/
import Derived.Test.YtpmpdkpnjfidhaaDoorTraitA
import Derived.Test.YtpmpdkpnjfidhaaDoorShelf
import Derived.Lib.AppendIntMem
import Derived.Lib.AtoiErrMem
namespace Go.Proofs.YtpmpdkpnjfidhaaDoor.St
open Go.RowKit
set_option linter.unusedVariables false
/-- The table and the two sentinels lie as the program lays them. -/
structure Env (W : World) : Prop where
  tab : Lib.TabIs Tryd.prog W "internal/strconv.uint64pow10" .u64 Lib.pow10Tab
  syn : ∃ tp p, W.cell? ⟨2, 0, none⟩ = some (.iface tp p)
  rng : ∃ tp p, W.cell? ⟨3, 0, none⟩ = some (.iface tp p)
  size : 3 < W.heap.size
theorem Env.below {W W' : World} (h : Env W) (hb : Below W.heap.size W W') : Env W' := by
  obtain ⟨t1, p1, s1⟩ := h.syn
  obtain ⟨t2, p2, s2⟩ := h.rng
  have hs := h.size
  exact ⟨Lib.tabBelow_of_tabIs h.tab W' hb, ⟨t1, p1, (hb.cell (p := ⟨2, 0, none⟩) (by show 2 < W.heap.size; omega)).trans s1⟩, ⟨t2, p2, (hb.cell (p := ⟨3, 0, none⟩) hs).trans s2⟩, Nat.lt_of_lt_of_le hs hb.size⟩
theorem itoa_any (n : Int) (w : World) (h0 : -9223372036854775808 ≤ n) (h1 : n ≤ 9223372036854775807) (E : Env w) :
    Calls Tryd.prog 26 #[.int .i64 n] w fun e w' => e = .returned (.string ⟨(Lib.itoa n).toArray⟩) ∧ Below w.heap.size w w' := by
  refine (Tryd.strconv_Itoa n h0 h1 w E.tab).mono ?_
  rintro e w' ⟨rfl, k, os, rfl⟩
  exact ⟨rfl, Lib.below_grow _ w (Nat.le_refl _) k os⟩
/-- The number that a text tells; 0: none. -/
def likI (s : ByteArray) : Int := match Lib.atoiAll s.data.toList with | .ok v => v | _ => 0
theorem likI_bd (s : ByteArray) : -9223372036854775808 ≤ likI s ∧ likI s ≤ 9223372036854775807 := by
  unfold likI
  split
  · rename_i v h
    obtain ⟨b1, b2⟩ := Lib.atoiAll_bounds h
    omega
  · omega
/-- likelyInt. -/
theorem likelyInt_any (s : ByteArray) (w : World) (hs : s.size ≤ 281474976710656) (E : Env w) :
    Calls Tryd.prog 48 #[.string s] w fun e w' => e = .returned (.int .i64 (likI s)) ∧ Below w.heap.size w w' := by
  cases h : Lib.atoiAll s.data.toList with
  | ok v =>
    have e1 : Hid (likI s = v) := by show likI s = v; unfold likI; rw [h]
    go_enter Tryd.func48, Tryd.ntmps48
    go_wp2_with fail
    refine (Tryd.strconv_Atoi_ok s (by omega) v h _).mono ?_
    rintro e w1 ⟨rfl, hw⟩
    have hb : Below w.heap.size w w1 := by
      rcases hw with rfl | ⟨t, rfl⟩
      · exact Below.refl _ _
      · exact Lib.bytesWorld_below _ _ _
    clear hw
    go_wp2_with fail
    go_ret
    exact ⟨by rw [e1.out]; rfl, hb⟩
  | «syntax» =>
    have e1 : Hid (likI s = 0) := by show likI s = 0; unfold likI; rw [h]
    obtain ⟨tp, p, hv⟩ := E.syn
    go_enter Tryd.func48, Tryd.ntmps48
    go_wp2_with fail
    refine (Tryd.strconv_Atoi_syntax s hs h _ _ hv (.inr ⟨_, _, rfl⟩)).mono ?_
    rintro e w1 ⟨N, rfl, _, _, hb⟩
    go_wp2_with fail
    go_ret
    exact ⟨by rw [e1.out]; rfl, hb⟩
  | range =>
    have e1 : Hid (likI s = 0) := by show likI s = 0; unfold likI; rw [h]
    obtain ⟨tp, p, hv⟩ := E.rng
    go_enter Tryd.func48, Tryd.ntmps48
    go_wp2_with fail
    refine (Tryd.strconv_Atoi_range s hs h _ _ hv (.inr ⟨_, _, rfl⟩)).mono ?_
    rintro e w1 ⟨N, rfl, _, _, hb⟩
    go_wp2_with fail
    go_ret
    exact ⟨by rw [e1.out]; rfl, hb⟩
end Go.Proofs.YtpmpdkpnjfidhaaDoor.St
