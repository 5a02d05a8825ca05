import Derived.Test.YtpknggcgojkjgaaGreatJ19
import Derived.Test.YtpknggcgojkjgaaGreatJ02
import Derived.Laws.MakeOwn
import Derived.Laws.Entries
import Derived.Laws.NewBlocks
import Derived.Test.YtpknggcgojkjgaaGreatChecked
import Derived.WalkKit
import Derived.WalkSpells
import Derived.OpenShut
import Derived.Deep.QuietTactic
import Derived.BigQuiet
/-
  A ROW of words that the call itself made; and what First lays there.
-/
namespace Go.Proofs.YtpknggcgojkjgaaGreat.Wr
open Go.RowKit
/-- Block b holds the n words f 0, f 1, .. -/
structure Row (W : World) (b n : Nat) (f : Nat → Int) : Prop where
  cell : ∀ i, i < n → W.cell? ⟨b, i, none⟩ = some (.int .u64 (f i))
  free : ∀ i, i < n → W.frozen? ⟨b, i, none⟩ = false
  size : b < W.heap.size
theorem Row.below {W W' : World} {b n : Nat} {f : Nat → Int} (h : Row W b n f) (hb : Below W.heap.size W W') : Row W' b n f :=
  ⟨fun i hi => (hb.cell (p := ⟨b, i, none⟩) h.size).trans (h.cell i hi), fun i hi => (hb.frozen (p := ⟨b, i, none⟩) h.size).trans (h.free i hi), Nat.lt_of_lt_of_le h.size hb.size⟩
theorem Row.made (w : World) (n e : Nat) : Row (w.alloc (.cells (madeCells #[.int .u64 0] n) e)) w.heap.size n (fun _ => 0) := by
  refine ⟨fun i hi => ?_, fun i _ => ?_, by simp⟩
  · rw [World.cell?_alloc_at _ _ _ _ rfl]
    simp [madeCells, hi, Nat.mod_one]
  · exact World.frozen?_alloc_at _ _ _ _ rfl
theorem Row.set {W : World} {b n : Nat} {f : Nat → Int} (h : Row W b n f) (j : Nat) (v : Int) (g : Nat → Int) (hj : j < n) (hg : ∀ i, i < n → g i = if i = j then v else f i) :
    Row (W.setCell ⟨b, j, none⟩ (.int .u64 v)) b n g := by
  refine ⟨fun i hi => ?_, fun i hi => ?_, ?_⟩
  · rw [hg i hi]
    by_cases e : i = j
    · subst e; rw [if_pos rfl]; exact World.cell?_setCell_same _ _ _ (h.cell i hi)
    · rw [if_neg e, World.cell?_setCell_other _ _ _ _ (by intro h; exact e (by simpa using h.symm))]; exact h.cell i hi
  · rw [World.frozen?_setCell]; exact h.free i hi
  · have := h.size; simpa using this
theorem Row.congr {W : World} {b n : Nat} {f g : Nat → Int} (h : Row W b n f) (hg : ∀ i, i < n → g i = f i) : Row W b n g :=
  ⟨fun i hi => by rw [hg i hi]; exact h.cell i hi, h.free, h.size⟩
/-- The words while First writes them: head, the words 3 and 4, the spare words from b10 + u up to b10 + s. -/
def memF (hd t3 t4 b10 u s : Int) (i : Nat) : Int :=
  if i = 0 then hd else if i = 3 then t3 else if i = 4 then t4 else if b10 + u ≤ (i : Int) ∧ (i : Int) < b10 + s then (i : Int) - b10 + 2 else 0
theorem memF_zero (b10 u : Int) (i : Nat) : memF 0 0 0 b10 u u i = 0 := by
  unfold memF; (repeat' split) <;> first | rfl | omega
theorem memF_head (hd b10 u s t3 t4 h0 : Int) (i : Nat) : memF hd t3 t4 b10 u s i = if i = 0 then hd else memF h0 t3 t4 b10 u s i := by
  unfold memF; (repeat' split) <;> first | rfl | omega
theorem memF_three (hd b10 u s t3 t4 h0 : Int) (i : Nat) : memF hd t3 t4 b10 u s i = if i = 3 then t3 else memF hd h0 t4 b10 u s i := by
  unfold memF; (repeat' split) <;> first | rfl | omega
theorem memF_four (hd b10 u s t3 t4 h0 : Int) (i : Nat) : memF hd t3 t4 b10 u s i = if i = 4 then t4 else memF hd t3 h0 b10 u s i := by
  unfold memF; (repeat' split) <;> first | rfl | omega
theorem memF_spare (hd b10 u s t3 t4 : Int) (hb : 6 ≤ b10) (hu : 0 ≤ u) (hs : u ≤ s) (i : Nat) :
    memF hd t3 t4 b10 u (s + 1) i = if i = (b10 + s).toNat then s + 2 else memF hd t3 t4 b10 u s i := by
  unfold memF
  by_cases e : i = (b10 + s).toNat
  · rw [if_pos e]
    have e' : (i : Int) = b10 + s := by omega
    rw [if_neg (by omega), if_neg (by omega), if_neg (by omega), if_pos (by omega)]; omega
  · rw [if_neg e]
    (repeat' split) <;> first | rfl | omega
open Wm in
theorem base10 (a1 a2 a5 a6 : Int) : base a1 a2 a5 a6 10 = 6 + a6 + a1 + a1 * a2 := by
  simp [base, many, items, each]
open Wm in
theorem base14 (a1 a2 a5 a6 : Int) : base a1 a2 a5 a6 14 = 6 + a6 + a1 + a1 * a2 + 4 * a5 := by
  simp [base, many, items, each]; omega
open Wm in
theorem base4 (a1 a2 a5 a6 : Int) : base a1 a2 a5 a6 4 = 3 := by simp [base, many, items, each]
open Wm in
theorem base5 (a1 a2 a5 a6 : Int) : base a1 a2 a5 a6 5 = 4 := by simp [base, many, items, each]
open Wm in
theorem base1 (a1 a2 a5 a6 : Int) : base a1 a2 a5 a6 1 = 0 := rfl
end Go.Proofs.YtpknggcgojkjgaaGreat.Wr
/-
  CONTRACTS of extent and start.
-/
namespace Go.Proofs.YtpknggcgojkjgaaGreat.Wm
open Go.RowKit
set_option linter.unusedVariables false
set_option maxHeartbeats 1000000 in
theorem extent_any (a0 a1 a2 a3 a4 a5 a6 r : Int) (w : World) :
    Calls Tryz.prog 143 #[.agg #[.int .i64 a0, .int .i64 a1, .int .i64 a2, .int .i64 a3, .int .i64 a4, .int .i64 a5, .int .i64 a6], .int .i64 r] w fun e w' =>
      e = .returned (.tuple #[.int .i64 (items a1 a5 a6 r), .int .i64 (each a2 r)]) ∧ Below w.heap.size w w' := by
  by_cases h9 : r = 9
  · subst h9
    go_enter Tryz.func143, Tryz.ntmps143
    go_wp2
    go_quiet (fail)
    go_wp2
    go_ret2
    exact ⟨by simp [items, each], ((Below.refl _ _).alloc (Nat.le_refl _) _).trans (Bx.draws _ _ _)⟩
  by_cases h7 : r = 7
  · subst h7
    go_enter Tryz.func143, Tryz.ntmps143
    go_wp2
    go_ret2
    exact ⟨by simp [items, each], (Below.refl _ _).alloc (Nat.le_refl _) _⟩
  by_cases h8 : r = 8
  · subst h8
    go_enter Tryz.func143, Tryz.ntmps143
    go_wp2
    go_ret2
    exact ⟨by simp [items, each], (Below.refl _ _).alloc (Nat.le_refl _) _⟩
  have e7 : (r == 7) = false := by simpa using h7
  have e8 : (r == 8) = false := by simpa using h8
  have e9 : (r == 9) = false := by simpa using h9
  by_cases h10 : r = 10
  · subst h10
    go_enter Tryz.func143, Tryz.ntmps143
    go_wp2
    go_ret2
    exact ⟨by simp [items, each], (Below.refl _ _).alloc (Nat.le_refl _) _⟩
  have e10 : (r == 10) = false := by simpa using h10
  by_cases h11 : r = 11
  · subst h11
    go_enter Tryz.func143, Tryz.ntmps143
    go_wp2
    go_ret2
    exact ⟨by simp [items, each], (Below.refl _ _).alloc (Nat.le_refl _) _⟩
  have e11 : (r == 11) = false := by simpa using h11
  by_cases h12 : r = 12
  · subst h12
    go_enter Tryz.func143, Tryz.ntmps143
    go_wp2
    go_ret2
    exact ⟨by simp [items, each], (Below.refl _ _).alloc (Nat.le_refl _) _⟩
  have e12 : (r == 12) = false := by simpa using h12
  by_cases h13 : r = 13
  · subst h13
    go_enter Tryz.func143, Tryz.ntmps143
    go_wp2
    go_ret2
    exact ⟨by simp [items, each], (Below.refl _ _).alloc (Nat.le_refl _) _⟩
  have e13 : (r == 13) = false := by simpa using h13
  have hit : items a1 a5 a6 r = 1 := by unfold items; rw [if_neg h7, if_neg h8, if_neg h9, if_neg (by omega)]
  have hea : each a2 r = 1 := by unfold each; rw [if_neg h9]
  rw [hit, hea]
  clear h7 h8 h9 h10 h11 h12 h13 hit hea
  go_enter Tryz.func143, Tryz.ntmps143
  go_wp2
  go_ret2
  exact ⟨rfl, (Below.refl _ _).alloc (Nat.le_refl _) _⟩

set_option maxHeartbeats 1000000 in
theorem start_any (a0 a1 a2 a3 a4 a5 a6 : Int) (k : Nat) (w : World) (hok : Ok a1 a2 a5 a6) (h1 : 1 ≤ k) (h2 : k ≤ 14) :
    Calls Tryz.prog 112 #[.agg #[.int .i64 a0, .int .i64 a1, .int .i64 a2, .int .i64 a3, .int .i64 a4, .int .i64 a5, .int .i64 a6], .int .i64 (k : Int)] w fun e w' =>
      e = .returned (.int .i64 (base a1 a2 a5 a6 k)) ∧ Below w.heap.size w w' := by
  go_enter Tryz.func112, Tryz.ntmps112
  go_wp2
  go_loopw [5, 6] (fun t i w' => ∃ j : Nat, 1 ≤ j ∧ j ≤ k ∧ i = .int .i64 (j : Int) ∧ t = .int .i64 (base a1 a2 a5 a6 j) ∧ Below (w.heap.size + 1) (w.alloc (.cells #[.int .i64 a0, .int .i64 a1, .int .i64 a2, .int .i64 a3, .int .i64 a4, .int .i64 a5, .int .i64 a6] 23)) w') (fun _ i _ => k - (intOf i).toNat)
  case atStart => exact ⟨1, by omega, h1, rfl, rfl, Bx.box0 _ _⟩
  case round =>
    obtain ⟨j, j1, j2, rfl, rfl, B⟩ := hrel
    have q := Bx.boxCell B
    have bb := base_bd hok j
    have mb := many_bd hok (j : Int)
    have bs : Hid (base a1 a2 a5 a6 (j + 1) = base a1 a2 a5 a6 j + items a1 a5 a6 (j : Int) * each a2 (j : Int)) := base_succ a1 a2 a5 a6 j j1
    have ib := items_bd hok (j : Int)
    have eb := each_bd hok (j : Int)
    by_cases hlt : j < k
    · go_wp2_with fail
      refine (extent_any _ _ _ _ _ _ _ _ _).mono ?_
      rintro e w1 ⟨rfl, hb1⟩
      have B1 := Bx.boxSeq B hb1
      clear hb1 q B
      have mb2 : items a1 a5 a6 (j : Int) * each a2 (j : Int) ≤ 1024 := mb.2
      have mb1 : 0 ≤ items a1 a5 a6 (j : Int) * each a2 (j : Int) := by have := mb.1; unfold many at this; omega
      clear mb
      go_wp2_with fail
      exact ⟨⟨j + 1, by omega, by omega, by go_num, by rw [bs.out], B1⟩, by simp [intOf]; omega⟩
    · have : j = k := by omega
      subst this
      go_wp2_with fail
      go_ret
      exact ⟨rfl, Bx.boxEnd B⟩
theorem start_i (a0 a1 a2 a3 a4 a5 a6 r : Int) (w : World) (hok : Ok a1 a2 a5 a6) (h1 : 1 ≤ r) (h2 : r ≤ 14) :
    Calls Tryz.prog 112 #[.agg #[.int .i64 a0, .int .i64 a1, .int .i64 a2, .int .i64 a3, .int .i64 a4, .int .i64 a5, .int .i64 a6], .int .i64 r] w fun e w' =>
      e = .returned (.int .i64 (base a1 a2 a5 a6 r.toNat)) ∧ Below w.heap.size w w' := by
  obtain ⟨k, rfl⟩ := Int.eq_ofNat_of_zero_le (show 0 ≤ r by omega)
  exact start_any a0 a1 a2 a3 a4 a5 a6 k w hok (by omega) (by omega)
end Go.Proofs.YtpknggcgojkjgaaGreat.Wm
