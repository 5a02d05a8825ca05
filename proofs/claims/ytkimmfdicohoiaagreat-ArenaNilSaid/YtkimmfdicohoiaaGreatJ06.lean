import Derived.Test.YtkimmfdicohoiaaGreatJ05
import Derived.Deep.RegionHeld3
import Derived.RegionTactic
import Derived.Test.YtkimmfdicohoiaaGreatJ04
import Derived.Laws.MakeOwn
import Derived.Laws.Entries
import Derived.Laws.NewBlocks
/-
  CONTRACTS of Size, Addr and At.
-/
namespace Go.Proofs.YtkimmfdicohoiaaGreat.Wm
open Go.RowKit
open Wc
set_option linter.unusedVariables false
theorem ok_of {a0 a1 a2 a3 a4 a5 a6 : Int} (h : cfgB a0 a1 a2 a3 a4 a5 a6 = true) : Ok a1 a2 a5 a6 := by
  simp only [cfgB, inB, Bool.and_eq_true, decide_eq_true_eq] at h
  unfold Ok; omega
theorem chk_t : chkN true = 0 := rfl
theorem chk_f : chkN false = 1 := rfl
theorem size_ok (a0 a1 a2 a3 a4 a5 a6 : Int) (w : World) (hc : cfgB a0 a1 a2 a3 a4 a5 a6 = true) :
    Calls Tryz.prog 75 #[.agg #[.int .i64 a0, .int .i64 a1, .int .i64 a2, .int .i64 a3, .int .i64 a4, .int .i64 a5, .int .i64 a6]] w fun e w' =>
      e = .returned (.tuple #[.int .i64 (base a1 a2 a5 a6 14), .int .i64 0]) ∧ Below w.heap.size w w' := by
  have hok := ok_of hc
  have k1 := chk_t
  go_enter Tryz.func75, Tryz.ntmps75
  go_wp2_with fail
  refine (check_any _ _ _ _ _ _ _ _).mono ?_
  rintro e w1 ⟨rfl, hb1⟩
  have B1 := Bx.boxSeq (Bx.box0 _ _) hb1
  clear hb1
  have q1 := Bx.boxCell B1
  go_wp2_with fail
  refine (start_i _ _ _ _ _ _ _ _ _ hok (by decide) (by decide)).mono ?_
  rintro e w2 ⟨rfl, hb2⟩
  have B2 := Bx.boxSeq B1 hb2
  clear hb2 q1 B1
  go_wp2_with fail
  go_ret2
  exact ⟨rfl, Bx.boxEnd B2⟩
theorem size_bad (a0 a1 a2 a3 a4 a5 a6 : Int) (w : World) (hc : cfgB a0 a1 a2 a3 a4 a5 a6 = false) :
    Calls Tryz.prog 75 #[.agg #[.int .i64 a0, .int .i64 a1, .int .i64 a2, .int .i64 a3, .int .i64 a4, .int .i64 a5, .int .i64 a6]] w fun e w' =>
      e = .returned (.tuple #[.int .i64 0, .int .i64 1]) ∧ Below w.heap.size w w' := by
  have k1 := chk_f
  go_enter Tryz.func75, Tryz.ntmps75
  go_wp2_with fail
  refine (check_any _ _ _ _ _ _ _ _).mono ?_
  rintro e w1 ⟨rfl, hb1⟩
  have B1 := Bx.boxSeq (Bx.box0 _ _) hb1
  clear hb1
  go_wp2_with fail
  go_ret2
  exact ⟨rfl, Bx.boxEnd B1⟩
end Go.Proofs.YtkimmfdicohoiaaGreat.Wm
/-
  CONTRACT of Addr.
-/
namespace Go.Proofs.YtkimmfdicohoiaaGreat.Wm
open Go.RowKit
open Wc
set_option linter.unusedVariables false
theorem isRegion_yes (r : Int) (w : World) (h1 : 1 ≤ r) (h2 : r ≤ 13) :
    Calls Tryz.prog 144 #[.int .i64 r] w fun e w' => e = .returned (.bool true) ∧ w' = w := by
  have hd : decide (r < 14) = true := by simp; omega
  go_enter Tryz.func144, Tryz.ntmps144
  go_wp2
  go_ret
  exact ⟨rfl, rfl⟩
theorem isRegion_no (r : Int) (w : World) (h : r < 1 ∨ 13 < r) :
    Calls Tryz.prog 144 #[.int .i64 r] w fun e w' => e = .returned (.bool false) ∧ w' = w := by
  rcases h with h | h
  · go_enter Tryz.func144, Tryz.ntmps144
    go_wp2
    go_ret
    exact ⟨rfl, rfl⟩
  · have hd : decide (r < 14) = false := by simp; omega
    go_enter Tryz.func144, Tryz.ntmps144
    go_wp2
    go_ret
    exact ⟨rfl, rfl⟩
theorem i64w (x : Int) (h1 : -9223372036854775808 ≤ x) (h2 : x ≤ 9223372036854775807) : IntKind.i64.wrap x = x := by
  simp [IntKind.wrap, IntKind.signed, IntKind.bits]; omega
theorem inB_iff {n a b : Int} (h : inB n a b = true) : a ≤ n ∧ n ≤ b := by simpa [inB] using h
theorem addr_sum {a1 a2 a5 a6 r i k : Int} (hok : Ok a1 a2 a5 a6) (h2 : r ≤ 13) (h3 : inB i 0 (items a1 a5 a6 r - 1) = true) (h4 : inB k 0 (each a2 r - 1) = true) :
    IntKind.i64.wrap (IntKind.i64.wrap (base a1 a2 a5 a6 r.toNat + IntKind.i64.wrap (i * each a2 r)) + k) = base a1 a2 a5 a6 r.toNat + i * each a2 r + k := by
  have ib := items_bd hok r
  have eb := each_bd hok r
  have bb := base_bd hok r.toNat
  have h3 := inB_iff h3
  have h4 := inB_iff h4
  have m1 : 0 ≤ i * each a2 r := Int.mul_nonneg h3.1 (by omega)
  have m2 : i * each a2 r ≤ 1024 * 8 := Int.mul_le_mul (by omega) eb.2 (by omega) (by omega)
  have hr : (r.toNat : Int) ≤ 13 := by omega
  rw [i64w (i * each a2 r) (by omega) (by omega), i64w (base a1 a2 a5 a6 r.toNat + i * each a2 r) (by omega) (by omega), i64w _ (by omega) (by omega)]
theorem ret2 {a b c : Int} (h : a = b) : Ending.returned (.tuple #[.int .i64 a, .int .i64 c]) = .returned (.tuple #[.int .i64 b, .int .i64 c]) := by rw [h]
set_option maxHeartbeats 1000000 in
theorem addr_ok (a0 a1 a2 a3 a4 a5 a6 r i k : Int) (w : World) (hc : cfgB a0 a1 a2 a3 a4 a5 a6 = true) (h1 : 1 ≤ r) (h2 : r ≤ 13) (h3 : inB i 0 (items a1 a5 a6 r - 1) = true) (h4 : inB k 0 (each a2 r - 1) = true) :
    Calls Tryz.prog 126 #[.agg #[.int .i64 a0, .int .i64 a1, .int .i64 a2, .int .i64 a3, .int .i64 a4, .int .i64 a5, .int .i64 a6], .agg #[.int .i64 r, .int .i64 i, .int .i64 k]] w fun e w' =>
      e = .returned (.tuple #[.int .i64 (base a1 a2 a5 a6 r.toNat + i * each a2 r + k), .int .i64 0]) ∧ Below w.heap.size w w' := by
  have hok := ok_of hc
  have k1 := chk_t
  have ib := items_bd hok r
  have eb := each_bd hok r
  go_enter Tryz.func126, Tryz.ntmps126
  go_wp2_with fail
  refine (check_any _ _ _ _ _ _ _ _).mono ?_
  rintro e w1 ⟨rfl, hb1⟩
  have B1 := Bx.twoSeq (Bx.two0 _ _ _) hb1
  clear hb1
  have qa := Bx.twoCellA B1
  have qb := Bx.twoCellB B1
  go_wp2_with (go_at_call 144; refine (isRegion_yes _ _ h1 h2).mono ?_; rintro e w' ⟨rfl, rfl⟩)
  refine (extent_any _ _ _ _ _ _ _ _ _).mono ?_
  rintro e w2 ⟨rfl, hb2⟩
  have B2 := Bx.twoSeq B1 hb2
  clear hb2 qa qb B1
  have qa := Bx.twoCellA B2
  have qb := Bx.twoCellB B2
  go_wp2_with (go_at_call 76; refine (within_any _ _ _ _).mono ?_; rintro e w' ⟨rfl, rfl⟩)
  go_region_held3 (fun W => W.cell? ⟨w.heap.size, 0, none⟩ = some (.int .i64 a0) ∧ W.cell? ⟨w.heap.size, 1, none⟩ = some (.int .i64 a1) ∧ W.cell? ⟨w.heap.size, 2, none⟩ = some (.int .i64 a2) ∧ W.cell? ⟨w.heap.size, 3, none⟩ = some (.int .i64 a3) ∧ W.cell? ⟨w.heap.size, 4, none⟩ = some (.int .i64 a4) ∧ W.cell? ⟨w.heap.size, 5, none⟩ = some (.int .i64 a5) ∧ W.cell? ⟨w.heap.size, 6, none⟩ = some (.int .i64 a6) ∧ W.cell? ⟨w.heap.size + 1, 0, none⟩ = some (.int .i64 r) ∧ W.cell? ⟨w.heap.size + 1, 1, none⟩ = some (.int .i64 i) ∧ W.cell? ⟨w.heap.size + 1, 2, none⟩ = some (.int .i64 k)) (simp [*, go_sem, World.cell?_alloc_past])
    (first
      | (go_at_call 78; refine (start_i _ _ _ _ _ _ _ _ _ hok h1 (by omega)).mono ?_; rintro e w3 ⟨rfl, hb3⟩; have B3 := Bx.twoSeq B2.drew hb3; clear qa qb hb3; have qa := Bx.twoCellA B3; have qb := Bx.twoCellB B3))
  go_wp2_with fail
  go_ret2
  exact ⟨ret2 (addr_sum hok h2 h3 h4), Bx.twoEnd B3⟩
set_option maxHeartbeats 1000000 in
theorem addr_cfg (a0 a1 a2 a3 a4 a5 a6 r i k : Int) (w : World) (hc : cfgB a0 a1 a2 a3 a4 a5 a6 = false) :
    Calls Tryz.prog 126 #[.agg #[.int .i64 a0, .int .i64 a1, .int .i64 a2, .int .i64 a3, .int .i64 a4, .int .i64 a5, .int .i64 a6], .agg #[.int .i64 r, .int .i64 i, .int .i64 k]] w fun e w' =>
      e = .returned (.tuple #[.int .i64 0, .int .i64 1]) ∧ Below w.heap.size w w' := by
  have k1 := chk_f
  go_enter Tryz.func126, Tryz.ntmps126
  go_wp2_with fail
  refine (check_any _ _ _ _ _ _ _ _).mono ?_
  rintro e w1 ⟨rfl, hb1⟩
  have B1 := Bx.twoSeq (Bx.two0 _ _ _) hb1
  clear hb1
  go_wp2_with fail
  go_ret2
  exact ⟨rfl, Bx.twoEnd B1⟩
set_option maxHeartbeats 1000000 in
theorem addr_reg (a0 a1 a2 a3 a4 a5 a6 r i k : Int) (w : World) (hc : cfgB a0 a1 a2 a3 a4 a5 a6 = true) (h : r < 1 ∨ 13 < r) :
    Calls Tryz.prog 126 #[.agg #[.int .i64 a0, .int .i64 a1, .int .i64 a2, .int .i64 a3, .int .i64 a4, .int .i64 a5, .int .i64 a6], .agg #[.int .i64 r, .int .i64 i, .int .i64 k]] w fun e w' =>
      e = .returned (.tuple #[.int .i64 0, .int .i64 2]) ∧ Below w.heap.size w w' := by
  have k1 := chk_t
  go_enter Tryz.func126, Tryz.ntmps126
  go_wp2_with fail
  refine (check_any _ _ _ _ _ _ _ _).mono ?_
  rintro e w1 ⟨rfl, hb1⟩
  have B1 := Bx.twoSeq (Bx.two0 _ _ _) hb1
  clear hb1
  have qa := Bx.twoCellA B1
  have qb := Bx.twoCellB B1
  go_wp2_with (go_at_call 144; refine (isRegion_no _ _ h).mono ?_; rintro e w' ⟨rfl, rfl⟩)
  go_ret2
  exact ⟨rfl, Bx.twoEnd B1⟩
set_option maxHeartbeats 1000000 in
theorem addr_out (a0 a1 a2 a3 a4 a5 a6 r i k : Int) (w : World) (hc : cfgB a0 a1 a2 a3 a4 a5 a6 = true) (h1 : 1 ≤ r) (h2 : r ≤ 13) (h : inB i 0 (items a1 a5 a6 r - 1) = false ∨ (inB i 0 (items a1 a5 a6 r - 1) = true ∧ inB k 0 (each a2 r - 1) = false)) :
    Calls Tryz.prog 126 #[.agg #[.int .i64 a0, .int .i64 a1, .int .i64 a2, .int .i64 a3, .int .i64 a4, .int .i64 a5, .int .i64 a6], .agg #[.int .i64 r, .int .i64 i, .int .i64 k]] w fun e w' =>
      e = .returned (.tuple #[.int .i64 0, .int .i64 2]) ∧ Below w.heap.size w w' := by
  have hok := ok_of hc
  have k1 := chk_t
  have ib := items_bd hok r
  have eb := each_bd hok r
  rcases h with h3 | ⟨h3, h4⟩
  all_goals
    go_enter Tryz.func126, Tryz.ntmps126
    go_wp2_with fail
    refine (check_any _ _ _ _ _ _ _ _).mono ?_
    rintro e w1 ⟨rfl, hb1⟩
    have B1 := Bx.twoSeq (Bx.two0 _ _ _) hb1
    clear hb1
    have qa := Bx.twoCellA B1
    have qb := Bx.twoCellB B1
    go_wp2_with (go_at_call 144; refine (isRegion_yes _ _ h1 h2).mono ?_; rintro e w' ⟨rfl, rfl⟩)
    refine (extent_any _ _ _ _ _ _ _ _ _).mono ?_
    rintro e w2 ⟨rfl, hb2⟩
    have B2 := Bx.twoSeq B1 hb2
    clear hb2 qa qb B1
    have qb := Bx.twoCellB B2
    go_wp2_with (go_at_call 76; refine (within_any _ _ _ _).mono ?_; rintro e w' ⟨rfl, rfl⟩)
    go_ret2
    exact ⟨rfl, Bx.twoEnd B2⟩
end Go.Proofs.YtkimmfdicohoiaaGreat.Wm
/-
  A ROW of words that the call itself made; and what First lays there.
-/
namespace Go.Proofs.YtkimmfdicohoiaaGreat.Wr
open Go.RowKit
/-- Block b holds the n words f 0, f 1, .. -/
structure Row (W : World) (b n : Nat) (f : Nat → Int) : Prop where
  cell : ∀ i, i < n → W.cell? ⟨b, i, none⟩ = some (.int .u64 (f i))
  free : ∀ i, i < n → W.frozen? ⟨b, i, none⟩ = false
  size : b < W.heap.size
theorem Row.below {W W' : World} {b n : Nat} {f : Nat → Int} (h : Row W b n f) (hb : Below W.heap.size W W') : Row W' b n f :=
  ⟨fun i hi => (hb.cell (p := ⟨b, i, none⟩) h.size).trans (h.cell i hi), fun i hi => (hb.frozen (p := ⟨b, i, none⟩) h.size).trans (h.free i hi), Nat.lt_of_lt_of_le h.size hb.size⟩
theorem Row.made (w : World) (n e : Nat) : Row (w.alloc (.cells (madeCells #[.int .u64 0] n) e)) w.heap.size n (fun _ => 0) := by
  refine ⟨fun i hi => ?_, fun i _ => ?_, by simp⟩
  · rw [World.cell?_alloc_at _ _ _ _ rfl]
    simp [madeCells, hi, Nat.mod_one]
  · exact World.frozen?_alloc_at _ _ _ _ rfl
theorem Row.set {W : World} {b n : Nat} {f : Nat → Int} (h : Row W b n f) (j : Nat) (v : Int) (g : Nat → Int) (hj : j < n) (hg : ∀ i, i < n → g i = if i = j then v else f i) :
    Row (W.setCell ⟨b, j, none⟩ (.int .u64 v)) b n g := by
  refine ⟨fun i hi => ?_, fun i hi => ?_, ?_⟩
  · rw [hg i hi]
    by_cases e : i = j
    · subst e; rw [if_pos rfl]; exact World.cell?_setCell_same _ _ _ (h.cell i hi)
    · rw [if_neg e, World.cell?_setCell_other _ _ _ _ (by intro h; exact e (by simpa using h.symm))]; exact h.cell i hi
  · rw [World.frozen?_setCell]; exact h.free i hi
  · have := h.size; simpa using this
theorem Row.congr {W : World} {b n : Nat} {f g : Nat → Int} (h : Row W b n f) (hg : ∀ i, i < n → g i = f i) : Row W b n g :=
  ⟨fun i hi => by rw [hg i hi]; exact h.cell i hi, h.free, h.size⟩
theorem Row.setFar {W : World} {b n : Nat} {f : Nat → Int} (h : Row W b n f) (a : Addr) (v : Value) (ha : a.block ≠ b) : Row (W.setCell a v) b n f := by
  refine ⟨fun i hi => ?_, fun i hi => ?_, ?_⟩
  · rw [World.cell?_setCell_other _ _ _ _ (by intro e; exact ha (by rw [e]))]; exact h.cell i hi
  · rw [World.frozen?_setCell]; exact h.free i hi
  · have := h.size; simpa using this

/-- The words while First writes them: head, the words 3 and 4, the spare words from b10 + u up to b10 + s. -/
def memF (hd t3 t4 b10 u s : Int) (i : Nat) : Int :=
  if i = 0 then hd else if i = 3 then t3 else if i = 4 then t4 else if b10 + u ≤ (i : Int) ∧ (i : Int) < b10 + s then (i : Int) - b10 + 2 else 0
theorem memF_zero (b10 u : Int) (i : Nat) : memF 0 0 0 b10 u u i = 0 := by
  unfold memF; (repeat' split) <;> first | rfl | omega
theorem memF_head (hd b10 u s t3 t4 h0 : Int) (i : Nat) : memF hd t3 t4 b10 u s i = if i = 0 then hd else memF h0 t3 t4 b10 u s i := by
  unfold memF; (repeat' split) <;> first | rfl | omega
theorem memF_three (hd b10 u s t3 t4 h0 : Int) (i : Nat) : memF hd t3 t4 b10 u s i = if i = 3 then t3 else memF hd h0 t4 b10 u s i := by
  unfold memF; (repeat' split) <;> first | rfl | omega
theorem memF_four (hd b10 u s t3 t4 h0 : Int) (i : Nat) : memF hd t3 t4 b10 u s i = if i = 4 then t4 else memF hd t3 h0 b10 u s i := by
  unfold memF; (repeat' split) <;> first | rfl | omega
theorem memF_spare (hd b10 u s t3 t4 : Int) (hb : 6 ≤ b10) (hu : 0 ≤ u) (hs : u ≤ s) (i : Nat) :
    memF hd t3 t4 b10 u (s + 1) i = if i = (b10 + s).toNat then s + 2 else memF hd t3 t4 b10 u s i := by
  unfold memF
  by_cases e : i = (b10 + s).toNat
  · rw [if_pos e]
    have e' : (i : Int) = b10 + s := by omega
    rw [if_neg (by omega), if_neg (by omega), if_neg (by omega), if_pos (by omega)]; omega
  · rw [if_neg e]
    (repeat' split) <;> first | rfl | omega
open Wm in
theorem base10 (a1 a2 a5 a6 : Int) : base a1 a2 a5 a6 10 = 6 + a6 + a1 + a1 * a2 := by
  simp [base, many, items, each]
open Wm in
theorem base14 (a1 a2 a5 a6 : Int) : base a1 a2 a5 a6 14 = 6 + a6 + a1 + a1 * a2 + 4 * a5 := by
  simp [base, many, items, each]; omega
open Wm in
theorem base4 (a1 a2 a5 a6 : Int) : base a1 a2 a5 a6 4 = 3 := by simp [base, many, items, each]
open Wm in
theorem base5 (a1 a2 a5 a6 : Int) : base a1 a2 a5 a6 5 = 4 := by simp [base, many, items, each]
open Wm in
theorem base1 (a1 a2 a5 a6 : Int) : base a1 a2 a5 a6 1 = 0 := rfl
end Go.Proofs.YtkimmfdicohoiaaGreat.Wr
