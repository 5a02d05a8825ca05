import Derived.Test.YtjpgjhjnneeliaaGreatJ09
import Derived.Deep.RegionHeld3
import Derived.RegionTactic
import Derived.Test.YtjpgjhjnneeliaaGreatJ08
import Derived.Test.YtjpgjhjnneeliaaGreatJ03
/-
  CONTRACTS of Size, Addr and At.
-/
namespace Go.Proofs.YtjpgjhjnneeliaaGreat.Wm
open Go.RowKit
open Wc
set_option linter.unusedVariables false
theorem ok_of {a0 a1 a2 a3 a4 a5 a6 : Int} (h : cfgB a0 a1 a2 a3 a4 a5 a6 = true) : Ok a1 a2 a5 a6 := by
  simp only [cfgB, inB, Bool.and_eq_true, decide_eq_true_eq] at h
  unfold Ok; omega
theorem chk_t : chkN true = 0 := rfl
theorem chk_f : chkN false = 1 := rfl
theorem size_ok (a0 a1 a2 a3 a4 a5 a6 : Int) (w : World) (hc : cfgB a0 a1 a2 a3 a4 a5 a6 = true) :
    Calls Tryz.prog 39 #[.agg #[.int .i64 a0, .int .i64 a1, .int .i64 a2, .int .i64 a3, .int .i64 a4, .int .i64 a5, .int .i64 a6]] w fun e w' =>
      e = .returned (.tuple #[.int .i64 (base a1 a2 a5 a6 14), .int .i64 0]) ∧ Below w.heap.size w w' := by
  have hok := ok_of hc
  have k1 := chk_t
  go_enter Tryz.func39, Tryz.ntmps39
  go_wp2_with fail
  refine (check_any _ _ _ _ _ _ _ _).mono ?_
  rintro e w1 ⟨rfl, hb1⟩
  have B1 := Bx.boxSeq (Bx.box0 _ _) hb1
  clear hb1
  have q1 := Bx.boxCell B1
  go_wp2_with fail
  refine (start_i _ _ _ _ _ _ _ _ _ hok (by decide) (by decide)).mono ?_
  rintro e w2 ⟨rfl, hb2⟩
  have B2 := Bx.boxSeq B1 hb2
  clear hb2 q1 B1
  go_wp2_with fail
  go_ret2
  exact ⟨rfl, Bx.boxEnd B2⟩
theorem size_bad (a0 a1 a2 a3 a4 a5 a6 : Int) (w : World) (hc : cfgB a0 a1 a2 a3 a4 a5 a6 = false) :
    Calls Tryz.prog 39 #[.agg #[.int .i64 a0, .int .i64 a1, .int .i64 a2, .int .i64 a3, .int .i64 a4, .int .i64 a5, .int .i64 a6]] w fun e w' =>
      e = .returned (.tuple #[.int .i64 0, .int .i64 1]) ∧ Below w.heap.size w w' := by
  have k1 := chk_f
  go_enter Tryz.func39, Tryz.ntmps39
  go_wp2_with fail
  refine (check_any _ _ _ _ _ _ _ _).mono ?_
  rintro e w1 ⟨rfl, hb1⟩
  have B1 := Bx.boxSeq (Bx.box0 _ _) hb1
  clear hb1
  go_wp2_with fail
  go_ret2
  exact ⟨rfl, Bx.boxEnd B1⟩
end Go.Proofs.YtjpgjhjnneeliaaGreat.Wm
/-
  CONTRACT of Addr.
-/
namespace Go.Proofs.YtjpgjhjnneeliaaGreat.Wm
open Go.RowKit
open Wc
set_option linter.unusedVariables false
theorem isRegion_yes (r : Int) (w : World) (h1 : 1 ≤ r) (h2 : r ≤ 13) :
    Calls Tryz.prog 126 #[.int .i64 r] w fun e w' => e = .returned (.bool true) ∧ w' = w := by
  have hd : decide (r < 14) = true := by simp; omega
  go_enter Tryz.func126, Tryz.ntmps126
  go_wp2
  go_ret
  exact ⟨rfl, rfl⟩
theorem isRegion_no (r : Int) (w : World) (h : r < 1 ∨ 13 < r) :
    Calls Tryz.prog 126 #[.int .i64 r] w fun e w' => e = .returned (.bool false) ∧ w' = w := by
  rcases h with h | h
  · go_enter Tryz.func126, Tryz.ntmps126
    go_wp2
    go_ret
    exact ⟨rfl, rfl⟩
  · have hd : decide (r < 14) = false := by simp; omega
    go_enter Tryz.func126, Tryz.ntmps126
    go_wp2
    go_ret
    exact ⟨rfl, rfl⟩
theorem i64w (x : Int) (h1 : -9223372036854775808 ≤ x) (h2 : x ≤ 9223372036854775807) : IntKind.i64.wrap x = x := by
  simp [IntKind.wrap, IntKind.signed, IntKind.bits]; omega
theorem inB_iff {n a b : Int} (h : inB n a b = true) : a ≤ n ∧ n ≤ b := by simpa [inB] using h
theorem addr_sum {a1 a2 a5 a6 r i k : Int} (hok : Ok a1 a2 a5 a6) (h2 : r ≤ 13) (h3 : inB i 0 (items a1 a5 a6 r - 1) = true) (h4 : inB k 0 (each a2 r - 1) = true) :
    IntKind.i64.wrap (IntKind.i64.wrap (base a1 a2 a5 a6 r.toNat + IntKind.i64.wrap (i * each a2 r)) + k) = base a1 a2 a5 a6 r.toNat + i * each a2 r + k := by
  have ib := items_bd hok r
  have eb := each_bd hok r
  have bb := base_bd hok r.toNat
  have h3 := inB_iff h3
  have h4 := inB_iff h4
  have m1 : 0 ≤ i * each a2 r := Int.mul_nonneg h3.1 (by omega)
  have m2 : i * each a2 r ≤ 1024 * 8 := Int.mul_le_mul (by omega) eb.2 (by omega) (by omega)
  have hr : (r.toNat : Int) ≤ 13 := by omega
  rw [i64w (i * each a2 r) (by omega) (by omega), i64w (base a1 a2 a5 a6 r.toNat + i * each a2 r) (by omega) (by omega), i64w _ (by omega) (by omega)]
theorem ret2 {a b c : Int} (h : a = b) : Ending.returned (.tuple #[.int .i64 a, .int .i64 c]) = .returned (.tuple #[.int .i64 b, .int .i64 c]) := by rw [h]
set_option maxHeartbeats 1000000 in
theorem addr_ok (a0 a1 a2 a3 a4 a5 a6 r i k : Int) (w : World) (hc : cfgB a0 a1 a2 a3 a4 a5 a6 = true) (h1 : 1 ≤ r) (h2 : r ≤ 13) (h3 : inB i 0 (items a1 a5 a6 r - 1) = true) (h4 : inB k 0 (each a2 r - 1) = true) :
    Calls Tryz.prog 116 #[.agg #[.int .i64 a0, .int .i64 a1, .int .i64 a2, .int .i64 a3, .int .i64 a4, .int .i64 a5, .int .i64 a6], .agg #[.int .i64 r, .int .i64 i, .int .i64 k]] w fun e w' =>
      e = .returned (.tuple #[.int .i64 (base a1 a2 a5 a6 r.toNat + i * each a2 r + k), .int .i64 0]) ∧ Below w.heap.size w w' := by
  have hok := ok_of hc
  have k1 := chk_t
  have ib := items_bd hok r
  have eb := each_bd hok r
  go_enter Tryz.func116, Tryz.ntmps116
  go_wp2_with fail
  refine (check_any _ _ _ _ _ _ _ _).mono ?_
  rintro e w1 ⟨rfl, hb1⟩
  have B1 := Bx.twoSeq (Bx.two0 _ _ _) hb1
  clear hb1
  have qa := Bx.twoCellA B1
  have qb := Bx.twoCellB B1
  go_wp2_with (go_at_call 126; refine (isRegion_yes _ _ h1 h2).mono ?_; rintro e w' ⟨rfl, rfl⟩)
  refine (extent_any _ _ _ _ _ _ _ _ _).mono ?_
  rintro e w2 ⟨rfl, hb2⟩
  have B2 := Bx.twoSeq B1 hb2
  clear hb2 qa qb B1
  have qa := Bx.twoCellA B2
  have qb := Bx.twoCellB B2
  go_wp2_with (go_at_call 40; refine (within_any _ _ _ _).mono ?_; rintro e w' ⟨rfl, rfl⟩)
  go_region_held3 (fun W => W.cell? ⟨w.heap.size, 0, none⟩ = some (.int .i64 a0) ∧ W.cell? ⟨w.heap.size, 1, none⟩ = some (.int .i64 a1) ∧ W.cell? ⟨w.heap.size, 2, none⟩ = some (.int .i64 a2) ∧ W.cell? ⟨w.heap.size, 3, none⟩ = some (.int .i64 a3) ∧ W.cell? ⟨w.heap.size, 4, none⟩ = some (.int .i64 a4) ∧ W.cell? ⟨w.heap.size, 5, none⟩ = some (.int .i64 a5) ∧ W.cell? ⟨w.heap.size, 6, none⟩ = some (.int .i64 a6) ∧ W.cell? ⟨w.heap.size + 1, 0, none⟩ = some (.int .i64 r) ∧ W.cell? ⟨w.heap.size + 1, 1, none⟩ = some (.int .i64 i) ∧ W.cell? ⟨w.heap.size + 1, 2, none⟩ = some (.int .i64 k)) (simp [*, go_sem, World.cell?_alloc_past])
    (first
      | (go_at_call 42; refine (start_i _ _ _ _ _ _ _ _ _ hok h1 (by omega)).mono ?_; rintro e w3 ⟨rfl, hb3⟩; have B3 := Bx.twoSeq B2.drew hb3; clear qa qb hb3; have qa := Bx.twoCellA B3; have qb := Bx.twoCellB B3))
  go_wp2_with fail
  go_ret2
  exact ⟨ret2 (addr_sum hok h2 h3 h4), Bx.twoEnd B3⟩
set_option maxHeartbeats 1000000 in
theorem addr_cfg (a0 a1 a2 a3 a4 a5 a6 r i k : Int) (w : World) (hc : cfgB a0 a1 a2 a3 a4 a5 a6 = false) :
    Calls Tryz.prog 116 #[.agg #[.int .i64 a0, .int .i64 a1, .int .i64 a2, .int .i64 a3, .int .i64 a4, .int .i64 a5, .int .i64 a6], .agg #[.int .i64 r, .int .i64 i, .int .i64 k]] w fun e w' =>
      e = .returned (.tuple #[.int .i64 0, .int .i64 1]) ∧ Below w.heap.size w w' := by
  have k1 := chk_f
  go_enter Tryz.func116, Tryz.ntmps116
  go_wp2_with fail
  refine (check_any _ _ _ _ _ _ _ _).mono ?_
  rintro e w1 ⟨rfl, hb1⟩
  have B1 := Bx.twoSeq (Bx.two0 _ _ _) hb1
  clear hb1
  go_wp2_with fail
  go_ret2
  exact ⟨rfl, Bx.twoEnd B1⟩
set_option maxHeartbeats 1000000 in
theorem addr_reg (a0 a1 a2 a3 a4 a5 a6 r i k : Int) (w : World) (hc : cfgB a0 a1 a2 a3 a4 a5 a6 = true) (h : r < 1 ∨ 13 < r) :
    Calls Tryz.prog 116 #[.agg #[.int .i64 a0, .int .i64 a1, .int .i64 a2, .int .i64 a3, .int .i64 a4, .int .i64 a5, .int .i64 a6], .agg #[.int .i64 r, .int .i64 i, .int .i64 k]] w fun e w' =>
      e = .returned (.tuple #[.int .i64 0, .int .i64 2]) ∧ Below w.heap.size w w' := by
  have k1 := chk_t
  go_enter Tryz.func116, Tryz.ntmps116
  go_wp2_with fail
  refine (check_any _ _ _ _ _ _ _ _).mono ?_
  rintro e w1 ⟨rfl, hb1⟩
  have B1 := Bx.twoSeq (Bx.two0 _ _ _) hb1
  clear hb1
  have qa := Bx.twoCellA B1
  have qb := Bx.twoCellB B1
  go_wp2_with (go_at_call 126; refine (isRegion_no _ _ h).mono ?_; rintro e w' ⟨rfl, rfl⟩)
  go_ret2
  exact ⟨rfl, Bx.twoEnd B1⟩
set_option maxHeartbeats 1000000 in
theorem addr_out (a0 a1 a2 a3 a4 a5 a6 r i k : Int) (w : World) (hc : cfgB a0 a1 a2 a3 a4 a5 a6 = true) (h1 : 1 ≤ r) (h2 : r ≤ 13) (h : inB i 0 (items a1 a5 a6 r - 1) = false ∨ (inB i 0 (items a1 a5 a6 r - 1) = true ∧ inB k 0 (each a2 r - 1) = false)) :
    Calls Tryz.prog 116 #[.agg #[.int .i64 a0, .int .i64 a1, .int .i64 a2, .int .i64 a3, .int .i64 a4, .int .i64 a5, .int .i64 a6], .agg #[.int .i64 r, .int .i64 i, .int .i64 k]] w fun e w' =>
      e = .returned (.tuple #[.int .i64 0, .int .i64 2]) ∧ Below w.heap.size w w' := by
  have hok := ok_of hc
  have k1 := chk_t
  have ib := items_bd hok r
  have eb := each_bd hok r
  rcases h with h3 | ⟨h3, h4⟩
  all_goals
    go_enter Tryz.func116, Tryz.ntmps116
    go_wp2_with fail
    refine (check_any _ _ _ _ _ _ _ _).mono ?_
    rintro e w1 ⟨rfl, hb1⟩
    have B1 := Bx.twoSeq (Bx.two0 _ _ _) hb1
    clear hb1
    have qa := Bx.twoCellA B1
    have qb := Bx.twoCellB B1
    go_wp2_with (go_at_call 126; refine (isRegion_yes _ _ h1 h2).mono ?_; rintro e w' ⟨rfl, rfl⟩)
    refine (extent_any _ _ _ _ _ _ _ _ _).mono ?_
    rintro e w2 ⟨rfl, hb2⟩
    have B2 := Bx.twoSeq B1 hb2
    clear hb2 qa qb B1
    have qb := Bx.twoCellB B2
    go_wp2_with (go_at_call 40; refine (within_any _ _ _ _).mono ?_; rintro e w' ⟨rfl, rfl⟩)
    go_ret2
    exact ⟨rfl, Bx.twoEnd B2⟩
end Go.Proofs.YtjpgjhjnneeliaaGreat.Wm
/-
  AN ARENA as it lies in the world: its block, its slots, its caches; and what only reads it.
-/
namespace Go.Proofs.YtjpgjhjnneeliaaGreat.Ar
open Go.RowKit Mr Me Ma Wc Wm
/-- A configuration. -/
structure Cf where
  a0 : Int
  a1 : Int
  a2 : Int
  a3 : Int
  a4 : Int
  a5 : Int
  a6 : Int
def Cf.val (c : Cf) : Value := .agg #[.int .i64 c.a0, .int .i64 c.a1, .int .i64 c.a2, .int .i64 c.a3, .int .i64 c.a4, .int .i64 c.a5, .int .i64 c.a6]
def Cf.ok (c : Cf) : Bool := cfgB c.a0 c.a1 c.a2 c.a3 c.a4 c.a5 c.a6
/-- Where the spare words begin. -/
def Cf.m (c : Cf) : Int := base c.a1 c.a2 c.a5 c.a6 10
def sla (x : Int × Int) : List Value := [.int .i64 x.1, .int .i64 x.2]
theorem sla_len (x : Int × Int) : (sla x).length = 2 := rfl
def ints (l : List Int) : List Value := l.map (Value.int .i64)
/-- An arena; its blocks are among T. -/
structure Ar (W : World) (T : Nat → Prop) (ba gs cs : Nat) (c : Cf) (vca : Value) (vs : List Value) (A : Ao) : Prop where
  blk : W.heap[ba]? = some (.cells #[.int .i64 c.a0, .int .i64 c.a1, .int .i64 c.a2, .int .i64 c.a3, .int .i64 c.a4, .int .i64 c.a5, .int .i64 c.a6, .slice (some ⟨gs, 0, none⟩) A.sl.length cs, vca] 101 (0, 0))
  slots : Has W T 103 2 (.slice (some ⟨gs, 0, none⟩) A.sl.length cs) A.sl.length (A.sl.flatMap sla)
  caches : Has W T 45 1 vca A.ca.length vs
  each : ∀ (i : Nat) (v : Value) (l : List Int), vs[i]? = some v → A.ca[i]? = some l → Has W T 3 1 v l.length (ints l)
  sep : ∀ (i j : Nat) (v v' : Value) (k : Nat), vs[i]? = some v → vs[j]? = some v' → v.ownBlock = some k → v'.ownBlock = some k → i = j
  ta : T ba
  ok : c.ok = true
  five : c.a5 = A.sl.length
section
variable {W : World} {T : Nat → Prop} {ba gs cs : Nat} {c : Cf} {vca : Value} {vs : List Value} {A : Ao}
theorem Ar.lens (h : Ar W T ba gs cs c vca vs A) : vs.length = A.ca.length := by have := h.caches.1; omega
theorem Ar.kept {w : World} {T' : Nat → Prop} (h : Ar W T ba gs cs c vca vs A) (hk : ∀ k, T k → w.heap[k]? = W.heap[k]?) (hT : ∀ k, T k → T' k) : Ar w T' ba gs cs c vca vs A :=
  ⟨(hk ba h.ta).trans h.blk, h.slots.kept (fun k e => hk k (h.slots.lt k e).1) (fun k e => hT k (h.slots.lt k e).1), h.caches.kept (fun k e => hk k (h.caches.lt k e).1) (fun k e => hT k (h.caches.lt k e).1),
    fun i v l hv hl => (h.each i v l hv hl).kept (fun k e => hk k ((h.each i v l hv hl).lt k e).1) (fun k e => hT k ((h.each i v l hv hl).lt k e).1), h.sep, hT ba h.ta, h.ok, h.five⟩
/-- A block of another type is no block of it. -/
theorem Ar.far {w : World} {k : Nat} {xs : Array Value} {t : TypeId} (h : Ar W T ba gs cs c vca vs A) (hb : W.heap[k]? = some (.cells xs t (0, 0))) (ht : t ≠ 101 ∧ t ≠ 103 ∧ t ≠ 45 ∧ t ≠ 3) (hw : ∀ j, j ≠ k → T j → w.heap[j]? = W.heap[j]?) : Ar w T ba gs cs c vca vs A := by
  have h1 : ba ≠ k := fun e => by
    have := h.blk
    rw [e, hb] at this
    simp at this
    exact ht.1 this.2
  exact ⟨(hw ba h1 h.ta).trans h.blk, h.slots.kept (fun j e => hw j (fun ej => not_row hb h.slots ht.2.1 (ej ▸ e)) (h.slots.lt j e).1) (fun j e => (h.slots.lt j e).1), h.caches.kept (fun j e => hw j (fun ej => not_row hb h.caches ht.2.2.1 (ej ▸ e)) (h.caches.lt j e).1) (fun j e => (h.caches.lt j e).1),
    fun i v l hv hl => (h.each i v l hv hl).kept (fun j e => hw j (fun ej => not_row hb (h.each i v l hv hl) ht.2.2.2 (ej ▸ e)) ((h.each i v l hv hl).lt j e).1) (fun j e => ((h.each i v l hv hl).lt j e).1), h.sep, h.ta, h.ok, h.five⟩
theorem Ar.lt (h : Ar W T ba gs cs c vca vs A) : ba < W.heap.size := (Array.getElem?_eq_some_iff.1 h.blk).1
theorem Ar.c4 (h : Ar W T ba gs cs c vca vs A) : W.cell? ⟨ba, 4, none⟩ = some (.int .i64 c.a4) := by simp [World.cell?, h.blk]
theorem Ar.c7 (h : Ar W T ba gs cs c vca vs A) : W.cell? ⟨ba, 7, none⟩ = some (.slice (some ⟨gs, 0, none⟩) A.sl.length cs) := by simp [World.cell?, h.blk]
theorem Ar.c8 (h : Ar W T ba gs cs c vca vs A) : W.cell? ⟨ba, 8, none⟩ = some vca := by simp [World.cell?, h.blk]
/-- A thread's cache. -/
theorem Ar.cache (h : Ar W T ba gs cs c vca vs A) (i : Nat) (hi : i < A.ca.length) : ∃ (gc cc : Nat) (a : Option Addr) (n : Nat), vca = .slice (some ⟨gc, 0, none⟩) A.ca.length cc ∧ W.cell? ⟨gc, i, none⟩ = some (.slice a (A.cache i).length n) ∧ vs[i]? = some (.slice a (A.cache i).length n) ∧ Has W T 3 1 (.slice a (A.cache i).length n) (A.cache i).length (ints (A.cache i)) ∧ A.ca[i]? = some (A.cache i) := by
  obtain ⟨gc, cc, e, _⟩ := h.caches.there (by omega)
  have hl := h.lens
  obtain ⟨v, hv⟩ : ∃ v, vs[i]? = some v := ⟨_, List.getElem?_eq_getElem (by omega)⟩
  have hc : A.ca[i]? = some (A.cache i) := by rw [Ao.cache, List.getElem?_eq_getElem hi]; rfl
  have he := h.each i v _ hv hc
  obtain ⟨a, n, ev, _⟩ := he.form
  subst ev
  exact ⟨gc, cc, a, n, e, h.caches.cells (g := gc) (by rw [e]; rfl) i _ hv, hv, he, hc⟩
theorem hasSlot_any (h : Ar W T ba gs cs c vca vs A) (s : Int) :
    Calls Tryz.prog 57 #[.pointer (some ⟨ba, 0, none⟩), .int .i64 s] W fun e w' => e = .returned (.bool (decide (A.has s))) ∧ w' = W := by
  have c7 := h.c7
  clear h
  by_cases h0 : 0 ≤ s
  · by_cases h1 : s < A.sl.length
    · have e1 : decide (A.has s) = true := decide_eq_true ⟨h0, h1⟩
      rw [e1]
      have d0 : decide (0 ≤ s) = true := decide_eq_true h0
      have d1 : decide (s < (A.sl.length : Int)) = true := decide_eq_true h1
      go_enter Tryz.func57, Tryz.ntmps57
      go_wp2
      go_ret
      exact ⟨rfl, rfl⟩
    · have e1 : decide (A.has s) = false := decide_eq_false (fun h => h1 h.2)
      rw [e1]
      have d0 : decide (0 ≤ s) = true := decide_eq_true h0
      have d1 : decide (s < (A.sl.length : Int)) = false := decide_eq_false h1
      go_enter Tryz.func57, Tryz.ntmps57
      go_wp2
      go_ret
      exact ⟨rfl, rfl⟩
  · have e1 : decide (A.has s) = false := decide_eq_false (fun h => h0 h.1)
    rw [e1]
    have d0 : decide (0 ≤ s) = false := decide_eq_false h0
    go_enter Tryz.func57, Tryz.ntmps57
    go_wp2
    go_ret
    exact ⟨rfl, rfl⟩
theorem hasThread_yes (h : Ar W T ba gs cs c vca vs A) (i : Nat) (hi : i < A.ca.length) :
    Calls Tryz.prog 34 #[.pointer (some ⟨ba, 0, none⟩), .int .i64 (i : Int)] W fun e w' => e = .returned (.bool true) ∧ w' = W := by
  obtain ⟨gc, cc, a, n, e, _⟩ := h.cache i hi
  have c8 := h.c8
  rw [e] at c8
  clear h
  have d0 : decide (0 ≤ (i : Int)) = true := decide_eq_true (by omega)
  have d1 : decide ((i : Int) < (A.ca.length : Int)) = true := decide_eq_true (by omega)
  go_enter Tryz.func34, Tryz.ntmps34
  go_wp2
  go_ret
  exact ⟨rfl, rfl⟩
set_option maxRecDepth 100000 in
theorem last_any (h : Ar W T ba gs cs c vca vs A) (i : Nat) (hi : i < A.ca.length) :
    Calls Tryz.prog 106 #[.pointer (some ⟨ba, 0, none⟩), .int .i64 (i : Int)] W fun e w' => e = .returned (.int .i64 (A.last i)) ∧ w' = W := by
  have C := hasThread_yes h i hi
  obtain ⟨gc, cc, a, n, e, c1, _, hh, _⟩ := h.cache i hi
  have c8 := h.c8
  rw [e] at c8
  have hl : A.last i = (A.cache i).getLast?.getD (-1) := rfl
  rw [hl]
  rcases List.eq_nil_or_concat (A.cache i) with e0 | ⟨l, s, e0⟩
  · rw [e0] at c1 ⊢
    clear h hh e0 hl
    simp only [List.length_nil, List.getLast?_nil, Option.getD_none] at *
    go_enter Tryz.func106, Tryz.ntmps106
    go_wp2_with (go_at_call 34; refine C.mono ?_; clear C; rintro e w' ⟨rfl, hw⟩; obtain rfl := hw.symm)
    go_ret
    exact ⟨rfl, rfl⟩
  · rw [List.concat_eq_append] at e0
    rw [e0] at c1 hh ⊢
    obtain ⟨g, cap, ev, _, _, hcap, hmax⟩ := hh.there (by simp)
    have k1 := hh.cells (g := g) (by rw [ev]; rfl) l.length (.int .i64 s) (by simp [ints])
    have hlen : (l ++ [s]).length = l.length + 1 := by simp
    rw [hlen] at c1 ev hcap
    injection ev with e1 e2 e3
    subst e1 e3
    have hm : wrap64 (l.length : Int) = l.length := Wp.wrap64_small _ (by omega) (by unfold maxLen at hmax; omega)
    clear h hh e0 hl hlen hcap hmax
    simp only [List.getLast?_append, List.getLast?_singleton, Option.some_or, Option.getD_some]
    generalize l.length = m at *
    have d0 : ((m + 1 : Nat) : Int) - 1 = m := by omega
    have d2 : (((m + 1 : Nat) : Int) == 0) = false := by simp; omega
    go_enter Tryz.func106, Tryz.ntmps106
    go_wp2_with (go_at_call 34; refine C.mono ?_; clear C; rintro e w' ⟨rfl, hw⟩; obtain rfl := hw.symm)
    go_ret
    exact ⟨rfl, rfl⟩
end
end Go.Proofs.YtjpgjhjnneeliaaGreat.Ar
