/-
  SMALL FACTS for the law WordThere: which place follows which.
-/
import Derived.Test.YtbbgobahhcfjjaaWordAddrB
import Derived.Test.YtbbgobahhcfjjaaWordCfg7
import Derived.Test.YtbbgobahhcfjjaaWordRow
namespace Go.Proofs.Ytbbgobahhcfjjaa.Wt
open Go.RowKit
open Wc Wm
set_option linter.unusedVariables false
theorem div_step {d e : Int} (he : 0 < e) (h : d % e + 1 < e) : (d + 1) / e = d / e ∧ (d + 1) % e = d % e + 1 := by
  have h1 := Int.mul_ediv_add_emod d e
  have h2 := Int.emod_nonneg d (by omega : e ≠ 0)
  have := (Int.ediv_emod_unique (a := d + 1) (b := e) (r := d % e + 1) (q := d / e) he).2 ⟨by omega, by omega, h⟩
  exact this
theorem div_wrap {d e : Int} (he : 0 < e) (h : ¬ d % e + 1 < e) : (d + 1) / e = d / e + 1 ∧ (d + 1) % e = 0 := by
  have h1 := Int.mul_ediv_add_emod d e
  have h2 := Int.emod_lt_of_pos d he
  have h3 : e * (d / e + 1) = e * (d / e) + e := by rw [Int.mul_add, Int.mul_one]
  have := (Int.ediv_emod_unique (a := d + 1) (b := e) (r := 0) (q := d / e + 1) he).2 ⟨by omega, by omega, he⟩
  exact this
/-- (r, i, k) is the place at t. -/
def PlaceAt (x1 x2 x5 x6 : Int) (t r i k : Int) : Prop :=
  ∃ j : Nat, 1 ≤ j ∧ j ≤ 13 ∧ base x1 x2 x5 x6 j ≤ t ∧ t < base x1 x2 x5 x6 j + many x1 x2 x5 x6 (j : Int) ∧ r = (j : Int) ∧ i = (t - base x1 x2 x5 x6 j) / each x2 (j : Int) ∧ k = (t - base x1 x2 x5 x6 j) % each x2 (j : Int)
/-- (r, i, k) is the place ahead of t; zeros ahead of 0. -/
def Ahead (x1 x2 x5 x6 : Int) (t r i k : Int) : Prop := (t = 0 ∧ r = 0 ∧ i = 0 ∧ k = 0) ∨ PlaceAt x1 x2 x5 x6 (t - 1) r i k
theorem reg_unique {x1 x2 x5 x6 : Int} (hok : Ok x1 x2 x5 x6) {j k : Nat} {t : Int} (hj : 1 ≤ j) (hk : 1 ≤ k) (a1 : base x1 x2 x5 x6 j ≤ t) (a2 : t < base x1 x2 x5 x6 j + many x1 x2 x5 x6 (j : Int))
    (b1 : base x1 x2 x5 x6 k ≤ t) (b2 : t < base x1 x2 x5 x6 k + many x1 x2 x5 x6 (k : Int)) : j = k := by
  by_cases c : j < k
  · have := base_mono hok j k hj c; omega
  by_cases c' : k < j
  · have := base_mono hok k j hk c'; omega
  omega
theorem next_place {x1 x2 x5 x6 t r i k r' i' k' : Int} (hok : Ok x1 x2 x5 x6) (h : Ahead x1 x2 x5 x6 t r i k) (h' : PlaceAt x1 x2 x5 x6 t r' i' k') :
    (r' = r ∧ i' = i ∧ k' = k + 1) ∨ (r' = r ∧ i' = i + 1 ∧ k' = 0) ∨ (r' = r + 1 ∧ i' = 0 ∧ k' = 0) := by
  obtain ⟨j', j1', j2', a1', a2', rfl, rfl, rfl⟩ := h'
  rcases h with ⟨rfl, rfl, rfl, rfl⟩ | ⟨j, j1, j2, a1, a2, rfl, rfl, rfl⟩
  · have e : j' = 1 := reg_unique hok (t := 0) j1' (Nat.le_refl 1) a1' a2' (by simp [base]) (by have := many_bd hok ((1 : Nat) : Int); simp only [base]; omega)
    subst e
    right; right
    simp [base]
  · have eb := each_bd hok (j : Int)
    have mb := many_bd hok (j : Int)
    by_cases c : t < base x1 x2 x5 x6 j + many x1 x2 x5 x6 (j : Int)
    · have e : j' = j := reg_unique hok (t := t) j1' j1 a1' a2' (by omega) c
      subst e
      rw [show t - base x1 x2 x5 x6 j' = (t - 1 - base x1 x2 x5 x6 j') + 1 from by omega]
      by_cases d : (t - 1 - base x1 x2 x5 x6 j') % each x2 (j' : Int) + 1 < each x2 (j' : Int)
      · have := div_step (by omega) d
        exact .inl ⟨rfl, this.1, this.2⟩
      · have := div_wrap (by omega) d
        exact .inr (.inl ⟨rfl, this.1, this.2⟩)
    · have bs := base_succ x1 x2 x5 x6 j j1
      have mb' := many_bd hok ((j + 1 : Nat) : Int)
      have e : j' = j + 1 := reg_unique hok (t := t) j1' (by omega) a1' a2' (by omega) (by omega)
      subst e
      right; right
      rw [show t - base x1 x2 x5 x6 (j + 1) = 0 from by omega]
      refine ⟨by omega, by simp, by simp⟩
theorem last_place {x1 x2 x5 x6 r i k : Int} {n : Nat} (hok : Ok x1 x2 x5 x6) (hn : base x1 x2 x5 x6 14 = (n : Int)) (hn6 : 6 < n) (h : Ahead x1 x2 x5 x6 (n : Int) r i k) : r = 13 ∧ i = x5 - 1 ∧ k = 0 := by
  rcases h with ⟨h0, _⟩ | ⟨j, j1, j2, a1, a2, rfl, rfl, rfl⟩
  · omega
  have m13 : many x1 x2 x5 x6 ((13 : Nat) : Int) = x5 := by simp [many, items, each]
  have b14 : base x1 x2 x5 x6 14 = base x1 x2 x5 x6 13 + many x1 x2 x5 x6 ((13 : Nat) : Int) := base_succ x1 x2 x5 x6 13 (by decide)
  rw [hn, m13] at b14
  have e13 : each x2 ((13 : Nat) : Int) = 1 := by simp [each]
  have h5 := hok.2.2.2.2.1
  have e : j = 13 := reg_unique hok (t := (n : Int) - 1) j1 (by decide) a1 a2 (by omega) (by rw [m13]; omega)
  subst e
  rw [e13, Int.ediv_one, Int.emod_one]
  exact ⟨rfl, by omega, rfl⟩
theorem find_at {a1 a2 a5 a6 : Int} (hok : Ok a1 a2 a5 a6) (ad : Int) (h0 : 0 ≤ ad) : ∀ n : Nat, 1 ≤ n → ad < base a1 a2 a5 a6 n → ∃ j : Nat, 1 ≤ j ∧ j < n ∧ base a1 a2 a5 a6 j ≤ ad ∧ ad < base a1 a2 a5 a6 j + many a1 a2 a5 a6 (j : Int)
  | 0, h, _ => by omega
  | 1, _, h => by simp [base] at h; omega
  | (n + 2), _, h => by
    by_cases c : ad < base a1 a2 a5 a6 (n + 1)
    · obtain ⟨j, h1, h2, h3, h4⟩ := find_at hok ad h0 (n + 1) (by omega) c
      exact ⟨j, h1, by omega, h3, h4⟩
    · exact ⟨n + 1, by omega, by omega, by omega, by simpa [base] using h⟩
theorem at_place (x0 x1 x2 x3 x4 x5 x6 t r i k : Int) (w : World) (hc : cfgB x0 x1 x2 x3 x4 x5 x6 = true) (h : PlaceAt x1 x2 x5 x6 t r i k) :
    Calls Try.prog 15 #[.agg #[.int .i64 x0, .int .i64 x1, .int .i64 x2, .int .i64 x3, .int .i64 x4, .int .i64 x5, .int .i64 x6], .int .i64 t] w fun e w' =>
      e = .returned (.tuple #[.agg #[.int .i64 r, .int .i64 i, .int .i64 k], .int .i64 0]) ∧ Below w.heap.size w w' := by
  obtain ⟨j, j1, j2, a1, a2, rfl, rfl, rfl⟩ := h
  exact at_ok _ _ _ _ _ _ _ _ j w hc j1 j2 a1 a2
theorem addr_back (x0 x1 x2 x3 x4 x5 x6 t r i k : Int) (w : World) (hc : cfgB x0 x1 x2 x3 x4 x5 x6 = true) (h : PlaceAt x1 x2 x5 x6 t r i k) :
    Calls Try.prog 16 #[.agg #[.int .i64 x0, .int .i64 x1, .int .i64 x2, .int .i64 x3, .int .i64 x4, .int .i64 x5, .int .i64 x6], .agg #[.int .i64 r, .int .i64 i, .int .i64 k]] w fun e w' =>
      e = .returned (.tuple #[.int .i64 t, .int .i64 0]) ∧ Below w.heap.size w w' := by
  obtain ⟨j, j1, j2, a1, a2, rfl, rfl, rfl⟩ := h
  have hok := ok_of hc
  have eb := each_bd hok (j : Int)
  have h1 := Int.mul_ediv_add_emod (t - base x1 x2 x5 x6 j) (each x2 (j : Int))
  have h2 := Int.emod_nonneg (t - base x1 x2 x5 x6 j) (by omega : each x2 (j : Int) ≠ 0)
  have h3 := Int.emod_lt_of_pos (t - base x1 x2 x5 x6 j) (by omega : 0 < each x2 (j : Int))
  have h4 : 0 ≤ (t - base x1 x2 x5 x6 j) / each x2 (j : Int) := Int.ediv_nonneg (by omega) (by omega)
  have h5 : (t - base x1 x2 x5 x6 j) / each x2 (j : Int) < items x1 x5 x6 (j : Int) := Int.ediv_lt_of_lt_mul (by omega) (by unfold many at a2; omega)
  have q := addr_ok x0 x1 x2 x3 x4 x5 x6 (j : Int) ((t - base x1 x2 x5 x6 j) / each x2 (j : Int)) ((t - base x1 x2 x5 x6 j) % each x2 (j : Int)) w hc (by omega) (by omega)
    (by simp [inB]; omega) (by simp [inB]; omega)
  have e : base x1 x2 x5 x6 ((j : Int).toNat) + (t - base x1 x2 x5 x6 j) / each x2 (j : Int) * each x2 (j : Int) + (t - base x1 x2 x5 x6 j) % each x2 (j : Int) = t := by
    rw [Int.toNat_natCast, Int.mul_comm]; omega
  rw [e] at q
  exact q
theorem ahead_bd {x1 x2 x5 x6 t r i k : Int} (hok : Ok x1 x2 x5 x6) (h : Ahead x1 x2 x5 x6 t r i k) : 0 ≤ r ∧ r ≤ 13 ∧ 0 ≤ i ∧ i ≤ 1024 ∧ 0 ≤ k ∧ k ≤ 8 := by
  rcases h with ⟨_, rfl, rfl, rfl⟩ | ⟨j, j1, j2, a1, a2, rfl, rfl, rfl⟩
  · decide
  · have eb := each_bd hok (j : Int)
    have ib := items_bd hok (j : Int)
    have h2 := Int.emod_nonneg (t - 1 - base x1 x2 x5 x6 j) (by omega : each x2 (j : Int) ≠ 0)
    have h3 := Int.emod_lt_of_pos (t - 1 - base x1 x2 x5 x6 j) (by omega : 0 < each x2 (j : Int))
    have h4 : 0 ≤ (t - 1 - base x1 x2 x5 x6 j) / each x2 (j : Int) := Int.ediv_nonneg (by omega) (by omega)
    have h5 : (t - 1 - base x1 x2 x5 x6 j) / each x2 (j : Int) < items x1 x5 x6 (j : Int) := Int.ediv_lt_of_lt_mul (by omega) (by unfold many at a2; omega)
    omega
theorem ahead_next {x1 x2 x5 x6 r i k : Int} {t : Nat} (h : PlaceAt x1 x2 x5 x6 (t : Int) r i k) : Ahead x1 x2 x5 x6 ((t + 1 : Nat) : Int) r i k := by
  right
  rw [show ((t + 1 : Nat) : Int) - 1 = (t : Int) from by omega]
  exact h
/-- A place in a box that may be written. -/
structure Pl3 (W : World) (b : Nat) (r i k : Int) : Prop where
  c0 : W.cell? ⟨b, 0, none⟩ = some (.int .i64 r)
  c1 : W.cell? ⟨b, 1, none⟩ = some (.int .i64 i)
  c2 : W.cell? ⟨b, 2, none⟩ = some (.int .i64 k)
  f : ∀ o, W.frozen? ⟨b, o, none⟩ = false
  size : b < W.heap.size
theorem Pl3.below {W W' : World} {b : Nat} {r i k : Int} (h : Pl3 W b r i k) (hb : Below W.heap.size W W') : Pl3 W' b r i k :=
  ⟨(hb.cell (p := ⟨b, 0, none⟩) h.size).trans h.c0, (hb.cell (p := ⟨b, 1, none⟩) h.size).trans h.c1, (hb.cell (p := ⟨b, 2, none⟩) h.size).trans h.c2, fun o => (hb.frozen (p := ⟨b, o, none⟩) h.size).trans (h.f o), Nat.lt_of_lt_of_le h.size hb.size⟩
theorem Pl3.alloc {W : World} {b : Nat} {r i k : Int} (h : Pl3 W b r i k) (o : Obj) : Pl3 (W.alloc o) b r i k :=
  h.below ((Below.refl _ _).alloc (Nat.le_refl _) o)
theorem Pl3.made (w : World) (r i k : Int) (t : TypeId) : Pl3 (w.alloc (.cells #[.int .i64 r, .int .i64 i, .int .i64 k] t)) w.heap.size r i k := by
  refine ⟨?_, ?_, ?_, fun o => World.frozen?_alloc_at _ _ _ _ rfl, by simp⟩ <;> (rw [World.cell?_alloc_at _ _ _ _ rfl]; rfl)
theorem Pl3.stored {W : World} {b : Nat} {r i k : Int} (r' i' k' : Int) (h : Pl3 W b r i k) :
    Pl3 (((W.setCell ⟨b, 0, none⟩ (.int .i64 r')).setCell ⟨b, 1, none⟩ (.int .i64 i')).setCell ⟨b, 2, none⟩ (.int .i64 k')) b r' i' k' := by
  have d : ∀ i j : Nat, i ≠ j → (⟨b, i, none⟩ : Addr) ≠ ⟨b, j, none⟩ := by intro i j hij e; injection e with e1 e2 e3; exact hij e2
  have hs := h.size
  refine ⟨?_, ?_, ?_, fun o => by rw [World.frozen?_setCell, World.frozen?_setCell, World.frozen?_setCell]; exact h.f o, by simpa using hs⟩
  · rw [World.cell?_setCell_other _ _ _ _ (d 2 0 (by decide)), World.cell?_setCell_other _ _ _ _ (d 1 0 (by decide))]
    exact World.cell?_setCell_same _ _ _ h.c0
  · rw [World.cell?_setCell_other _ _ _ _ (d 2 1 (by decide))]
    refine World.cell?_setCell_same _ _ _ (u := .int .i64 i) ?_
    rw [World.cell?_setCell_other _ _ _ _ (d 0 1 (by decide))]; exact h.c1
  · refine World.cell?_setCell_same _ _ _ (u := .int .i64 k) ?_
    rw [World.cell?_setCell_other _ _ _ _ (d 1 2 (by decide)), World.cell?_setCell_other _ _ _ _ (d 0 2 (by decide))]; exact h.c2
theorem cfgSet {W : World} {b c : Nat} {x0 x1 x2 x3 x4 x5 x6 : Int} (h : Bx.Cfg7 W b x0 x1 x2 x3 x4 x5 x6) (hbc : c ≠ b) (v0 v1 v2 : Value) :
    Bx.Cfg7 (((W.setCell ⟨c, 0, none⟩ v0).setCell ⟨c, 1, none⟩ v1).setCell ⟨c, 2, none⟩ v2) b x0 x1 x2 x3 x4 x5 x6 :=
  ((h.setFar _ _ hbc).setFar _ _ hbc).setFar _ _ hbc
end Go.Proofs.Ytbbgobahhcfjjaa.Wt
