/-
  SMALL FACTS for the law WordChain.
-/
import Derived.Test.YtbbgobahhcfjjabWordFstAll
import Derived.Test.YtbbgobahhcfjjabWordAddrB
import Derived.Test.YtbbgobahhcfjjabWordCfg7
import Derived.Test.YtbbgobahhcfjjabWordPackU
import Derived.Deep.DeepCutAuto
import Derived.WalkLawsBesides
namespace Go.Proofs.Ytbbgobahhcfjjab.Wr
open Go.RowKit
open Wc Wm
set_option linter.unusedVariables false
/-- The slot that follows in the free list, or -1. -/
def nextI (k x5 : Int) : Int := if k < x5 then k else -1
theorem nextI_bd (k x5 : Int) (h0 : 0 ≤ k) (h : x5 ≤ 1024) : -1 ≤ nextI k x5 ∧ nextI k x5 ≤ 1024 := by unfold nextI; split <;> omega
theorem fst_head (x1 x2 x5 x6 v : Int) : fstF x1 x2 x5 x6 v 0 = nextI v x5 + 1 := by
  unfold fstF memF nextI; rw [if_pos rfl]; split <;> omega
theorem fst_spare {x1 x2 x5 x6 v : Int} {m k : Nat} (hm : base x1 x2 x5 x6 10 = (m : Int)) (hm6 : 6 < m) (h0 : v ≤ (k : Int)) (h1 : (k : Int) < x5) (hv : 0 ≤ v) : fstF x1 x2 x5 x6 v (m + k) = nextI ((k : Int) + 1) x5 + 1 := by
  unfold fstF memF nextI
  rw [hm, if_neg (by omega), if_neg (by omega), if_neg (by omega)]
  rw [if_pos (show v < x5 by omega)]
  by_cases c : (k : Int) + 1 < x5
  · rw [if_pos (by omega), if_pos c]; omega
  · rw [if_neg (by omega), if_neg c]; rfl
open Wp in
theorem unhead_small (y : Int) (w : World) (h1 : -1 ≤ y) (h2 : y ≤ 1024) :
    Calls Try.prog 10 #[.int .u64 (y + 1)] w fun e w' => e = .returned (.tuple #[.int .u32 0, .int .i64 y, .int .i64 0]) ∧ w' = w := by
  have h := unhead_ok (y + 1) w (by omega) (by omega) (by omega)
  rwa [show (y + 1) / 4294967296 = 0 from by omega, show (y + 1) % 4294967296 - 1 = y from by omega] at h
open Wp in
theorem unlink_small (y : Int) (w : World) (h1 : -1 ≤ y) (h2 : y ≤ 1024) :
    Calls Try.prog 12 #[.int .u64 (y + 1)] w fun e w' => e = .returned (.tuple #[.int .i64 y, .bool false, .int .i64 0]) ∧ w' = w := by
  have h := unlink_ok (y + 1) w (by omega) (by omega) (by omega)
  have e : ((y + 1) / 4294967296 % 2 == 1) = false := by simp; omega
  rwa [e, show (y + 1) % 4294967296 - 1 = y from by omega] at h
theorem addr_spare (x0 x1 x2 x3 x4 x5 x6 : Int) (k m : Nat) (w : World) (hc : cfgB x0 x1 x2 x3 x4 x5 x6 = true) (hm : base x1 x2 x5 x6 10 = (m : Int)) (h1 : (k : Int) < x5) :
    Calls Try.prog 11 #[.agg #[.int .i64 x0, .int .i64 x1, .int .i64 x2, .int .i64 x3, .int .i64 x4, .int .i64 x5, .int .i64 x6], .agg #[.int .i64 10, .int .i64 (k : Int), .int .i64 0]] w fun e w' =>
      e = .returned (.tuple #[.int .i64 ((m : Int) + (k : Int)), .int .i64 0]) ∧ Below w.heap.size w w' := by
  have hi : items x1 x5 x6 10 = x5 := by simp [items]
  have he : each x2 10 = 1 := by simp [each]
  have h := addr_ok x0 x1 x2 x3 x4 x5 x6 10 (k : Int) 0 w hc (by decide) (by decide) (by rw [hi]; exact used_in (by omega) (by omega)) (by rw [he]; decide)
  rw [he, show base x1 x2 x5 x6 (10 : Int).toNat = (m : Int) from hm, Int.mul_one, Int.add_zero] at h
  exact h
theorem find_at' {a1 a2 a5 a6 : Int} (hok : Ok a1 a2 a5 a6) (ad : Int) (h0 : 0 ≤ ad) : ∀ n : Nat, 1 ≤ n → ad < base a1 a2 a5 a6 n → ∃ j : Nat, 1 ≤ j ∧ j < n ∧ base a1 a2 a5 a6 j ≤ ad ∧ ad < base a1 a2 a5 a6 j + many a1 a2 a5 a6 (j : Int)
  | 0, h, _ => by omega
  | 1, _, h => by simp [base] at h; omega
  | (n + 2), _, h => by
    by_cases c : ad < base a1 a2 a5 a6 (n + 1)
    · obtain ⟨j, h1, h2, h3, h4⟩ := find_at' hok ad h0 (n + 1) (by omega) c
      exact ⟨j, h1, by omega, h3, h4⟩
    · exact ⟨n + 1, by omega, by omega, by omega, by simpa [base] using h⟩
theorem reg_unique {x1 x2 x5 x6 : Int} (hok : Ok x1 x2 x5 x6) {j k : Nat} {t : Int} (hj : 1 ≤ j) (hk : 1 ≤ k) (a1 : base x1 x2 x5 x6 j ≤ t) (a2 : t < base x1 x2 x5 x6 j + many x1 x2 x5 x6 (j : Int))
    (b1 : base x1 x2 x5 x6 k ≤ t) (b2 : t < base x1 x2 x5 x6 k + many x1 x2 x5 x6 (k : Int)) : j = k := by
  by_cases c : j < k
  · have := base_mono hok j k hj c; omega
  by_cases c' : k < j
  · have := base_mono hok k j hk c'; omega
  omega
theorem many4 (x1 x2 x5 x6 : Int) : many x1 x2 x5 x6 ((4 : Nat) : Int) = 1 := by simp [many, items, each]
theorem many5 (x1 x2 x5 x6 : Int) : many x1 x2 x5 x6 ((5 : Nat) : Int) = 1 := by simp [many, items, each]
theorem many10 (x1 x2 x5 x6 : Int) : many x1 x2 x5 x6 ((10 : Nat) : Int) = x5 := by simp [many, items, each]
theorem fst_34 (x1 x2 x5 x6 v : Int) (t : Nat) (h : t = 3 ∨ t = 4) : fstF x1 x2 x5 x6 v t = if 0 < v then 1 else 0 := by
  unfold fstF memF
  rcases h with rfl | rfl <;> simp
theorem fst_zero {x1 x2 x5 x6 v : Int} {m t : Nat} (hm : base x1 x2 x5 x6 10 = (m : Int)) (h0 : t ≠ 0) (h3 : t ≠ 3) (h4 : t ≠ 4) (h : (t : Int) < m + v ∨ (m : Int) + x5 - 1 ≤ t) (hv : v ≤ x5) : fstF x1 x2 x5 x6 v t = 0 := by
  unfold fstF memF
  rw [hm, if_neg h0, if_neg h3, if_neg h4, if_neg]
  split <;> omega
/-- What is true of the word at an address t > 0, by the region in which it lies. -/
theorem fst_at {x1 x2 x5 x6 : Int} {V m n t j : Nat} (hok : Ok x1 x2 x5 x6) (hm : base x1 x2 x5 x6 10 = (m : Int)) (hv : (V : Int) ≤ x5) (ht : 1 ≤ t) (hj : 1 ≤ j) (a1 : base x1 x2 x5 x6 j ≤ (t : Int)) (a2 : (t : Int) < base x1 x2 x5 x6 j + many x1 x2 x5 x6 (j : Int)) :
    (j = 10 ∧ (V : Int) ≤ (t : Int) - m ∧ (t : Int) - m < x5 - 1) ∨ (j = 10 ∧ (t : Int) - m < V ∧ fstF x1 x2 x5 x6 (V : Int) t = 0) ∨ (j = 10 ∧ (V : Int) ≤ (t : Int) - m ∧ x5 - 1 ≤ (t : Int) - m ∧ fstF x1 x2 x5 x6 (V : Int) t = 0) ∨
    (j = 4 ∧ fstF x1 x2 x5 x6 (V : Int) t = if 0 < (V : Int) then 1 else 0) ∨ (j = 5 ∧ fstF x1 x2 x5 x6 (V : Int) t = if 0 < (V : Int) then 1 else 0) ∨ (j ≠ 10 ∧ j ≠ 4 ∧ j ≠ 5 ∧ fstF x1 x2 x5 x6 (V : Int) t = 0) := by
  have b4 := base4 x1 x2 x5 x6
  have b5 := base5 x1 x2 x5 x6
  have m4 := many4 x1 x2 x5 x6
  have m5 := many5 x1 x2 x5 x6
  have m10 := many10 x1 x2 x5 x6
  have hm6 : 6 < m := by
    obtain ⟨n', m', _, hm', _, h6, _⟩ := sizes hok
    omega
  by_cases c4 : j = 4
  · subst c4; rw [b4, m4] at a2; rw [b4] at a1
    exact .inr (.inr (.inr (.inl ⟨rfl, fst_34 _ _ _ _ _ t (.inl (by omega))⟩)))
  by_cases c5 : j = 5
  · subst c5; rw [b5, m5] at a2; rw [b5] at a1
    exact .inr (.inr (.inr (.inr (.inl ⟨rfl, fst_34 _ _ _ _ _ t (.inr (by omega))⟩))))
  have n3 : t ≠ 3 := fun e => c4 (reg_unique hok (t := (t : Int)) hj (by decide) a1 a2 (by rw [b4]; omega) (by rw [b4, m4]; omega))
  have n4 : t ≠ 4 := fun e => c5 (reg_unique hok (t := (t : Int)) hj (by decide) a1 a2 (by rw [b5]; omega) (by rw [b5, m5]; omega))
  by_cases c10 : j = 10
  · subst c10; rw [hm, m10] at a2; rw [hm] at a1
    by_cases d1 : (t : Int) - m < V
    · exact .inr (.inl ⟨rfl, d1, fst_zero hm (by omega) n3 n4 (.inl (by omega)) hv⟩)
    by_cases d2 : x5 - 1 ≤ (t : Int) - m
    · exact .inr (.inr (.inl ⟨rfl, by omega, d2, fst_zero hm (by omega) n3 n4 (.inr (by omega)) hv⟩))
    · exact .inl ⟨rfl, by omega, by omega⟩
  · refine .inr (.inr (.inr (.inr (.inr ⟨c10, c4, c5, fst_zero hm (by omega) n3 n4 ?_ hv⟩))))
    by_cases d1 : (t : Int) < m
    · left; omega
    · right
      by_cases d2 : (t : Int) < m + x5
      · exact absurd (reg_unique hok (t := (t : Int)) hj (by decide : 1 ≤ 10) a1 a2 (by rw [hm]; omega) (by rw [hm, m10]; omega)) c10
      · omega
theorem rowAlloc {W : World} {b n : Nat} {f : Nat → Int} (h : Row W b n f) (i : Nat) (hi : i < n) : ∀ o, (W.alloc o).cell? ⟨b, i, none⟩ = some (.int .u64 (f i)) :=
  fun o => (h.below ((Below.refl _ _).alloc (Nat.le_refl _) o)).cell i hi
theorem cfgAlloc5 {W : World} {b : Nat} {x0 x1 x2 x3 x4 x5 x6 : Int} (h : Bx.Cfg7 W b x0 x1 x2 x3 x4 x5 x6) : ∀ o, (W.alloc o).cell? ⟨b, 5, none⟩ = some (.int .i64 x5) :=
  fun o => (h.alloc o).c5
end Go.Proofs.Ytbbgobahhcfjjab.Wr
