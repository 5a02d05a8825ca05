import Derived.Test.YtfhkgeoionkonaaGreatDoorJ25
import Derived.Test.YtfhkgeoionkonaaGreatDoorJ26
import Derived.Test.YtfhkgeoionkonaaGreatDoorJ18
import Derived.Test.YtfhkgeoionkonaaGreatDoorJ23
import Derived.Test.YtfhkgeoionkonaaGreatDoorJ24
namespace Go.Proofs.YtfhkgeoionkonaaGreatDoor.Wc
open Go.RowKit
theorem refConfig (a0 a1 a2 a3 a4 a5 a6 : Int) (w : World) :
    Calls Tryz.prog 13 #[.agg #[.int .i64 a0, .int .i64 a1, .int .i64 a2, .int .i64 a3, .int .i64 a4, .int .i64 a5, .int .i64 a6]] w fun e w' =>
      e = .returned (.bool (cfgB a0 a1 a2 a3 a4 a5 a6)) ∧ Below w.heap.size w w' := by
  by_cases c0 : decide (1 ≤ a0) = true
  rotate_left
  · have f : decide (1 ≤ a0) = false := by simpa using c0
    have e : cfgB a0 a1 a2 a3 a4 a5 a6 = false := by simp [cfgB, inB, f]
    rw [e]
    exact refConfig0 a0 a1 a2 a3 a4 a5 a6 w f
  by_cases c1 : decide (a0 ≤ 16) = true
  rotate_left
  · have f : decide (a0 ≤ 16) = false := by simpa using c1
    have e : cfgB a0 a1 a2 a3 a4 a5 a6 = false := by simp [cfgB, inB, f]
    rw [e]
    exact refConfig1 a0 a1 a2 a3 a4 a5 a6 w c0 f
  by_cases c2 : decide (1 ≤ a1) = true
  rotate_left
  · have f : decide (1 ≤ a1) = false := by simpa using c2
    have e : cfgB a0 a1 a2 a3 a4 a5 a6 = false := by simp [cfgB, inB, f]
    rw [e]
    exact refConfig2 a0 a1 a2 a3 a4 a5 a6 w c0 c1 f
  by_cases c3 : decide (a1 ≤ 16) = true
  rotate_left
  · have f : decide (a1 ≤ 16) = false := by simpa using c3
    have e : cfgB a0 a1 a2 a3 a4 a5 a6 = false := by simp [cfgB, inB, f]
    rw [e]
    exact refConfig3 a0 a1 a2 a3 a4 a5 a6 w c0 c1 c2 f
  by_cases c4 : decide (3 ≤ a2) = true
  rotate_left
  · have f : decide (3 ≤ a2) = false := by simpa using c4
    have e : cfgB a0 a1 a2 a3 a4 a5 a6 = false := by simp [cfgB, inB, f]
    rw [e]
    exact refConfig4 a0 a1 a2 a3 a4 a5 a6 w c0 c1 c2 c3 f
  by_cases c5 : decide (a2 ≤ 8) = true
  rotate_left
  · have f : decide (a2 ≤ 8) = false := by simpa using c5
    have e : cfgB a0 a1 a2 a3 a4 a5 a6 = false := by simp [cfgB, inB, f]
    rw [e]
    exact refConfig5 a0 a1 a2 a3 a4 a5 a6 w c0 c1 c2 c3 c4 f
  by_cases c6 : decide (1 ≤ a3) = true
  rotate_left
  · have f : decide (1 ≤ a3) = false := by simpa using c6
    have e : cfgB a0 a1 a2 a3 a4 a5 a6 = false := by simp [cfgB, inB, f]
    rw [e]
    exact refConfig6 a0 a1 a2 a3 a4 a5 a6 w c0 c1 c2 c3 c4 c5 f
  by_cases c7 : decide (a3 ≤ 1024) = true
  rotate_left
  · have f : decide (a3 ≤ 1024) = false := by simpa using c7
    have e : cfgB a0 a1 a2 a3 a4 a5 a6 = false := by simp [cfgB, inB, f]
    rw [e]
    exact refConfig7 a0 a1 a2 a3 a4 a5 a6 w c0 c1 c2 c3 c4 c5 c6 f
  by_cases c8 : decide (0 ≤ a4) = true
  rotate_left
  · have f : decide (0 ≤ a4) = false := by simpa using c8
    have e : cfgB a0 a1 a2 a3 a4 a5 a6 = false := by simp [cfgB, inB, f]
    rw [e]
    exact refConfig8 a0 a1 a2 a3 a4 a5 a6 w c0 c1 c2 c3 c4 c5 c6 c7 f
  by_cases c9 : decide (a4 ≤ 64) = true
  rotate_left
  · have f : decide (a4 ≤ 64) = false := by simpa using c9
    have e : cfgB a0 a1 a2 a3 a4 a5 a6 = false := by simp [cfgB, inB, f]
    rw [e]
    exact refConfig9 a0 a1 a2 a3 a4 a5 a6 w c0 c1 c2 c3 c4 c5 c6 c7 c8 f
  by_cases c10 : decide (1 ≤ a5) = true
  rotate_left
  · have f : decide (1 ≤ a5) = false := by simpa using c10
    have e : cfgB a0 a1 a2 a3 a4 a5 a6 = false := by simp [cfgB, inB, f]
    rw [e]
    exact refConfig10 a0 a1 a2 a3 a4 a5 a6 w c0 c1 c2 c3 c4 c5 c6 c7 c8 c9 f
  by_cases c11 : decide (a5 ≤ 1024) = true
  rotate_left
  · have f : decide (a5 ≤ 1024) = false := by simpa using c11
    have e : cfgB a0 a1 a2 a3 a4 a5 a6 = false := by simp [cfgB, inB, f]
    rw [e]
    exact refConfig11 a0 a1 a2 a3 a4 a5 a6 w c0 c1 c2 c3 c4 c5 c6 c7 c8 c9 c10 f
  by_cases c12 : decide (1 ≤ a6) = true
  rotate_left
  · have f : decide (1 ≤ a6) = false := by simpa using c12
    have e : cfgB a0 a1 a2 a3 a4 a5 a6 = false := by simp [cfgB, inB, f]
    rw [e]
    exact refConfig12 a0 a1 a2 a3 a4 a5 a6 w c0 c1 c2 c3 c4 c5 c6 c7 c8 c9 c10 c11 f
  by_cases c13 : decide (a6 ≤ 64) = true
  rotate_left
  · have f : decide (a6 ≤ 64) = false := by simpa using c13
    have e : cfgB a0 a1 a2 a3 a4 a5 a6 = false := by simp [cfgB, inB, f]
    rw [e]
    exact refConfig13 a0 a1 a2 a3 a4 a5 a6 w c0 c1 c2 c3 c4 c5 c6 c7 c8 c9 c10 c11 c12 f
  have e : cfgB a0 a1 a2 a3 a4 a5 a6 = true := by simp only [cfgB, inB, c0, c1, c2, c3, c4, c5, c6, c7, c8, c9, c10, c11, c12, c13]; rfl
  rw [e]
  exact refConfig14 a0 a1 a2 a3 a4 a5 a6 w c0 c1 c2 c3 c4 c5 c6 c7 c8 c9 c10 c11 c12 c13
end Go.Proofs.YtfhkgeoionkonaaGreatDoor.Wc
/-
  SCRIPT: a script that is cut and printed.
-/
namespace Go.Proofs.YtfhkgeoionkonaaGreatDoor.Sc
open Go.RowKit Mr
set_option linter.unusedVariables false
set_option linter.unusedSimpArgs false
set_option maxRecDepth 100000
/-- A script that is cut is printed in full. -/
theorem prints_len2 (c : Cf) (ms : List Mv) (hc : cfgC c = true) (hm : ∀ m ∈ ms, MvB m) (hl : ms.length ≤ 2000) : (prints (cfL c) ms).length ≤ 900000 := by
  obtain ⟨b0, b1, b2, b3, b4, b5, b6⟩ := cf_bd hc
  have h1 := fil_len fMachine (cfL c) (by intro x hx; simp [cfL] at hx; rcases hx with rfl | rfl | rfl | rfl | rfl | rfl | rfl <;> assumption)
  have h2 := lines_len ms.length ms (Nat.le_refl _) hm (by omega)
  have e : fMachine.length ≤ 80 := by decide
  unfold prints
  simp only [List.length_append, List.length_cons, List.length_nil]
  omega
theorem MvAt.cut {W : World} {a : Option Addr} {n : Nat} {ms : List Mv} (h : MvAt W a n ms) (k : Nat) (hk : k ≤ n) : MvAt W a k (ms.take k) := by
  have hn := h.1
  refine ⟨by rw [List.length_take]; omega, ?_⟩
  rcases h.2 with e | ⟨b, off, rfl, hb, hc⟩
  · left; rw [e]; simp
  · refine .inr ⟨b, off, rfl, hb, fun j hj => ?_⟩
    rw [List.length_take] at hj
    have e : (ms.take k)[j]?.getD noMv = ms[j]?.getD noMv := by rw [List.getElem?_take, if_pos (by omega)]
    rw [e]
    exact hc j (by omega)
theorem print_cut (x0 x1 x2 x3 x4 x5 x6 : Int) (a : Option Addr) (n n1 cap : Nat) (ms : List Mv) (W : World) (E : Env W) (hM : MvAt W a n ms) (hm : ∀ m ∈ ms, MvB m) (hc : Wc.cfgB x0 x1 x2 x3 x4 x5 x6 = true) (h1 : n1 ≤ n) (hcap : n1 ≤ cap) (h2 : n1 ≤ 2000) :
    Calls Tryz.prog 11 #[.agg #[.int .i64 x0, .int .i64 x1, .int .i64 x2, .int .i64 x3, .int .i64 x4, .int .i64 x5, .int .i64 x6], .slice a n1 cap] W fun e w' => e = .returned (.tuple #[.string ⟨(prints [x0, x1, x2, x3, x4, x5, x6] (ms.take n1)).toArray⟩, .int .i64 0]) ∧ Below W.heap.size W w' := by
  have hcd : cfgC ⟨x0, x1, x2, x3, x4, x5, x6⟩ = true := hc
  have hm1 : ∀ m ∈ ms.take n1, MvB m := fun m hx => hm m (List.mem_of_mem_take hx)
  have hl1 : (ms.take n1).length ≤ 2000 := by rw [List.length_take]; omega
  have hp := prints_len2 ⟨x0, x1, x2, x3, x4, x5, x6⟩ (ms.take n1) hcd hm1 hl1
  have hp' : (prints [x0, x1, x2, x3, x4, x5, x6] (ms.take n1)).length ≤ 1048576 := Nat.le_trans hp (by decide)
  have := Print_any x0 x1 x2 x3 x4 x5 x6 a n1 cap (ms.take n1) W E (hM.cut n1 h1) hm1 (by obtain ⟨b0, b1, b2, b3, b4, b5, b6⟩ := cf_bd hcd; intro x hx; simp only [List.mem_cons, List.not_mem_nil, or_false] at hx; rcases hx with rfl | rfl | rfl | rfl | rfl | rfl | rfl <;> assumption) hcap
  unfold prT prE at this
  have hq : (ms.take n1).length ≤ 65536 := by omega
  simp only [if_pos hc, if_pos hq, if_pos hp'] at this
  exact this
/-- What is known of the text. -/
theorem text_cut (x0 x1 x2 x3 x4 x5 x6 : Int) (n n1 : Nat) (ms : List Mv) (hc : Wc.cfgB x0 x1 x2 x3 x4 x5 x6 = true) (hl : n = ms.length) (hm : ∀ m ∈ ms, MvB m) (h1 : n1 ≤ n) (h2 : n1 ≤ 2000) :
    (prints [x0, x1, x2, x3, x4, x5, x6] (ms.take n1)).length ≤ 900000 ∧ cfgC ⟨x0, x1, x2, x3, x4, x5, x6⟩ = true ∧ (∀ m ∈ ms.take n1, MvB m) ∧ (ms.take n1).length = n1 :=
  ⟨prints_len2 ⟨x0, x1, x2, x3, x4, x5, x6⟩ (ms.take n1) hc (fun m hx => hm m (List.mem_of_mem_take hx)) (by rw [List.length_take]; omega), hc, fun m hx => hm m (List.mem_of_mem_take hx), by rw [List.length_take]; omega⟩
end Go.Proofs.YtfhkgeoionkonaaGreatDoor.Sc
