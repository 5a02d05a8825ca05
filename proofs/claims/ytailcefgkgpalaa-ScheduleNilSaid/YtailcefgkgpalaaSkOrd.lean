/-
  SCHEDULE: the order of texts; the order of the floats that are put in.
-/
import Derived.Test.YtailcefgkgpalaaShRow
import Derived.Test.YtailcefgkgpalaaMpMay
import Derived.Laws.Cover1
import Derived.Laws.Cover2
import Derived.Laws.FloatArith
namespace Go.Proofs.Ytailcefgkgpalaa.Sh
open Go.RowKit Mr Md
set_option linter.unusedVariables false
set_option linter.unusedSimpArgs false
open Go.Op (bytesLess)
theorem less_irr : ∀ a : List UInt8, bytesLess a a = false
  | [] => rfl
  | x :: a => by simp [bytesLess, less_irr a]
theorem less_asym : ∀ a b : List UInt8, bytesLess a b = true → bytesLess b a = false
  | _, [], h => by simp [bytesLess] at h
  | [], y :: b, _ => rfl
  | x :: a, y :: b, h => by
    simp only [bytesLess, Bool.or_eq_true, Bool.and_eq_true, decide_eq_true_eq, beq_iff_eq] at h
    simp only [bytesLess, Bool.or_eq_false_iff, Bool.and_eq_false_iff, decide_eq_false_iff_not, beq_eq_false_iff_ne]
    rcases h with h | ⟨rfl, h⟩
    · refine ⟨fun h2 => ?_, .inl (fun e => ?_)⟩
      · exact absurd (UInt8.lt_trans h h2) (UInt8.lt_irrefl _)
      · subst e; exact absurd h (UInt8.lt_irrefl _)
    · exact ⟨UInt8.lt_irrefl _, .inr (less_asym a b h)⟩
theorem less_tri : ∀ a b : List UInt8, bytesLess a b = false → bytesLess b a = false → a = b
  | [], [], _, _ => rfl
  | [], y :: b, h, _ => by simp [bytesLess] at h
  | x :: a, [], _, h => by simp [bytesLess] at h
  | x :: a, y :: b, h, h2 => by
    simp only [bytesLess, Bool.or_eq_false_iff, Bool.and_eq_false_iff, decide_eq_false_iff_not, beq_eq_false_iff_ne] at h h2
    have e : x = y := by
      have h3 := h.1
      have h4 := h2.1
      rw [UInt8.lt_iff_toNat_lt] at h3 h4
      exact UInt8.toNat_inj.1 (by omega)
    subst e
    have h5 : bytesLess a b = false := by rcases h.2 with h | h; exact absurd rfl h; exact h
    have h6 : bytesLess b a = false := by rcases h2.2 with h | h; exact absurd rfl h; exact h
    rw [less_tri a b h5 h6]
/-- What compare answers of texts. -/
def cmpS (a b : ByteArray) : Int := if bytesLess a.toList b.toList then -1 else if a.toList == b.toList then 0 else 1
theorem nanS (a : ByteArray) (w : World) : Calls Try.prog 29 #[.string a] w fun e w' => e = .returned (.bool false) ∧ w' = w := by
  have h : (a.toList == a.toList) = true := by simp
  go_enter Try.func29, Try.ntmps29
  go_wp2
  go_ret
  exact ⟨rfl, rfl⟩
set_option maxHeartbeats 2000000 in
theorem compareS (a b : ByteArray) (w : World) : Calls Try.prog 26 #[.string a, .string b] w fun e w' => e = .returned (.int .i64 (cmpS a b)) ∧ w' = w := by
  unfold cmpS
  cases h1 : bytesLess a.toList b.toList with
  | true =>
    simp only [if_true]
    go_enter Try.func26, Try.ntmps26
    go_wp2_with (go_at_call 29; refine (nanS _ _).mono ?_; rintro e w1 ⟨rfl, rfl⟩)
    go_ret
    exact ⟨rfl, rfl⟩
  | false =>
    simp only [Bool.false_eq_true, if_false]
    cases h2 : (a.toList == b.toList) with
    | true =>
      simp only [if_true]
      go_enter Try.func26, Try.ntmps26
      go_wp2_with (go_at_call 29; refine (nanS _ _).mono ?_; rintro e w1 ⟨rfl, rfl⟩)
      go_ret
      exact ⟨rfl, rfl⟩
    | false =>
      simp only [Bool.false_eq_true, if_false]
      go_enter Try.func26, Try.ntmps26
      go_wp2_with (go_at_call 29; refine (nanS _ _).mono ?_; rintro e w1 ⟨rfl, rfl⟩)
      go_ret
      exact ⟨rfl, rfl⟩
end Go.Proofs.Ytailcefgkgpalaa.Sh
