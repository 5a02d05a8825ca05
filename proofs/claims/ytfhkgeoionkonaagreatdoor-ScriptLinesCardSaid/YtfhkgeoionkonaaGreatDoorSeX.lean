/-
  SCRIPT, pure: what any text comes to: what is read, or the line and the number of what is wrong.
-/
import Derived.Test.YtfhkgeoionkonaaGreatDoorScText
import Derived.Test.YtfhkgeoionkonaaGreatDoorScParse
namespace Go.Proofs.YtfhkgeoionkonaaGreatDoor.Sc
open Go.RowKit
set_option linter.unusedVariables false
set_option linter.unusedSimpArgs false
/-- The lines from number k on. -/
def prX : Nat → Nat → List UInt8 → Cf × List Mv → (Nat × Int) ⊕ (Cf × List Mv)
  | _, _, [], st => .inr st
  | 0, _, _ :: _, _ => .inl (0, 0)
  | f + 1, k, c :: r, st => if lnE st (words (Lib.cut (c :: r) [10]).1) = 0 then prX f (k + 1) (Lib.cut (c :: r) [10]).2.1 (lnS st (words (Lib.cut (c :: r) [10]).1)) else .inl (k, lnE st (words (Lib.cut (c :: r) [10]).1))
theorem prX_fuel : ∀ (f k : Nat) (l : List UInt8) (st : Cf × List Mv), l.length ≤ f → prX f k l st = prX l.length k l st := by
  intro f
  induction f using Nat.strongRecOn with
  | ind f ih =>
    intro k l st h
    cases l with
    | nil => cases f <;> rfl
    | cons c r =>
      cases f with
      | zero => simp at h
      | succ f =>
        have hc := (cut_len c r).1
        simp only [List.length_cons] at hc h ⊢
        simp only [prX]
        split
        · by_cases e : f = r.length
          · rw [e]
          · rw [ih f (by omega) _ _ _ (by omega), ih r.length (by omega) _ _ _ (by omega)]
        · rfl
theorem prX_cons (c : UInt8) (r : List UInt8) (k : Nat) (st : Cf × List Mv) : prX (c :: r).length k (c :: r) st = if lnE st (words (Lib.cut (c :: r) [10]).1) = 0 then prX (Lib.cut (c :: r) [10]).2.1.length (k + 1) (Lib.cut (c :: r) [10]).2.1 (lnS st (words (Lib.cut (c :: r) [10]).1)) else .inl (k, lnE st (words (Lib.cut (c :: r) [10]).1)) := by
  have hc := (cut_len c r).1
  simp only [List.length_cons] at hc
  simp only [List.length_cons, prX]
  rw [prX_fuel r.length _ _ _ (by omega)]
theorem prO_prX : ∀ (n : Nat) (l : List UInt8) (st : Cf × List Mv) (k : Nat), l.length ≤ n → prO l.length l st = (match prX l.length k l st with | .inr x => some x | .inl _ => none)
  | n, [], st, k, _ => rfl
  | 0, c :: r, st, k, h => by simp at h
  | n + 1, c :: r, st, k, h => by
    have hc := (cut_len c r).1
    rw [prX_cons]
    simp only [List.length_cons] at hc h
    simp only [List.length_cons, prO]
    split
    · rw [prO_fuel r.length _ _ (by omega)]
      exact prO_prX n _ _ _ (by omega)
    · rfl
/-- What any text comes to. -/
def parseX (l : List UInt8) : (Nat × Int) ⊕ (Cf × List Mv) :=
  if l.length ≤ 1048576 then (match prX l.length 1 l (cfZ, []) with | .inr st => if st.1 = cfZ then .inl (0, 172) else .inr st | .inl x => .inl x) else .inl (0, 3)
theorem parseO_X (l : List UInt8) : parseO l = (match parseX l with | .inr x => some x | .inl _ => none) := by
  unfold parseO parseX
  split
  · rw [prO_prX l.length l _ 1 (Nat.le_refl _)]
    cases prX l.length 1 l (cfZ, []) with
    | inl x => rfl
    | inr st => dsimp only; split <;> rfl
  · rfl
theorem parseX_inr {l : List UInt8} {st : Cf × List Mv} (h : parseX l = .inr st) : parseO l = some st := by rw [parseO_X, h]
theorem parseX_of {l : List UInt8} {st : Cf × List Mv} (h : parseO l = some st) : parseX l = .inr st := by
  rw [parseO_X] at h
  cases hx : parseX l with
  | inl x => rw [hx] at h; cases h
  | inr s => rw [hx] at h; cases h; rfl
/-- An error's number: what lines come to. -/
theorem macE_cases (ws : List (List UInt8)) : macE ws = 0 ∨ macE ws = 1 ∨ macE ws = 170 ∨ macE ws = 171 := by
  unfold macE; repeat' split
  all_goals simp
theorem entE_cases (T : Nat) (ms : List Mv) (ws : List (List UInt8)) : entE T ms ws = 0 ∨ entE T ms ws = 2 ∨ entE T ms ws = 3 ∨ entE T ms ws = 170 ∨ entE T ms ws = 171 := by
  unfold entE; repeat' split
  all_goals simp
theorem lnE_cases (st : Cf × List Mv) (ws : List (List UInt8)) : lnE st ws = 0 ∨ lnE st ws = 1 ∨ lnE st ws = 2 ∨ lnE st ws = 3 ∨ lnE st ws = 170 ∨ lnE st ws = 171 := by
  unfold lnE
  split
  · exact .inl rfl
  · split
    · have := macE_cases ws; omega
    · have := entE_cases st.1.c0.toNat st.2 ws; omega
theorem prX_inl : ∀ (n : Nat) (l : List UInt8) (st : Cf × List Mv) (k j : Nat) (e : Int), l.length ≤ n → prX l.length k l st = .inl (j, e) → k ≤ j ∧ j < k + l.length ∧ 1 ≤ e ∧ e ≤ 171
  | n, [], st, k, j, e, _, h => by simp [prX] at h
  | 0, c :: r, st, k, j, e, hn, h => by simp at hn
  | n + 1, c :: r, st, k, j, e, hn, h => by
    have hc := (cut_len c r).1
    rw [prX_cons] at h
    simp only [List.length_cons] at hc hn ⊢
    split at h
    · have := prX_inl n _ _ _ _ _ (by omega) h
      omega
    · rename_i h0
      injection h with h
      injection h with h1 h2
      have := lnE_cases st (words (Lib.cut (c :: r) [10]).1)
      omega
end Go.Proofs.YtfhkgeoionkonaaGreatDoor.Sc
