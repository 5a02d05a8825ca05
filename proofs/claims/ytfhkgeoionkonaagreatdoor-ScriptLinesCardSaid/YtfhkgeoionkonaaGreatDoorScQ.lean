/-
  SCRIPT, pure: words of a line, numbers, forms.
-/
import Derived.Test.YtfhkgeoionkonaaGreatDoorScP
import Derived.Lib.DecodeN
import Derived.Laws.RangeAny
import Derived.Lib.Strings
import Derived.Lib.Join
import Derived.Lib.AtoiAll
import Derived.Lib.AtoiAllCases
namespace Go.Proofs.YtfhkgeoionkonaaGreatDoor.Sc
open Go.RowKit
set_option linter.unusedVariables false
set_option linter.unusedSimpArgs false
/-- A blank. -/
def bl (c : UInt8) : Bool := c == 32 || c == 9 || c == 13
/-- Words: 'cur' is what there is of the word that is gone over. -/
def wgo : Option (List UInt8) → List UInt8 → List (List UInt8)
  | none, [] => []
  | some a, [] => [a]
  | none, c :: r => if bl c then wgo none r else if c = 35 then [] else wgo (some [c]) r
  | some a, c :: r => if bl c then a :: wgo none r else wgo (some (a ++ [c])) r
def words (l : List UInt8) : List (List UInt8) := wgo none l
/-- Bytes that are no ASCII. -/
theorem wgo_high : ∀ (h : List UInt8) (cur : Option (List UInt8)) (r : List UInt8), (∀ c ∈ h, 128 ≤ c.toNat) → h ≠ [] → wgo cur (h ++ r) = wgo (some (cur.getD [] ++ h)) r
  | [], _, _, _, h => absurd rfl h
  | c :: h, cur, r, hh, _ => by
    have hc := hh c (List.mem_cons_self ..)
    have nb : bl c = false := by
      unfold bl
      have h1 : c ≠ 32 := fun e => by rw [e] at hc; exact absurd hc (by decide)
      have h2 : c ≠ 9 := fun e => by rw [e] at hc; exact absurd hc (by decide)
      have h3 : c ≠ 13 := fun e => by rw [e] at hc; exact absurd hc (by decide)
      simp [h1, h2, h3]
    have n35 : c ≠ 35 := fun e => by rw [e] at hc; exact absurd hc (by decide)
    have step : wgo cur (c :: (h ++ r)) = wgo (some (cur.getD [] ++ [c])) (h ++ r) := by
      cases cur with
      | none => simp [wgo, nb, n35]
      | some a => simp [wgo, nb]
    rw [List.cons_append, step]
    by_cases h0 : h = []
    · rw [h0]; simp
    · rw [wgo_high h _ r (fun x hx => hh x (List.mem_cons_of_mem _ hx)) h0]
      simp
/-- The bytes of a rune that is no ASCII. -/
theorem decode_bytes (s : ByteArray) (pos : Nat) (hp : pos < s.size) (ha : 128 ≤ s[pos].toNat) : pos + (Utf8.decode s pos).2 ≤ s.size ∧ ∀ j (hj : j < s.size), pos ≤ j → j < pos + (Utf8.decode s pos).2 → 128 ≤ s[j].toNat := by
  have g0 : (s.get! pos).toNat = s[pos].toNat := by simp [ByteArray.get!, getElem!_pos, hp]; rfl
  have gj : ∀ k (hk : pos + k < s.size), (s.get! (pos + k)).toNat = s[pos + k].toNat := fun k hk => by simp [ByteArray.get!, getElem!_pos, hk]; rfl
  rw [Lib.decode_at]
  rw [g0]
  generalize hb0 : s[pos].toNat = b0 at *
  generalize hb1 : (s.get! (pos + 1)).toNat = b1 at *
  generalize hb2 : (s.get! (pos + 2)).toNat = b2 at *
  generalize hb3 : (s.get! (pos + 3)).toNat = b3 at *
  have key : ∀ j (hj : j < s.size), pos ≤ j → (j = pos → 128 ≤ s[j].toNat) ∧ (j = pos + 1 → s[j].toNat = b1) ∧ (j = pos + 2 → s[j].toNat = b2) ∧ (j = pos + 3 → s[j].toNat = b3) := by
    intro j hj hpj
    refine ⟨fun e => ?_, fun e => ?_, fun e => ?_, fun e => ?_⟩
    · subst e; omega
    · subst e; rw [← hb1, gj 1 hj]
    · subst e; rw [← hb2, gj 2 hj]
    · subst e; rw [← hb3, gj 3 hj]
  unfold Lib.decodeN
  rw [if_neg (by omega)]
  repeat' split
  all_goals (dsimp only; refine ⟨by omega, fun j hj h1 h2 => ?_⟩; obtain ⟨k0, k1, k2, k3⟩ := key j hj h1)
  all_goals (have : j = pos ∨ j = pos + 1 ∨ j = pos + 2 ∨ j = pos + 3 := by omega)
  all_goals (rcases this with e | e | e | e)
  all_goals first | (have := k0 e; omega) | (have := k1 e; omega) | (have := k2 e; omega) | (have := k3 e; omega) | (exfalso; omega)
/-- Does a word begin as a number does? -/
def numLike (l : List UInt8) : Bool := match Lib.trimPrefix l [45] with | [] => false | c :: _ => decide (48 ≤ c.toNat) && decide (c.toNat ≤ 57)
/-- The number that a word is. -/
def numOk (l : List UInt8) : Option Int := match Lib.atoiAll l with | .ok v => if Lib.itoa v = l then some v else none | _ => none
def numV (l : List UInt8) : Int := (numOk l).getD 0
theorem numOk_bd {l : List UInt8} {v : Int} (h : numOk l = some v) : -9223372036854775808 ≤ v ∧ v ≤ 9223372036854775807 := by
  unfold numOk at h
  split at h
  · rename_i x hx
    split at h
    · cases h
      exact Lib.atoiAll_bounds hx
    · cases h
  · cases h
theorem numV_bd (l : List UInt8) : -9223372036854775808 ≤ numV l ∧ numV l ≤ 9223372036854775807 := by
  unfold numV
  cases h : numOk l with
  | none => simp
  | some v => exact numOk_bd h
/-- A word as it stands in a form. -/
def nrm (l : List UInt8) : List UInt8 := if numLike l = true then [48] else l
def formL (ws : List (List UInt8)) : List UInt8 := Lib.join (ws.map nrm) [32]
/-- The numbers among words. -/
def numsL (ws : List (List UInt8)) : List Int := (ws.filter numLike).map numV
def wholeL (ws : List (List UInt8)) : Bool := (ws.filter numLike).all (fun l => (numOk l).isSome)
end Go.Proofs.YtfhkgeoionkonaaGreatDoor.Sc
