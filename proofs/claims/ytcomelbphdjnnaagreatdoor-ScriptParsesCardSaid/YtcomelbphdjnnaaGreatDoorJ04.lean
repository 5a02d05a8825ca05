import Derived.Test.YtcomelbphdjnnaaGreatDoorJ01
import Derived.Lib.DecodeN
import Derived.Laws.RangeAny
import Derived.Lib.Strings
import Derived.Lib.Join
import Derived.Lib.AtoiAll
import Derived.Lib.AtoiAllCases
/-
  SCRIPT, pure: words of a line, numbers, forms.
-/
namespace Go.Proofs.YtcomelbphdjnnaaGreatDoor.Sc
open Go.RowKit
set_option linter.unusedVariables false
set_option linter.unusedSimpArgs false
/-- A blank. -/
def bl (c : UInt8) : Bool := c == 32 || c == 9 || c == 13
/-- Words: 'cur' is what there is of the word that is gone over. -/
def wgo : Option (List UInt8) → List UInt8 → List (List UInt8)
  | none, [] => []
  | some a, [] => [a]
  | none, c :: r => if bl c then wgo none r else if c = 35 then [] else wgo (some [c]) r
  | some a, c :: r => if bl c then a :: wgo none r else wgo (some (a ++ [c])) r
def words (l : List UInt8) : List (List UInt8) := wgo none l
/-- Bytes that are no ASCII. -/
theorem wgo_high : ∀ (h : List UInt8) (cur : Option (List UInt8)) (r : List UInt8), (∀ c ∈ h, 128 ≤ c.toNat) → h ≠ [] → wgo cur (h ++ r) = wgo (some (cur.getD [] ++ h)) r
  | [], _, _, _, h => absurd rfl h
  | c :: h, cur, r, hh, _ => by
    have hc := hh c (List.mem_cons_self ..)
    have nb : bl c = false := by
      unfold bl
      have h1 : c ≠ 32 := fun e => by rw [e] at hc; exact absurd hc (by decide)
      have h2 : c ≠ 9 := fun e => by rw [e] at hc; exact absurd hc (by decide)
      have h3 : c ≠ 13 := fun e => by rw [e] at hc; exact absurd hc (by decide)
      simp [h1, h2, h3]
    have n35 : c ≠ 35 := fun e => by rw [e] at hc; exact absurd hc (by decide)
    have step : wgo cur (c :: (h ++ r)) = wgo (some (cur.getD [] ++ [c])) (h ++ r) := by
      cases cur with
      | none => simp [wgo, nb, n35]
      | some a => simp [wgo, nb]
    rw [List.cons_append, step]
    by_cases h0 : h = []
    · rw [h0]; simp
    · rw [wgo_high h _ r (fun x hx => hh x (List.mem_cons_of_mem _ hx)) h0]
      simp
/-- The bytes of a rune that is no ASCII. -/
theorem decode_bytes (s : ByteArray) (pos : Nat) (hp : pos < s.size) (ha : 128 ≤ s[pos].toNat) : pos + (Utf8.decode s pos).2 ≤ s.size ∧ ∀ j (hj : j < s.size), pos ≤ j → j < pos + (Utf8.decode s pos).2 → 128 ≤ s[j].toNat := by
  have g0 : (s.get! pos).toNat = s[pos].toNat := by simp [ByteArray.get!, getElem!_pos, hp]; rfl
  have gj : ∀ k (hk : pos + k < s.size), (s.get! (pos + k)).toNat = s[pos + k].toNat := fun k hk => by simp [ByteArray.get!, getElem!_pos, hk]; rfl
  rw [Lib.decode_at]
  rw [g0]
  generalize hb0 : s[pos].toNat = b0 at *
  generalize hb1 : (s.get! (pos + 1)).toNat = b1 at *
  generalize hb2 : (s.get! (pos + 2)).toNat = b2 at *
  generalize hb3 : (s.get! (pos + 3)).toNat = b3 at *
  have key : ∀ j (hj : j < s.size), pos ≤ j → (j = pos → 128 ≤ s[j].toNat) ∧ (j = pos + 1 → s[j].toNat = b1) ∧ (j = pos + 2 → s[j].toNat = b2) ∧ (j = pos + 3 → s[j].toNat = b3) := by
    intro j hj hpj
    refine ⟨fun e => ?_, fun e => ?_, fun e => ?_, fun e => ?_⟩
    · subst e; omega
    · subst e; rw [← hb1, gj 1 hj]
    · subst e; rw [← hb2, gj 2 hj]
    · subst e; rw [← hb3, gj 3 hj]
  unfold Lib.decodeN
  rw [if_neg (by omega)]
  repeat' split
  all_goals (dsimp only; refine ⟨by omega, fun j hj h1 h2 => ?_⟩; obtain ⟨k0, k1, k2, k3⟩ := key j hj h1)
  all_goals (have : j = pos ∨ j = pos + 1 ∨ j = pos + 2 ∨ j = pos + 3 := by omega)
  all_goals (rcases this with e | e | e | e)
  all_goals first | (have := k0 e; omega) | (have := k1 e; omega) | (have := k2 e; omega) | (have := k3 e; omega) | (exfalso; omega)
/-- Does a word begin as a number does? -/
def numLike (l : List UInt8) : Bool := match Lib.trimPrefix l [45] with | [] => false | c :: _ => decide (48 ≤ c.toNat) && decide (c.toNat ≤ 57)
/-- The number that a word is. -/
def numOk (l : List UInt8) : Option Int := match Lib.atoiAll l with | .ok v => if Lib.itoa v = l then some v else none | _ => none
def numV (l : List UInt8) : Int := (numOk l).getD 0
theorem numOk_bd {l : List UInt8} {v : Int} (h : numOk l = some v) : -9223372036854775808 ≤ v ∧ v ≤ 9223372036854775807 := by
  unfold numOk at h
  split at h
  · rename_i x hx
    split at h
    · cases h
      exact Lib.atoiAll_bounds hx
    · cases h
  · cases h
theorem numV_bd (l : List UInt8) : -9223372036854775808 ≤ numV l ∧ numV l ≤ 9223372036854775807 := by
  unfold numV
  cases h : numOk l with
  | none => simp
  | some v => exact numOk_bd h
/-- A word as it stands in a form. -/
def nrm (l : List UInt8) : List UInt8 := if numLike l = true then [48] else l
def formL (ws : List (List UInt8)) : List UInt8 := Lib.join (ws.map nrm) [32]
/-- The numbers among words. -/
def numsL (ws : List (List UInt8)) : List Int := (ws.filter numLike).map numV
def wholeL (ws : List (List UInt8)) : Bool := (ws.filter numLike).all (fun l => (numOk l).isSome)
end Go.Proofs.YtcomelbphdjnnaaGreatDoor.Sc
/-
  SCRIPT, pure: words that are good; the words of a form; what a line means.
-/
namespace Go.Proofs.YtcomelbphdjnnaaGreatDoor.Sc
open Go.RowKit
set_option linter.unusedVariables false
set_option linter.unusedSimpArgs false
/-- A word that a line may have. -/
def Gw (x : List UInt8) : Prop := x ≠ [] ∧ (∀ c ∈ x, bl c = false) ∧ x.head? ≠ some 35
theorem wgo_in : ∀ (r : List UInt8) (a rest : List UInt8), (∀ c ∈ r, bl c = false) → wgo (some a) (r ++ rest) = wgo (some (a ++ r)) rest
  | [], a, rest, _ => by simp
  | c :: r, a, rest, h => by
    have hc := h c (List.mem_cons_self ..)
    simp only [List.cons_append, wgo, hc]
    rw [if_neg (by simp), wgo_in r _ rest (fun x hx => h x (List.mem_cons_of_mem _ hx))]
    simp
theorem wgo_word {x : List UInt8} (hx : Gw x) (rest : List UInt8) : wgo none (x ++ rest) = wgo (some x) rest := by
  obtain ⟨h1, h2, h3⟩ := hx
  cases x with
  | nil => exact absurd rfl h1
  | cons c r =>
    have hc := h2 c (List.mem_cons_self ..)
    have h35 : ¬ c = 35 := fun e => h3 (by simp [e])
    simp only [List.cons_append, wgo, hc]
    rw [if_neg (by simp), if_neg h35, wgo_in r _ rest (fun y hy => h2 y (List.mem_cons_of_mem _ hy))]
    simp
theorem wgo_blank (x : List UInt8) (c : UInt8) (hc : bl c = true) (rest : List UInt8) : wgo (some x) (c :: rest) = x :: wgo none rest := by simp [wgo, hc]
theorem words_join : ∀ (ws : List (List UInt8)), (∀ x ∈ ws, Gw x) → words (Lib.join ws [32]) = ws
  | [], _ => by simp [Lib.join_nil, words, wgo]
  | [x], h => by
    rw [Lib.join_one, words]
    have := wgo_word (h x (List.mem_cons_self ..)) []
    rw [List.append_nil] at this
    rw [this]; rfl
  | x :: y :: r, h => by
    have e : Lib.join (x :: y :: r) [32] = x ++ 32 :: Lib.join (y :: r) [32] := by simp [Lib.join, List.intercalate]
    have ih := words_join (y :: r) (fun z hz => h z (List.mem_cons_of_mem _ hz))
    rw [e, words, wgo_word (h x (List.mem_cons_self ..)), wgo_blank x 32 (by decide)]
    unfold words at ih
    rw [ih]
theorem wgo_good : ∀ (l : List UInt8) (cur : Option (List UInt8)), (∀ a, cur = some a → Gw a) → ∀ x ∈ wgo cur l, Gw x
  | [], none, _, x, hx => by simp [wgo] at hx
  | [], some a, h, x, hx => by simp [wgo] at hx; subst hx; exact h _ rfl
  | c :: r, none, h, x, hx => by
    unfold wgo at hx
    split at hx
    · exact wgo_good r none (by simp) x hx
    · split at hx
      · simp at hx
      · rename_i hb h35
        refine wgo_good r (some [c]) ?_ x hx
        rintro a e
        cases e
        exact ⟨by simp, by simpa using hb, by simpa using h35⟩
  | c :: r, some a, h, x, hx => by
    unfold wgo at hx
    split at hx
    · rcases List.mem_cons.1 hx with e | hx
      · subst e; exact h _ rfl
      · exact wgo_good r none (by simp) x hx
    · rename_i hb
      refine wgo_good r (some (a ++ [c])) ?_ x hx
      rintro a' e
      cases e
      obtain ⟨h1, h2, h3⟩ := h a rfl
      refine ⟨by simp, ?_, ?_⟩
      · intro d hd
        rcases List.mem_append.1 hd with hd | hd
        · exact h2 d hd
        · simp at hd; subst hd; simpa using hb
      · cases a with
        | nil => exact absurd rfl h1
        | cons z t => simpa using h3
theorem words_good (l : List UInt8) : ∀ x ∈ words l, Gw x := wgo_good l none (by simp)
theorem nrm_good {x : List UInt8} (h : Gw x) : Gw (nrm x) := by
  unfold nrm
  split
  · exact ⟨by simp, by simp; decide, by simp⟩
  · exact h
theorem words_form {ws : List (List UInt8)} (h : ∀ x ∈ ws, Gw x) : words (formL ws) = ws.map nrm := by
  unfold formL
  refine words_join _ fun x hx => ?_
  obtain ⟨y, hy, rfl⟩ := List.mem_map.1 hx
  exact nrm_good (h y hy)
theorem numLike_nrm (x : List UInt8) : numLike x = (nrm x == [48]) := by
  unfold nrm
  by_cases h : numLike x = true
  · rw [if_pos h, h]; rfl
  · rw [if_neg h]
    rw [Bool.not_eq_true] at h
    rw [h]
    symm
    refine beq_eq_false_iff_ne.2 fun e => ?_
    rw [e] at h
    exact absurd h (by decide)
/-- How many numbers words have, by their form. -/
theorem nums_len (ws : List (List UInt8)) : (numsL ws).length = ((ws.map nrm).filter (· == [48])).length := by
  unfold numsL
  rw [List.length_map, List.filter_map, List.length_map]
  congr 2
  funext x
  exact numLike_nrm x
theorem nums_of {ws : List (List UInt8)} {f : List UInt8} (h : ∀ x ∈ ws, Gw x) (hf : formL ws = f) : (numsL ws).length = ((words f).filter (· == [48])).length := by
  rw [nums_len, ← words_form h, hf]
/-- The row of a word. -/
def rowN (x : List UInt8) : Option Nat := (List.range 21).find? (fun k => (wdA k).data.toList == x)
def callM (ws : List (List UInt8)) (f : List UInt8) (ns : List Int) : List Mv :=
  if ws.length < 2 then [] else
  match rowN (ws.getD 1 []) with
  | some k => if f = fCall k then [⟨ns.getD 0 0, opA k, ns.getD 1 0, ns.getD 2 0⟩] else []
  | none => []
def rnds (T : Nat) : List Mv := (List.range T).map (fun (i : Nat) => stp (i : Int))
/-- Which moves a line means, and how often. -/
def mean (T : Nat) (ws : List (List UInt8)) (ns : List Int) : List Mv × Int :=
  if formL ws = fStep then ([stp (ns.getD 0 0)], 1)
  else if formL ws = fSteps then ([stp (ns.getD 0 0)], ns.getD 1 0)
  else if formL ws = fRounds then (rnds T, ns.getD 0 0)
  else if formL ws = fOp then ([⟨ns.getD 0 0, ns.getD 1 0, ns.getD 2 0, ns.getD 3 0⟩], 1)
  else (callM ws (formL ws) ns, 1)
/-- What a line behind the machine's comes to: an error's number, 0: none. -/
def entE (T : Nat) (ms : List Mv) (ws : List (List UInt8)) : Int :=
  if (mean T ws (numsL ws)).1 = [] then 170
  else if wholeL ws = false then 171
  else if (mean T ws (numsL ws)).2 < 1 ∨ 65536 < (mean T ws (numsL ws)).2 then 2
  else if 65536 < ms.length + (mean T ws (numsL ws)).2.toNat * (mean T ws (numsL ws)).1.length then 3 else 0
def entM (T : Nat) (ms : List Mv) (ws : List (List UInt8)) : List Mv := ms ++ (List.replicate (mean T ws (numsL ws)).2.toNat (mean T ws (numsL ws)).1).flatten
end Go.Proofs.YtcomelbphdjnnaaGreatDoor.Sc
