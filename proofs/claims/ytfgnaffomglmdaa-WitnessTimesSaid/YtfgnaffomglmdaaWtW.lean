/-
  WITNESS, pure: how many calls are on their way at one time.
-/
import Derived.Test.YtfgnaffomglmdaaWtP
namespace Go.Proofs.Ytfgnaffomglmdaa.Wt
open Md
set_option linter.unusedVariables false
def fns (cs : List Cq) : List Int := cs.flatMap fun c => if c.fin = -1 then [] else [c.fin]
theorem fns_take (cs : List Cq) (i : Nat) (c : Cq) (h : cs[i]? = some c) : fns (cs.take (i + 1)) = fns (cs.take i) ++ (if c.fin = -1 then [] else [c.fin]) := by
  rw [List.take_add_one, h]; simp [fns]
theorem fns_len (cs : List Cq) : (fns cs).length ≤ cs.length := by
  induction cs with
  | nil => simp [fns]
  | cons c cs ih => simp only [fns, List.flatMap_cons, List.length_append, List.length_cons] at ih ⊢; split <;> simp only [List.length_nil, List.length_cons] <;> omega
def ovr (cs : List Cq) (b : Int) : Nat := (fns cs).countP (fun x => decide (x < b))
theorem ovr_count (cs : List Cq) (b : Int) : ovr cs b = cs.countP (fun d => decide (d.fin ≠ -1 ∧ d.fin < b)) := by
  unfold ovr
  induction cs with
  | nil => simp [fns]
  | cons c cs ih =>
    simp only [fns, List.flatMap_cons, List.countP_append, List.countP_cons] at ih ⊢
    rw [ih]
    by_cases h : c.fin = -1 <;> simp [h, List.countP_cons] <;> omega
/-- How many are on their way at call i's Begin: the document's number. -/
def nOn (cs : List Cq) (b : Int) (n : Nat) : Nat := (cs.take n).countP (fun d => decide (d.fin = -1 ∨ b < d.fin))
theorem nOn_succ (cs : List Cq) (b : Int) (k : Nat) (d : Cq) (h : cs[k]? = some d) : nOn cs b (k + 1) = nOn cs b k + (if d.fin = -1 ∨ b < d.fin then 1 else 0) := by
  unfold nOn
  rw [List.take_add_one, h]; simp [List.countP_append, List.countP_cons]
theorem nOn_le (cs : List Cq) (b : Int) (k : Nat) : nOn cs b k ≤ k := by
  unfold nOn
  exact Nat.le_trans List.countP_le_length (by simp; omega)
theorem on_same {cs : List Cq} (hm : MayC cs) {i : Nat} {c : Cq} (hc : cs[i]? = some c) : nOn cs c.beg (i + 1) + ovr cs c.beg = i + 1 := by
  obtain ⟨hU, hA, _⟩ := hm
  have hi := (List.getElem?_eq_some_iff.1 hc).1
  rw [ovr_count]
  have e : cs.countP (fun d => decide (d.fin ≠ -1 ∧ d.fin < c.beg)) = (cs.take (i + 1)).countP (fun d => decide (d.fin ≠ -1 ∧ d.fin < c.beg)) + (cs.drop (i + 1)).countP (fun d => decide (d.fin ≠ -1 ∧ d.fin < c.beg)) := by
    rw [← List.countP_append, List.take_append_drop]
  have e2 : (cs.drop (i + 1)).countP (fun d => decide (d.fin ≠ -1 ∧ d.fin < c.beg)) = 0 := by
    rw [List.countP_eq_zero]
    intro d hd
    obtain ⟨k, hk⟩ := List.getElem?_of_mem hd
    rw [List.getElem?_drop] at hk
    have hkl := (List.getElem?_eq_some_iff.1 hk).1
    have h1 := hU.lt (Nat.le_refl _) (i + 1 + k) i (by omega) hkl c d hc hk
    obtain ⟨_, _, ⟨_, h2, _⟩, _⟩ := hU.fit hkl hk
    simp only [decide_eq_true_eq, not_and]
    omega
  have e3 : (cs.take (i + 1)).countP (fun d => decide (d.fin ≠ -1 ∧ d.fin < c.beg)) = (cs.take (i + 1)).countP (fun d => !decide (d.fin = -1 ∨ c.beg < d.fin)) := by
    apply List.countP_congr
    intro d hd
    obtain ⟨k, hk⟩ := List.getElem?_of_mem hd
    rw [List.getElem?_take] at hk
    split at hk
    · rename_i hki
      have hne : d.fin ≠ -1 → d.fin ≠ c.beg := fun h1 e4 => by
        have h2 : d.fin ∈ mvc d := by simp [mvc, h1]
        have h3 : d.fin ∈ mvc c := by simp [mvc, e4]
        have := hA k i d c _ hk hc h2 h3
        subst this
        rw [hc] at hk; cases hk
        obtain ⟨_, _, ⟨_, h5, _⟩, _⟩ := hU.fit hi hc
        omega
      simp; omega
    · cases hk
  rw [e, e2, e3, Nat.add_zero]
  unfold nOn
  have := List.length_eq_countP_add_countP (p := fun d : Cq => decide (d.fin = -1 ∨ c.beg < d.fin)) (l := cs.take (i + 1))
  have hl : (cs.take (i + 1)).length = i + 1 := by simp; omega
  rw [hl] at this
  have e5 : List.countP (fun d : Cq => decide ¬ (decide (d.fin = -1 ∨ c.beg < d.fin) = true)) (cs.take (i + 1)) = List.countP (fun d => !decide (d.fin = -1 ∨ c.beg < d.fin)) (cs.take (i + 1)) := by
    apply List.countP_congr; intro d _; simp
  rw [e5] at this
  omega
/-- The widest so far. -/
def wid (cs : List Cq) : Nat → Nat
  | 0 => 0
  | n + 1 => max (wid cs n) (match cs[n]? with | some c => nOn cs c.beg (n + 1) | none => 0)
theorem wid_succ {cs : List Cq} {n : Nat} {c : Cq} (h : cs[n]? = some c) : wid cs (n + 1) = max (wid cs n) (nOn cs c.beg (n + 1)) := by simp [wid, h]
theorem wid_le (cs : List Cq) : ∀ n, wid cs n ≤ n := by
  intro n
  induction n with
  | zero => simp [wid]
  | succ n ih =>
    unfold wid
    split
    · rename_i c _; have := nOn_le cs c.beg (n + 1); omega
    · omega
/-- In a row that doesn't fall what lies below b stands first. -/
theorem count_first {s : List Int} (h : s.Pairwise (· ≤ ·)) {b : Int} {o : Nat} (ho : o ≤ s.length) (h1 : ∀ j x, j < o → s[j]? = some x → x < b) (h2 : ∀ x, s[o]? = some x → ¬ x < b) : s.countP (fun x => decide (x < b)) = o := by
  rw [← List.take_append_drop o s, List.countP_append]
  have a1 : (s.take o).countP (fun x => decide (x < b)) = o := by
    have : (s.take o).countP (fun x => decide (x < b)) = (s.take o).length := by
      rw [List.countP_eq_length]
      intro x hx
      obtain ⟨k, hk⟩ := List.getElem?_of_mem hx
      rw [List.getElem?_take] at hk
      split at hk
      · exact decide_eq_true (h1 k x (by assumption) hk)
      · cases hk
    rw [this]; simp; omega
  have a2 : (s.drop o).countP (fun x => decide (x < b)) = 0 := by
    rw [List.countP_eq_zero]
    intro x hx
    obtain ⟨k, hk⟩ := List.getElem?_of_mem hx
    rw [List.getElem?_drop] at hk
    obtain ⟨hkl, e⟩ := List.getElem?_eq_some_iff.1 hk
    have hso : s[o]? = some (s[o]'(by omega)) := List.getElem?_eq_getElem _
    have h3 := h2 _ hso
    have h4 : s[o]'(by omega) ≤ s[o + k] := by
      by_cases hk0 : k = 0
      · subst hk0; simp
      · exact (List.pairwise_iff_getElem.1 h) o (o + k) (by omega) hkl (by omega)
    simp; omega
  rw [a1, a2, Nat.add_zero]
end Go.Proofs.Ytfgnaffomglmdaa.Wt
