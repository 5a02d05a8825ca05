import Derived.Test.YtecldhngggkjjaaGreatJ36
import Derived.Test.YtecldhngggkjjaaGreatJ42
namespace Go.Proofs.YtecldhngggkjjaaGreat.Ws
open Md Wt
set_option linter.unusedVariables false
set_option linter.unusedSimpArgs false
theorem up_lt {cs : List Cq} (h : MayC cs) : ∀ (i j : Nat) (c d : Cq), i < j → cs[i]? = some c → cs[j]? = some d → c.beg < d.beg := fun i j c d hij hc hd =>
 h.1.lt (Nat.le_refl _) j i hij (List.getElem?_eq_some_iff.1 hd).1 c d hc hd
def okL : Ct → List Cq → Prop
 | _, [] => True
 | x, c :: l => (alw x c).2 = true ∧ okL (alw x c).1 l
theorem okTo_iff : ∀ (os : List Cq) (x : Ct), okTo x os os.length ↔ okL x os := by
 intro os
 induction os with
 | nil => intro x; exact ⟨fun _ => trivial, fun _ j hj => by simp at hj⟩
 | cons c os ih =>
  intro x
  have hl : ∀ j, lefts x (c :: os) (j + 1) = lefts (alw x c).1 os j := fun j => by simp [lefts]
  constructor
  ·intro h
   refine ⟨h 0 (by simp) c rfl, (ih _).1 (fun j hj d hd => ?_)⟩
   have := h (j + 1) (by simp; omega) d (by simpa using hd)
   rwa [hl] at this
  ·rintro ⟨h1, h2⟩ j hj d hd
   cases j with
   | zero => simp at hd; subst hd; simpa [lefts] using h1
   | succ j =>
    rw [hl]
    exact (ih _).2 h2 j (by simpa using hj) d (by simpa using hd)
theorem cnt1_len (cs : List Cq) : ∀ n, (cnt1 cs n).length = (cs.filter (fun c => decide (obj c.op ≠ 0))).length := by
 induction cs with
 | nil => intro n; rfl
 | cons c cs ih =>
  intro n
  rw [cnt1, List.length_append, ih, List.filter_cons]
  by_cases e : obj c.op = 0 <;> simp [e]
  omega
end Go.Proofs.YtecldhngggkjjaaGreat.Ws
