/-
  WITNESS, pure: the calls' points in their order; orders of calls.
-/
import Derived.Test.YtfgnaffomglmdaaWtP
namespace Go.Proofs.Ytfgnaffomglmdaa.Wt
open Md
set_option linter.unusedVariables false
/-- The numbers of the calls that count and have a point. -/
def pix : List Cq → Nat → List Int
  | [], _ => []
  | c :: cs, i => (if obj c.op ≠ 0 ∧ c.pt ≠ -1 then [(i : Int)] else []) ++ pix cs (i + 1)
theorem pix_app (cs ds : List Cq) : ∀ i, pix (cs ++ ds) i = pix cs i ++ pix ds (i + cs.length) := by
  induction cs with
  | nil => simp [pix]
  | cons c cs ih => intro i; simp only [List.cons_append, pix, ih, List.append_assoc, List.length_cons]; congr 3; omega
theorem pix_take (cs : List Cq) (i : Nat) (c : Cq) (h : cs[i]? = some c) : pix (cs.take (i + 1)) 0 = pix (cs.take i) 0 ++ (if obj c.op ≠ 0 ∧ c.pt ≠ -1 then [(i : Int)] else []) := by
  have hl := (List.getElem?_eq_some_iff.1 h).1
  rw [List.take_add_one, h, pix_app]; simp [pix, List.length_take]
  rw [Nat.min_eq_left (by omega)]
theorem pix_len (cs : List Cq) : ∀ i, (pix cs i).length ≤ cs.length := by
  induction cs with
  | nil => simp [pix]
  | cons c cs ih => intro i; have := ih (i + 1); simp only [pix, List.length_append, List.length_cons]; split <;> simp only [List.length_nil, List.length_cons] <;> omega
theorem mem_pix (cs : List Cq) : ∀ (n : Nat) (x : Int), x ∈ pix cs n ↔ ∃ (i : Nat) (c : Cq), cs[i]? = some c ∧ x = ((n + i : Nat) : Int) ∧ obj c.op ≠ 0 ∧ c.pt ≠ -1 := by
  induction cs with
  | nil => simp [pix]
  | cons d cs ih =>
    intro n x
    simp only [pix, List.mem_append, ih]
    constructor
    · rintro (h | ⟨i, c, hc, h, h2⟩)
      · split at h
        · rename_i h2
          simp at h
          exact ⟨0, d, by simp, by simpa using h, h2⟩
        · simp at h
      · exact ⟨i + 1, c, by simpa using hc, by rw [h]; omega, h2⟩
    · rintro ⟨i, c, hc, h, h2⟩
      cases i with
      | zero => simp at hc; subst hc; left; rw [if_pos h2]; simpa using h
      | succ i => exact .inr ⟨i, c, by simpa using hc, by rw [h]; omega, h2⟩
/-- A call's point by its number. -/
def ptAt (cs : List Cq) (x : Int) : Int := (cs[x.toNat]?.map Cq.pt).getD 0
theorem ptAt_get {cs : List Cq} {i : Nat} {c : Cq} (h : cs[i]? = some c) : ptAt cs (i : Int) = c.pt := by simp [ptAt, h]
theorem pt_mem {c : Cq} (h : c.pt ≠ -1) : c.pt ∈ mvc c := by
  unfold mvc
  by_cases e : c.pt = c.fin
  · rw [if_neg (by omega)]; simp [e]
  · rw [if_neg (show ¬ (c.pt = -1 ∨ c.pt = c.fin) by omega)]; simp
theorem pt_inj {cs : List Cq} (hA : Apart cs) : ∀ x y, x ∈ pix cs 0 → y ∈ pix cs 0 → ptAt cs x = ptAt cs y → x = y := by
  intro x y hx hy e
  obtain ⟨i, c, hc, h1, _, h2⟩ := (mem_pix cs 0 x).1 hx
  obtain ⟨j, d, hd, h3, _, h4⟩ := (mem_pix cs 0 y).1 hy
  rw [Nat.zero_add] at h1 h3
  subst h1; subst h3
  rw [ptAt_get hc, ptAt_get hd] at e
  have := hA i j c d c.pt hc hd (pt_mem h2) (by rw [e]; exact pt_mem h4)
  rw [this]
/-- Two rows of the same, in the order of a key that parts them, are one. -/
theorem sorted_one (f : Int → Int) : ∀ {l m : List Int}, l.Perm m → l.Pairwise (fun a b => f a ≤ f b) → m.Pairwise (fun a b => f a ≤ f b) → (∀ x y, x ∈ l → y ∈ l → f x = f y → x = y) → l = m := by
  intro l
  induction l with
  | nil => intro m p _ _ _; exact (List.Perm.nil_eq p)
  | cons a l ih =>
    intro m p hl hm hi
    cases m with
    | nil => exact absurd p.length_eq (by simp)
    | cons b m =>
      have hb : b ∈ a :: l := p.mem_iff.2 (by simp)
      have ha : a ∈ b :: m := p.mem_iff.1 (by simp)
      have h1 : f a ≤ f b := by
        rcases List.mem_cons.1 hb with e | e
        · rw [e]; exact Int.le_refl _
        · exact (List.pairwise_cons.1 hl).1 b e
      have h2 : f b ≤ f a := by
        rcases List.mem_cons.1 ha with e | e
        · rw [e]; exact Int.le_refl _
        · exact (List.pairwise_cons.1 hm).1 a e
      have e := hi a b (by simp) hb (by omega)
      subst e
      rw [ih (List.Perm.cons_inv p) (List.pairwise_cons.1 hl).2 (List.pairwise_cons.1 hm).2 (fun x y hx hy => hi x y (List.mem_cons_of_mem _ hx) (List.mem_cons_of_mem _ hy))]
/-- The call of a number. -/
def cAt (cs : List Cq) (x : Int) : List Cq := if 0 ≤ x then (cs[x.toNat]?).toList else []
def calls (cs : List Cq) (o : List Int) : List Cq := o.flatMap (cAt cs)
/-- The first n of a list of numbers are calls that count, none twice. -/
def Some1 (cs : List Cq) (o : List Int) (n : Nat) : Prop := (∀ j x, j < n → o[j]? = some x → 0 ≤ x ∧ ∃ c, cs[x.toNat]? = some c ∧ obj c.op ≠ 0) ∧ (o.take n).Nodup
def Full1 (cs : List Cq) (o : List Int) (n : Nat) : Prop := ∀ (i : Nat) c, i < n → cs[i]? = some c → obj c.op ≠ 0 → c.fin ≠ -1 → (i : Int) ∈ o
def IsOrd (cs : List Cq) (o : List Int) : Prop := Some1 cs o o.length ∧ Full1 cs o cs.length
theorem Some1.zero (cs : List Cq) (o : List Int) : Some1 cs o 0 := ⟨fun j x h => absurd h (Nat.not_lt_zero j), by simp⟩
theorem Some1.succ {cs : List Cq} {o : List Int} {n : Nat} {x : Int} {c : Cq} (h : Some1 cs o n) (hx : o[n]? = some x) (h0 : 0 ≤ x) (hc : cs[x.toNat]? = some c) (ho : obj c.op ≠ 0) (hn : x ∉ o.take n) : Some1 cs o (n + 1) := by
  refine ⟨fun j y hj hy => ?_, ?_⟩
  · by_cases e : j < n
    · exact h.1 j y e hy
    · have : j = n := by omega
      subst this; rw [hx] at hy; cases hy; exact ⟨h0, c, hc, ho⟩
  · rw [List.take_add_one, hx]
    show (o.take n ++ [x]).Nodup
    unfold List.Nodup
    rw [List.pairwise_append]
    refine ⟨h.2, by simp, fun a ha b hb e => ?_⟩
    simp at hb; subst hb; subst e; exact hn ha
theorem Some1.not {cs : List Cq} {o : List Int} {n : Nat} {x : Int} (hn : n < o.length) (hx : o[n]? = some x) (h : ¬ (0 ≤ x ∧ (∃ c, cs[x.toNat]? = some c ∧ obj c.op ≠ 0) ∧ x ∉ o.take n)) : ¬ IsOrd cs o := by
  rintro ⟨⟨h1, h2⟩, -⟩
  obtain ⟨h3, h4⟩ := h1 n x hn hx
  refine h ⟨h3, h4, fun hm => ?_⟩
  rw [List.take_length] at h2
  obtain ⟨k, hk⟩ := List.getElem?_of_mem hm
  rw [List.getElem?_take] at hk
  split at hk
  · rename_i hkn
    obtain ⟨a1, a2⟩ := List.getElem?_eq_some_iff.1 hk
    obtain ⟨b1, b2⟩ := List.getElem?_eq_some_iff.1 hx
    exact (List.pairwise_iff_getElem.1 h2) k n a1 b1 hkn (by rw [a2, b2])
  · cases hk
end Go.Proofs.Ytfgnaffomglmdaa.Wt
