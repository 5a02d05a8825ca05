import Derived.Test.YtmmjdlbeiaoojaaGreatArCv
/-
  The pure part of ArenaWhole: how often a slot is in the free list, and in the caches.
-/
namespace Go.Proofs.YtmmjdlbeiaoojaaGreat.Ar
open Go.RowKit Go.Shelf Mr Me Ma Wc Wm Wr
theorem nodup_le : ∀ (n : Nat) (l : List Int), l.Nodup → (∀ s ∈ l, 0 ≤ s ∧ s < n) → l.length ≤ n
  | 0, l, _, h => by
    cases l with
    | nil => simp
    | cons a l => have := h a (by simp); omega
  | n + 1, l, hd, h => by
    have h1 : (l.erase (n : Int)).Nodup := hd.erase _
    have h2 := nodup_le n (l.erase (n : Int)) h1 (fun s hs => by
      have hm := (hd.mem_erase_iff).1 hs
      have := h s hm.2
      omega)
    by_cases hm : (n : Int) ∈ l
    · have := List.length_erase_of_mem hm
      omega
    · rw [List.erase_of_not_mem hm] at h2
      omega
theorem nodup_cnt {l : List Int} (h : l.Nodup) (s : Int) : l.count s = if s ∈ l then 1 else 0 := by
  induction l with
  | nil => simp
  | cons a l ih =>
    rw [List.nodup_cons] at h
    rw [List.count_cons, ih h.2]
    by_cases e : a = s
    · subst e
      simp [h.1]
    · have e' : ¬ s = a := fun x => e x.symm
      simp [e, e']
def cts (n : Nat) (l : List Int) : List Int := (List.range n).map (fun s : Nat => ((l.count (s : Int) : Nat) : Int))
theorem cts_len (n : Nat) (l : List Int) : (cts n l).length = n := by simp [cts]
theorem cts_get (n : Nat) (l : List Int) (s : Nat) (hs : s < n) : (cts n l)[s]? = some ((l.count (s : Int) : Nat) : Int) := by simp [cts, hs]
theorem cts_nil (n : Nat) : cts n [] = List.replicate n 0 := by
  apply List.ext_getElem?
  intro j
  by_cases hj : j < n
  · rw [cts_get n [] j hj, List.getElem?_replicate, if_pos hj]; simp
  · rw [List.getElem?_eq_none (by rw [cts_len]; omega), List.getElem?_eq_none (by simp; omega)]
theorem cts_snoc (n : Nat) (l : List Int) (s : Nat) (hs : s < n) : (cts n l).set s (((l.count (s : Int) : Nat) : Int) + 1) = cts n (l ++ [(s : Int)]) := by
  apply List.ext_getElem?
  intro j
  rw [List.getElem?_set, cts_len]
  by_cases hj : j < n
  · rw [cts_get n _ j hj, cts_get n _ j hj, List.count_append]
    by_cases e : s = j
    · subst e
      rw [if_pos rfl, if_pos hj]
      simp
    · rw [if_neg e]
      have e' : ¬ (s : Int) = (j : Int) := by omega
      simp [e']
  · rw [List.getElem?_eq_none (l := cts n (l ++ [(s : Int)])) (by rw [cts_len]; omega)]
    by_cases e : s = j
    · omega
    · rw [if_neg e, List.getElem?_eq_none (by rw [cts_len]; omega)]
theorem cts_le (l : List Int) (s : Nat) : l.count (s : Int) ≤ l.length := List.count_le_length
section
variable {P : Pa} {b i : Nat}
/-- The free list. -/
theorem free_list (h : Inv P b) : ∃ l, Chn (sp P) l (P.word 0 % 4294967296) ∧ l.length ≤ P.A.sl.length ∧ (∀ s ∈ l, 0 ≤ s ∧ s < P.A.sl.length) ∧ ∀ s : Nat, s < P.A.sl.length → l.count (s : Int) = if (P.A.st s).1 = 0 then 1 else 0 := by
  obtain ⟨l, h1, h2, h3⟩ := h.fl
  have h4 : ∀ s ∈ l, 0 ≤ s ∧ s < P.A.sl.length := fun s hs => ((h3 s).1 hs).1
  refine ⟨l, h1, nodup_le _ l h2 h4, h4, fun s hs => ?_⟩
  rw [nodup_cnt h2]
  by_cases e : (P.A.st s).1 = 0
  · rw [if_pos e, if_pos ((h3 s).2 ⟨⟨by omega, by omega⟩, e⟩)]
  · rw [if_neg e, if_neg (fun hm => e ((h3 s).1 hm).2)]
def cup (P : Pa) (k : Nat) : List Int := (P.A.ca.take k).flatten
theorem cup_succ (P : Pa) (k : Nat) (l : List Int) (hl : P.A.ca[k]? = some l) : cup P (k + 1) = cup P k ++ l := by
  unfold cup
  rw [List.take_add_one, hl]
  simp
theorem cup_cnt (h : Inv P b) (s : Int) (hs : P.A.has s) : ∀ k : Nat, k ≤ P.A.ca.length → (cup P k).count s = if (P.A.st s).1 = 1 ∧ (P.A.st s).2 < (k : Int) then 1 else 0
  | 0, _ => by
    have : ¬ ((P.A.st s).1 = 1 ∧ (P.A.st s).2 < ((0 : Nat) : Int)) := fun e => by
      obtain ⟨i, l, h1, h2⟩ := h.cd s hs e.1
      have := ((h.ca i l h1).2.2 s h2).2
      have e2 := e.2
      rw [this] at e2
      simp at e2
      omega
    rw [if_neg this]
    simp [cup]
  | k + 1, hk => by
    obtain ⟨l, hl⟩ : ∃ l, P.A.ca[k]? = some l := ⟨_, List.getElem?_eq_getElem (by omega)⟩
    obtain ⟨c1, c2, c3⟩ := h.ca k l hl
    rw [cup_succ P k l hl, List.count_append, cup_cnt h s hs k (by omega), nodup_cnt c1]
    by_cases hm : s ∈ l
    · have e := (c3 s hm).2
      rw [if_pos hm, e]
      simp
      omega
    · rw [if_neg hm]
      by_cases e1 : (P.A.st s).1 = 1
      · obtain ⟨i, l', h1, h2⟩ := h.cd s hs e1
        have e := ((h.ca i l' h1).2.2 s h2).2
        have hne : i ≠ k := fun x => by
          subst x
          rw [hl] at h1
          cases h1
          exact hm h2
        rw [e]
        simp only [true_and, Nat.add_zero]
        by_cases hik : (i : Int) < (k : Int)
        · rw [if_pos hik, if_pos (by omega)]
        · rw [if_neg hik, if_neg (by omega)]
      · rw [if_neg (fun x => e1 x.1), if_neg (fun x => e1 x.1)]
theorem cup_all (h : Inv P b) (s : Int) (hs : P.A.has s) : (cup P P.A.ca.length).count s = if (P.A.st s).1 = 1 then 1 else 0 := by
  rw [cup_cnt h s hs _ (Nat.le_refl _)]
  by_cases e : (P.A.st s).1 = 1
  · obtain ⟨i, l, h1, h2⟩ := h.cd s hs e
    have := ((h.ca i l h1).2.2 s h2).2
    have hi := (List.getElem?_eq_some_iff.1 h1).1
    rw [if_pos e, if_pos ⟨e, by rw [this]; show (i : Int) < _; omega⟩]
  · rw [if_neg e, if_neg (fun x => e x.1)]
theorem cup_len (h : Inv P b) : ∀ k : Nat, k ≤ P.A.ca.length → (cup P k).length ≤ k * P.K
  | 0, _ => by simp [cup]
  | k + 1, hk => by
    obtain ⟨l, hl⟩ : ∃ l, P.A.ca[k]? = some l := ⟨_, List.getElem?_eq_getElem (by omega)⟩
    obtain ⟨c1, c2, c3⟩ := h.ca k l hl
    have := cup_len h k (by omega)
    rw [cup_succ P k l hl, List.length_append, Nat.succ_mul]
    omega
end
end Go.Proofs.YtmmjdlbeiaoojaaGreat.Ar
