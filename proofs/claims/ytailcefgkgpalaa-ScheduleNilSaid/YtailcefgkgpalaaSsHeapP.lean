/-
  SCHEDULE: heaps, the pure side: an array that is sifted; a list that is looked through.
-/
import Derived.Test.YtailcefgkgpalaaShRow
namespace Go.Proofs.Ytailcefgkgpalaa.Ss
open Go.RowKit Mr Md Sh
set_option linter.unusedVariables false
set_option linter.unusedSimpArgs false
/-- A key, a value, a number. -/
structure Tr where
  k : Int
  c : ByteArray
  v : Int
  n : Int
def tr0 : Tr := ⟨0, ByteArray.empty, 0, 0⟩
def le (a b : Tr) : Prop := a.k < b.k ∨ (a.k = b.k ∧ a.n ≤ b.n)
/-- a goes out ahead of b. -/
def ahd (a b : Tr) : Prop := a.k < b.k ∨ (a.k = b.k ∧ a.n < b.n)
theorem ahd_no {a b : Tr} : ¬ ahd a b ↔ le b a := by unfold ahd le; omega
theorem ahd_le {a b : Tr} (h : ahd a b) : le a b := by unfold ahd at h; unfold le; omega
theorem le_refl (a : Tr) : le a a := .inr ⟨rfl, Int.le_refl _⟩
theorem le_trans {a b c : Tr} (h : le a b) (h2 : le b c) : le a c := by unfold le at *; omega
def tr (l : List Tr) (i : Nat) : Tr := l[i]?.getD tr0
theorem tr_some {l : List Tr} {i : Nat} (h : i < l.length) : l[i]? = some (tr l i) := by unfold tr; rw [List.getElem?_eq_getElem h]; rfl
theorem tr_mem {l : List Tr} {i : Nat} (h : i < l.length) : tr l i ∈ l := List.mem_of_getElem? (tr_some h)
def swp (l : List Tr) (i j : Nat) : List Tr := (l.set i (tr l j)).set j (tr l i)
theorem swp_len (l : List Tr) (i j : Nat) : (swp l i j).length = l.length := by simp [swp]
theorem tr_set {l : List Tr} {i : Nat} {x : Tr} (h : i < l.length) (q : Nat) : tr (l.set i x) q = if q = i then x else tr l q := by
  unfold tr
  rw [List.getElem?_set]
  by_cases e : q = i
  · subst e; simp [h]
  · rw [if_neg (Ne.symm e), if_neg e]
theorem swp_at {l : List Tr} {i j : Nat} (hi : i < l.length) (hj : j < l.length) (q : Nat) : tr (swp l i j) q = if q = j then tr l i else if q = i then tr l j else tr l q := by
  unfold swp
  rw [tr_set (by simpa using hj), tr_set hi]
theorem swp_perm {l : List Tr} {i j : Nat} (hi : i < l.length) (hj : j < l.length) : (swp l i j).Perm l := by
  have e1 : tr l j = l[j] := by unfold tr; rw [List.getElem?_eq_getElem hj]; rfl
  have e2 : tr l i = l[i] := by unfold tr; rw [List.getElem?_eq_getElem hi]; rfl
  unfold swp
  rw [e1, e2]
  exact List.set_set_perm hi hj
/-- None goes out ahead of the one above it. -/
def Hep (l : List Tr) : Prop := ∀ j, 0 < j → j < l.length → le (tr l ((j - 1) / 2)) (tr l j)
structure Up (l : List Tr) (i : Nat) : Prop where
  oth : ∀ j, 0 < j → j < l.length → j ≠ i → le (tr l ((j - 1) / 2)) (tr l j)
  by_ : ∀ j, 0 < j → j < l.length → (j - 1) / 2 = i → 0 < i → le (tr l ((i - 1) / 2)) (tr l j)
structure Dn (l : List Tr) (i : Nat) : Prop where
  oth : ∀ j, 0 < j → j < l.length → (j - 1) / 2 ≠ i → le (tr l ((j - 1) / 2)) (tr l j)
  by_ : ∀ j, 0 < j → j < l.length → (j - 1) / 2 = i → 0 < i → le (tr l ((i - 1) / 2)) (tr l j)
theorem tr_app {l : List Tr} {x : Tr} {i : Nat} (h : i < l.length) : tr (l ++ [x]) i = tr l i := by unfold tr; rw [List.getElem?_append_left h]
theorem Up.start {l : List Tr} (h : Hep l) (x : Tr) : Up (l ++ [x]) l.length := by
  refine ⟨fun j h0 hj hn => ?_, fun j h0 hj he h1 => ?_⟩
  · simp at hj
    rw [tr_app (by omega), tr_app (by omega)]
    exact h j h0 (by omega)
  · simp at hj; omega
theorem Up.top {l : List Tr} (h : Up l 0) : Hep l := fun j h0 hj => h.oth j h0 hj (by omega)
theorem Up.stop {l : List Tr} {i : Nat} (h : Up l i) (hx : ¬ ahd (tr l i) (tr l ((i - 1) / 2))) : Hep l := fun j h0 hj => by
  by_cases e : j = i
  · subst e; exact ahd_no.1 hx
  · exact h.oth j h0 hj e
theorem Up.step {l : List Tr} {i : Nat} (h : Up l i) (h0 : 0 < i) (hi : i < l.length) (hx : ahd (tr l i) (tr l ((i - 1) / 2))) : Up (swp l i ((i - 1) / 2)) ((i - 1) / 2) := by
  have hp : (i - 1) / 2 < l.length := by omega
  refine ⟨fun j j0 hj hn => ?_, fun j j0 hj he h1 => ?_⟩
  · rw [swp_len] at hj
    rw [swp_at hi hp, swp_at hi hp, if_neg hn]
    by_cases e : j = i
    · subst e
      rw [if_pos rfl, if_pos rfl]
      exact ahd_le hx
    · rw [if_neg e]
      by_cases e2 : (j - 1) / 2 = (i - 1) / 2
      · rw [if_pos e2]
        have := h.oth j j0 hj e
        rw [e2] at this
        exact le_trans (ahd_le hx) this
      · rw [if_neg e2]
        by_cases e3 : (j - 1) / 2 = i
        · rw [if_pos e3]
          exact h.by_ j j0 hj e3 h0
        · rw [if_neg e3]
          exact h.oth j j0 hj e
  · rw [swp_len] at hj
    have hne : ¬ (((i - 1) / 2 - 1) / 2 = (i - 1) / 2) := by omega
    have hne2 : ¬ (((i - 1) / 2 - 1) / 2 = i) := by omega
    have hpp := h.oth ((i - 1) / 2) h1 hp (by omega)
    rw [swp_at hi hp, swp_at hi hp, if_neg hne, if_neg hne2]
    have hjn : ¬ (j = (i - 1) / 2) := by omega
    rw [if_neg hjn]
    by_cases e : j = i
    · rw [if_pos e]
      exact hpp
    · rw [if_neg e]
      have := h.oth j j0 hj e
      rw [he] at this
      exact le_trans hpp this
theorem Dn.stop {l : List Tr} {i : Nat} (h : Dn l i) (hx : ∀ j, 0 < j → j < l.length → (j - 1) / 2 = i → le (tr l i) (tr l j)) : Hep l := fun j h0 hj => by
  by_cases e : (j - 1) / 2 = i
  · rw [e]; exact hx j h0 hj e
  · exact h.oth j h0 hj e
theorem Dn.step {l : List Tr} {i c : Nat} (h : Dn l i) (h0 : 0 < c) (hc : c < l.length) (hp : (c - 1) / 2 = i) (hx : le (tr l c) (tr l i)) (hm : ∀ j, 0 < j → j < l.length → (j - 1) / 2 = i → le (tr l c) (tr l j)) : Dn (swp l i c) c := by
  have hi : i < l.length := by omega
  refine ⟨fun j j0 hj hn => ?_, fun j j0 hj he h1 => ?_⟩
  · rw [swp_len] at hj
    rw [swp_at hi hc, swp_at hi hc, if_neg hn]
    by_cases e : (j - 1) / 2 = i
    · rw [if_pos e]
      by_cases e1 : j = c
      · rw [if_pos e1]; exact hx
      · rw [if_neg e1, if_neg (by omega : ¬ j = i)]
        exact hm j j0 hj e
    · rw [if_neg e]
      by_cases e1 : j = c
      · omega
      · rw [if_neg e1]
        by_cases e2 : j = i
        · subst e2
          rw [if_pos rfl]
          exact h.by_ c h0 hc hp j0
        · rw [if_neg e2]
          exact h.oth j j0 hj e
  · rw [swp_len] at hj
    rw [swp_at hi hc, swp_at hi hc, hp, if_neg (by omega : ¬ i = c), if_pos rfl, if_neg (by omega : ¬ j = c), if_neg (by omega : ¬ j = i)]
    have := h.oth j j0 hj (by omega)
    rw [he] at this
    exact this
theorem Hep.first {l : List Tr} (h : Hep l) : ∀ j, j < l.length → le (tr l 0) (tr l j) := by
  intro j
  induction j using Nat.strongRecOn with
  | ind j ih =>
    intro hj
    by_cases e : j = 0
    · subst e; exact le_refl _
    · exact le_trans (ih ((j - 1) / 2) (by omega) (by omega)) (h j (by omega) hj)
/-- What is left behind the first one is taken out: the last one comes to its place. -/
def low (l : List Tr) : List Tr := (l.set 0 (tr l (l.length - 1))).take (l.length - 1)
theorem low_len {l : List Tr} (h : 0 < l.length) : (low l).length = l.length - 1 := by simp [low]
theorem low_at {l : List Tr} {j : Nat} (h0 : 0 < j) (hj : j < l.length - 1) : tr (low l) j = tr l j := by
  have hl : 0 < l.length := by omega
  have e := tr_set (x := tr l (l.length - 1)) hl j
  rw [if_neg (by omega)] at e
  rw [← e]
  unfold low
  simp only [tr, List.getElem?_take]
  rw [if_pos hj]
theorem Dn.start {l : List Tr} (h : Hep l) (hl : 0 < l.length) : Dn (low l) 0 := by
  refine ⟨fun j h0 hj hn => ?_, fun j h0 hj he h1 => by omega⟩
  rw [low_len hl] at hj
  rw [low_at (by omega) (by omega), low_at h0 hj]
  exact h j h0 (by omega)
theorem low_perm {l : List Tr} (hl : 0 < l.length) : (tr l 0 :: low l).Perm l := by
  match l, hl with
  | a :: t, _ =>
    rcases List.eq_nil_or_concat t with rfl | ⟨t', z, rfl⟩
    · simp [low, tr]
    · have e : low (a :: (t' ++ [z])) = z :: t' := by simp [low, tr]
      have e0 : tr (a :: (t' ++ [z])) 0 = a := rfl
      rw [List.concat_eq_append, e, e0]
      exact List.Perm.cons a (List.perm_append_singleton z t').symm
/-- The list that is looked through: numbers rise. -/
def Ris (m : List Tr) : Prop := m.Pairwise (fun a b => a.n < b.n)
/-- The place of the first one with the least key. -/
structure Fst (m : List Tr) (i at_ : Nat) : Prop where
  lt : at_ < i
  lo : ∀ j, j < at_ → (tr m at_).k < (tr m j).k
  hi : ∀ j, j < i → (tr m at_).k ≤ (tr m j).k
theorem Fst.one (m : List Tr) : Fst m 1 0 := ⟨by omega, fun j hj => by omega, fun j hj => by rw [show j = 0 from by omega]; exact Int.le_refl _⟩
theorem Fst.yes {m : List Tr} {i a : Nat} (h : Fst m i a) (hx : (tr m i).k < (tr m a).k) : Fst m (i + 1) i :=
  ⟨by omega, fun j hj => by have := h.hi j hj; omega, fun j hj => by
    by_cases e : j = i
    · subst e; exact Int.le_refl _
    · have := h.hi j (by omega); omega⟩
theorem Fst.no {m : List Tr} {i a : Nat} (h : Fst m i a) (hx : ¬ (tr m i).k < (tr m a).k) : Fst m (i + 1) a :=
  ⟨by have := h.lt; omega, h.lo, fun j hj => by
    by_cases e : j = i
    · subst e; omega
    · exact h.hi j (by omega)⟩
theorem ris_at {m : List Tr} (h : Ris m) {i j : Nat} (hij : i < j) (hj : j < m.length) : (tr m i).n < (tr m j).n := by
  have e1 : tr m j = m[j] := by unfold tr; rw [List.getElem?_eq_getElem hj]; rfl
  have e2 : tr m i = m[i] := by unfold tr; rw [List.getElem?_eq_getElem (by omega)]; rfl
  rw [e1, e2]
  exact List.pairwise_iff_getElem.1 h i j (by omega) hj hij
theorem Fst.least {m : List Tr} {a : Nat} (h : Fst m m.length a) (hr : Ris m) : ∀ j, j < m.length → le (tr m a) (tr m j) := by
  intro j hj
  by_cases e : j < a
  · exact .inl (h.lo j e)
  · have h1 := h.hi j hj
    by_cases e2 : j = a
    · subst e2; exact le_refl _
    · have h2 := ris_at hr (i := a) (j := j) (by omega) hj
      unfold le; omega
theorem mem_tr {m : List Tr} {x : Tr} (h : x ∈ m) : ∃ j, j < m.length ∧ tr m j = x := by
  obtain ⟨j, hj, e⟩ := List.getElem_of_mem h
  exact ⟨j, hj, by unfold tr; rw [List.getElem?_eq_getElem hj]; exact e⟩
/-- Both take out the same. -/
theorem both_first {l m : List Tr} {a : Nat} (hl : 0 < l.length) (hh : Hep l) (hp : l.Perm m) (hr : Ris m) (h : Fst m m.length a) : tr l 0 = tr m a := by
  have hlen := hp.length_eq
  have ha := h.lt
  obtain ⟨j, hj, ej⟩ := mem_tr (hp.subset (tr_mem hl))
  obtain ⟨q, hq, eq⟩ := mem_tr (hp.symm.subset (tr_mem ha))
  have h1 := hh.first q hq
  have h2 := h.least hr j hj
  rw [eq] at h1
  rw [ej] at h2
  have h3 : (tr l 0).n = (tr m a).n := by unfold le at h1 h2; omega
  rw [← ej] at h3 ⊢
  by_cases e : j < a
  · have := ris_at hr e ha; omega
  · by_cases e2 : a < j
    · have := ris_at hr e2 hj; omega
    · rw [show j = a from by omega]
def cut (m : List Tr) (a : Nat) : List Tr := m.take a ++ m.drop (a + 1)
theorem cut_perm {m : List Tr} {a : Nat} (h : a < m.length) : (tr m a :: cut m a).Perm m := by
  have e1 : tr m a = m[a] := by unfold tr; rw [List.getElem?_eq_getElem h]; rfl
  have e : m = m.take a ++ tr m a :: m.drop (a + 1) := by rw [e1, ← List.drop_eq_getElem_cons h, List.take_append_drop]
  unfold cut
  refine List.Perm.trans List.perm_middle.symm ?_
  rw [← e]
theorem cut_len {m : List Tr} {a : Nat} (h : a < m.length) : (cut m a).length = m.length - 1 := by simp [cut]; omega
theorem cut_ris {m : List Tr} (h : Ris m) (a : Nat) : Ris (cut m a) := by
  have hs : (cut m a).Sublist m := by
    unfold cut
    have := List.Sublist.append (List.Sublist.refl (m.take a)) (List.drop_sublist_drop_left m (Nat.le_succ a))
    rwa [List.take_append_drop] at this
  exact h.sublist hs
/-- The two heaps go together: p is the next number. -/
structure Tog (l m : List Tr) (p : Int) : Prop where
  hep : Hep l
  per : l.Perm m
  ris : Ris m
  bel : ∀ x ∈ m, 0 ≤ x.n ∧ x.n < p
theorem tog_nil : Tog [] [] 0 := ⟨fun j _ h => by simp at h, List.Perm.refl _, List.Pairwise.nil, fun x h => by simp at h⟩
theorem Tog.put {l m l' : List Tr} {p : Int} (h : Tog l m p) (hp : 0 ≤ p) (k : Int) (c : ByteArray) (v : Int) (hl : Hep l') (hq : l'.Perm (l ++ [⟨k, c, v, p⟩])) : Tog l' (m ++ [⟨k, c, v, p⟩]) (p + 1) := by
  refine ⟨hl, hq.trans (List.Perm.append_right _ h.per), ?_, fun x hx => ?_⟩
  · refine List.pairwise_append.2 ⟨h.ris, List.pairwise_singleton _ _, fun a ha b hb => ?_⟩
    simp at hb; subst hb
    exact (h.bel a ha).2
  · rcases List.mem_append.1 hx with hx | hx
    · have := h.bel x hx; omega
    · simp at hx; subst hx; simp; omega
theorem Tog.next {l m l' : List Tr} {p : Int} {a : Nat} (h : Tog l m p) (hl : 0 < l.length) (hf : Fst m m.length a) (hh : Hep l') (hq : l'.Perm (low l)) : Tog l' (cut m a) p ∧ tr l 0 = tr m a := by
  have e := both_first hl h.hep h.per h.ris hf
  refine ⟨⟨hh, ?_, cut_ris h.ris a, fun x hx => h.bel x ((cut_perm hf.lt).subset (List.mem_cons_of_mem _ hx))⟩, e⟩
  have h1 := (low_perm hl).trans (h.per.trans (cut_perm hf.lt).symm)
  rw [e] at h1
  exact hq.trans ((List.perm_cons _).1 h1)
end Go.Proofs.Ytailcefgkgpalaa.Ss
