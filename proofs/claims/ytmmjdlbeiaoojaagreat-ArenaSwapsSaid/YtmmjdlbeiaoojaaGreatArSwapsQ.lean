import Derived.Test.YtmmjdlbeiaoojaaGreatArSwapsP
/-
  What the loop of ArenaSwaps finds at each access of a log.
-/
namespace Go.Proofs.YtmmjdlbeiaoojaaGreat.Ar
open Go.RowKit Go.Shelf Mr Me Ma Wc Wm Wr
theorem snocI {α : Type} {p : List α → Prop} (h0 : p []) (h1 : ∀ l a, p l → p (l ++ [a])) (l : List α) : p l := by
  have key : ∀ l : List α, p l.reverse := fun l => by
    induction l with
    | nil => exact h0
    | cons a l ih => rw [List.reverse_cons]; exact h1 _ _ ih
  have := key l.reverse
  rwa [List.reverse_reverse] at this
theorem sws_bd (nt : Nat) (l : List Acc) : 0 ≤ (sws nt l).tag ∧ (sws nt l).tag ≤ l.length ∧ (sws nt l).ix = l.length ∧ (sws nt l).ld.length = nt := by
  refine snocI (p := fun l => 0 ≤ (sws nt l).tag ∧ (sws nt l).tag ≤ l.length ∧ (sws nt l).ix = l.length ∧ (sws nt l).ld.length = nt) (by simp [sws]) (fun l a ih => ?_) l
  · show _ ∧ _ ∧ _ ∧ _
    rw [sws_snoc]
    obtain ⟨i1, i2, i3, i4⟩ := ih
    have e : (((l ++ [a]).length : Nat) : Int) = (l.length : Int) + 1 := by simp
    rw [e]
    unfold Sws.step
    repeat' split
    all_goals (simp only [List.length_set]; omega)
theorem sws_ok (nt : Nat) (l l' : List Acc) (h : (sws nt (l ++ l')).ok = true) : (sws nt l).ok = true := by
  revert h
  refine snocI (p := fun l' => (sws nt (l ++ l')).ok = true → (sws nt l).ok = true) (fun h => by simpa using h) (fun l' a ih h => ?_) l'
  · apply ih
    rw [← List.append_assoc, sws_snoc] at h
    unfold Sws.step at h
    repeat' split at h
    all_goals (simp at h)
    all_goals (first | exact h | exact h.1)
/-- What the law's loop finds at an access. -/
inductive Fd (nt : Nat) (S S' : Sws) (a : Acc) : Prop where
  | far (t1 : 0 ≤ a.th) (t2 : a.th < nt) (ha : a.ad ≠ 0) (e1 : S'.tag = S.tag) (e2 : S'.last = S.last) (e3 : S'.ld = S.ld)
  | load (t1 : 0 ≤ a.th) (t2 : a.th < nt) (ha : a.ad = 0) (hk : a.kd = 1) (hs : a.saw / 4294967296 = S.tag) (e1 : S'.tag = S.tag) (e2 : S'.last = S.last) (e3 : S'.ld = S.ld.set a.th.toNat S.ix)
  | hit (t1 : 0 ≤ a.th) (t2 : a.th < nt) (ha : a.ad = 0) (hk : a.kd = 3) (hs : a.saw = a.old) (hx : a.new / 4294967296 = S.tag + 1) (e1 : S'.tag = S.tag + 1) (e2 : S'.last = S.ix) (e3 : S'.ld = S.ld)
  | miss (t1 : 0 ≤ a.th) (t2 : a.th < nt) (ha : a.ad = 0) (hk : a.kd = 3) (hs : a.saw ≠ a.old) (hx : ¬ S.last < S.ld[a.th.toNat]?.getD 0) (e1 : S'.tag = S.tag) (e2 : S'.last = S.last) (e3 : S'.ld = S.ld)
theorem sws_find (nt : Nat) (l : List Acc) (h : (sws nt l).ok = true) (j : Nat) (a : Acc) (ha : l[j]? = some a) : Fd nt (sws nt (l.take j)) (sws nt (l.take (j + 1))) a := by
  have e : l.take (j + 1) = l.take j ++ [a] := by rw [List.take_add_one, ha]; rfl
  have h' : ((sws nt (l.take j)).step nt a).ok = true := by
    rw [← sws_snoc, ← e]
    exact sws_ok nt _ (l.drop (j + 1)) (by rw [List.take_append_drop]; exact h)
  rw [e, sws_snoc]
  generalize sws nt (l.take j) = S at *
  unfold Sws.step at h' ⊢
  by_cases ht : 0 ≤ a.th ∧ a.th < nt
  · rw [if_neg (by simpa using ht)] at h' ⊢
    by_cases had : a.ad = 0
    · rw [if_neg (by simpa using had)] at h' ⊢
      by_cases hk : a.kd = 1
      · rw [if_pos hk] at h' ⊢
        simp at h'
        exact .load ht.1 ht.2 had hk h'.2 rfl rfl rfl
      · rw [if_neg hk] at h' ⊢
        by_cases hk3 : a.kd = 3
        · rw [if_pos hk3] at h' ⊢
          by_cases hs : a.saw = a.old
          · rw [if_pos hs] at h' ⊢
            simp at h'
            exact .hit ht.1 ht.2 had hk3 hs h'.2 rfl rfl rfl
          · rw [if_neg hs] at h' ⊢
            simp at h'
            exact .miss ht.1 ht.2 had hk3 hs (by have := h'.2; omega) rfl rfl rfl
        · rw [if_neg hk3] at h'
          simp at h'
    · rw [if_pos had] at h' ⊢
      exact .far ht.1 ht.2 had rfl rfl rfl
  · rw [if_pos ht] at h'
    simp at h'
end Go.Proofs.YtmmjdlbeiaoojaaGreat.Ar
