/-
  What Back takes back: without the model (its contract is under way: MemBack.part).
-/
import Derived.Test.YtkfcfhgjhnmjlaaMemRange
import Derived.Test.YtkfcfhgjhnmjlaaMemPure
namespace Go.Proofs.Ytkfcfhgjhnmjlaa.Me
open Go.RowKit Go.Shelf Mr
attribute [local go_sem] Oper.semAt_some
/-- The words behind the writes of a log, and what stood ahead of each. -/
def play (ws0 : List Int) (lg : List Acc) : List Int × List Int := lg.foldl (fun p a => if wrt a = true then (p.1.set a.ad.toNat a.new, p.2 ++ [p.1[a.ad.toNat]?.getD 0]) else p) (ws0, [])
theorem play_snoc (ws0 : List Int) (lg : List Acc) (a : Acc) : play ws0 (lg ++ [a]) = if wrt a = true then ((play ws0 lg).1.set a.ad.toNat a.new, (play ws0 lg).2 ++ [(play ws0 lg).1[a.ad.toNat]?.getD 0]) else play ws0 lg := by simp [play]
theorem play_words (ws0 : List Int) (lg : List Acc) : (play ws0 lg).1 = lg.foldl putA ws0 := by
  have : ∀ (l : List Acc) (p : List Int × List Int), (l.foldl (fun p a => if wrt a = true then (p.1.set a.ad.toNat a.new, p.2 ++ [p.1[a.ad.toNat]?.getD 0]) else p) p).1 = l.foldl putA p.1 := by
    intro l
    induction l with
    | nil => intro p; rfl
    | cons a l ih =>
      intro p
      rw [List.foldl_cons, List.foldl_cons, ih]
      congr 1
      unfold putA
      split <;> rfl
  exact this lg (ws0, [])
theorem play_length (ws0 : List Int) (lg : List Acc) : (play ws0 lg).1.length = ws0.length := by rw [play_words, foldl_putA_length]
/-- What is kept beside a beginning of the log is a beginning of what is kept beside the log. -/
theorem play_prefix (ws0 : List Int) (lg : List Acc) (m : Nat) : ∃ rest, (play ws0 lg).2 = (play ws0 (lg.take m)).2 ++ rest := by
  have : ∀ (l : List Acc) (p : List Int × List Int), ∃ rest, (l.foldl (fun p a => if wrt a = true then (p.1.set a.ad.toNat a.new, p.2 ++ [p.1[a.ad.toNat]?.getD 0]) else p) p).2 = p.2 ++ rest := by
    intro l
    induction l with
    | nil => intro p; exact ⟨[], by simp⟩
    | cons a l ih =>
      intro p
      rw [List.foldl_cons]
      obtain ⟨r, hr⟩ := ih (if wrt a = true then (p.1.set a.ad.toNat a.new, p.2 ++ [p.1[a.ad.toNat]?.getD 0]) else p)
      rw [hr]
      split
      · exact ⟨[p.1[a.ad.toNat]?.getD 0] ++ r, by simp⟩
      · exact ⟨r, rfl⟩
  have h := this (lg.drop m) (play ws0 (lg.take m))
  unfold play at h ⊢
  rw [← List.foldl_append, List.take_append_drop] at h
  exact h
theorem play_ah_le (ws0 : List Int) (lg : List Acc) : (play ws0 lg).2.length ≤ lg.length := by
  have : ∀ (l : List Acc) (p : List Int × List Int), (l.foldl (fun p a => if wrt a = true then (p.1.set a.ad.toNat a.new, p.2 ++ [p.1[a.ad.toNat]?.getD 0]) else p) p).2.length ≤ p.2.length + l.length := by
    intro l
    induction l with
    | nil => intro p; simp
    | cons a l ih =>
      intro p
      rw [List.foldl_cons]
      refine Nat.le_trans (ih _) ?_
      split <;> simp <;> omega
  simpa [play] using this lg (ws0, [])
/-- One write taken back. -/
theorem undo (ws0 : List Int) (lg : List Acc) (a : Acc) (hw : wrt a = true) (h0 : 0 ≤ a.ad) (h1 : a.ad < ws0.length) :
    (play ws0 (lg ++ [a])).1.set a.ad.toNat ((play ws0 lg).1[a.ad.toNat]?.getD 0) = (play ws0 lg).1 := by
  rw [play_snoc, if_pos hw]
  have hl := play_length ws0 lg
  have hlt : a.ad.toNat < (play ws0 lg).1.length := by omega
  simp only [List.set_set]
  rw [List.getElem?_eq_getElem hlt, Option.getD_some, List.set_getElem_self]
theorem lgc_drop (lg : List Acc) (c : Nat) (j : Nat) : (lgc (lg.drop c))[j]? = (lgc lg)[c * 7 + j]? := by
  induction c generalizing lg with
  | zero => simp
  | succ c ih =>
    cases lg with
    | nil => simp [lgc]
    | cons a l =>
      rw [List.drop_succ_cons, ih]
      have e : lgc (a :: l) = a.cells ++ lgc l := rfl
      have el : a.cells.length = 7 := rfl
      rw [e, List.getElem?_append_right (by rw [el]; omega), el]
      congr 1
      omega
end Go.Proofs.Ytkfcfhgjhnmjlaa.Me
