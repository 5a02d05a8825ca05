/-
  What a script of accesses makes of a memory: without the model.
-/
import Derived.Test.YtkfcfhgjhnmjlaaOpenMem
namespace Go.Proofs.Ytkfcfhgjhnmjlaa.Me
open Go.RowKit Mr
def runs (ws0 : List Int) (os : List O) : St := os.foldl (fun s o => stp o 0 s) ⟨ws0, [], []⟩
theorem runs_snoc (ws0 : List Int) (os : List O) (i : Nat) (hi : i < os.length) : runs ws0 (os.take (i + 1)) = stp (os[i]?.getD noO) 0 (runs ws0 (os.take i)) := by
  unfold runs
  rw [List.take_add_one, List.foldl_append]
  simp [hi]
theorem putA_length (ws : List Int) (a : Acc) : (putA ws a).length = ws.length := by unfold putA; split <;> simp
theorem foldl_putA_length (l : List Acc) : ∀ ws : List Int, (l.foldl putA ws).length = ws.length := by
  induction l with
  | nil => intro ws; rfl
  | cons a l ih => intro ws; rw [List.foldl_cons, ih, putA_length]
theorem mkA_ad (o : O) (mv : Int) (ws : List Int) : (mkA o mv ws).ad = o.ad := by unfold mkA; split <;> (try split) <;> rfl
theorem mkA_saw (o : O) (mv : Int) (ws : List Int) (h : (mkA o mv ws).kd ≠ 2) : (mkA o mv ws).saw = ws[o.ad.toNat]?.getD 0 := by
  by_cases h0 : o.k.tmod 3 = 0
  · simp only [mkA, if_pos h0]
  · by_cases h1 : o.k.tmod 3 = 1 ∨ o.k.tmod 3 = -1
    · simp only [mkA, if_neg h0, if_pos h1] at h
      exact absurd rfl h
    · simp only [mkA, if_neg h0, if_neg h1]
structure Rep (ws0 : List Int) (s : St) : Prop where
  now : s.ws = s.lg.foldl putA ws0
  ok : ∀ j, j < s.lg.length → 0 ≤ (s.lg[j]?.getD noAcc).ad ∧ (s.lg[j]?.getD noAcc).ad < ws0.length ∧ ((s.lg[j]?.getD noAcc).kd ≠ 2 → (s.lg[j]?.getD noAcc).saw = ((s.lg.take j).foldl putA ws0)[(s.lg[j]?.getD noAcc).ad.toNat]?.getD 0)
  ahl : s.ah.length ≤ s.lg.length
theorem Rep.zero (ws0 : List Int) : Rep ws0 ⟨ws0, [], []⟩ := ⟨rfl, fun j hj => by simp at hj, Nat.le_refl _⟩
theorem Rep.len {ws0 : List Int} {s : St} (h : Rep ws0 s) : s.ws.length = ws0.length := by rw [h.now, foldl_putA_length]
theorem Rep.stp {ws0 : List Int} {s : St} (h : Rep ws0 s) (o : O) (mv : Int) : Rep ws0 (stp o mv s) := by
  unfold Me.stp
  split
  · rename_i hin
    refine ⟨?_, ?_, ?_⟩
    · simp only [List.foldl_append, List.foldl_cons, List.foldl_nil, ← h.now]
    · intro j hj
      simp only [List.length_append, List.length_cons, List.length_nil] at hj
      by_cases e : j < s.lg.length
      · have := h.ok j e
        simp only [List.getElem?_append_left e]
        rw [List.take_append_of_le_length (by omega)]
        exact this
      · have e' : j = s.lg.length := by omega
        subst e'
        simp only [List.getElem?_append_right (Nat.le_refl _), Nat.sub_self, List.getElem?_cons_zero, Option.getD_some, mkA_ad, List.take_left']
        rw [← h.len]
        refine ⟨hin.1, hin.2, fun hk => ?_⟩
        rw [mkA_saw o mv s.ws hk, ← h.now]
    · simp only [List.length_append, List.length_cons, List.length_nil]
      have := h.ahl
      split <;> simp <;> omega
  · exact h
theorem stp_lg_le (o : O) (mv : Int) (s : St) : (stp o mv s).lg.length ≤ s.lg.length + 1 := by unfold stp; split <;> simp
theorem runs_rep (ws0 : List Int) (os : List O) : Rep ws0 (runs ws0 os) := by
  unfold runs
  have : ∀ (s : St), Rep ws0 s → Rep ws0 (os.foldl (fun s o => stp o 0 s) s) := by
    induction os with
    | nil => intro s h; exact h
    | cons o l ih => intro s h; exact ih _ (h.stp o 0)
  exact this _ (Rep.zero ws0)
theorem runs_lg_le (ws0 : List Int) (os : List O) : (runs ws0 os).lg.length ≤ os.length := by
  unfold runs
  have : ∀ (s : St), (os.foldl (fun s o => stp o 0 s) s).lg.length ≤ s.lg.length + os.length := by
    induction os with
    | nil => intro s; simp
    | cons o l ih =>
      intro s
      have h1 := ih (stp o 0 s)
      have h2 := stp_lg_le o 0 s
      simp only [List.foldl_cons, List.length_cons] at h1 ⊢
      omega
  simpa using this ⟨ws0, [], []⟩
theorem runs_roomy (ws0 : List Int) (os : List O) (i : Nat) (hi : i < os.length) (hb : (os.length + os.length / 4 + 192) * 56 ≤ 281474976710656) : Roomy (runs ws0 (os.take i)).lg (runs ws0 (os.take i)).ah := by
  have h1 := runs_lg_le ws0 (os.take i)
  have h2 := (runs_rep ws0 (os.take i)).ahl
  have h3 : (os.take i).length = i := by simp; omega
  exact ⟨room_mono (by omega) hb (Nat.le_refl _), room_mono (by omega) hb (by decide)⟩
theorem ent_all (lg : List Acc) : (ent lg 0 lg.length).map (·.2) = lg := by
  apply List.ext_getElem
  · simp [ent]
  · intro i h1 h2
    simp [ent, h2]
theorem nmc_get (lg : List Acc) (k i : Nat) (hi : i < k) : (nmc (ent lg 0 k))[i]? = some (.int .i64 (i : Int)) := by simp [nmc, ent, hi]
end Go.Proofs.Ytkfcfhgjhnmjlaa.Me
