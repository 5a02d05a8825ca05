/-
  MemoryOne, without the model.
-/
import Derived.Test.YtilbkminekojcaaMemPure
namespace Go.Proofs.Ytilbkminekojcaa.Me
open Go.RowKit Mr
def runs1 (ws0 : List Int) (os : List O) : St := os.foldl (fun s o => stp o o.n s) ⟨ws0, [], []⟩
theorem runs1_snoc (ws0 : List Int) (os : List O) (i : Nat) (hi : i < os.length) : runs1 ws0 (os.take (i + 1)) = stp (os[i]?.getD noO) (os[i]?.getD noO).n (runs1 ws0 (os.take i)) := by
  unfold runs1
  rw [List.take_add_one, List.foldl_append]
  simp [hi]
theorem stp_ah_le (o : O) (mv : Int) (s : St) : (stp o mv s).ah.length ≤ s.ah.length + 1 := by
  unfold stp
  split
  · simp only
    split <;> simp
  · omega
theorem stp_len (o : O) (mv : Int) (s : St) : (stp o mv s).ws.length = s.ws.length := by
  unfold stp
  split
  · exact putA_length _ _
  · rfl
theorem runs1_all (ws0 : List Int) (os : List O) : (runs1 ws0 os).ws.length = ws0.length ∧ (runs1 ws0 os).lg.length ≤ os.length ∧ (runs1 ws0 os).ah.length ≤ os.length := by
  suffices h : ∀ (l : List O) (s : St), (l.foldl (fun s o => stp o o.n s) s).ws.length = s.ws.length ∧ (l.foldl (fun s o => stp o o.n s) s).lg.length ≤ s.lg.length + l.length ∧ (l.foldl (fun s o => stp o o.n s) s).ah.length ≤ s.ah.length + l.length by
    have := h os ⟨ws0, [], []⟩
    simpa [runs1] using this
  intro l
  induction l with
  | nil => intro s; exact ⟨rfl, Nat.le_refl _, Nat.le_refl _⟩
  | cons o l ih =>
    intro s
    have h1 := ih (stp o o.n s)
    have h2 := stp_lg_le o o.n s
    have h3 := stp_ah_le o o.n s
    have h4 := stp_len o o.n s
    simp only [List.foldl_cons, List.length_cons]
    omega
theorem runs1_roomy (ws0 : List Int) (os : List O) (i : Nat) (hi : i < os.length) (hb : (os.length + os.length / 4 + 192) * 56 ≤ 281474976710656) : Roomy (runs1 ws0 (os.take i)).lg (runs1 ws0 (os.take i)).ah := by
  obtain ⟨_, h1, h2⟩ := runs1_all ws0 (os.take i)
  have h3 : (os.take i).length = i := by simp; omega
  exact ⟨room_mono (by omega) hb (Nat.le_refl _), room_mono (by omega) hb (by omega)⟩
theorem mkA_th (o : O) (mv : Int) (ws : List Int) : (mkA o mv ws).th = o.th := by unfold mkA; split <;> (try split) <;> rfl
theorem mkA_mv (o : O) (mv : Int) (ws : List Int) : (mkA o mv ws).mv = mv := by unfold mkA; split <;> (try split) <;> rfl
/-- What an access makes. -/
theorem stp_there (o : O) (mv : Int) (s : St) (i : Nat) (hi : o.ad = i) (hl : i < s.ws.length) : ∃ a : Acc, (stp o mv s).lg = s.lg ++ [a] ∧ a.th = o.th ∧ a.ad = o.ad ∧ a.mv = mv ∧ (∀ k, k ≠ i → (stp o mv s).ws[k]?.getD 0 = s.ws[k]?.getD 0) ∧ (wrt a = true → (stp o mv s).ws[i]?.getD 0 = a.new) ∧ (wrt a = false → (stp o mv s).ws[i]?.getD 0 = s.ws[i]?.getD 0) := by
  have e : stp o mv s = ⟨putA s.ws (mkA o mv s.ws), s.lg ++ [mkA o mv s.ws], if wrt (mkA o mv s.ws) = true then s.ah ++ [s.ws[o.ad.toNat]?.getD 0] else s.ah⟩ := if_pos ⟨by omega, by omega⟩
  have ha : (mkA o mv s.ws).ad.toNat = i := by rw [mkA_ad, hi]; simp
  refine ⟨mkA o mv s.ws, by rw [e], mkA_th _ _ _, mkA_ad _ _ _, mkA_mv _ _ _, fun k hk => ?_, fun hw => ?_, fun hw => ?_⟩
  · rw [e]
    unfold putA
    split
    · rw [ha, List.getElem?_set_ne (fun e => hk e.symm)]
    · rfl
  · rw [e]
    simp only [putA, hw, if_true, ha]
    rw [List.getElem?_set_self hl]
    rfl
  · rw [e]
    simp [putA, hw]
theorem stp_not (o : O) (mv : Int) (s : St) (h : ¬ (0 ≤ o.ad ∧ o.ad < s.ws.length)) : stp o mv s = s := if_neg h
end Go.Proofs.Ytilbkminekojcaa.Me
