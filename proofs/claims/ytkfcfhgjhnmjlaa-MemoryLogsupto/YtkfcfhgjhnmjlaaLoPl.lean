/-
  A script's state in the form that Back takes back (the pure part of MemTwo).
-/
import Derived.Test.YtkfcfhgjhnmjlaaMemBack
namespace Go.Proofs.Ytkfcfhgjhnmjlaa.Me
open Go.RowKit Mr
set_option linter.unusedVariables false
def runF (s : St) (os : List O) : St := os.foldl (fun s o => stp o 0 s) s
theorem runF_snoc (s : St) (os : List O) (i : Nat) (hi : i < os.length) : runF s (os.take (i + 1)) = stp (os[i]?.getD noO) 0 (runF s (os.take i)) := by
  unfold runF
  rw [List.take_add_one, List.foldl_append]
  simp [hi]
/-- A state that is its log's. -/
structure Pl (ws0 : List Int) (s : St) : Prop where
  ws : s.ws = (play ws0 s.lg).1
  ah : s.ah = (play ws0 s.lg).2
  ok : ∀ a ∈ s.lg, 0 ≤ a.ad ∧ a.ad < ws0.length
theorem Pl.zero (ws0 : List Int) : Pl ws0 ⟨ws0, [], []⟩ := ⟨rfl, rfl, fun a ha => by simp at ha⟩
theorem Pl.stp {ws0 : List Int} {s : St} (h : Pl ws0 s) (o : O) (mv : Int) : Pl ws0 (stp o mv s) := by
  have hl : s.ws.length = ws0.length := by rw [h.ws, play_length]
  unfold Me.stp
  split
  · rename_i hin
    have e : (mkA o mv s.ws).ad = o.ad := mkA_ad o mv s.ws
    refine ⟨?_, ?_, ?_⟩
    · simp only [play_snoc, putA]
      rw [← h.ws]
      split
      · rfl
      · exact h.ws
    · simp only [play_snoc]
      rw [← h.ws, ← h.ah, e]
      split
      · rfl
      · exact h.ah
    · intro a ha
      rcases List.mem_append.1 ha with ha | ha
      · exact h.ok a ha
      · simp at ha
        subst ha
        rw [e]
        exact ⟨hin.1, by omega⟩
  · exact h
theorem Pl.runF {ws0 : List Int} {s : St} (h : Pl ws0 s) (os : List O) : Pl ws0 (runF s os) := by
  unfold Me.runF
  induction os generalizing s with
  | nil => exact h
  | cons o l ih => exact ih (h.stp o 0)
theorem Pl.len {ws0 : List Int} {s : St} (h : Pl ws0 s) : s.ws.length = ws0.length := by rw [h.ws, play_length]
theorem Pl.ahl {ws0 : List Int} {s : St} (h : Pl ws0 s) : s.ah.length ≤ s.lg.length := by rw [h.ah]; exact play_ah_le _ _
theorem runF_lg (s : St) (os : List O) : ∃ l, (runF s os).lg = s.lg ++ l ∧ l.length ≤ os.length := by
  unfold runF
  induction os generalizing s with
  | nil => exact ⟨[], by simp, by simp⟩
  | cons o l ih =>
    obtain ⟨l', h1, h2⟩ := ih (stp o 0 s)
    have : ∃ l'', (stp o 0 s).lg = s.lg ++ l'' ∧ l''.length ≤ 1 := by
      unfold stp
      split
      · exact ⟨[_], rfl, by simp⟩
      · exact ⟨[], by simp, by simp⟩
    obtain ⟨l'', h3, h4⟩ := this
    refine ⟨l'' ++ l', by rw [List.foldl_cons, h1, h3, List.append_assoc], by simp; omega⟩
/-- A state taken back. -/
theorem Pl.back {ws0 : List Int} {s t : St} (hs : Pl ws0 s) (l : List Acc) (ht : t.lg = s.lg ++ l) : (⟨(play ws0 (t.lg.take s.lg.length)).1, t.lg.take s.lg.length, (play ws0 (t.lg.take s.lg.length)).2⟩ : St) = s := by
  have e : t.lg.take s.lg.length = s.lg := by rw [ht]; exact List.take_left
  rw [e, ← hs.ws, ← hs.ah]
theorem roomy_small {ws0 : List Int} {s : St} (h : Pl ws0 s) (hn : s.lg.length ≤ 10000000) : Roomy s.lg s.ah := by
  have := h.ahl
  exact ⟨by omega, by omega⟩

end Go.Proofs.Ytkfcfhgjhnmjlaa.Me
