import Derived.Test.YtmmjdlbeiaoojaaGreatArHonestP
/-
  Each thread's last call is among the calls; how many moves are counted.
-/
namespace Go.Proofs.YtmmjdlbeiaoojaaGreat.Ar
open Go.RowKit Go.Shelf Mr Me Ma Wc Wm Wr
def Cv (P : Pa) : Prop := ∀ (i : Nat) (t : At), P.pts[i]? = some t → t.call ≠ -1 → ∃ c : Nat, t.call = c ∧ c < P.cls.length
section
variable {P : Pa} {b i : Nat}
theorem Cv.step (h : Inv P b) (hb : b < 65536) (hC : Cv P) {t : At} (ht : P.pts[i]? = some t) (now : Int) : Cv (P.step i t now).1 := by
  have hi : i < P.pts.length := (List.getElem?_eq_some_iff.1 ht).1
  cases hk : t.tk with
  | none => simp only [Pa.step, hk]; exact hC
  | some kk =>
    obtain ⟨kd, k⟩ := kk
    have hR := (work_core (now := now) h hb hi (h.th i t kd k ht hk)).1
    simp only [Pa.step, hk]
    have e1 := hR.pts
    have e2 := hR.cls
    generalize P.work i now t.fr kd k = r at *
    cases he : r.2.2 with
    | true =>
      simp only [if_true]
      intro j u hu hc
      have hu' : (r.1.pts.set i ⟨none, false, t.call⟩)[j]? = some u := hu
      show ∃ c : Nat, u.call = c ∧ c < (Pa.setC r.1.cls t.call.toNat now _ _).length
      rw [setC_length, e2]
      rw [e1, List.getElem?_set] at hu'
      split at hu'
      · cases hu'; exact hC i t ht hc
      · exact hC j u hu' hc
    | false =>
      simp only [Bool.false_eq_true, if_false]
      intro j u hu hc
      have hu' : (r.1.pts.set i ⟨some (kd, r.2.1), false, t.call⟩)[j]? = some u := hu
      show ∃ c : Nat, u.call = c ∧ c < r.1.cls.length
      rw [e2]
      rw [e1, List.getElem?_set] at hu'
      split at hu'
      · cases hu'; exact hC i t ht hc
      · exact hC j u hu' hc
theorem Cv.begins (hC : Cv P) (op arg data now : Int) : Cv (P.begins i op arg data now).1 := by
  unfold Pa.begins
  split
  · intro j u hu hc
    rename_i tk _
    have hu' : (P.pts.set i ⟨some tk, true, (P.cls.length : Int)⟩)[j]? = some u := hu
    show ∃ c : Nat, u.call = c ∧ c < (P.cls ++ [(⟨i, op, arg, data, now, -1, -1, 0, 0⟩ : Cl)]).length
    rw [List.length_append]
    rw [List.getElem?_set] at hu'
    split at hu'
    · split at hu'
      · cases hu'; exact ⟨_, rfl, by simp⟩
      · cases hu'
    · obtain ⟨c, h1, h2⟩ := hC j u hu' hc
      exact ⟨c, h1, by simp; omega⟩
  · exact hC
theorem Cv.move (hC : Cv P) (h : Inv P P.n) (th op arg data : Int) : Cv (P.move th op arg data).1 := by
  have hc : Cv P.count := hC
  unfold Pa.move
  split
  · exact hC
  · split
    · split
      · exact hc
      · rename_i t ht
        split
        · exact Cv.step h.count (by omega) hc ht _
        · split
          · exact hc
          · exact hc.begins op arg data _
    · exact hc
theorem Cv.play (ms : List Mv) : ∀ {P : Pa}, Cv P → Inv P P.n → Cv (P.play ms) := by
  induction ms with
  | nil => exact fun h _ => h
  | cons x ms ih => exact fun h hI => ih (h.move hI x.th x.op x.arg x.data) (hI.move _ _ _ _)
theorem Cv.start (m K : Nat) (A : Ao) (nt : Nat) (ws : List Int) : Cv (Pa.new m K A nt ws) := by
  intro j t hu hc
  simp only [Pa.new, List.getElem?_replicate] at hu
  split at hu
  · cases hu; exact absurd rfl hc
  · cases hu
theorem move_n (h : Inv P P.n) (th op arg data : Int) : (P.move th op arg data).1.n ≤ P.n + 1 := by
  unfold Pa.move
  split
  · exact Nat.le_succ _
  · split
    · split
      · exact Nat.le_refl _
      · rename_i t ht
        split
        · obtain ⟨tk, fr, call⟩ := t
          rcases tk with _ | ⟨kd, k⟩
          · exact Nat.le_refl _
          · have hi : th.toNat < P.count.pts.length := (List.getElem?_eq_some_iff.1 ht).1
            have r : (P.count.work th.toNat P.n fr kd k).1.n = P.count.n := (work_core (now := P.n) h.count (by omega) hi (h.count.th _ _ kd k ht rfl)).1.n
            have e : P.count.n = P.n + 1 := rfl
            simp only [Pa.step]
            split
            · show (P.count.work th.toNat P.n fr kd k).1.n ≤ _
              omega
            · show (P.count.work th.toNat P.n fr kd k).1.n ≤ _
              omega
        · split
          · exact Nat.le_refl _
          · unfold Pa.begins
            split <;> exact Nat.le_refl _
    · exact Nat.le_refl _
theorem move_pts (h : Inv P P.n) (th op arg data : Int) : (P.move th op arg data).1.pts.length = P.pts.length := by
  unfold Pa.move
  split
  · rfl
  · split
    · split
      · rfl
      · rename_i t ht
        split
        · obtain ⟨tk, fr, call⟩ := t
          rcases tk with _ | ⟨kd, k⟩
          · rfl
          · have hi : th.toNat < P.count.pts.length := (List.getElem?_eq_some_iff.1 ht).1
            have r : (P.count.work th.toNat P.n fr kd k).1.pts = P.count.pts := (work_core (now := P.n) h.count (by omega) hi (h.count.th _ _ kd k ht rfl)).1.pts
            have e : P.count.pts = P.pts := rfl
            simp only [Pa.step]
            split
            · show ((P.count.work th.toNat P.n fr kd k).1.pts.set _ _).length = _
              rw [List.length_set, r, e]
            · show ((P.count.work th.toNat P.n fr kd k).1.pts.set _ _).length = _
              rw [List.length_set, r, e]
        · split
          · rfl
          · unfold Pa.begins
            split
            · show (P.count.pts.set _ _).length = _
              rw [List.length_set]; rfl
            · rfl
    · rfl
theorem play_more (ms : List Mv) : ∀ {P : Pa}, Inv P P.n → (P.play ms).n ≤ P.n + ms.length ∧ (P.play ms).pts.length = P.pts.length := by
  induction ms with
  | nil => exact fun _ => ⟨Nat.le_refl _, rfl⟩
  | cons x ms ih =>
    intro P hI
    have h1 := ih (hI.move x.th x.op x.arg x.data)
    have h2 := move_n hI x.th x.op x.arg x.data
    have h3 := move_pts hI x.th x.op x.arg x.data
    refine ⟨?_, h1.2.trans h3⟩
    have h4 : ((P.move x.th x.op x.arg x.data).1.play ms).n ≤ (P.move x.th x.op x.arg x.data).1.n + ms.length := h1.1
    show ((P.move x.th x.op x.arg x.data).1.play ms).n ≤ P.n + (ms.length + 1)
    omega
theorem mu_pos (hB : busy P i = true) : 1 ≤ mu P i := by
  unfold busy at hB
  cases ht : P.pts[i]? with
  | none => rw [ht] at hB; cases hB
  | some t =>
    rw [ht] at hB
    cases hk : t.tk with
    | none => simp [hk] at hB
    | some kk =>
      obtain ⟨kd, k⟩ := kk
      have hmu : mu P i = muK P i t.fr kd k := by simp [mu, ht, hk]
      rw [hmu]
      have g1 := muG_le P k
      have g2 := muT_le P k
      cases kd <;> simp only [muK] <;> split <;> omega
end
theorem opAt_eq (P : Pa) (i : Nat) : opAt P i = ((callAt P i).getD ⟨0, 0, 0, 0, 0, 0, 0, 0, 0⟩).op := by
  cases hp : P.pts[i]? with
  | none => simp [opAt, callAt, hp]
  | some t =>
    by_cases hc : t.call = -1
    · simp [opAt, callAt, hp, hc]
    · cases hq : P.cls[t.call.toNat]? <;> simp [opAt, callAt, hp, hc, hq]
end Go.Proofs.YtmmjdlbeiaoojaaGreat.Ar
