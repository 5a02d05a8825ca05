/-
  DequeAlone, pure: a call that is alone ends within seven steps.
-/
import Derived.Test.YtpckcfdjgpdooaaDmPlayP
namespace Go.Proofs.Ytpckcfdjgpdooaa.Dm
open Go.RowKit Go.Shelf Mr Me Ma Gm Dq
set_option linter.unusedVariables false
set_option linter.unusedSimpArgs false
/-- Steps left. -/
def mu (top : Int) : Dt → Nat
  | .push nx _ _ => 5 - nx
  | .take nx _ _ _ => if nx = 4 then 1 else if nx ≤ 3 then 7 - nx else 8 - nx
  | .steal nx t _ => if nx = 1 then 4 else if t = top then 5 - nx else 9 - nx
theorem mu_le {top : Int} {i n : Nat} {k : Dt} (h : Ok i n k) : 1 ≤ mu top k ∧ mu top k ≤ 7 := by
  cases k <;> simp only [Ok] at h <;> simp only [mu]
  · omega
  · split
    · omega
    · split <;> omega
  · split
    · omega
    · split <;> omega
theorem mu_step {r : Nat} {P : Pg Dt Lw} (h : Iv r P) (hn : P.n < 65536) {i : Nat} {t : Pt Dt} {k : Dt} (ht : P.pts[i]? = some t) (hk : t.tk = some k) (now : Int) (fr : Bool) : ∀ k', (stp r fr i now P.ws P.g k).tk = some k' → mu (rd (stp r fr i now P.ws P.g k).ws 0) k' < mu (rd P.ws 0) k := by
  have hok := h.tsk i t k ht hk
  obtain ⟨hl, r1, r2, ⟨t1, t2⟩, ⟨b, b1, b2, b3, b4⟩, _⟩ := h
  have w0 : wrap64 (rd P.ws 0) = rd P.ws 0 := w64_id _ t1 (by omega)
  have l0 : 0 < P.ws.length := by omega
  intro k' e
  cases k with
  | push nx v bt =>
    simp only [Ok] at hok
    obtain rfl | rfl | rfl | rfl : nx = 1 ∨ nx = 2 ∨ nx = 3 ∨ nx = 4 := by omega
    · cases e; show 5 - 2 < 5 - 1; omega
    · by_cases hy : (r : Int) ≤ bt - wrap64 (rd P.ws 0)
      · have e2 : stp r fr i now P.ws P.g (.push 2 v bt) = _ := if_pos hy
        rw [e2] at e; cases e
      · have e2 : stp r fr i now P.ws P.g (.push 2 v bt) = _ := if_neg hy
        rw [e2] at e ⊢; cases e; show 5 - 3 < 5 - 2; omega
    · cases e; show 5 - 4 < 5 - 3; omega
    · cases e
  | take nx l tt v =>
    simp only [Ok] at hok
    obtain rfl | rfl | rfl | rfl | rfl | rfl | rfl : nx = 1 ∨ nx = 2 ∨ nx = 3 ∨ nx = 4 ∨ nx = 5 ∨ nx = 6 ∨ nx = 7 := by omega
    · cases e; simp [mu]
    · cases e; simp [mu]
    · by_cases hy : l < wrap64 (rd P.ws 0)
      · have e2 : stp r fr i now P.ws P.g (.take 3 l tt v) = _ := if_pos hy
        rw [e2] at e ⊢; cases e; simp [mu]
      · have e2 : stp r fr i now P.ws P.g (.take 3 l tt v) = _ := if_neg hy
        rw [e2] at e ⊢; cases e; simp [mu]
    · cases e
    · by_cases hy : tt < l
      · have e2 : stp r fr i now P.ws P.g (.take 5 l tt v) = _ := if_pos hy
        rw [e2] at e; cases e
      · have e2 : stp r fr i now P.ws P.g (.take 5 l tt v) = _ := if_neg hy
        rw [e2] at e ⊢; cases e; simp [mu]
    · by_cases hy : rd P.ws 0 = tt
      · have e2 : stp r fr i now P.ws P.g (.take 6 l tt v) = _ := if_pos hy
        rw [e2] at e ⊢; cases e; simp [mu]
      · have e2 : stp r fr i now P.ws P.g (.take 6 l tt v) = _ := if_neg hy
        rw [e2] at e ⊢; cases e; simp [mu]
    · cases e
  | steal nx tt v =>
    simp only [Ok] at hok
    obtain rfl | rfl | rfl | rfl : nx = 1 ∨ nx = 2 ∨ nx = 3 ∨ nx = 4 := by omega
    · cases e
      show mu (rd P.ws 0) (.steal 2 (wrap64 (rd P.ws 0)) v) < _
      rw [w0]; simp [mu]
    · by_cases hy : wrap64 (rd P.ws 1) - tt ≤ 0
      · have e2 : stp r fr i now P.ws P.g (.steal 2 tt v) = _ := if_pos hy
        rw [e2] at e; cases e
      · have e2 : stp r fr i now P.ws P.g (.steal 2 tt v) = _ := if_neg hy
        rw [e2] at e ⊢; cases e
        show mu (rd P.ws 0) (.steal 3 tt v) < mu (rd P.ws 0) (.steal 2 tt v)
        simp only [mu]
        by_cases hz : tt = rd P.ws 0 <;> simp [hz]
    · cases e
      show mu (rd P.ws 0) (.steal 4 tt _) < mu (rd P.ws 0) (.steal 3 tt v)
      simp only [mu]
      by_cases hz : tt = rd P.ws 0 <;> simp [hz]
    · by_cases hy : rd P.ws 0 = tt
      · have e2 : stp r fr i now P.ws P.g (.steal 4 tt v) = _ := if_pos hy
        rw [e2] at e; cases e
      · have e2 : stp r fr i now P.ws P.g (.steal 4 tt v) = _ := if_neg hy
        rw [e2] at e ⊢; cases e
        show mu (rd P.ws 0) (.steal 1 tt v) < mu (rd P.ws 0) (.steal 4 tt v)
        have hz : ¬ tt = rd P.ws 0 := fun e => hy e.symm
        simp [mu, hz]
/-- Steps left to a thread. -/
def lf (P : Pg Dt Lw) (i : Nat) : Nat := match tkF P.pts i with | some k => mu (rd P.ws 0) k | none => 0
theorem lf_le {r : Nat} {P : Pg Dt Lw} (h : Iv r P) (i : Nat) : lf P i ≤ 7 := by
  unfold lf tkF
  cases ht : P.pts[i]? with
  | none => exact Nat.zero_le _
  | some t =>
    cases hk : t.tk with
    | none => simp [hk]
    | some k => simp only [Option.bind_some, hk]; exact (mu_le (h.tsk i t k ht hk)).2
/-- A step of a thread that is alone. -/
theorem lf_step {r : Nat} {P : Pg Dt Lw} (h : Iv r P) (hn : P.n < 65536) {i : Nat} (hi : i < P.pts.length) (arg data : Int) : lf (P.move (dqY r) (i : Int) 0 arg data).1 i ≤ lf P i - 1 := by
  obtain ⟨t, ht⟩ : ∃ t, P.pts[i]? = some t := ⟨_, List.getElem?_eq_getElem hi⟩
  have em : P.move (dqY r) (i : Int) 0 arg data = P.count.step (dqY r) i t P.n := by
    unfold Pg.move
    rw [if_neg (by omega), if_pos ⟨by omega, by omega⟩, Int.toNat_natCast, ht]
    rfl
  rw [em]
  cases hk : t.tk with
  | none =>
    have e : P.count.step (dqY r) i t P.n = (P.count, false) := by simp [Pg.step, hk]
    have e0 : lf P i = 0 := by unfold lf; rw [tkF_at ht, hk]
    have e1 : lf P.count i = lf P i := rfl
    rw [e]; show lf P.count i ≤ _; omega
  | some k =>
    have e : P.count.step (dqY r) i t P.n = (P.count.stepE i t P.n (stp r t.fr i P.n P.ws P.g k), true) := by simp [Pg.step, hk, Pg.count, dqY]
    have e0 : lf P i = mu (rd P.ws 0) k := by unfold lf; rw [tkF_at ht, hk]
    have ms := mu_step h hn ht hk P.n t.fr
    rw [e]
    generalize stp r t.fr i P.n P.ws P.g k = ef at *
    show lf (P.count.stepE i t P.n ef) i ≤ _
    rw [e0]
    have hs : ∀ u : Pt Dt, tkF (P.pts.set i u) i = u.tk := fun u => by rw [tkF_set _ _ _ hi, upd_same]
    unfold Pg.stepE
    cases he : ef.tk with
    | some k' =>
      have := ms k' he
      unfold lf
      show (match tkF (P.pts.set i _) i with | some k => mu (rd ef.ws 0) k | none => 0) ≤ _
      rw [hs]
      show mu (rd ef.ws 0) k' ≤ _
      omega
    | none =>
      unfold lf
      show (match tkF (P.pts.set i _) i with | some k => mu (rd ef.ws 0) k | none => 0) ≤ _
      rw [hs]
      exact Nat.zero_le _
/-- n steps. -/
def stN (r : Nat) (P : Pg Dt Lw) (i : Nat) : Nat → Pg Dt Lw
  | 0 => P
  | n + 1 => ((stN r P i n).move (dqY r) (i : Int) 0 0 0).1
theorem stN_succ (r : Nat) (P : Pg Dt Lw) (i n : Nat) : stN r P i (n + 1) = ((stN r P i n).move (dqY r) (i : Int) 0 0 0).1 := rfl
theorem stN_all {r : Nat} {P : Pg Dt Lw} (h : Iv r P) (hb : Bd P) {i : Nat} (hi : i < P.pts.length) (n : Nat) (hn : P.n + n ≤ 65536) : Iv r (stN r P i n) ∧ Bd (stN r P i n) ∧ (stN r P i n).pts.length = P.pts.length ∧ (stN r P i n).n ≤ P.n + n ∧ lf (stN r P i n) i ≤ lf P i - n := by
  induction n with
  | zero => exact ⟨h, hb, rfl, Nat.le_refl _, Nat.le_refl _⟩
  | succ n ih =>
    obtain ⟨h1, h2, h3, h4, h5⟩ := ih (by omega)
    rw [stN_succ]
    generalize stN r P i n = Q at *
    have e1 := mv_n (r := r) Q (i : Int) 0 0 0
    have e2 := lf_step h1 (by omega) (i := i) (by omega) 0 0
    exact ⟨h1.move _ _ _ _, mv_bd h2 _ _ _ _, (move_pts _ _ _ _ _).trans h3, by omega, by omega⟩
/-- After seven the thread is in no call. -/
theorem st7 {r : Nat} {P : Pg Dt Lw} (h : Iv r P) (hb : Bd P) {i : Nat} (hi : i < P.pts.length) (hn : P.n + 7 ≤ 65536) : tkF (stN r P i 7).pts i = none := by
  obtain ⟨h1, h2, h3, h4, h5⟩ := stN_all h hb hi 7 hn
  have h6 := lf_le h i
  generalize stN r P i 7 = Q at *
  have h7 : lf Q i = 0 := by omega
  obtain ⟨t, ht⟩ : ∃ t, Q.pts[i]? = some t := ⟨_, List.getElem?_eq_getElem (by omega)⟩
  rw [tkF_at ht]
  cases hk : t.tk with
  | none => rfl
  | some k =>
    have e0 : lf Q i = mu (rd Q.ws 0) k := by unfold lf; rw [tkF_at ht, hk]
    have := (mu_le (top := rd Q.ws 0) (h1.tsk i t k ht hk)).1
    omega
end Go.Proofs.Ytpckcfdjgpdooaa.Dm
