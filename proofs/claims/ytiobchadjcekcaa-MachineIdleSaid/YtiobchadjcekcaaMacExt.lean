/-
  THE MACHINE's history: a run of some of the moves and the run of all.
-/
import Derived.Test.YtiobchadjcekcaaMacHist
namespace Go.Proofs.Ytiobchadjcekcaa.Ma
open Go.RowKit Mr Me
/-- Q is what became of P. -/
structure Ext (P Q : Pm) : Prop where
  n : P.n ≤ Q.n
  len : P.cls.length ≤ Q.cls.length
  old : ∀ (c : Nat) (cl : Cl), P.cls[c]? = some cl → ∃ cl', Q.cls[c]? = some cl' ∧ (cl' = cl ∨ (cl.fin = -1 ∧ ∃ (k : Int) (x : Int), (P.n : Int) ≤ k ∧ cl' = ended cl k x))
  new : ∀ (c : Nat) (cl' : Cl), Q.cls[c]? = some cl' → P.cls.length ≤ c → (P.n : Int) ≤ cl'.beg
theorem Ext.refl (P : Pm) : Ext P P := ⟨Nat.le_refl _, Nat.le_refl _, fun _ cl h => ⟨cl, h, .inl rfl⟩, fun c cl h hc => absurd (List.getElem?_eq_some_iff.1 h).1 (by omega)⟩
theorem Ext.trans {P Q R : Pm} (h : Ext P Q) (g : Ext Q R) : Ext P R := by
  refine ⟨Nat.le_trans h.n g.n, Nat.le_trans h.len g.len, fun c cl hc => ?_, fun c cl hc hl => ?_⟩
  · obtain ⟨cl1, h1, h2⟩ := h.old c cl hc
    obtain ⟨cl2, h3, h4⟩ := g.old c cl1 h1
    refine ⟨cl2, h3, ?_⟩
    rcases h2 with rfl | ⟨hf, k, x, hk, rfl⟩
    · rcases h4 with rfl | ⟨hf, k, x, hk, rfl⟩
      · exact .inl rfl
      · exact .inr ⟨hf, k, x, by have := h.n; omega, rfl⟩
    · rcases h4 with rfl | ⟨hf', k', x', hk', rfl⟩
      · exact .inr ⟨hf, k, x, hk, rfl⟩
      · simp only [ended] at hf'
        omega
  · by_cases hq : c < Q.cls.length
    · obtain ⟨cl1, h1⟩ : ∃ cl1, Q.cls[c]? = some cl1 := ⟨_, List.getElem?_eq_getElem hq⟩
      have hb := h.new c cl1 h1 hl
      obtain ⟨cl2, h3, h4⟩ := g.old c cl1 h1
      rw [hc] at h3
      cases h3
      rcases h4 with rfl | ⟨_, k, x, _, rfl⟩
      · exact hb
      · exact hb
    · have := g.new c cl hc (by omega)
      have := h.n
      omega
theorem Ext.ch {P P' : Pm} (h : Ch P P') (hn : P'.n = P.n + 1) : Ext P P' := by
  cases h with
  | none hc hw => exact ⟨by omega, by rw [hc]; exact Nat.le_refl _, fun c cl h => ⟨cl, by rw [hc]; exact h, .inl rfl⟩, fun c cl h hl => absurd (List.getElem?_eq_some_iff.1 h).1 (by rw [hc]; omega)⟩
  | begins b hc hw hb hp hf =>
    refine ⟨by omega, by rw [hc]; simp, fun c cl h => ⟨cl, ?_, .inl rfl⟩, fun c cl h hl => ?_⟩
    · rw [hc, List.getElem?_append_left (List.getElem?_eq_some_iff.1 h).1]; exact h
    · rw [hc, List.getElem?_append_right hl, List.getElem?_singleton] at h
      split at h
      · cases h; omega
      · cases h
  | ends c0 cl0 hcl hf hc hw =>
    refine ⟨by omega, by rw [hc]; simp, fun c cl h => ?_, fun c cl h hl => absurd (List.getElem?_eq_some_iff.1 h).1 (by rw [hc]; simp; omega)⟩
    by_cases e : c0 = c
    · subst e
      rw [hcl] at h
      cases h
      refine ⟨_, by rw [hc]; exact List.getElem?_set_self (List.getElem?_eq_some_iff.1 hcl).1, .inr ⟨hf, _, _, Int.le_refl _, rfl⟩⟩
    · exact ⟨cl, by rw [hc, List.getElem?_set_ne e]; exact h, .inl rfl⟩
theorem Ext.play {P : Pm} (h : Hs P) (ms : List Mv) (hn : P.n + ms.length ≤ 65536) : Ext P (P.play ms) := by
  induction ms generalizing P with
  | nil => exact Ext.refl P
  | cons m ms ih =>
    simp only [List.length_cons] at hn
    have e := move_n P m.th m.op m.arg m.data (by omega)
    have h' := h.move m.th m.op m.arg m.data
    exact (Ext.ch (move_ch h m.th m.op m.arg m.data) e).trans (ih h' (by omega))
/-- The calls whose point is the move k. -/
theorem at_move {P P' Q : Pm} (h : Hs P) (hQ : Hs Q) (hc : Ch P P') (hn : P'.n = P.n + 1) (he : Ext P' Q) :
    ((∀ (c : Nat) (cl : Cl), Q.cls[c]? = some cl → cl.pt ≠ P.n) ∧ P'.ws = P.ws) ∨
    ∃ (c0 : Nat) (cl0 : Cl), Q.cls[c0]? = some (ended cl0 P.n (P.ws[cl0.arg.toNat]?.getD 0)) ∧ P'.ws = bumped P.ws cl0 ∧ ∀ (c : Nat) (cl : Cl), Q.cls[c]? = some cl → c ≠ c0 → cl.pt ≠ P.n := by
  have key : ∀ (c : Nat) (cl : Cl), Q.cls[c]? = some cl → cl.pt = P.n → P'.cls[c]? = some cl := fun c cl hq hp => by
    by_cases hl : c < P'.cls.length
    · obtain ⟨cl1, h1⟩ : ∃ cl1, P'.cls[c]? = some cl1 := ⟨_, List.getElem?_eq_getElem hl⟩
      obtain ⟨cl2, h3, h4⟩ := he.old c cl1 h1
      rw [hq] at h3
      cases h3
      rcases h4 with rfl | ⟨_, k, x, hk, rfl⟩
      · exact h1
      · simp only [ended] at hp
        omega
    · have hb := he.new c cl hq (by omega)
      have hw := (hQ.cl c cl hq).way
      rcases hw with ⟨_, h2, _⟩ | ⟨_, h2, _⟩ <;> omega
  have oldpt : ∀ (c : Nat) (cl : Cl), P.cls[c]? = some cl → cl.pt ≠ P.n := fun c cl hp => by
    have hw := (h.cl c cl hp).way
    rcases hw with ⟨_, h2, _⟩ | ⟨_, _, h2, _⟩ <;> omega
  cases hc with
  | none hc hw => exact .inl ⟨fun c cl hq hp => oldpt c cl (by rw [← hc]; exact key c cl hq hp) hp, hw⟩
  | begins b hc hw hb hp hf =>
    refine .inl ⟨fun c cl hq hp' => ?_, hw⟩
    have k := key c cl hq hp'
    rw [hc, List.getElem?_append] at k
    split at k
    · exact oldpt c cl k hp'
    · rw [List.getElem?_singleton] at k
      split at k
      · cases k; omega
      · cases k
  | ends c0 cl0 hcl hf hc hw =>
    refine .inr ⟨c0, cl0, ?_, hw, fun c cl hq hne hp => ?_⟩
    · have h1 : P'.cls[c0]? = some (ended cl0 P.n (P.ws[cl0.arg.toNat]?.getD 0)) := by rw [hc]; exact List.getElem?_set_self (List.getElem?_eq_some_iff.1 hcl).1
      obtain ⟨cl2, h3, h4⟩ := he.old c0 _ h1
      rcases h4 with rfl | ⟨hf', _⟩
      · exact h3
      · simp only [ended] at hf'
        omega
    · have k := key c cl hq hp
      rw [hc, List.getElem?_set_ne (fun e => hne e.symm)] at k
      exact oldpt c cl k hp
end Go.Proofs.Ytiobchadjcekcaa.Ma
