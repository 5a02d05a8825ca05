/-
  CHAINS, told purely: the program's way along them and the document's.
-/
import Derived.Test.YtdggempcfmihpaaWordPlain
namespace Go.Proofs.Ytdggempcfmihpaa.Pl
open Wp
/-- A word's slot, its mark; whether it may stand in a chain. -/
def nxt (x : Int) : Int := x % 4294967296 - 1
def mkd (x : Int) : Bool := x / 4294967296 % 2 == 1
def okl (m : Bool) (x : Int) : Bool := isLinkB x && (m || !mkd x)
/-- A view's state: of each slot whether one has come to it; whether something was odd. -/
structure Vs where
  cm : List Bool
  od : Bool
def Vs.bad (v : Vs) : Vs := ⟨v.cm, true⟩
def Vs.put (v : Vs) (s : Nat) : Vs := ⟨v.cm.set s true, v.od⟩
def Vs.ent (v : Vs) (s : Int) : Int × Vs := if s = -1 then (-1, v) else if v.cm[s.toNat]? = some false then (s, v.put s.toNat) else (-1, v.bad)
def Vs.fol (v : Vs) (m : Bool) (x : Int) : Int × Bool × Vs := if okl m x then ((v.ent (nxt x)).1, mkd x, (v.ent (nxt x)).2) else (-1, false, v.bad)
/-- The program's way. -/
def alg (wd : Nat → Int) (m : Bool) : Nat → Vs → Int → List (Int × Bool) × Vs
  | 0, v, _ => ([], v)
  | k + 1, v, s => if s = -1 then ([], v) else ((s, (v.fol m (wd s.toNat)).2.1) :: (alg wd m k (v.fol m (wd s.toNat)).2.2 (v.fol m (wd s.toNat)).1).1, (alg wd m k (v.fol m (wd s.toNat)).2.2 (v.fol m (wd s.toNat)).1).2)
/-- The document's. -/
def rch (wd : Nat → Int) (m : Bool) : Nat → List Bool → Int → Option (List Int) × List Bool
  | 0, sn, _ => (none, sn)
  | k + 1, sn, s => if s < 0 then (some [], sn) else if sn[s.toNat]? = some false then
      (if okl m (wd s.toNat) then ((rch wd m k (sn.set s.toNat true) (nxt (wd s.toNat))).1.map (s :: ·), (rch wd m k (sn.set s.toNat true) (nxt (wd s.toNat))).2) else (none, sn.set s.toNat true)) else (none, sn)
theorem nxt_ge (x : Int) (_h : 0 ≤ x) : -1 ≤ nxt x := by unfold nxt; omega
theorem nxt_le (x : Int) : nxt x ≤ 4294967294 := by unfold nxt; omega
theorem count_put (l : List Bool) (s : Nat) (h : l[s]? = some false) : (l.set s true).count false + 1 = l.count false := by
  induction l generalizing s with
  | nil => simp at h
  | cons b l ih =>
    cases s with
    | zero => simp at h; subst h; simp
    | succ s => simp at h; have := ih s h; cases b <;> simp <;> omega
theorem alg_end (wd : Nat → Int) (m : Bool) (k : Nat) (v : Vs) : alg wd m k v (-1) = ([], v) := by cases k <;> simp [alg]
theorem rch_end (wd : Nat → Int) (m : Bool) (k : Nat) (sn : List Bool) (s : Int) (h : s < 0) : rch wd m (k + 1) sn s = (some [], sn) := by simp [rch, h]
/-- Both ways: the document's list, or something is odd. -/
theorem both (wd : Nat → Int) (hwd : ∀ j, 0 ≤ wd j) (m : Bool) : ∀ (k : Nat) (v : Vs) (s : Int), 0 ≤ s → v.cm[s.toNat]? = some false → v.cm.count false ≤ k →
    (∃ l, (rch wd m (k + 1) v.cm s).1 = some l ∧ (alg wd m (k + 1) (v.put s.toNat) s).1.map Prod.fst = l ∧ (alg wd m (k + 1) (v.put s.toNat) s).2 = ⟨(rch wd m (k + 1) v.cm s).2, v.od⟩) ∨
    ((rch wd m (k + 1) v.cm s).1 = none ∧ (alg wd m (k + 1) (v.put s.toNat) s).2.od = true) := by
  intro k
  induction k with
  | zero =>
    intro v s h0 hf hc
    have := count_put _ _ hf
    omega
  | succ k ih =>
    intro v s h0 hf hc
    have e1 : ¬ s < 0 := by omega
    have e2 : ¬ s = -1 := by omega
    have hct := count_put _ _ hf
    rw [rch, alg]
    simp only [e1, e2, hf, if_false, if_true]
    by_cases ho : okl m (wd s.toNat) = true
    · simp only [ho, if_true, Vs.fol]
      have hg := nxt_ge (wd s.toNat) (hwd _)
      generalize nxt (wd s.toNat) = t at *
      by_cases ht : t = -1
      · subst ht
        simp only [Vs.ent, if_true, alg_end, rch_end _ _ _ _ (-1) (by decide)]
        exact .inl ⟨[s], rfl, rfl, rfl⟩
      · have ht0 : 0 ≤ t := by omega
        by_cases hq : (v.put s.toNat).cm[t.toNat]? = some false
        · simp only [Vs.ent, ht, hq, if_false, if_true]
          rcases ih (v.put s.toNat) t ht0 hq (by show (v.cm.set s.toNat true).count false ≤ k; omega) with ⟨l, r1, r2, r3⟩ | ⟨r1, r2⟩
          · refine .inl ⟨s :: l, ?_, by rw [List.map_cons, r2], ?_⟩
            · show Option.map _ (rch wd m (k + 1) (v.put s.toNat).cm t).1 = _
              rw [r1]; rfl
            · rw [r3]; rfl
          · refine .inr ⟨?_, r2⟩
            show Option.map _ (rch wd m (k + 1) (v.put s.toNat).cm t).1 = _
            rw [r1]; rfl
        · simp only [Vs.ent, ht, hq, if_false, alg_end]
          refine .inr ⟨?_, rfl⟩
          have : ¬ t < 0 := by omega
          show Option.map _ (rch wd m (k + 1) (v.put s.toNat).cm t).1 = _
          rw [rch]
          simp only [this, hq, if_false]; rfl
    · simp only [ho, Vs.fol]
      exact .inr ⟨by simp, by simp [Vs.bad, alg_end]⟩
theorem cm_len_ent (v : Vs) (s : Int) : (v.ent s).2.cm.length = v.cm.length := by
  unfold Vs.ent; split
  · rfl
  · split <;> simp [Vs.put, Vs.bad]
theorem cm_len_fol (v : Vs) (m : Bool) (x : Int) : (v.fol m x).2.2.cm.length = v.cm.length := by
  unfold Vs.fol; split
  · exact cm_len_ent _ _
  · rfl
theorem cm_len_alg (wd : Nat → Int) (m : Bool) : ∀ (k : Nat) (v : Vs) (s : Int), (alg wd m k v s).2.cm.length = v.cm.length := by
  intro k
  induction k with
  | zero => intro v s; rfl
  | succ k ih =>
    intro v s
    rw [alg]; split
    · rfl
    · exact (ih _ _).trans (cm_len_fol _ _ _)
/-- What comes next is -1 or a slot that there is, and then there is one less that has not come. -/
theorem ent_step (v : Vs) (s : Int) (h : -1 ≤ s) : ((v.ent s).1 = -1 ∧ ((v.ent s).2 = v ∧ s = -1 ∨ (v.ent s).2 = v.bad)) ∨ (0 ≤ s ∧ (v.ent s).1 = s ∧ v.cm[s.toNat]? = some false ∧ (v.ent s).2 = v.put s.toNat) := by
  unfold Vs.ent
  by_cases h1 : s = -1
  · simp [h1]
  · by_cases h2 : v.cm[s.toNat]? = some false
    · refine .inr ⟨by omega, ?_, h2, ?_⟩ <;> rw [if_neg h1, if_pos h2]
    · refine .inl ⟨?_, .inr ?_⟩ <;> rw [if_neg h1, if_neg h2]
end Go.Proofs.Ytdggempcfmihpaa.Pl
