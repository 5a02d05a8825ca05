/-
  MachineFails, without the model.
-/
import Derived.Test.YtiobchadjcekcaaMacMx
namespace Go.Proofs.Ytiobchadjcekcaa.Ma
open Go.RowKit Mr Me
def won (b : Acc) (ad : Int) : Bool := b.kd == 3 && (b.ad == ad && b.saw == b.old)
/-- Behind the thread's last entry another one's swap of that word has succeeded. -/
def ov (l : List Acc) (th ad : Int) : Bool := (l.reverse.takeWhile (fun b => b.th != th)).any (fun b => won b ad)
theorem ov_snoc (l : List Acc) (e : Acc) (th ad : Int) : ov (l ++ [e]) th ad = if e.th = th then false else (won e ad || ov l th ad) := by
  unfold ov
  rw [List.reverse_append]
  simp only [List.reverse_cons, List.reverse_nil, List.nil_append, List.singleton_append, List.takeWhile_cons]
  split
  · rename_i h
    rw [if_neg (by simpa using h)]
    rfl
  · rename_i h
    rw [if_pos (by simpa using h)]
    rfl
theorem ov_nil (th ad : Int) : ov [] th ad = false := rfl
/-- What a thread that is about to swap knows. -/
def Iv (P : Pm) : Prop := ∀ (i : Nat) (ad : Nat) (x : Int) (fr : Bool) (c : Int), P.pts[i]? = some ⟨.bump ad x true, fr, c⟩ → P.ws[ad]?.getD 0 = x ∨ ov P.lg i ad = true
/-- Every call that has not ended is its thread's. -/
def Cv (P : Pm) : Prop := ∀ (c : Nat) (cl : Cl), P.cls[c]? = some cl → cl.fin = -1 → ∃ (i : Nat) (t : Pt), cl.th = i ∧ P.pts[i]? = some t ∧ t.tk.busy = true ∧ t.call = c
theorem Iv.mx {P P' : Pm} {m : Mv} {b : Bool} (h : Mx P m P' b) (hi : Iv P) : Iv P' := by
  cases h with
  | out h hb e => subst e; exact hi
  | rest t h0 ht hd hb e => subst e; exact hi
  | begins t h0 ht hii hop ha0 ha1 hb e =>
    subst e
    intro i ad x fr c hp
    rcases set_get hp with ⟨_, e⟩ | ⟨_, hp⟩
    · simp only [Pt.mk.injEq] at e
      have := e.1
      split at this <;> simp at this
    · exact hi i ad x fr c hp
  | look ad0 fr0 c0 cl h0 ht hop hcl hb e =>
    subst e
    intro i ad x fr c hp
    rcases set_get hp with ⟨_, e⟩ | ⟨hne, hp⟩
    · simp at e
    · rcases hi i ad x fr c hp with h | h
      · exact .inl h
      · exact .inr (by simp only; rw [ov_snoc, if_neg (by simp only; omega), h, Bool.or_true])
  | load ad0 x0 fr0 c0 cl h0 ht hop hcl hb e =>
    subst e
    intro i ad x fr c hp
    rcases set_get hp with ⟨_, e⟩ | ⟨hne, hp⟩
    · simp only [Pt.mk.injEq, PT.bump.injEq] at e
      obtain ⟨⟨rfl, rfl, _⟩, _⟩ := e
      exact .inl rfl
    · rcases hi i ad x fr c hp with h | h
      · exact .inl h
      · exact .inr (by simp only; rw [ov_snoc, if_neg (by simp only; omega), h, Bool.or_true])
  | hit ad0 x0 fr0 c0 cl h0 ht hop hcl hx hb e =>
    subst e
    intro i ad x fr c hp
    rcases set_get hp with ⟨_, e⟩ | ⟨hne, hp⟩
    · simp at e
    · by_cases ha : ad0 = ad
      · exact .inr (by simp only; rw [ov_snoc, if_neg (by simp only; omega)]; simp [won, ha])
      · rcases hi i ad x fr c hp with h | h
        · exact .inl (by simp only; rw [List.getElem?_set_ne ha]; exact h)
        · exact .inr (by simp only; rw [ov_snoc, if_neg (by simp only; omega), h, Bool.or_true])
  | miss ad0 x0 fr0 c0 cl h0 ht hop hcl hx hb e =>
    subst e
    intro i ad x fr c hp
    rcases set_get hp with ⟨_, e⟩ | ⟨hne, hp⟩
    · simp at e
    · rcases hi i ad x fr c hp with h | h
      · exact .inl h
      · exact .inr (by simp only; rw [ov_snoc, if_neg (by simp only; omega), h, Bool.or_true])
/-- A failing swap was overtaken. -/
def Fl (l : List Acc) : Prop := ∀ (j : Nat) (a : Acc), l[j]? = some a → a.kd = 3 → a.saw ≠ a.old → ov (l.take j) a.th a.ad = true
theorem Fl.snoc {l : List Acc} {e : Acc} (h : Fl l) (he : e.kd = 3 → e.saw ≠ e.old → ov l e.th e.ad = true) : Fl (l ++ [e]) := by
  intro j a ha hk hs
  rw [List.getElem?_append] at ha
  split at ha
  · rename_i hj
    rw [List.take_append_of_le_length (by omega)]
    exact h j a ha hk hs
  · rename_i hj
    rw [List.getElem?_singleton] at ha
    split at ha
    · cases ha
      have : j = l.length := by omega
      subst this
      rw [List.take_left']
      · exact he hk hs
      · rfl
    · cases ha
theorem Fl.mx {P P' : Pm} {m : Mv} {b : Bool} (h : Mx P m P' b) (hi : Iv P) (hf : Fl P.lg) : Fl P'.lg := by
  cases h with
  | out h hb e => subst e; exact hf
  | rest t h0 ht hd hb e => subst e; exact hf
  | begins t h0 ht hii hop ha0 ha1 hb e => subst e; exact hf
  | look ad0 fr0 c0 cl h0 ht hop hcl hb e => subst e; exact hf.snoc (fun h _ => by simp at h)
  | load ad0 x0 fr0 c0 cl h0 ht hop hcl hb e => subst e; exact hf.snoc (fun h _ => by simp at h)
  | hit ad0 x0 fr0 c0 cl h0 ht hop hcl hx hb e => subst e; exact hf.snoc (fun _ h => by simp at h)
  | miss ad0 x0 fr0 c0 cl h0 ht hop hcl hx hb e =>
    subst e
    refine hf.snoc (fun _ h => ?_)
    rcases hi _ ad0 x0 fr0 c0 ht with h | h
    · exact absurd h hx
    · exact h
theorem Cv.mx {P P' : Pm} {m : Mv} {b : Bool} (h : Mx P m P' b) (hv : Cv P) : Cv P' := by
  have other : ∀ (tn c0 : Nat) (t0 t' : Pt), P.pts[tn]? = some t0 → t0.call = c0 → ∀ (c : Nat) (cl : Cl), P.cls[c]? = some cl → cl.fin = -1 → c ≠ c0 → ∃ (i : Nat) (t : Pt), cl.th = i ∧ (P.pts.set tn t')[i]? = some t ∧ t.tk.busy = true ∧ t.call = c := fun tn c0 t0 t' h0 hc0 c cl hcl hf hne => by
    obtain ⟨i, t, h1, h2, h3, h4⟩ := hv c cl hcl hf
    refine ⟨i, t, h1, ?_, h3, h4⟩
    rw [List.getElem?_set_ne]
    · exact h2
    · intro e
      subst e
      rw [h0] at h2
      cases h2
      omega
  have same : ∀ (tn c0 : Nat) (t0 t' : Pt), P.pts[tn]? = some t0 → t0.call = c0 → t'.call = c0 → t'.tk.busy = true → ∀ (c : Nat) (cl : Cl), P.cls[c]? = some cl → cl.fin = -1 → ∃ (i : Nat) (t : Pt), cl.th = i ∧ (P.pts.set tn t')[i]? = some t ∧ t.tk.busy = true ∧ t.call = c := fun tn c0 t0 t' h0 hc0 hc1 hb c cl hcl hf => by
    by_cases hne : c = c0
    · obtain ⟨i, t, h1, h2, h3, h4⟩ := hv c cl hcl hf
      by_cases e : tn = i
      · subst e
        exact ⟨tn, t', h1, List.getElem?_set_self (List.getElem?_eq_some_iff.1 h2).1, hb, by omega⟩
      · exact ⟨i, t, h1, by rw [List.getElem?_set_ne e]; exact h2, h3, h4⟩
    · exact other tn c0 t0 t' h0 hc0 c cl hcl hf hne
  cases h with
  | out h hb e => subst e; exact hv
  | rest t h0 ht hd hb e => subst e; exact hv
  | begins t h0 ht hii hop ha0 ha1 hb e =>
    subst e
    intro c cl hcl hf
    simp only at hcl ⊢
    rw [List.getElem?_append] at hcl
    split at hcl
    · obtain ⟨i, u, h1, h2, h3, h4⟩ := hv c cl hcl hf
      refine ⟨i, u, h1, ?_, h3, h4⟩
      rw [List.getElem?_set_ne]
      · exact h2
      · intro e
        subst e
        rw [ht] at h2
        cases h2
        rw [hii] at h3
        cases h3
    · rename_i hj
      rw [List.getElem?_singleton] at hcl
      split at hcl
      · cases hcl
        refine ⟨m.th.toNat, _, rfl, List.getElem?_set_self (List.getElem?_eq_some_iff.1 ht).1, ?_, ?_⟩
        · simp only; split <;> rfl
        · simp only; omega
      · cases hcl
  | look ad0 fr0 c0 cl0 h0 ht hop hcl0 hb e =>
    subst e
    intro c cl hcl hf
    rcases set_get hcl with ⟨_, e⟩ | ⟨hne, hcl⟩
    · subst e
      simp only [ended] at hf
      omega
    · exact other _ c0 _ _ ht rfl c cl hcl hf hne
  | load ad0 x0 fr0 c0 cl0 h0 ht hop hcl0 hb e =>
    subst e
    exact fun c cl hcl hf => same _ c0 _ _ ht rfl rfl rfl c cl hcl hf
  | hit ad0 x0 fr0 c0 cl0 h0 ht hop hcl0 hx hb e =>
    subst e
    intro c cl hcl hf
    rcases set_get hcl with ⟨_, e⟩ | ⟨hne, hcl⟩
    · subst e
      simp only [ended] at hf
      omega
    · exact other _ c0 _ _ ht rfl c cl hcl hf hne
  | miss ad0 x0 fr0 c0 cl0 h0 ht hop hcl0 hx hb e =>
    subst e
    exact fun c cl hcl hf => same _ c0 _ _ ht rfl rfl rfl c cl hcl hf
theorem play_ivc {P : Pm} (h : Hs P) (ms : List Mv) (hn : P.n + ms.length ≤ 65536) (hi : Iv P) (hf : Fl P.lg) (hc : Cv P) : Iv (P.play ms) ∧ Fl (P.play ms).lg ∧ Cv (P.play ms) := by
  induction ms generalizing P with
  | nil => exact ⟨hi, hf, hc⟩
  | cons m ms ih =>
    simp only [List.length_cons] at hn
    have mx := move_mx h m (by omega)
    have e := mx_n mx
    exact ih (P := (P.move m.th m.op m.arg m.data).1) (h.move m.th m.op m.arg m.data) (by omega) (Iv.mx mx hi) (Fl.mx mx hi hf) (Cv.mx mx hc)
theorem new_ivc (nth : Nat) (ws : List Int) : Iv (Pm.new nth ws) ∧ Fl (Pm.new nth ws).lg ∧ Cv (Pm.new nth ws) := by
  refine ⟨fun i ad x fr c hp => ?_, fun j a ha => by simp [Pm.new] at ha, fun c cl hc => by simp [Pm.new] at hc⟩
  simp only [Pm.new, List.getElem?_replicate] at hp
  split at hp <;> simp at hp
/-- The thread's step. -/
theorem own_step {P : Pm} (h : Hs P) (i : Nat) (t : Pt) (ht : P.pts[i]? = some t) (hn : P.n < 65536) : ∃ t', (P.move i 0 0 0).1.pts[i]? = some t' ∧
    (match t.tk with | .idle => t'.tk = .idle | .look _ => t'.tk = .idle | .bump ad _ false => t'.tk = .bump ad (P.ws[ad]?.getD 0) true ∧ (P.move i 0 0 0).1.ws = P.ws | .bump ad x true => (P.ws[ad]?.getD 0 = x ∧ t'.tk = .idle) ∨ (P.ws[ad]?.getD 0 ≠ x ∧ t'.tk = .bump ad x false)) := by
  have mx := move_mx h ⟨i, 0, 0, 0⟩ hn
  have hlt : i < P.pts.length := (List.getElem?_eq_some_iff.1 ht).1
  simp only at mx
  generalize (P.move i 0 0 0).1 = P' at *
  cases mx with
  | out h hb e => exact absurd ⟨by simp, by simpa using hlt⟩ h
  | rest u h0 hu hd hb e =>
    simp only [Int.toNat_natCast] at hu
    rw [ht] at hu
    cases hu
    subst e
    refine ⟨t, ht, ?_⟩
    have hb : t.tk.busy = false := by
      cases hbz : t.tk.busy with
      | false => rfl
      | true => exact absurd (.inl ⟨rfl, hbz⟩) hd
    obtain ⟨tk, fr, c⟩ := t
    cases tk with
    | idle => rfl
    | look ad => cases hb
    | bump ad x ld => cases hb
  | begins u h0 hu hi hop ha0 ha1 hb e => simp at hop
  | look ad fr c cl h0 hu hop hcl hb e =>
    simp only [Int.toNat_natCast] at hu e
    rw [ht] at hu
    cases hu
    subst e
    exact ⟨_, List.getElem?_set_self hlt, rfl⟩
  | load ad x fr c cl h0 hu hop hcl hb e =>
    simp only [Int.toNat_natCast] at hu e
    rw [ht] at hu
    cases hu
    subst e
    exact ⟨_, List.getElem?_set_self hlt, rfl, rfl⟩
  | hit ad x fr c cl h0 hu hop hcl hx hb e =>
    simp only [Int.toNat_natCast] at hu e
    rw [ht] at hu
    cases hu
    subst e
    exact ⟨_, List.getElem?_set_self hlt, .inl ⟨hx, rfl⟩⟩
  | miss ad x fr c cl h0 hu hop hcl hx hb e =>
    simp only [Int.toNat_natCast] at hu e
    rw [ht] at hu
    cases hu
    subst e
    exact ⟨_, List.getElem?_set_self hlt, .inr ⟨hx, rfl⟩⟩
theorem alone3 {P : Pm} (h : Hs P) (i : Nat) (hi : i < P.pts.length) (hn : P.n + 3 ≤ 65536) : ∃ t, (P.play [⟨i, 0, 0, 0⟩, ⟨i, 0, 0, 0⟩, ⟨i, 0, 0, 0⟩]).pts[i]? = some t ∧ t.tk = .idle := by
  obtain ⟨t, ht⟩ : ∃ t, P.pts[i]? = some t := ⟨_, List.getElem?_eq_getElem hi⟩
  have n1 := move_n P i 0 0 0 (by omega)
  have h1 := h.move i 0 0 0
  obtain ⟨t1, e1, k1⟩ := own_step h i t ht (by omega)
  have n2 := move_n (P.move i 0 0 0).1 i 0 0 0 (by omega)
  have h2 := h1.move i 0 0 0
  obtain ⟨t2, e2, k2⟩ := own_step h1 i t1 e1 (by omega)
  obtain ⟨t3, e3, k3⟩ := own_step h2 i t2 e2 (by omega)
  refine ⟨t3, e3, ?_⟩
  cases htk : t.tk with
  | idle => simp only [htk] at k1; simp only [k1] at k2; simp only [k2] at k3; exact k3
  | look ad => simp only [htk] at k1; simp only [k1] at k2; simp only [k2] at k3; exact k3
  | bump ad x ld =>
    cases ld with
    | false =>
      simp only [htk] at k1
      obtain ⟨k1, kw⟩ := k1
      simp only [k1] at k2
      rw [kw] at k2
      rcases k2 with ⟨_, k2⟩ | ⟨hne, _⟩
      · simp only [k2] at k3; exact k3
      · exact absurd rfl hne
    | true =>
      simp only [htk] at k1
      rcases k1 with ⟨_, k1⟩ | ⟨_, k1⟩
      · simp only [k1] at k2; simp only [k2] at k3; exact k3
      · simp only [k1] at k2
        obtain ⟨k2, kw⟩ := k2
        simp only [k2] at k3
        rw [kw] at k3
        rcases k3 with ⟨_, k3⟩ | ⟨hne, _⟩
        · exact k3
        · exact absurd rfl hne
end Go.Proofs.Ytiobchadjcekcaa.Ma
