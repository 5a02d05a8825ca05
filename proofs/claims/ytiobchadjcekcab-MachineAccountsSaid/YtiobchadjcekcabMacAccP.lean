/-
  MachineAccounts, without the model.
-/
import Derived.Test.YtiobchadjcekcabMacMx
namespace Go.Proofs.Ytiobchadjcekcab.Ma
open Go.RowKit Mr Me
def wstep (ws : List Int) (a : Acc) : List Int := if a.kd = 3 ∧ a.old = a.saw then ws.set a.ad.toNat a.new else ws
def wl (ws : List Int) (l : List Acc) : List Int := l.foldl wstep ws
theorem wl_nil (ws : List Int) : wl ws [] = ws := rfl
theorem wl_snoc (ws : List Int) (l : List Acc) (a : Acc) : wl ws (l ++ [a]) = wstep (wl ws l) a := by simp [wl, List.foldl_append]
theorem wl_take (ws : List Int) (l : List Acc) (j : Nat) (a : Acc) (h : l[j]? = some a) : wl ws (l.take (j + 1)) = wstep (wl ws (l.take j)) a := by
  rw [List.take_add_one, h]
  exact wl_snoc _ _ _
theorem wstep_length (ws : List Int) (a : Acc) : (wstep ws a).length = ws.length := by unfold wstep; split <;> simp
theorem wl_length (ws : List Int) (l : List Acc) : (wl ws l).length = ws.length := by
  induction l generalizing ws with
  | nil => rfl
  | cons a l ih => exact (ih (wstep ws a)).trans (wstep_length ws a)
theorem Aw.mx {ws0 : List Int} {P P' : Pm} {m : Mv} {b : Bool} (h : Mx P m P' b) (hw : wl ws0 P.lg = P.ws) : wl ws0 P'.lg = P'.ws := by
  cases h with
  | out h hb e => subst e; exact hw
  | rest t h0 ht hd hb e => subst e; exact hw
  | begins t h0 ht hii hop ha0 ha1 hb e => subst e; exact hw
  | look ad0 fr0 c0 cl h0 ht hop hcl hb e => subst e; simp only; rw [wl_snoc, hw]; unfold wstep; rw [if_neg (by simp)]; rfl
  | load ad0 x0 fr0 c0 cl h0 ht hop hcl hb e => subst e; simp only; rw [wl_snoc, hw]; unfold wstep; rw [if_neg (by simp)]; rfl
  | hit ad0 x0 fr0 c0 cl h0 ht hop hcl hx hb e => subst e; simp only; rw [wl_snoc, hw]; unfold wstep; rw [if_pos (by simp)]; simp
  | miss ad0 x0 fr0 c0 cl h0 ht hop hcl hx hb e => subst e; simp only; rw [wl_snoc, hw]; unfold wstep; rw [if_neg (by simp; exact fun e => hx e.symm)]; rfl
/-- What the law sees of the access number j. -/
structure Ae (ws0 : List Int) (ms : List Mv) (cls : List Cl) (l : List Acc) (j : Nat) (a : Acc) : Prop where
  mv : ∃ k : Nat, a.mv = k ∧ k < ms.length ∧ (ms[k]?.getD noMv).th = a.th ∧ (ms[k]?.getD noMv).op = 0
  ad : ∃ n : Nat, a.ad = n ∧ n < ws0.length ∧ a.saw = (wl ws0 (l.take j))[n]?.getD 0
  kd : (a.kd = 1 ∧ a.old = 0 ∧ a.new = 0) ∨ a.kd = 3
  inc : ∃ (c : Nat) (cl : Cl), cls[c]? = some cl ∧ cl.th = a.th ∧ cl.beg < a.mv ∧ (cl.fin < 0 ∨ a.mv ≤ cl.fin)
  prev : ∀ b, 0 < j → l[j - 1]? = some b → b.mv < a.mv
theorem Ae.append {ws0 : List Int} {ms : List Mv} {cls : List Cl} {l : List Acc} {j : Nat} {a : Acc} (h : Ae ws0 ms cls l j a) (hj : j < l.length) (l' : List Acc) : Ae ws0 ms cls (l ++ l') j a := by
  refine ⟨h.mv, ?_, h.kd, h.inc, fun b h0 hb => h.prev b h0 ?_⟩
  · rw [List.take_append_of_le_length (by omega)]; exact h.ad
  · rw [List.getElem?_append_left (by omega)] at hb; exact hb
section
variable (nth : Nat) (ws : List Int) (ms : List Mv) (hms : ms.length ≤ 65536)
include hms in
theorem pk_aw (k : Nat) (hk : k ≤ ms.length) : wl ws (Pk nth ws ms k).lg = (Pk nth ws ms k).ws := by
  induction k with
  | zero => simp [Pk, Pm.play, Pm.new, wl]
  | succ k ih => exact Aw.mx (pk_mx nth ws ms hms k (by omega)) (ih (by omega))
include hms in
theorem pk_ae (k : Nat) (hk : k ≤ ms.length) : ∀ (j : Nat) (a : Acc), (Pk nth ws ms k).lg[j]? = some a → Ae ws ms ((Pm.new nth ws).play ms).cls (Pk nth ws ms k).lg j a := by
  induction k with
  | zero => intro j a ha; simp [Pk, Pm.play, Pm.new] at ha
  | succ k ih =>
    have ih := ih (by omega)
    have mx := pk_mx nth ws ms hms k (by omega)
    have e := pk_n nth ws ms hms k (by omega)
    have ew := pk_len nth ws ms k
    have hH := pk_hs nth ws ms k
    have ex := pk_ext nth ws ms hms k (by omega)
    have aw := pk_aw nth ws ms hms k (by omega)
    have lo := pk_lo nth ws ms hms k (by omega)
    have hk' : k < ms.length := by omega
    generalize (Pm.new nth ws).play ms = Q at *
    generalize Pk nth ws ms k = P at *
    generalize Pk nth ws ms (k + 1) = P' at *
    have old : ∀ e0 : List Acc, P'.lg = P.lg ++ e0 → ∀ (j : Nat) (a : Acc), P.lg[j]? = some a → Ae ws ms Q.cls P'.lg j a := fun e0 he j a ha => by
      rw [he]
      exact (ih j a ha).append (List.getElem?_eq_some_iff.1 ha).1 _
    have one : ∀ (t : Pt) (a : Acc), 0 ≤ (ms[k]?.getD noMv).th → (ms[k]?.getD noMv).op = 0 → P.pts[(ms[k]?.getD noMv).th.toNat]? = some t → t.tk.busy = true → P'.lg = P.lg ++ [a] → a.mv = P.n → a.th = (ms[k]?.getD noMv).th.toNat → a.ad = t.tk.ad → a.saw = P.ws[t.tk.ad]?.getD 0 → ((a.kd = 1 ∧ a.old = 0 ∧ a.new = 0) ∨ a.kd = 3) → ∀ (j : Nat) (b : Acc), P'.lg[j]? = some b → Ae ws ms Q.cls P'.lg j b := fun t a h0 hop ht hbz hlg hmv hth had hsaw hkd j b hb => by
      rw [hlg, List.getElem?_append] at hb
      split at hb
      · exact old _ hlg j b hb
      · rw [List.getElem?_singleton] at hb
        split at hb
        · cases hb
          have hj : j = P.lg.length := by omega
          subst hj
          obtain ⟨c, cl, hcall, hcl, hf, hcth, hcop, harg, hbeg⟩ := hH.th _ t ht hbz
          have ck := (hH.cl c cl hcl).arg1
          refine ⟨⟨k, by omega, hk', by omega, hop⟩, ⟨t.tk.ad, had, by omega, ?_⟩, hkd, ?_, fun b' h0' hb' => ?_⟩
          · rw [hlg, List.take_left' rfl, aw]; exact hsaw
          · obtain ⟨cl', h3, h4⟩ := ex.old c cl hcl
            refine ⟨c, cl', h3, ?_⟩
            rcases h4 with rfl | ⟨_, kk, x, hkk, rfl⟩
            · exact ⟨by omega, by omega, .inl (by omega)⟩
            · exact ⟨by simp only [ended]; omega, by simp only [ended]; omega, .inr (by simp only [ended]; omega)⟩
          · rw [hlg, List.getElem?_append_left (by omega)] at hb'
            have := lo b' (List.mem_of_getElem? hb')
            omega
        · cases hb
    generalize ms[k]?.getD noMv = m at *
    cases mx with
    | out h hb e => exact fun j a ha => old [] (by subst e; simp [Pm.count]) j a (by subst e; exact ha)
    | rest t h0 ht hd hb e => exact fun j a ha => old [] (by subst e; simp [Pm.count]) j a (by subst e; exact ha)
    | begins t h0 ht hii hop ha0 ha1 hb e => exact fun j a ha => old [] (by subst e; simp [Pm.count]) j a (by subst e; exact ha)
    | look ad0 fr0 c0 cl h0 ht hop hcl hb e => exact one _ _ h0 hop ht rfl (by rw [e]) rfl rfl rfl rfl (.inl ⟨rfl, rfl, rfl⟩)
    | load ad0 x0 fr0 c0 cl h0 ht hop hcl hb e => exact one _ _ h0 hop ht rfl (by rw [e]) rfl rfl rfl rfl (.inl ⟨rfl, rfl, rfl⟩)
    | hit ad0 x0 fr0 c0 cl h0 ht hop hcl hx hb e => exact one _ _ h0 hop ht rfl (by rw [e]) rfl rfl rfl hx.symm (.inr rfl)
    | miss ad0 x0 fr0 c0 cl h0 ht hop hcl hx hb e => exact one _ _ h0 hop ht rfl (by rw [e]) rfl rfl rfl rfl (.inr rfl)
include hms in
theorem play_ae : ∀ (j : Nat) (a : Acc), ((Pm.new nth ws).play ms).lg[j]? = some a → Ae ws ms ((Pm.new nth ws).play ms).cls ((Pm.new nth ws).play ms).lg j a := by
  have := pk_ae nth ws ms hms ms.length (Nat.le_refl _)
  rw [pk_all] at this
  exact this
include hms in
theorem play_aw : wl ws ((Pm.new nth ws).play ms).lg = ((Pm.new nth ws).play ms).ws := by
  have := pk_aw nth ws ms hms ms.length (Nat.le_refl _)
  rw [pk_all] at this
  exact this
end
end Go.Proofs.Ytiobchadjcekcab.Ma
