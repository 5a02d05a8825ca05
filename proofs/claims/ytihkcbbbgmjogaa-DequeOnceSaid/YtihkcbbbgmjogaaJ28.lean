import Derived.Test.YtihkcbbbgmjogaaJ27
/-
  DequeSwaps, pure, the second part: every access is as the law asks; whose call a swap is in.
-/
namespace Go.Proofs.Ytihkcbbbgmjogaa.Dm
open Go.RowKit Go.Shelf Mr Me Ma Gm Dq
set_option linter.unusedVariables false
set_option linter.unusedSimpArgs false
def isSt : Dt → Prop
  | .steal .. => True
  | _ => False
/-- What a step's access is, told of the trace ahead of it. -/
structure Ac (i : Nat) (now : Int) (s : Sw) (k : Dt) (a : Acc) : Prop where
  th : a.th = (i : Int)
  mv : a.mv = now
  ld : a.ad = 0 → a.kd = 1 → a.saw = s.top
  sw : a.ad = 0 → a.kd ≠ 1 → a.kd = 3 ∧ a.new = a.old + 1 ∧ 0 ≤ a.old ∧ a.old ≤ 65536 ∧ (a.saw ≠ a.old → s.ld i ≤ s.last) ∧ (a.old = s.down ∨ isSt k)
section
variable {i : Nat} {now : Int} {s : Sw} {k : Dt} {ws : List Int}
theorem ac_load (ad : Nat) (had : ad ≠ 0) : Ac i now s k (ldA i now ad ws) := ⟨rfl, rfl, fun h => absurd h (by show ¬ ((ad : Int) = 0); omega), fun h => absurd h (by show ¬ ((ad : Int) = 0); omega)⟩
theorem ac_load0 (h : s.top = rd ws 0) : Ac i now s k (ldA i now 0 ws) := ⟨rfl, rfl, fun _ _ => h.symm, fun _ h => absurd rfl h⟩
theorem ac_st (ad : Nat) (had : ad ≠ 0) (x : Int) : Ac i now s k (stA i now ad x) := ⟨rfl, rfl, fun h => absurd h (by show ¬ ((ad : Int) = 0); omega), fun h => absurd h (by show ¬ ((ad : Int) = 0); omega)⟩
theorem ac_sw (t saw : Int) (h0 : 0 ≤ t) (h1 : t ≤ 65536) (h2 : saw ≠ t → s.ld i ≤ s.last) (h3 : t = s.down ∨ isSt k) : Ac i now s k (swA i now 0 t (t + 1) saw) := ⟨rfl, rfl, fun _ h => absurd h (by show ¬ ((3 : Int) = 1); omega), fun _ _ => ⟨rfl, rfl, h0, h1, h2, h3⟩⟩
end
set_option maxHeartbeats 1000000 in
theorem ac_step {r : Nat} {P : Pg Dt Lw} (h : Iv r P) (hn : P.n < 65536) (hS : Sa P) {i : Nat} {t : Pt Dt} {k : Dt} (ht : P.pts[i]? = some t) (hk : t.tk = some k) (now : Int) (fr : Bool) : ∀ a, (stp r fr i now P.ws P.g k).la = [a] → Ac i now (swS P.lg) k a := by
  have hok := h.tsk i t k ht hk
  have htk := hS.tsk i t k ht hk
  obtain ⟨hl, r1, r2, ⟨t1, t2⟩, _, _⟩ := h
  obtain ⟨s1, s2, s3, _⟩ := hS
  have cn := cel_ne r
  generalize swS P.lg = s at *
  intro a e
  cases k with
  | push nx v bt =>
    simp only [Ok] at hok
    obtain rfl | rfl | rfl | rfl : nx = 1 ∨ nx = 2 ∨ nx = 3 ∨ nx = 4 := by omega
    · cases e; exact ac_load 1 (by omega)
    · by_cases hy : (r : Int) ≤ bt - wrap64 (rd P.ws 0)
      · have e2 : stp r fr i now P.ws P.g (.push 2 v bt) = _ := if_pos hy
        rw [e2] at e; cases e; exact ac_load0 s1
      · have e2 : stp r fr i now P.ws P.g (.push 2 v bt) = _ := if_neg hy
        rw [e2] at e; cases e; exact ac_load0 s1
    · cases e; exact ac_st _ (cn _).1 _
    · cases e; exact ac_st 1 (by omega) _
  | take nx l tt v =>
    simp only [Ok] at hok
    obtain ⟨q1, q2, q3⟩ := htk
    obtain rfl | rfl | rfl | rfl | rfl | rfl | rfl : nx = 1 ∨ nx = 2 ∨ nx = 3 ∨ nx = 4 ∨ nx = 5 ∨ nx = 6 ∨ nx = 7 := by omega
    · cases e; exact ac_load 1 (by omega)
    · cases e; exact ac_st 1 (by omega) _
    · by_cases hy : l < wrap64 (rd P.ws 0)
      · have e2 : stp r fr i now P.ws P.g (.take 3 l tt v) = _ := if_pos hy
        rw [e2] at e; cases e; exact ac_load0 s1
      · have e2 : stp r fr i now P.ws P.g (.take 3 l tt v) = _ := if_neg hy
        rw [e2] at e; cases e; exact ac_load0 s1
    · cases e; exact ac_st 1 (by omega) _
    · by_cases hy : tt < l
      · have e2 : stp r fr i now P.ws P.g (.take 5 l tt v) = _ := if_pos hy
        rw [e2] at e; cases e; exact ac_load _ (cn _).1
      · have e2 : stp r fr i now P.ws P.g (.take 5 l tt v) = _ := if_neg hy
        rw [e2] at e; cases e; exact ac_load _ (cn _).1
    · have hd : tt = s.down := by
        have e1 := q1 (by omega) (by omega)
        have e3 := q3 rfl
        have b1 := hok.2.2.2.2.1 (by omega)
        rw [s2, e1, ← e3]
        show tt = tt % 18446744073709551616
        omega
      have b1 := hok.2.2.2.2.1 (by omega)
      have q := q2 (.inr rfl)
      by_cases hy : rd P.ws 0 = tt
      · have e2 : stp r fr i now P.ws P.g (.take 6 l tt v) = _ := if_pos hy
        rw [e2] at e; cases e; exact ac_sw _ _ (by omega) (by omega) (fun h => absurd rfl h) (.inl hd)
      · have e2 : stp r fr i now P.ws P.g (.take 6 l tt v) = _ := if_neg hy
        rw [e2] at e; cases e; exact ac_sw _ _ (by omega) (by omega) (fun h => q.resolve_left (fun h9 => hy h9.symm)) (.inl hd)
    · cases e; exact ac_st 1 (by omega) _
  | steal nx tt v =>
    simp only [Ok] at hok
    obtain rfl | rfl | rfl | rfl : nx = 1 ∨ nx = 2 ∨ nx = 3 ∨ nx = 4 := by omega
    · cases e; exact ac_load0 s1
    · by_cases hy : wrap64 (rd P.ws 1) - tt ≤ 0
      · have e2 : stp r fr i now P.ws P.g (.steal 2 tt v) = _ := if_pos hy
        rw [e2] at e; cases e; exact ac_load 1 (by omega)
      · have e2 : stp r fr i now P.ws P.g (.steal 2 tt v) = _ := if_neg hy
        rw [e2] at e; cases e; exact ac_load 1 (by omega)
    · cases e; exact ac_load _ (cn _).1
    · have q := htk (by omega)
      by_cases hy : rd P.ws 0 = tt
      · have e2 : stp r fr i now P.ws P.g (.steal 4 tt v) = _ := if_pos hy
        rw [e2] at e; cases e; exact ac_sw _ _ (by omega) (by omega) (fun h => absurd rfl h) (.inr trivial)
      · have e2 : stp r fr i now P.ws P.g (.steal 4 tt v) = _ := if_neg hy
        rw [e2] at e; cases e; exact ac_sw _ _ (by omega) (by omega) (fun h => q.resolve_left (fun h9 => hy h9.symm)) (.inr trivial)
/-- Points and ends leave a call's thread, operation and beginning alone. -/
theorem setP_get {cls : List Cl} {c c' : Nat} {pt : Option Int} {x' : Cl} (h : (setP cls c pt)[c']? = some x') : ∃ x, cls[c']? = some x ∧ x'.th = x.th ∧ x'.op = x.op ∧ x'.beg = x.beg ∧ x'.fin = x.fin := by
  unfold setP at h
  split at h
  · rename_i m cl hcl
    rw [List.getElem?_set] at h
    split at h
    · rename_i e; subst e
      split at h
      · cases h; exact ⟨cl, hcl, rfl, rfl, rfl, rfl⟩
      · cases h
    · exact ⟨x', h, rfl, rfl, rfl, rfl⟩
  · exact ⟨x', h, rfl, rfl, rfl, rfl⟩
theorem setE_get {cls : List Cl} {c c' : Nat} {now ak av : Int} {x' : Cl} (h : (setE cls c now ak av)[c']? = some x') : ∃ x, cls[c']? = some x ∧ x'.th = x.th ∧ x'.op = x.op ∧ x'.beg = x.beg ∧ ((c' ≠ c ∧ x'.fin = x.fin) ∨ (c' = c ∧ x'.fin = now)) := by
  unfold setE at h
  split at h
  · rename_i cl hcl
    rw [List.getElem?_set] at h
    split at h
    · rename_i e; subst e
      split at h
      · cases h; exact ⟨cl, hcl, rfl, rfl, rfl, .inr ⟨rfl, rfl⟩⟩
      · cases h
    · rename_i e; exact ⟨x', h, rfl, rfl, rfl, .inl ⟨fun e' => e e'.symm, rfl⟩⟩
  · rename_i hc
    refine ⟨x', h, rfl, rfl, rfl, .inl ⟨fun e => ?_, rfl⟩⟩
    subst e; rw [h] at hc; cases hc
/-- The calls behind a step. -/
theorem stepE_cls {τ γ : Type} {P : Pg τ γ} {i : Nat} {t : Pt τ} {now : Int} {e : Ef τ γ} {c' : Nat} {x' : Cl} (h : (P.stepE i t now e).cls[c']? = some x') : ∃ x, P.cls[c']? = some x ∧ x'.th = x.th ∧ x'.op = x.op ∧ x'.beg = x.beg ∧ (x'.fin = x.fin ∨ (c' = t.call.toNat ∧ e.tk = none ∧ x'.fin = now)) ∧ (c' = t.call.toNat → e.tk = none → x'.fin = now) := by
  unfold Pg.stepE at h
  split at h
  · rename_i k hk
    obtain ⟨x, h1, h2, h3, h4, h5⟩ := setP_get h
    exact ⟨x, h1, h2, h3, h4, .inl h5, fun _ e => by rw [hk] at e; cases e⟩
  · rename_i hk
    obtain ⟨y, h1, h2, h3, h4, h5⟩ := setE_get h
    obtain ⟨x, g1, g2, g3, g4, g5⟩ := setP_get h1
    refine ⟨x, g1, h2.trans g2, h3.trans g3, h4.trans g4, ?_, fun e1 e2 => ?_⟩
    · rcases h5 with ⟨_, h5⟩ | ⟨e1, h5⟩
      · exact .inl (h5.trans g5)
      · exact .inr ⟨e1, hk, h5⟩
    · rcases h5 with ⟨e3, _⟩ | ⟨_, h5⟩
      · exact absurd e1 e3
      · exact h5
end Go.Proofs.Ytihkcbbbgmjogaa.Dm
/-
  DequeSwaps, pure, the third part: what is kept along a script of the trace and of the calls.
-/
namespace Go.Proofs.Ytihkcbbbgmjogaa.Dm
open Go.RowKit Go.Shelf Mr Me Ma Gm Dq
set_option linter.unusedVariables false
set_option linter.unusedSimpArgs false
/-- No take of thread 0 was on its way at move m. -/
def Own (cls : List Cl) (m : Int) : Prop := ∀ (c : Nat) (x : Cl), cls[c]? = some x → x.th = 0 → x.op = 91 → x.beg < m → 0 ≤ x.fin ∧ x.fin < m
def Lk (nt : Nat) (cls : List Cl) (s : Sw) (a : Acc) : Prop :=
  (∃ i : Nat, a.th = (i : Int) ∧ i < nt) ∧ (a.ad = 0 → a.kd = 1 → a.saw = s.top) ∧
  (a.ad = 0 → a.kd ≠ 1 → a.kd = 3 ∧ a.new = a.old + 1 ∧ 0 ≤ a.old ∧ a.old ≤ 65536 ∧ (a.saw ≠ a.old → s.ld a.th.toNat ≤ s.last) ∧ (a.th = 0 → a.old = s.down ∨ Own cls a.mv))
structure Sb (P : Pg Dt Lw) : Prop where
  cal : ∀ (i : Nat) (t : Pt Dt) (k : Dt), P.pts[i]? = some t → t.tk = some k → ∃ (c : Nat) (x : Cl), t.call = (c : Int) ∧ P.cls[c]? = some x ∧ x.th = (i : Int) ∧ x.fin = -1 ∧ (isSt k → x.op ≠ 91)
  opn : ∀ (c : Nat) (x : Cl), P.cls[c]? = some x → x.th = 0 → x.op = 91 → (0 ≤ x.fin ∧ x.fin < P.n) ∨ (x.fin = -1 ∧ ∃ t k, P.pts[0]? = some t ∧ t.tk = some k ∧ t.call = (c : Int))
  log : ∀ (j : Nat) (a : Acc), P.lg[j]? = some a → a.mv < P.n ∧ Lk P.pts.length P.cls (swS (P.lg.take j)) a
theorem Lk.imp {nt : Nat} {cls cls' : List Cl} {s : Sw} {a : Acc} (h : Lk nt cls s a) (ho : Own cls a.mv → Own cls' a.mv) : Lk nt cls' s a :=
  ⟨h.1, h.2.1, fun h1 h2 => by obtain ⟨q1, q2, q3, q4, q5, q6⟩ := h.2.2 h1 h2; exact ⟨q1, q2, q3, q4, q5, fun h0 => (q6 h0).imp id ho⟩⟩
theorem Sb.count {P : Pg Dt Lw} (h : Sb P) : Sb P.count := by
  refine ⟨h.cal, fun c x h1 h2 h3 => ?_, fun j a h1 => ⟨?_, (h.log j a h1).2⟩⟩
  · rcases h.opn c x h1 h2 h3 with h4 | h4
    · exact .inl ⟨h4.1, by have := h4.2; show x.fin < ((P.n + 1 : Nat) : Int); omega⟩
    · exact .inr h4
  · have := (h.log j a h1).1
    show a.mv < ((P.n + 1 : Nat) : Int); omega
theorem st_kind (r : Nat) (fr : Bool) (i : Nat) (now : Int) (ws : List Int) (g : Lw) (k : Dt) : ∀ k', (stp r fr i now ws g k).tk = some k' → isSt k' → isSt k := by
  unfold stp
  repeat' split
  all_goals (intro k' e h; first | exact trivial | (cases e; exact h) | (cases e))
theorem mk_st {i : Nat} {op arg data : Int} {g : Lw} {k : Dt} (h : mk i op arg data g = some k) : isSt k → op ≠ 91 := by
  unfold mk at h
  split at h
  · rename_i h0; intro _; omega
  · split at h
    · split at h
      · cases h; exact fun h => h.elim
      · cases h
    · rename_i h1; exact fun _ => h1
theorem stepE_len {τ γ : Type} (P : Pg τ γ) (i : Nat) (t : Pt τ) (now : Int) (e : Ef τ γ) : (P.stepE i t now e).cls.length = P.cls.length := by
  unfold Pg.stepE
  split
  · exact setP_len _ _ _
  · exact (setE_len _ _ _ _ _).trans (setP_len _ _ _)
theorem Sb.stepE {P : Pg Dt Lw} (hS : Sb P) {i : Nat} {t : Pt Dt} {k : Dt} {e : Df} (ht : P.pts[i]? = some t) (hk : t.tk = some k) (hla : ∃ a, e.la = [a]) (hac : ∀ a, e.la = [a] → Ac i P.n (swS P.lg) k a) (hkd : ∀ k', e.tk = some k' → isSt k' → isSt k) : Sb (P.count.stepE i t P.n e) := by
  have hi : i < P.pts.length := (List.getElem?_eq_some_iff.1 ht).1
  obtain ⟨a, ha⟩ := hla
  have ac := hac a ha
  obtain ⟨c0, x0, hc0, hx0, h01, h02, h03⟩ := hS.cal i t k ht hk
  have hct : t.call.toNat = c0 := by rw [hc0]; exact Int.toNat_natCast c0
  obtain ⟨Q, hQ⟩ : ∃ Q, P.count.stepE i t P.n e = Q := ⟨_, rfl⟩
  have q2 : Q.lg = P.lg ++ [a] := by rw [← ha, ← hQ]; unfold Pg.stepE; split <;> rfl
  have q3 : ∃ u : Pt Dt, u.tk = e.tk ∧ (e.tk.isSome = true → u.call = t.call) ∧ Q.pts = P.pts.set i u := by
    rw [← hQ]; unfold Pg.stepE
    split
    · rename_i k hk; exact ⟨⟨some k, false, t.call, _, _⟩, hk.symm, fun _ => rfl, rfl⟩
    · rename_i hk; exact ⟨⟨none, false, t.call, 0, 0⟩, hk.symm, fun _ => rfl, rfl⟩
  have q4 : ∀ (c' : Nat) (x' : Cl), Q.cls[c']? = some x' → ∃ x, P.cls[c']? = some x ∧ x'.th = x.th ∧ x'.op = x.op ∧ x'.beg = x.beg ∧ (x'.fin = x.fin ∨ (c' = c0 ∧ e.tk = none ∧ x'.fin = P.n)) ∧ (c' = c0 → e.tk = none → x'.fin = P.n) := fun c' x' h => by
    rw [← hQ] at h
    have := stepE_cls h
    rw [hct] at this
    exact this
  have q5 : Q.cls.length = P.cls.length := by rw [← hQ]; exact stepE_len _ _ _ _ _
  have q6 : Q.n = P.n + 1 := by rw [← hQ, stepE_n]; rfl
  obtain ⟨u, hu, huc, hp⟩ := q3
  rw [hQ]
  -- a call of a busy thread, found again
  have fwd : ∀ (c : Nat) (x : Cl), P.cls[c]? = some x → ∃ x', Q.cls[c]? = some x' := fun c x h => ⟨_, List.getElem?_eq_getElem (by rw [q5]; exact (List.getElem?_eq_some_iff.1 h).1)⟩
  have own : ∀ m, Own P.cls m → Own Q.cls m := fun m ho c x' hx g1 g2 g3 => by
    obtain ⟨x, y1, y2, y3, y4, y5, _⟩ := q4 c x' hx
    obtain ⟨z1, z2⟩ := ho c x y1 (by rw [← y2]; exact g1) (by rw [← y3]; exact g2) (by rw [← y4]; exact g3)
    rcases y5 with y5 | ⟨rfl, _, _⟩
    · rw [y5]; exact ⟨z1, z2⟩
    · rw [hx0] at y1; cases y1; omega
  refine ⟨fun j t' k' hj hk' => ?_, fun c x' hx g1 g2 => ?_, fun j a' hj => ?_⟩
  · rw [hp] at hj
    rcases pts_set hj with ⟨rfl, rfl⟩ | ⟨hji, hj⟩
    · have hek : e.tk = some k' := by rw [← hu]; exact hk'
      obtain ⟨x', hx'⟩ := fwd c0 x0 hx0
      obtain ⟨x, y1, y2, y3, y4, y5, _⟩ := q4 c0 x' hx'
      rw [hx0] at y1; cases y1
      refine ⟨c0, x', (huc (by rw [hek]; rfl)).trans hc0, hx', y2.trans h01, ?_, fun hs => by rw [y3]; exact h03 (hkd k' hek hs)⟩
      rcases y5 with y5 | ⟨_, e9, _⟩
      · exact y5.trans h02
      · rw [hek] at e9; cases e9
    · obtain ⟨c, x, w1, w2, w3, w4, w5⟩ := hS.cal j t' k' hj hk'
      obtain ⟨x', hx'⟩ := fwd c x w2
      obtain ⟨y, y1, y2, y3, y4, y5, _⟩ := q4 c x' hx'
      rw [w2] at y1; cases y1
      refine ⟨c, x', w1, hx', y2.trans w3, ?_, fun hs => by rw [y3]; exact w5 hs⟩
      rcases y5 with y5 | ⟨rfl, _, _⟩
      · exact y5.trans w4
      · rw [hx0] at w2; cases w2
        exact absurd (w3.symm.trans h01) (by omega)
  · obtain ⟨x, y1, y2, y3, y4, y5, y6⟩ := q4 c x' hx
    rw [q6]
    rcases hS.opn c x y1 (by rw [← y2]; exact g1) (by rw [← y3]; exact g2) with h4 | ⟨h4, t0, k0, h5, h6, h7⟩
    · rcases y5 with y5 | ⟨rfl, _, _⟩
      · rw [y5]; exact .inl ⟨h4.1, by have := h4.2; omega⟩
      · rw [hx0] at y1; cases y1; omega
    · by_cases h0 : i = 0
      · subst h0
        rw [ht] at h5; cases h5
        have hcc : c = c0 := by omega
        cases he : e.tk with
        | none => exact .inl (by rw [y6 hcc he]; omega)
        | some k9 =>
          refine .inr ⟨?_, u, k9, by rw [hp]; simp [hi], by rw [hu]; exact he, (huc (by rw [he]; rfl)).trans h7⟩
          rcases y5 with y5 | ⟨_, e9, _⟩
          · exact y5.trans h4
          · rw [he] at e9; cases e9
      · refine .inr ⟨?_, t0, k0, by rw [hp, List.getElem?_set_ne h0]; exact h5, h6, h7⟩
        rcases y5 with y5 | ⟨rfl, _, _⟩
        · exact y5.trans h4
        · rw [hx0] at y1; cases y1
          rw [y2] at g1; omega
  · rw [q2] at hj ⊢
    rw [q6, hp, List.length_set]
    by_cases hjl : j < P.lg.length
    · rw [List.getElem?_append_left hjl] at hj
      rw [List.take_append_of_le_length (by omega)]
      obtain ⟨l1, l2⟩ := hS.log j a' hj
      exact ⟨by omega, l2.imp (own _)⟩
    · have hje : j = P.lg.length := by
        have := (List.getElem?_eq_some_iff.1 hj).1
        simp at this; omega
      subst hje
      rw [List.getElem?_append_right (Nat.le_refl _)] at hj
      simp at hj
      subst hj
      rw [List.take_left' rfl]
      refine ⟨by rw [ac.mv]; omega, ⟨i, ac.th, hi⟩, ac.ld, fun e1 e2 => ?_⟩
      obtain ⟨p1, p2, p3, p4, p5, p6⟩ := ac.sw e1 e2
      refine ⟨p1, p2, p3, p4, fun h => by rw [ac.th, Int.toNat_natCast]; exact p5 h, fun h0 => ?_⟩
      rcases p6 with p6 | p6
      · exact .inl p6
      · refine .inr fun c x' hx g1 g2 g3 => ?_
        have hi0 : i = 0 := by have := ac.th; omega
        obtain ⟨x, y1, y2, y3, y4, y5, _⟩ := q4 c x' hx
        rw [ac.mv]
        rcases hS.opn c x y1 (by rw [← y2]; exact g1) (by rw [← y3]; exact g2) with h4 | ⟨h4, t0, k0, h5, h6, h7⟩
        · rcases y5 with y5 | ⟨rfl, _, _⟩
          · rw [y5]; exact h4
          · rw [hx0] at y1; cases y1; omega
        · exfalso
          subst hi0
          rw [ht] at h5; cases h5
          have hcc : c = c0 := by omega
          subst hcc
          rw [hx0] at y1; cases y1
          exact h03 p6 (by rw [← y3]; exact g2)
theorem mk_st92 {i : Nat} {op arg data : Int} {g : Lw} {k : Dt} (h : mk i op arg data g = some k) : isSt k → op ≠ 91 := mk_st h
theorem Sb.move {r : Nat} {P : Pg Dt Lw} (h : Iv r P) (hA : Sa P) (hS : Sb P) (th op arg data : Int) : Sb (P.move (dqY r) th op arg data).1 := by
  unfold Pg.move
  split
  · exact hS
  · rename_i hn
    split
    · split
      · exact hS.count
      · rename_i t ht
        split
        · unfold Pg.step
          split
          · exact hS.count
          · rename_i k hk
            obtain ⟨a, ha, _⟩ := sa_step h (by omega) hA ht hk P.n t.fr
            exact hS.stepE ht hk ⟨a, ha⟩ (ac_step h (by omega) hA ht hk P.n t.fr) (st_kind r t.fr th.toNat P.n P.ws P.g k)
        · split
          · exact hS.count
          · rename_i hidle
            unfold Pg.begins
            split
            · exact hS.count
            · rename_i k hk
              have hi : th.toNat < P.pts.length := (List.getElem?_eq_some_iff.1 ht).1
              have hc := hS.count
              obtain ⟨nw, hnw⟩ : ∃ nw : Cl, nw = ⟨th.toNat, op, arg, data, P.n, -1, -1, 0, 0⟩ := ⟨_, rfl⟩
              have lt : ∀ {c : Nat} {x : Cl}, P.cls[c]? = some x → c < P.cls.length := fun h => (List.getElem?_eq_some_iff.1 h).1
              have app : ∀ {c : Nat} {x : Cl}, (P.cls ++ [nw])[c]? = some x → P.cls[c]? = some x ∨ (c = P.cls.length ∧ x = nw) := fun {c x} h => by
                by_cases hl : c < P.cls.length
                · rw [List.getElem?_append_left hl] at h; exact .inl h
                · have he : c = P.cls.length := by
                    have := (List.getElem?_eq_some_iff.1 h).1
                    simp at this; omega
                  subst he
                  rw [List.getElem?_append_right (Nat.le_refl _)] at h
                  simp at h
                  exact .inr ⟨rfl, h.symm⟩
              have own : ∀ m : Int, m < P.n → Own P.cls m → Own (P.cls ++ [nw]) m := fun m hm ho c x hx g1 g2 g3 => by
                rcases app hx with hx | ⟨_, rfl⟩
                · exact ho c x hx g1 g2 g3
                · rw [hnw] at g3; simp only at g3; omega
              refine ⟨fun j u k' hj hk' => ?_, fun c x hx g1 g2 => ?_, fun j a hj => ?_⟩
              · have hj' : (P.pts.set _ _)[j]? = some u := hj
                show ∃ (c : Nat) (x : Cl), _ ∧ (P.cls ++ [_])[c]? = some x ∧ _
                rw [← hnw]
                rcases pts_set hj' with ⟨rfl, rfl⟩ | ⟨_, hj''⟩
                · cases hk'
                  refine ⟨P.cls.length, nw, rfl, by simp, by rw [hnw], by rw [hnw], fun hs => by rw [hnw]; exact mk_st (data := data) (g := P.count.g) hk hs⟩
                · obtain ⟨c, x, w1, w2, w3, w4, w5⟩ := hS.cal j u k' hj'' hk'
                  exact ⟨c, x, w1, by rw [List.getElem?_append_left (lt w2)]; exact w2, w3, w4, w5⟩
              · have hx' : (P.cls ++ [_])[c]? = some x := hx
                rw [← hnw] at hx'
                rcases app hx' with hx' | ⟨rfl, rfl⟩
                · rcases hc.opn c x hx' g1 g2 with h4 | ⟨h4, t0, k0, h5, h6, h7⟩
                  · exact .inl h4
                  · refine .inr ⟨h4, t0, k0, ?_, h6, h7⟩
                    show (P.pts.set _ _)[0]? = _
                    by_cases h0 : th.toNat = 0
                    · have h5' : P.pts[0]? = some t0 := h5
                      rw [h0] at ht
                      rw [ht] at h5'
                      cases h5'
                      rw [h6] at hidle
                      exact absurd rfl hidle
                    · rw [List.getElem?_set_ne h0]; exact h5
                · have h0 : th.toNat = 0 := by rw [hnw] at g1; simp only at g1; omega
                  refine .inr ⟨by rw [hnw], ⟨some k, true, (P.cls.length : Int), 0, 0⟩, k, ?_, rfl, rfl⟩
                  show (P.pts.set th.toNat _)[0]? = _
                  rw [h0] at hi ⊢
                  simp [hi]; rfl
              · have hj' : P.lg[j]? = some a := hj
                obtain ⟨l1, l2⟩ := hS.log j a hj'
                refine ⟨(hc.log j a hj).1, ?_⟩
                show Lk (P.pts.set _ _).length (P.cls ++ [_]) (swS (P.lg.take j)) a
                rw [← hnw, List.length_set]
                exact l2.imp (own _ l1)
    · exact hS.count
theorem sb_new {r : Nat} (nt : Nat) : Sb (P0 nt r) := by
  refine ⟨fun i t k ht hk => ?_, fun c x h => (by cases h), fun j a h => (by cases h)⟩
  have ht' : (List.replicate nt (⟨none, false, -1, 0, 0⟩ : Pt Dt))[i]? = some t := ht
  rw [List.getElem?_replicate] at ht'
  split at ht'
  · cases ht'; cases hk
  · cases ht'
theorem pl_swaps {r : Nat} (ms : List Mv) : ∀ {P : Pg Dt Lw}, Iv r P → Sa P → Sb P → Sa (Pl r P ms) ∧ Sb (Pl r P ms) := by
  induction ms with
  | nil => exact fun _ h1 h2 => ⟨h1, h2⟩
  | cons x ms ih => exact fun h0 h1 h2 => ih (h0.move x.th x.op x.arg x.data) (h1.move h0 _ _ _ _) (h2.move h0 h1 _ _ _ _)
end Go.Proofs.Ytihkcbbbgmjogaa.Dm
