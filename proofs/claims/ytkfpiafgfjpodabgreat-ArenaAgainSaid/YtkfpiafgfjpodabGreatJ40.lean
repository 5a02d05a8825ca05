import Derived.Test.YtkfpiafgfjpodabGreatJ37
/-
  The pure part of ArenaOnce: a slot that a take has told is told by no other till a give of it has begun.
-/
namespace Go.Proofs.YtkfpiafgfjpodabGreat.Ar
open Go.RowKit Go.Shelf Mr Me Ma Wc Wm Wr
/-- A give of what the call j, which is x, has told, by the same thread, begun behind its end and ahead of e. -/
def Gvn (cls : List Cl) (j : Nat) (x : Cl) (e : Int) : Prop := ∃ (g : Nat) (z : Cl), cls[g]? = some z ∧ j < g ∧ z.op = 11 ∧ z.arg = x.av ∧ z.th = x.th ∧ x.fin < z.beg ∧ z.beg < e
theorem Gvn.mono {cls : List Cl} {j : Nat} {x : Cl} {e e' : Int} (h : Gvn cls j x e) (he : e ≤ e') : Gvn cls j x e' := by
  obtain ⟨g, z, h1, h2, h3, h4, h5, h6, h7⟩ := h
  exact ⟨g, z, h1, h2, h3, h4, h5, h6, by omega⟩
/-- The calls, each what it was but for its end and its answer. -/
def Clk (cls cls' : List Cl) : Prop := ∀ (g : Nat) (z : Cl), cls[g]? = some z → ∃ z', cls'[g]? = some z' ∧ z'.op = z.op ∧ z'.arg = z.arg ∧ z'.th = z.th ∧ z'.beg = z.beg
theorem Gvn.kept {cls cls' : List Cl} {j : Nat} {x : Cl} {e : Int} (h : Gvn cls j x e) (hk : Clk cls cls') : Gvn cls' j x e := by
  obtain ⟨g, z, h1, h2, h3, h4, h5, h6, h7⟩ := h
  obtain ⟨z', k1, k2, k3, k4, k5⟩ := hk g z h1
  exact ⟨g, z', k1, h2, by omega, by omega, by omega, by omega, by omega⟩
theorem Clk.refl (cls : List Cl) : Clk cls cls := fun _ z h => ⟨z, h, rfl, rfl, rfl, rfl⟩
theorem setC_get {cls : List Cl} {c : Nat} {now ak av : Int} {z : Cl} (hz : cls[c]? = some z) (g : Nat) : (Pa.setC cls c now ak av)[g]? = if g = c then some { z with fin := now, ak := ak, av := av } else cls[g]? := by
  have hc : c < cls.length := (List.getElem?_eq_some_iff.1 hz).1
  unfold Pa.setC
  rw [hz]
  simp only [List.getElem?_set]
  by_cases e : g = c
  · subst e; simp [hc]
  · rw [if_neg (fun e' => e e'.symm), if_neg e]
theorem Clk.setC {cls : List Cl} {c : Nat} {now ak av : Int} {z : Cl} (hz : cls[c]? = some z) : Clk cls (Pa.setC cls c now ak av) := by
  intro g y hy
  rw [setC_get hz]
  by_cases e : g = c
  · subst e
    rw [hz] at hy
    cases hy
    exact ⟨_, if_pos rfl, rfl, rfl, rfl, rfl⟩
  · exact ⟨y, by rw [if_neg e]; exact hy, rfl, rfl, rfl, rfl⟩
def opOf (kd : Kd) (z : Cl) (k : Pk) : Prop := match kd with
  | .take => z.op = 10
  | .give => z.op = 11 ∧ z.arg = k.sl
  | .flush => z.op = 12
/-- What a step has done to the slots. -/
inductive Ef (P : Pa) (i : Nat) (kd : Kd) (k : Pk) (r : Pa × Pk × Bool) : Prop where
  | same (hs : r.1.A.sl = P.A.sl) (hk : kd = .take → r.2.1.tk = false) (hg : kd = .give → r.2.1.sl = k.sl)
  | took (hk : kd = .take) (ht : r.2.1.tk = true) (he : r.2.2 = true) (hs : r.1.A.sl = (P.A.put r.2.1.sl 2 i).sl) (hh : P.A.has r.2.1.sl) (h0 : (P.A.st r.2.1.sl).1 ≠ 2)
  | gave (hk : kd = .give) (he : r.2.2 = true) (to : Int) (hs : r.1.A.sl = (P.A.put k.sl to i).sl)
  | flushed (hk : kd = .flush) (s : Int) (hs : r.1.A.sl = (P.A.put s 0 i).sl) (hh : P.A.has s) (h0 : (P.A.st s).1 ≠ 2)
section
variable {P : Pa} {b i : Nat}
theorem step_ef (h : Inv P b) {now : Int} {kd : Kd} {k : Pk} (hi : i < P.pts.length) (hT : Tok P i false kd k) : Ef P i kd k (P.stepP i now k kd) := by
  cases kd with
  | take =>
    obtain ⟨t0, t1⟩ := hT
    simp only [Bool.false_eq_true, if_false] at t1
    obtain ⟨t1, t2⟩ := t1
    simp only [Pa.stepP]
    split
    · split
      · exact .same rfl (fun _ => t0) (fun e => by cases e)
      · exact .same rfl (fun _ => t0) (fun e => by cases e)
    · split
      · exact .same rfl (fun _ => t0) (fun e => by cases e)
      · rename_i n5 n6
        split
        · rename_i hw
          rcases t2 with t2 | ⟨t2, t3, t4, t5, t6⟩
          · omega
          · refine .took rfl rfl rfl rfl t3 ?_
            have hns := h.ns
            have hw1 := h.w0.1
            have e1 : P.word 0 % 4294967296 = k.sl + 1 := by
              have := firstOf_eq (h := P.word 0) (by omega)
              rw [t4, ← hw, this]; omega
            have := (h.head e1 t3.1).2
            show (P.A.st k.sl).1 ≠ 2
            omega
        · exact .same rfl (fun _ => t0) (fun e => by cases e)
  | give =>
    rw [stepP_give]
    unfold givP
    split
    · exact .same rfl (fun e => by cases e) (fun _ => rfl)
    · split
      · exact .same rfl (fun e => by cases e) (fun _ => rfl)
      · split
        · exact .gave rfl rfl 0 rfl
        · exact .same rfl (fun e => by cases e) (fun _ => rfl)
  | flush =>
    rw [stepP_flush]
    simp only [Tok, Bool.false_eq_true, if_false] at hT
    obtain ⟨t1, t2, t3⟩ := hT
    unfold givP
    split
    · exact .same rfl (fun e => by cases e) (fun e => by cases e)
    · split
      · exact .same rfl (fun e => by cases e) (fun e => by cases e)
      · split
        · refine .flushed rfl k.sl ?_ t1 ?_
          · simp only [if_true, Pa.next]
            split <;> rfl
          · have hc := h.cacheEq hi
            have := ((h.ca i _ hc).2.2 _ (List.mem_of_getLast? t2)).2
            rw [this]
            show (1 : Int) ≠ 2
            decide
        · exact .same rfl (fun e => by cases e) (fun e => by cases e)
theorem work_ef (h : Inv P b) (hi : i < P.pts.length) {now : Int} {fr : Bool} {kd : Kd} {k : Pk} (hT : Tok P i fr kd k) : Ef P i kd k (P.work i now fr kd k) := by
  unfold Pa.work
  cases fr with
  | false => rw [if_neg (by decide)]; exact step_ef h hi hT
  | true =>
    rw [if_pos rfl]
    cases he : (P.ready i now k kd).2.2 with
    | false =>
      simp only [he, Bool.false_eq_true, if_false]
      obtain ⟨e1, e2⟩ := ready_no h hi hT he
      have e3 : kd = .give → (P.ready i now k kd).2.1.sl = k.sl := fun e => by
        subst e
        simp only [Pa.ready]
        split <;> rfl
      rw [e1]
      have := step_ef (now := now) h hi e2
      cases this with
      | same hs hk hg => exact .same hs hk (fun e => (hg e).trans (e3 e))
      | took hk ht he hs hh h0 => exact .took hk ht he hs hh h0
      | gave hk he to hs => exact .gave hk he to (by rw [← e3 hk]; exact hs)
      | flushed hk s hs hh h0 => exact .flushed hk s hs hh h0
    | true =>
      simp only [he, if_true]
      cases kd with
      | take =>
        rcases h.last hi with ⟨e1, e2⟩ | ⟨l, s, e1, e2, e3, e4, e5⟩
        · simp only [Pa.ready, if_pos e2] at he
          cases he
        · simp only [Pa.ready, if_neg (show ¬ P.A.last i = -1 by omega)]
          refine .took rfl rfl rfl rfl (by rw [e2]; exact e4) ?_
          show (P.A.st (P.A.last i)).1 ≠ 2
          rw [e2, e5]
          show (1 : Int) ≠ 2
          decide
      | give =>
        simp only [Pa.ready] at he ⊢
        split at he
        · rename_i hn
          simp only [if_pos hn]
          exact .gave rfl rfl 1 rfl
        · cases he
      | flush =>
        simp only [Pa.ready] at he ⊢
        split at he
        · rename_i hn
          simp only [if_pos hn]
          exact .same rfl (fun e => by cases e) (fun e => by cases e)
        · cases he
/-- What holds of the calls behind every move; b: the next move's number. -/
structure On (P : Pa) (b : Int) : Prop where
  fin : ∀ (j : Nat) (x : Cl), P.cls[j]? = some x → x.fin < b ∧ x.beg < b
  ok : ∀ (j : Nat) (x : Cl), P.cls[j]? = some x → x.op = 10 → x.ak = 2 → P.A.has x.av ∧ (P.A.st x.av = (2, x.th) ∨ Gvn P.cls j x b)
  pair : ∀ (j : Nat) (x : Cl) (k : Nat) (y : Cl), P.cls[j]? = some x → P.cls[k]? = some y → k ≠ j → x.op = 10 → x.ak = 2 → y.op = 10 → y.ak = 2 → y.av = x.av → x.fin ≤ y.fin → Gvn P.cls j x y.fin
  th : ∀ (i : Nat) (t : At) (kd : Kd) (k : Pk), P.pts[i]? = some t → t.tk = some (kd, k) → ∃ (c : Nat) (z : Cl), t.call = (c : Int) ∧ P.cls[c]? = some z ∧ z.th = i ∧ z.ak = 0 ∧ opOf kd z k ∧ ∀ (j : Nat) (x : Cl), P.cls[j]? = some x → x.th = i → j ≠ c → j < c ∧ x.fin < z.beg
theorem On.mono {b b' : Int} (h : On P b) (hb : b ≤ b') : On P b' :=
  ⟨fun j x hx => ⟨by have := (h.fin j x hx).1; omega, by have := (h.fin j x hx).2; omega⟩, fun j x hx h1 h2 => ⟨(h.ok j x hx h1 h2).1, (h.ok j x hx h1 h2).2.imp_right (fun g => g.mono hb)⟩, h.pair, h.th⟩
theorem st_eq {A A' : Ao} (h : A'.sl = A.sl) (s : Int) : A'.st s = A.st s := by unfold Ao.st; rw [h]
theorem has_eq {A A' : Ao} (h : A'.sl = A.sl) (s : Int) : A'.has s ↔ A.has s := by unfold Ao.has; rw [h]
/-- The slots have changed, the calls have not: the thread goes on. -/
theorem On.on {b : Int} (hO : On P b) {t : At} {kd : Kd} {k k' : Pk} (ht : P.pts[i]? = some t) (hk : t.tk = some (kd, k)) {Q : Pa} {t' : At} (q1 : Q.cls = P.cls) (q2 : Q.pts = P.pts.set i t') (q3 : t'.call = t.call) (q4 : t'.tk = some (kd, k')) (q5 : kd = .give → k'.sl = k.sl)
    (q6 : ∀ s, Q.A.has s ↔ P.A.has s) (q7 : ∀ s th, P.A.has s → P.A.st s = (2, th) → Q.A.st s = (2, th)) : On Q b := by
  obtain ⟨o1, o2, o3, o4⟩ := hO
  refine ⟨by rw [q1]; exact o1, fun j x hx h1 h2 => ?_, by rw [q1]; exact o3, fun j u kd' ku hu hku => ?_⟩
  · rw [q1] at hx
    obtain ⟨h3, h4⟩ := o2 j x hx h1 h2
    refine ⟨(q6 _).2 h3, ?_⟩
    rcases h4 with h4 | h4
    · exact .inl (q7 _ _ h3 h4)
    · exact .inr (by rw [q1]; exact h4)
  · rw [q2, List.getElem?_set] at hu
    rw [q1]
    split at hu
    · rename_i e
      subst e
      split at hu
      · cases hu
        rw [q4] at hku
        cases hku
        obtain ⟨c, z, h1, h2, h3, h4, h5, h6⟩ := o4 i t kd k ht hk
        refine ⟨c, z, q3.trans h1, h2, h3, h4, ?_, h6⟩
        cases kd with
        | take => exact h5
        | give => exact ⟨h5.1, h5.2.trans (q5 rfl).symm⟩
        | flush => exact h5
      · cases hu
    · exact o4 j u kd' ku hu hku
/-- The thread's call has ended at the move now. -/
theorem On.done {now : Int} (hO : On P now) {t : At} {kd : Kd} {k : Pk} (ht : P.pts[i]? = some t) (hk : t.tk = some (kd, k)) {Q : Pa} {t' : At} {ak av : Int} (q1 : Q.cls = Pa.setC P.cls t.call.toNat now ak av) (q2 : Q.pts = P.pts.set i t') (q4 : t'.tk = none)
    (q6 : ∀ s, Q.A.has s ↔ P.A.has s) (q7 : ∀ s th, P.A.has s → P.A.st s = (2, th) → Q.A.st s = (2, th) ∨ (kd = .give ∧ s = k.sl ∧ th = i))
    (q8 : kd = .take → ak = 2 → P.A.has av ∧ (P.A.st av).1 ≠ 2 ∧ Q.A.st av = (2, (i : Int))) : On Q (now + 1) := by
  obtain ⟨o1, o2, o3, o4⟩ := hO
  obtain ⟨c, z, h1, h2, h3, h4, h5, h6⟩ := o4 i t kd k ht hk
  have hc : t.call.toNat = c := by omega
  rw [hc] at q1
  have get := fun g => setC_get (now := now) (ak := ak) (av := av) h2 g
  have hK : Clk P.cls Q.cls := by rw [q1]; exact Clk.setC h2
  have old : ∀ (j : Nat) (x : Cl), Q.cls[j]? = some x → (j = c ∧ x = { z with fin := now, ak := ak, av := av }) ∨ (j ≠ c ∧ P.cls[j]? = some x) := fun j x hx => by
    rw [q1, get] at hx
    split at hx
    · cases hx; exact .inl ⟨by assumption, rfl⟩
    · exact .inr ⟨by assumption, hx⟩
  have isT : z.op = 10 → kd = .take := fun e => by
    cases kd with
    | take => rfl
    | give => have := h5.1; omega
    | flush => have : z.op = 12 := h5; omega
  have hz := o1 c z h2
  have Gw : ∀ (j : Nat) (x : Cl), P.cls[j]? = some x → j ≠ c → x.op = 10 → x.ak = 2 → ¬ Q.A.st x.av = (2, x.th) ∨ P.A.st x.av ≠ (2, x.th) → Gvn Q.cls j x now := fun j x hx hj e1 e2 hn => by
    obtain ⟨h7, h8⟩ := o2 j x hx e1 e2
    rcases h8 with h8 | h8
    · rcases hn with hn | hn
      · rcases q7 _ _ h7 h8 with h9 | ⟨h9, h10, h11⟩
        · exact absurd h9 hn
        · subst h9
          obtain ⟨h12, h13⟩ := h6 j x hx h11 hj
          exact Gvn.kept ⟨c, z, h2, h12, h5.1, by rw [h5.2, h10], by rw [h3, h11], h13, hz.2⟩ hK
      · exact absurd h8 hn
    · exact h8.kept hK
  refine ⟨fun j x hx => ?_, fun j x hx e1 e2 => ?_, fun j x k' y hx hy hne e1 e2 e3 e4 e5 e6 => ?_, fun j u kd' ku hu hku => ?_⟩
  · rcases old j x hx with ⟨rfl, rfl⟩ | ⟨hj, hx⟩
    · exact ⟨by show now < now + 1; omega, by show z.beg < now + 1; omega⟩
    · have := o1 j x hx; omega
  · rcases old j x hx with ⟨rfl, rfl⟩ | ⟨hj, hx⟩
    · obtain ⟨r1, r2, r3⟩ := q8 (isT e1) e2
      exact ⟨(q6 _).2 r1, .inl (by rw [h3]; exact r3)⟩
    · refine ⟨(q6 _).2 (o2 j x hx e1 e2).1, ?_⟩
      by_cases hs : Q.A.st x.av = (2, x.th)
      · exact .inl hs
      · exact .inr ((Gw j x hx hj e1 e2 (.inl hs)).mono (by omega))
  · rcases old j x hx with ⟨rfl, rfl⟩ | ⟨hj, hx⟩
    · rcases old k' y hy with ⟨rfl, rfl⟩ | ⟨hk', hy⟩
      · exact absurd rfl hne
      · have := (o1 k' y hy).1
        have : now ≤ y.fin := e6
        omega
    · rcases old k' y hy with ⟨rfl, rfl⟩ | ⟨hk', hy⟩
      · obtain ⟨r1, r2, r3⟩ := q8 (isT e3) e4
        have e5' : av = x.av := e5
        refine Gw j x hx hj e1 e2 (.inr fun e => r2 ?_)
        rw [e5', e]
      · exact (o3 j x k' y hx hy hne e1 e2 e3 e4 e5 e6).kept hK
  · rw [q2, List.getElem?_set] at hu
    split at hu
    · split at hu
      · cases hu; rw [q4] at hku; cases hku
      · cases hu
    · rename_i hj
      obtain ⟨c', z', r1, r2, r3, r4, r5, r6⟩ := o4 j u kd' ku hu hku
      have hcc : c' ≠ c := fun e => by
        subst e
        rw [h2] at r2
        cases r2
        omega
      refine ⟨c', z', r1, by rw [q1, get, if_neg hcc]; exact r2, r3, r4, r5, fun g x hx hx2 hg => ?_⟩
      rcases old g x hx with ⟨rfl, rfl⟩ | ⟨hg', hx⟩
      · have : z.th = j := hx2
        omega
      · exact r6 g x hx hx2 hg
theorem On.step (hI : Inv P b) (hb : b < 65536) {now : Int} (hO : On P now) {t : At} (ht : P.pts[i]? = some t) : On (P.step i t now).1 (now + 1) := by
  have hi : i < P.pts.length := (List.getElem?_eq_some_iff.1 ht).1
  cases hk : t.tk with
  | none => simp only [Pa.step, hk]; exact hO.mono (by omega)
  | some kk =>
    obtain ⟨kd, k⟩ := kk
    have hT := hI.th i t kd k ht hk
    have hE := work_ef (now := now) hI hi hT
    have hR := (work_core (now := now) hI hb hi hT).1
    simp only [Pa.step, hk]
    generalize P.work i now t.fr kd k = r at *
    have e1 := hR.pts
    have e2 := hR.cls
    have hh := hR.frm.has
    cases he : r.2.2 with
    | true =>
      simp only [if_true]
      refine hO.done ht hk (t' := ⟨none, false, t.call⟩) (by rw [e2]) (by rw [e1]) rfl hh ?_ ?_
      · intro s th hs hst
        show r.1.A.st s = (2, th) ∨ _
        cases hE with
        | same hs' _ _ => rw [st_eq hs']; exact .inl hst
        | took hkd htk _ hs' hh' h0 =>
          left
          rw [st_eq hs', put_other _ _ _ _ _ hh' hs (fun e => by subst e; rw [hst] at h0; exact h0 rfl)]
          exact hst
        | gave hkd _ to hs' =>
          subst hkd
          by_cases e : s = k.sl
          · right
            refine ⟨rfl, e, ?_⟩
            have := hT.2.1
            rw [← e, hst] at this
            simpa using this
          · left
            rw [st_eq hs', put_other _ _ _ _ _ hT.1 hs e]
            exact hst
        | flushed hkd s' hs' hh' h0 =>
          left
          rw [st_eq hs', put_other _ _ _ _ _ hh' hs (fun e => by subst e; rw [hst] at h0; exact h0 rfl)]
          exact hst
      · intro hkd hak
        subst hkd
        cases hE with
        | same hs' hk' _ => simp [Pa.answer, hk'] at hak
        | took hkd htk _ hs' hh' h0 =>
          have ea : (Pa.answer .take r.2.1).2 = r.2.1.sl := by simp [Pa.answer, htk]
          rw [ea]
          refine ⟨hh', h0, ?_⟩
          show r.1.A.st r.2.1.sl = _
          rw [st_eq hs', put_same _ _ _ _ hh']
          simp [holder]
        | gave hkd _ _ _ => cases hkd
        | flushed hkd _ _ _ _ => cases hkd
    | false =>
      simp only [Bool.false_eq_true, if_false]
      refine On.mono (P := { r.1 with pts := r.1.pts.set i ⟨some (kd, r.2.1), false, t.call⟩ }) (b := now) ?_ (by omega)
      refine hO.on ht hk (k' := r.2.1) (t' := ⟨some (kd, r.2.1), false, t.call⟩) e2 (by rw [e1]) rfl rfl ?_ hh ?_
      · intro e
        cases hE with
        | same hs' _ hg => exact hg e
        | took hkd _ he' _ _ _ => rw [he] at he'; cases he'
        | gave hkd he' _ _ => rw [he] at he'; cases he'
        | flushed hkd _ _ _ _ => rw [e] at hkd; cases hkd
      · intro s th hs hst
        show r.1.A.st s = (2, th)
        cases hE with
        | same hs' _ _ => rw [st_eq hs']; exact hst
        | took hkd _ he' _ _ _ => rw [he] at he'; cases he'
        | gave hkd he' _ _ => rw [he] at he'; cases he'
        | flushed hkd s' hs' hh' h0 =>
          rw [st_eq hs', put_other _ _ _ _ _ hh' hs (fun e => by subst e; rw [hst] at h0; exact h0 rfl)]
          exact hst
theorem On.begins {now : Int} (hO : On P now) (h0 : 0 ≤ now) (op arg data : Int) : On (P.begins i op arg data now).1 (now + 1) := by
  unfold Pa.begins
  cases hm : P.maker i op arg with
  | none => exact hO.mono (by omega)
  | some tk =>
    obtain ⟨o1, o2, o3, o4⟩ := hO
    have hK : Clk P.cls (P.cls ++ [⟨i, op, arg, data, now, -1, -1, 0, 0⟩]) := fun g z hz => ⟨z, by rw [List.getElem?_append_left (List.getElem?_eq_some_iff.1 hz).1]; exact hz, rfl, rfl, rfl, rfl⟩
    have old : ∀ (j : Nat) (x : Cl), (P.cls ++ [⟨i, op, arg, data, now, -1, -1, 0, 0⟩])[j]? = some x → (j = P.cls.length ∧ x = ⟨i, op, arg, data, now, -1, -1, 0, 0⟩) ∨ (j < P.cls.length ∧ P.cls[j]? = some x) := fun j x hx => by
      rw [List.getElem?_append] at hx
      split at hx
      · exact .inr ⟨by assumption, hx⟩
      · left
        have hl := (List.getElem?_eq_some_iff.1 hx).1
        simp at hl
        have e : j - P.cls.length = 0 := by omega
        rw [e] at hx
        cases hx
        exact ⟨by omega, rfl⟩
    refine ⟨fun j x hx => ?_, fun j x hx e1 e2 => ?_, fun j x k' y hx hy hne e1 e2 e3 e4 e5 e6 => ?_, fun j u kd' ku hu hku => ?_⟩
    · rcases old j x hx with ⟨rfl, rfl⟩ | ⟨hj, hx⟩
      · exact ⟨by show (-1 : Int) < now + 1; omega, by show now < now + 1; omega⟩
      · have := o1 j x hx; omega
    · rcases old j x hx with ⟨rfl, rfl⟩ | ⟨hj, hx⟩
      · cases e2
      · exact ⟨(o2 j x hx e1 e2).1, (o2 j x hx e1 e2).2.imp_right (fun g => (g.kept hK).mono (by omega))⟩
    · rcases old j x hx with ⟨rfl, rfl⟩ | ⟨hj, hx⟩
      · cases e2
      · rcases old k' y hy with ⟨rfl, rfl⟩ | ⟨hk', hy⟩
        · cases e4
        · exact (o3 j x k' y hx hy hne e1 e2 e3 e4 e5 e6).kept hK
    · have hu' : (P.pts.set i ⟨some tk, true, (P.cls.length : Int)⟩)[j]? = some u := hu
      rw [List.getElem?_set] at hu'
      split at hu'
      · rename_i e
        subst e
        split at hu'
        · cases hu'
          cases hku
          refine ⟨P.cls.length, ⟨i, op, arg, data, now, -1, -1, 0, 0⟩, rfl, by simp, rfl, rfl, ?_, fun g x hx hx2 hg => ?_⟩
          · unfold Pa.maker at hm
            split at hm
            · cases hm; assumption
            · split at hm
              · split at hm
                · cases hm; exact ⟨by assumption, rfl⟩
                · cases hm
              · split at hm
                · cases hm; assumption
                · cases hm
          · rcases old g x hx with ⟨rfl, rfl⟩ | ⟨hg', hx⟩
            · exact absurd rfl hg
            · exact ⟨hg', (o1 g x hx).1⟩
        · cases hu'
      · rename_i hj
        obtain ⟨c', z', r1, r2, r3, r4, r5, r6⟩ := o4 j u kd' ku hu' hku
        have hl := (List.getElem?_eq_some_iff.1 r2).1
        refine ⟨c', z', r1, by show (P.cls ++ _)[c']? = _; rw [List.getElem?_append_left hl]; exact r2, r3, r4, r5, fun g x hx hx2 hg => ?_⟩
        rcases old g x hx with ⟨rfl, rfl⟩ | ⟨hg', hx⟩
        · have : (i : Int) = j := hx2
          omega
        · exact r6 g x hx hx2 hg
theorem On.move (hO : On P P.n) (h : Inv P P.n) (th op arg data : Int) : On (P.move th op arg data).1 (P.move th op arg data).1.n := by
  have hc : On P.count P.n := ⟨hO.fin, hO.ok, hO.pair, hO.th⟩
  have e0 : (P.count.n : Int) = (P.n : Int) + 1 := by show ((P.n + 1 : Nat) : Int) = _; omega
  have hc1 : On P.count P.count.n := by rw [e0]; exact hc.mono (by omega)
  unfold Pa.move
  split
  · exact hO
  · rename_i hn
    split
    · split
      · exact hc1
      · rename_i t ht
        split
        · have e1 : (P.count.step th.toNat t P.n).1.n = P.count.n := by
            obtain ⟨tk, fr, call⟩ := t
            rcases tk with _ | ⟨kd, k⟩
            · rfl
            · have hi : th.toNat < P.count.pts.length := (List.getElem?_eq_some_iff.1 ht).1
              have r := (work_core (now := P.n) h.count (by omega) hi (h.count.th _ _ kd k ht rfl)).1.n
              simp only [Pa.step]
              split <;> exact r
          rw [e1, e0]
          exact On.step h.count (by omega) hc ht
        · split
          · exact hc1
          · have e1 : (P.count.begins th.toNat op arg data P.n).1.n = P.count.n := by
              unfold Pa.begins
              split <;> rfl
            rw [e1, e0]
            exact hc.begins (by omega) op arg data
    · exact hc1
theorem On.play (ms : List Mv) : ∀ {P : Pa}, On P P.n → Inv P P.n → On (P.play ms) (P.play ms).n := by
  induction ms with
  | nil => exact fun h _ => h
  | cons x ms ih => exact fun h hI => ih (h.move hI x.th x.op x.arg x.data) (hI.move _ _ _ _)
theorem On.start (m K : Nat) (A : Ao) (nt : Nat) (ws : List Int) : On (Pa.new m K A nt ws) 0 := by
  refine ⟨fun j x hx => by simp [Pa.new] at hx, fun j x hx => by simp [Pa.new] at hx, fun j x k y hx => by simp [Pa.new] at hx, fun j t kd k hu hk => ?_⟩
  simp only [Pa.new, List.getElem?_replicate] at hu
  split at hu
  · cases hu; cases hk
  · cases hu
/-- What the law's innermost loop has found among n calls behind the call j. -/
def gvf (cls : List Cl) (j : Nat) (x : Cl) (e : Int) : Nat → Bool
  | 0 => false
  | n + 1 => gvf cls j x e n || (match cls[j + 1 + n]? with
    | some z => z.op == 11 && (z.arg == x.av && (z.th == x.th && (decide (x.fin < z.beg) && decide (z.beg < e))))
    | none => false)
theorem gvf_le {cls : List Cl} {j : Nat} {x : Cl} {e : Int} {n : Nat} (h : gvf cls j x e n = true) (m : Nat) : gvf cls j x e (n + m) = true := by
  induction m with
  | zero => exact h
  | succ m ih => show (gvf cls j x e (n + m) || _) = true; rw [ih]; rfl
theorem gvf_of {cls : List Cl} {j : Nat} {x : Cl} {e : Int} (h : Gvn cls j x e) : gvf cls j x e (cls.length - (j + 1)) = true := by
  obtain ⟨g, z, h1, h2, h3, h4, h5, h6, h7⟩ := h
  have hg : g < cls.length := (List.getElem?_eq_some_iff.1 h1).1
  obtain ⟨n, rfl⟩ : ∃ n, g = j + 1 + n := ⟨g - (j + 1), by omega⟩
  have : gvf cls j x e (n + 1) = true := by
    show (gvf cls j x e n || _) = true
    rw [h1]
    simp [h3, h4, h5, h6, h7]
  have := gvf_le this (cls.length - (j + 1) - (n + 1))
  rwa [show n + 1 + (cls.length - (j + 1) - (n + 1)) = cls.length - (j + 1) by omega] at this
end
end Go.Proofs.YtkfpiafgfjpodabGreat.Ar
/-
  The pure part of ArenaAlone: how many steps a call needs that is stepped alone.
-/
namespace Go.Proofs.YtkfpiafgfjpodabGreat.Ar
open Go.RowKit Go.Shelf Mr Me Ma Wc Wm Wr
/-- Steps that are left to a giver with its slot. -/
def muG (P : Pa) (k : Pk) : Nat := if k.nx = 5 then 3 else if k.nx = 7 then (if k.hd = P.word 0 then 2 else 5) else (if k.hd = P.word 0 then 1 else 4)
def muT (P : Pa) (k : Pk) : Nat := if k.nx = 5 then 3 else if k.nx = 6 then (if k.hd = P.word 0 then 2 else 5) else (if k.hd = P.word 0 then 1 else 4)
def muK (P : Pa) (i : Nat) (fr : Bool) (kd : Kd) (k : Pk) : Nat := match kd with
  | .take => if fr = true then 3 else muT P k
  | .give => if fr = true then 3 else muG P k
  | .flush => if fr = true then 3 * (P.A.cache i).length + 1 else muG P k + 3 * ((P.A.cache i).length - 1)
def mu (P : Pa) (i : Nat) : Nat := match P.pts[i]? with
  | none => 0
  | some t => match t.tk with
    | none => 0
    | some (kd, k) => muK P i t.fr kd k
def opAt (P : Pa) (i : Nat) : Int := match P.pts[i]? with
  | none => 0
  | some t => if t.call = -1 then 0 else (match P.cls[t.call.toNat]? with
    | none => 0
    | some x => x.op)
def busy (P : Pa) (i : Nat) : Bool := match P.pts[i]? with
  | none => false
  | some t => t.tk.isSome
section
variable {P : Pa} {b i : Nat}
theorem muG_le (P : Pa) (k : Pk) : 1 ≤ muG P k ∧ muG P k ≤ 5 := by unfold muG; (repeat' split) <;> omega
theorem muT_le (P : Pa) (k : Pk) : 1 ≤ muT P k ∧ muT P k ≤ 5 := by unfold muT; (repeat' split) <;> omega
theorem stepG {now : Int} {k : Pk} {fl : Bool} (hm : 0 < P.m) (hg : Gv P k) : ((givP P i now k fl).2.2 = false → P.word 0 ≠ k.hd ∨ k.nx ≠ 8 → muG (givP P i now k fl).1 (givP P i now k fl).2.1 + 1 ≤ muG P k ∧ (givP P i now k fl).1.A = P.A) := by
  intro he hn
  unfold givP at *
  rcases hg with h5 | ⟨h7, _⟩ | ⟨h8, _, _⟩
  · simp only [if_pos h5] at *
    refine ⟨?_, rfl⟩
    have : (P.load i now 0).word 0 = P.word 0 := rfl
    simp [muG, h5, this]
  · simp only [if_neg (show ¬ k.nx = 5 by omega), if_pos h7] at *
    refine ⟨?_, rfl⟩
    have : (P.store i now (P.spare k.sl) (firstOf k.hd + 1)).word 0 = P.word 0 := by
      simp only [Pa.word, Pa.store, List.getElem?_set]
      rw [if_neg (by unfold Pa.spare; omega)]
    simp only [muG, this, h7]
    simp
    split <;> omega
  · simp only [if_neg (show ¬ k.nx = 5 by omega), if_neg (show ¬ k.nx = 7 by omega)] at *
    by_cases hw : P.word 0 = k.hd
    · omega
    · simp only [if_neg hw] at *
      refine ⟨?_, rfl⟩
      have hw' : ¬ k.hd = P.word 0 := fun e => hw e.symm
      simp [muG, h8, hw']
theorem mu_step (h : Inv P b) {now : Int} {t : At} {kd : Kd} {k : Pk} (ht : P.pts[i]? = some t) (hk : t.tk = some (kd, k)) : (P.work i now t.fr kd k).2.2 = true ∨ muK (P.work i now t.fr kd k).1 i false kd (P.work i now t.fr kd k).2.1 + 1 ≤ muK P i t.fr kd k := by
  have hi : i < P.pts.length := (List.getElem?_eq_some_iff.1 ht).1
  have hT := h.th i t kd k ht hk
  have key : ∀ k', Tok P i false kd k' → (P.stepP i now k' kd).2.2 = true ∨ muK (P.stepP i now k' kd).1 i false kd (P.stepP i now k' kd).2.1 + 1 ≤ muK P i false kd k' := by
    intro k' hT'
    cases kd with
    | take =>
      obtain ⟨t0, t1⟩ := hT'
      simp only [Bool.false_eq_true, if_false] at t1
      obtain ⟨t1, t2⟩ := t1
      simp only [muK, Bool.false_eq_true, if_false, Pa.stepP]
      rcases t2 with t2 | ⟨t2, t3, t4, t5, t6⟩
      · by_cases hh : P.A.has (firstOf (P.word 0))
        · simp only [if_pos t2, if_pos hh]
          right
          have : (P.load i now 0).word 0 = P.word 0 := rfl
          simp [muT, t2, this]
        · simp only [if_pos t2, if_neg hh]
          exact .inl trivial
      · rcases t2 with t2 | t2
        · simp only [if_neg (show ¬ k'.nx = 5 by omega), if_pos t2]
          right
          have : (P.load i now (P.spare k'.sl)).word 0 = P.word 0 := rfl
          simp only [muT, t2, this]
          simp
          split <;> omega
        · by_cases hw : P.word 0 = k'.hd
          · simp only [if_neg (show ¬ k'.nx = 5 by omega), if_neg (show ¬ k'.nx = 6 by omega), if_pos hw]
            exact .inl trivial
          · simp only [if_neg (show ¬ k'.nx = 5 by omega), if_neg (show ¬ k'.nx = 6 by omega), if_neg hw]
            right
            have hw' : ¬ k'.hd = P.word 0 := fun e => hw e.symm
            simp [muT, t2, hw']
    | give =>
      rw [stepP_give]
      simp only [muK, Bool.false_eq_true, if_false]
      obtain ⟨t1, t2, t3⟩ := hT'
      simp only [Bool.false_eq_true, if_false] at t3
      cases he : (givP P i now k' false).2.2 with
      | true => exact .inl rfl
      | false =>
        right
        refine (stepG h.m0 t3 he ?_).1
        by_cases hw : P.word 0 = k'.hd
        · right
          intro h8
          simp [givP, h8, hw] at he
        · exact .inl hw
    | flush =>
      rw [stepP_flush]
      simp only [muK, Bool.false_eq_true, if_false]
      simp only [Tok, Bool.false_eq_true, if_false] at hT'
      obtain ⟨t1, t2, t3⟩ := hT'
      have hc := h.cacheEq hi
      cases he : (givP P i now k' true).2.2 with
      | true => exact .inl rfl
      | false =>
        right
        by_cases hn : P.word 0 ≠ k'.hd ∨ k'.nx ≠ 8
        · obtain ⟨g1, g2⟩ := stepG h.m0 t3 he hn
          rw [g2]
          omega
        · have hw : P.word 0 = k'.hd := by omega
          have h8 : k'.nx = 8 := by omega
          have hlen : i < P.A.ca.length := (List.getElem?_eq_some_iff.1 hc).1
          have hL : 0 < (P.A.cache i).length := by
            rcases hcc : P.A.cache i with _ | ⟨x, l⟩
            · rw [hcc] at t2; simp at t2
            · simp
          have e1 : muG P k' = 1 := by simp [muG, h8, hw]
          rw [e1]
          have e2 : givP P i now k' true = ((P.hit i now 0 k'.hd (headBehind k'.hd k'.sl)).shift i now k'.sl 0).next i k' := by simp [givP, h8, hw]
          rw [e2] at he ⊢
          have e3 : (((P.hit i now 0 k'.hd (headBehind k'.hd k'.sl)).shift i now k'.sl 0).next i k').1.A.cache i = (P.A.cache i).dropLast := by
            have : (((P.hit i now 0 k'.hd (headBehind k'.hd k'.sl)).shift i now k'.sl 0).next i k').1.A.ca = P.A.ca.set i (P.A.cache i).dropLast := by
              simp only [Pa.next]
              split <;> rfl
            simp only [Ao.cache, this, List.getElem?_set]
            simp [hlen]
          have e4 : (((P.hit i now 0 k'.hd (headBehind k'.hd k'.sl)).shift i now k'.sl 0).next i k').2.1.nx = 5 := by
            simp only [Pa.next] at he ⊢
            split at he
            · cases he
            · rename_i hn
              rw [if_neg hn]
          have e5 : muG (((P.hit i now 0 k'.hd (headBehind k'.hd k'.sl)).shift i now k'.sl 0).next i k').1 (((P.hit i now 0 k'.hd (headBehind k'.hd k'.sl)).shift i now k'.sl 0).next i k').2.1 = 3 := by unfold muG; rw [if_pos e4]
          have e6 : (P.A.cache i).length ≥ 2 := by
            simp only [Pa.next] at he
            split at he
            · cases he
            · rename_i hn
              rcases hcc : P.A.cache i with _ | ⟨x, _ | ⟨y, l⟩⟩
              · rw [hcc] at hL; simp at hL
              · exfalso
                apply hn
                have hcc' : P.A.ca[i] = [x] := by
                  have := (List.getElem?_eq_some_iff.1 hc).2
                  rw [this, hcc]
                simp [Ao.last, Ao.cache, Pa.keep, Ao.keep, Pa.shift, Pa.hit, Ao.put, hcc', hlen]
              · simp
          rw [e5, e3, List.length_dropLast]
          omega
  unfold Pa.work
  cases hf : t.fr with
  | false => rw [if_neg (by decide)]; rw [hf] at hT; exact key k hT
  | true =>
    rw [hf] at hT
    rw [if_pos rfl]
    cases he : (P.ready i now k kd).2.2 with
    | true => simp only [he, if_true]; exact .inl trivial
    | false =>
      simp only [he, Bool.false_eq_true, if_false]
      obtain ⟨e1, e2⟩ := ready_no h hi hT he
      rw [e1]
      rcases key _ e2 with r | r
      · exact .inl r
      · right
        refine Nat.le_trans r ?_
        cases kd with
        | take =>
          have : (P.ready i now k .take).2.1.nx = 5 := by
            simp only [Pa.ready] at he ⊢
            split at he
            · rename_i hn; rw [if_pos hn]
            · cases he
          simp [muK, muT, this]
        | give =>
          have : (P.ready i now k .give).2.1.nx = 5 := by
            simp only [Pa.ready] at he ⊢
            split at he
            · cases he
            · rename_i hn; rw [if_neg hn]
          simp [muK, muG, this]
        | flush =>
          have : (P.ready i now k .flush).2.1.nx = 5 := by
            simp only [Pa.ready] at he ⊢
            split at he
            · cases he
            · rename_i hn; rw [if_neg hn]
          have hL : 0 < (P.A.cache i).length := by
            simp only [Tok, Bool.false_eq_true, if_false] at e2
            rcases hcc : P.A.cache i with _ | ⟨x, l⟩
            · have := e2.2.1; rw [hcc] at this; simp at this
            · simp
          simp only [muK, muG, this]
          simp
          omega
/-- A step of a busy thread: it ends, or fewer are left. -/
theorem mu_move (h : Inv P P.n) (hn : P.n < 65536) (hB : busy P i = true) (arg data : Int) : busy (P.move i 0 arg data).1 i = false ∨ (mu (P.move i 0 arg data).1 i + 1 ≤ mu P i) := by
  unfold busy at hB
  cases ht : P.pts[i]? with
  | none => rw [ht] at hB; cases hB
  | some t =>
    rw [ht] at hB
    have hi : i < P.pts.length := (List.getElem?_eq_some_iff.1 ht).1
    cases hk : t.tk with
    | none => simp [hk] at hB
    | some kk =>
      obtain ⟨kd, k⟩ := kk
      have hmu : mu P i = muK P i t.fr kd k := by simp [mu, ht, hk]
      have hm := mu_step (P := P.count) (now := (P.n : Int)) h.count ht hk
      have hR := (work_core (P := P.count) (now := (P.n : Int)) h.count hn hi (h.count.th i t kd k ht hk)).1.pts
      have e0 : (P.move i 0 arg data).1 = (P.count.step i t P.n).1 := by
        unfold Pa.move
        rw [if_neg (by omega), if_pos (by omega)]
        simp only [Int.toNat_natCast]
        rw [ht]
        simp
      rw [e0]
      simp only [Pa.step, hk]
      generalize P.count.work i P.n t.fr kd k = r at *
      have hr : i < r.1.pts.length := by rw [hR]; exact hi
      cases he : r.2.2 with
      | true =>
        left
        simp [busy, hr]
      | false =>
        right
        rcases hm with hm | hm
        · rw [he] at hm; cases hm
        · simp only [Bool.false_eq_true, if_false]
          have e1 : mu { r.1 with pts := r.1.pts.set i ⟨some (kd, r.2.1), false, t.call⟩ } i = muK { r.1 with pts := r.1.pts.set i ⟨some (kd, r.2.1), false, t.call⟩ } i false kd r.2.1 := by simp [mu, hr]
          rw [e1, hmu]
          exact hm
/-- How many there may be. -/
theorem mu_le {bo : Int} (h : Inv P b) (hO : On P bo) (hB : busy P i = true) : mu P i ≤ if opAt P i = 12 then 3 * (P.A.cache i).length + 3 else 5 := by
  unfold busy at hB
  cases ht : P.pts[i]? with
  | none => rw [ht] at hB; cases hB
  | some t =>
    rw [ht] at hB
    have hi : i < P.pts.length := (List.getElem?_eq_some_iff.1 ht).1
    cases hk : t.tk with
    | none => simp [hk] at hB
    | some kk =>
      obtain ⟨kd, k⟩ := kk
      have hT := h.th i t kd k ht hk
      obtain ⟨c, z, h1, h2, h3, h4, h5, h6⟩ := hO.th i t kd k ht hk
      have hmu : mu P i = muK P i t.fr kd k := by simp [mu, ht, hk]
      have ho : opAt P i = z.op := by
        simp only [opAt, ht, h1]
        rw [if_neg (by omega), Int.toNat_natCast, h2]
      rw [hmu, ho]
      have g1 := muG_le P k
      have g2 := muT_le P k
      cases kd with
      | take =>
        have : z.op = 10 := h5
        rw [if_neg (by omega)]
        simp only [muK]
        split <;> omega
      | give =>
        have : z.op = 11 := h5.1
        rw [if_neg (by omega)]
        simp only [muK]
        split <;> omega
      | flush =>
        have : z.op = 12 := h5
        rw [if_pos this]
        simp only [muK]
        split
        · omega
        · rename_i hf
          have hL : 0 < (P.A.cache i).length := by
            simp only [Tok, if_neg hf] at hT
            rcases hcc : P.A.cache i with _ | ⟨x, l⟩
            · have := hT.2.1; rw [hcc] at this; simp at this
            · simp
          omega
end
end Go.Proofs.YtkfpiafgfjpodabGreat.Ar
/-
  The pure part of ArenaHonest: a take that answers Full saw no slot in Free, none is free, and its thread's cache is empty.
-/
namespace Go.Proofs.YtkfpiafgfjpodabGreat.Ar
open Go.RowKit Go.Shelf Mr Me Ma Wc Wm Wr
/-- An access that is a load of Free, at the move e, by the thread th, that saw no slot. -/
def Saw (lg : List Acc) (e th : Int) : Prop := ∃ (k : Nat) (a : Acc), lg[k]? = some a ∧ a.mv = e ∧ a.th = th ∧ a.kd = 1 ∧ a.ad = 0 ∧ a.saw % 4294967296 = 0
theorem Saw.more {lg : List Acc} {e th : Int} (h : Saw lg e th) (l : List Acc) : Saw (lg ++ l) e th := by
  obtain ⟨k, a, h1, h2⟩ := h
  exact ⟨k, a, by rw [List.getElem?_append_left (List.getElem?_eq_some_iff.1 h1).1]; exact h1, h2⟩
section
variable {P : Pa} {b i : Nat}
/-- What a step makes of the log: it grows. -/
theorem step_grow {now : Int} {kd : Kd} {k : Pk} : ∃ l, (P.stepP i now k kd).1.lg = P.lg ++ l := by
  cases kd with
  | take => simp only [Pa.stepP]; (repeat' split) <;> exact ⟨_, rfl⟩
  | give => rw [stepP_give]; unfold givP; simp only [Bool.false_eq_true, if_false]; (repeat' split) <;> exact ⟨_, rfl⟩
  | flush =>
    rw [stepP_flush]
    unfold givP
    split
    · exact ⟨_, rfl⟩
    · split
      · exact ⟨_, rfl⟩
      · split
        · simp only [if_true, Pa.next]
          split <;> exact ⟨_, rfl⟩
        · exact ⟨_, rfl⟩
theorem ready_lg {now : Int} {kd : Kd} {k : Pk} : (P.ready i now k kd).1.lg = P.lg := by
  cases kd <;> simp only [Pa.ready] <;> split <;> rfl
theorem work_grow {now : Int} {fr : Bool} {kd : Kd} {k : Pk} : ∃ l, (P.work i now fr kd k).1.lg = P.lg ++ l := by
  unfold Pa.work
  cases fr with
  | false => rw [if_neg (by decide)]; exact step_grow
  | true =>
    rw [if_pos rfl]
    cases he : (P.ready i now k kd).2.2 with
    | true => simp only [he, if_true]; exact ⟨[], by rw [ready_lg]; simp⟩
    | false =>
      simp only [he, Bool.false_eq_true, if_false]
      obtain ⟨l, hl⟩ := step_grow (P := (P.ready i now k kd).1) (i := i) (now := now) (k := (P.ready i now k kd).2.1) (kd := kd)
      exact ⟨l, by rw [hl, ready_lg]⟩
/-- No slot in Free: none is free. -/
theorem none_free (h : Inv P b) (hh : ¬ P.A.has (firstOf (P.word 0))) : P.word 0 % 4294967296 = 0 ∧ ∀ s, P.A.has s → (P.A.st s).1 ≠ 0 := by
  obtain ⟨l, h1, h2, h3⟩ := h.fl
  have hns := h.ns
  have hw := h.w0.1
  have hf := firstOf_eq (h := P.word 0) (by omega)
  cases l with
  | nil =>
    refine ⟨h1, fun s hs h0 => ?_⟩
    have := (h3 s).2 ⟨hs, h0⟩
    simp at this
  | cons a l =>
    exfalso
    apply hh
    have := ((h3 a).1 (by simp)).1
    rw [hf, h1.1]
    rw [show a + 1 - 1 = a by omega]
    exact this
/-- A take that ends with nothing. -/
theorem take_lack (h : Inv P b) (hi : i < P.pts.length) {now : Int} {fr : Bool} {k : Pk} (hT : Tok P i fr .take k) (he : (P.work i now fr .take k).2.2 = true) (ht : (P.work i now fr .take k).2.1.tk = false) :
    (P.work i now fr .take k).1.lg = P.lg ++ [⟨now, i, 1, 0, 0, 0, P.word 0⟩] ∧ P.word 0 % 4294967296 = 0 ∧ (∀ s, P.A.has s → (P.A.st s).1 ≠ 0) ∧ P.A.cache i = [] ∧ (P.work i now fr .take k).1.A = P.A := by
  have key : ∀ k', Tok P i false .take k' → (P.stepP i now k' .take).2.2 = true → (P.stepP i now k' .take).2.1.tk = false → (P.stepP i now k' .take).1.lg = P.lg ++ [⟨now, i, 1, 0, 0, 0, P.word 0⟩] ∧ P.word 0 % 4294967296 = 0 ∧ (∀ s, P.A.has s → (P.A.st s).1 ≠ 0) ∧ P.A.cache i = [] ∧ (P.stepP i now k' .take).1.A = P.A := by
    intro k' hT' he' ht'
    obtain ⟨t0, t1⟩ := hT'
    simp only [Bool.false_eq_true, if_false] at t1
    obtain ⟨t1, t2⟩ := t1
    simp only [Pa.stepP] at he' ht' ⊢
    split at he'
    · rename_i h5
      rw [if_pos h5] at ht' ⊢
      split at he'
      · cases he'
      · rename_i hh
        rw [if_neg hh]
        obtain ⟨g1, g2⟩ := none_free h hh
        exact ⟨rfl, g1, g2, t1, rfl⟩
    · rename_i h5
      rw [if_neg h5] at ht'
      split at he'
      · cases he'
      · rename_i h6
        rw [if_neg h6] at ht'
        split at he'
        · rename_i hw
          rw [if_pos hw] at ht'
          cases ht'
        · cases he'
  unfold Pa.work at he ht ⊢
  cases fr with
  | false => rw [if_neg (by decide)] at he ht ⊢; exact key k hT he ht
  | true =>
    rw [if_pos rfl] at he ht ⊢
    cases hr : (P.ready i now k .take).2.2 with
    | true =>
      simp only [hr, if_true] at he ht ⊢
      simp only [Pa.ready] at hr ht
      split at hr
      · cases hr
      · rename_i hn
        rw [if_neg hn] at ht
        cases ht
    | false =>
      simp only [hr, Bool.false_eq_true, if_false] at he ht ⊢
      obtain ⟨e1, e2⟩ := ready_no h hi hT hr
      rw [e1] at he ht ⊢
      exact key _ e2 he ht
/-- Each Full has its load. -/
structure Hn (P : Pa) : Prop where
  sw : ∀ (j : Nat) (x : Cl), P.cls[j]? = some x → x.ak = 4 → Saw P.lg x.fin x.th
theorem Hn.step {bo : Int} (hI : Inv P b) (hO : On P bo) (hH : Hn P) {now : Int} {t : At} (ht : P.pts[i]? = some t) : Hn (P.step i t now).1 := by
  have hi : i < P.pts.length := (List.getElem?_eq_some_iff.1 ht).1
  cases hk : t.tk with
  | none => simp only [Pa.step, hk]; exact hH
  | some kk =>
    obtain ⟨kd, k⟩ := kk
    have hT := hI.th i t kd k ht hk
    obtain ⟨l, hl⟩ := work_grow (P := P) (i := i) (now := now) (fr := t.fr) (kd := kd) (k := k)
    have hcl : (P.work i now t.fr kd k).1.cls = P.cls := by
      unfold Pa.work
      cases hf : t.fr with
      | false =>
        rw [if_neg (by decide)]
        cases kd with
        | take => simp only [Pa.stepP]; (repeat' split) <;> rfl
        | give => rw [stepP_give]; unfold givP; simp only [Bool.false_eq_true, if_false]; (repeat' split) <;> rfl
        | flush => rw [stepP_flush]; unfold givP; simp only [if_true, Pa.next]; (repeat' split) <;> rfl
      | true =>
        rw [if_pos rfl]
        have r0 : (P.ready i now k kd).1.cls = P.cls := by cases kd <;> simp only [Pa.ready] <;> split <;> rfl
        cases he : (P.ready i now k kd).2.2 with
        | true => simp only [he, if_true]; exact r0
        | false =>
          simp only [he, Bool.false_eq_true, if_false]
          generalize (P.ready i now k kd).1 = P1 at *
          rw [← r0]
          generalize (P.ready i now k kd).2.1 = k1 at *
          cases kd with
          | take => simp only [Pa.stepP]; (repeat' split) <;> rfl
          | give => rw [stepP_give]; unfold givP; simp only [Bool.false_eq_true, if_false]; (repeat' split) <;> rfl
          | flush => rw [stepP_flush]; unfold givP; simp only [if_true, Pa.next]; (repeat' split) <;> rfl
    obtain ⟨c, z, h1, h2, h3, h4, h5, h6⟩ := hO.th i t kd k ht hk
    have hc : t.call.toNat = c := by omega
    simp only [Pa.step, hk]
    cases he : (P.work i now t.fr kd k).2.2 with
    | true =>
      simp only [if_true]
      refine ⟨fun j x hx h4' => ?_⟩
      have hx' : (Pa.setC (P.work i now t.fr kd k).1.cls t.call.toNat now (Pa.answer kd (P.work i now t.fr kd k).2.1).1 (Pa.answer kd (P.work i now t.fr kd k).2.1).2)[j]? = some x := hx
      rw [hcl, hc, setC_get h2] at hx'
      show Saw (P.work i now t.fr kd k).1.lg x.fin x.th
      split at hx'
      · cases hx'
        have ha : (Pa.answer kd (P.work i now t.fr kd k).2.1).1 = 4 := h4'
        cases kd with
        | take =>
          have htk : (P.work i now t.fr .take k).2.1.tk = false := by
            cases hh : (P.work i now t.fr .take k).2.1.tk with
            | false => rfl
            | true => simp [Pa.answer, hh] at ha
          obtain ⟨g1, g2, _⟩ := take_lack hI hi hT he htk
          rw [g1]
          refine ⟨P.lg.length, ⟨now, i, 1, 0, 0, 0, P.word 0⟩, by simp, rfl, ?_, rfl, rfl, g2⟩
          show (i : Int) = z.th
          omega
        | give => simp [Pa.answer] at ha
        | flush => simp [Pa.answer] at ha
      · rw [hl]
        exact (hH.sw j x hx' h4').more l
    | false =>
      simp only [Bool.false_eq_true, if_false]
      refine ⟨fun j x hx h4' => ?_⟩
      have hx' : (P.work i now t.fr kd k).1.cls[j]? = some x := hx
      rw [hcl] at hx'
      show Saw (P.work i now t.fr kd k).1.lg x.fin x.th
      rw [hl]
      exact (hH.sw j x hx' h4').more l
theorem Hn.begins (hH : Hn P) (op arg data now : Int) : Hn (P.begins i op arg data now).1 := by
  unfold Pa.begins
  split
  · refine ⟨fun j x hx h4 => ?_⟩
    have hx' : (P.cls ++ [⟨i, op, arg, data, now, -1, -1, 0, 0⟩])[j]? = some x := hx
    rw [List.getElem?_append] at hx'
    split at hx'
    · exact hH.sw j x hx' h4
    · have hl := (List.getElem?_eq_some_iff.1 hx').1
      simp at hl
      rw [hl] at hx'
      cases hx'
      cases h4
  · exact hH
theorem Hn.move (hH : Hn P) (hO : On P P.n) (h : Inv P P.n) (th op arg data : Int) : Hn (P.move th op arg data).1 := by
  have hc : Hn P.count := ⟨hH.sw⟩
  have hOc : On P.count P.n := ⟨hO.fin, hO.ok, hO.pair, hO.th⟩
  unfold Pa.move
  split
  · exact hH
  · split
    · split
      · exact hc
      · rename_i t ht
        split
        · exact Hn.step h.count hOc hc ht
        · split
          · exact hc
          · exact hc.begins op arg data _
    · exact hc
theorem Hn.play (ms : List Mv) : ∀ {P : Pa}, Hn P → On P P.n → Inv P P.n → Hn (P.play ms) := by
  induction ms with
  | nil => exact fun h _ _ => h
  | cons x ms ih => exact fun h hO hI => ih (h.move hO hI x.th x.op x.arg x.data) (hO.move hI x.th x.op x.arg x.data) (hI.move _ _ _ _)
theorem Hn.start (m K : Nat) (A : Ao) (nt : Nat) (ws : List Int) : Hn (Pa.new m K A nt ws) := ⟨fun j x hx => by simp [Pa.new] at hx⟩
/-- A thread's last call, if there is one. -/
def callAt (P : Pa) (i : Nat) : Option Cl := match P.pts[i]? with
  | none => none
  | some t => if t.call = -1 then none else P.cls[t.call.toNat]?
/-- A take that was busy and is so no more: what it answered. -/
theorem honest_move (h : Inv P P.n) (hO : On P P.n) (hB : busy P i = true) (op arg data : Int) (hB' : busy (P.move i op arg data).1 i = false) {x : Cl} (hx : callAt (P.move i op arg data).1 i = some x) (hop : x.op = 10) :
    x.ak = 2 ∨ (x.ak = 4 ∧ (∀ s, (P.move i op arg data).1.A.has s → ((P.move i op arg data).1.A.st s).1 ≠ 0) ∧ (P.move i op arg data).1.A.cache i = []) := by
  unfold busy at hB
  cases ht : P.pts[i]? with
  | none => rw [ht] at hB; cases hB
  | some t =>
    rw [ht] at hB
    have hi : i < P.pts.length := (List.getElem?_eq_some_iff.1 ht).1
    cases hk : t.tk with
    | none => simp [hk] at hB
    | some kk =>
      obtain ⟨kd, k⟩ := kk
      have hOc : On P.count P.n := ⟨hO.fin, hO.ok, hO.pair, hO.th⟩
      obtain ⟨c, z, h1, h2, h3, h4, h5, h6⟩ := hOc.th i t kd k ht hk
      have hbusy : busy P i = true := by simp [busy, ht, hk]
      by_cases hn : 65536 ≤ P.n
      · exfalso
        have : (P.move i op arg data).1 = P := by unfold Pa.move; rw [if_pos hn]
        rw [this, hbusy] at hB'
        cases hB'
      by_cases hop0 : op = 0
      · have e0 : (P.move i op arg data).1 = (P.count.step i t P.n).1 := by
          unfold Pa.move
          rw [if_neg hn, if_pos (by omega)]
          simp only [Int.toNat_natCast]
          rw [ht]
          simp [hop0]
        rw [e0] at hB' hx ⊢
        have hT := h.count.th i t kd k ht hk
        have hR := (work_core (P := P.count) (now := (P.n : Int)) h.count (by omega) hi hT).1
        have hE := work_ef (P := P.count) (now := (P.n : Int)) h.count hi hT
        simp only [Pa.step, hk] at hB' hx ⊢
        cases he : (P.count.work i P.n t.fr kd k).2.2 with
        | false =>
          exfalso
          have hr : i < (P.count.work i P.n t.fr kd k).1.pts.length := by rw [hR.pts]; exact hi
          simp [he, busy, hr] at hB'
        | true =>
          simp only [he, if_true] at hx ⊢
          have hr : i < (P.count.work i P.n t.fr kd k).1.pts.length := by rw [hR.pts]; exact hi
          have hc : t.call.toNat = c := by omega
          have e1 : callAt { (P.count.work i P.n t.fr kd k).1 with cls := Pa.setC (P.count.work i P.n t.fr kd k).1.cls t.call.toNat P.n (Pa.answer kd (P.count.work i P.n t.fr kd k).2.1).1 (Pa.answer kd (P.count.work i P.n t.fr kd k).2.1).2, pts := (P.count.work i P.n t.fr kd k).1.pts.set i ⟨none, false, t.call⟩ } i = some { z with fin := P.n, ak := (Pa.answer kd (P.count.work i P.n t.fr kd k).2.1).1, av := (Pa.answer kd (P.count.work i P.n t.fr kd k).2.1).2 } := by
            simp only [callAt, List.getElem?_set, if_true, hr]
            rw [if_neg (by omega), hR.cls, hc, setC_get h2, if_pos rfl]
          rw [e1] at hx
          cases hx
          have hz : z.op = 10 := hop
          have hkd : kd = .take := by
            cases kd with
            | take => rfl
            | give => have := h5.1; omega
            | flush => have : z.op = 12 := h5; omega
          subst hkd
          cases htk : (P.count.work i P.n t.fr .take k).2.1.tk with
          | true => left; simp [Pa.answer, htk]
          | false =>
            right
            obtain ⟨g1, g2, g3, g4, g5⟩ := take_lack (P := P.count) h.count hi hT he htk
            refine ⟨by simp [Pa.answer, htk], ?_, ?_⟩
            · show ∀ s, (P.count.work i P.n t.fr .take k).1.A.has s → ((P.count.work i P.n t.fr .take k).1.A.st s).1 ≠ 0
              rw [g5]
              exact g3
            · show (P.count.work i P.n t.fr .take k).1.A.cache i = []
              rw [g5]
              exact g4
      · exfalso
        have e0 : (P.move i op arg data).1 = P.count := by
          unfold Pa.move
          rw [if_neg hn, if_pos (by omega)]
          simp only [Int.toNat_natCast]
          rw [ht]
          simp [hop0, hk]
        rw [e0] at hB'
        have : busy P.count i = true := hbusy
        rw [this] at hB'
        cases hB'
/-- What the law's last loop has found among the first n accesses. -/
def swf (lg : List Acc) (e th : Int) : Nat → Bool
  | 0 => false
  | n + 1 => swf lg e th n || (match lg[n]? with
    | some a => a.mv == e && (a.th == th && (a.kd == 1 && (a.ad == 0 && decide (a.saw % 4294967296 = 0))))
    | none => false)
theorem swf_le {lg : List Acc} {e th : Int} {n : Nat} (h : swf lg e th n = true) (m : Nat) : swf lg e th (n + m) = true := by
  induction m with
  | zero => exact h
  | succ m ih => show (swf lg e th (n + m) || _) = true; rw [ih]; rfl
theorem swf_of {lg : List Acc} {e th : Int} (h : Saw lg e th) : swf lg e th lg.length = true := by
  obtain ⟨n, a, h1, h2, h3, h4, h5, h6⟩ := h
  have hg : n < lg.length := (List.getElem?_eq_some_iff.1 h1).1
  have : swf lg e th (n + 1) = true := by
    show (swf lg e th n || _) = true
    rw [h1]
    simp [h2, h3, h4, h5, h6]
  have := swf_le this (lg.length - (n + 1))
  rwa [show n + 1 + (lg.length - (n + 1)) = lg.length by omega] at this
end
end Go.Proofs.YtkfpiafgfjpodabGreat.Ar
/-
  Each thread's last call is among the calls; how many moves are counted.
-/
namespace Go.Proofs.YtkfpiafgfjpodabGreat.Ar
open Go.RowKit Go.Shelf Mr Me Ma Wc Wm Wr
def Cv (P : Pa) : Prop := ∀ (i : Nat) (t : At), P.pts[i]? = some t → t.call ≠ -1 → ∃ c : Nat, t.call = c ∧ c < P.cls.length
section
variable {P : Pa} {b i : Nat}
theorem Cv.step (h : Inv P b) (hb : b < 65536) (hC : Cv P) {t : At} (ht : P.pts[i]? = some t) (now : Int) : Cv (P.step i t now).1 := by
  have hi : i < P.pts.length := (List.getElem?_eq_some_iff.1 ht).1
  cases hk : t.tk with
  | none => simp only [Pa.step, hk]; exact hC
  | some kk =>
    obtain ⟨kd, k⟩ := kk
    have hR := (work_core (now := now) h hb hi (h.th i t kd k ht hk)).1
    simp only [Pa.step, hk]
    have e1 := hR.pts
    have e2 := hR.cls
    generalize P.work i now t.fr kd k = r at *
    cases he : r.2.2 with
    | true =>
      simp only [if_true]
      intro j u hu hc
      have hu' : (r.1.pts.set i ⟨none, false, t.call⟩)[j]? = some u := hu
      show ∃ c : Nat, u.call = c ∧ c < (Pa.setC r.1.cls t.call.toNat now _ _).length
      rw [setC_length, e2]
      rw [e1, List.getElem?_set] at hu'
      split at hu'
      · cases hu'; exact hC i t ht hc
      · exact hC j u hu' hc
    | false =>
      simp only [Bool.false_eq_true, if_false]
      intro j u hu hc
      have hu' : (r.1.pts.set i ⟨some (kd, r.2.1), false, t.call⟩)[j]? = some u := hu
      show ∃ c : Nat, u.call = c ∧ c < r.1.cls.length
      rw [e2]
      rw [e1, List.getElem?_set] at hu'
      split at hu'
      · cases hu'; exact hC i t ht hc
      · exact hC j u hu' hc
theorem Cv.begins (hC : Cv P) (op arg data now : Int) : Cv (P.begins i op arg data now).1 := by
  unfold Pa.begins
  split
  · intro j u hu hc
    rename_i tk _
    have hu' : (P.pts.set i ⟨some tk, true, (P.cls.length : Int)⟩)[j]? = some u := hu
    show ∃ c : Nat, u.call = c ∧ c < (P.cls ++ [(⟨i, op, arg, data, now, -1, -1, 0, 0⟩ : Cl)]).length
    rw [List.length_append]
    rw [List.getElem?_set] at hu'
    split at hu'
    · split at hu'
      · cases hu'; exact ⟨_, rfl, by simp⟩
      · cases hu'
    · obtain ⟨c, h1, h2⟩ := hC j u hu' hc
      exact ⟨c, h1, by simp; omega⟩
  · exact hC
theorem Cv.move (hC : Cv P) (h : Inv P P.n) (th op arg data : Int) : Cv (P.move th op arg data).1 := by
  have hc : Cv P.count := hC
  unfold Pa.move
  split
  · exact hC
  · split
    · split
      · exact hc
      · rename_i t ht
        split
        · exact Cv.step h.count (by omega) hc ht _
        · split
          · exact hc
          · exact hc.begins op arg data _
    · exact hc
theorem Cv.play (ms : List Mv) : ∀ {P : Pa}, Cv P → Inv P P.n → Cv (P.play ms) := by
  induction ms with
  | nil => exact fun h _ => h
  | cons x ms ih => exact fun h hI => ih (h.move hI x.th x.op x.arg x.data) (hI.move _ _ _ _)
theorem Cv.start (m K : Nat) (A : Ao) (nt : Nat) (ws : List Int) : Cv (Pa.new m K A nt ws) := by
  intro j t hu hc
  simp only [Pa.new, List.getElem?_replicate] at hu
  split at hu
  · cases hu; exact absurd rfl hc
  · cases hu
theorem move_n (h : Inv P P.n) (th op arg data : Int) : (P.move th op arg data).1.n ≤ P.n + 1 := by
  unfold Pa.move
  split
  · exact Nat.le_succ _
  · split
    · split
      · exact Nat.le_refl _
      · rename_i t ht
        split
        · obtain ⟨tk, fr, call⟩ := t
          rcases tk with _ | ⟨kd, k⟩
          · exact Nat.le_refl _
          · have hi : th.toNat < P.count.pts.length := (List.getElem?_eq_some_iff.1 ht).1
            have r : (P.count.work th.toNat P.n fr kd k).1.n = P.count.n := (work_core (now := P.n) h.count (by omega) hi (h.count.th _ _ kd k ht rfl)).1.n
            have e : P.count.n = P.n + 1 := rfl
            simp only [Pa.step]
            split
            · show (P.count.work th.toNat P.n fr kd k).1.n ≤ _
              omega
            · show (P.count.work th.toNat P.n fr kd k).1.n ≤ _
              omega
        · split
          · exact Nat.le_refl _
          · unfold Pa.begins
            split <;> exact Nat.le_refl _
    · exact Nat.le_refl _
theorem move_pts (h : Inv P P.n) (th op arg data : Int) : (P.move th op arg data).1.pts.length = P.pts.length := by
  unfold Pa.move
  split
  · rfl
  · split
    · split
      · rfl
      · rename_i t ht
        split
        · obtain ⟨tk, fr, call⟩ := t
          rcases tk with _ | ⟨kd, k⟩
          · rfl
          · have hi : th.toNat < P.count.pts.length := (List.getElem?_eq_some_iff.1 ht).1
            have r : (P.count.work th.toNat P.n fr kd k).1.pts = P.count.pts := (work_core (now := P.n) h.count (by omega) hi (h.count.th _ _ kd k ht rfl)).1.pts
            have e : P.count.pts = P.pts := rfl
            simp only [Pa.step]
            split
            · show ((P.count.work th.toNat P.n fr kd k).1.pts.set _ _).length = _
              rw [List.length_set, r, e]
            · show ((P.count.work th.toNat P.n fr kd k).1.pts.set _ _).length = _
              rw [List.length_set, r, e]
        · split
          · rfl
          · unfold Pa.begins
            split
            · show (P.count.pts.set _ _).length = _
              rw [List.length_set]; rfl
            · rfl
    · rfl
theorem play_more (ms : List Mv) : ∀ {P : Pa}, Inv P P.n → (P.play ms).n ≤ P.n + ms.length ∧ (P.play ms).pts.length = P.pts.length := by
  induction ms with
  | nil => exact fun _ => ⟨Nat.le_refl _, rfl⟩
  | cons x ms ih =>
    intro P hI
    have h1 := ih (hI.move x.th x.op x.arg x.data)
    have h2 := move_n hI x.th x.op x.arg x.data
    have h3 := move_pts hI x.th x.op x.arg x.data
    refine ⟨?_, h1.2.trans h3⟩
    have h4 : ((P.move x.th x.op x.arg x.data).1.play ms).n ≤ (P.move x.th x.op x.arg x.data).1.n + ms.length := h1.1
    show ((P.move x.th x.op x.arg x.data).1.play ms).n ≤ P.n + (ms.length + 1)
    omega
theorem mu_pos (hB : busy P i = true) : 1 ≤ mu P i := by
  unfold busy at hB
  cases ht : P.pts[i]? with
  | none => rw [ht] at hB; cases hB
  | some t =>
    rw [ht] at hB
    cases hk : t.tk with
    | none => simp [hk] at hB
    | some kk =>
      obtain ⟨kd, k⟩ := kk
      have hmu : mu P i = muK P i t.fr kd k := by simp [mu, ht, hk]
      rw [hmu]
      have g1 := muG_le P k
      have g2 := muT_le P k
      cases kd <;> simp only [muK] <;> split <;> omega
end
theorem opAt_eq (P : Pa) (i : Nat) : opAt P i = ((callAt P i).getD ⟨0, 0, 0, 0, 0, 0, 0, 0, 0⟩).op := by
  cases hp : P.pts[i]? with
  | none => simp [opAt, callAt, hp]
  | some t =>
    by_cases hc : t.call = -1
    · simp [opAt, callAt, hp, hc]
    · cases hq : P.cls[t.call.toNat]? <;> simp [opAt, callAt, hp, hc, hq]
end Go.Proofs.YtkfpiafgfjpodabGreat.Ar
/-
  The pure part of ArenaAgain: a call that is stepped to its end, all slots given back, all caches flushed, all slots taken anew.
-/
namespace Go.Proofs.YtkfpiafgfjpodabGreat.Ar
open Go.RowKit Go.Shelf Mr Me Ma Wc Wm Wr
/-- A thread's call is stepped to its end, by at most n steps. -/
def restP : Nat → Pa → Nat → Pa
  | 0, P, _ => P
  | n + 1, P, i => if busy P i = true then restP n (P.move i 0 0 0).1 i else P
/-- What only thread i's moves have made of P. -/
structure By (P P' : Pa) (i : Nat) : Prop where
  pts : ∀ j, j ≠ i → P'.pts[j]? = P.pts[j]?
  len : P'.pts.length = P.pts.length
  ca : ∀ j, j ≠ i → P'.A.ca[j]? = P.A.ca[j]?
  ns : P'.A.sl.length = P.A.sl.length
  K : P'.K = P.K
theorem By.refl (P : Pa) (i : Nat) : By P P i := ⟨fun _ _ => rfl, rfl, fun _ _ => rfl, rfl, rfl⟩
theorem By.trans {P Q R : Pa} {i : Nat} (h : By P Q i) (k : By Q R i) : By P R i :=
  ⟨fun j hj => (k.pts j hj).trans (h.pts j hj), k.len.trans h.len, fun j hj => (k.ca j hj).trans (h.ca j hj), k.ns.trans h.ns, k.K.trans h.K⟩
theorem By.busy {P P' : Pa} {i : Nat} (h : By P P' i) {j : Nat} (hj : j ≠ i) : Ar.busy P' j = Ar.busy P j := by unfold Ar.busy; rw [h.pts j hj]
theorem By.cache {P P' : Pa} {i : Nat} (h : By P P' i) {j : Nat} (hj : j ≠ i) : P'.A.cache j = P.A.cache j := by unfold Ao.cache; rw [h.ca j hj]
theorem By.has {P P' : Pa} {i : Nat} (h : By P P' i) (x : Int) : P'.A.has x ↔ P.A.has x := by unfold Ao.has; rw [h.ns]
/-- Who holds a slot is a thread that there is. -/
def Hr (P : Pa) : Prop := ∀ s, P.A.has s → (P.A.st s).1 = 0 ∨ (P.A.st s).1 = 1 ∨ ∃ i : Nat, i < P.pts.length ∧ P.A.st s = (2, (i : Int))
/-- What thread i is about. -/
def Doing (P : Pa) (i : Nat) (kd : Kd) (s : Int) : Prop := ∃ t k, P.pts[i]? = some t ∧ t.tk = some (kd, k) ∧ (kd = .give → k.sl = s)
section
variable {P : Pa} {b i : Nat}
theorem give_end {now : Int} {fr : Bool} {k : Pk} : ((P.work i now fr .give k).2.2 = false ∧ (P.work i now fr .give k).1.A.sl = P.A.sl ∧ (P.work i now fr .give k).2.1.sl = k.sl) ∨ ((P.work i now fr .give k).2.2 = true ∧ ∃ to : Int, (to = 0 ∨ to = 1) ∧ (P.work i now fr .give k).1.A.sl = (P.A.put k.sl to i).sl) := by
  have key : ∀ k' : Pk, k'.sl = k.sl → ((P.stepP i now k' .give).2.2 = false ∧ (P.stepP i now k' .give).1.A.sl = P.A.sl ∧ (P.stepP i now k' .give).2.1.sl = k.sl) ∨ ((P.stepP i now k' .give).2.2 = true ∧ ∃ to : Int, (to = 0 ∨ to = 1) ∧ (P.stepP i now k' .give).1.A.sl = (P.A.put k.sl to i).sl) := by
    intro k' hk
    rw [stepP_give]
    unfold givP
    split
    · exact .inl ⟨rfl, rfl, hk⟩
    · split
      · exact .inl ⟨rfl, rfl, hk⟩
      · split
        · exact .inr ⟨rfl, 0, .inl rfl, by rw [← hk]; rfl⟩
        · exact .inl ⟨rfl, rfl, hk⟩
  unfold Pa.work
  cases fr with
  | false => rw [if_neg (by decide)]; exact key k rfl
  | true =>
    rw [if_pos rfl]
    by_cases hn : (P.A.cache i).length < P.K
    · have e : P.ready i now k .give = ((P.keep i (P.A.cache i ++ [k.sl])).shift i now k.sl 1, { k with nx := 0 }, true) := by simp only [Pa.ready, if_pos hn]
      simp only [e, if_true]
      exact .inr ⟨trivial, 1, .inr rfl, rfl⟩
    · have e : P.ready i now k .give = (P, { k with nx := 5 }, false) := by simp only [Pa.ready, if_neg hn]
      simp only [e, Bool.false_eq_true, if_false]
      exact key _ rfl
theorem flush_last {now : Int} {fr : Bool} {k : Pk} (he : (P.work i now fr .flush k).2.2 = true) : (P.work i now fr .flush k).1.A.last i = -1 := by
  have key : ∀ k' : Pk, (P.stepP i now k' .flush).2.2 = true → (P.stepP i now k' .flush).1.A.last i = -1 := by
    intro k' he
    rw [stepP_flush] at he ⊢
    unfold givP at he ⊢
    split
    · rename_i h5
      rw [if_pos h5] at he
      cases he
    · rename_i h5
      rw [if_neg h5] at he
      split
      · rename_i h7
        rw [if_pos h7] at he
        cases he
      · rename_i h7
        rw [if_neg h7] at he
        split
        · rename_i hw
          rw [if_pos hw] at he
          simp only [if_true, Pa.next] at he ⊢
          split at he
          · rename_i hl
            rw [if_pos hl]
            exact hl
          · cases he
        · rename_i hw
          rw [if_neg hw] at he
          cases he
  unfold Pa.work at he ⊢
  cases fr with
  | false => rw [if_neg (by decide)] at he ⊢; exact key k he
  | true =>
    rw [if_pos rfl] at he ⊢
    by_cases hn : P.A.last i = -1
    · have e : P.ready i now k .flush = (P, { k with nx := 0, sl := -1 }, true) := by simp only [Pa.ready, if_pos hn]
      simp only [e, if_true] at he ⊢
      exact hn
    · have e : P.ready i now k .flush = (P, { k with nx := 5, sl := P.A.last i }, false) := by simp only [Pa.ready, if_neg hn]
      simp only [e, Bool.false_eq_true, if_false] at he ⊢
      exact key _ he
theorem take_ca {now : Int} {fr : Bool} {k : Pk} (hc : P.A.cache i = []) : (P.work i now fr .take k).1.A.ca = P.A.ca := by
  have key : ∀ k' : Pk, (P.stepP i now k' .take).1.A.ca = P.A.ca := by
    intro k'
    simp only [Pa.stepP]
    split
    · split <;> rfl
    · split
      · rfl
      · split <;> rfl
  unfold Pa.work
  cases fr with
  | false => rw [if_neg (by decide)]; exact key k
  | true =>
    rw [if_pos rfl]
    have hn : P.A.last i = -1 := by simp [Ao.last, hc]
    have e : P.ready i now k .take = (P, { k with nx := 5, sl := -1 }, false) := by simp only [Pa.ready, if_pos hn]
    simp only [e, Bool.false_eq_true, if_false]
    exact key _
/-- A step of thread i, which is about kd at k. -/
theorem step_at (hn : P.n < 65536) {t : At} {kd : Kd} {k : Pk} (ht : P.pts[i]? = some t) (hk : t.tk = some (kd, k)) :
    (P.move i 0 0 0).1 = if (P.count.work i P.n t.fr kd k).2.2 = true then { (P.count.work i P.n t.fr kd k).1 with cls := Pa.setC (P.count.work i P.n t.fr kd k).1.cls t.call.toNat P.n (Pa.answer kd (P.count.work i P.n t.fr kd k).2.1).1 (Pa.answer kd (P.count.work i P.n t.fr kd k).2.1).2, pts := (P.count.work i P.n t.fr kd k).1.pts.set i ⟨none, false, t.call⟩ }
      else { (P.count.work i P.n t.fr kd k).1 with pts := (P.count.work i P.n t.fr kd k).1.pts.set i ⟨some (kd, (P.count.work i P.n t.fr kd k).2.1), false, t.call⟩ } := by
  have hi : i < P.pts.length := (List.getElem?_eq_some_iff.1 ht).1
  have e0 : (P.move i 0 0 0).1 = (P.count.step i t P.n).1 := by
    unfold Pa.move
    rw [if_neg (by omega), if_pos (by omega)]
    simp only [Int.toNat_natCast]
    rw [ht]
    simp
  rw [e0]
  simp only [Pa.step, hk]
  split <;> rfl
theorem busy_at (hB : busy P i = true) : ∃ t kd k, P.pts[i]? = some t ∧ t.tk = some (kd, k) := by
  unfold busy at hB
  cases ht : P.pts[i]? with
  | none => rw [ht] at hB; cases hB
  | some t =>
    rw [ht] at hB
    cases hk : t.tk with
    | none => simp [hk] at hB
    | some kk => exact ⟨t, kk.1, kk.2, rfl, hk⟩
theorem mu_idle (hB : busy P i = false) : mu P i = 0 := by
  unfold busy at hB
  unfold mu
  cases ht : P.pts[i]? with
  | none => rfl
  | some t =>
    rw [ht] at hB
    cases hk : t.tk with
    | none => simp [hk]
    | some kk => simp [hk] at hB
/-- What a step of a busy thread makes. -/
theorem rest_step (h : Inv P P.n) (hn : P.n < 65536) {t : At} {kd : Kd} {k : Pk} (ht : P.pts[i]? = some t) (hk : t.tk = some (kd, k)) :
    By P (P.move i 0 0 0).1 i ∧ (P.move i 0 0 0).1.n = P.n + 1 ∧
    (kd ≠ .take → ∀ x, P.A.has x → ((P.move i 0 0 0).1.A.st x).1 = 2 → (P.A.st x).1 = 2) ∧
    (Hr P → Hr (P.move i 0 0 0).1) ∧
    ((busy (P.move i 0 0 0).1 i = true ∧ Doing (P.move i 0 0 0).1 i kd k.sl) ∨
     (busy (P.move i 0 0 0).1 i = false ∧ (kd = .flush → (P.move i 0 0 0).1.A.cache i = []) ∧ (kd = .give → ((P.move i 0 0 0).1.A.st k.sl).1 ≠ 2))) := by
  have hi : i < P.pts.length := (List.getElem?_eq_some_iff.1 ht).1
  have hT := h.count.th i t kd k ht hk
  obtain ⟨hR, -⟩ := work_core (P := P.count) (now := (P.n : Int)) h.count hn hi hT
  have hE := work_ef (P := P.count) (now := (P.n : Int)) h.count hi hT
  have hG := give_end (P := P.count) (i := i) (now := (P.n : Int)) (fr := t.fr) (k := k)
  have hF := flush_last (P := P.count) (i := i) (now := (P.n : Int)) (fr := t.fr) (k := k)
  rw [step_at hn ht hk]
  obtain ⟨r, hr⟩ : ∃ r, P.count.work i P.n t.fr kd k = r := ⟨_, rfl⟩
  have hGr : kd = .give → (r.2.2 = false ∧ r.1.A.sl = P.A.sl ∧ r.2.1.sl = k.sl) ∨ (r.2.2 = true ∧ ∃ to : Int, (to = 0 ∨ to = 1) ∧ r.1.A.sl = (P.A.put k.sl to i).sl) := fun e => by
    subst e
    rw [← hr]
    exact hG
  have hFr : kd = .flush → r.2.2 = true → r.1.A.last i = -1 := fun e => by
    subst e
    rw [← hr]
    exact hF
  rw [hr] at hR hE ⊢
  clear hG hF
  have hpl : i < r.1.pts.length := by rw [hR.pts]; exact hi
  have hset : ∀ t' : At, ∀ j, j ≠ i → (r.1.pts.set i t')[j]? = P.pts[j]? := fun t' j hj => by
    rw [List.getElem?_set_ne (by omega), hR.pts]; rfl
  have hlen : ∀ t' : At, (r.1.pts.set i t').length = P.pts.length := fun t' => by rw [List.length_set, hR.pts]; rfl
  have hns : r.1.A.sl.length = P.A.sl.length := hR.frm.ns
  have hca : ∀ j, j ≠ i → r.1.A.ca[j]? = P.A.ca[j]? := hR.frm.ca
  have hKK : r.1.K = P.K := hR.K
  have hnn : r.1.n = P.n + 1 := hR.n
  -- the slots
  have hput : ∀ (s to : Int), r.1.A.sl = (P.A.put s to i).sl → P.A.has s → to = 0 ∨ to = 1 ∨ to = 2 → Hr P → ∀ x, r.1.A.has x → (r.1.A.st x).1 = 0 ∨ (r.1.A.st x).1 = 1 ∨ ∃ j : Nat, j < P.pts.length ∧ r.1.A.st x = (2, (j : Int)) := by
    intro s to hs hh ho hH x hx
    have hx' : P.A.has x := by unfold Ao.has at hx ⊢; rw [← hns]; exact hx
    rw [st_eq hs x]
    by_cases e : x = s
    · subst e
      rw [put_same _ _ _ _ hh]
      rcases ho with rfl | rfl | rfl
      · exact .inl rfl
      · exact .inr (.inl rfl)
      · exact .inr (.inr ⟨i, hi, rfl⟩)
    · rw [put_other _ _ _ _ _ hh hx' e]
      exact hH x hx'
  have hsame : r.1.A.sl = P.A.sl → Hr P → ∀ x, r.1.A.has x → (r.1.A.st x).1 = 0 ∨ (r.1.A.st x).1 = 1 ∨ ∃ j : Nat, j < P.pts.length ∧ r.1.A.st x = (2, (j : Int)) := by
    intro hs hH x hx
    rw [st_eq hs x]
    exact hH x ((has_eq hs x).1 hx)
  have hksl : kd = .give → P.A.has k.sl := fun e => by subst e; exact hT.1
  have hH : Hr P → ∀ x, r.1.A.has x → (r.1.A.st x).1 = 0 ∨ (r.1.A.st x).1 = 1 ∨ ∃ j : Nat, j < P.pts.length ∧ r.1.A.st x = (2, (j : Int)) := by
    intro hH
    cases hE with
    | same hs _ _ => exact hsame hs hH
    | took _ _ _ hs hh _ => exact hput _ 2 hs hh (.inr (.inr rfl)) hH
    | gave e he to hs =>
      rcases hGr e with ⟨g1, _, _⟩ | ⟨_, to', ho, hs'⟩
      · rw [g1] at he; cases he
      · exact hput _ to' hs' (hksl e) (by omega) hH
    | flushed _ s hs hh _ => exact hput s 0 hs hh (.inl rfl) hH
  have hO : kd ≠ .take → ∀ x, P.A.has x → (r.1.A.st x).1 = 2 → (P.A.st x).1 = 2 := by
    intro hne x hx h2
    have hp : ∀ (s to : Int), r.1.A.sl = (P.A.put s to i).sl → P.A.has s → to ≠ 2 → (P.A.st x).1 = 2 := fun s to hs hh ho => by
      rw [st_eq hs x] at h2
      by_cases e : x = s
      · subst e
        rw [put_same _ _ _ _ hh] at h2
        exact absurd h2 ho
      · rw [put_other _ _ _ _ _ hh hx e] at h2
        exact h2
    cases hE with
    | same hs _ _ => rw [st_eq hs x] at h2; exact h2
    | took e _ _ _ _ _ => exact absurd e hne
    | gave e he to hs =>
      rcases hGr e with ⟨g1, _, _⟩ | ⟨_, to', ho, hs'⟩
      · rw [g1] at he; cases he
      · exact hp _ to' hs' (hksl e) (by omega)
    | flushed _ s hs hh _ => exact hp s 0 hs hh (by decide)
  cases he : r.2.2 with
  | true =>
    rw [if_pos rfl]
    refine ⟨⟨fun j hj => hset _ j hj, hlen _, hca, hns, hKK⟩, hnn, hO, fun hh x hx => ?_, .inr ⟨?_, fun e => ?_, fun e => ?_⟩⟩
    · have := hH hh x hx
      show _ ∨ _ ∨ ∃ j : Nat, j < (r.1.pts.set i _).length ∧ _
      rw [hlen]
      exact this
    · simp [busy, hpl]
    · have hl := hFr e he
      have hc2 : i < r.1.A.ca.length := by rw [hR.kc]; exact h.kc ▸ hi
      have hcc : r.1.A.ca[i]? = some (r.1.A.cache i) := by simp [Ao.cache, hc2]
      show r.1.A.cache i = []
      rcases List.eq_nil_or_concat (r.1.A.cache i) with h0 | ⟨l, x, h0⟩
      · exact h0
      · exfalso
        have hx := (hR.ca _ hcc).2.2 x (by rw [h0]; simp)
        rw [Ao.last, h0] at hl
        simp at hl
        have := hx.1.1
        omega
    · rcases hGr e with ⟨g1, _, _⟩ | ⟨_, to, ho, hs⟩
      · rw [he] at g1; cases g1
      · show (r.1.A.st k.sl).1 ≠ 2
        rw [st_eq hs, put_same _ _ _ _ (hksl e)]
        show to ≠ 2
        omega
  | false =>
    rw [if_neg (by decide)]
    refine ⟨⟨fun j hj => hset _ j hj, hlen _, hca, hns, hKK⟩, hnn, hO, fun hh x hx => ?_, .inl ⟨?_, ?_⟩⟩
    · have := hH hh x hx
      show _ ∨ _ ∨ ∃ j : Nat, j < (r.1.pts.set i _).length ∧ _
      rw [hlen]
      exact this
    · simp [busy, hpl]
    · refine ⟨⟨some (kd, r.2.1), false, t.call⟩, r.2.1, by simp [hpl], rfl, fun e => ?_⟩
      rcases hGr e with ⟨_, _, g⟩ | ⟨g, _⟩
      · exact g
      · rw [he] at g; cases g
/-- A call that is stepped to its end. -/
theorem rest_all : ∀ (n : Nat) {P : Pa}, Inv P P.n → mu P i ≤ n → P.n + mu P i ≤ 65536 →
    Inv (restP n P i) (restP n P i).n ∧ busy (restP n P i) i = false ∧ (restP n P i).n ≤ P.n + mu P i ∧ By P (restP n P i) i ∧ (Hr P → Hr (restP n P i)) ∧ (Cv P → Cv (restP n P i)) ∧
    ∀ kd s, Doing P i kd s → kd ≠ .take → (∀ x, P.A.has x → ((restP n P i).A.st x).1 = 2 → (P.A.st x).1 = 2) ∧ (kd = .flush → (restP n P i).A.cache i = []) ∧ (kd = .give → ((restP n P i).A.st s).1 ≠ 2) := by
  intro n
  induction n with
  | zero =>
    intro P h hm hn
    have hb : busy P i = false := by
      cases hb : busy P i with
      | false => rfl
      | true => have := mu_pos hb; omega
    refine ⟨h, hb, by simp [restP], By.refl _ _, fun x => x, fun x => x, ?_⟩
    rintro kd s ⟨t, k, ht, hk, _⟩
    simp [busy, ht, hk] at hb
  | succ n ih =>
    intro P h hm hn
    unfold restP
    cases hb : busy P i with
    | false =>
      rw [if_neg (by decide)]
      refine ⟨h, hb, by omega, By.refl _ _, fun x => x, fun x => x, ?_⟩
      rintro kd s ⟨t, k, ht, hk, _⟩
      simp [busy, ht, hk] at hb
    | true =>
      rw [if_pos rfl]
      have hpos := mu_pos hb
      obtain ⟨t, kd, k, ht, hk⟩ := busy_at hb
      obtain ⟨g1, g2, g3, g4, g5⟩ := rest_step h (by omega) ht hk
      have hI := h.move i 0 0 0
      have hmm : mu (P.move i 0 0 0).1 i + 1 ≤ mu P i := by
        rcases mu_move h (by omega) hb 0 0 with e | e
        · rw [mu_idle e]; omega
        · exact e
      obtain ⟨i1, i2, i3, i4, i5, i6, i7⟩ := ih hI (by omega) (by omega)
      refine ⟨i1, i2, by omega, g1.trans i4, fun x => i5 (g4 x), fun x => i6 (x.move h i 0 0 0), ?_⟩
      rintro kd' s ⟨t', k', ht', hk', hs⟩ hne
      rw [ht] at ht'
      cases ht'
      rw [hk] at hk'
      cases hk'
      rcases g5 with ⟨_, hd⟩ | ⟨hnb, hf, hg⟩
      · have hd' : Doing (P.move i 0 0 0).1 i kd s := by
          obtain ⟨t2, k2, u1, u2, u3⟩ := hd
          exact ⟨t2, k2, u1, u2, fun e => (u3 e).trans (hs e)⟩
        obtain ⟨j1, j2, j3⟩ := i7 kd s hd' hne
        exact ⟨fun x hx h2 => g3 hne x hx (j1 x ((g1.has x).2 hx) h2), j2, j3⟩
      · have e : restP n (P.move i 0 0 0).1 i = (P.move i 0 0 0).1 := by
          cases n with
          | zero => rfl
          | succ n => unfold restP; rw [hnb, if_neg (by decide)]
        rw [e]
        exact ⟨g3 hne, hf, fun e' => by rw [← hs e']; exact hg e'⟩
/-- How many steps are left at most. -/
theorem mu_max (h : Inv P b) : mu P i ≤ 3 * P.K + 5 := by
  unfold mu
  cases ht : P.pts[i]? with
  | none => simp
  | some t =>
    cases hk : t.tk with
    | none => simp [hk]
    | some kk =>
      obtain ⟨kd, k⟩ := kk
      simp only [hk]
      have hi : i < P.pts.length := (List.getElem?_eq_some_iff.1 ht).1
      have hl := (h.ca i _ (h.cacheEq hi)).2.1
      have g1 := muG_le P k
      have g2 := muT_le P k
      show muK P i t.fr kd k ≤ _
      cases kd <;> simp only [muK] <;> split <;> omega
/-- A thread that is idle begins. -/
theorem begin_at (hn : P.n < 65536) (hi : i < P.pts.length) (hb : busy P i = false) {op arg : Int} {kd : Kd} {k : Pk} (hop : op ≠ 0) (hm : P.maker i op arg = some (kd, k)) :
    (P.move i op arg 0).1 = { P.count with cls := P.cls ++ [⟨i, op, arg, 0, P.n, -1, -1, 0, 0⟩], pts := P.pts.set i ⟨some (kd, k), true, (P.cls.length : Int)⟩ } := by
  obtain ⟨t, ht⟩ : ∃ t, P.pts[i]? = some t := ⟨_, List.getElem?_eq_getElem hi⟩
  have htk : ¬ t.tk.isSome = true := by
    simp [busy, ht] at hb
    simp [hb]
  unfold Pa.move
  rw [if_neg (by omega), if_pos (by omega)]
  simp only [Int.toNat_natCast]
  rw [ht]
  simp only [if_neg hop, if_neg htk, Pa.begins]
  have e : P.count.maker i op arg = some (kd, k) := hm
  rw [e]
  rfl
theorem begin_by (hn : P.n < 65536) (hi : i < P.pts.length) (hb : busy P i = false) {op arg : Int} {kd : Kd} {k : Pk} (hop : op ≠ 0) (hm : P.maker i op arg = some (kd, k)) :
    By P (P.move i op arg 0).1 i ∧ (P.move i op arg 0).1.n = P.n + 1 ∧ (P.move i op arg 0).1.A = P.A ∧ (Hr P → Hr (P.move i op arg 0).1) ∧ (P.move i op arg 0).1.pts[i]? = some ⟨some (kd, k), true, (P.cls.length : Int)⟩ := by
  rw [begin_at hn hi hb hop hm]
  refine ⟨⟨fun j hj => ?_, ?_, fun _ _ => rfl, rfl, rfl⟩, rfl, rfl, fun h x hx => ?_, ?_⟩
  · show (P.pts.set i _)[j]? = _
    rw [List.getElem?_set_ne (by omega)]
  · show (P.pts.set i _).length = _
    rw [List.length_set]
  · rcases h x hx with e | e | ⟨j, hj, e⟩
    · exact .inl e
    · exact .inr (.inl e)
    · exact .inr (.inr ⟨j, by show j < (P.pts.set i _).length; rw [List.length_set]; exact hj, e⟩)
  · show (P.pts.set i _)[i]? = _
    simp [hi]
end
end Go.Proofs.YtkfpiafgfjpodabGreat.Ar
/-
  The pure part of ArenaAgain: what holds behind each of its loops' rounds.
-/
namespace Go.Proofs.YtkfpiafgfjpodabGreat.Ar
open Go.RowKit Go.Shelf Mr Me Ma Wc Wm Wr
section
variable {P : Pa} {b i : Nat}
theorem take_step (h : Inv P P.n) (hn : P.n < 65536) {t : At} {k : Pk} (ht : P.pts[i]? = some t) (hk : t.tk = some (.take, k)) (hc : P.A.cache i = []) :
    (busy (P.move i 0 0 0).1 i = true ∧ (∃ t' k', (P.move i 0 0 0).1.pts[i]? = some t' ∧ t'.tk = some (.take, k')) ∧ (P.move i 0 0 0).1.A.sl = P.A.sl ∧ (P.move i 0 0 0).1.A.ca = P.A.ca) ∨
    (busy (P.move i 0 0 0).1 i = false ∧ (P.move i 0 0 0).1.A.ca = P.A.ca ∧ ∃ x, callAt (P.move i 0 0 0).1 i = some x ∧ ((x.ak = 2 ∧ P.A.has x.av ∧ (P.A.st x.av).1 ≠ 2 ∧ (P.move i 0 0 0).1.A.sl = (P.A.put x.av 2 i).sl) ∨ (x.ak = 4 ∧ (P.move i 0 0 0).1.A.sl = P.A.sl ∧ ∀ s, P.A.has s → (P.A.st s).1 ≠ 0))) := by
  have hi : i < P.pts.length := (List.getElem?_eq_some_iff.1 ht).1
  have hT := h.count.th i t .take k ht hk
  obtain ⟨c, hc1, hc2⟩ := h.cl i t ht (by simp [hk])
  obtain ⟨hR, -⟩ := work_core (P := P.count) (now := (P.n : Int)) h.count hn hi hT
  have hE := work_ef (P := P.count) (now := (P.n : Int)) h.count hi hT
  have hL := take_lack (P := P.count) (now := (P.n : Int)) h.count hi hT
  have hA := take_ca (P := P.count) (i := i) (now := (P.n : Int)) (fr := t.fr) (k := k) hc
  rw [step_at hn ht hk]
  generalize P.count.work i P.n t.fr .take k = r at *
  have hpl : i < r.1.pts.length := by rw [hR.pts]; exact hi
  have hcn : t.call.toNat = c := by omega
  obtain ⟨z, hz⟩ : ∃ z, P.cls[c]? = some z := ⟨_, List.getElem?_eq_getElem hc2⟩
  cases he : r.2.2 with
  | false =>
    rw [if_neg (by decide)]
    left
    refine ⟨by simp [busy, hpl], ⟨⟨some (.take, r.2.1), false, t.call⟩, r.2.1, by simp [hpl], rfl⟩, ?_, hA⟩
    cases hE with
    | same hs _ _ => exact hs
    | took _ _ e _ _ _ => rw [he] at e; cases e
    | gave e _ _ _ => cases e
    | flushed e _ _ _ _ => cases e
  | true =>
    rw [if_pos rfl]
    right
    refine ⟨by simp [busy, hpl], hA, { z with fin := P.n, ak := (Pa.answer .take r.2.1).1, av := (Pa.answer .take r.2.1).2 }, ?_, ?_⟩
    · simp only [callAt, List.getElem?_set, if_true, hpl]
      rw [if_neg (by omega), hcn]
      have e : r.1.cls = P.cls := hR.cls
      rw [e, setC_get hz, if_pos rfl]
    · cases hE with
      | same hs hk' _ =>
        right
        have htk := hk' rfl
        obtain ⟨_, _, g3, _, _⟩ := hL he htk
        exact ⟨by simp [Pa.answer, htk], hs, g3⟩
      | took _ htk _ hs hh h0 =>
        left
        refine ⟨by simp [Pa.answer, htk], ?_, ?_, ?_⟩
        · simp only [Pa.answer, htk, if_true]; exact hh
        · simp only [Pa.answer, htk, if_true]; exact h0
        · simp only [Pa.answer, htk, if_true]; exact hs
      | gave e _ _ _ => cases e
      | flushed e _ _ _ _ => cases e
theorem take_all : ∀ (n : Nat) {P : Pa}, Inv P P.n → mu P i ≤ n → P.n + mu P i ≤ 65536 → (∃ t k, P.pts[i]? = some t ∧ t.tk = some (.take, k)) → P.A.cache i = [] →
    (restP n P i).A.ca = P.A.ca ∧ ∃ x, callAt (restP n P i) i = some x ∧ ((x.ak = 2 ∧ P.A.has x.av ∧ (P.A.st x.av).1 ≠ 2 ∧ (restP n P i).A.sl = (P.A.put x.av 2 i).sl) ∨ (x.ak = 4 ∧ (restP n P i).A.sl = P.A.sl ∧ ∀ s, P.A.has s → (P.A.st s).1 ≠ 0)) := by
  intro n
  induction n with
  | zero =>
    rintro P h hm hn ⟨t, k, ht, hk⟩ hc
    have hb : busy P i = true := by simp [busy, ht, hk]
    have := mu_pos hb
    omega
  | succ n ih =>
    rintro P h hm hn ⟨t, k, ht, hk⟩ hc
    have hb : busy P i = true := by simp [busy, ht, hk]
    unfold restP
    rw [hb, if_pos rfl]
    have hpos := mu_pos hb
    have hmm : mu (P.move i 0 0 0).1 i + 1 ≤ mu P i := by
      rcases mu_move h (by omega) hb 0 0 with e | e
      · rw [mu_idle e]; omega
      · exact e
    have hnn := (rest_step h (by omega) ht hk).2.1
    rcases take_step h (by omega) ht hk hc with ⟨_, hd, hs, hca⟩ | ⟨hnb, hca, hx⟩
    · have hc' : (P.move i 0 0 0).1.A.cache i = [] := by unfold Ao.cache; rw [hca]; exact hc
      obtain ⟨j1, x, j2, j3⟩ := ih (h.move i 0 0 0) (by omega) (by omega) hd hc'
      refine ⟨j1.trans hca, x, j2, ?_⟩
      rcases j3 with ⟨a1, a2, a3, a4⟩ | ⟨a1, a2, a3⟩
      · left
        refine ⟨a1, (has_eq hs _).1 a2, by rw [← st_eq hs]; exact a3, ?_⟩
        rw [a4]
        simp only [Ao.put, hs]
      · right
        refine ⟨a1, a2.trans hs, fun s hh => ?_⟩
        rw [← st_eq hs]
        exact a3 s ((has_eq hs s).2 hh)
    · have e : restP n (P.move i 0 0 0).1 i = (P.move i 0 0 0).1 := by
        cases n with
        | zero => rfl
        | succ n => unfold restP; rw [hnb, if_neg (by decide)]
      rw [e]
      exact ⟨hca, hx⟩
theorem Hr.move (hH : Hr P) (h : Inv P P.n) (th op arg data : Int) : Hr (P.move th op arg data).1 := by
  by_cases hn : 65536 ≤ P.n
  · have : (P.move th op arg data).1 = P := by unfold Pa.move; rw [if_pos hn]
    rw [this]
    exact hH
  by_cases hth : 0 ≤ th ∧ th < P.pts.length
  · obtain ⟨i, rfl⟩ : ∃ i : Nat, th = i := ⟨th.toNat, by omega⟩
    have hi : i < P.pts.length := by omega
    obtain ⟨t, ht⟩ : ∃ t, P.pts[i]? = some t := ⟨_, List.getElem?_eq_getElem hi⟩
    by_cases ho : op = 0
    · cases hk : t.tk with
      | none =>
        have : (P.move i op arg data).1 = P.count := by
          unfold Pa.move
          rw [if_neg hn, if_pos hth]
          simp only [Int.toNat_natCast]
          rw [ht]
          simp [ho, Pa.step, hk]
        rw [this]
        exact hH
      | some kk =>
        obtain ⟨kd, k⟩ := kk
        have : (P.move i op arg data).1 = (P.move i 0 0 0).1 := by
          unfold Pa.move
          rw [if_neg hn, if_neg hn, if_pos hth, if_pos hth]
          simp only [Int.toNat_natCast]
          rw [ht]
          simp [ho]
        rw [this]
        exact (rest_step h (by omega) ht hk).2.2.2.1 hH
    · have : (P.move i op arg data).1 = P.count ∨ ∃ tk cl, (P.move i op arg data).1 = { P.count with cls := P.cls ++ [cl], pts := P.pts.set i tk } := by
        unfold Pa.move
        rw [if_neg hn, if_pos hth]
        simp only [Int.toNat_natCast]
        rw [ht]
        simp only [if_neg ho]
        split
        · exact .inl rfl
        · unfold Pa.begins
          split
          · exact .inr ⟨_, _, rfl⟩
          · exact .inl rfl
      rcases this with e | ⟨tk, cl, e⟩
      · rw [e]; exact hH
      · rw [e]
        intro s hs
        rcases hH s hs with e | e | ⟨j, hj, e⟩
        · exact .inl e
        · exact .inr (.inl e)
        · exact .inr (.inr ⟨j, by show j < (P.pts.set i tk).length; rw [List.length_set]; exact hj, e⟩)
  · have : (P.move th op arg data).1 = P.count := by unfold Pa.move; rw [if_neg hn, if_neg hth]
    rw [this]
    exact hH
end
theorem Hr.play (ms : List Mv) : ∀ {P : Pa}, Hr P → Inv P P.n → Hr (P.play ms) := by
  induction ms with
  | nil => exact fun h _ => h
  | cons x ms ih => exact fun h hI => ih (h.move hI x.th x.op x.arg x.data) (hI.move x.th x.op x.arg x.data)
theorem Hr.start (m K n t : Nat) (nth : Nat) (ws : List Int) : Hr (Pa.new m K (Ao.new n t) nth ws) := by
  intro s hs
  left
  simp only [Pa.new, Ao.new, Ao.st, List.getElem?_replicate]
  split <;> rfl
/-- What holds behind every round. -/
structure Ag (P : Pa) (n nt bd : Nat) : Prop where
  inv : Inv P P.n
  ns : P.A.sl.length = n
  np : P.pts.length = nt
  K : P.K ≤ 64
  hr : Hr P
  cv : Cv P
  nb : P.n ≤ bd
section
variable {P : Pa} {n nt bd i : Nat}
theorem Ag.mono (h : Ag P n nt bd) {bd' : Nat} (hb : bd ≤ bd') : Ag P n nt bd' := ⟨h.inv, h.ns, h.np, h.K, h.hr, h.cv, Nat.le_trans h.nb hb⟩
/-- A thread is stepped to its end. -/
theorem Ag.rest (h : Ag P n nt bd) (i : Nat) (m : Nat) (hm : mu P i ≤ m) (hm4 : m ≤ 400) (hb : bd + m ≤ 65536) :
    Ag (restP 400 P i) n nt (bd + m) ∧ busy (restP 400 P i) i = false ∧ By P (restP 400 P i) i ∧
    ∀ kd s, Doing P i kd s → kd ≠ .take → (∀ x, P.A.has x → ((restP 400 P i).A.st x).1 = 2 → (P.A.st x).1 = 2) ∧ (kd = .flush → (restP 400 P i).A.cache i = []) ∧ (kd = .give → ((restP 400 P i).A.st s).1 ≠ 2) := by
  have hnb := h.nb
  obtain ⟨i1, i2, i3, i4, i5, i6, i7⟩ := rest_all (i := i) 400 h.inv (by omega) (by omega)
  exact ⟨⟨i1, i4.ns.trans h.ns, i4.len.trans h.np, by rw [i4.K]; exact h.K, i5 h.hr, i6 h.cv, by omega⟩, i2, i4, i7⟩
theorem Ag.mu (h : Ag P n nt bd) (i : Nat) : mu P i ≤ 197 := by
  have := mu_max (i := i) h.inv
  have := h.K
  omega
/-- A thread that is idle begins. -/
theorem Ag.begins (h : Ag P n nt bd) (hb : bd < 65536) (hi : i < nt) (hid : busy P i = false) {op arg : Int} {kd : Kd} {k : Pk} (hop : op ≠ 0) (hm : P.maker i op arg = some (kd, k)) :
    Ag (P.move i op arg 0).1 n nt (bd + 1) ∧ By P (P.move i op arg 0).1 i ∧ (P.move i op arg 0).1.A = P.A ∧ (P.move i op arg 0).1.pts[i]? = some ⟨some (kd, k), true, (P.cls.length : Int)⟩ ∧ Ar.mu (P.move i op arg 0).1 i = muK (P.move i op arg 0).1 i true kd k := by
  have hnb := h.nb
  obtain ⟨g1, g2, g3, g4, g5⟩ := begin_by (by omega) (by rw [h.np]; exact hi) hid hop hm
  refine ⟨⟨h.inv.move _ _ _ _, by rw [g3]; exact h.ns, g1.len.trans h.np, by rw [g1.K]; exact h.K, g4 h.hr, h.cv.move h.inv _ _ _ _, by omega⟩, g1, g3, g5, ?_⟩
  simp [Ar.mu, g5]
/-- Behind the script: k threads have come to their ends. -/
def G1 (P : Pa) (n nt k : Nat) : Prop := Ag P n nt (50000 + 197 * k) ∧ ∀ j, j < k → busy P j = false
theorem G1.next {k : Nat} (h : G1 P n nt k) (hnt : nt ≤ 16) (hk : k < nt) : G1 (restP 400 P k) n nt (k + 1) := by
  obtain ⟨h1, h2, h3, _⟩ := h.1.rest k 197 (h.1.mu k) (by omega) (by omega)
  refine ⟨h1.mono (by omega), fun j hj => ?_⟩
  by_cases e : j = k
  · rw [e]; exact h2
  · rw [h3.busy e]
    exact h.2 j (by omega)
/-- The slots below s are nobody's own. -/
def G2 (P : Pa) (n nt s : Nat) : Prop := Ag P n nt (53200 + 4 * s) ∧ (∀ j, busy P j = false) ∧ ∀ x : Int, P.A.has x → x < (s : Int) → (P.A.st x).1 ≠ 2
theorem busy_none (h : nt ≤ i) (hp : P.pts.length = nt) : busy P i = false := by
  unfold busy
  rw [List.getElem?_eq_none (by omega)]
theorem G1.done (h : G1 P n nt nt) (hnt : nt ≤ 16) : G2 P n nt 0 := by
  refine ⟨h.1.mono (by omega), fun j => ?_, fun x hx h0 => ?_⟩
  · by_cases e : j < nt
    · exact h.2 j e
    · exact busy_none (by omega) h.1.np
  · have := hx.1
    omega
theorem G2.skip {s : Nat} (h : G2 P n nt s) (h2 : (P.A.st s).1 ≠ 2) : G2 P n nt (s + 1) := by
  refine ⟨h.1.mono (by omega), h.2.1, fun x hx hs => ?_⟩
  by_cases e : x = (s : Int)
  · rw [e]; exact h2
  · exact h.2.2 x hx (by omega)
theorem G2.own {s : Nat} (h : G2 P n nt s) (hs : s < n) (h2 : (P.A.st s).1 = 2) : ∃ i : Nat, i < nt ∧ P.A.st s = (2, (i : Int)) := by
  have hx : P.A.has s := ⟨by omega, by have := h.1.ns; omega⟩
  rcases h.1.hr s hx with e | e | ⟨i, hi, e⟩
  · omega
  · omega
  · exact ⟨i, by have := h.1.np; omega, e⟩
theorem G2.give {s : Nat} (h : G2 P n nt s) (hs : s < n) {i : Nat} (hi : i < nt) (hst : P.A.st s = (2, (i : Int))) : G2 (restP 400 (P.move i 11 s 0).1 i) n nt (s + 1) := by
  have hx : P.A.has s := ⟨by omega, by have := h.1.ns; omega⟩
  have hns := h.1.inv.ns
  have hsn := h.1.ns
  have hmk : P.maker i 11 s = some (.give, ⟨2, s, 0, 0, false⟩) := by
    unfold Pa.maker
    rw [if_neg (by omega), if_pos rfl, if_pos ⟨hx, hst⟩]
  obtain ⟨b1, b2, b3, b4, b5⟩ := h.1.begins (by omega) hi (h.2.1 i) (by omega) hmk
  have hmu : mu (P.move i 11 s 0).1 i = 3 := by rw [b5]; rfl
  obtain ⟨r1, r2, r3, r4⟩ := b1.rest i 3 (by omega) (by omega) (by omega)
  obtain ⟨d1, _, d3⟩ := r4 .give s ⟨_, _, b4, rfl, fun _ => rfl⟩ (fun e => by cases e)
  refine ⟨r1.mono (by omega), fun j => ?_, fun x hx' hlt => ?_⟩
  · by_cases e : j = i
    · rw [e]; exact r2
    · rw [r3.busy e, b2.busy e]
      exact h.2.1 j
  · by_cases e : x = (s : Int)
    · rw [e]; exact d3 rfl
    · intro h2
      have hx1 : (P.move i 11 s 0).1.A.has x := (r3.has x).1 hx'
      have := d1 x hx1 h2
      rw [b3] at this hx1
      exact h.2.2 x hx1 (by omega) this
/-- No slot is anybody's own; the first k caches are empty. -/
def G3 (P : Pa) (n nt k : Nat) : Prop := Ag P n nt (57400 + 198 * k) ∧ (∀ j, busy P j = false) ∧ (∀ x : Int, P.A.has x → (P.A.st x).1 ≠ 2) ∧ ∀ j, j < k → P.A.cache j = []
theorem G2.done (h : G2 P n nt n) : G3 P n nt 0 := by
  have := h.1.inv.ns
  have := h.1.ns
  refine ⟨h.1.mono (by omega), h.2.1, fun x hx => h.2.2 x hx (by have := hx.2; omega), fun j hj => by omega⟩
theorem G3.flush {k : Nat} (h : G3 P n nt k) (hnt : nt ≤ 16) (hk : k < nt) : G3 (restP 400 (P.move k 12 0 0).1 k) n nt (k + 1) := by
  have hmk : P.maker k 12 0 = some (.flush, ⟨3, 0, 0, 0, false⟩) := by
    unfold Pa.maker
    rw [if_neg (by omega), if_neg (by omega), if_pos rfl]
  obtain ⟨b1, b2, b3, b4, _⟩ := h.1.begins (by omega) hk (h.2.1 k) (by omega) hmk
  obtain ⟨r1, r2, r3, r4⟩ := b1.rest k 197 (b1.mu k) (by omega) (by omega)
  obtain ⟨d1, d2, _⟩ := r4 .flush 0 ⟨_, _, b4, rfl, fun e => by cases e⟩ (fun e => by cases e)
  refine ⟨r1.mono (by omega), fun j => ?_, fun x hx' h2 => ?_, fun j hj => ?_⟩
  · by_cases e : j = k
    · rw [e]; exact r2
    · rw [r3.busy e, b2.busy e]
      exact h.2.1 j
  · have hx1 : (P.move k 12 0 0).1.A.has x := (r3.has x).1 hx'
    have := d1 x hx1 h2
    rw [b3] at this hx1
    exact h.2.2.1 x hx1 this
  · by_cases e : j = k
    · rw [e]; exact d2 rfl
    · rw [r3.cache e, b2.cache e]
      exact h.2.2.2 j (by omega)
/-- The slots that are somebody's own, as the law's last loop keeps them. -/
def seenL (A : Ao) : List Bool := A.sl.map (fun y => y.1 == 2)
def cnt2 (A : Ao) : Nat := A.sl.countP (fun y => y.1 == 2)
/-- j slots are taken; all others are free. -/
def G4 (P : Pa) (n nt j : Nat) : Prop := Ag P n nt (60600 + 4 * j) ∧ (∀ i, busy P i = false) ∧ (∀ i, i < nt → P.A.cache i = []) ∧ (∀ x : Int, P.A.has x → (P.A.st x).1 = 0 ∨ (P.A.st x).1 = 2) ∧ cnt2 P.A = j
theorem st_get (A : Ao) {s : Nat} (hs : s < A.sl.length) : A.st s = A.sl[s] := by simp [Ao.st, hs]
theorem G3.free (h : G3 P n nt nt) (x : Int) (hx : P.A.has x) : (P.A.st x).1 = 0 := by
  rcases h.1.hr x hx with e | e | ⟨i, hi, e⟩
  · exact e
  · obtain ⟨j, l, hj, hm⟩ := h.1.inv.cd x hx e
    have hj' : j < nt := by
      have := (List.getElem?_eq_some_iff.1 hj).1
      rw [h.1.inv.kc, h.1.np] at this
      exact this
    have hc := h.2.2.2 j hj'
    unfold Ao.cache at hc
    rw [hj] at hc
    have hl : l = [] := hc
    rw [hl] at hm
    cases hm
  · exact absurd (by rw [e]) (h.2.2.1 x hx)
theorem G3.done (h : G3 P n nt nt) (hnt : nt ≤ 16) : G4 P n nt 0 ∧ P.A.sl.countP (fun y => y.1 == 0) = n ∧ seenL P.A = List.replicate n false := by
  have hz : ∀ y ∈ P.A.sl, y.1 = 0 := by
    intro y hy
    obtain ⟨s, hs, rfl⟩ := List.mem_iff_getElem.1 hy
    have := h.free s ⟨by omega, by omega⟩
    rw [st_get P.A hs] at this
    exact this
  refine ⟨⟨h.1.mono (by omega), h.2.1, h.2.2.2, fun x hx => .inl (h.free x hx), ?_⟩, ?_, ?_⟩
  · unfold cnt2
    rw [List.countP_eq_zero]
    intro y hy
    simp [hz y hy]
  · rw [← h.1.ns, List.countP_eq_length]
    intro y hy
    simp [hz y hy]
  · apply List.ext_getElem
    · simp [seenL, h.1.ns]
    · intro s h1 h2
      have h3 : s < P.A.sl.length := by simpa [seenL] using h1
      have := hz _ (List.getElem_mem h3)
      simp [seenL, this]
theorem cnt2_put (A : Ao) {s : Nat} (hs : s < A.sl.length) (h0 : (A.st s).1 ≠ 2) (i : Nat) : cnt2 (A.put s 2 i) = cnt2 A + 1 ∧ seenL (A.put s 2 i) = (seenL A).set s true := by
  rw [st_get A hs] at h0
  constructor
  · simp only [cnt2, Ao.put, Int.toNat_natCast]
    rw [List.countP_set hs]
    simp [h0]
  · simp [seenL, Ao.put, List.map_set, holder]
/-- One more is taken, or there is none. -/
theorem G4.take {j : Nat} (h : G4 P n nt j) (hj : j ≤ n) (h0 : 0 < nt) : ∃ x, callAt (restP 400 (P.move 0 10 0 0).1 0) 0 = some x ∧ Cv (restP 400 (P.move 0 10 0 0).1 0) ∧
    ((j < n ∧ x.ak = 2 ∧ ∃ s : Nat, x.av = s ∧ s < n ∧ (seenL P.A)[s]? = some false ∧ G4 (restP 400 (P.move 0 10 0 0).1 0) n nt (j + 1) ∧ seenL (restP 400 (P.move 0 10 0 0).1 0).A = (seenL P.A).set s true) ∨ (j = n ∧ x.ak = 4)) := by
  have hns := h.1.inv.ns
  have hsn := h.1.ns
  have hmk : P.maker 0 10 0 = some (.take, ⟨1, 0, 0, 0, false⟩) := by
    unfold Pa.maker
    rw [if_pos rfl]
  obtain ⟨b1, b2, b3, b4, b5⟩ := h.1.begins (i := 0) (by omega) h0 (h.2.1 0) (by omega) hmk
  have b5' : mu (P.move 0 10 0 0).1 0 = 3 := b5
  have b1' : Ag (P.move 0 10 0 0).1 n nt (60600 + 4 * j + 1) := b1
  have b3' : (P.move 0 10 0 0).1.A = P.A := b3
  obtain ⟨r1, r2, r3, _⟩ := b1'.rest 0 3 (by omega) (by omega) (by omega)
  have hcc : (P.move 0 10 0 0).1.A.cache 0 = [] := by rw [b3']; exact h.2.2.1 0 h0
  obtain ⟨t1, x, t2, t3⟩ := take_all (i := 0) 400 b1'.inv (by omega) (by have := b1'.nb; omega) ⟨_, _, b4, rfl⟩ hcc
  generalize (P.move 0 10 0 0).1 = P1 at *
  rw [b3'] at t1 t3
  refine ⟨x, t2, r1.cv, ?_⟩
  have hcz : ∀ s : Nat, s < n → ((P.A.st s).1 == 2) = true → True := fun _ _ _ => trivial
  rcases t3 with ⟨a1, a2, a3, a4⟩ | ⟨a1, a2, a3⟩
  · left
    obtain ⟨s, hs⟩ : ∃ s : Nat, x.av = s := ⟨x.av.toNat, by have := a2.1; omega⟩
    rw [hs] at a2 a3 a4
    have hsl : s < P.A.sl.length := by have := a2.2; omega
    obtain ⟨q1, q2⟩ := cnt2_put P.A hsl a3 0
    have e1 : cnt2 (restP 400 P1 0).A = j + 1 := by
      have : cnt2 (restP 400 P1 0).A = cnt2 (P.A.put s 2 0) := by unfold cnt2; rw [a4]
      rw [this, q1, h.2.2.2.2]
    have e2 : seenL (restP 400 P1 0).A = (seenL P.A).set s true := by
      have : seenL (restP 400 P1 0).A = seenL (P.A.put s 2 0) := by unfold seenL; rw [a4]
      rw [this, q2]
    have hle : cnt2 (restP 400 P1 0).A ≤ n := by
      unfold cnt2
      refine Nat.le_trans List.countP_le_length ?_
      rw [r1.ns]
      exact Nat.le_refl _
    refine ⟨by omega, a1, s, hs, by omega, ?_, ⟨r1.mono (by omega), fun k => ?_, fun k hk => ?_, fun y hy => ?_, e1⟩, e2⟩
    · rw [st_get P.A hsl] at a3
      simp [seenL, hsl, a3]
    · by_cases e : k = 0
      · rw [e]; exact r2
      · rw [r3.busy e, b2.busy e]
        exact h.2.1 k
    · have : (restP 400 P1 0).A.cache k = P.A.cache k := by unfold Ao.cache; rw [t1]
      rw [this]
      exact h.2.2.1 k hk
    · have hy' : P.A.has y := by
        unfold Ao.has at hy ⊢
        rw [r1.ns] at hy
        rw [hsn]
        exact hy
      rw [st_eq a4]
      by_cases e : y = (s : Int)
      · rw [e, put_same _ _ _ _ a2]
        exact .inr rfl
      · rw [put_other _ _ _ _ _ a2 hy' e]
        exact h.2.2.2.1 y hy'
  · right
    refine ⟨?_, a1⟩
    have : cnt2 P.A = n := by
      unfold cnt2
      rw [← hsn, List.countP_eq_length]
      intro y hy
      obtain ⟨s, hs, rfl⟩ := List.mem_iff_getElem.1 hy
      have hh : P.A.has s := ⟨by omega, by omega⟩
      have h1 := a3 s hh
      have h2 := h.2.2.2.1 s hh
      rw [st_get P.A hs] at h1 h2
      have : (P.A.sl[s]).1 = 2 := by omega
      simp [this]
    have := h.2.2.2.2
    omega
end
end Go.Proofs.YtkfpiafgfjpodabGreat.Ar
