import Derived.Test.YtmmjdlbeiaoojaaGreatJ37
/-
  The pure part of ArenaOnce: a slot that a take has told is told by no other till a give of it has begun.
-/
namespace Go.Proofs.YtmmjdlbeiaoojaaGreat.Ar
open Go.RowKit Go.Shelf Mr Me Ma Wc Wm Wr
/-- A give of what the call j, which is x, has told, by the same thread, begun behind its end and ahead of e. -/
def Gvn (cls : List Cl) (j : Nat) (x : Cl) (e : Int) : Prop := ∃ (g : Nat) (z : Cl), cls[g]? = some z ∧ j < g ∧ z.op = 11 ∧ z.arg = x.av ∧ z.th = x.th ∧ x.fin < z.beg ∧ z.beg < e
theorem Gvn.mono {cls : List Cl} {j : Nat} {x : Cl} {e e' : Int} (h : Gvn cls j x e) (he : e ≤ e') : Gvn cls j x e' := by
  obtain ⟨g, z, h1, h2, h3, h4, h5, h6, h7⟩ := h
  exact ⟨g, z, h1, h2, h3, h4, h5, h6, by omega⟩
/-- The calls, each what it was but for its end and its answer. -/
def Clk (cls cls' : List Cl) : Prop := ∀ (g : Nat) (z : Cl), cls[g]? = some z → ∃ z', cls'[g]? = some z' ∧ z'.op = z.op ∧ z'.arg = z.arg ∧ z'.th = z.th ∧ z'.beg = z.beg
theorem Gvn.kept {cls cls' : List Cl} {j : Nat} {x : Cl} {e : Int} (h : Gvn cls j x e) (hk : Clk cls cls') : Gvn cls' j x e := by
  obtain ⟨g, z, h1, h2, h3, h4, h5, h6, h7⟩ := h
  obtain ⟨z', k1, k2, k3, k4, k5⟩ := hk g z h1
  exact ⟨g, z', k1, h2, by omega, by omega, by omega, by omega, by omega⟩
theorem Clk.refl (cls : List Cl) : Clk cls cls := fun _ z h => ⟨z, h, rfl, rfl, rfl, rfl⟩
theorem setC_get {cls : List Cl} {c : Nat} {now ak av : Int} {z : Cl} (hz : cls[c]? = some z) (g : Nat) : (Pa.setC cls c now ak av)[g]? = if g = c then some { z with fin := now, ak := ak, av := av } else cls[g]? := by
  have hc : c < cls.length := (List.getElem?_eq_some_iff.1 hz).1
  unfold Pa.setC
  rw [hz]
  simp only [List.getElem?_set]
  by_cases e : g = c
  · subst e; simp [hc]
  · rw [if_neg (fun e' => e e'.symm), if_neg e]
theorem Clk.setC {cls : List Cl} {c : Nat} {now ak av : Int} {z : Cl} (hz : cls[c]? = some z) : Clk cls (Pa.setC cls c now ak av) := by
  intro g y hy
  rw [setC_get hz]
  by_cases e : g = c
  · subst e
    rw [hz] at hy
    cases hy
    exact ⟨_, if_pos rfl, rfl, rfl, rfl, rfl⟩
  · exact ⟨y, by rw [if_neg e]; exact hy, rfl, rfl, rfl, rfl⟩
def opOf (kd : Kd) (z : Cl) (k : Pk) : Prop := match kd with
  | .take => z.op = 10
  | .give => z.op = 11 ∧ z.arg = k.sl
  | .flush => z.op = 12
/-- What a step has done to the slots. -/
inductive Ef (P : Pa) (i : Nat) (kd : Kd) (k : Pk) (r : Pa × Pk × Bool) : Prop where
  | same (hs : r.1.A.sl = P.A.sl) (hk : kd = .take → r.2.1.tk = false) (hg : kd = .give → r.2.1.sl = k.sl)
  | took (hk : kd = .take) (ht : r.2.1.tk = true) (he : r.2.2 = true) (hs : r.1.A.sl = (P.A.put r.2.1.sl 2 i).sl) (hh : P.A.has r.2.1.sl) (h0 : (P.A.st r.2.1.sl).1 ≠ 2)
  | gave (hk : kd = .give) (he : r.2.2 = true) (to : Int) (hs : r.1.A.sl = (P.A.put k.sl to i).sl)
  | flushed (hk : kd = .flush) (s : Int) (hs : r.1.A.sl = (P.A.put s 0 i).sl) (hh : P.A.has s) (h0 : (P.A.st s).1 ≠ 2)
section
variable {P : Pa} {b i : Nat}
theorem step_ef (h : Inv P b) {now : Int} {kd : Kd} {k : Pk} (hi : i < P.pts.length) (hT : Tok P i false kd k) : Ef P i kd k (P.stepP i now k kd) := by
  cases kd with
  | take =>
    obtain ⟨t0, t1⟩ := hT
    simp only [Bool.false_eq_true, if_false] at t1
    obtain ⟨t1, t2⟩ := t1
    simp only [Pa.stepP]
    split
    · split
      · exact .same rfl (fun _ => t0) (fun e => by cases e)
      · exact .same rfl (fun _ => t0) (fun e => by cases e)
    · split
      · exact .same rfl (fun _ => t0) (fun e => by cases e)
      · rename_i n5 n6
        split
        · rename_i hw
          rcases t2 with t2 | ⟨t2, t3, t4, t5, t6⟩
          · omega
          · refine .took rfl rfl rfl rfl t3 ?_
            have hns := h.ns
            have hw1 := h.w0.1
            have e1 : P.word 0 % 4294967296 = k.sl + 1 := by
              have := firstOf_eq (h := P.word 0) (by omega)
              rw [t4, ← hw, this]; omega
            have := (h.head e1 t3.1).2
            show (P.A.st k.sl).1 ≠ 2
            omega
        · exact .same rfl (fun _ => t0) (fun e => by cases e)
  | give =>
    rw [stepP_give]
    unfold givP
    split
    · exact .same rfl (fun e => by cases e) (fun _ => rfl)
    · split
      · exact .same rfl (fun e => by cases e) (fun _ => rfl)
      · split
        · exact .gave rfl rfl 0 rfl
        · exact .same rfl (fun e => by cases e) (fun _ => rfl)
  | flush =>
    rw [stepP_flush]
    simp only [Tok, Bool.false_eq_true, if_false] at hT
    obtain ⟨t1, t2, t3⟩ := hT
    unfold givP
    split
    · exact .same rfl (fun e => by cases e) (fun e => by cases e)
    · split
      · exact .same rfl (fun e => by cases e) (fun e => by cases e)
      · split
        · refine .flushed rfl k.sl ?_ t1 ?_
          · simp only [if_true, Pa.next]
            split <;> rfl
          · have hc := h.cacheEq hi
            have := ((h.ca i _ hc).2.2 _ (List.mem_of_getLast? t2)).2
            rw [this]
            show (1 : Int) ≠ 2
            decide
        · exact .same rfl (fun e => by cases e) (fun e => by cases e)
theorem work_ef (h : Inv P b) (hi : i < P.pts.length) {now : Int} {fr : Bool} {kd : Kd} {k : Pk} (hT : Tok P i fr kd k) : Ef P i kd k (P.work i now fr kd k) := by
  unfold Pa.work
  cases fr with
  | false => rw [if_neg (by decide)]; exact step_ef h hi hT
  | true =>
    rw [if_pos rfl]
    cases he : (P.ready i now k kd).2.2 with
    | false =>
      simp only [he, Bool.false_eq_true, if_false]
      obtain ⟨e1, e2⟩ := ready_no h hi hT he
      have e3 : kd = .give → (P.ready i now k kd).2.1.sl = k.sl := fun e => by
        subst e
        simp only [Pa.ready]
        split <;> rfl
      rw [e1]
      have := step_ef (now := now) h hi e2
      cases this with
      | same hs hk hg => exact .same hs hk (fun e => (hg e).trans (e3 e))
      | took hk ht he hs hh h0 => exact .took hk ht he hs hh h0
      | gave hk he to hs => exact .gave hk he to (by rw [← e3 hk]; exact hs)
      | flushed hk s hs hh h0 => exact .flushed hk s hs hh h0
    | true =>
      simp only [he, if_true]
      cases kd with
      | take =>
        rcases h.last hi with ⟨e1, e2⟩ | ⟨l, s, e1, e2, e3, e4, e5⟩
        · simp only [Pa.ready, if_pos e2] at he
          cases he
        · simp only [Pa.ready, if_neg (show ¬ P.A.last i = -1 by omega)]
          refine .took rfl rfl rfl rfl (by rw [e2]; exact e4) ?_
          show (P.A.st (P.A.last i)).1 ≠ 2
          rw [e2, e5]
          show (1 : Int) ≠ 2
          decide
      | give =>
        simp only [Pa.ready] at he ⊢
        split at he
        · rename_i hn
          simp only [if_pos hn]
          exact .gave rfl rfl 1 rfl
        · cases he
      | flush =>
        simp only [Pa.ready] at he ⊢
        split at he
        · rename_i hn
          simp only [if_pos hn]
          exact .same rfl (fun e => by cases e) (fun e => by cases e)
        · cases he
/-- What holds of the calls behind every move; b: the next move's number. -/
structure On (P : Pa) (b : Int) : Prop where
  fin : ∀ (j : Nat) (x : Cl), P.cls[j]? = some x → x.fin < b ∧ x.beg < b
  ok : ∀ (j : Nat) (x : Cl), P.cls[j]? = some x → x.op = 10 → x.ak = 2 → P.A.has x.av ∧ (P.A.st x.av = (2, x.th) ∨ Gvn P.cls j x b)
  pair : ∀ (j : Nat) (x : Cl) (k : Nat) (y : Cl), P.cls[j]? = some x → P.cls[k]? = some y → k ≠ j → x.op = 10 → x.ak = 2 → y.op = 10 → y.ak = 2 → y.av = x.av → x.fin ≤ y.fin → Gvn P.cls j x y.fin
  th : ∀ (i : Nat) (t : At) (kd : Kd) (k : Pk), P.pts[i]? = some t → t.tk = some (kd, k) → ∃ (c : Nat) (z : Cl), t.call = (c : Int) ∧ P.cls[c]? = some z ∧ z.th = i ∧ z.ak = 0 ∧ opOf kd z k ∧ ∀ (j : Nat) (x : Cl), P.cls[j]? = some x → x.th = i → j ≠ c → j < c ∧ x.fin < z.beg
theorem On.mono {b b' : Int} (h : On P b) (hb : b ≤ b') : On P b' :=
  ⟨fun j x hx => ⟨by have := (h.fin j x hx).1; omega, by have := (h.fin j x hx).2; omega⟩, fun j x hx h1 h2 => ⟨(h.ok j x hx h1 h2).1, (h.ok j x hx h1 h2).2.imp_right (fun g => g.mono hb)⟩, h.pair, h.th⟩
theorem st_eq {A A' : Ao} (h : A'.sl = A.sl) (s : Int) : A'.st s = A.st s := by unfold Ao.st; rw [h]
theorem has_eq {A A' : Ao} (h : A'.sl = A.sl) (s : Int) : A'.has s ↔ A.has s := by unfold Ao.has; rw [h]
/-- The slots have changed, the calls have not: the thread goes on. -/
theorem On.on {b : Int} (hO : On P b) {t : At} {kd : Kd} {k k' : Pk} (ht : P.pts[i]? = some t) (hk : t.tk = some (kd, k)) {Q : Pa} {t' : At} (q1 : Q.cls = P.cls) (q2 : Q.pts = P.pts.set i t') (q3 : t'.call = t.call) (q4 : t'.tk = some (kd, k')) (q5 : kd = .give → k'.sl = k.sl)
    (q6 : ∀ s, Q.A.has s ↔ P.A.has s) (q7 : ∀ s th, P.A.has s → P.A.st s = (2, th) → Q.A.st s = (2, th)) : On Q b := by
  obtain ⟨o1, o2, o3, o4⟩ := hO
  refine ⟨by rw [q1]; exact o1, fun j x hx h1 h2 => ?_, by rw [q1]; exact o3, fun j u kd' ku hu hku => ?_⟩
  · rw [q1] at hx
    obtain ⟨h3, h4⟩ := o2 j x hx h1 h2
    refine ⟨(q6 _).2 h3, ?_⟩
    rcases h4 with h4 | h4
    · exact .inl (q7 _ _ h3 h4)
    · exact .inr (by rw [q1]; exact h4)
  · rw [q2, List.getElem?_set] at hu
    rw [q1]
    split at hu
    · rename_i e
      subst e
      split at hu
      · cases hu
        rw [q4] at hku
        cases hku
        obtain ⟨c, z, h1, h2, h3, h4, h5, h6⟩ := o4 i t kd k ht hk
        refine ⟨c, z, q3.trans h1, h2, h3, h4, ?_, h6⟩
        cases kd with
        | take => exact h5
        | give => exact ⟨h5.1, h5.2.trans (q5 rfl).symm⟩
        | flush => exact h5
      · cases hu
    · exact o4 j u kd' ku hu hku
/-- The thread's call has ended at the move now. -/
theorem On.done {now : Int} (hO : On P now) {t : At} {kd : Kd} {k : Pk} (ht : P.pts[i]? = some t) (hk : t.tk = some (kd, k)) {Q : Pa} {t' : At} {ak av : Int} (q1 : Q.cls = Pa.setC P.cls t.call.toNat now ak av) (q2 : Q.pts = P.pts.set i t') (q4 : t'.tk = none)
    (q6 : ∀ s, Q.A.has s ↔ P.A.has s) (q7 : ∀ s th, P.A.has s → P.A.st s = (2, th) → Q.A.st s = (2, th) ∨ (kd = .give ∧ s = k.sl ∧ th = i))
    (q8 : kd = .take → ak = 2 → P.A.has av ∧ (P.A.st av).1 ≠ 2 ∧ Q.A.st av = (2, (i : Int))) : On Q (now + 1) := by
  obtain ⟨o1, o2, o3, o4⟩ := hO
  obtain ⟨c, z, h1, h2, h3, h4, h5, h6⟩ := o4 i t kd k ht hk
  have hc : t.call.toNat = c := by omega
  rw [hc] at q1
  have get := fun g => setC_get (now := now) (ak := ak) (av := av) h2 g
  have hK : Clk P.cls Q.cls := by rw [q1]; exact Clk.setC h2
  have old : ∀ (j : Nat) (x : Cl), Q.cls[j]? = some x → (j = c ∧ x = { z with fin := now, ak := ak, av := av }) ∨ (j ≠ c ∧ P.cls[j]? = some x) := fun j x hx => by
    rw [q1, get] at hx
    split at hx
    · cases hx; exact .inl ⟨by assumption, rfl⟩
    · exact .inr ⟨by assumption, hx⟩
  have isT : z.op = 10 → kd = .take := fun e => by
    cases kd with
    | take => rfl
    | give => have := h5.1; omega
    | flush => have : z.op = 12 := h5; omega
  have hz := o1 c z h2
  have Gw : ∀ (j : Nat) (x : Cl), P.cls[j]? = some x → j ≠ c → x.op = 10 → x.ak = 2 → ¬ Q.A.st x.av = (2, x.th) ∨ P.A.st x.av ≠ (2, x.th) → Gvn Q.cls j x now := fun j x hx hj e1 e2 hn => by
    obtain ⟨h7, h8⟩ := o2 j x hx e1 e2
    rcases h8 with h8 | h8
    · rcases hn with hn | hn
      · rcases q7 _ _ h7 h8 with h9 | ⟨h9, h10, h11⟩
        · exact absurd h9 hn
        · subst h9
          obtain ⟨h12, h13⟩ := h6 j x hx h11 hj
          exact Gvn.kept ⟨c, z, h2, h12, h5.1, by rw [h5.2, h10], by rw [h3, h11], h13, hz.2⟩ hK
      · exact absurd h8 hn
    · exact h8.kept hK
  refine ⟨fun j x hx => ?_, fun j x hx e1 e2 => ?_, fun j x k' y hx hy hne e1 e2 e3 e4 e5 e6 => ?_, fun j u kd' ku hu hku => ?_⟩
  · rcases old j x hx with ⟨rfl, rfl⟩ | ⟨hj, hx⟩
    · exact ⟨by show now < now + 1; omega, by show z.beg < now + 1; omega⟩
    · have := o1 j x hx; omega
  · rcases old j x hx with ⟨rfl, rfl⟩ | ⟨hj, hx⟩
    · obtain ⟨r1, r2, r3⟩ := q8 (isT e1) e2
      exact ⟨(q6 _).2 r1, .inl (by rw [h3]; exact r3)⟩
    · refine ⟨(q6 _).2 (o2 j x hx e1 e2).1, ?_⟩
      by_cases hs : Q.A.st x.av = (2, x.th)
      · exact .inl hs
      · exact .inr ((Gw j x hx hj e1 e2 (.inl hs)).mono (by omega))
  · rcases old j x hx with ⟨rfl, rfl⟩ | ⟨hj, hx⟩
    · rcases old k' y hy with ⟨rfl, rfl⟩ | ⟨hk', hy⟩
      · exact absurd rfl hne
      · have := (o1 k' y hy).1
        have : now ≤ y.fin := e6
        omega
    · rcases old k' y hy with ⟨rfl, rfl⟩ | ⟨hk', hy⟩
      · obtain ⟨r1, r2, r3⟩ := q8 (isT e3) e4
        have e5' : av = x.av := e5
        refine Gw j x hx hj e1 e2 (.inr fun e => r2 ?_)
        rw [e5', e]
      · exact (o3 j x k' y hx hy hne e1 e2 e3 e4 e5 e6).kept hK
  · rw [q2, List.getElem?_set] at hu
    split at hu
    · split at hu
      · cases hu; rw [q4] at hku; cases hku
      · cases hu
    · rename_i hj
      obtain ⟨c', z', r1, r2, r3, r4, r5, r6⟩ := o4 j u kd' ku hu hku
      have hcc : c' ≠ c := fun e => by
        subst e
        rw [h2] at r2
        cases r2
        omega
      refine ⟨c', z', r1, by rw [q1, get, if_neg hcc]; exact r2, r3, r4, r5, fun g x hx hx2 hg => ?_⟩
      rcases old g x hx with ⟨rfl, rfl⟩ | ⟨hg', hx⟩
      · have : z.th = j := hx2
        omega
      · exact r6 g x hx hx2 hg
theorem On.step (hI : Inv P b) (hb : b < 65536) {now : Int} (hO : On P now) {t : At} (ht : P.pts[i]? = some t) : On (P.step i t now).1 (now + 1) := by
  have hi : i < P.pts.length := (List.getElem?_eq_some_iff.1 ht).1
  cases hk : t.tk with
  | none => simp only [Pa.step, hk]; exact hO.mono (by omega)
  | some kk =>
    obtain ⟨kd, k⟩ := kk
    have hT := hI.th i t kd k ht hk
    have hE := work_ef (now := now) hI hi hT
    have hR := (work_core (now := now) hI hb hi hT).1
    simp only [Pa.step, hk]
    generalize P.work i now t.fr kd k = r at *
    have e1 := hR.pts
    have e2 := hR.cls
    have hh := hR.frm.has
    cases he : r.2.2 with
    | true =>
      simp only [if_true]
      refine hO.done ht hk (t' := ⟨none, false, t.call⟩) (by rw [e2]) (by rw [e1]) rfl hh ?_ ?_
      · intro s th hs hst
        show r.1.A.st s = (2, th) ∨ _
        cases hE with
        | same hs' _ _ => rw [st_eq hs']; exact .inl hst
        | took hkd htk _ hs' hh' h0 =>
          left
          rw [st_eq hs', put_other _ _ _ _ _ hh' hs (fun e => by subst e; rw [hst] at h0; exact h0 rfl)]
          exact hst
        | gave hkd _ to hs' =>
          subst hkd
          by_cases e : s = k.sl
          · right
            refine ⟨rfl, e, ?_⟩
            have := hT.2.1
            rw [← e, hst] at this
            simpa using this
          · left
            rw [st_eq hs', put_other _ _ _ _ _ hT.1 hs e]
            exact hst
        | flushed hkd s' hs' hh' h0 =>
          left
          rw [st_eq hs', put_other _ _ _ _ _ hh' hs (fun e => by subst e; rw [hst] at h0; exact h0 rfl)]
          exact hst
      · intro hkd hak
        subst hkd
        cases hE with
        | same hs' hk' _ => simp [Pa.answer, hk'] at hak
        | took hkd htk _ hs' hh' h0 =>
          have ea : (Pa.answer .take r.2.1).2 = r.2.1.sl := by simp [Pa.answer, htk]
          rw [ea]
          refine ⟨hh', h0, ?_⟩
          show r.1.A.st r.2.1.sl = _
          rw [st_eq hs', put_same _ _ _ _ hh']
          simp [holder]
        | gave hkd _ _ _ => cases hkd
        | flushed hkd _ _ _ _ => cases hkd
    | false =>
      simp only [Bool.false_eq_true, if_false]
      refine On.mono (P := { r.1 with pts := r.1.pts.set i ⟨some (kd, r.2.1), false, t.call⟩ }) (b := now) ?_ (by omega)
      refine hO.on ht hk (k' := r.2.1) (t' := ⟨some (kd, r.2.1), false, t.call⟩) e2 (by rw [e1]) rfl rfl ?_ hh ?_
      · intro e
        cases hE with
        | same hs' _ hg => exact hg e
        | took hkd _ he' _ _ _ => rw [he] at he'; cases he'
        | gave hkd he' _ _ => rw [he] at he'; cases he'
        | flushed hkd _ _ _ _ => rw [e] at hkd; cases hkd
      · intro s th hs hst
        show r.1.A.st s = (2, th)
        cases hE with
        | same hs' _ _ => rw [st_eq hs']; exact hst
        | took hkd _ he' _ _ _ => rw [he] at he'; cases he'
        | gave hkd he' _ _ => rw [he] at he'; cases he'
        | flushed hkd s' hs' hh' h0 =>
          rw [st_eq hs', put_other _ _ _ _ _ hh' hs (fun e => by subst e; rw [hst] at h0; exact h0 rfl)]
          exact hst
theorem On.begins {now : Int} (hO : On P now) (h0 : 0 ≤ now) (op arg data : Int) : On (P.begins i op arg data now).1 (now + 1) := by
  unfold Pa.begins
  cases hm : P.maker i op arg with
  | none => exact hO.mono (by omega)
  | some tk =>
    obtain ⟨o1, o2, o3, o4⟩ := hO
    have hK : Clk P.cls (P.cls ++ [⟨i, op, arg, data, now, -1, -1, 0, 0⟩]) := fun g z hz => ⟨z, by rw [List.getElem?_append_left (List.getElem?_eq_some_iff.1 hz).1]; exact hz, rfl, rfl, rfl, rfl⟩
    have old : ∀ (j : Nat) (x : Cl), (P.cls ++ [⟨i, op, arg, data, now, -1, -1, 0, 0⟩])[j]? = some x → (j = P.cls.length ∧ x = ⟨i, op, arg, data, now, -1, -1, 0, 0⟩) ∨ (j < P.cls.length ∧ P.cls[j]? = some x) := fun j x hx => by
      rw [List.getElem?_append] at hx
      split at hx
      · exact .inr ⟨by assumption, hx⟩
      · left
        have hl := (List.getElem?_eq_some_iff.1 hx).1
        simp at hl
        have e : j - P.cls.length = 0 := by omega
        rw [e] at hx
        cases hx
        exact ⟨by omega, rfl⟩
    refine ⟨fun j x hx => ?_, fun j x hx e1 e2 => ?_, fun j x k' y hx hy hne e1 e2 e3 e4 e5 e6 => ?_, fun j u kd' ku hu hku => ?_⟩
    · rcases old j x hx with ⟨rfl, rfl⟩ | ⟨hj, hx⟩
      · exact ⟨by show (-1 : Int) < now + 1; omega, by show now < now + 1; omega⟩
      · have := o1 j x hx; omega
    · rcases old j x hx with ⟨rfl, rfl⟩ | ⟨hj, hx⟩
      · cases e2
      · exact ⟨(o2 j x hx e1 e2).1, (o2 j x hx e1 e2).2.imp_right (fun g => (g.kept hK).mono (by omega))⟩
    · rcases old j x hx with ⟨rfl, rfl⟩ | ⟨hj, hx⟩
      · cases e2
      · rcases old k' y hy with ⟨rfl, rfl⟩ | ⟨hk', hy⟩
        · cases e4
        · exact (o3 j x k' y hx hy hne e1 e2 e3 e4 e5 e6).kept hK
    · have hu' : (P.pts.set i ⟨some tk, true, (P.cls.length : Int)⟩)[j]? = some u := hu
      rw [List.getElem?_set] at hu'
      split at hu'
      · rename_i e
        subst e
        split at hu'
        · cases hu'
          cases hku
          refine ⟨P.cls.length, ⟨i, op, arg, data, now, -1, -1, 0, 0⟩, rfl, by simp, rfl, rfl, ?_, fun g x hx hx2 hg => ?_⟩
          · unfold Pa.maker at hm
            split at hm
            · cases hm; assumption
            · split at hm
              · split at hm
                · cases hm; exact ⟨by assumption, rfl⟩
                · cases hm
              · split at hm
                · cases hm; assumption
                · cases hm
          · rcases old g x hx with ⟨rfl, rfl⟩ | ⟨hg', hx⟩
            · exact absurd rfl hg
            · exact ⟨hg', (o1 g x hx).1⟩
        · cases hu'
      · rename_i hj
        obtain ⟨c', z', r1, r2, r3, r4, r5, r6⟩ := o4 j u kd' ku hu' hku
        have hl := (List.getElem?_eq_some_iff.1 r2).1
        refine ⟨c', z', r1, by show (P.cls ++ _)[c']? = _; rw [List.getElem?_append_left hl]; exact r2, r3, r4, r5, fun g x hx hx2 hg => ?_⟩
        rcases old g x hx with ⟨rfl, rfl⟩ | ⟨hg', hx⟩
        · have : (i : Int) = j := hx2
          omega
        · exact r6 g x hx hx2 hg
theorem On.move (hO : On P P.n) (h : Inv P P.n) (th op arg data : Int) : On (P.move th op arg data).1 (P.move th op arg data).1.n := by
  have hc : On P.count P.n := ⟨hO.fin, hO.ok, hO.pair, hO.th⟩
  have e0 : (P.count.n : Int) = (P.n : Int) + 1 := by show ((P.n + 1 : Nat) : Int) = _; omega
  have hc1 : On P.count P.count.n := by rw [e0]; exact hc.mono (by omega)
  unfold Pa.move
  split
  · exact hO
  · rename_i hn
    split
    · split
      · exact hc1
      · rename_i t ht
        split
        · have e1 : (P.count.step th.toNat t P.n).1.n = P.count.n := by
            obtain ⟨tk, fr, call⟩ := t
            rcases tk with _ | ⟨kd, k⟩
            · rfl
            · have hi : th.toNat < P.count.pts.length := (List.getElem?_eq_some_iff.1 ht).1
              have r := (work_core (now := P.n) h.count (by omega) hi (h.count.th _ _ kd k ht rfl)).1.n
              simp only [Pa.step]
              split <;> exact r
          rw [e1, e0]
          exact On.step h.count (by omega) hc ht
        · split
          · exact hc1
          · have e1 : (P.count.begins th.toNat op arg data P.n).1.n = P.count.n := by
              unfold Pa.begins
              split <;> rfl
            rw [e1, e0]
            exact hc.begins (by omega) op arg data
    · exact hc1
theorem On.play (ms : List Mv) : ∀ {P : Pa}, On P P.n → Inv P P.n → On (P.play ms) (P.play ms).n := by
  induction ms with
  | nil => exact fun h _ => h
  | cons x ms ih => exact fun h hI => ih (h.move hI x.th x.op x.arg x.data) (hI.move _ _ _ _)
theorem On.start (m K : Nat) (A : Ao) (nt : Nat) (ws : List Int) : On (Pa.new m K A nt ws) 0 := by
  refine ⟨fun j x hx => by simp [Pa.new] at hx, fun j x hx => by simp [Pa.new] at hx, fun j x k y hx => by simp [Pa.new] at hx, fun j t kd k hu hk => ?_⟩
  simp only [Pa.new, List.getElem?_replicate] at hu
  split at hu
  · cases hu; cases hk
  · cases hu
/-- What the law's innermost loop has found among n calls behind the call j. -/
def gvf (cls : List Cl) (j : Nat) (x : Cl) (e : Int) : Nat → Bool
  | 0 => false
  | n + 1 => gvf cls j x e n || (match cls[j + 1 + n]? with
    | some z => z.op == 11 && (z.arg == x.av && (z.th == x.th && (decide (x.fin < z.beg) && decide (z.beg < e))))
    | none => false)
theorem gvf_le {cls : List Cl} {j : Nat} {x : Cl} {e : Int} {n : Nat} (h : gvf cls j x e n = true) (m : Nat) : gvf cls j x e (n + m) = true := by
  induction m with
  | zero => exact h
  | succ m ih => show (gvf cls j x e (n + m) || _) = true; rw [ih]; rfl
theorem gvf_of {cls : List Cl} {j : Nat} {x : Cl} {e : Int} (h : Gvn cls j x e) : gvf cls j x e (cls.length - (j + 1)) = true := by
  obtain ⟨g, z, h1, h2, h3, h4, h5, h6, h7⟩ := h
  have hg : g < cls.length := (List.getElem?_eq_some_iff.1 h1).1
  obtain ⟨n, rfl⟩ : ∃ n, g = j + 1 + n := ⟨g - (j + 1), by omega⟩
  have : gvf cls j x e (n + 1) = true := by
    show (gvf cls j x e n || _) = true
    rw [h1]
    simp [h3, h4, h5, h6, h7]
  have := gvf_le this (cls.length - (j + 1) - (n + 1))
  rwa [show n + 1 + (cls.length - (j + 1) - (n + 1)) = cls.length - (j + 1) by omega] at this
end
end Go.Proofs.YtmmjdlbeiaoojaaGreat.Ar
