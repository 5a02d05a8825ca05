import Derived.Test.YtkimmfdicohoiaaGreatJ14
/-
  WHAT HOLDS, kept by the swaps of Free, and by the caches.
-/
namespace Go.Proofs.YtkimmfdicohoiaaGreat.Ar
open Ma Me
theorem newhead {h s : Int} (h0 : 0 ≤ h) (hh : h % 4294967296 ≤ 1024) (ht : h / 4294967296 ≤ 65536) (hs : -1 ≤ s) (hs' : s ≤ 1024) : headBehind h s = (h / 4294967296 + 1) * 4294967296 + (s + 1) := by
  unfold headBehind tagOf
  rw [if_pos (by omega), if_pos (by omega)]
  have : (h / 4294967296 + 1) % 4294967296 = h / 4294967296 + 1 := by omega
  rw [this]
theorem nextOf_eq {w : Int} (h0 : 0 ≤ w) (hw : w ≤ 1024) : nextOf w = w - 1 := by
  unfold nextOf
  have : w % 4294967296 = w := by omega
  rw [if_pos (by omega), this]
section
variable {P P' : Pa} {b i : Nat}
theorem Chn.bd {f : Int → Int} {l : List Int} {x : Int} {N : Int} (h : Chn f l x) (hl : ∀ s ∈ l, 0 ≤ s ∧ s < N) (hN : 0 ≤ N) : 0 ≤ x ∧ x ≤ N := by
  cases l with
  | nil => simp only [Chn] at h; omega
  | cons a l => have := hl a (by simp); have := h.1; omega
/-- Free has turned: a swap of it that succeeded. -/
structure Hit (P P' : Pa) (b i : Nat) (x : Int) : Prop where
  ns : P'.A.sl.length = P.A.sl.length
  m : P'.m = P.m
  ws : P'.ws = P.ws.set 0 x
theorem Hit.w0 {x : Int} (h : Hit P P' b i x) (hI : Inv P b) : P'.word 0 = x := by
  have := hI.ml
  have := hI.m0
  simp only [Pa.word, h.ws]
  rw [List.getElem?_set_self (by omega)]
  rfl
theorem Hit.sp {x : Int} (h : Hit P P' b i x) (hI : Inv P b) (y : Int) : sp P' y = sp P y := by
  have := hI.m0
  simp only [Ar.sp, Pa.word, Pa.spare, h.ws, h.m]
  rw [List.getElem?_set_ne (by omega)]
theorem Res.take (h : Inv P b) {now : Int} {k : Pk} (hb : b < 65536) (hc : P.A.cache i = []) (hs : P.A.has k.sl) (hsl : k.sl = firstOf k.hd) (hhd : Hd P k.hd) (hw : P.word 0 = k.hd) (hbh : k.bh = Ar.sp P k.sl) :
    Res P ((P.hit i now 0 k.hd (headBehind k.hd (nextOf k.bh))).shift i now k.sl 2) b i := by
  have hns := h.ns
  have hw0 := h.w0
  have htag : tag P = k.hd / 4294967296 := by unfold tag; rw [hw]
  obtain ⟨q1, q2, q3, q4⟩ := hhd
  obtain ⟨l, c1, c2, c3⟩ := h.fl
  rw [hw] at c1
  have hf := firstOf_eq (h := k.hd) (by omega)
  cases l with
  | nil => simp only [Chn] at c1; unfold Ao.has at hs; omega
  | cons a l =>
    obtain ⟨c4, c5⟩ := c1
    have ha : a = k.sl := by omega
    subst ha
    obtain ⟨n1, n2⟩ := List.nodup_cons.1 c2
    have hz : (P.A.st k.sl).1 = 0 := ((c3 k.sl).1 (by simp)).2
    have bd := Chn.bd c5 (N := P.A.sl.length) (fun s hs' => ((c3 s).1 (by simp [hs'])).1) (by omega)
    rw [← hbh] at bd c5
    have hnx := nextOf_eq bd.1 (by omega)
    have hnh := newhead q1 (by omega) (by omega) (s := nextOf k.bh) (by omega) (by omega)
    rw [hnx] at hnh
    have hnh' : headBehind k.hd (nextOf k.bh) = (k.hd / 4294967296 + 1) * 4294967296 + k.bh := by rw [hnx, hnh]; omega
    rw [hnh']
    have hH : Hit P ((P.hit i now 0 k.hd ((k.hd / 4294967296 + 1) * 4294967296 + k.bh)).shift i now k.sl 2) b i ((k.hd / 4294967296 + 1) * 4294967296 + k.bh) := ⟨by simp [Pa.shift, Pa.hit, Ao.put], rfl, rfl⟩
    have e0 := hH.w0 h
    have es := hH.sp h
    generalize hx : (k.hd / 4294967296 + 1) * 4294967296 + k.bh = x at *
    have xm : x % 4294967296 = k.bh := by omega
    have xt : x / 4294967296 = k.hd / 4294967296 + 1 := by omega
    have et : tag ((P.hit i now 0 k.hd x).shift i now k.sl 2) = tag P + 1 := by unfold tag; rw [e0, hw]; exact xt
    refine ⟨⟨hH.ns, fun _ _ => rfl, fun j hj y hy hyst => ⟨put_other P.A k.sl 2 y i hs hy (fun e => ?_), es y⟩, .inr (by omega)⟩, rfl, rfl, rfl, rfl, rfl, ?_, ?_, rfl, by simp [Pa.shift, Pa.hit], ?_, ?_, ⟨l, ?_, n2, ?_⟩, ?_, ?_⟩
    · subst e
      rcases hyst with e' | e' <;> rw [e'] at hz <;> simp at hz
    · have := h.lg; simp [Pa.shift, Pa.hit]; omega
    · have := h.shs; simp [Pa.shift, Pa.hit]; omega
    · intro y hy
      have hy' : y ∈ P.ws.set 0 x := hy
      rcases List.mem_or_eq_of_mem_set hy' with hy' | rfl
      · exact h.wd y hy'
      · omega
    · rw [e0, et, hH.ns]; exact ⟨by omega, by have := h.w0.2; omega⟩
    · rw [e0, xm]
      exact c5.congr (fun y _ => es y)
    · intro s
      have hi1 : ((P.hit i now 0 k.hd x).shift i now k.sl 2).A = P.A.put k.sl 2 i := rfl
      rw [hi1, put_has]
      by_cases e : s = k.sl
      · subst e
        rw [put_same _ _ _ _ hs]
        simp [n1]
      · constructor
        · intro hsl'
          obtain ⟨g1, g2⟩ := (c3 s).1 (by simp [hsl'])
          exact ⟨g1, by rw [put_other _ _ _ _ _ hs g1 e]; exact g2⟩
        · rintro ⟨g1, g2⟩
          rw [put_other _ _ _ _ _ hs g1 e] at g2
          rcases List.mem_cons.1 ((c3 s).2 ⟨g1, g2⟩) with e' | e'
          · exact absurd e' e
          · exact e'
    · intro l' hl'
      have : l' = [] := by
        have hl2 : P.A.ca[i]? = some l' := hl'
        simp only [Ao.cache, hl2, Option.getD_some] at hc
        exact hc
      subst this
      simp
    · intro s g1 g2
      have g1' : P.A.has s := (put_has P.A k.sl 2 s i).1 g1
      have g2' : ((P.A.put k.sl 2 i).st s).1 = 1 := g2
      by_cases e : s = k.sl
      · subst e
        rw [put_same _ _ _ _ hs] at g2'
        simp at g2'
      · rw [put_other _ _ _ _ _ hs g1' e] at g2'
        exact h.cd s g1' g2'
/-- A slot goes into the free list: the slots' states and Free; then the cache becomes l'. -/
theorem Res.give (h : Inv P b) (hb : b < 65536) {now : Int} {k : Pk} (hs : P.A.has k.sl) (hhd : Hd P k.hd) (hw : P.word 0 = k.hd) (hsp : Ar.sp P k.sl = firstOf k.hd + 1) {l0 l' : List Int} (hl0 : P.A.ca[i]? = some l0)
    (hst : (P.A.st k.sl = (2, (i : Int)) ∧ l' = l0) ∨ (P.A.st k.sl = (1, (i : Int)) ∧ l0 = l' ++ [k.sl])) (hQ : P' = ((P.hit i now 0 k.hd (headBehind k.hd k.sl)).shift i now k.sl 0).keep i l') :
    Res P P' b i := by
  subst hQ
  have hns := h.ns
  have hw0 := h.w0
  have htag : tag P = k.hd / 4294967296 := by unfold tag; rw [hw]
  obtain ⟨q1, q2, q3, q4⟩ := hhd
  obtain ⟨l, c1, c2, c3⟩ := h.fl
  rw [hw] at c1
  have hf := firstOf_eq (h := k.hd) (by omega)
  have hs' := hs
  unfold Ao.has at hs'
  have hnh := newhead q1 (by omega) (by omega) (s := k.sl) (by omega) (by omega)
  rw [hnh]
  have hH : Hit P (((P.hit i now 0 k.hd ((k.hd / 4294967296 + 1) * 4294967296 + (k.sl + 1))).shift i now k.sl 0).keep i l') b i ((k.hd / 4294967296 + 1) * 4294967296 + (k.sl + 1)) := ⟨by simp [Pa.shift, Pa.hit, Ao.put, Pa.keep, Ao.keep], rfl, rfl⟩
  have e0 := hH.w0 h
  have es := hH.sp h
  generalize hx : (k.hd / 4294967296 + 1) * 4294967296 + (k.sl + 1) = x at *
  have xm : x % 4294967296 = k.sl + 1 := by omega
  have xt : x / 4294967296 = k.hd / 4294967296 + 1 := by omega
  have et : tag (((P.hit i now 0 k.hd x).shift i now k.sl 0).keep i l') = tag P + 1 := by unfold tag; rw [e0, hw]; exact xt
  have hsn : (P.A.st k.sl).1 ≠ 0 := by rcases hst with ⟨e, _⟩ | ⟨e, _⟩ <;> rw [e] <;> simp
  have hnl : k.sl ∉ l := fun hm => hsn ((c3 _).1 hm).2
  have hil : i < P.A.ca.length := (List.getElem?_eq_some_iff.1 hl0).1
  obtain ⟨d1, d2, d3⟩ := h.ca i l0 hl0
  have hi1 : (((P.hit i now 0 k.hd x).shift i now k.sl 0).keep i l').A = (P.A.put k.sl 0 i).keep i l' := rfl
  have hsub : ∀ s ∈ l', s ∈ l0 ∧ s ≠ k.sl := fun s hm => by
    rcases hst with ⟨e, rfl⟩ | ⟨e, rfl⟩
    · refine ⟨hm, fun e' => ?_⟩
      subst e'
      have := (d3 _ hm).2
      rw [e] at this
      simp at this
    · refine ⟨by simp [hm], fun e' => ?_⟩
      subst e'
      have := List.nodup_append.1 d1
      exact this.2.2 _ hm _ (by simp) rfl
  refine ⟨⟨hH.ns, fun j hj => ?_, fun j hj y hy hyst => ⟨?_, es y⟩, .inr (by omega)⟩, rfl, rfl, rfl, rfl, rfl, ?_, ?_, ?_, by simp [Pa.shift, Pa.hit, Pa.keep], ?_, ?_, ⟨k.sl :: l, ?_, List.nodup_cons.2 ⟨hnl, c2⟩, ?_⟩, ?_, ?_⟩
  · rw [hi1]; exact keep_get _ _ _ _ hj
  · rw [hi1, keep_st]
    refine put_other P.A k.sl 0 y i hs hy (fun e => ?_)
    subst e
    rcases hst with ⟨e, _⟩ | ⟨e, _⟩ <;> rcases hyst with e' | e' <;> rw [e] at e' <;> simp at e' <;> omega
  · have := h.lg; simp [Pa.shift, Pa.hit, Pa.keep]; omega
  · have := h.shs; simp [Pa.shift, Pa.hit, Pa.keep]; omega
  · rw [hi1]; simp [Ao.keep, Ao.put]
  · intro y hy
    have hy' : y ∈ P.ws.set 0 x := hy
    rcases List.mem_or_eq_of_mem_set hy' with hy' | rfl
    · exact h.wd y hy'
    · omega
  · rw [e0, et, hH.ns]; exact ⟨by omega, by have := h.w0.2; omega⟩
  · rw [e0, xm]
    refine ⟨rfl, ?_⟩
    rw [es, hsp, hf]
    have : k.hd % 4294967296 - 1 + 1 = k.hd % 4294967296 := by omega
    rw [this]
    exact c1.congr (fun y _ => es y)
  · intro s
    rw [hi1, keep_has, put_has, keep_st]
    by_cases e : s = k.sl
    · subst e
      rw [put_same _ _ _ _ hs]
      simp [hs]
    · constructor
      · intro hsl'
        rcases List.mem_cons.1 hsl' with e' | e'
        · exact absurd e' e
        · obtain ⟨g1, g2⟩ := (c3 s).1 e'
          exact ⟨g1, by rw [put_other _ _ _ _ _ hs g1 e]; exact g2⟩
      · rintro ⟨g1, g2⟩
        rw [put_other _ _ _ _ _ hs g1 e] at g2
        exact List.mem_cons.2 (.inr ((c3 s).2 ⟨g1, g2⟩))
  · intro l2 hl2
    rw [hi1] at hl2
    have : l2 = l' := by
      simp only [Ao.keep] at hl2
      rw [List.getElem?_set_self (by simpa [Ao.put] using hil)] at hl2
      exact (Option.some.inj hl2).symm
    subst this
    refine ⟨?_, ?_, fun s hm => ?_⟩
    · rcases hst with ⟨_, rfl⟩ | ⟨_, rfl⟩
      · exact d1
      · exact (List.nodup_append.1 d1).1
    · show l2.length ≤ P.K
      rcases hst with ⟨_, rfl⟩ | ⟨_, rfl⟩
      · exact d2
      · simp at d2; omega
    · obtain ⟨g1, g2⟩ := hsub s hm
      obtain ⟨g3, g4⟩ := d3 s g1
      rw [hi1, keep_has, put_has, keep_st, put_other _ _ _ _ _ hs g3 g2]
      exact ⟨g3, g4⟩
  · intro s g1 g2
    rw [hi1, keep_has, put_has] at g1
    rw [hi1, keep_st] at g2
    by_cases e : s = k.sl
    · subst e
      rw [put_same _ _ _ _ hs] at g2
      simp at g2
    · rw [put_other _ _ _ _ _ hs g1 e] at g2
      obtain ⟨j, lj, f1, f2⟩ := h.cd s g1 g2
      rw [hi1]
      by_cases ej : j = i
      · subst ej
        rw [hl0] at f1
        cases f1
        refine ⟨j, l', by simp only [Ao.keep]; exact List.getElem?_set_self (by simpa [Ao.put] using hil), ?_⟩
        rcases hst with ⟨_, rfl⟩ | ⟨_, rfl⟩
        · exact f2
        · simp only [List.mem_append, List.mem_singleton] at f2
          exact f2.resolve_right e
      · exact ⟨j, lj, (keep_get _ _ _ _ ej).trans f1, f2⟩
/-- A slot comes out of the cache, or goes into it. -/
theorem Res.cached (h : Inv P b) {now s to : Int} (hs : P.A.has s) {l0 l' : List Int} (hl0 : P.A.ca[i]? = some l0)
    (hst : (P.A.st s = (2, (i : Int)) ∧ to = 1 ∧ l' = l0 ++ [s] ∧ l0.length < P.K) ∨ (P.A.st s = (1, (i : Int)) ∧ to = 2 ∧ l0 = l' ++ [s])) :
    Res P ((P.keep i l').shift i now s to) b i := by
  have hil : i < P.A.ca.length := (List.getElem?_eq_some_iff.1 hl0).1
  obtain ⟨d1, d2, d3⟩ := h.ca i l0 hl0
  have hi1 : ((P.keep i l').shift i now s to).A = (P.A.keep i l').put s to i := rfl
  have hs2 : (P.A.keep i l').has s := hs
  have hto : to = 1 ∨ to = 2 := by rcases hst with ⟨_, e, _⟩ | ⟨_, e, _⟩ <;> omega
  have hho : holder to i = i := by unfold holder; rw [if_neg (by omega)]
  have hsn : (P.A.st s).1 ≠ 0 := by rcases hst with ⟨e, _⟩ | ⟨e, _⟩ <;> rw [e] <;> simp
  have hst' : ∀ y, P.A.has y → y ≠ s → ((P.A.keep i l').put s to i).st y = P.A.st y := fun y hy hne => put_other _ s to y i hs2 hy hne
  refine ⟨⟨by rw [hi1]; simp [Ao.put, Ao.keep], fun j hj => ?_, fun j hj y hy hyst => ⟨?_, rfl⟩, .inl ⟨rfl, fun _ _ _ => rfl⟩⟩, rfl, rfl, rfl, rfl, rfl, Nat.le_succ_of_le h.lg, ?_, by rw [hi1]; simp [Ao.put, Ao.keep], rfl, h.wd, ?_, ?_, ?_, ?_⟩
  · rw [hi1]; exact keep_get _ _ _ _ hj
  · rw [hi1]
    refine hst' y hy (fun e => ?_)
    subst e
    rcases hst with ⟨e, _⟩ | ⟨e, _⟩ <;> rcases hyst with e' | e' <;> rw [e] at e' <;> simp at e' <;> omega
  · have := h.shs; simp [Pa.shift, Pa.keep]; omega
  · have e : ((P.keep i l').shift i now s to).A.sl.length = P.A.sl.length := by rw [hi1]; simp [Ao.put, Ao.keep]
    rw [e]
    exact ⟨h.w0.1, by have h2 : tag P ≤ b := h.w0.2; have : tag ((P.keep i l').shift i now s to) = tag P := rfl; omega⟩
  · obtain ⟨l, c1, c2, c3⟩ := h.fl
    refine ⟨l, c1, c2, fun y => ?_⟩
    rw [hi1, put_has, keep_has, c3]
    by_cases e : y = s
    · subst e
      rw [put_same _ _ _ _ hs2]
      simp only
      constructor
      · rintro ⟨_, g⟩; exact absurd g hsn
      · rintro ⟨_, g⟩; omega
    · constructor
      · rintro ⟨g1, g2⟩; exact ⟨g1, by rw [hst' y g1 e]; exact g2⟩
      · rintro ⟨g1, g2⟩; rw [hst' y g1 e] at g2; exact ⟨g1, g2⟩
  · intro l2 hl2
    have : l2 = l' := by
      have hl3 : (P.A.ca.set i l')[i]? = some l2 := hl2
      rw [List.getElem?_set_self hil] at hl3
      exact (Option.some.inj hl3).symm
    subst this
    rw [hi1]
    rcases hst with ⟨e1, e2, rfl, e4⟩ | ⟨e1, e2, rfl⟩
    · have hni : s ∉ l0 := fun hm => by have := (d3 s hm).2; rw [e1] at this; simp at this
      refine ⟨?_, by simp; exact e4, fun y hy => ?_⟩
      · rw [List.nodup_append]
        refine ⟨d1, by simp, fun a ha c hc e => ?_⟩
        simp at hc
        subst hc; subst e
        exact hni ha
      · simp only [List.mem_append, List.mem_singleton] at hy
        rcases hy with hy | rfl
        · obtain ⟨g3, g4⟩ := d3 y hy
          exact ⟨(put_has _ _ _ _ _).2 g3, by rw [hst' y g3 (fun e => hni (e ▸ hy))]; exact g4⟩
        · exact ⟨(put_has _ _ _ _ _).2 hs2, by rw [put_same _ _ _ _ hs2, hho, e2]⟩
    · have hnd := List.nodup_append.1 d1
      refine ⟨hnd.1, by simp at d2; show l2.length ≤ P.K; omega, fun y hy => ?_⟩
      obtain ⟨g3, g4⟩ := d3 y (by simp [hy])
      exact ⟨(put_has _ _ _ _ _).2 g3, by rw [hst' y g3 (fun e => hnd.2.2 y hy s (by simp) e)]; exact g4⟩
  · intro y g1 g2
    rw [hi1] at g1 g2
    have g1' : P.A.has y := (put_has (P.A.keep i l') s to y i).1 g1
    have hget : ((P.keep i l').shift i now s to).A.ca[i]? = some l' := List.getElem?_set_self hil
    by_cases e : y = s
    · subst e
      rw [put_same _ _ _ _ hs2] at g2
      rcases hst with ⟨e1, e2, rfl, e4⟩ | ⟨e1, e2, rfl⟩
      · exact ⟨i, _, hget, by simp⟩
      · simp only at g2; omega
    · rw [hst' y g1' e] at g2
      obtain ⟨j, lj, f1, f2⟩ := h.cd y g1' g2
      by_cases ej : j = i
      · subst ej
        rw [hl0] at f1
        cases f1
        refine ⟨j, _, hget, ?_⟩
        rcases hst with ⟨e1, e2, rfl, e4⟩ | ⟨e1, e2, rfl⟩
        · simp [f2]
        · simp only [List.mem_append, List.mem_singleton] at f2
          exact f2.resolve_right e
      · exact ⟨j, lj, (keep_get _ _ _ _ ej).trans f1, f2⟩
end
end Go.Proofs.YtkimmfdicohoiaaGreat.Ar
/-
  WHAT HOLDS, behind every move.
-/
namespace Go.Proofs.YtkimmfdicohoiaaGreat.Ar
open Ma Me
section
variable {P : Pa} {b i : Nat}
theorem Inv.cacheEq (h : Inv P b) (hi : i < P.pts.length) : P.A.ca[i]? = some (P.A.cache i) := by
  rw [← h.kc] at hi
  rw [Ao.cache, List.getElem?_eq_getElem hi]
  rfl
/-- The last one of a cache, or none. -/
theorem Inv.last (h : Inv P b) (hi : i < P.pts.length) : (P.A.cache i = [] ∧ P.A.last i = -1) ∨ (∃ l s, P.A.cache i = l ++ [s] ∧ P.A.last i = s ∧ s ≠ -1 ∧ P.A.has s ∧ P.A.st s = (1, (i : Int))) := by
  rcases List.eq_nil_or_concat (P.A.cache i) with e | ⟨l, s, e⟩
  · exact .inl ⟨e, by simp [Ao.last, e]⟩
  · rw [List.concat_eq_append] at e
    obtain ⟨h1, h2⟩ := (h.ca i _ (h.cacheEq hi)).2.2 s (by simp [e])
    refine .inr ⟨l, s, e, by simp [Ao.last, e], fun e' => ?_, h1, h2⟩
    unfold Ao.has at h1
    omega
theorem Res.same (h : Inv P b) : Res P P b i := Res.quiet h rfl rfl rfl rfl rfl rfl rfl rfl (Nat.le_succ_of_le h.lg)
theorem ready_no (h : Inv P b) (hi : i < P.pts.length) {now : Int} {kd : Kd} {k : Pk} (hT : Tok P i true kd k) (he : (P.ready i now k kd).2.2 = false) : (P.ready i now k kd).1 = P ∧ Tok P i false kd (P.ready i now k kd).2.1 := by
  cases kd with
  | take =>
    rcases h.last hi with ⟨e1, e2⟩ | ⟨l, s, e1, e2, e3, _⟩
    · simp only [Pa.ready, if_pos e2] at he ⊢
      exact ⟨trivial, hT.1, by simp [e1]⟩
    · simp only [Pa.ready, if_neg (show ¬ P.A.last i = -1 by omega)] at he
      cases he
  | give =>
    simp only [Pa.ready] at he ⊢
    split at he
    · cases he
    · rename_i hn
      simp only [if_neg hn]
      exact ⟨trivial, hT.1, hT.2.1, .inl rfl⟩
  | flush =>
    rcases h.last hi with ⟨e1, e2⟩ | ⟨l, s, e1, e2, e3, e4, e5⟩
    · simp only [Pa.ready, if_pos e2] at he
      cases he
    · simp only [Pa.ready, if_neg (show ¬ P.A.last i = -1 by omega)] at he ⊢
      refine ⟨trivial, ?_⟩
      simp only [Tok, e2]
      exact ⟨e4, by simp [e1], .inl rfl⟩
theorem ready_yes (h : Inv P b) (hi : i < P.pts.length) {now : Int} {kd : Kd} {k : Pk} (hT : Tok P i true kd k) (he : (P.ready i now k kd).2.2 = true) : Res P (P.ready i now k kd).1 b i := by
  cases kd with
  | take =>
    rcases h.last hi with ⟨e1, e2⟩ | ⟨l, s, e1, e2, e3, e4, e5⟩
    · simp only [Pa.ready, if_pos e2] at he
      cases he
    · simp only [Pa.ready, if_neg (show ¬ P.A.last i = -1 by omega)]
      rw [e2]
      refine Res.cached h e4 (h.cacheEq hi) (.inr ⟨e5, rfl, ?_⟩)
      rw [e1]; simp
  | give =>
    simp only [Pa.ready] at he ⊢
    split at he
    · rename_i hn
      simp only [if_pos hn]
      exact Res.cached h hT.1 (h.cacheEq hi) (.inl ⟨hT.2.1, rfl, rfl, hn⟩)
    · cases he
  | flush =>
    rcases h.last hi with ⟨e1, e2⟩ | ⟨l, s, e1, e2, e3, e4, e5⟩
    · simp only [Pa.ready, if_pos e2]
      exact Res.same h
    · simp only [Pa.ready, if_neg (show ¬ P.A.last i = -1 by omega)] at he
      cases he
theorem Inv.loaded (h : Inv P b) (now : Int) (ad : Nat) : Res P (P.load i now ad) b i :=
  Res.quiet h rfl rfl rfl rfl rfl rfl rfl rfl (by have := h.lg; simp [Pa.load]; omega)
theorem Inv.missed (h : Inv P b) (now : Int) (ad : Nat) (old x : Int) : Res P (P.miss i now ad old x) b i :=
  Res.quiet h rfl rfl rfl rfl rfl rfl rfl rfl (by have := h.lg; simp [Pa.miss]; omega)
theorem take_core (h : Inv P b) (hb : b < 65536) {now : Int} {k : Pk} (hT : Tok P i false .take k) :
    Res P (P.stepP i now k .take).1 b i ∧ ((P.stepP i now k .take).2.2 = false → Tok (P.stepP i now k .take).1 i false .take (P.stepP i now k .take).2.1) := by
  obtain ⟨t0, t1⟩ := hT
  simp only [Bool.false_eq_true, if_false] at t1
  obtain ⟨t1, t2⟩ := t1
  rcases t2 with t2 | ⟨t2, t3, t4, t5, t6⟩
  · by_cases hh : P.A.has (firstOf (P.word 0))
    · simp only [Pa.stepP, if_pos t2, if_pos hh]
      exact ⟨h.loaded now 0, fun _ => ⟨t0, t1, .inr ⟨.inl rfl, hh, rfl, h.hd0, fun e => by cases e⟩⟩⟩
    · simp only [Pa.stepP, if_pos t2, if_neg hh]
      exact ⟨h.loaded now 0, fun e => by cases e⟩
  · rcases t2 with t2 | t2
    · simp only [Pa.stepP, if_neg (show ¬ k.nx = 5 by omega), if_pos t2]
      exact ⟨h.loaded now _, fun _ => ⟨t0, t1, .inr ⟨.inr rfl, t3, t4, t5, fun _ => ⟨h.word _, fun _ => rfl⟩⟩⟩⟩
    · by_cases hw : P.word 0 = k.hd
      · simp only [Pa.stepP, if_neg (show ¬ k.nx = 5 by omega), if_neg (show ¬ k.nx = 6 by omega), if_pos hw]
        exact ⟨Res.take h hb t1 t3 t4 t5 hw ((t6 t2).2 hw.symm), fun e => by cases e⟩
      · simp only [Pa.stepP, if_neg (show ¬ k.nx = 5 by omega), if_neg (show ¬ k.nx = 6 by omega), if_neg hw]
        exact ⟨h.missed now _ _ _, fun _ => ⟨t0, t1, .inl rfl⟩⟩
/-- What a giver does, whether it gives or flushes. -/
def givP (P : Pa) (i : Nat) (now : Int) (k : Pk) (fl : Bool) : Pa × Pk × Bool :=
  if k.nx = 5 then (P.load i now 0, { k with nx := 7, hd := P.word 0 }, false)
  else if k.nx = 7 then (P.store i now (P.spare k.sl) (firstOf k.hd + 1), { k with nx := 8 }, false)
  else if P.word 0 = k.hd then
    if fl = true then ((P.hit i now 0 k.hd (headBehind k.hd k.sl)).shift i now k.sl 0).next i k else ((P.hit i now 0 k.hd (headBehind k.hd k.sl)).shift i now k.sl 0, { k with nx := 0 }, true)
  else (P.miss i now 0 k.hd (headBehind k.hd k.sl), { k with nx := 5 }, false)
theorem stepP_give (P : Pa) (i : Nat) (now : Int) (k : Pk) : P.stepP i now k .give = givP P i now k false := by simp [Pa.stepP, givP]
theorem stepP_flush (P : Pa) (i : Nat) (now : Int) (k : Pk) : P.stepP i now k .flush = givP P i now k true := by simp [Pa.stepP, givP]
theorem Gv.first (h : Inv P b) {x : Int} (hx : Hd P x) : 0 ≤ firstOf x + 1 ∧ firstOf x + 1 ≤ 18446744073709551615 := by
  obtain ⟨q1, q2, q3, q4⟩ := hx
  have := h.ns
  have := firstOf_eq (h := x) (by omega)
  omega
theorem give_core (h : Inv P b) (hb : b < 65536) (hi : i < P.pts.length) {now : Int} {k : Pk} (hT : Tok P i false .give k) :
    Res P (P.stepP i now k .give).1 b i ∧ ((P.stepP i now k .give).2.2 = false → Tok (P.stepP i now k .give).1 i false .give (P.stepP i now k .give).2.1) := by
  obtain ⟨t1, t2, t3⟩ := hT
  simp only [Bool.false_eq_true, if_false] at t3
  rw [stepP_give]
  rcases t3 with t3 | ⟨t3, t4⟩ | ⟨t3, t4, t5⟩
  · simp only [givP, if_pos t3]
    exact ⟨h.loaded now 0, fun _ => ⟨t1, t2, .inr (.inl ⟨rfl, h.hd0⟩)⟩⟩
  · simp only [givP, if_neg (show ¬ k.nx = 5 by omega), if_pos t3]
    obtain ⟨r1, r2⟩ := Res.stored h (now := now) t1 (.inl t2) (Gv.first h t4)
    exact ⟨r1, fun _ => ⟨t1, t2, .inr (.inr ⟨rfl, r1.frm.hd t4, r2⟩)⟩⟩
  · by_cases hw : P.word 0 = k.hd
    · simp only [givP, if_neg (show ¬ k.nx = 5 by omega), if_neg (show ¬ k.nx = 7 by omega), if_pos hw, Bool.false_eq_true, if_false]
      refine ⟨Res.give h hb t1 t4 hw t5 (h.cacheEq hi) (l' := P.A.cache i) (.inl ⟨t2, rfl⟩) (now := now) ?_, fun e => by cases e⟩
      have : (P.A.put k.sl 0 i).ca.set i (P.A.cache i) = (P.A.put k.sl 0 i).ca := by
        apply List.ext_getElem?
        intro j
        by_cases e : i = j
        · subst e
          rw [List.getElem?_set_self (by show i < P.A.ca.length; rw [h.kc]; exact hi)]
          exact (h.cacheEq hi).symm
        · rw [List.getElem?_set_ne e]
      show _ = { ((P.hit i now 0 k.hd (headBehind k.hd k.sl)).shift i now k.sl 0) with A := { (P.A.put k.sl 0 i) with ca := (P.A.put k.sl 0 i).ca.set i (P.A.cache i) } }
      rw [this]
      rfl
    · simp only [givP, if_neg (show ¬ k.nx = 5 by omega), if_neg (show ¬ k.nx = 7 by omega), if_neg hw]
      exact ⟨h.missed now _ _ _, fun _ => ⟨t1, t2, .inl rfl⟩⟩
theorem flush_core (h : Inv P b) (hb : b < 65536) (hi : i < P.pts.length) {now : Int} {k : Pk} (hT : Tok P i false .flush k) :
    Res P (P.stepP i now k .flush).1 b i ∧ ((P.stepP i now k .flush).2.2 = false → Tok (P.stepP i now k .flush).1 i false .flush (P.stepP i now k .flush).2.1) := by
  simp only [Tok, Bool.false_eq_true, if_false] at hT
  obtain ⟨t1, t2, t3⟩ := hT
  rw [stepP_flush]
  have hst : P.A.st k.sl = (1, (i : Int)) := ((h.ca i _ (h.cacheEq hi)).2.2 _ (List.mem_of_getLast? t2)).2
  obtain ⟨l', hl'⟩ : ∃ l', P.A.cache i = l' ++ [k.sl] := by
    rcases h.last hi with ⟨e1, e2⟩ | ⟨l, s, e1, _⟩
    · rw [e1] at t2; cases t2
    · rw [e1] at t2
      simp at t2
      exact ⟨l, by rw [e1, t2]⟩
  rcases t3 with t3 | ⟨t3, t4⟩ | ⟨t3, t4, t5⟩
  · simp only [givP, if_pos t3]
    exact ⟨h.loaded now 0, fun _ => by simp only [Tok, Bool.false_eq_true, if_false]; exact ⟨t1, t2, .inr (.inl ⟨rfl, h.hd0⟩)⟩⟩
  · simp only [givP, if_neg (show ¬ k.nx = 5 by omega), if_pos t3]
    obtain ⟨r1, r2⟩ := Res.stored h (now := now) t1 (.inr hst) (Gv.first h t4)
    exact ⟨r1, fun _ => by simp only [Tok, Bool.false_eq_true, if_false]; exact ⟨t1, t2, .inr (.inr ⟨rfl, r1.frm.hd t4, r2⟩)⟩⟩
  · by_cases hw : P.word 0 = k.hd
    · simp only [givP, if_neg (show ¬ k.nx = 5 by omega), if_neg (show ¬ k.nx = 7 by omega), if_pos hw, if_true]
      have hca : ((P.hit i now 0 k.hd (headBehind k.hd k.sl)).shift i now k.sl 0).A.cache i = l' ++ [k.sl] := hl'
      have hR := Res.give h hb t1 t4 hw t5 (h.cacheEq hi) (l' := l') (.inr ⟨hst, hl'⟩) (now := now) rfl
      have hI2 := hR.ca
      have hgl : (((P.hit i now 0 k.hd (headBehind k.hd k.sl)).shift i now k.sl 0).keep i l').A.ca[i]? = some l' := List.getElem?_set_self (by show i < P.A.ca.length; rw [h.kc]; exact hi)
      have hcl : (((P.hit i now 0 k.hd (headBehind k.hd k.sl)).shift i now k.sl 0).keep i l').A.cache i = l' := by simp only [Ao.cache, hgl, Option.getD_some]
      have hin := (hR.ca l' hgl).2.2
      simp only [Pa.next, hca, List.dropLast_concat]
      generalize ((P.hit i now 0 k.hd (headBehind k.hd k.sl)).shift i now k.sl 0).keep i l' = Q at *
      rcases List.eq_nil_or_concat l' with e | ⟨l2, s, e⟩
      · have : Q.A.last i = -1 := by simp [Ao.last, hcl, e]
        simp only [if_pos this]
        exact ⟨hR, fun e => by cases e⟩
      · rw [List.concat_eq_append] at e
        have e2 : Q.A.last i = s := by simp [Ao.last, hcl, e]
        have h1 := (hin s (by simp [e])).1
        have : ¬ Q.A.last i = -1 := by unfold Ao.has at h1; omega
        simp only [if_neg this]
        refine ⟨hR, fun _ => ?_⟩
        simp only [Tok, Bool.false_eq_true, if_false, e2]
        exact ⟨h1, by simp [hcl, e], .inl rfl⟩
    · simp only [givP, if_neg (show ¬ k.nx = 5 by omega), if_neg (show ¬ k.nx = 7 by omega), if_neg hw]
      exact ⟨h.missed now _ _ _, fun _ => by simp only [Tok, Bool.false_eq_true, if_false]; exact ⟨t1, t2, .inl rfl⟩⟩
theorem step_core (h : Inv P b) (hb : b < 65536) (hi : i < P.pts.length) {now : Int} {kd : Kd} {k : Pk} (hT : Tok P i false kd k) :
    Res P (P.stepP i now k kd).1 b i ∧ ((P.stepP i now k kd).2.2 = false → Tok (P.stepP i now k kd).1 i false kd (P.stepP i now k kd).2.1) := by
  cases kd with
  | take => exact take_core h hb hT
  | give => exact give_core h hb hi hT
  | flush => exact flush_core h hb hi hT
theorem work_core (h : Inv P b) (hb : b < 65536) (hi : i < P.pts.length) {now : Int} {fr : Bool} {kd : Kd} {k : Pk} (hT : Tok P i fr kd k) :
    Res P (P.work i now fr kd k).1 b i ∧ ((P.work i now fr kd k).2.2 = false → Tok (P.work i now fr kd k).1 i false kd (P.work i now fr kd k).2.1) := by
  cases fr with
  | false => simp only [Pa.work, Bool.false_eq_true, if_false]; exact step_core h hb hi hT
  | true =>
    simp only [Pa.work, if_true]
    cases he : (P.ready i now k kd).2.2 with
    | true => simp only [if_true]; exact ⟨ready_yes h hi hT he, fun e => by rw [he] at e; cases e⟩
    | false =>
      simp only [Bool.false_eq_true, if_false]
      obtain ⟨h1, h2⟩ := ready_no h hi hT he
      rw [h1]
      exact step_core h hb hi h2
theorem setC_length (cls : List Cl) (c : Nat) (now ak av : Int) : (Pa.setC cls c now ak av).length = cls.length := by unfold Pa.setC; split <;> simp
theorem Inv.mono (h : Inv P b) {b' : Nat} (hb : b ≤ b') (hb' : b' ≤ 65536) : Inv P b' :=
  ⟨hb', Nat.le_trans h.lg hb, Nat.le_trans h.cls hb, Nat.le_trans h.shs hb, h.m0, h.ns, h.ml, h.kc, h.wd, ⟨h.w0.1, by have := h.w0.2; omega⟩, h.fl, h.ca, h.cd, h.th, h.cl⟩
theorem Inv.step (h : Inv P b) (hb : b < 65536) {t : At} (ht : P.pts[i]? = some t) (now : Int) : Inv (P.step i t now).1 (b + 1) := by
  have hi : i < P.pts.length := (List.getElem?_eq_some_iff.1 ht).1
  obtain ⟨tk, fr, call⟩ := t
  cases tk with
  | none => exact h.mono (Nat.le_succ _) hb
  | some kk =>
    obtain ⟨kd, k⟩ := kk
    obtain ⟨r1, r2⟩ := work_core (now := now) h hb hi (h.th i _ kd k ht rfl)
    simp only at r1 r2
    obtain ⟨c, hc1, hc2⟩ := h.cl i _ ht rfl
    simp only at hc1
    simp only [Pa.step]
    have hcls := h.cls
    cases he : (P.work i now fr kd k).2.2 with
    | true =>
      simp only [if_true]
      have := Res.inv h hb r1 (t' := ⟨none, false, call⟩) (cls' := Pa.setC (P.work i now fr kd k).1.cls call.toNat now (Pa.answer kd (P.work i now fr kd k).2.1).1 (Pa.answer kd (P.work i now fr kd k).2.1).2) ht (fun e => by cases e) (by rw [setC_length, r1.cls]; omega) (by rw [setC_length, r1.cls]; omega) (fun _ _ e => by cases e)
      rw [r1.pts]
      exact this
    | false =>
      simp only [Bool.false_eq_true, if_false]
      have := Res.inv h hb r1 (t' := ⟨some (kd, (P.work i now fr kd k).2.1), false, call⟩) (cls' := P.cls) ht (fun _ => ⟨c, hc1, hc2⟩) (by omega) (by omega) (fun kd' k' e => by cases e; exact r2 he)
      rw [r1.pts]
      rw [← r1.cls] at this
      exact this
theorem Inv.begins (h : Inv P b) (hb : b < 65536) {t : At} (ht : P.pts[i]? = some t) (op arg data now : Int) : Inv (P.begins i op arg data now).1 (b + 1) := by
  have hcls := h.cls
  unfold Pa.begins
  cases hm : P.maker i op arg with
  | none => exact h.mono (Nat.le_succ _) hb
  | some tk =>
    refine Res.inv h hb (Res.same h) (t' := ⟨some tk, true, (P.cls.length : Int)⟩) (cls' := P.cls ++ [⟨i, op, arg, data, now, -1, -1, 0, 0⟩]) ht (fun _ => ⟨_, rfl, by simp⟩) (by simp) (by simp; omega) (fun kd k e => ?_)
    cases e
    unfold Pa.maker at hm
    split at hm
    · cases hm; exact ⟨rfl, rfl⟩
    · split at hm
      · split at hm
        · rename_i hg
          cases hm
          exact ⟨hg.1, hg.2, rfl⟩
        · cases hm
      · split at hm
        · cases hm; rfl
        · cases hm
theorem Inv.count (h : Inv P b) : Inv P.count b :=
  ⟨h.bd, h.lg, h.cls, h.shs, h.m0, h.ns, h.ml, h.kc, h.wd, h.w0, h.fl, h.ca, h.cd, h.th, h.cl⟩
theorem Inv.move (h : Inv P P.n) (th op arg data : Int) : Inv (P.move th op arg data).1 (P.move th op arg data).1.n := by
  unfold Pa.move
  split
  · exact h
  · rename_i hn
    have hn : P.n < 65536 := by omega
    have hc : Inv P.count P.count.n := h.count.mono (Nat.le_succ _) (by show P.n + 1 ≤ 65536; omega)
    split
    · rename_i hth
      split
      · exact hc
      · rename_i t ht
        have e1 : ∀ Q : Pa, Q.n = P.n + 1 → Inv Q (P.n + 1) → Inv Q Q.n := fun Q e hQ => by rw [e]; exact hQ
        split
        · refine e1 _ ?_ (Inv.step (P := P.count) h.count hn ht P.n)
          obtain ⟨tk, fr, call⟩ := t
          cases tk with
          | none => rfl
          | some kk =>
            obtain ⟨kd, k⟩ := kk
            have hi : th.toNat < P.pts.length := (List.getElem?_eq_some_iff.1 ht).1
            have r1 := (work_core (P := P.count) (now := P.n) (fr := fr) h.count hn hi (h.th _ _ kd k ht rfl)).1.n
            simp only [Pa.step]
            split <;> exact r1
        · split
          · exact hc
          · refine e1 _ ?_ (Inv.begins (P := P.count) h.count hn ht op arg data P.n)
            unfold Pa.begins
            split <;> rfl
    · exact hc
end
end Go.Proofs.YtkimmfdicohoiaaGreat.Ar
/-
  WHAT HOLDS, at the beginning.
-/
namespace Go.Proofs.YtkimmfdicohoiaaGreat.Ar
open Ma Me
theorem chn_range (f : Int → Int) (N : Nat) (h1 : ∀ s : Nat, s + 1 < N → f s = s + 2) (h2 : 0 < N → f ((N - 1 : Nat) : Int) = 0) : ∀ k : Nat, k ≤ N → Chn f ((List.range' (N - k) k).map (fun n : Nat => (n : Int))) (if k = 0 then 0 else ((N - k : Nat) : Int) + 1)
  | 0, _ => rfl
  | k + 1, hk => by
    rw [List.range'_succ, List.map_cons]
    refine ⟨by simp, ?_⟩
    have ih := chn_range f N h1 h2 k (by omega)
    have e : N - (k + 1) + 1 = N - k := by omega
    rw [e]
    by_cases h0 : k = 0
    · subst h0
      have := h2 (by omega)
      simp at ih ⊢
      rw [this]
      exact ih
    · rw [if_neg h0] at ih
      have := h1 (N - (k + 1)) (by omega)
      rw [this]
      have e2 : ((N - k : Nat) : Int) + 1 = ((N - (k + 1) : Nat) : Int) + 2 := by omega
      rw [← e2]
      exact ih
theorem Inv.start (m K N nth : Nat) (ws : List Int) (hm : 0 < m) (hN : 0 < N) (hN2 : N ≤ 1024) (hl : m + N ≤ ws.length) (h0 : ws[0]?.getD 0 = 1) (h1 : ∀ s : Nat, s + 1 < N → ws[m + s]?.getD 0 = (s : Int) + 2) (h2 : ws[m + (N - 1)]?.getD 0 = 0) (hw : ∀ x ∈ ws, (0 : Int) ≤ x ∧ x ≤ 18446744073709551615) :
    Inv ⟨m, K, ⟨List.replicate N (0, -1), List.replicate nth []⟩, List.replicate nth ⟨none, false, -1⟩, 0, [], [], ws, []⟩ 0 := by
  have hst : ∀ s : Int, (Ao.st ⟨List.replicate N (0, -1), List.replicate nth []⟩ s) = (0, -1) := fun s => by
    unfold Ao.st
    rw [List.getElem?_replicate]
    split <;> rfl
  refine ⟨by omega, by simp, by simp, by simp, hm, by simpa using hN2, by simpa using hl, by simp, hw, ?_, ?_, ?_, ?_, ?_, ?_⟩
  · have e : Pa.word ⟨m, K, ⟨List.replicate N (0, -1), List.replicate nth []⟩, List.replicate nth ⟨none, false, -1⟩, 0, [], [], ws, []⟩ 0 = 1 := h0
    unfold tag
    rw [e]
    simp
    omega
  · refine ⟨(List.range' 0 N).map (fun n : Nat => (n : Int)), ?_, ?_, fun s => ?_⟩
    · have e : Pa.word ⟨m, K, ⟨List.replicate N (0, -1), List.replicate nth []⟩, List.replicate nth ⟨none, false, -1⟩, 0, [], [], ws, []⟩ 0 = 1 := h0
      rw [e]
      have := chn_range (sp ⟨m, K, ⟨List.replicate N (0, -1), List.replicate nth []⟩, List.replicate nth ⟨none, false, -1⟩, 0, [], [], ws, []⟩) N (fun s hs => h1 s hs) (fun _ => h2) N (Nat.le_refl _)
      rw [if_neg (by omega), Nat.sub_self] at this
      exact this
    · rw [List.nodup_iff_pairwise_ne, List.pairwise_map]
      refine (List.nodup_range' (step := 1)).imp ?_
      intro a b hab e
      exact hab (by omega)
    · rw [hst]
      simp only [List.mem_map, List.mem_range'_1, and_true, Ao.has, List.length_replicate]
      constructor
      · rintro ⟨n, hn, rfl⟩; omega
      · intro hs; exact ⟨s.toNat, by omega, by omega⟩
  · intro i l hl'
    have : l = [] := (List.mem_replicate.1 (List.mem_of_getElem? hl')).2
    subst this
    simp
  · intro s _ h
    rw [hst] at h
    simp at h
  · intro i t kd k ht htk
    have : t = ⟨none, false, -1⟩ := (List.mem_replicate.1 (List.mem_of_getElem? ht)).2
    rw [this] at htk
    cases htk
  · intro i t ht htk
    have : t = ⟨none, false, -1⟩ := (List.mem_replicate.1 (List.mem_of_getElem? ht)).2
    rw [this] at htk
    cases htk
end Go.Proofs.YtkimmfdicohoiaaGreat.Ar
