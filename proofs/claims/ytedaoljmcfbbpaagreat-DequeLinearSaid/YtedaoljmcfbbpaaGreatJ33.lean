import Derived.Test.YtedaoljmcfbbpaaGreatJ32
import Derived.Test.YtedaoljmcfbbpaaGreatJ26
/-
  DequeLinear, pure, the fifth part: along a script; what Holds is asked of its run.
-/
namespace Go.Proofs.YtedaoljmcfbbpaaGreat.Dm
open Go.RowKit Go.Shelf Mr Me Ma Gm Dq
set_option linter.unusedVariables false
set_option linter.unusedSimpArgs false
theorem Lc.count {r : Nat} {P : Pg Dt Lw} {ord : List Nat} (h : Lc r P ord) : Lc r P.count ord := by
  refine ⟨?_, h.lnk, h.lo, h.fr⟩
  have := h.lb.count
  show Lb P.cls ord ((P.n + 1 : Nat) : Int) P.pts.length
  have e : ((P.n + 1 : Nat) : Int) = (P.n : Int) + 1 := by omega
  rw [e]; exact this
theorem Lc.begins {r : Nat} {P : Pg Dt Lw} {ord : List Nat} (h : Lc r P ord) {i : Nat} {t : Pt Dt} (ht : P.pts[i]? = some t) (hidle : t.tk = none) (op arg data : Int) : Lc r (P.count.begins (dqY r) i op arg data P.n).1 ord := by
  unfold Pg.begins
  split
  · exact h.count
  · rename_i k hk
    have hmk : Dm.mk i op arg data P.g = some k := hk
    have hi : i < P.pts.length := (List.getElem?_eq_some_iff.1 ht).1
    obtain ⟨nw, hnw⟩ : ∃ nw : Cl, nw = ⟨i, op, arg, data, P.n, -1, -1, 0, 0⟩ := ⟨_, rfl⟩
    obtain ⟨u, hu⟩ : ∃ u : Pt Dt, u = ⟨some k, true, (P.cls.length : Int), 0, 0⟩ := ⟨_, rfl⟩
    have eu : u.tk = some k := by rw [hu]
    have hlow : ¬ low k := by rcases mk_cases hmk with ⟨rfl, _⟩ | ⟨rfl, _⟩ | ⟨rfl, _⟩ <;> simp [low]
    have hst : ∀ (l : Int) (C1 : List Int) (m : Int) (cls : List Cl), Th cls l C1 m u k := fun l C1 m cls => by
      rcases mk_cases hmk with ⟨rfl, _⟩ | ⟨rfl, _⟩ | ⟨rfl, _⟩
      · trivial
      · trivial
      · intro a; omega
    have hlt : ∀ c ∈ ord, c < P.cls.length := fun c hc => h.lb.lt hc
    have kd : ((nw.op = 90 ∨ nw.op = 91) ∧ nw.th = 0) ∨ (nw.op = 92 ∧ 0 ≤ nw.th ∧ nw.th < P.pts.length) := by
      rw [hnw]
      rcases mk_cases hmk with ⟨_, rfl, h2⟩ | ⟨_, rfl, h2⟩ | ⟨_, h2⟩
      · exact .inl ⟨.inl h2, rfl⟩
      · exact .inl ⟨.inr h2, rfl⟩
      · exact .inr ⟨h2, by show (0 : Int) ≤ (i : Int); omega, by show (i : Int) < P.pts.length; omega⟩
    have lb' := h.lb.begins (x' := nw) (by rw [hnw]) (by omega) (by rw [hnw]) (by rw [hnw]) kd
    show Lc r ⟨P.pts.set i ⟨some k, true, (P.cls.length : Int), 0, 0⟩, P.g, P.n + 1, P.cls ++ [⟨i, op, arg, data, P.n, -1, -1, 0, 0⟩], P.ws, P.lg⟩ ord
    rw [← hnw, ← hu]
    have e : ((P.n + 1 : Nat) : Int) = (P.n : Int) + 1 := by omega
    refine ⟨?_, fun j t' k' hj hk' => ?_, fun t9 nx9 l9 tt9 v9 h1 h2 h3 => ?_, fun hall => ?_⟩
    · show Lb (P.cls ++ [nw]) ord ((P.n + 1 : Nat) : Int) (P.pts.set i u).length
      rw [e, List.length_set]; exact lb'
    · have hj : (P.pts.set i u)[j]? = some t' := hj
      show ∃ (c : Nat) (x : Cl), _ ∧ (P.cls ++ [nw])[c]? = some x ∧ _
      rcases pts_set hj with ⟨rfl, rfl⟩ | ⟨_, hj⟩
      · rw [eu] at hk'; cases hk'
        refine ⟨P.cls.length, nw, by rw [hu], by simp, by rw [hnw], by rw [hnw], ?_, fun _ => by rw [hnw]⟩
        rcases mk_cases hmk with ⟨rfl, _, h2⟩ | ⟨rfl, _, h2⟩ | ⟨rfl, h2⟩
        · rw [hnw]; exact ⟨h2, rfl⟩
        · rw [hnw]; exact h2
        · rw [hnw]; exact h2
      · obtain ⟨c, x, w1, w2, w3⟩ := h.lnk j t' k' hj hk'
        exact ⟨c, x, w1, by rw [List.getElem?_append_left (List.getElem?_eq_some_iff.1 w2).1]; exact w2, w3⟩
    · have h1 : (P.pts.set i u)[0]? = some t9 := h1
      rcases pts_set h1 with ⟨rfl, rfl⟩ | ⟨h0, h1⟩
      · rw [eu] at h2; cases h2; exact absurd h3 hlow
      · obtain ⟨m, hg, hs⟩ := h.lo t9 nx9 l9 tt9 v9 h1 h2 h3
        refine ⟨m, hg, ?_⟩
        rcases hs with ⟨a1, a2, A, ct, D, C1, b1, b2, b3, b4, b5, b6, b7⟩ | ⟨a1, a2, X, ct, Y, b1, b2, b3, b4⟩ | ⟨a1, A, ct, D, C1, w, b1, b2, b3, b4, b5⟩
        · have hA : ∀ c ∈ A, c < P.cls.length := fun c hc => hlt c (by rw [b1]; exact List.mem_append.2 (.inl hc))
          have hD : ∀ c ∈ D, c < P.cls.length := fun c hc => hlt c (by rw [b1]; exact List.mem_append.2 (.inr (List.mem_cons_of_mem _ hc)))
          have hct : ct < P.cls.length := hlt ct (by rw [b1]; simp)
          refine .inl ⟨a1, a2, A, ct, D, C1, b1, b2, ?_, fun a ha => ?_, ?_, ?_, fun j u9 k9 hj hk9 => ?_⟩
          · show (atC (P.cls ++ [nw]) ct).pt = m; rw [atC_app hct]; exact b3
          · show (atC (P.cls ++ [nw]) a).pt < m; rw [atC_app (hA a ha)]; exact b4 a ha
          · show exO r [] (lk (P.cls ++ [nw]) A) = _; rw [lk_push hA]; exact b5
          · show exO r C1 (lk (P.cls ++ [nw]) D) = _; rw [lk_push hD]; exact b6
          · have hj : (P.pts.set i u)[j]? = some u9 := hj
            show Th (P.cls ++ [nw]) l9 C1 m u9 k9
            rcases pts_set hj with ⟨rfl, rfl⟩ | ⟨_, hj⟩
            · rw [eu] at hk9; cases hk9; exact hst _ _ _ _
            · have hT := b7 j u9 k9 hj hk9
              cases k9 with
              | push => trivial
              | take => trivial
              | steal nx' t' v' =>
                intro a b
                obtain ⟨g1, g2⟩ := hT a b
                refine ⟨g1, fun c' hc' => ?_⟩
                obtain ⟨c2, z, w1, w2, _⟩ := h.lnk j u9 _ hj hk9
                have e2 : c2 = c' := by omega
                subst e2
                rw [atC_app (List.getElem?_eq_some_iff.1 w2).1]; exact g2 c2 hc'
        · have hX : ∀ c ∈ X, c < P.cls.length := fun c hc => hlt c (by rw [b1]; exact List.mem_append.2 (.inl hc))
          have hY : ∀ c ∈ Y, c < P.cls.length := fun c hc => hlt c (by rw [b1]; exact List.mem_append.2 (.inr (List.mem_cons_of_mem _ hc)))
          refine .inr (.inl ⟨a1, a2, X, ct, Y, b1, b2, ?_, ?_⟩)
          · show exO r [] (lk (P.cls ++ [nw]) X) = _; rw [lk_push hX]; exact b3
          · show exO r [] (lk (P.cls ++ [nw]) Y) = _; rw [lk_push hY]; exact b4
        · have hA : ∀ c ∈ A, c < P.cls.length := fun c hc => hlt c (by rw [b1]; exact List.mem_append.2 (.inl hc))
          have hD : ∀ c ∈ D, c < P.cls.length := fun c hc => hlt c (by rw [b1]; exact List.mem_append.2 (.inr (List.mem_cons_of_mem _ hc)))
          refine .inr (.inr ⟨a1, A, ct, D, C1, w, b1, b2, ?_, ?_, b5⟩)
          · show exO r [] (lk (P.cls ++ [nw]) A) = _; rw [lk_push hA]; exact b3
          · show exO r C1 (lk (P.cls ++ [nw]) D) = _; rw [lk_push hD]; exact b4
    · have f := h.fr (fun t9 k9 h1 h2 => by
        by_cases h0 : i = 0
        · subst h0; rw [ht] at h1; cases h1; rw [hidle] at h2; cases h2
        · exact hall t9 k9 (by show (P.pts.set i u)[0]? = _; rw [List.getElem?_set_ne h0]; exact h1) h2)
      refine ⟨f.1, ?_⟩
      show exO r [] (lk (P.cls ++ [nw]) ord) = _
      rw [lk_push hlt]; exact f.2
theorem Lc.move {r : Nat} {P : Pg Dt Lw} {B : Int} {ord : List Nat} (hI : Iv r P) (hO : Oi r P B) (h : Lc r P ord) (th op arg data : Int) : ∃ ord', Lc r (P.move (dqY r) th op arg data).1 ord' := by
  unfold Pg.move
  split
  · exact ⟨ord, h⟩
  · rename_i hn
    split
    · split
      · exact ⟨ord, h.count⟩
      · rename_i t ht
        split
        · unfold Pg.step
          split
          · exact ⟨ord, h.count⟩
          · rename_i k hk
            by_cases hs : isSt k
            · cases k with
              | push => exact hs.elim
              | take => exact hs.elim
              | steal nx tt v => exact lc_thief hI (by omega) hO h ht hk t.fr
            · have h0 : th.toNat = 0 := by
                have hok := hI.tsk _ t k ht hk
                cases k with
                | push => exact hok.1
                | take => exact hok.1
                | steal => exact (hs trivial).elim
              rw [h0] at ht ⊢
              exact lc_owner hI (by omega) hO h ht hk hs t.fr
        · split
          · exact ⟨ord, h.count⟩
          · rename_i hidle
            exact ⟨ord, h.begins ht (by cases h9 : t.tk with | none => rfl | some k => rw [h9] at hidle; exact absurd rfl hidle) op arg data⟩
    · exact ⟨ord, h.count⟩
theorem lc_new (nt r : Nat) : Lc r (P0 nt r) [] := by
  have e0 : rd (P0 nt r).ws 0 = 0 := by show ((List.replicate (2 + r) (0 : Int))[0]?).getD 0 = 0; rw [List.getElem?_replicate]; split <;> rfl
  have e1 : rd (P0 nt r).ws 1 = 0 := by show ((List.replicate (2 + r) (0 : Int))[1]?).getD 0 = 0; rw [List.getElem?_replicate]; split <;> rfl
  have hp : ∀ (i : Nat) (t : Pt Dt), (P0 nt r).pts[i]? = some t → t.tk = none := fun i t ht => by
    have ht' : (List.replicate nt (⟨none, false, -1, 0, 0⟩ : Pt Dt))[i]? = some t := ht
    rw [List.getElem?_replicate] at ht'
    split at ht'
    · cases ht'; rfl
    · cases ht'
  refine ⟨⟨List.nodup_nil, fun c => ⟨fun h => (by cases h), fun ⟨x, h, _⟩ => (by cases h)⟩, List.Pairwise.nil, fun c x h => (by cases h), fun c x h => (by cases h)⟩, fun i t k ht hk => ?_, fun t nx l tt v ht hk => ?_, fun _ => ⟨rfl, ?_⟩⟩
  · rw [hp i t ht] at hk; cases hk
  · rw [hp 0 t ht] at hk; cases hk
  · rw [e0, e1]
    have e : (wrap64 0 - (0 : Int)).toNat = 0 := by unfold wrap64; omega
    rw [e]; rfl
theorem pl_lin {r : Nat} (ms : List Mv) : ∀ {P : Pg Dt Lw} {B : Int} {ord : List Nat}, Iv r P → Oi r P B → Lc r P ord → (∀ m ∈ ms, Wi m.arg) → ∃ B' ord', Oi r (Pl r P ms) B' ∧ Lc r (Pl r P ms) ord' := by
  induction ms with
  | nil => exact fun {P B ord} _ h1 h2 _ => ⟨B, ord, h1, h2⟩
  | cons x ms ih =>
    intro P B ord h0 h1 h2 hw
    obtain ⟨B1, g1⟩ := h1.move h0 x.th x.op x.arg x.data (hw x (List.mem_cons_self))
    obtain ⟨o1, g2⟩ := h2.move h0 h1 x.th x.op x.arg x.data
    exact ih (h0.move _ _ _ _) g1 g2 (fun m hm => hw m (List.mem_cons_of_mem _ hm))
/-! What Holds is asked. -/
theorem lk_pts {cls : List Cl} {ord : List Nat} {n : Int} {nt : Nat} (h : Lb cls ord n nt) : ((lk cls ord).map qq).Perm (Hd.pts (cls.map qq)) := by
  have e1 : cls = (List.range cls.length).map (atC cls) := by
    apply List.ext_getElem?
    intro i
    by_cases hi : i < cls.length
    · rw [List.getElem?_map, List.getElem?_range hi, List.getElem?_eq_getElem hi]
      show _ = some (atC cls i)
      rw [atC_of (List.getElem?_eq_getElem hi)]
    · rw [List.getElem?_eq_none (by omega), List.getElem?_eq_none (by simp; omega)]
  have hp : ord.Perm ((List.range cls.length).filter (fun c => decide ((atC cls c).pt ≠ -1))) := by
    refine (List.perm_ext_iff_of_nodup h.nd (List.nodup_range.filter _)).2 (fun c => ?_)
    rw [h.mem c, List.mem_filter, List.mem_range]
    constructor
    · rintro ⟨x, hx, hp⟩
      exact ⟨(List.getElem?_eq_some_iff.1 hx).1, by rw [atC_of hx]; simpa using hp⟩
    · rintro ⟨h1, h2⟩
      refine ⟨cls[c], List.getElem?_eq_getElem h1, ?_⟩
      rw [atC_of (List.getElem?_eq_getElem h1)] at h2
      simpa using h2
  have h1 := (hp.map (atC cls)).map qq
  refine h1.trans (List.Perm.of_eq ?_)
  have e2 : ∀ l : List Nat, (List.map qq (List.map (atC cls) (l.filter (fun c => decide ((atC cls c).pt ≠ -1))))) = Hd.pts ((l.map (atC cls)).map qq) := by
    intro l
    induction l with
    | nil => rfl
    | cons a l ih =>
      by_cases ha : (atC cls a).pt = -1
      · have e3 : (qq (atC cls a)).pt = -1 := ha
        simp only [List.filter_cons, ha, List.map_cons, Hd.pts, e3]
        simpa [Hd.pts] using ih
      · have e3 : (qq (atC cls a)).pt ≠ -1 := ha
        simp only [List.filter_cons, List.map_cons, Hd.pts]
        simp [ha, e3]
        simpa [Hd.pts] using ih
  rw [e2, ← e1]
theorem lk_up {cls : List Cl} {ord : List Nat} {n : Int} {nt : Nat} (h : Lb cls ord n nt) : ((lk cls ord).map qq).Pairwise (fun a b => ¬ Hd.Cq.lt b a) ∧ Hd.apR ((lk cls ord).map qq) = true := by
  have hs : (lk cls ord).Pairwise ltC := by unfold lk; rw [List.pairwise_map]; exact h.srt
  constructor
  · rw [List.pairwise_map]
    refine hs.imp (fun {a b} hab => ?_)
    unfold Hd.Cq.lt
    show ¬ (b.pt < a.pt ∨ (b.pt = a.pt ∧ Hd.rk b.op < Hd.rk a.op))
    rcases hab with h1 | ⟨h1, h2, h3⟩
    · omega
    · rw [h2, h3]; simp [Hd.rk]; omega
  · generalize lk cls ord = L at hs
    induction L with
    | nil => rfl
    | cons a L ih =>
      cases L with
      | nil => rfl
      | cons b L =>
        rw [List.pairwise_cons] at hs
        have := ih hs.2
        show (Hd.apc (qq a) (qq b) && Hd.apR (qq b :: List.map qq L)) = true
        rw [Bool.and_eq_true]
        refine ⟨?_, this⟩
        unfold Hd.apc
        rcases hs.1 b (by simp) with h1 | ⟨h1, h2, h3⟩
        · have e : (qq a).pt ≠ (qq b).pt := by show a.pt ≠ b.pt; omega
          simp [e]
        · have e2 : (qq a).op = 92 := h2
          have e3 : (qq b).op = 91 := h3
          simp [e2, e3]
theorem ex_expl {rm : Int} : ∀ (L : List Cl) {vs vs' : List Int}, exO rm vs L = some vs' → Hd.expl rm vs (L.map qq) = true
  | [], _, _, _ => rfl
  | c :: L, vs, vs', h => by
      have h : (if Hd.okA (qq c) (Hd.atO rm vs (qq c)).2 = true then exO rm (Hd.atO rm vs (qq c)).1 L else none) = some vs' := h
      split at h
      · rename_i ho
        show (Hd.okA (qq c) _ && Hd.expl rm _ (L.map qq)) = true
        rw [ho, ex_expl L h]; rfl
      · cases h
theorem lin_ex {r : Nat} {P : Pg Dt Lw} {ord : List Nat} (h : Lc r P ord) : ∃ vs, exO r [] (lk P.cls ord) = some vs := by
  by_cases hall : ∀ (t : Pt Dt) (k : Dt), P.pts[0]? = some t → t.tk = some k → ¬ low k
  · exact ⟨_, (h.fr hall).2⟩
  · have hex : ∃ (t9 : Pt Dt) (nx9 : Nat) (l9 tt9 v9 : Int), P.pts[0]? = some t9 ∧ t9.tk = some (.take nx9 l9 tt9 v9) ∧ 3 ≤ nx9 := by
      apply Classical.byContradiction
      intro hno
      refine hall (fun t9 k9 h1 h2 hl9 => ?_)
      cases k9 with
      | push => exact hl9
      | steal => exact hl9
      | take nx9 l9 tt9 v9 => exact hno ⟨t9, nx9, l9, tt9, v9, h1, h2, hl9⟩
    obtain ⟨t9, nx9, l9, tt9, v9, h1, h2, h3⟩ := hex
    obtain ⟨ct0, x, w1, w2, w3, w4, w5, _⟩ := h.lnk 0 t9 _ h1 h2
    have hop : x.op = 91 := w5
    obtain ⟨m, hg, hs⟩ := h.lo t9 nx9 l9 tt9 v9 h1 h2 h3
    rcases hs with ⟨a1, a2, A, ct, D, C1, b1, b2, b3, b4, b5, b6, b7⟩ | ⟨a1, a2, X, ct, Y, b1, b2, b3, b4⟩ | ⟨a1, A, ct, D, C1, w, b1, b2, b3, b4, b5⟩
    · have ec : ct = ct0 := by omega
      subst ec
      refine ⟨sg r P.ws (rd P.ws 0) (l9 - rd P.ws 0).toNat, ?_⟩
      rw [b1, lk_app, lk_cons, exO_then b5, atC_of w2]
      show exO r _ ([x] ++ lk P.cls D) = _
      rw [exO_then (ex_one (x := x) (at_t r hop _ _) (okA_open w4 _))]
      exact b6
    · have ec : ct = ct0 := by omega
      subst ec
      refine ⟨[], ?_⟩
      rw [b1, lk_app, lk_cons, exO_then b3, atC_of w2]
      show exO r _ ([x] ++ lk P.cls Y) = _
      rw [exO_then (ex_one (x := x) (at_e r (by omega)) (okA_open w4 _))]
      exact b4
    · have ec : ct = ct0 := by omega
      subst ec
      refine ⟨[], ?_⟩
      rw [b1, lk_app, lk_cons, exO_then b3, atC_of w2]
      show exO r _ ([x] ++ lk P.cls D) = _
      rw [exO_then (ex_one (x := x) (at_t r hop _ _) (okA_open w4 _))]
      exact b4
theorem lin_unt {cls : List Cl} {ord : List Nat} {n : Int} {nt : Nat} (h : Lb cls ord n nt) : ((lk cls ord).map qq).any Hd.unt = false := by
  rw [List.any_eq_false]
  intro y hy
  obtain ⟨x, hx, rfl⟩ := List.mem_map.1 hy
  obtain ⟨c, hc, rfl⟩ := List.mem_map.1 hx
  obtain ⟨x, hx, hp⟩ := (h.mem c).1 hc
  rw [atC_of hx]
  obtain ⟨_, _, h3, _⟩ := h.tm c x hx
  obtain ⟨g1, g2, g3⟩ := h3 hp
  unfold Hd.unt
  show ¬ ((decide (x.pt ≤ x.beg) || (decide (x.fin ≠ -1) && decide (x.fin < x.pt))) = true)
  by_cases hf : x.fin = -1
  · simp [hf]; omega
  · have := g3 hf; simp [hf]; omega
theorem lin_kn {cls : List Cl} {ord : List Nat} {n : Int} {nt : Nat} (h : Lb cls ord n nt) : (cls.map qq).all (Hd.kn (nt : Int)) = true := by
  rw [List.all_eq_true]
  intro y hy
  obtain ⟨x, hx, rfl⟩ := List.mem_map.1 hy
  obtain ⟨c, hc⟩ := List.mem_iff_getElem?.1 hx
  unfold Hd.kn
  show (if x.op = 90 ∨ x.op = 91 then decide (x.th = 0) else if x.op = 92 then decide (0 ≤ x.th ∧ x.th < (nt : Int)) else false) = true
  rcases h.kn c x hc with ⟨h1, h2⟩ | ⟨h1, h2⟩
  · rw [if_pos h1]; simpa using h2
  · rw [if_neg (by omega), if_pos h1]; simpa using h2
/-- Bottom's word is near top. -/
theorem on_near {r n : Nat} {ws : List Int} {B : Int} {o : Option Dt} (h : On r ws B o) (h0 : 0 ≤ rd ws 0) (hT : rd ws 0 ≤ B) (h1 : B ≤ 65536) (hn : n ≤ 65536) (hok : ∀ k, o = some k → Ok 0 n k) : rd ws 0 - 1 ≤ wrap64 (rd ws 1) ∧ wrap64 (rd ws 1) ≤ B := by
  have w : ∀ y : Int, rd ws 1 = nU y → rd ws 0 - 1 ≤ y → y ≤ B → rd ws 0 - 1 ≤ wrap64 (rd ws 1) ∧ wrap64 (rd ws 1) ≤ B := fun y e h2 h3 => by rw [e, w64_nU y (by omega) (by omega)]; exact ⟨h2, h3⟩
  cases o with
  | none => exact w _ h (by omega) (by omega)
  | some k =>
    have ok := hok k rfl
    cases k with
    | push nx v bt => exact w _ h.1 (by omega) (by omega)
    | steal nx t v => exact w _ h (by omega) (by omega)
    | take nx l t v =>
      simp only [Ok] at ok
      obtain ⟨g1, g2, g3, g4, g5, g6, g7, g8⟩ := h
      obtain ⟨_, o1, o2, o3, _⟩ := ok
      by_cases h2 : nx ≤ 2
      · exact w _ (g1 h2) (by omega) (by omega)
      · have g3' := g3 (by omega)
        obtain rfl | rfl | rfl | rfl | rfl : nx = 3 ∨ nx = 4 ∨ nx = 5 ∨ nx = 6 ∨ nx = 7 := by omega
        · have := g4 rfl; exact w _ g3' (by omega) (by omega)
        · have := g5 rfl; exact w _ g3' (by omega) (by omega)
        · obtain ⟨_, _, a, b⟩ := g6 rfl
          by_cases hh : t < l
          · have := a hh; exact w _ g3' (by omega) (by omega)
          · have := b hh; exact w _ g3' (by omega) (by omega)
        · have := g7 rfl; exact w _ g3' (by omega) (by omega)
        · have := g8 rfl; exact w _ g3' (by omega) (by omega)
/-- Left tells something at every moment. -/
theorem lin_left {r nt : Nat} {P : Pg Dt Lw} {B : Int} (hI : Iv r P) (hb : Bd P) (h : Oi r P B) (hd : dqB (nt : Int) (r : Int) = true) : (lfR (nt : Int) (r : Int) P.ws).2 = 0 := by
  have hn := hb.n
  have t0 := h.t0
  have tb := h.tb
  have nn := h.nn
  have room := h.room
  have hl := hI.len
  obtain ⟨b1, b2⟩ := on_near h.own t0 tb (by omega) hn (fun k e => by
    unfold tkF at e
    cases h0 : P.pts[0]? with
    | none => rw [h0] at e; cases e
    | some t0 => rw [h0] at e; exact hI.tsk 0 t0 k h0 e)
  have e0 : lfT P.ws = rd P.ws 0 := by
    unfold lfT
    rw [List.getD_eq_getElem?_getD]
    show wrap64 (rd P.ws 0) = rd P.ws 0
    exact w64_id _ t0 (by omega)
  have e1 : lfB P.ws = wrap64 (rd P.ws 1) := by
    unfold lfB
    rw [List.getD_eq_getElem?_getD]
    rfl
  unfold lfR
  rw [if_neg (by rw [hd]; decide), if_neg (by rw [hl]; omega), if_pos (by unfold lfOk; rw [e0, e1]; omega)]
end Go.Proofs.YtedaoljmcfbbpaaGreat.Dm
/-
  deque.Play by its contract: a script that may be.
-/
namespace Go.Proofs.YtedaoljmcfbbpaaGreat.Dm
open Go.RowKit Go.Shelf Mr Me Ma Gm Dq
set_option linter.unusedVariables false
set_option linter.unusedSimpArgs false
set_option maxRecDepth 100000 in
set_option maxHeartbeats 4000000 in
theorem play_d (w : World) (nt r : Nat) (h1 : 1 ≤ nt) (h2 : nt ≤ 16) (h3 : 1 ≤ r) (h4 : r ≤ 256) (am : Option Addr) (nm cm : Nat) (ms : List Mv) (hm : MvAt w am nm ms) (hnm : nm ≤ 65536) :
    Calls Tryz.prog 14 #[.agg #[.int .i64 (nt : Int), .int .i64 (r : Int)], .slice am nm cm] w fun e w' => ∃ v1 v2 v3 v4, e = .returned (.tuple #[runV v1 v2 v3 v4, .int .i64 0]) ∧ Has w' (fun k => w.heap.size ≤ k) 45 9 v1 (Pl r (P0 nt r) ms).cls.length (clc (Pl r (P0 nt r) ms).cls) ∧ Has w' (fun k => w.heap.size ≤ k) 169 7 v2 (Pl r (P0 nt r) ms).lg.length (lgc (Pl r (P0 nt r) ms).lg) ∧ Has w' (fun k => w.heap.size ≤ k) 136 5 v3 0 [] ∧ Has w' (fun k => w.heap.size ≤ k) 65 1 v4 (Pl r (P0 nt r) ms).ws.length (wrd (Pl r (P0 nt r) ms).ws) ∧ Below w.heap.size w w' := by
  have NW := Mr.hid (fun w => newD_ok w nt r h1 h2 h3 h4)
  have d3 : decide (65536 < (nm : Int)) = false := by simp; omega
  obtain ⟨hnml, _⟩ := id hm
  subst hnml
  obtain ⟨W0, hW0⟩ : ∃ W0, (w.alloc (dBox nt r)).alloc rnO = W0 := ⟨_, rfl⟩
  have b0 : Bp w nt r W0 := by
    rw [← hW0]
    refine ⟨(Below.heap_alloc _ _ _ (by simp)).trans (heap_alloc_new w _), ?_, ((Below.refl _ _).alloc (Nat.le_refl _) _).alloc (by simp) _⟩
    have := heap_alloc_new (w.alloc (dBox nt r)) rnO
    rw [World.size_alloc] at this
    exact this
  have s0 : W0.heap.size = w.heap.size + 1 + 1 := by rw [← hW0]; simp
  have y0 : W0.cell? ⟨w.heap.size, 0, none⟩ = some (.int .i64 (nt : Int)) := cell_at b0.c 0
  have y1 : W0.cell? ⟨w.heap.size, 1, none⟩ = some (.int .i64 (r : Int)) := cell_at b0.c 1
  have hI := Mr.hid (fun i => pl_inv (ms.take i) (p0_inv (nt := nt) h3 h4).1 (p0_inv h3 h4).2)
  replace b0 := Mr.hid b0
  replace s0 := Mr.hid s0
  unfold dBox rnO at hW0
  have PE : P0 nt r = Pg.new nt (List.replicate (2 + r) 0) none := rfl
  go_enter Tryz.func14, Tryz.ntmps14
  go_wp2_with (go_at_call 23; refine (NW.out _).mono ?_; clear NW; rintro e w1 ⟨q, U, K, km, bc, cs, c1, c2, rfl, hR, hU, hK, hB1⟩; rw [← PE] at hR; rw [s0.out] at hU hB1; have b1 := b0.out.below hB1; clear y0 y1 b0 hW0 hK; replace hR := Mr.hid hR; replace hU := Mr.hid hU; replace b1 := Mr.hid b1; clear hB1)
  generalize hP0 : P0 nt r = PP at *
  replace hP0 := Mr.hid hP0
  clear PE
  go_loopg [25] ms.length (fun k s wr => ∃ (i : Nat) (U' : Nat → Prop), s = .int .i64 (i : Int) ∧ i + k = ms.length ∧ RG (dqL r bc cs c1 c2) wr U' K q km (Pl r PP (ms.take i)) ∧ (∀ k, U' k → w.heap.size + 1 + 1 ≤ k) ∧ Bp w nt r wr)
  case atStart => exact ⟨0, U, rfl, by omega, hR.out, hU.out, b1.out⟩
  case round =>
    obtain ⟨i, U', rfl, hi, hRi, hUi, hxi⟩ := hrel
    obtain ⟨hIi, hBi⟩ := hI.out i
    by_cases hlt : i < ms.length
    · rcases hm.2 with h0' | ⟨bo, oo, rfl, hbo, hcc⟩
      · rw [h0'] at hlt; simp at hlt
      obtain ⟨z0, z1, z2, z3⟩ := hcc i hlt
      have hcW := fun (j : Nat) (u : Value) (hu : w.cell? ⟨bo, j, none⟩ = some u) => (hxi.b.cell (p := ⟨bo, j, none⟩) hbo).trans hu
      have g0 := hcW _ _ z0
      have g1 := hcW _ _ z1
      have g2 := hcW _ _ z2
      have g3 := hcW _ _ z3
      have hsn := Mr.hid (pl_snoc r PP ms i hlt)
      have hsz := hxi.b.size
      have hl := hxi.lt
      have MV := fun (o : Obj) => move_g (step_d r bc cs c1 c2) (beg_d r bc cs c1 c2) (hRi.below ((Below.refl wr.heap.size wr).alloc (Nat.le_refl _) o)) hIi hBi (ms[i]?.getD noMv).th (ms[i]?.getD noMv).op (ms[i]?.getD noMv).arg (ms[i]?.getD noMv).data
      have fin := fun (o : Obj) (w3' : World) (hO : OutG (dqL r bc cs c1 c2) (wr.alloc o) U' K q km ((Pl r PP (ms.take i)).move (dqY r) (ms[i]?.getD noMv).th (ms[i]?.getD noMv).op (ms[i]?.getD noMv).arg (ms[i]?.getD noMv).data).1 w3') => (show ∃ (U'' : Nat → Prop), RG (dqL r bc cs c1 c2) w3' U'' K q km (Pl r PP (ms.take (i + 1))) ∧ (∀ k, U'' k → w.heap.size + 1 + 1 ≤ k) ∧ Bp w nt r w3' from by
        obtain ⟨U'', f1, f2, f3⟩ := OutG.next (w := w) (nt := nt) hUi (by simp; omega) hO
        have hBa := (Below.refl wr.heap.size wr).alloc (Nat.le_refl _) o
        exact ⟨U'', by rw [hsn.out]; exact f1, f2, (hxi.below (hBa.mono hl)).below f3⟩)
      generalize (Pl r PP (ms.take i)).move (dqY r) (ms[i]?.getD noMv).th (ms[i]?.getD noMv).op (ms[i]?.getD noMv).arg (ms[i]?.getD noMv).data = PM at *
      generalize ms[i]?.getD noMv = m0 at *
      replace hRi := Mr.hid hRi
      replace hUi := Mr.hid hUi
      replace hxi := Mr.hid hxi
      replace MV := Mr.hid MV
      replace fin := Mr.hid fin
      clear hcc hcW z0 z1 z2 z3 hm hIi hBi hR hU b1
      go_wp2_with (go_at_call 24; refine (MV.out _).mono ?_; clear MV; rintro e w5 ⟨rfl, hO⟩; obtain ⟨U'', r1, r2, r3⟩ := fin.out _ w5 hO; clear fin hO; replace r1 := Mr.hid r1; replace r2 := Mr.hid r2; replace r3 := Mr.hid r3)
      go_roundg (gk - 1)
      case measure => omega
      case rel => exact ⟨i + 1, U'', by simp, by omega, r1.out, r2.out, r3.out⟩
    · obtain rfl : i = ms.length := by omega
      rw [List.take_length] at hRi hIi hBi
      have RN := run_g hRi hBi
      have hbl := hxi.lt
      have fin : ∀ (w6 : World) (hB : Below wr.heap.size wr w6), Bp w nt r w6 := fun w6 hB => hxi.below (hB.mono hbl)
      replace hRi := Mr.hid hRi
      replace hxi := Mr.hid hxi
      replace RN := Mr.hid RN
      replace fin := Mr.hid fin
      clear hm hIi hBi hR hU b1
      go_wp2_with (go_at_call 25; refine RN.out.mono ?_; clear RN; rintro e w6 ⟨v1, v2, v3, v4, rfl, hv1, hv2, hv3, hv4, hB6⟩; have hx6 := fin.out w6 hB6; clear fin; obtain ⟨kc, kz⟩ := hx6.run; have kc0 := kc 0 (by decide); have kc1 := kc 1 (by decide); have kc2 := kc 2 (by decide); have kc3 := kc 3 (by decide); clear kc; obtain ⟨p1, q1, rfl, _⟩ := hv1.form; obtain ⟨p2, q2, rfl, _⟩ := hv2.form; obtain ⟨p3, q3, rfl, _⟩ := hv3.form; obtain ⟨p4, q4, rfl, _⟩ := hv4.form; replace hx6 := Mr.hid hx6; unfold runV)
      rw [hP0.out]
      generalize hn1 : (Pl r PP ms).cls.length = n1 at *
      generalize hn2 : (Pl r PP ms).lg.length = n2 at *
      generalize hn4 : (Pl r PP ms).ws.length = n4 at *
      obtain ⟨W5, hW5⟩ : ∃ W5, (((w6.setCell ⟨w.heap.size + 1, 0, none⟩ (.slice p1 n1 q1)).setCell ⟨w.heap.size + 1, 1, none⟩ (.slice p2 n2 q2)).setCell ⟨w.heap.size + 1, 2, none⟩ (.slice p3 0 q3)).setCell ⟨w.heap.size + 1, 3, none⟩ (.slice p4 n4 q4) = W5 := ⟨_, rfl⟩
      have hr6 : w6.heap[w.heap.size + 1]? = some (.cells #[.slice none 0 0, .slice none 0 0, .slice none 0 0, .slice none 0 0] 32 (0, 0)) := hx6.out.r
      have hb5 : W5.heap[w.heap.size + 1]? = some (.cells #[.slice p1 n1 q1, .slice p2 n2 q2, .slice p3 0 q3, .slice p4 n4 q4] 32 (0, 0)) := by
        rw [← hW5, setBlk (setBlk (setBlk (setBlk hr6 0 _) 1 _) 2 _) 3 _]
        rfl
      have ho5 : ∀ k, k ≠ w.heap.size + 1 → W5.heap[k]? = w6.heap[k]? := fun k hk => by
        rw [← hW5, Below.heap_setCell _ _ _ k hk, Below.heap_setCell _ _ _ k hk, Below.heap_setCell _ _ _ k hk, Below.heap_setCell _ _ _ k hk]
      have hB5 : Below w.heap.size w W5 := by
        rw [← hW5]
        exact (((hx6.out.b.setCell (p := ⟨w.heap.size + 1, 0, none⟩) (Nat.le_succ _) _).setCell (p := ⟨w.heap.size + 1, 1, none⟩) (Nat.le_succ _) _).setCell (p := ⟨w.heap.size + 1, 2, none⟩) (Nat.le_succ _) _).setCell (p := ⟨w.heap.size + 1, 3, none⟩) (Nat.le_succ _) _
      have keep : ∀ {e size m : Nat} {v : Value} {xs : List Value}, Has w6 (fun k => wr.heap.size ≤ k) e size v m xs → Has W5 (fun k => w.heap.size ≤ k) e size v m xs := fun {e size m v xs} hh =>
        hh.kept (fun k hk => ho5 k (fun e' => by have := (hh.lt k hk).1; omega)) (fun k hk => by have := (hh.lt k hk).1; omega)
      have d0 : W5.cell? ⟨w.heap.size + 1, 0, none⟩ = some (.slice p1 n1 q1) := cell_at hb5 0
      have d1 : W5.cell? ⟨w.heap.size + 1, 1, none⟩ = some (.slice p2 n2 q2) := cell_at hb5 1
      have d2 : W5.cell? ⟨w.heap.size + 1, 2, none⟩ = some (.slice p3 0 q3) := cell_at hb5 2
      have d3' : W5.cell? ⟨w.heap.size + 1, 3, none⟩ = some (.slice p4 n4 q4) := cell_at hb5 3
      rw [hW5]
      refine bodyPost_ret (v := .tuple #[runV (.slice p1 n1 q1) (.slice p2 n2 q2) (.slice p3 0 q3) (.slice p4 n4 q4), .int .i64 0]) (by simp [results, Tryz.results14, go_sem, d0, d1, d2, d3', runV]) rfl ?_
      exact ⟨_, _, _, _, rfl, keep hv1, keep hv2, keep hv3, keep hv4, hB5⟩
end Go.Proofs.YtedaoljmcfbbpaaGreat.Dm
