import Derived.Test.YtedaoljmcfbbpaaGreatJ31
/-
  DequeLinear, pure, the third part: a thief's steps keep what the points' order explains.
-/
namespace Go.Proofs.YtedaoljmcfbbpaaGreat.Dm
open Go.RowKit Go.Shelf Mr Me Ma Gm Dq
set_option linter.unusedVariables false
set_option linter.unusedSimpArgs false
theorem Th.set {r : Nat} {P : Pg Dt Lw} {ord : List Nat} (h : Lc r P ord) {i j : Nat} {t u : Pt Dt} {k k' : Dt} {c : Nat} {x x' : Cl} (hx : P.cls[c]? = some x) (hth : x.th = (i : Int)) (hj : P.pts[j]? = some u) (hk' : u.tk = some k') (hji : j ≠ i) {l m : Int} {C1 : List Int} (hT : Th P.cls l C1 m u k') : Th (P.cls.set c x') l C1 m u k' := by
  cases k' with
  | push => trivial
  | take => trivial
  | steal nx tt v =>
    intro a b
    obtain ⟨h1, h2⟩ := hT a b
    refine ⟨h1, fun c' hc' => ?_⟩
    obtain ⟨c2, z, w1, w2, w3, _⟩ := h.lnk j u _ hj hk'
    have e2 : c2 = c' := by omega
    subst e2
    rw [atC_ne]
    · exact h2 c2 hc'
    · rintro rfl
      rw [hx] at w2; cases w2
      omega
/-- What is known of the owner while bottom is down. -/
theorem own_low {r : Nat} {ws : List Int} {B : Int} {nx : Nat} {l t v : Int} {n : Nat} (h : On r ws B (some (.take nx l t v))) (h3 : 3 ≤ nx) (hok : Ok 0 n (.take nx l t v)) (hT : rd ws 0 ≤ B) : rd ws 1 = nU l ∧ (rd ws 0 < B → nx = 3 ∨ nx = 5 ∨ nx = 6) ∧ ((nx = 3 ∨ nx = 5 ∨ nx = 6) → B ≤ l + 1) ∧ (nx = 4 ∨ nx = 7 → B = rd ws 0 ∧ l < B) := by
  simp only [Ok] at hok
  obtain ⟨_, o1, o2, _⟩ := hok
  obtain ⟨g1, g2, g3, g4, g5, g6, g7, g8⟩ := h
  obtain rfl | rfl | rfl | rfl | rfl : nx = 3 ∨ nx = 4 ∨ nx = 5 ∨ nx = 6 ∨ nx = 7 := by omega
  · have := g4 rfl; exact ⟨g3 h3, fun _ => .inl rfl, fun _ => by omega, fun h => by omega⟩
  · have := g5 rfl; exact ⟨g3 h3, fun h => by omega, fun h => by omega, fun _ => by omega⟩
  · obtain ⟨a1, a2, a3, a4⟩ := g6 rfl
    refine ⟨g3 h3, fun _ => .inr (.inl rfl), fun _ => ?_, fun h => by omega⟩
    by_cases hh : t < l
    · have := a3 hh; omega
    · have := a4 hh; omega
  · have := g7 rfl; exact ⟨g3 h3, fun _ => .inr (.inr rfl), fun _ => by omega, fun h => by omega⟩
  · have := g8 rfl; exact ⟨g3 h3, fun h => by omega, fun h => by omega, fun _ => by omega⟩
set_option maxHeartbeats 4000000 in
theorem lc_thief {r : Nat} {P : Pg Dt Lw} {B : Int} {ord : List Nat} (hI : Iv r P) (hn : P.n < 65536) (hO : Oi r P B) (h : Lc r P ord) {i : Nat} {t : Pt Dt} {nx : Nat} {tt v : Int} (ht : P.pts[i]? = some t) (hk : t.tk = some (.steal nx tt v)) (fr : Bool) : ∃ ord', Lc r (P.count.stepE i t P.n (stp r fr i P.n P.ws P.g (.steal nx tt v))) ord' := by
  have hok := hI.tsk i t _ ht hk
  obtain ⟨sl1, sl2, sl3⟩ := hO.stl i t _ ht hk
  have t0 := hO.t0
  have tb := hO.tb
  have nn := hO.nn
  have l0 : 0 < P.ws.length := by have := hI.len; omega
  have w0 : wrap64 (rd P.ws 0) = rd P.ws 0 := w64_id _ t0 (by omega)
  have wB : wrap64 (nU B) = B := w64_nU _ (by omega) (by omega)
  obtain ⟨c, x, hc, hx, hth, hfin, hcb, hpt0⟩ := h.lnk i t _ ht hk
  have hop : x.op = 92 := hcb
  have hpt := hpt0 (fun h => h)
  clear hpt0
  have hl := (List.getElem?_eq_some_iff.1 hx).1
  have hi : i < P.pts.length := (List.getElem?_eq_some_iff.1 ht).1
  have hlb := h.lb
  -- whoever is thread 0 behind the step
  have p0 : ∀ (u t9 : Pt Dt), (P.pts.set i u)[0]? = some t9 → (i = 0 ∧ t9 = u) ∨ (i ≠ 0 ∧ P.pts[0]? = some t9) := fun u t9 h9 => by
    rcases pts_set h9 with ⟨rfl, rfl⟩ | ⟨h1, h2⟩
    · exact .inl ⟨rfl, rfl⟩
    · exact .inr ⟨fun e => h1 e.symm, h2⟩
  have low0 : ∀ (u : Pt Dt), (∀ k', u.tk = some k' → ¬ low k') → (∀ (t9 : Pt Dt) (k9 : Dt), (P.pts.set i u)[0]? = some t9 → t9.tk = some k9 → ¬ low k9) → ∀ (t9 : Pt Dt) (k9 : Dt), P.pts[0]? = some t9 → t9.tk = some k9 → ¬ low k9 := fun u hu hall t9 k9 h1 h2 => by
    by_cases h0 : i = 0
    · subst h0; rw [ht] at h1; cases h1; rw [hk] at h2; cases h2; exact fun h => h
    · exact hall t9 k9 (by rw [List.getElem?_set_ne h0]; exact h1) h2
  have lowI : ∀ {t9 : Pt Dt} {nx9 : Nat} {l9 tt9 v9 : Int}, P.pts[0]? = some t9 → t9.tk = some (.take nx9 l9 tt9 v9) → 3 ≤ nx9 → On r P.ws B (some (.take nx9 l9 tt9 v9)) ∧ Ok 0 P.n (.take nx9 l9 tt9 v9) := fun h1 h2 h3 => by
    refine ⟨?_, hI.tsk 0 _ _ h1 h2⟩
    have := hO.own
    rw [tkF_at h1, h2] at this
    exact this
  have frI : (∀ (t9 : Pt Dt) (k9 : Dt), P.pts[0]? = some t9 → t9.tk = some k9 → ¬ low k9) → rd P.ws 1 = nU B := fun hall => by
    have ho := hO.own
    cases h0 : P.pts[0]? with
    | none => unfold tkF at ho; rw [h0] at ho; exact ho
    | some t9 =>
      rw [tkF_at h0] at ho
      cases hk9 : t9.tk with
      | none => rw [hk9] at ho; exact ho
      | some k9 =>
        rw [hk9] at ho
        have hl9 := hall t9 k9 h0 hk9
        cases k9 with
        | push => exact ho.1
        | steal => exact ho
        | take nx9 l9 tt9 v9 =>
          have hl9 : ¬ 3 ≤ nx9 := hl9
          exact ho.1 (by omega)
  -- a step that changes nothing but the task
  have keep : ∀ (e : Df) (k' : Dt), e.ws = P.ws → e.g = P.g → e.pt = none → e.tk = some k' → ¬ low k' → (∀ y, Cb y (.steal nx tt v) → Cb y k') → (∀ (t9 : Pt Dt) (nx9 : Nat) (l9 tt9 v9 : Int), P.pts[0]? = some t9 → t9.tk = some (.take nx9 l9 tt9 v9) → 3 ≤ nx9 → ∀ (C1 : List Int) (m : Int) (u : Pt Dt), u.call = t.call → Th P.cls l9 C1 m t (.steal nx tt v) → Th P.cls l9 C1 m u k') → ∃ ord', Lc r (P.count.stepE i t P.n e) ord' := by
    intro e k' e1 e2 e3 e4 e5 e6 e7
    have ex : nxC x P.n t e = x := by unfold nxC; rw [e4, e3]; rfl
    refine ⟨ord, h.stepE ht hk P.n e hc hx hth (by rw [ex, set_same hx]; exact hlb.count) (fun k9 h9 => by rw [e4] at h9; cases h9; exact ⟨e6, fun _ => ⟨e3, fun h => h⟩⟩) (fun Q u q1 q2 q3 q4 q5 q6 q7 => ?_)⟩
    rw [ex, set_same hx] at q1
    rw [e1] at q2
    rw [e2] at q3
    rw [e4] at q5
    refine ⟨fun t9 nx9 l9 tt9 v9 h1 h2 h3 => ?_, fun hall => ?_⟩
    · rw [q4] at h1
      rcases p0 u t9 h1 with ⟨_, rfl⟩ | ⟨hi0, h1b⟩
      · rw [q5] at h2; cases h2; exact absurd h3 e5
      · obtain ⟨m, hg, hs⟩ := h.lo t9 nx9 l9 tt9 v9 h1b h2 h3
        refine ⟨m, by rw [q3]; exact hg, ?_⟩
        rcases hs with ⟨a1, a2, A, ct, D, C1, b1, b2, b3, b4, b5, b6, b7⟩ | hs | hs
        · refine .inl ⟨a1, by rw [q2]; exact a2, A, ct, D, C1, b1, b2, by rw [q1]; exact b3, by rw [q1]; exact b4, by rw [q1, q2]; exact b5, by rw [q1, q2]; exact b6, fun j u9 k9 hj hk9 => ?_⟩
          rw [q1]
          rw [q4] at hj
          rcases pts_set hj with ⟨rfl, rfl⟩ | ⟨_, hj⟩
          · rw [q5] at hk9; cases hk9
            exact e7 t9 nx9 l9 tt9 v9 h1b h2 h3 C1 m _ q6 (b7 j t _ ht hk)
          · exact b7 j u9 k9 hj hk9
        · obtain ⟨a1, a2, X, ct, Y, b1, b2, b3, b4⟩ := hs
          exact .inr (.inl ⟨by rw [q2]; exact a1, a2, X, ct, Y, b1, b2, by rw [q1]; exact b3, by rw [q1]; exact b4⟩)
        · obtain ⟨a1, A, ct, D, C1, w, b1, b2, b3, b4, b5⟩ := hs
          exact .inr (.inr ⟨a1, A, ct, D, C1, w, b1, b2, by rw [q1]; exact b3, by rw [q1]; exact b4, b5⟩)
    · rw [q4] at hall
      have := h.fr (low0 u (fun k9 h9 => by rw [q5] at h9; cases h9; exact e5) hall)
      unfold Fr' at this ⊢
      rw [q1, q2, q3]; exact this
  simp only [Ok] at hok
  obtain rfl | rfl | rfl | rfl : nx = 1 ∨ nx = 2 ∨ nx = 3 ∨ nx = 4 := by omega
  · exact keep _ _ rfl rfl rfl rfl (fun h => h) (fun y h => h) (fun _ _ _ _ _ _ _ _ C1 m u _ _ a => by omega)
  · by_cases hy : wrap64 (rd P.ws 1) - tt ≤ 0
    · have e : stp r fr i P.n P.ws P.g (.steal 2 tt v) = _ := if_pos hy
      rw [e]
      generalize hx' : nxC x P.n t ⟨P.ws, [ldA i P.n 1 P.ws], P.g, none, some (P.n : Int), some (3, 0)⟩ = x'
      have up := nxC_up x P.n t ⟨P.ws, [ldA i P.n 1 P.ws], P.g, none, some (P.n : Int), some (3, 0)⟩
      rw [hx'] at up
      have x1 : x'.pt = P.n := by rw [← hx']; rfl
      have x2 : x'.ak = 3 ∧ x'.av = 0 := by rw [← hx']; exact ⟨rfl, rfl⟩
      have x3 : x'.op = 92 := by rw [up.op]; exact hop
      obtain ⟨lb', hno⟩ := hlb.now hx up x1 (by omega) hpt hfin
      have one : exO r [] [x'] = some [] := ex_one (at_e r (by omega)) (okA_end x2.1 x2.2)
      refine ⟨ord ++ [c], h.stepE ht hk P.n _ hc hx hth (by rw [hx']; exact lb') (fun k9 h9 => by cases h9) (fun Q u q1 q2 q3 q4 q5 q6 q7 => ?_)⟩
      rw [hx'] at q1
      refine ⟨fun t9 nx9 l9 tt9 v9 h1 h2 h3 => ?_, fun hall => ?_⟩
      · rw [q4] at h1
        rcases p0 u t9 h1 with ⟨_, rfl⟩ | ⟨hi0, h1⟩
        · rw [q5] at h2; cases h2
        · obtain ⟨m, hg, hs⟩ := h.lo t9 nx9 l9 tt9 v9 h1 h2 h3
          obtain ⟨ho, hk0⟩ := lowI h1 h2 h3
          obtain ⟨o1, o2, o3, o4⟩ := own_low ho h3 hk0 tb
          have hl9 : -1 ≤ l9 ∧ l9 ≤ P.n := by simp only [Ok] at hk0; exact hk0.2.2.2.1 (by omega)
          have wl : wrap64 (rd P.ws 1) = l9 := by rw [o1]; exact w64_nU _ hl9.1 (by omega)
          refine ⟨m, by rw [q3]; exact hg, ?_⟩
          rcases hs with ⟨a1, a2, A, ct, D, C1, b1, b2, b3, b4, b5, b6, b7⟩ | hs | hs
          · have hT : rd P.ws 0 = l9 := by have := sl1 (by omega); omega
            have hA : c ∉ A := fun hh => hno (by rw [b1]; exact List.mem_append.2 (.inl hh))
            have hD : c ∉ D := fun hh => hno (by rw [b1]; exact List.mem_append.2 (.inr (List.mem_cons_of_mem _ hh)))
            have hct : ct ≠ c := fun hh => hno (by rw [b1, ← hh]; exact List.mem_append.2 (.inr (List.mem_cons_self)))
            refine .inl ⟨a1, by rw [q2]; exact a2, A, ct, D ++ [c], C1, by rw [b1]; simp, b2, by rw [q1, atC_ne hct]; exact b3, fun a ha => by rw [q1, atC_ne (ne_of hA ha)]; exact b4 a ha, by rw [q1, q2, lk_ne hA]; exact b5, ?_, fun j u9 k9 hj hk9 => ?_⟩
            · rw [q1, q2, lk_snoc hl hD, exO_then b6]
              have e0 : (l9 - rd P.ws 0).toNat = 0 := by omega
              rw [show (Gm.Ef.ws (⟨P.ws, [ldA i P.n 1 P.ws], P.g, none, some (P.n : Int), some (3, 0)⟩ : Df)) = P.ws from rfl, e0]
              exact one
            · rw [q1]
              rw [q4] at hj
              rcases pts_set hj with ⟨rfl, rfl⟩ | ⟨hji, hj⟩
              · rw [q5] at hk9; cases hk9
              · exact Th.set h (t := t) (k := .steal 2 tt v) hx hth hj hk9 hji (b7 j u9 k9 hj hk9)
          · obtain ⟨a1, a2, X, ct, Y, b1, b2, b3, b4⟩ := hs
            have hX : c ∉ X := fun hh => hno (by rw [b1]; exact List.mem_append.2 (.inl hh))
            have hY : c ∉ Y := fun hh => hno (by rw [b1]; exact List.mem_append.2 (.inr (List.mem_cons_of_mem _ hh)))
            exact .inr (.inl ⟨by rw [q2]; exact a1, a2, X, ct, Y ++ [c], by rw [b1]; simp, b2, by rw [q1, lk_ne hX]; exact b3, by rw [q1, lk_snoc hl hY, exO_then b4]; exact one⟩)
          · obtain ⟨a1, A, ct, D, C1, w, b1, b2, b3, b4, b5⟩ := hs
            have hA : c ∉ A := fun hh => hno (by rw [b1]; exact List.mem_append.2 (.inl hh))
            have hD : c ∉ D := fun hh => hno (by rw [b1]; exact List.mem_append.2 (.inr (List.mem_cons_of_mem _ hh)))
            exact .inr (.inr ⟨a1, A, ct, D ++ [c], C1, w, by rw [b1]; simp, b2, by rw [q1, lk_ne hA]; exact b3, by rw [q1, lk_snoc hl hD, exO_then b4]; exact one, b5⟩)
      · rw [q4] at hall
        have hall' := low0 u (fun k9 h9 => by rw [q5] at h9; cases h9) hall
        obtain ⟨f1, f2⟩ := h.fr hall'
        have hb := frI hall'
        rw [hb, wB] at hy
        have hT : rd P.ws 0 = B := by have := sl1 (by omega); omega
        refine ⟨by rw [q3]; exact f1, ?_⟩
        rw [q1, q2, lk_snoc hl hno, exO_then f2]
        have e0 : (wrap64 (rd P.ws 1) - rd P.ws 0).toNat = 0 := by rw [hb, wB, hT]; omega
        rw [show (Gm.Ef.ws (⟨P.ws, [ldA i P.n 1 P.ws], P.g, none, some (P.n : Int), some (3, 0)⟩ : Df)) = P.ws from rfl, e0]
        exact one
    · have e : stp r fr i P.n P.ws P.g (.steal 2 tt v) = _ := if_neg hy
      rw [e]
      refine keep _ _ rfl rfl rfl rfl (fun h => h) (fun y h => h) (fun t9 nx9 l9 tt9 v9 h1 h2 h3 C1 m u _ _ a b => ?_)
      obtain ⟨ho, hk0⟩ := lowI h1 h2 h3
      obtain ⟨o1, _⟩ := own_low ho h3 hk0 tb
      have hl9 : -1 ≤ l9 ∧ l9 ≤ P.n := by simp only [Ok] at hk0; exact hk0.2.2.2.1 (by omega)
      rw [o1, w64_nU _ hl9.1 (by omega)] at hy
      omega
  · refine keep _ _ rfl rfl rfl rfl (fun h => h) (fun y h => h) (fun t9 nx9 l9 tt9 v9 h1 h2 h3 C1 m u hu hT a b => ?_)
    obtain ⟨g1, g2⟩ := hT (by omega) b
    exact ⟨g1, fun c' hc' => g2 c' (by rw [← hu]; exact hc')⟩
  · by_cases hy : rd P.ws 0 = tt
    · obtain ⟨mp, hm1, hm2, e⟩ : ∃ mp : Int, (P.g = none → mp = P.n) ∧ (∀ m k, P.g = some (m, k) → mp = if k = tt then m else (P.n : Int)) ∧ stp r fr i P.n P.ws P.g (.steal 4 tt v) = ⟨P.ws.set 0 (tt + 1), [swA i P.n 0 tt (tt + 1) tt], P.g, none, some mp, some (2, v)⟩ := by
        generalize P.g = g
        cases g with
        | none => exact ⟨P.n, fun _ => rfl, fun m k h => (by cases h), if_pos hy⟩
        | some mk =>
          obtain ⟨m, k⟩ := mk
          exact ⟨if k = tt then m else (P.n : Int), fun h => (by cases h), fun m' k' h => (by cases h; rfl), if_pos hy⟩
      rw [e]
      subst hy
      have hlt := sl2 (by omega) rfl
      have hv := sl3 (by omega) rfl
      have z0 : rd (P.ws.set 0 (rd P.ws 0 + 1)) 0 = rd P.ws 0 + 1 := rd_same _ l0
      have z1 : rd (P.ws.set 0 (rd P.ws 0 + 1)) 1 = rd P.ws 1 := rd_other _ (by omega)
      generalize hx' : nxC x P.n t ⟨P.ws.set 0 (rd P.ws 0 + 1), [swA i P.n 0 (rd P.ws 0) (rd P.ws 0 + 1) (rd P.ws 0)], P.g, none, some mp, some (2, v)⟩ = x'
      have up := nxC_up x P.n t ⟨P.ws.set 0 (rd P.ws 0 + 1), [swA i P.n 0 (rd P.ws 0) (rd P.ws 0 + 1) (rd P.ws 0)], P.g, none, some mp, some (2, v)⟩
      rw [hx'] at up
      have x1 : x'.pt = mp := by rw [← hx']; rfl
      have x2 : x'.ak = 2 ∧ x'.av = v := by rw [← hx']; exact ⟨rfl, rfl⟩
      have x3 : x'.op = 92 := by rw [up.op]; exact hop
      have one : ∀ l : List Int, exO r (cv r P.ws (rd P.ws 0) :: l) [x'] = some l := fun l => ex_one (at_s r x3 _ l) (okA_end x2.1 (by rw [x2.2, hv]))
      -- the owner has not put bottom down, or there is more than the one value
      have append : mp = P.n → (∀ (t9 : Pt Dt) (nx9 : Nat) (l9 tt9 v9 : Int), P.pts[0]? = some t9 → t9.tk = some (.take nx9 l9 tt9 v9) → 3 ≤ nx9 → rd P.ws 0 ≠ l9) → ∃ ord', Lc r (P.count.stepE i t P.n ⟨P.ws.set 0 (rd P.ws 0 + 1), [swA i P.n 0 (rd P.ws 0) (rd P.ws 0 + 1) (rd P.ws 0)], P.g, none, some mp, some (2, v)⟩) ord' := by
        intro hm hne
        obtain ⟨lb', hno⟩ := hlb.now hx up (by rw [x1, hm]) (by omega) hpt hfin
        refine ⟨ord ++ [c], h.stepE ht hk P.n _ hc hx hth (by rw [hx']; exact lb') (fun k9 h9 => by cases h9) (fun Q u q1 q2 q3 q4 q5 q6 q7 => ?_)⟩
        rw [hx'] at q1
        have q2 : Q.ws = P.ws.set 0 (rd P.ws 0 + 1) := q2
        refine ⟨fun t9 nx9 l9 tt9 v9 h1 h2 h3 => ?_, fun hall => ?_⟩
        · rw [q4] at h1
          rcases p0 u t9 h1 with ⟨_, rfl⟩ | ⟨hi0, h1b⟩
          · rw [q5] at h2; cases h2
          · obtain ⟨m, hg, hs⟩ := h.lo t9 nx9 l9 tt9 v9 h1b h2 h3
            obtain ⟨ho, hk0⟩ := lowI h1b h2 h3
            obtain ⟨o1, o2, o3, o4⟩ := own_low ho h3 hk0 tb
            have hn9 := hne t9 nx9 l9 tt9 v9 h1b h2 h3
            refine ⟨m, by rw [q3]; exact hg, ?_⟩
            rcases hs with ⟨a1, a2, A, ct, D, C1, b1, b2, b3, b4, b5, b6, b7⟩ | hs | hs
            · have hA : c ∉ A := fun hh => hno (by rw [b1]; exact List.mem_append.2 (.inl hh))
              have hD : c ∉ D := fun hh => hno (by rw [b1]; exact List.mem_append.2 (.inr (List.mem_cons_of_mem _ hh)))
              have hct : ct ≠ c := fun hh => hno (by rw [b1, ← hh]; exact List.mem_append.2 (.inr (List.mem_cons_self)))
              refine .inl ⟨a1, by rw [q2, z0]; omega, A, ct, D ++ [c], C1, by rw [b1]; simp, b2, by rw [q1, atC_ne hct]; exact b3, fun a ha => by rw [q1, atC_ne (ne_of hA ha)]; exact b4 a ha, by rw [q1, q2, lk_ne hA, cv_0]; exact b5, ?_, fun j u9 k9 hj hk9 => ?_⟩
              · rw [q1, q2, lk_snoc hl hD, exO_then b6, z0, sg_0]
                have e0 : (l9 - rd P.ws 0).toNat = (l9 - (rd P.ws 0 + 1)).toNat + 1 := by omega
                rw [e0, sg_cons]
                exact one _
              · rw [q1]
                rw [q4] at hj
                rcases pts_set hj with ⟨rfl, rfl⟩ | ⟨hji, hj⟩
                · rw [q5] at hk9; cases hk9
                · exact Th.set h (t := t) (k := .steal 4 (rd P.ws 0) v) hx hth hj hk9 hji (b7 j u9 k9 hj hk9)
            · obtain ⟨a1, _⟩ := hs
              have := o2 hlt
              have := a1 this
              have := o3 ‹_›
              omega
            · obtain ⟨a1, _⟩ := hs
              have := o2 hlt
              omega
        · rw [q4] at hall
          have hall' := low0 u (fun k9 h9 => by rw [q5] at h9; cases h9) hall
          obtain ⟨f1, f2⟩ := h.fr hall'
          have hb := frI hall'
          refine ⟨by rw [q3]; exact f1, ?_⟩
          rw [q1, q2, lk_snoc hl hno, exO_then f2, z0, z1, sg_0, hb, wB]
          have e0 : (B - rd P.ws 0).toNat = (B - (rd P.ws 0 + 1)).toNat + 1 := by omega
          rw [e0, sg_cons]
          exact one _
      have hgo : P.g = none ∨ ∃ m l, P.g = some (m, l) := by
        cases P.g with
        | none => exact .inl rfl
        | some ml => exact .inr ⟨ml.1, ml.2, rfl⟩
      rcases hgo with hg | ⟨m, l, hg⟩
      · refine append (hm1 hg) (fun t9 nx9 l9 tt9 v9 h1 h2 h3 => ?_)
        obtain ⟨m, hg9, _⟩ := h.lo t9 nx9 l9 tt9 v9 h1 h2 h3
        rw [hg] at hg9; cases hg9
      · have hmp := hm2 m l hg
        -- thread 0 is in a take that has put bottom down
        have hlow : ¬ ∀ (t9 : Pt Dt) (k9 : Dt), P.pts[0]? = some t9 → t9.tk = some k9 → ¬ low k9 := fun hall => by
          have := (h.fr hall).1
          rw [hg] at this; cases this
        have hex : ∃ (t9 : Pt Dt) (nx9 : Nat) (l9 tt9 v9 : Int), P.pts[0]? = some t9 ∧ t9.tk = some (.take nx9 l9 tt9 v9) ∧ 3 ≤ nx9 := by
          apply Classical.byContradiction
          intro hno
          refine hlow (fun t9 k9 h1 h2 hl9 => ?_)
          cases k9 with
          | push => exact hl9
          | steal => exact hl9
          | take nx9 l9 tt9 v9 => exact hno ⟨t9, nx9, l9, tt9, v9, h1, h2, hl9⟩
        obtain ⟨t9, nx9, l9, tt9, v9, h1, h2, h3⟩ := hex
        obtain ⟨m', hg', hs⟩ := h.lo t9 nx9 l9 tt9 v9 h1 h2 h3
        rw [hg] at hg'
        obtain ⟨rfl, rfl⟩ : m = m' ∧ l = l9 := by cases hg'; exact ⟨rfl, rfl⟩
        by_cases hll : l = rd P.ws 0
        · have hmp : mp = m := by rw [hmp]; exact if_pos hll
          obtain ⟨ho, hk0⟩ := lowI h1 h2 h3
          obtain ⟨o1, o2, o3, o4⟩ := own_low ho h3 hk0 tb
          have hi0 : i ≠ 0 := fun e => by subst e; rw [ht] at h1; cases h1; rw [hk] at h2; cases h2
          rcases hs with ⟨a1, a2, A, ct, D, C1, b1, b2, b3, b4, b5, b6, b7⟩ | hs | hs
          · obtain ⟨hC, hbm⟩ := b7 i t _ ht hk (by omega) hll.symm
            subst hC
            have hbm := hbm c hc
            rw [atC_of hx] at hbm
            obtain ⟨ct', y, w1, w2, w3, w4, w5, _⟩ := h.lnk 0 t9 _ h1 h2
            have ect : ct' = ct := by omega
            subst ect
            rw [atC_of w2] at b3
            have hyo : y.op = 91 := w5
            have hym : y.pt ≠ -1 := by
              obtain ⟨z, g1, g2⟩ := (hlb.mem ct').1 (by rw [b1]; simp)
              rw [w2] at g1; cases g1; exact g2
            have hyt := (hlb.tm ct' y w2).2.2.1 hym
            have hlb2 := hlb
            rw [b1] at hlb2
            obtain ⟨lb', hno⟩ := hlb2.ins hx up (by rw [x1, hmp]) hop hpt hfin w2 b3 hyo b4 hbm (by omega) (by omega)
            have hA : c ∉ A := fun hh => hno (List.mem_append.2 (.inl hh))
            have hD : c ∉ D := fun hh => hno (List.mem_append.2 (.inr (List.mem_cons_of_mem _ hh)))
            refine ⟨A ++ c :: ct' :: D, h.stepE ht hk P.n _ hc hx hth (by rw [hx']; exact lb') (fun k9 h9 => by cases h9) (fun Q u q1 q2 q3 q4 q5 q6 q7 => ?_)⟩
            rw [hx'] at q1
            have q2 : Q.ws = P.ws.set 0 (rd P.ws 0 + 1) := q2
            refine ⟨fun t8 nx8 l8 tt8 v8 g1 g2 g3 => ?_, fun hall => ?_⟩
            · rw [q4, List.getElem?_set_ne hi0, h1] at g1
              cases g1
              rw [h2] at g2; cases g2
              refine ⟨m, by rw [q3]; exact hg, .inr (.inl ⟨fun _ => by rw [q2, z0, hll], fun hh => by omega, A ++ [c], ct', D, by simp, b2, ?_, ?_⟩)⟩
              · rw [q1, lk_snoc hl hA, exO_then b5, hll]
                exact one []
              · rw [q1, lk_ne hD, b6]
                have e0 : (l - rd P.ws 0).toNat = 0 := by omega
                rw [e0]; rfl
            · exfalso
              refine hall t9 _ (by rw [q4, List.getElem?_set_ne hi0]; exact h1) h2 h3
          · obtain ⟨a1, _⟩ := hs
            have := o2 hlt
            have := a1 this
            have := o3 ‹_›
            omega
          · obtain ⟨a1, _⟩ := hs
            have := o2 hlt
            omega
        · refine append (by rw [hmp]; exact if_neg hll) (fun t8 nx8 l8 tt8 v8 g1 g2 g3 e9 => ?_)
          rw [h1] at g1; cases g1
          rw [h2] at g2; cases g2
          exact hll e9.symm
    · have e : stp r fr i P.n P.ws P.g (.steal 4 tt v) = _ := if_neg hy
      rw [e]
      exact keep _ _ rfl rfl rfl rfl (fun h => h) (fun y h => h) (fun _ _ _ _ _ _ _ _ C1 m u _ _ a => by omega)
end Go.Proofs.YtedaoljmcfbbpaaGreat.Dm
/-
  DequeLinear, pure, the fourth part: the owner's steps keep what the points' order explains.
-/
namespace Go.Proofs.YtedaoljmcfbbpaaGreat.Dm
open Go.RowKit Go.Shelf Mr Me Ma Gm Dq
set_option linter.unusedVariables false
set_option linter.unusedSimpArgs false
theorem nd_mid {A D : List Nat} {c : Nat} (h : (A ++ c :: D).Nodup) : c ∉ A ∧ c ∉ D := by
  rw [List.nodup_append] at h
  obtain ⟨n1, n2, n3⟩ := h
  rw [List.nodup_cons] at n2
  exact ⟨fun hc => n3 c hc c (by simp) rfl, n2.1⟩
theorem lk_mid {cls : List Cl} {c : Nat} {A D : List Nat} (hl : c < cls.length) (hA : c ∉ A) (hD : c ∉ D) (x' : Cl) : lk (cls.set c x') (A ++ c :: D) = lk cls A ++ x' :: lk cls D := by
  rw [lk_app, lk_ne hA, lk_cons, atC_set hl, lk_ne hD]
theorem sg_1 (r : Nat) (ws : List Int) (y t : Int) (n : Nat) : sg r (ws.set 1 y) t n = sg r ws t n := sg_cv t n (fun k => cv_1 r ws y k)
theorem endA_30 : endA 3 0 = (3, 0) := rfl
set_option maxHeartbeats 4000000 in
theorem lc_owner {r : Nat} {P : Pg Dt Lw} {B : Int} {ord : List Nat} (hI : Iv r P) (hn : P.n < 65536) (hO : Oi r P B) (h : Lc r P ord) {t : Pt Dt} {k : Dt} (ht : P.pts[0]? = some t) (hk : t.tk = some k) (hns : ¬ isSt k) (fr : Bool) : ∃ ord', Lc r (P.count.stepE 0 t P.n (stp r fr 0 P.n P.ws P.g k)) ord' := by
  have hok := hI.tsk 0 t _ ht hk
  have own := hO.own
  rw [tkF_at ht, hk] at own
  have t0 := hO.t0
  have tb := hO.tb
  have room := hO.room
  have nn := hO.nn
  have hlen := hI.len
  have r1 := hI.r1
  have l0 : 0 < P.ws.length := by omega
  have l1 : 1 < P.ws.length := by omega
  have cn := cel_ne r
  have w0 : wrap64 (rd P.ws 0) = rd P.ws 0 := w64_id _ t0 (by omega)
  have wB : wrap64 (nU B) = B := w64_nU _ (by omega) (by omega)
  obtain ⟨c, x, hc, hx, hth, hfin, hcb, hpt⟩ := h.lnk 0 t _ ht hk
  have hl := (List.getElem?_eq_some_iff.1 hx).1
  have hi : 0 < P.pts.length := (List.getElem?_eq_some_iff.1 ht).1
  have hlb := h.lb
  have g0 : ∀ u : Pt Dt, (P.pts.set 0 u)[0]? = some u := fun u => List.getElem?_set_self hi
  -- a step that changes nothing but the task and the words
  have same : ∀ (e : Df) (k' : Dt), e.g = P.g → e.pt = none → e.tk = some k' → ¬ low k → ¬ low k' → (∀ y, Cb y k → Cb y k') → sg r e.ws (rd e.ws 0) (wrap64 (rd e.ws 1) - rd e.ws 0).toNat = sg r P.ws (rd P.ws 0) (wrap64 (rd P.ws 1) - rd P.ws 0).toNat → ∃ ord', Lc r (P.count.stepE 0 t P.n e) ord' := by
    intro e k' e2 e3 e4 e5 e5' e6 e7
    have ex : nxC x P.n t e = x := by unfold nxC; rw [e4, e3]; rfl
    refine ⟨ord, h.stepE ht hk P.n e hc hx hth (by rw [ex, set_same hx]; exact hlb.count) (fun k9 h9 => by rw [e4] at h9; cases h9; exact ⟨e6, fun _ => ⟨e3, e5⟩⟩) (fun Q u q1 q2 q3 q4 q5 q6 q7 => ?_)⟩
    rw [ex, set_same hx] at q1
    rw [e4] at q5
    refine ⟨fun t9 nx9 l9 tt9 v9 h1 h2 h3 => ?_, fun hall => ?_⟩
    · rw [q4, g0] at h1; cases h1
      rw [q5] at h2; cases h2
      exact absurd h3 e5'
    · have f := h.fr (fun t9 k9 h1 h2 => by rw [ht] at h1; cases h1; rw [hk] at h2; cases h2; exact e5)
      exact ⟨by rw [q3, e2]; exact f.1, by rw [q1, q2, e7]; exact f.2⟩
  -- a call that ends with its point now
  have done : ∀ (e : Df) (vs' : List Int), e.g = P.g → e.pt = some (P.n : Int) → e.tk = none → ¬ low k → (∀ vs, vs = sg r P.ws (rd P.ws 0) (wrap64 (rd P.ws 1) - rd P.ws 0).toNat → exO r vs [nxC x P.n t e] = some vs') → sg r e.ws (rd e.ws 0) (wrap64 (rd e.ws 1) - rd e.ws 0).toNat = vs' → ∃ ord', Lc r (P.count.stepE 0 t P.n e) ord' := by
    intro e vs' e2 e3 e4 e5 e6 e7
    have up := nxC_up x P.n t e
    obtain ⟨lb', hno⟩ := hlb.now hx up (by rw [nxC_pt, e3]; rfl) (by omega) (hpt e5) hfin
    refine ⟨ord ++ [c], h.stepE ht hk P.n e hc hx hth lb' (fun k9 h9 => by rw [e4] at h9; cases h9) (fun Q u q1 q2 q3 q4 q5 q6 q7 => ?_)⟩
    rw [e4] at q5
    refine ⟨fun t9 nx9 l9 tt9 v9 h1 h2 h3 => ?_, fun hall => ?_⟩
    · rw [q4, g0] at h1; cases h1
      rw [q5] at h2; cases h2
    · have f := h.fr (fun t9 k9 h1 h2 => by rw [ht] at h1; cases h1; rw [hk] at h2; cases h2; exact e5)
      refine ⟨by rw [q3, e2]; exact f.1, ?_⟩
      rw [q1, q2, lk_snoc hl hno, exO_then f.2, e7]
      exact e6 _ rfl
  cases k with
  | steal => exact (hns trivial).elim
  | push nx v bt =>
    simp only [Ok] at hok
    obtain ⟨_, o2⟩ := hok
    obtain ⟨g1, g2, g3, g4⟩ := own
    have hop : x.op = 90 := hcb.1
    have harg : x.arg = v := hcb.2
    obtain rfl | rfl | rfl | rfl : nx = 1 ∨ nx = 2 ∨ nx = 3 ∨ nx = 4 := by omega
    · exact same _ _ rfl rfl rfl (fun h => h) (fun h => h) (fun y h => h) rfl
    · have hb := g2 (by omega)
      subst hb
      by_cases hy : (r : Int) ≤ bt - wrap64 (rd P.ws 0)
      · have e : stp r fr 0 P.n P.ws P.g (.push 2 v bt) = _ := if_pos hy
        rw [e]
        refine done _ (sg r P.ws (rd P.ws 0) (wrap64 (rd P.ws 1) - rd P.ws 0).toNat) rfl rfl rfl (fun h => h) (fun vs hvs => ?_) rfl
        have hz := at_f (rm := (r : Int)) (x := nxC x P.n t ⟨P.ws, [ldA 0 P.n 0 P.ws], P.g, none, some (P.n : Int), some (4, 0)⟩) (vs := vs) hop (by rw [hvs, sg_len, g1, wB]; rw [w0] at hy; omega)
        rw [← hvs]
        exact ex_one hz (okA_end rfl rfl)
      · have e : stp r fr 0 P.n P.ws P.g (.push 2 v bt) = _ := if_neg hy
        rw [e]
        exact same _ _ rfl rfl rfl (fun h => h) (fun h => h) (fun y h => h) rfl
    · have hb := g2 (by omega)
      subst hb
      have hr := g3 (by omega)
      refine same _ _ rfl rfl rfl (fun h => h) (fun h => h) (fun y h => h) ?_
      show sg r (P.ws.set _ _) (rd (P.ws.set _ _) 0) (wrap64 (rd (P.ws.set _ _) 1) - rd (P.ws.set _ _) 0).toNat = _
      rw [rd_other _ (cn _).1, rd_other _ (cn _).2, g1, wB]
      exact sg_congr (fun j hj => cv_c _ _ (by omega) (by omega) (by omega))
    · have hb := g2 (by omega)
      subst hb
      have hr := g3 (by omega)
      have hcv := g4 (by omega)
      have wB1 : wrap64 (nU (bt + 1)) = bt + 1 := w64_nU _ (by omega) (by omega)
      refine done _ (sg r P.ws (rd P.ws 0) (bt - rd P.ws 0).toNat ++ [v]) rfl rfl rfl (fun h => h) (fun vs hvs => ?_) ?_
      · rw [g1, wB] at hvs
        have hz := at_p (rm := (r : Int)) (x := nxC x P.n t ⟨P.ws.set 1 (nU (bt + 1)), [stA 0 P.n 1 (nU (bt + 1))], P.g, none, some (P.n : Int), some (1, 0)⟩) (vs := vs) hop (by rw [hvs, sg_len]; omega)
        have hz2 : (nxC x P.n t ⟨P.ws.set 1 (nU (bt + 1)), [stA 0 P.n 1 (nU (bt + 1))], P.g, none, some (P.n : Int), some (1, 0)⟩).arg = v := harg
        rw [hz2] at hz
        rw [← hvs]
        exact ex_one hz (okA_end rfl rfl)
      · show sg r (P.ws.set _ _) (rd (P.ws.set _ _) 0) (wrap64 (rd (P.ws.set _ _) 1) - rd (P.ws.set _ _) 0).toNat = _
        rw [rd_other _ (by omega), rd_same _ l1, wB1, sg_1]
        have e3 : (bt + 1 - rd P.ws 0).toNat = (bt - rd P.ws 0).toNat + 1 := by omega
        rw [e3, sg_snoc]
        have e4 : rd P.ws 0 + ((bt - rd P.ws 0).toNat : Nat) = bt := by omega
        rw [e4, hcv]
  | take nx l tt v =>
    have hop : x.op = 91 := hcb
    have hok1 := hok
    simp only [Ok] at hok
    obtain ⟨_, o2, o3, o4, o5, o6⟩ := hok
    -- a take that ends
    have ends : ∀ (e : Df) (A D : List Nat) (vs vs' vs'' : List Int), 3 ≤ nx → ord = A ++ c :: D → e.g = none → e.pt = none → e.tk = none → exO r [] (lk P.cls A) = some vs → exO r vs [nxC x P.n t e] = some vs' → exO r vs' (lk P.cls D) = some vs'' → sg r e.ws (rd e.ws 0) (wrap64 (rd e.ws 1) - rd e.ws 0).toNat = vs'' → ∃ ord', Lc r (P.count.stepE 0 t P.n e) ord' := by
      intro e A D vs vs' vs'' h3 e1 e2 e3 e4 e5 e6 e7 e8
      have up := nxC_up x P.n t e
      have hpx : x.pt ≠ -1 := by
        obtain ⟨z, g1, g2⟩ := (hlb.mem c).1 (by rw [e1]; simp)
        rw [hx] at g1; cases g1; exact g2
      have lb' := hlb.stay hx up (by rw [nxC_pt, e3]; rfl) (fun _ => hpx)
      have hnd := hlb.nd
      rw [e1] at hnd
      obtain ⟨hA, hD⟩ := nd_mid hnd
      refine ⟨ord, h.stepE ht hk P.n e hc hx hth lb' (fun k9 h9 => by rw [e4] at h9; cases h9) (fun Q u q1 q2 q3 q4 q5 q6 q7 => ?_)⟩
      rw [e4] at q5
      refine ⟨fun t9 nx9 l9 tt9 v9 h1 h2 h3 => ?_, fun hall => ?_⟩
      · rw [q4, g0] at h1; cases h1
        rw [q5] at h2; cases h2
      · refine ⟨by rw [q3, e2], ?_⟩
        rw [q1, q2, e1, lk_mid hl hA hD, exO_then e5, e8]
        show exO r vs ([nxC x P.n t e] ++ lk P.cls D) = _
        rw [exO_then e6]; exact e7
    -- a take that goes on, its point moved to now
    have moves : ∀ (e : Df) (k' : Dt) (nx' : Nat) (tt' v' : Int) (X Y : List Nat), 3 ≤ nx → ord = X ++ c :: Y → e.g = P.g → e.pt = some (P.n : Int) → e.tk = some (.take nx' l tt' v') → 3 ≤ nx' → (nx' = 4 ∨ nx' = 7) → e.tl = some (3, 0) → (∃ m, P.g = some (m, l)) → exO r [] (lk P.cls X) = some [] → exO r [] (lk P.cls Y) = some [] → ∃ ord', Lc r (P.count.stepE 0 t P.n e) ord' := by
      intro e k' nx' tt' v' X Y h3 e1 e2 e3 e4 e5 e6 e7 e8 e9 e10
      have up := nxC_up x P.n t e
      have hlb2 := hlb
      rw [e1] at hlb2
      obtain ⟨lb', hno⟩ := hlb2.move hx up (by rw [nxC_pt, e3]; rfl) (by omega) hfin
      refine ⟨X ++ Y ++ [c], h.stepE ht hk P.n e hc hx hth lb' (fun k9 h9 => by rw [e4] at h9; cases h9; exact ⟨fun y h => h, fun hh => absurd e5 hh⟩) (fun Q u q1 q2 q3 q4 q5 q6 q7 => ?_)⟩
      rw [e4] at q5
      have q7 := q7 (by rw [e4]; rfl)
      rw [e7] at q7
      have hua : u.ak = 3 ∧ u.av = 0 := by
        have q7 : (u.ak, u.av) = ((3 : Int), (0 : Int)) := q7
        exact ⟨congrArg Prod.fst q7, congrArg Prod.snd q7⟩
      refine ⟨fun t9 nx9 l9 tt9 v9 h1 h2 h3 => ?_, fun hall => ?_⟩
      · rw [q4, g0] at h1; cases h1
        rw [q5] at h2; cases h2
        obtain ⟨m, hm⟩ := e8
        refine ⟨m, by rw [q3, e2]; exact hm, .inr (.inl ⟨fun a => by omega, fun _ => hua, X ++ Y, c, [], rfl, by rw [q6]; exact hc, ?_, rfl⟩)⟩
        rw [q1, lk_ne hno, lk_app, exO_then e9]; exact e10
      · exact absurd e5 (hall u _ (by rw [q4]; exact g0 u) q5)
    obtain ⟨g1, g2, g3, g4, g5, g6, g7, g8⟩ := own
    obtain rfl | rfl | h3 : nx = 1 ∨ nx = 2 ∨ 3 ≤ nx := by omega
    · exact same _ _ rfl rfl rfl (fun h : 3 ≤ 1 => by omega) (fun h : 3 ≤ 2 => by omega) (fun y h => h) rfl
    · have hlB := g2 rfl
      have hw := g1 (by omega)
      have nl : ¬ low (.take 2 l tt v) := fun h : 3 ≤ 2 => by omega
      have f := h.fr (fun t9 k9 h1 h2 => by rw [ht] at h1; cases h1; rw [hk] at h2; cases h2; exact nl)
      obtain ⟨f1, f2⟩ := f
      rw [hw, wB] at f2
      have up := nxC_up x P.n t (stp r fr 0 P.n P.ws P.g (.take 2 l tt v))
      obtain ⟨lb', hno⟩ := hlb.now hx up (by rw [nxC_pt]; rfl) (by omega) (hpt nl) hfin
      refine ⟨ord ++ [c], h.stepE ht hk P.n _ hc hx hth lb' (fun k9 h9 => by cases h9; exact ⟨fun y h => h, fun hh => absurd (show 3 ≤ 3 by omega) hh⟩) (fun Q u q1 q2 q3 q4 q5 q6 q7 => ?_)⟩
      have q2 : Q.ws = P.ws.set 1 (nU l) := q2
      have q3 : Q.g = some ((P.n : Int), l) := q3
      have q5 : u.tk = some (.take 3 l tt v) := q5
      have z0 : rd Q.ws 0 = rd P.ws 0 := by rw [q2]; exact rd_other _ (by omega)
      refine ⟨fun t9 nx9 l9 tt9 v9 h1 h2 h3 => ?_, fun hall => ?_⟩
      · rw [q4, g0] at h1; cases h1
        rw [q5] at h2; cases h2
        refine ⟨P.n, q3, ?_⟩
        by_cases hT : rd P.ws 0 = l + 1
        · refine .inr (.inl ⟨fun _ => by rw [z0]; exact hT, fun a => by omega, ord, c, [], rfl, by rw [q6]; exact hc, ?_, rfl⟩)
          rw [q1, lk_ne hno, f2]
          have e0 : (B - rd P.ws 0).toNat = 0 := by omega
          rw [e0]; rfl
        · refine .inl ⟨.inl rfl, by rw [z0]; omega, ord, c, [], sg r P.ws (rd P.ws 0) (l - rd P.ws 0).toNat, rfl, by rw [q6]; exact hc, by rw [q1, atC_set hl, nxC_pt]; rfl, fun a ha => by rw [q1, atC_ne (ne_of hno ha)]; exact hlb.pt ha, ?_, ?_, fun j u9 k9 hj hk9 => ?_⟩
          · rw [q1, lk_ne hno, f2, q2, cv_1]
            have e0 : (B - rd P.ws 0).toNat = (l - rd P.ws 0).toNat + 1 := by omega
            rw [e0, sg_snoc]
            have e4 : rd P.ws 0 + ((l - rd P.ws 0).toNat : Nat) = l := by omega
            rw [e4]
          · rw [z0, q2, sg_1]; rfl
          · rw [q1]
            rw [q4] at hj
            rcases pts_set hj with ⟨rfl, rfl⟩ | ⟨hji, hj⟩
            · rw [q5] at hk9; cases hk9; trivial
            · cases k9 with
              | push => trivial
              | take => trivial
              | steal nx' t' v' =>
                intro a b
                obtain ⟨s1, s2, s3⟩ := hO.stl j u9 _ hj hk9
                have s1 := s1 (by omega)
                refine ⟨?_, fun c' hc' => ?_⟩
                · have e0 : (l - rd P.ws 0).toNat = 0 := by omega
                  rw [e0]; rfl
                · obtain ⟨c2, z, w1, w2, w3, _⟩ := h.lnk j u9 _ hj hk9
                  have e2 : c2 = c' := by omega
                  subst e2
                  rw [atC_ne, atC_of w2]
                  · exact (hlb.tm c2 z w2).2.1
                  · rintro rfl
                    rw [hx] at w2; cases w2
                    omega
      · exact absurd (show 3 ≤ 3 by omega) (hall u _ (by rw [q4]; exact g0 u) q5)
    · obtain ⟨m, hg, hs⟩ := h.lo t nx l tt v ht hk h3
      have hw := g3 h3
      have hl9 := o4 (by omega)
      have wl : wrap64 (rd P.ws 1) = l := by rw [hw]; exact w64_nU _ hl9.1 (by omega)
      -- a take that goes on as it is
      have goes : ∀ (e : Df) (nx' : Nat) (tt' v' : Int), e.ws = P.ws → e.g = P.g → e.pt = none → e.tk = some (.take nx' l tt' v') → (nx' = 5 ∨ nx' = 6) → (Pv r P ord m t nx l ∨ (Pe r P ord t nx l ∧ rd P.ws 0 = l + 1)) → ∃ ord', Lc r (P.count.stepE 0 t P.n e) ord' := by
        intro e nx' tt' v' e1 e2 e3 e4 e5 e6
        have ex : nxC x P.n t e = x := by unfold nxC; rw [e4, e3]; rfl
        refine ⟨ord, h.stepE ht hk P.n e hc hx hth (by rw [ex, set_same hx]; exact hlb.count) (fun k9 h9 => by rw [e4] at h9; cases h9; exact ⟨fun y h => h, fun hh => absurd (show 3 ≤ nx' by omega) hh⟩) (fun Q u q1 q2 q3 q4 q5 q6 q7 => ?_)⟩
        rw [ex, set_same hx] at q1
        rw [e4] at q5
        rw [e1] at q2
        refine ⟨fun t9 nx9 l9 tt9 v9 h1 h2 h3 => ?_, fun hall => ?_⟩
        · rw [q4, g0] at h1; cases h1
          rw [q5] at h2; cases h2
          refine ⟨m, by rw [q3, e2]; exact hg, ?_⟩
          rcases e6 with ⟨a1, a2, A, ct, D, C1, b1, b2, b3, b4, b5, b6, b7⟩ | ⟨⟨a1, a2, X, ct, Y, b1, b2, b3, b4⟩, a3⟩
          · refine .inl ⟨by omega, by rw [q2]; exact a2, A, ct, D, C1, b1, by rw [q6]; exact b2, by rw [q1]; exact b3, by rw [q1]; exact b4, by rw [q1, q2]; exact b5, by rw [q1, q2]; exact b6, fun j u9 k9 hj hk9 => ?_⟩
            rw [q1]
            rw [q4] at hj
            rcases pts_set hj with ⟨rfl, rfl⟩ | ⟨_, hj⟩
            · rw [q5] at hk9; cases hk9; trivial
            · exact b7 j u9 k9 hj hk9
          · exact .inr (.inl ⟨fun _ => by rw [q2]; exact a3, fun a => by omega, X, ct, Y, b1, by rw [q6]; exact b2, by rw [q1]; exact b3, by rw [q1]; exact b4⟩)
        · exact absurd (show 3 ≤ nx' by omega) (hall u _ (by rw [q4]; exact g0 u) q5)
      have hcc : ∀ ct : Nat, t.call = (ct : Int) → ct = c := fun ct e => by omega
      obtain rfl | rfl | rfl | rfl | rfl : nx = 3 ∨ nx = 4 ∨ nx = 5 ∨ nx = 6 ∨ nx = 7 := by omega
      · have hB := g4 rfl
        by_cases hy : l < wrap64 (rd P.ws 0)
        · have e : stp r fr 0 P.n P.ws P.g (.take 3 l tt v) = _ := if_pos hy
          rw [e]
          rw [w0] at hy
          rcases hs with ⟨a1, a2, _⟩ | ⟨a1, a2, X, ct, Y, b1, b2, b3, b4⟩ | ⟨a1, _⟩
          · omega
          · have := hcc ct b2
            subst this
            exact moves _ (.take 4 l (wrap64 (rd P.ws 0)) v) 4 (wrap64 (rd P.ws 0)) v X Y (by omega) b1 rfl rfl rfl (by omega) (.inl rfl) rfl ⟨m, hg⟩ b3 b4
          · omega
        · have e : stp r fr 0 P.n P.ws P.g (.take 3 l tt v) = _ := if_neg hy
          rw [e]
          rw [w0] at hy
          rcases hs with hs | hs | ⟨a1, _⟩
          · exact goes _ 5 (wrap64 (rd P.ws 0)) v rfl rfl rfl rfl (.inl rfl) (.inl hs)
          · exact goes _ 5 (wrap64 (rd P.ws 0)) v rfl rfl rfl rfl (.inl rfl) (.inr ⟨hs, hs.1 (.inl rfl)⟩)
          · omega
      · obtain ⟨c1, c2, c3⟩ := g5 rfl
        rcases hs with ⟨a1, _⟩ | ⟨a1, a2, X, ct, Y, b1, b2, b3, b4⟩ | ⟨a1, _⟩
        · omega
        · have := hcc ct b2
          subst this
          obtain ⟨k1, k2⟩ := a2 (.inl rfl)
          have wt : wrap64 (nU tt) = tt := w64_nU _ (by omega) (by omega)
          refine ends _ X Y [] [] [] h3 b1 rfl rfl rfl b3 (ex_one (at_e r (x := nxC x P.n t _) ?_) (okA_end ?_ ?_)) b4 ?_
          · show x.op ≠ 90; omega
          · show (endA t.ak t.av).1 = 3; rw [k1, k2]; rfl
          · show (endA t.ak t.av).2 = 0; rw [k1, k2]; rfl
          · show sg r (P.ws.set _ _) (rd (P.ws.set _ _) 0) (wrap64 (rd (P.ws.set _ _) 1) - rd (P.ws.set _ _) 0).toNat = _
            rw [rd_other _ (by omega), rd_same _ l1, wt, c2]
            have e0 : (tt - tt).toNat = 0 := by omega
            rw [e0]; rfl
        · omega
      · obtain ⟨c1, c2, c3, c4⟩ := g6 rfl
        by_cases hy : tt < l
        · have e : stp r fr 0 P.n P.ws P.g (.take 5 l tt v) = _ := if_pos hy
          rw [e]
          have hB := c3 hy
          rcases hs with ⟨a1, a2, A, ct, D, C1, b1, b2, b3, b4, b5, b6, b7⟩ | ⟨a1, _⟩ | ⟨a1, _⟩
          · have := hcc ct b2
            subst this
            refine ends _ A D _ _ _ h3 b1 rfl rfl rfl b5 (ex_one (at_t r (x := nxC x P.n t _) ?_ _ _) (okA_end ?_ ?_)) b6 ?_
            · show x.op = 91; exact hop
            · rfl
            · rfl
            show sg r P.ws (rd P.ws 0) (wrap64 (rd P.ws 1) - rd P.ws 0).toNat = _
            rw [wl]
          · have := a1 (.inr (.inl rfl)); omega
          · omega
        · have e : stp r fr 0 P.n P.ws P.g (.take 5 l tt v) = _ := if_neg hy
          rw [e]
          rcases hs with hs | hs | ⟨a1, _⟩
          · exact goes _ 6 tt _ rfl rfl rfl rfl (.inr rfl) (.inl hs)
          · exact goes _ 6 tt _ rfl rfl rfl rfl (.inr rfl) (.inr ⟨hs, hs.1 (.inr (.inl rfl))⟩)
          · omega
      · obtain ⟨c1, c2, c3, c4⟩ := g7 rfl
        by_cases hy : rd P.ws 0 = tt
        · have e : stp r fr 0 P.n P.ws P.g (.take 6 l tt v) = _ := if_pos hy
          rw [e]
          rcases hs with ⟨a1, a2, A, ct, D, C1, b1, b2, b3, b4, b5, b6, b7⟩ | ⟨a1, _⟩ | ⟨a1, _⟩
          · have := hcc ct b2
            subst this
            have ex : nxC x P.n t ⟨P.ws.set 0 (tt + 1), [swA 0 P.n 0 tt (tt + 1) tt], P.g, some (.take 7 l tt v), none, some (2, v)⟩ = x := rfl
            refine ⟨ord, h.stepE ht hk P.n _ hc hx hth (by rw [ex, set_same hx]; exact hlb.count) (fun k9 h9 => by cases h9; exact ⟨fun y h => h, fun hh => absurd (show 3 ≤ 7 by omega) hh⟩) (fun Q u q1 q2 q3 q4 q5 q6 q7 => ?_)⟩
            rw [ex, set_same hx] at q1
            have q5 : u.tk = some (.take 7 l tt v) := q5
            have q7 : (u.ak, u.av) = ((2 : Int), v) := q7 rfl
            refine ⟨fun t9 nx9 l9 tt9 v9 h1 h2 h3 => ?_, fun hall => ?_⟩
            · rw [q4, g0] at h1; cases h1
              rw [q5] at h2; cases h2
              refine ⟨m, by rw [q3]; exact hg, .inr (.inr ⟨rfl, A, ct, D, C1, cv r P.ws l, b1, by rw [q6]; exact b2, by rw [q1]; exact b5, ?_, congrArg Prod.fst q7, ?_⟩)⟩
              · rw [q1, b6]
                have e0 : (l - rd P.ws 0).toNat = 0 := by omega
                rw [e0]; rfl
              · rw [c4 (by omega)]; exact congrArg Prod.snd q7
            · exact absurd (show 3 ≤ 7 by omega) (hall u _ (by rw [q4]; exact g0 u) q5)
          · have := a1 (.inr (.inr rfl)); omega
          · omega
        · have e : stp r fr 0 P.n P.ws P.g (.take 6 l tt v) = _ := if_neg hy
          rw [e]
          rcases hs with ⟨a1, a2, _⟩ | ⟨a1, a2, X, ct, Y, b1, b2, b3, b4⟩ | ⟨a1, _⟩
          · omega
          · have := hcc ct b2
            subst this
            exact moves _ (.take 7 l tt v) 7 tt v X Y (by omega) b1 rfl rfl rfl (by omega) (.inr rfl) rfl ⟨m, hg⟩ b3 b4
          · omega
      · obtain ⟨c1, c2, c3⟩ := g8 rfl
        have wt : wrap64 (nU (tt + 1)) = tt + 1 := w64_nU _ (by omega) (by omega)
        have e9 : sg r (P.ws.set 1 (nU (tt + 1))) (rd (P.ws.set 1 (nU (tt + 1))) 0) (wrap64 (rd (P.ws.set 1 (nU (tt + 1))) 1) - rd (P.ws.set 1 (nU (tt + 1))) 0).toNat = [] := by
          rw [rd_other _ (by omega), rd_same _ l1, wt, c2]
          have e0 : (tt + 1 - (tt + 1)).toNat = 0 := by omega
          rw [e0]; rfl
        rcases hs with ⟨a1, _⟩ | ⟨a1, a2, X, ct, Y, b1, b2, b3, b4⟩ | ⟨a1, A, ct, D, C1, w, b1, b2, b3, b4, k1, k2⟩
        · omega
        · have := hcc ct b2
          subst this
          obtain ⟨k1, k2⟩ := a2 (.inr rfl)
          refine ends _ X Y [] [] [] h3 b1 rfl rfl rfl b3 (ex_one (at_e r (x := nxC x P.n t _) ?_) (okA_end ?_ ?_)) b4 e9
          · show x.op ≠ 90; omega
          · show (endA t.ak t.av).1 = 3; rw [k1, k2]; rfl
          · show (endA t.ak t.av).2 = 0; rw [k1, k2]; rfl
        · have := hcc ct b2
          subst this
          refine ends _ A D _ _ _ h3 b1 rfl rfl rfl b3 (ex_one (at_t r (x := nxC x P.n t _) ?_ _ _) (okA_end ?_ ?_)) b4 e9
          · show x.op = 91; exact hop
          · show (endA t.ak t.av).1 = 2; rw [k1, k2]; rfl
          · show (endA t.ak t.av).2 = w; rw [k1, k2]; rfl
end Go.Proofs.YtedaoljmcfbbpaaGreat.Dm
