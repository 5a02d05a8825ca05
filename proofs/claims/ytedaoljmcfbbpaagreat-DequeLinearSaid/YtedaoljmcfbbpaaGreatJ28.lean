import Derived.Test.YtedaoljmcfbbpaaGreatJ27
import Derived.Test.YtedaoljmcfbbpaaGreatJ26
/-
  DequeOnce, pure, the second part: every step keeps the balance.
-/
namespace Go.Proofs.YtedaoljmcfbbpaaGreat.Dm
open Go.RowKit Go.Shelf Mr Me Ma Gm Dq
set_option linter.unusedVariables false
set_option linter.unusedSimpArgs false
theorem Oi.stay {r : Nat} {P : Pg Dt Lw} {B : Int} (h : Oi r P B) {i : Nat} {t : Pt Dt} {k : Dt} (ht : P.pts[i]? = some t) (hk : t.tk = some k) (now : Int) (hnow : 0 ≤ now) (e : Df) (hw : e.ws = P.ws)
    (E2 : On r P.ws B (if i = 0 then e.tk else tkF P.pts 0))
    (E3 : ∀ k', e.tk = some k' → Sl r P.ws B k' ∧ ∀ x, Cb x k → Cb x k')
    (Hd : (if i = 0 then hdF r P.ws e.tk (told t.ak t.av e.tl).1 (told t.ak t.av e.tl).2 else hdO r P.ws P.pts[0]?) = hdO r P.ws P.pts[0]?)
    (hz : e.tk = none → (endA (told t.ak t.av e.tl).1 (told t.ak t.av e.tl).2).1 ≠ 1 ∧ (endA (told t.ak t.av e.tl).1 (told t.ak t.av e.tl).2).1 ≠ 2) : Oi r (P.count.stepE i t now e) B := by
  refine h.stepE ht hk now hnow e (by rw [hw]; exact ⟨h.t0, h.tb, h.room, by have := h.nn; omega⟩) (by rw [hw]; exact E2) (by rw [hw]; exact E3) (by rw [hw]; exact fun _ h => h) (fun x' h1 h2 h3 h4 => ?_)
  rw [hw, Hd]
  by_cases he : e.tk = none
  · obtain ⟨h5, h6⟩ := h3 he
    obtain ⟨h7, h8⟩ := hz he
    have e1 : ci x' = [] := by unfold ci; rw [if_neg (by rw [h5]; exact fun h => h7 h.2)]
    have e2 : co x' = [] := by unfold co; rw [if_neg (by rw [h5]; exact fun h => h8 h.2)]
    rw [e1, e2]
  · rw [ci_zero (h4 he), co_zero (h4 he)]
theorem on_b {r n : Nat} {ws : List Int} {B : Int} {o : Option Dt} (h : On r ws B o) (h0 : 0 ≤ B) (h1 : B ≤ 65536) (hn : n ≤ 65536) (hok : ∀ k, o = some k → Ok 0 n k) : wrap64 (rd ws 1) ≤ B := by
  have w : ∀ y : Int, rd ws 1 = nU y → -1 ≤ y → y ≤ B → wrap64 (rd ws 1) ≤ B := fun y e h2 h3 => by rw [e, w64_nU y h2 (by omega)]; exact h3
  cases o with
  | none => exact w _ h (by omega) (by omega)
  | some k =>
    have ok := hok k rfl
    cases k with
    | push nx v bt => exact w _ h.1 (by omega) (by omega)
    | steal nx t v => exact w _ h (by omega) (by omega)
    | take nx l t v =>
      simp only [Ok] at ok
      obtain ⟨g1, g2, g3, g4, g5, g6, g7, g8⟩ := h
      obtain ⟨_, o1, o2, o3, _⟩ := ok
      by_cases h2 : nx ≤ 2
      · exact w _ (g1 h2) (by omega) (by omega)
      · have o4 := o3 (by omega)
        refine w _ (g3 (by omega)) o4.1 ?_
        obtain rfl | rfl | rfl | rfl | rfl : nx = 3 ∨ nx = 4 ∨ nx = 5 ∨ nx = 6 ∨ nx = 7 := by omega
        · have := g4 rfl; omega
        · have := g5 rfl; omega
        · obtain ⟨_, _, a, b⟩ := g6 rfl
          by_cases hh : t < l
          · have := a hh; omega
          · have := b hh; omega
        · have := g7 rfl; omega
        · have := g8 rfl; omega
/-- Only the owner's cells count for what it holds. -/
theorem hdO_cv {r : Nat} {ws ws' : List Int} (o : Option (Pt Dt)) (h : ∀ k, cv r ws' k = cv r ws k) : hdO r ws' o = hdO r ws o := by
  cases o with
  | none => rfl
  | some t =>
    show hdF r ws' t.tk t.ak t.av = hdF r ws t.tk t.ak t.av
    cases t.tk with
    | none => rfl
    | some k => cases k <;> simp only [hdF, h]
theorem sg_cv {r : Nat} {ws ws' : List Int} (t : Int) (n : Nat) (h : ∀ k, cv r ws' k = cv r ws k) : sg r ws' t n = sg r ws t n := sg_congr (fun j _ => h _)
theorem on_up {r : Nat} {ws : List Int} {B : Int} {o : Option Dt} (h : On r ws B o) (hl : 0 < ws.length) (hlt : rd ws 0 < B) : On r (ws.set 0 (rd ws 0 + 1)) B o := by
  have z0 : rd (ws.set 0 (rd ws 0 + 1)) 0 = rd ws 0 + 1 := rd_same _ hl
  have z1 : rd (ws.set 0 (rd ws 0 + 1)) 1 = rd ws 1 := rd_other _ (by omega)
  cases o with
  | none => exact z1.trans h
  | some k =>
    cases k with
    | steal => exact z1.trans h
    | push nx v bt =>
      obtain ⟨g1, g2, g3, g4⟩ := h
      show rd (ws.set _ _) 1 = _ ∧ _ ∧ (_ → _ - rd (ws.set _ _) 0 < _) ∧ (_ → cv r (ws.set _ _) _ = _)
      rw [z0, z1, cv_0]
      exact ⟨g1, g2, fun a => by have := g3 a; omega, g4⟩
    | take nx l t v =>
      obtain ⟨g1, g2, g3, g4, g5, g6, g7, g8⟩ := h
      show (_ → rd (ws.set _ _) 1 = _) ∧ _ ∧ (_ → rd (ws.set _ _) 1 = _) ∧ _ ∧ (_ → _ ∧ rd (ws.set _ _) 0 = _ ∧ _) ∧ (_ → t ≤ rd (ws.set _ _) 0 ∧ _) ∧ (_ → _ ∧ t ≤ rd (ws.set _ _) 0 ∧ _ ∧ (rd (ws.set _ _) 0 = l → cv r (ws.set _ _) l = v)) ∧ (_ → _ ∧ rd (ws.set _ _) 0 = _ ∧ _)
      rw [z0, z1, cv_0]
      refine ⟨g1, g2, g3, g4, fun a => ?_, fun a => ?_, fun a => ?_, fun a => ?_⟩
      · have := g5 a; omega
      · obtain ⟨h1, h2, h3, h4⟩ := g6 a
        exact ⟨by omega, h2, h3, h4⟩
      · obtain ⟨h1, h2, h3, h4⟩ := g7 a
        exact ⟨h1, by omega, h3, fun e => by omega⟩
      · have := g8 a; omega
theorem sl_1 {r : Nat} {ws : List Int} {B B' : Int} (x : Int) (hB : B ≤ B') {k : Dt} (h : Sl r ws B k) : Sl r (ws.set 1 x) B' k := by
  have z0 : rd (ws.set 1 x) 0 = rd ws 0 := rd_other _ (by omega)
  cases k with
  | push => trivial
  | take => trivial
  | steal nx' t' v' =>
    obtain ⟨a1, a2, a3⟩ := h
    show (_ → t' ≤ rd (ws.set _ _) 0) ∧ (_ → t' = rd (ws.set _ _) 0 → rd (ws.set _ _) 0 < B') ∧ (_ → t' = rd (ws.set _ _) 0 → cv r (ws.set _ _) t' = v')
    rw [z0, cv_1]
    exact ⟨a1, fun b1 b2 => by have := a2 b1 b2; omega, a3⟩
theorem sl_0 {r : Nat} {ws : List Int} {B : Int} {y : Int} (hl : 0 < ws.length) (hy : rd ws 0 < y) {k : Dt} (h : Sl r ws B k) : Sl r (ws.set 0 y) B k := by
  have z0 : rd (ws.set 0 y) 0 = y := rd_same _ hl
  cases k with
  | push => trivial
  | take => trivial
  | steal nx' t' v' =>
    obtain ⟨a1, a2, a3⟩ := h
    show (_ → t' ≤ rd (ws.set _ _) 0) ∧ (_ → t' = rd (ws.set _ _) 0 → rd (ws.set _ _) 0 < B) ∧ (_ → t' = rd (ws.set _ _) 0 → cv r (ws.set _ _) t' = v')
    rw [z0]
    exact ⟨fun b1 => by have := a1 b1; omega, fun b1 b2 => by have := a1 (by omega); omega, fun b1 b2 => by have := a1 (by omega); omega⟩
/-- A call that ends with what its thread has been told. -/
theorem co_told {x : Cl} {a b : Int} (h0 : x.op ≠ 90) (h1 : x.ak = (endA a b).1) (h2 : x.av = (endA a b).2) : ci x = [] ∧ co x = (if a = 2 then [b] else []) := by
  refine ⟨by unfold ci; rw [if_neg (fun h => h0 h.1)], ?_⟩
  unfold co
  unfold endA at h1 h2
  by_cases h : a = 2
  · subst h
    have h1 : x.ak = 2 := h1
    have h2 : x.av = b := h2
    rw [if_pos ⟨h0, h1⟩, if_pos rfl, h2]
  · rw [if_neg h]
    by_cases h9 : a = 0
    · rw [if_pos h9] at h1; have h1 : x.ak = 1 := h1; rw [if_neg (by omega)]
    · rw [if_neg h9] at h1; have h1 : x.ak = a := h1; rw [if_neg (by omega)]
set_option maxHeartbeats 4000000 in
theorem oi_step {r : Nat} {P : Pg Dt Lw} {B : Int} (hI : Iv r P) (hn : P.n < 65536) (h : Oi r P B) {i : Nat} {t : Pt Dt} {k : Dt} (ht : P.pts[i]? = some t) (hk : t.tk = some k) (now : Int) (hnow : 0 ≤ now) (fr : Bool) : ∃ B', Oi r (P.count.stepE i t now (stp r fr i now P.ws P.g k)) B' := by
  have hok := hI.tsk i t k ht hk
  have hok0 : ∀ k, tkF P.pts 0 = some k → Ok 0 P.n k := fun k0 e => by
    unfold tkF at e
    cases h0 : P.pts[0]? with
    | none => rw [h0] at e; cases e
    | some t0 => rw [h0] at e; exact hI.tsk 0 t0 k0 h0 e
  have sl := h.stl i t k ht hk
  have own := h.own
  obtain ⟨hl, r1, r2, _, _, _⟩ := hI
  have t0 := h.t0
  have tb := h.tb
  have room := h.room
  have nn := h.nn
  have w0 : wrap64 (rd P.ws 0) = rd P.ws 0 := w64_id _ t0 (by omega)
  have wb := on_b own (by omega) (by omega) (Nat.le_of_lt hn) hok0
  have l0 : 0 < P.ws.length := by omega
  have l1 : 1 < P.ws.length := by omega
  have cn := cel_ne r
  have wB : wrap64 (nU B) = B := w64_nU _ (by omega) (by omega)
  -- the owner's own step
  have own0 : i = 0 → tkF P.pts 0 = some k ∧ hdO r P.ws P.pts[0]? = hdF r P.ws (some k) t.ak t.av := fun e => by subst e; exact ⟨by rw [tkF_at ht, hk], by rw [ht]; show hdF r P.ws t.tk _ _ = _; rw [hk]⟩
  cases k with
  | push nx v bt =>
    simp only [Ok] at hok
    obtain ⟨rfl, o2⟩ := hok
    obtain ⟨f1, f2⟩ := own0 rfl
    rw [f1] at own
    have f2 : hdO r P.ws P.pts[0]? = [] := f2
    obtain ⟨g1, g2, g3, g4⟩ := own
    obtain rfl | rfl | rfl | rfl : nx = 1 ∨ nx = 2 ∨ nx = 3 ∨ nx = 4 := by omega
    · refine ⟨B, h.stay ht hk now hnow _ rfl ?_ (fun k' e => ?_) ?_ (fun e => by cases e)⟩
      · rw [if_pos rfl]
        exact ⟨g1, fun _ => by rw [g1]; exact wB, fun a => by omega, fun a => by omega⟩
      · cases e; exact ⟨trivial, fun x h => h⟩
      · rw [if_pos rfl, f2]; rfl
    · have hb := g2 (by omega)
      subst hb
      by_cases hy : (r : Int) ≤ bt - wrap64 (rd P.ws 0)
      · have e : stp r fr 0 now P.ws P.g (.push 2 v bt) = _ := if_pos hy
        rw [e]
        refine ⟨bt, h.stay ht hk now hnow _ rfl ?_ (fun k' e => by cases e) ?_ (fun _ => ?_)⟩
        · rw [if_pos rfl]; exact g1
        · rw [if_pos rfl, f2]; rfl
        · show (4 : Int) ≠ 1 ∧ (4 : Int) ≠ 2; omega
      · have e : stp r fr 0 now P.ws P.g (.push 2 v bt) = _ := if_neg hy
        rw [e]
        refine ⟨bt, h.stay ht hk now hnow _ rfl ?_ (fun k' e => ?_) ?_ (fun e => by cases e)⟩
        · rw [if_pos rfl]
          exact ⟨g1, fun _ => rfl, fun _ => by rw [w0] at hy; omega, fun a => by omega⟩
        · cases e; exact ⟨trivial, fun x h => h⟩
        · rw [if_pos rfl, f2]; rfl
    · have hb := g2 (by omega)
      subst hb
      have hr := g3 (by omega)
      obtain ⟨c, x, _, hx, _, _, hcb⟩ := h.cal 0 t _ ht hk
      have hv : Wi v := by rw [← hcb.2]; exact h.wf c x hx
      have z0 : rd (P.ws.set (cel r bt) (nU v)) 0 = rd P.ws 0 := rd_other _ (cn _).1
      have z1 : rd (P.ws.set (cel r bt) (nU v)) 1 = rd P.ws 1 := rd_other _ (cn _).2
      refine ⟨bt, h.stepE ht hk now hnow _ ?_ ?_ (fun k' e => ?_) (fun k' hs => ?_) (fun x' h1 h2 h3 h4 => ?_)⟩
      · show 0 ≤ rd (P.ws.set _ _) 0 ∧ rd (P.ws.set _ _) 0 ≤ _ ∧ _ - rd (P.ws.set _ _) 0 ≤ _ ∧ _
        rw [z0]; exact ⟨t0, tb, room, by omega⟩
      · rw [if_pos rfl]
        show rd (P.ws.set _ _) 1 = _ ∧ _ ∧ (_ → _ - rd (P.ws.set _ _) 0 < _) ∧ (_ → cv r (P.ws.set _ _) _ = _)
        rw [z0, z1]
        refine ⟨g1, fun _ => rfl, fun _ => hr, fun _ => ?_⟩
        unfold cv
        rw [rd_same _ (by rw [hl]; unfold cel; have := Nat.mod_lt bt.toNat (show 0 < r by omega); omega)]
        exact w64_nUw hv
      · cases e; exact ⟨trivial, fun x h => h⟩
      · cases k' with
        | push => trivial
        | take => trivial
        | steal nx' t' v' =>
          obtain ⟨a1, a2, a3⟩ := hs
          show (_ → t' ≤ rd (P.ws.set _ _) 0) ∧ (_ → t' = rd (P.ws.set _ _) 0 → rd (P.ws.set _ _) 0 < bt) ∧ (_ → t' = rd (P.ws.set _ _) 0 → cv r (P.ws.set _ _) t' = v')
          rw [z0]
          exact ⟨a1, a2, fun b1 b2 => by rw [cv_c _ _ (by omega) (by have := a2 (by omega) b2; omega) (by omega)]; exact a3 b1 b2⟩
      · rw [ci_zero (h4 (fun e => by cases e)), co_zero (h4 (fun e => by cases e)), f2, if_pos rfl]
        show ([] ++ _ : List Int).Perm ([] ++ ([] ++ sg r (P.ws.set _ _) (rd (P.ws.set _ _) 0) (bt - rd (P.ws.set _ _) 0).toNat))
        rw [z0, sg_congr (ws' := P.ws) (fun j hj => cv_c _ _ (by omega) (by omega) (by omega))]
        exact List.Perm.refl _
    · have hb := g2 (by omega)
      subst hb
      have hr := g3 (by omega)
      have hc := g4 (by omega)
      have z0 : rd (P.ws.set 1 (nU (bt + 1))) 0 = rd P.ws 0 := rd_other _ (by omega)
      refine ⟨bt + 1, h.stepE ht hk now hnow _ ?_ ?_ (fun k' e => by cases e) (fun k' hs => ?_) (fun x' h1 h2 h3 h4 => ?_)⟩
      · show 0 ≤ rd (P.ws.set _ _) 0 ∧ rd (P.ws.set _ _) 0 ≤ _ ∧ _ - rd (P.ws.set _ _) 0 ≤ _ ∧ _
        rw [z0]; exact ⟨t0, by omega, by omega, by omega⟩
      · rw [if_pos rfl]; exact rd_same _ l1
      · cases k' with
        | push => trivial
        | take => trivial
        | steal nx' t' v' =>
          obtain ⟨a1, a2, a3⟩ := hs
          show (_ → t' ≤ rd (P.ws.set _ _) 0) ∧ (_ → t' = rd (P.ws.set _ _) 0 → rd (P.ws.set _ _) 0 < bt + 1) ∧ (_ → t' = rd (P.ws.set _ _) 0 → cv r (P.ws.set _ _) t' = v')
          rw [z0, cv_1]
          exact ⟨a1, fun b1 b2 => by have := a2 b1 b2; omega, a3⟩
      · obtain ⟨h5, h6⟩ := h3 rfl
        have h5 : x'.ak = 1 := h5
        have e1 : ci x' = [v] := by unfold ci; rw [if_pos ⟨h1.1, h5⟩, h1.2]
        have e2 : co x' = [] := by unfold co; rw [if_neg (by omega)]
        rw [e1, e2, f2, if_pos rfl]
        show ([v] ++ ([] ++ _) : List Int).Perm ([] ++ ([] ++ sg r (P.ws.set _ _) (rd (P.ws.set _ _) 0) (bt + 1 - rd (P.ws.set _ _) 0).toNat))
        rw [z0, sg_cv _ _ (fun k => cv_1 r P.ws (nU (bt + 1)) k)]
        have e3 : (bt + 1 - rd P.ws 0).toNat = (bt - rd P.ws 0).toNat + 1 := by omega
        rw [e3, sg_snoc]
        have e4 : rd P.ws 0 + ((bt - rd P.ws 0).toNat : Nat) = bt := by omega
        rw [e4, hc]
        simp only [List.nil_append]
        exact List.perm_append_comm
  | take nx l tt v =>
    simp only [Ok] at hok
    obtain ⟨rfl, o2, o3, o4, o5, o6⟩ := hok
    obtain ⟨f1, f2⟩ := own0 rfl
    rw [f1] at own
    obtain ⟨g1, g2, g3, g4, g5, g6, g7, g8⟩ := own
    have op91 : ∀ x' : Cl, Cb x' (.take nx l tt v) → x'.op ≠ 90 := fun x' h => by have h : x'.op = 91 := h; omega
    obtain rfl | rfl | rfl | rfl | rfl | rfl | rfl : nx = 1 ∨ nx = 2 ∨ nx = 3 ∨ nx = 4 ∨ nx = 5 ∨ nx = 6 ∨ nx = 7 := by omega
    · have f2 : hdO r P.ws P.pts[0]? = [] := f2
      refine ⟨B, h.stay ht hk now hnow _ rfl ?_ (fun k' e => ?_) ?_ (fun e => by cases e)⟩
      · rw [if_pos rfl]
        exact ⟨fun _ => g1 (by omega), fun _ => by rw [g1 (by omega), wB], fun a => by omega, fun a => by omega, fun a => by omega, fun a => by omega, fun a => by omega, fun a => by omega⟩
      · cases e; exact ⟨trivial, fun x h => h⟩
      · rw [if_pos rfl, f2]; rfl
    · have f2 : hdO r P.ws P.pts[0]? = [] := f2
      have z0 : rd (P.ws.set 1 (nU l)) 0 = rd P.ws 0 := rd_other _ (by omega)
      have hlB := g2 rfl
      refine ⟨B, h.stepE ht hk now hnow _ ?_ ?_ (fun k' e => ?_) (fun k' hs => sl_1 _ (Int.le_refl _) hs) (fun x' h1 h2 h3 h4 => ?_)⟩
      · show 0 ≤ rd (P.ws.set _ _) 0 ∧ rd (P.ws.set _ _) 0 ≤ _ ∧ _ - rd (P.ws.set _ _) 0 ≤ _ ∧ _
        rw [z0]; exact ⟨t0, tb, room, by omega⟩
      · rw [if_pos rfl]
        exact ⟨fun a => by omega, fun a => by omega, fun _ => rd_same _ l1, fun _ => by omega, fun a => by omega, fun a => by omega, fun a => by omega, fun a => by omega⟩
      · cases e; exact ⟨trivial, fun x h => h⟩
      · rw [ci_zero (h4 (fun e => by cases e)), co_zero (h4 (fun e => by cases e)), f2, if_pos rfl]
        show ([] ++ _ : List Int).Perm ([] ++ ([] ++ sg r (P.ws.set _ _) (rd (P.ws.set _ _) 0) (B - rd (P.ws.set _ _) 0).toNat))
        rw [z0, sg_cv _ _ (fun k => cv_1 r P.ws (nU l) k)]
    · have f2 : hdO r P.ws P.pts[0]? = [] := f2
      have hB := g4 rfl
      have hw := g3 (by omega)
      by_cases hy : l < wrap64 (rd P.ws 0)
      · have e : stp r fr 0 now P.ws P.g (.take 3 l tt v) = _ := if_pos hy
        rw [e, w0]
        rw [w0] at hy
        refine ⟨B, h.stay ht hk now hnow _ rfl ?_ (fun k' e => ?_) ?_ (fun e => by cases e)⟩
        · rw [if_pos rfl]
          exact ⟨fun a => by omega, fun a => by omega, fun _ => hw, fun a => by omega, fun _ => ⟨by omega, rfl, by omega⟩, fun a => by omega, fun a => by omega, fun a => by omega⟩
        · cases e; exact ⟨trivial, fun x h => h⟩
        · rw [if_pos rfl, f2]; rfl
      · have e : stp r fr 0 now P.ws P.g (.take 3 l tt v) = _ := if_neg hy
        rw [e, w0]
        rw [w0] at hy
        by_cases hlt : rd P.ws 0 < l
        · refine ⟨l, h.stepE ht hk now hnow _ ⟨t0, by show rd P.ws 0 ≤ l; omega, by show l - rd P.ws 0 ≤ r; omega, by omega⟩ ?_ (fun k' e => ?_) (fun k' hs => ?_) (fun x' h1 h2 h3 h4 => ?_)⟩
          · rw [if_pos rfl]
            exact ⟨fun a => by omega, fun a => by omega, fun _ => hw, fun a => by omega, fun a => by omega, fun _ => ⟨Int.le_refl _, by omega, fun _ => rfl, fun a => absurd hlt a⟩, fun a => by omega, fun a => by omega⟩
          · cases e; exact ⟨trivial, fun x h => h⟩
          · cases k' with
            | push => trivial
            | take => trivial
            | steal nx' t' v' =>
              obtain ⟨a1, a2, a3⟩ := hs
              exact ⟨a1, fun _ _ => hlt, a3⟩
          · rw [ci_zero (h4 (fun e => by cases e)), co_zero (h4 (fun e => by cases e)), f2, if_pos rfl]
            have e5 : hdF r P.ws (some (.take 5 l (rd P.ws 0) v)) t.ak t.av = [cv r P.ws l] := by simp [hdF, hlt]
            show ([] ++ ([] ++ _) : List Int).Perm ([] ++ (hdF r P.ws (some (.take 5 l (rd P.ws 0) v)) t.ak t.av ++ sg r P.ws (rd P.ws 0) (l - rd P.ws 0).toNat))
            rw [e5]
            have e3 : (B - rd P.ws 0).toNat = (l - rd P.ws 0).toNat + 1 := by omega
            rw [e3, sg_snoc]
            have e4 : rd P.ws 0 + ((l - rd P.ws 0).toNat : Nat) = l := by omega
            rw [e4]
            simp only [List.nil_append]
            exact List.perm_append_comm
        · refine ⟨B, h.stay ht hk now hnow _ rfl ?_ (fun k' e => ?_) ?_ (fun e => by cases e)⟩
          · rw [if_pos rfl]
            exact ⟨fun a => by omega, fun a => by omega, fun _ => hw, fun a => by omega, fun a => by omega, fun _ => ⟨Int.le_refl _, by omega, fun a => absurd a hlt, fun _ => hB⟩, fun a => by omega, fun a => by omega⟩
          · cases e; exact ⟨trivial, fun x h => h⟩
          · rw [if_pos rfl, f2]
            simp [hdF, hlt]
    · obtain ⟨b1, b2, b3⟩ := g5 rfl
      have z0 : rd (P.ws.set 1 (nU tt)) 0 = rd P.ws 0 := rd_other _ (by omega)
      refine ⟨B, h.stepE ht hk now hnow _ ?_ ?_ (fun k' e => by cases e) (fun k' hs => sl_1 _ (Int.le_refl _) hs) (fun x' h1 h2 h3 h4 => ?_)⟩
      · show 0 ≤ rd (P.ws.set _ _) 0 ∧ rd (P.ws.set _ _) 0 ≤ _ ∧ _ - rd (P.ws.set _ _) 0 ≤ _ ∧ _
        rw [z0]; exact ⟨t0, tb, room, by omega⟩
      · rw [if_pos rfl]
        show rd (P.ws.set _ _) 1 = _
        rw [rd_same _ l1, b1]
      · obtain ⟨h5, h6⟩ := h3 rfl
        obtain ⟨e1, e2⟩ := co_told (op91 x' h1) h5 h6
        rw [e1, e2, f2, if_pos rfl]
        have f9 : hdF r P.ws (some (.take 4 l tt v)) t.ak t.av = (if t.ak = 2 then [t.av] else []) := by simp [hdF]
        rw [f9]
        show ([] ++ ((if t.ak = 2 then [t.av] else []) ++ _) : List Int).Perm ((if t.ak = 2 then [t.av] else []) ++ ([] ++ sg r (P.ws.set _ _) (rd (P.ws.set _ _) 0) (B - rd (P.ws.set _ _) 0).toNat))
        rw [z0, sg_cv _ _ (fun k => cv_1 r P.ws (nU tt) k)]
        simp
    · obtain ⟨b1, b2, b3, b4⟩ := g6 rfl
      have hw := g3 (by omega)
      by_cases hy : tt < l
      · have e : stp r fr 0 now P.ws P.g (.take 5 l tt v) = _ := if_pos hy
        rw [e]
        have hB := b3 hy
        refine ⟨B, h.stepE ht hk now hnow _ ⟨t0, tb, room, by omega⟩ ?_ (fun k' e => by cases e) (fun k' hs => hs) (fun x' h1 h2 h3 h4 => ?_)⟩
        · rw [if_pos rfl]
          show rd P.ws 1 = nU B
          rw [hw, hB]
        · obtain ⟨h5, h6⟩ := h3 rfl
          have h5 : x'.ak = 2 := h5
          have h6 : x'.av = cv r P.ws l := h6
          have e1 : ci x' = [] := by unfold ci; rw [if_neg (fun h => op91 x' h1 h.1)]
          have e2 : co x' = [cv r P.ws l] := by unfold co; rw [if_pos ⟨op91 x' h1, h5⟩, h6]
          rw [e1, e2, f2, if_pos rfl]
          have f9 : hdF r P.ws (some (.take 5 l tt v)) t.ak t.av = [cv r P.ws l] := by simp [hdF, hy]
          rw [f9]
          show ([] ++ ([cv r P.ws l] ++ _) : List Int).Perm ([cv r P.ws l] ++ ([] ++ sg r P.ws (rd P.ws 0) (B - rd P.ws 0).toNat))
          exact List.Perm.refl _
      · have e : stp r fr 0 now P.ws P.g (.take 5 l tt v) = _ := if_neg hy
        rw [e]
        have hB := b4 hy
        refine ⟨B, h.stay ht hk now hnow _ rfl ?_ (fun k' e => ?_) ?_ (fun e => by cases e)⟩
        · rw [if_pos rfl]
          exact ⟨fun a => by omega, fun a => by omega, fun _ => hw, fun a => by omega, fun a => by omega, fun a => by omega, fun _ => ⟨by omega, b1, hB, fun _ => rfl⟩, fun a => by omega⟩
        · cases e; exact ⟨trivial, fun x h => h⟩
        · rw [if_pos rfl, f2]
          simp [hdF, hy]
    · obtain ⟨b1, b2, b3, b4⟩ := g7 rfl
      subst b1
      have hw := g3 (by omega)
      have f2 : hdO r P.ws P.pts[0]? = [] := by
        rw [f2]
        simp [hdF]
      by_cases hy : rd P.ws 0 = tt
      · have e : stp r fr 0 now P.ws P.g (.take 6 tt tt v) = _ := if_pos hy
        rw [e]
        have z0 : rd (P.ws.set 0 (tt + 1)) 0 = tt + 1 := rd_same _ l0
        refine ⟨B, h.stepE ht hk now hnow _ ?_ ?_ (fun k' e => ?_) (fun k' hs => sl_0 l0 (by omega) hs) (fun x' h1 h2 h3 h4 => ?_)⟩
        · show 0 ≤ rd (P.ws.set _ _) 0 ∧ rd (P.ws.set _ _) 0 ≤ _ ∧ _ - rd (P.ws.set _ _) 0 ≤ _ ∧ _
          rw [z0]; omega
        · rw [if_pos rfl]
          exact ⟨fun a => by omega, fun a => by omega, fun _ => (rd_other _ (by omega)).trans hw, fun a => by omega, fun a => by omega, fun a => by omega, fun a => by omega, fun _ => ⟨b3, z0, rfl⟩⟩
        · cases e; exact ⟨trivial, fun x h => h⟩
        · rw [ci_zero (h4 (fun e => by cases e)), co_zero (h4 (fun e => by cases e)), f2, if_pos rfl]
          have f9 : hdF r (P.ws.set 0 (tt + 1)) (some (.take 7 tt tt v)) 2 v = [v] := by simp [hdF]
          show ([] ++ ([] ++ _) : List Int).Perm ([] ++ (hdF r (P.ws.set 0 (tt + 1)) (some (.take 7 tt tt v)) 2 v ++ sg r (P.ws.set _ _) (rd (P.ws.set _ _) 0) (B - rd (P.ws.set _ _) 0).toNat))
          rw [f9]
          rw [z0, hy, b3]
          have e3 : (tt + 1 - tt).toNat = 0 + 1 := by omega
          have e4 : (tt + 1 - (tt + 1)).toNat = 0 := by omega
          rw [e3, e4, sg_cons, sg_zero, sg_zero, b4 hy]
          simp
      · have e : stp r fr 0 now P.ws P.g (.take 6 tt tt v) = _ := if_neg hy
        rw [e]
        refine ⟨B, h.stay ht hk now hnow _ rfl ?_ (fun k' e => ?_) ?_ (fun e => by cases e)⟩
        · rw [if_pos rfl]
          exact ⟨fun a => by omega, fun a => by omega, fun _ => hw, fun a => by omega, fun a => by omega, fun a => by omega, fun a => by omega, fun _ => ⟨b3, by omega, rfl⟩⟩
        · cases e; exact ⟨trivial, fun x h => h⟩
        · rw [if_pos rfl, f2]
          simp [hdF, told]
    · obtain ⟨b1, b2, b3⟩ := g8 rfl
      have z0 : rd (P.ws.set 1 (nU (tt + 1))) 0 = rd P.ws 0 := rd_other _ (by omega)
      refine ⟨B, h.stepE ht hk now hnow _ ?_ ?_ (fun k' e => by cases e) (fun k' hs => sl_1 _ (Int.le_refl _) hs) (fun x' h1 h2 h3 h4 => ?_)⟩
      · show 0 ≤ rd (P.ws.set _ _) 0 ∧ rd (P.ws.set _ _) 0 ≤ _ ∧ _ - rd (P.ws.set _ _) 0 ≤ _ ∧ _
        rw [z0]; exact ⟨t0, tb, room, by omega⟩
      · rw [if_pos rfl]
        show rd (P.ws.set _ _) 1 = _
        rw [rd_same _ l1, b1]
      · obtain ⟨h5, h6⟩ := h3 rfl
        obtain ⟨e1, e2⟩ := co_told (op91 x' h1) h5 h6
        rw [e1, e2, f2, if_pos rfl]
        have f9 : hdF r P.ws (some (.take 7 l tt v)) t.ak t.av = (if t.ak = 2 then [t.av] else []) := by simp [hdF]
        rw [f9]
        show ([] ++ ((if t.ak = 2 then [t.av] else []) ++ _) : List Int).Perm ((if t.ak = 2 then [t.av] else []) ++ ([] ++ sg r (P.ws.set _ _) (rd (P.ws.set _ _) 0) (B - rd (P.ws.set _ _) 0).toNat))
        rw [z0, sg_cv _ _ (fun k => cv_1 r P.ws (nU (tt + 1)) k)]
        simp
  | steal nx tt v =>
    have own' : i = 0 → rd P.ws 1 = nU B := fun e => by obtain ⟨f1, _⟩ := own0 e; rw [f1] at own; exact own
    have hd' : i = 0 → hdO r P.ws P.pts[0]? = [] := fun e => (own0 e).2
    have onS : ∀ tk' : Option Dt, (∀ k', tk' = some k' → isSt k') → On r P.ws B (if i = 0 then tk' else tkF P.pts 0) := fun tk' hs => by
      by_cases h0 : i = 0
      · rw [if_pos h0]
        cases tk' with
        | none => exact own' h0
        | some k' => cases k' with
          | steal => exact own' h0
          | push => exact (hs _ rfl).elim
          | take => exact (hs _ rfl).elim
      · rw [if_neg h0]; exact own
    have hdS : ∀ (ws : List Int) (tk' : Option Dt) (a b : Int), (∀ k', tk' = some k' → isSt k') → (∀ k, cv r ws k = cv r P.ws k) → (if i = 0 then hdF r ws tk' a b else hdO r ws P.pts[0]?) = hdO r P.ws P.pts[0]? := fun ws tk' a b hs hc => by
      by_cases h0 : i = 0
      · rw [if_pos h0, hd' h0]
        cases tk' with
        | none => rfl
        | some k' => cases k' with
          | steal => rfl
          | push => exact (hs _ rfl).elim
          | take => exact (hs _ rfl).elim
      · rw [if_neg h0]; exact hdO_cv _ hc
    simp only [Ok] at hok
    obtain ⟨a1, a2, a3⟩ := sl
    obtain rfl | rfl | rfl | rfl : nx = 1 ∨ nx = 2 ∨ nx = 3 ∨ nx = 4 := by omega
    · refine ⟨B, h.stay ht hk now hnow _ rfl (onS _ (fun k' e => by cases e; trivial)) (fun k' e => ?_) (hdS _ _ _ _ (fun k' e => by cases e; trivial) (fun _ => rfl)) (fun e => by cases e)⟩
      cases e
      exact ⟨⟨fun _ => by rw [w0]; exact Int.le_refl _, fun a => by omega, fun a => by omega⟩, fun x h => h⟩
    · by_cases hy : wrap64 (rd P.ws 1) - tt ≤ 0
      · have e : stp r fr i now P.ws P.g (.steal 2 tt v) = _ := if_pos hy
        rw [e]
        refine ⟨B, h.stay ht hk now hnow _ rfl (onS _ (fun k' e => by cases e)) (fun k' e => by cases e) (hdS _ _ _ _ (fun k' e => by cases e) (fun _ => rfl)) (fun _ => ?_)⟩
        show (3 : Int) ≠ 1 ∧ (3 : Int) ≠ 2; omega
      · have e : stp r fr i now P.ws P.g (.steal 2 tt v) = _ := if_neg hy
        rw [e]
        refine ⟨B, h.stay ht hk now hnow _ rfl (onS _ (fun k' e => by cases e; trivial)) (fun k' e => ?_) (hdS _ _ _ _ (fun k' e => by cases e; trivial) (fun _ => rfl)) (fun e => by cases e)⟩
        cases e
        exact ⟨⟨fun _ => a1 (by omega), fun _ _ => by omega, fun a => by omega⟩, fun x h => h⟩
    · refine ⟨B, h.stay ht hk now hnow _ rfl (onS _ (fun k' e => by cases e; trivial)) (fun k' e => ?_) (hdS _ _ _ _ (fun k' e => by cases e; trivial) (fun _ => rfl)) (fun e => by cases e)⟩
      cases e
      exact ⟨⟨fun _ => a1 (by omega), fun _ => a2 (by omega), fun _ _ => rfl⟩, fun x h => h⟩
    · by_cases hy : rd P.ws 0 = tt
      · have e : stp r fr i now P.ws P.g (.steal 4 tt v) = _ := if_pos hy
        rw [e]
        subst hy
        have hlt := a2 (by omega) rfl
        have hv := a3 (by omega) rfl
        have z0 : rd (P.ws.set 0 (rd P.ws 0 + 1)) 0 = rd P.ws 0 + 1 := rd_same _ l0
        refine ⟨B, h.stepE ht hk now hnow _ ?_ ?_ (fun k' e => by cases e) (fun k' hs => sl_0 l0 (by omega) hs) (fun x' h1 h2 h3 h4 => ?_)⟩
        · show 0 ≤ rd (P.ws.set _ _) 0 ∧ rd (P.ws.set _ _) 0 ≤ _ ∧ _ - rd (P.ws.set _ _) 0 ≤ _ ∧ _
          rw [z0]; omega
        · by_cases h0 : i = 0
          · rw [if_pos h0]; exact (rd_other _ (by omega)).trans (own' h0)
          · rw [if_neg h0]; exact on_up own l0 hlt
        · obtain ⟨h5, h6⟩ := h3 rfl
          have h5 : x'.ak = 2 := h5
          have h6 : x'.av = v := h6
          have h1 : x'.op = 92 := h1
          have e1 : ci x' = [] := by unfold ci; rw [if_neg (by omega)]
          have e2 : co x' = [v] := by unfold co; rw [if_pos ⟨by omega, h5⟩, h6]
          rw [e1, e2, hdS (P.ws.set 0 (rd P.ws 0 + 1)) none _ _ (fun k' e => by cases e) (fun k => cv_0 r P.ws _ k)]
          show ([] ++ _ : List Int).Perm ([v] ++ (_ ++ sg r (P.ws.set _ _) (rd (P.ws.set _ _) 0) (B - rd (P.ws.set _ _) 0).toNat))
          rw [z0, sg_cv _ _ (fun k => cv_0 r P.ws _ k)]
          have e3 : (B - rd P.ws 0).toNat = (B - (rd P.ws 0 + 1)).toNat + 1 := by omega
          rw [e3, sg_cons, hv]
          simp only [List.nil_append]
          exact List.perm_middle
      · have e : stp r fr i now P.ws P.g (.steal 4 tt v) = _ := if_neg hy
        rw [e]
        refine ⟨B, h.stay ht hk now hnow _ rfl (onS _ (fun k' e => by cases e; trivial)) (fun k' e => ?_) (hdS _ _ _ _ (fun k' e => by cases e; trivial) (fun _ => rfl)) (fun e => by cases e)⟩
        cases e
        exact ⟨⟨fun a => by omega, fun a => by omega, fun a => by omega⟩, fun x h => h⟩
end Go.Proofs.YtedaoljmcfbbpaaGreat.Dm
/-
  DequeAlone, pure: a call that is alone ends within seven steps.
-/
namespace Go.Proofs.YtedaoljmcfbbpaaGreat.Dm
open Go.RowKit Go.Shelf Mr Me Ma Gm Dq
set_option linter.unusedVariables false
set_option linter.unusedSimpArgs false
/-- Steps left. -/
def mu (top : Int) : Dt → Nat
  | .push nx _ _ => 5 - nx
  | .take nx _ _ _ => if nx = 4 then 1 else if nx ≤ 3 then 7 - nx else 8 - nx
  | .steal nx t _ => if nx = 1 then 4 else if t = top then 5 - nx else 9 - nx
theorem mu_le {top : Int} {i n : Nat} {k : Dt} (h : Ok i n k) : 1 ≤ mu top k ∧ mu top k ≤ 7 := by
  cases k <;> simp only [Ok] at h <;> simp only [mu]
  · omega
  · split
    · omega
    · split <;> omega
  · split
    · omega
    · split <;> omega
theorem mu_step {r : Nat} {P : Pg Dt Lw} (h : Iv r P) (hn : P.n < 65536) {i : Nat} {t : Pt Dt} {k : Dt} (ht : P.pts[i]? = some t) (hk : t.tk = some k) (now : Int) (fr : Bool) : ∀ k', (stp r fr i now P.ws P.g k).tk = some k' → mu (rd (stp r fr i now P.ws P.g k).ws 0) k' < mu (rd P.ws 0) k := by
  have hok := h.tsk i t k ht hk
  obtain ⟨hl, r1, r2, ⟨t1, t2⟩, ⟨b, b1, b2, b3, b4⟩, _⟩ := h
  have w0 : wrap64 (rd P.ws 0) = rd P.ws 0 := w64_id _ t1 (by omega)
  have l0 : 0 < P.ws.length := by omega
  intro k' e
  cases k with
  | push nx v bt =>
    simp only [Ok] at hok
    obtain rfl | rfl | rfl | rfl : nx = 1 ∨ nx = 2 ∨ nx = 3 ∨ nx = 4 := by omega
    · cases e; show 5 - 2 < 5 - 1; omega
    · by_cases hy : (r : Int) ≤ bt - wrap64 (rd P.ws 0)
      · have e2 : stp r fr i now P.ws P.g (.push 2 v bt) = _ := if_pos hy
        rw [e2] at e; cases e
      · have e2 : stp r fr i now P.ws P.g (.push 2 v bt) = _ := if_neg hy
        rw [e2] at e ⊢; cases e; show 5 - 3 < 5 - 2; omega
    · cases e; show 5 - 4 < 5 - 3; omega
    · cases e
  | take nx l tt v =>
    simp only [Ok] at hok
    obtain rfl | rfl | rfl | rfl | rfl | rfl | rfl : nx = 1 ∨ nx = 2 ∨ nx = 3 ∨ nx = 4 ∨ nx = 5 ∨ nx = 6 ∨ nx = 7 := by omega
    · cases e; simp [mu]
    · cases e; simp [mu]
    · by_cases hy : l < wrap64 (rd P.ws 0)
      · have e2 : stp r fr i now P.ws P.g (.take 3 l tt v) = _ := if_pos hy
        rw [e2] at e ⊢; cases e; simp [mu]
      · have e2 : stp r fr i now P.ws P.g (.take 3 l tt v) = _ := if_neg hy
        rw [e2] at e ⊢; cases e; simp [mu]
    · cases e
    · by_cases hy : tt < l
      · have e2 : stp r fr i now P.ws P.g (.take 5 l tt v) = _ := if_pos hy
        rw [e2] at e; cases e
      · have e2 : stp r fr i now P.ws P.g (.take 5 l tt v) = _ := if_neg hy
        rw [e2] at e ⊢; cases e; simp [mu]
    · by_cases hy : rd P.ws 0 = tt
      · have e2 : stp r fr i now P.ws P.g (.take 6 l tt v) = _ := if_pos hy
        rw [e2] at e ⊢; cases e; simp [mu]
      · have e2 : stp r fr i now P.ws P.g (.take 6 l tt v) = _ := if_neg hy
        rw [e2] at e ⊢; cases e; simp [mu]
    · cases e
  | steal nx tt v =>
    simp only [Ok] at hok
    obtain rfl | rfl | rfl | rfl : nx = 1 ∨ nx = 2 ∨ nx = 3 ∨ nx = 4 := by omega
    · cases e
      show mu (rd P.ws 0) (.steal 2 (wrap64 (rd P.ws 0)) v) < _
      rw [w0]; simp [mu]
    · by_cases hy : wrap64 (rd P.ws 1) - tt ≤ 0
      · have e2 : stp r fr i now P.ws P.g (.steal 2 tt v) = _ := if_pos hy
        rw [e2] at e; cases e
      · have e2 : stp r fr i now P.ws P.g (.steal 2 tt v) = _ := if_neg hy
        rw [e2] at e ⊢; cases e
        show mu (rd P.ws 0) (.steal 3 tt v) < mu (rd P.ws 0) (.steal 2 tt v)
        simp only [mu]
        by_cases hz : tt = rd P.ws 0 <;> simp [hz]
    · cases e
      show mu (rd P.ws 0) (.steal 4 tt _) < mu (rd P.ws 0) (.steal 3 tt v)
      simp only [mu]
      by_cases hz : tt = rd P.ws 0 <;> simp [hz]
    · by_cases hy : rd P.ws 0 = tt
      · have e2 : stp r fr i now P.ws P.g (.steal 4 tt v) = _ := if_pos hy
        rw [e2] at e; cases e
      · have e2 : stp r fr i now P.ws P.g (.steal 4 tt v) = _ := if_neg hy
        rw [e2] at e ⊢; cases e
        show mu (rd P.ws 0) (.steal 1 tt v) < mu (rd P.ws 0) (.steal 4 tt v)
        have hz : ¬ tt = rd P.ws 0 := fun e => hy e.symm
        simp [mu, hz]
/-- Steps left to a thread. -/
def lf (P : Pg Dt Lw) (i : Nat) : Nat := match tkF P.pts i with | some k => mu (rd P.ws 0) k | none => 0
theorem lf_le {r : Nat} {P : Pg Dt Lw} (h : Iv r P) (i : Nat) : lf P i ≤ 7 := by
  unfold lf tkF
  cases ht : P.pts[i]? with
  | none => exact Nat.zero_le _
  | some t =>
    cases hk : t.tk with
    | none => simp [hk]
    | some k => simp only [Option.bind_some, hk]; exact (mu_le (h.tsk i t k ht hk)).2
/-- A step of a thread that is alone. -/
theorem lf_step {r : Nat} {P : Pg Dt Lw} (h : Iv r P) (hn : P.n < 65536) {i : Nat} (hi : i < P.pts.length) (arg data : Int) : lf (P.move (dqY r) (i : Int) 0 arg data).1 i ≤ lf P i - 1 := by
  obtain ⟨t, ht⟩ : ∃ t, P.pts[i]? = some t := ⟨_, List.getElem?_eq_getElem hi⟩
  have em : P.move (dqY r) (i : Int) 0 arg data = P.count.step (dqY r) i t P.n := by
    unfold Pg.move
    rw [if_neg (by omega), if_pos ⟨by omega, by omega⟩, Int.toNat_natCast, ht]
    rfl
  rw [em]
  cases hk : t.tk with
  | none =>
    have e : P.count.step (dqY r) i t P.n = (P.count, false) := by simp [Pg.step, hk]
    have e0 : lf P i = 0 := by unfold lf; rw [tkF_at ht, hk]
    have e1 : lf P.count i = lf P i := rfl
    rw [e]; show lf P.count i ≤ _; omega
  | some k =>
    have e : P.count.step (dqY r) i t P.n = (P.count.stepE i t P.n (stp r t.fr i P.n P.ws P.g k), true) := by simp [Pg.step, hk, Pg.count, dqY]
    have e0 : lf P i = mu (rd P.ws 0) k := by unfold lf; rw [tkF_at ht, hk]
    have ms := mu_step h hn ht hk P.n t.fr
    rw [e]
    generalize stp r t.fr i P.n P.ws P.g k = ef at *
    show lf (P.count.stepE i t P.n ef) i ≤ _
    rw [e0]
    have hs : ∀ u : Pt Dt, tkF (P.pts.set i u) i = u.tk := fun u => by rw [tkF_set _ _ _ hi, upd_same]
    unfold Pg.stepE
    cases he : ef.tk with
    | some k' =>
      have := ms k' he
      unfold lf
      show (match tkF (P.pts.set i _) i with | some k => mu (rd ef.ws 0) k | none => 0) ≤ _
      rw [hs]
      show mu (rd ef.ws 0) k' ≤ _
      omega
    | none =>
      unfold lf
      show (match tkF (P.pts.set i _) i with | some k => mu (rd ef.ws 0) k | none => 0) ≤ _
      rw [hs]
      exact Nat.zero_le _
/-- n steps. -/
def stN (r : Nat) (P : Pg Dt Lw) (i : Nat) : Nat → Pg Dt Lw
  | 0 => P
  | n + 1 => ((stN r P i n).move (dqY r) (i : Int) 0 0 0).1
theorem stN_succ (r : Nat) (P : Pg Dt Lw) (i n : Nat) : stN r P i (n + 1) = ((stN r P i n).move (dqY r) (i : Int) 0 0 0).1 := rfl
theorem stN_all {r : Nat} {P : Pg Dt Lw} (h : Iv r P) (hb : Bd P) {i : Nat} (hi : i < P.pts.length) (n : Nat) (hn : P.n + n ≤ 65536) : Iv r (stN r P i n) ∧ Bd (stN r P i n) ∧ (stN r P i n).pts.length = P.pts.length ∧ (stN r P i n).n ≤ P.n + n ∧ lf (stN r P i n) i ≤ lf P i - n := by
  induction n with
  | zero => exact ⟨h, hb, rfl, Nat.le_refl _, Nat.le_refl _⟩
  | succ n ih =>
    obtain ⟨h1, h2, h3, h4, h5⟩ := ih (by omega)
    rw [stN_succ]
    generalize stN r P i n = Q at *
    have e1 := mv_n (r := r) Q (i : Int) 0 0 0
    have e2 := lf_step h1 (by omega) (i := i) (by omega) 0 0
    exact ⟨h1.move _ _ _ _, mv_bd h2 _ _ _ _, (move_pts _ _ _ _ _).trans h3, by omega, by omega⟩
/-- After seven the thread is in no call. -/
theorem st7 {r : Nat} {P : Pg Dt Lw} (h : Iv r P) (hb : Bd P) {i : Nat} (hi : i < P.pts.length) (hn : P.n + 7 ≤ 65536) : tkF (stN r P i 7).pts i = none := by
  obtain ⟨h1, h2, h3, h4, h5⟩ := stN_all h hb hi 7 hn
  have h6 := lf_le h i
  generalize stN r P i 7 = Q at *
  have h7 : lf Q i = 0 := by omega
  obtain ⟨t, ht⟩ : ∃ t, Q.pts[i]? = some t := ⟨_, List.getElem?_eq_getElem (by omega)⟩
  rw [tkF_at ht]
  cases hk : t.tk with
  | none => rfl
  | some k =>
    have e0 : lf Q i = mu (rd Q.ws 0) k := by unfold lf; rw [tkF_at ht, hk]
    have := (mu_le (top := rd Q.ws 0) (h1.tsk i t k ht hk)).1
    omega
end Go.Proofs.YtedaoljmcfbbpaaGreat.Dm
