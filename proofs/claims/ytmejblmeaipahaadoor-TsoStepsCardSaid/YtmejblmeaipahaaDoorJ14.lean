import Derived.Test.YtmejblmeaipahaaDoorJ13
/-
  TSO: the seven rules, in the words of the pure turn.
-/
namespace Go.Proofs.YtmejblmeaipahaaDoor.Ts
open Go.RowKit Mr
set_option linter.unusedVariables false
set_option linter.unusedSimpArgs false
set_option maxRecDepth 100000
/-- What a rule answers and leaves. -/
def RuP (x : Option Th) (s : Sv) (t : Nat) (e : Ending) (P : Sv → Prop) : Prop :=
  (x = none ∧ e = .returned (.bool false) ∧ P s) ∨ (∃ y, x = some y ∧ e = .returned (.bool true) ∧ P (upd s t y))
/-- A thread of a state, part by part. -/
structure Vw (s : Sv) (t : Nat) (r : Rg) (pc : Int) (bf : List Pd) : Prop where
  r : s.rg[t]? = some r
  p : s.pl[t]? = some pc
  b : s.bf[t]? = some bf
theorem Vw.of {l : Lt} {s : Sv} (h : Shp l s) {t : Nat} (ht : t < l.th.length) : Vw s t (vw s t).r (vw s t).pc (vw s t).b := by
  have h1 : t < s.rg.length := by rw [h.r]; exact ht
  have h2 : t < s.pl.length := by rw [h.p]; exact ht
  have h3 : t < s.bf.length := by rw [h.b]; exact ht
  refine ⟨?_, ?_, ?_⟩ <;> simp [vw, List.getD_eq_getElem?_getD, List.getElem?_eq_getElem, h1, h2, h3]
theorem Vw.vw {s : Sv} {t : Nat} {r : Rg} {pc : Int} {bf : List Pd} (h : Vw s t r pc bf) : vw s t = ⟨s.ws, r, pc, bf⟩ := by
  simp [Ts.vw, List.getD_eq_getElem?_getD, h.r, h.p, h.b]
theorem set_same {α : Type} {xs : List α} {k : Nat} {x : α} (h : xs[k]? = some x) : xs.set k x = xs := by
  obtain ⟨hl, rfl⟩ := List.getElem?_eq_some_iff.1 h
  exact List.set_getElem_self hl
section
variable {s : Sv} {t : Nat} {r : Rg} {pc : Int} {bf : List Pd}
theorem Vw.upd_r (h : Vw s t r pc bf) (r' : Rg) : upd s t ⟨s.ws, r', pc, bf⟩ = { s with rg := s.rg.set t r' } := by
  simp only [upd, set_same h.p, set_same h.b]
theorem Vw.upd_w (h : Vw s t r pc bf) (ws : List Int) : upd s t ⟨ws, r, pc, bf⟩ = { s with ws := ws } := by
  simp only [upd, set_same h.p, set_same h.b, set_same h.r]
theorem Vw.upd_b (h : Vw s t r pc bf) (b : List Pd) : upd s t ⟨s.ws, r, pc, b⟩ = { s with bf := s.bf.set t b } := by
  simp only [upd, set_same h.p, set_same h.r]
theorem Vw.upd_p (h : Vw s t r pc bf) (p : Int) : upd s t ⟨s.ws, r, p, bf⟩ = { s with pl := s.pl.set t p } := by
  simp only [upd, set_same h.b, set_same h.r]
theorem Vw.upd_wr (h : Vw s t r pc bf) (ws : List Int) (r' : Rg) : upd s t ⟨ws, r', pc, bf⟩ = { s with ws := ws, rg := s.rg.set t r' } := by
  simp only [upd, set_same h.p, set_same h.b]
theorem Vw.upd_wb (h : Vw s t r pc bf) (ws : List Int) (b : List Pd) : upd s t ⟨ws, r, pc, b⟩ = { s with ws := ws, bf := s.bf.set t b } := by
  simp only [upd, set_same h.p, set_same h.r]
end
/-- What a rule may lean on. -/
structure Pre (s : Sv) (b t : Nat) (o : Int) (i : In) (r : Rg) (pc : Int) (bf : List Pd) (cs : Array Value) (w : World) : Prop where
  A : Ar w b cs
  E : Enc cs s
  t4 : t < 4
  v : Vw s t r pc bf
  bl : bf.length ≤ 10
  w6 : s.ws.length ≤ 6
  pc0 : 0 ≤ pc ∧ pc ≤ 1000
  fit : fitB (s.ws.length : Int) i = true
section
variable {s : Sv} {b t : Nat} {o : Int} {i : In} {r : Rg} {pc : Int} {bf : List Pd} {cs : Array Value} {w : World}
theorem Pre.rg (h : Pre s b t o i r pc bf cs w) (h2 : i.kd ≠ 2) (h4 : i.kd ≠ 4) : 0 ≤ i.rg ∧ i.rg < 4 := by
  have := h.fit
  simp only [fitB, inB, Bool.and_eq_true, Bool.or_eq_true, decide_eq_true_eq, beq_iff_eq] at this
  omega
theorem Pre.ad (h : Pre s b t o i r pc bf cs w) (h3 : i.kd ≤ 3) : 0 ≤ i.ad ∧ i.ad < (s.ws.length : Int) := by
  have := h.fit
  simp only [fitB, inB, Bool.and_eq_true, Bool.or_eq_true, decide_eq_true_eq, beq_iff_eq] at this
  omega
theorem Pre.fr (h : Pre s b t o i r pc bf cs w) (h3 : i.kd = 2) : -1 ≤ i.fr ∧ i.fr < 4 := by
  have := h.fit
  simp [fitB, inB, h3] at this
  omega
theorem Pre.ct (h : Pre s b t o i r pc bf cs w) (h3 : i.kd = 7) : 0 ≤ i.ct ∧ i.ct ≤ 10 := by
  have := h.fit
  simp [fitB, inB, h3] at this
  omega
theorem rule1 (h : Pre s b t o i r pc bf cs w) (hk : i.kd = 1) : Calls Tryd.prog 47 #[ptV b t o, i.val] w fun e w' => RuP (stp o i (vw s t)) s t e (fun s' => (∃ cs', Ar w' b cs' ∧ Enc cs' s') ∧ Fr w w' (fun k => k = b)) := by
  have ha := h.ad (by omega)
  have hl : i.ad.toNat < s.ws.length := by omega
  have h6 := h.w6
  have hv : s.ws[i.ad.toNat]? = some s.ws[i.ad.toNat] := List.getElem?_eq_getElem hl
  refine (loads_any s b t o i r _ bf cs w h.A h.E h.t4 h.v.r h.v.b (by have := h.bl; omega) (h.rg (by omega) (by omega)) ⟨ha.1, by omega⟩ hv).mono ?_
  rintro e w' ⟨h1, h2, h3⟩
  rw [h.v.vw]
  unfold stp
  rw [if_pos hk]
  refine .inr ⟨_, rfl, h1, ?_⟩
  dsimp only
  rw [h.v.upd_r, List.getD_eq_getElem?_getD, hv]
  exact ⟨h2, h3⟩
theorem rule2 (h : Pre s b t o i r pc bf cs w) (hk : i.kd = 2) : Calls Tryd.prog 48 #[ptV b t o, i.val] w fun e w' => RuP (stp o i (vw s t)) s t e (fun s' => (∃ cs', Ar w' b cs' ∧ Enc cs' s') ∧ Fr w w' (fun k => k = b)) := by
  refine (stores_any s b t o i r bf cs w h.A h.E h.t4 h.v.r h.v.b h.bl (h.ad (by omega)) h.w6 (h.fr hk)).mono ?_
  rintro e w' ⟨h1, h2, h3⟩
  rw [h.v.vw]
  unfold stp
  rw [if_neg (by omega), if_pos hk]
  dsimp only
  unfold stoS at h2
  by_cases ho : o = 1
  · rw [if_pos ho] at h2 ⊢
    refine .inr ⟨_, rfl, h1, ?_⟩
    rw [h.v.upd_w]
    exact ⟨h2, h3⟩
  · rw [if_neg ho] at h2 ⊢
    refine .inr ⟨_, rfl, h1, ?_⟩
    rw [h.v.upd_b]
    exact ⟨h2, h3⟩
theorem rule3 (h : Pre s b t o i r pc bf cs w) (hk : i.kd = 3) : Calls Tryd.prog 49 #[ptV b t o, i.val] w fun e w' => RuP (stp o i (vw s t)) s t e (fun s' => (∃ cs', Ar w' b cs' ∧ Enc cs' s') ∧ Fr w w' (fun k => k = b)) := by
  have ha := h.ad (by omega)
  have hr := h.rg (by omega) (by omega)
  have h6 := h.w6
  rw [h.v.vw]
  unfold stp
  rw [if_neg (by omega), if_neg (by omega), if_pos hk]
  obtain ⟨kd, rg, ad, vl, fr, ol, ct⟩ := i
  dsimp only at ha hr hk ⊢
  obtain ⟨rn, rfl⟩ := Int.eq_ofNat_of_zero_le hr.1
  obtain ⟨an, rfl⟩ := Int.eq_ofNat_of_zero_le ha.1
  have hl : an < s.ws.length := by omega
  have hv : s.ws[an]? = some s.ws[an] := List.getElem?_eq_getElem hl
  simp only [Int.toNat_natCast, List.getD_eq_getElem?_getD, hv, Option.getD_some]
  by_cases hb : 0 < bf.length
  · rw [if_pos hb]
    refine (swaps_no s b t rn an o kd vl fr ol ct _ r bf cs w h.A h.E h.t4 h.v.r h.v.b (by omega) hl h6 hv hb).mono ?_
    rintro e w' ⟨h1, h2, h3⟩
    exact .inl ⟨rfl, h1, h2, h3⟩
  · rw [if_neg hb]
    by_cases he : s.ws[an] = ol
    · rw [if_pos he]
      refine (swaps_y s b t rn an o kd vl fr ol ct _ r bf cs w h.A h.E h.t4 h.v.r h.v.b (by omega) hl h6 hv hb he).mono ?_
      rintro e w' ⟨h1, h2, h3⟩
      refine .inr ⟨_, rfl, h1, ?_⟩
      rw [h.v.upd_wr]
      exact ⟨h2, h3⟩
    · rw [if_neg he]
      refine (swaps_n s b t rn an o kd vl fr ol ct _ r bf cs w h.A h.E h.t4 h.v.r h.v.b (by omega) hl h6 hv hb he).mono ?_
      rintro e w' ⟨h1, h2, h3⟩
      refine .inr ⟨_, rfl, h1, ?_⟩
      rw [h.v.upd_r]
      exact ⟨h2, h3⟩
theorem rule4 (h : Pre s b t o i r pc bf cs w) (hk : i.kd = 4) : Calls Tryd.prog 50 #[ptV b t o, i.val] w fun e w' => RuP (stp o i (vw s t)) s t e (fun s' => (∃ cs', Ar w' b cs' ∧ Enc cs' s') ∧ Fr w w' (fun k => k = b)) := by
  refine (fences_any s b t o i bf cs w h.A h.E h.t4 h.v.b).mono ?_
  rintro e w' ⟨h1, h2, h3⟩
  rw [h.v.vw]
  unfold stp
  rw [if_neg (by omega), if_neg (by omega), if_neg (by omega), if_pos hk]
  dsimp only
  by_cases hb : 0 < bf.length
  · rw [if_pos hb]
    rw [decide_eq_true hb] at h1
    exact .inl ⟨rfl, h1, h2, h3⟩
  · rw [if_neg hb]
    rw [decide_eq_false hb] at h1
    refine .inr ⟨_, rfl, h1, ?_⟩
    rw [h.v.upd_w]
    exact ⟨h2, h3⟩
theorem rule5 (h : Pre s b t o i r pc bf cs w) (hk : i.kd = 5) : Calls Tryd.prog 51 #[ptV b t o, i.val] w fun e w' => RuP (stp o i (vw s t)) s t e (fun s' => (∃ cs', Ar w' b cs' ∧ Enc cs' s') ∧ Fr w w' (fun k => k = b)) := by
  refine (sets_any s b t o i r cs w h.A h.E h.t4 h.v.r (h.rg (by omega) (by omega))).mono ?_
  rintro e w' ⟨h1, h2, h3⟩
  rw [h.v.vw]
  unfold stp
  rw [if_neg (by omega), if_neg (by omega), if_neg (by omega), if_neg (by omega), if_pos hk]
  refine .inr ⟨_, rfl, h1, ?_⟩
  rw [h.v.upd_r]
  exact ⟨h2, h3⟩
theorem rule6 (h : Pre s b t o i r pc bf cs w) (hk : i.kd = 6) : Calls Tryd.prog 52 #[ptV b t o, i.val] w fun e w' => RuP (stp o i (vw s t)) s t e (fun s' => (∃ cs', Ar w' b cs' ∧ Enc cs' s') ∧ Fr w w' (fun k => k = b)) := by
  refine (adds_any s b t o i r cs w h.A h.E h.t4 h.v.r (h.rg (by omega) (by omega))).mono ?_
  rintro e w' ⟨h1, h2, h3⟩
  rw [h.v.vw]
  unfold stp
  rw [if_neg (by omega), if_neg (by omega), if_neg (by omega), if_neg (by omega), if_neg (by omega), if_pos hk]
  refine .inr ⟨_, rfl, h1, ?_⟩
  rw [h.v.upd_r]
  exact ⟨h2, h3⟩
theorem rule7 (h : Pre s b t o i r pc bf cs w) (hk : i.kd = 7) : Calls Tryd.prog 53 #[ptV b t o, i.val] w fun e w' => RuP (stp o i (vw s t)) s t e (fun s' => (∃ cs', Ar w' b cs' ∧ Enc cs' s') ∧ Fr w w' (fun k => k = b)) := by
  have hr := h.rg (by omega) (by omega)
  have hc := h.ct hk
  rw [h.v.vw]
  unfold stp
  rw [if_neg (by omega), if_neg (by omega), if_neg (by omega), if_neg (by omega), if_neg (by omega), if_neg (by omega)]
  obtain ⟨kd, rg, ad, vl, fr, ol, ct⟩ := i
  dsimp only at hc hr hk ⊢
  obtain ⟨rn, rfl⟩ := Int.eq_ofNat_of_zero_le hr.1
  obtain ⟨cn, rfl⟩ := Int.eq_ofNat_of_zero_le hc.1
  simp only [Int.toNat_natCast]
  by_cases he : r.get rn = vl
  · rw [if_pos he]
    refine (skips_y s b t rn cn o kd ad vl fr ol pc r cs w h.A h.E h.t4 h.v.r (by omega) h.v.p h.pc0 (by omega) he).mono ?_
    rintro e w' ⟨h1, h2, h3⟩
    refine .inr ⟨_, rfl, h1, ?_⟩
    rw [h.v.upd_p]
    exact ⟨h2, h3⟩
  · rw [if_neg he]
    refine (skips_n s b t rn cn o kd ad vl fr ol pc r cs w h.A h.E h.t4 h.v.r (by omega) h.v.p h.pc0 (by omega) he).mono ?_
    rintro e w' ⟨h1, h2, h3⟩
    refine .inr ⟨_, rfl, h1, ?_⟩
    rw [h.v.upd_w]
    exact ⟨h2, h3⟩
end
end Go.Proofs.YtmejblmeaipahaaDoor.Ts
/-
  TSO: the program's rules and newRunner.
-/
namespace Go.Proofs.YtmejblmeaipahaaDoor.Ts
open Go.RowKit Mr
set_option linter.unusedVariables false
set_option linter.unusedSimpArgs false
set_option maxRecDepth 100000
def fnV (k : Nat) : Value := .func (.func k) #[] #[]
def ruV : Array Value := #[.nilFunc, fnV 47, fnV 48, fnV 49, fnV 50, fnV 51, fnV 52, fnV 53]
def Bl (W : World) (H : Nat) (T : TypeId) (cs : Array Value) : Prop := W.heap[H]? = some (.cells cs T (0, 0))
theorem Bl.st {P : Program} {W : World} {H : Nat} {T : TypeId} {cs : Array Value} (h : Bl W H T cs) (j : Nat) (v : Value) (hj : j < cs.size) (hv : v.oneCell' = true) : (store ⟨H, j, none⟩ v).run P W = .ok () (W.setCell ⟨H, j, none⟩ v) ∧ Bl (W.setCell ⟨H, j, none⟩ v) H T (cs.setIfInBounds j v) := by
  constructor
  · rw [run_store P W _ v _ hv, cell_blk h, Array.getElem?_eq_getElem hj]
    have : W.frozen? ⟨H, j, none⟩ = false := by unfold World.frozen?; rw [h]; rfl
    simp [this]
  · show (W.heap.modify H _)[H]? = _
    rw [Array.getElem?_modify, if_pos rfl, h]
    rfl
theorem upon_eq {P : Program} {o : Oper} {a : Act} {K : Act → World → Prop} {Q : Exit → Act → World → Prop} {R R' : Result Next} (e : R = R') (h : Oper.upon P o a K Q R') : Oper.upon P o a K Q R := e ▸ h
set_option maxHeartbeats 8000000 in
theorem rules_any (w : World) : Calls Tryd.prog 34 #[] w fun e w' => e = .returned (.agg ruV) ∧ Below w.heap.size w w' := by
  have B0 : Below w.heap.size w (w.alloc (.cells #[.nilFunc, .nilFunc, .nilFunc, .nilFunc, .nilFunc, .nilFunc, .nilFunc, .nilFunc] 81)) := (Below.refl _ _).alloc (Nat.le_refl _) _
  have hbx : (w.alloc (.cells #[.nilFunc, .nilFunc, .nilFunc, .nilFunc, .nilFunc, .nilFunc, .nilFunc, .nilFunc] 81)).heap[w.heap.size]? = some (.cells #[.nilFunc, .nilFunc, .nilFunc, .nilFunc, .nilFunc, .nilFunc, .nilFunc, .nilFunc] 81 (0, 0)) := new_at _ _ _ rfl
  go_enter Tryd.func34, Tryd.ntmps34
  go_wp2
  generalize w.alloc (.cells #[.nilFunc, .nilFunc, .nilFunc, .nilFunc, .nilFunc, .nilFunc, .nilFunc, .nilFunc] 81) = w1 at *
  obtain ⟨e0, h0⟩ := Bl.st (P := Tryd.prog) (show Bl w1 w.heap.size 81 _ from hbx) 0 .nilFunc (by decide) rfl
  obtain ⟨e1, h1⟩ := Bl.st (P := Tryd.prog) h0 1 (.func (.func 47) #[] #[]) (by decide) rfl
  obtain ⟨e2, h2⟩ := Bl.st (P := Tryd.prog) h1 2 (.func (.func 48) #[] #[]) (by decide) rfl
  obtain ⟨e3, h3⟩ := Bl.st (P := Tryd.prog) h2 3 (.func (.func 49) #[] #[]) (by decide) rfl
  obtain ⟨e4, h4⟩ := Bl.st (P := Tryd.prog) h3 4 (.func (.func 50) #[] #[]) (by decide) rfl
  obtain ⟨e5, h5⟩ := Bl.st (P := Tryd.prog) h4 5 (.func (.func 51) #[] #[]) (by decide) rfl
  obtain ⟨e6, h6⟩ := Bl.st (P := Tryd.prog) h5 6 (.func (.func 52) #[] #[]) (by decide) rfl
  obtain ⟨e7, h7⟩ := Bl.st (P := Tryd.prog) h6 7 (.func (.func 53) #[] #[]) (by decide) rfl
  have B8 : Below w.heap.size w ((((((((w1.setCell ⟨w.heap.size, 0, none⟩ .nilFunc).setCell ⟨w.heap.size, 1, none⟩ (.func (.func 47) #[] #[])).setCell ⟨w.heap.size, 2, none⟩ (.func (.func 48) #[] #[])).setCell ⟨w.heap.size, 3, none⟩ (.func (.func 49) #[] #[])).setCell ⟨w.heap.size, 4, none⟩ (.func (.func 50) #[] #[])).setCell ⟨w.heap.size, 5, none⟩ (.func (.func 51) #[] #[])).setCell ⟨w.heap.size, 6, none⟩ (.func (.func 52) #[] #[])).setCell ⟨w.heap.size, 7, none⟩ (.func (.func 53) #[] #[])) := (((((((B0.setCell (p := ⟨w.heap.size, 0, none⟩) (Nat.le_refl _) _).setCell (p := ⟨w.heap.size, 1, none⟩) (Nat.le_refl _) _).setCell (p := ⟨w.heap.size, 2, none⟩) (Nat.le_refl _) _).setCell (p := ⟨w.heap.size, 3, none⟩) (Nat.le_refl _) _).setCell (p := ⟨w.heap.size, 4, none⟩) (Nat.le_refl _) _).setCell (p := ⟨w.heap.size, 5, none⟩) (Nat.le_refl _) _).setCell (p := ⟨w.heap.size, 6, none⟩) (Nat.le_refl _) _).setCell (p := ⟨w.heap.size, 7, none⟩) (Nat.le_refl _) _
  have hR : Hid (Bl ((((((((w1.setCell ⟨w.heap.size, 0, none⟩ .nilFunc).setCell ⟨w.heap.size, 1, none⟩ (.func (.func 47) #[] #[])).setCell ⟨w.heap.size, 2, none⟩ (.func (.func 48) #[] #[])).setCell ⟨w.heap.size, 3, none⟩ (.func (.func 49) #[] #[])).setCell ⟨w.heap.size, 4, none⟩ (.func (.func 50) #[] #[])).setCell ⟨w.heap.size, 5, none⟩ (.func (.func 51) #[] #[])).setCell ⟨w.heap.size, 6, none⟩ (.func (.func 52) #[] #[])).setCell ⟨w.heap.size, 7, none⟩ (.func (.func 53) #[] #[])) w.heap.size 81 ruV) := h7
  refine upon_eq (R' := .ok Next.skip ((((((((w1.setCell ⟨w.heap.size, 0, none⟩ .nilFunc).setCell ⟨w.heap.size, 1, none⟩ (.func (.func 47) #[] #[])).setCell ⟨w.heap.size, 2, none⟩ (.func (.func 48) #[] #[])).setCell ⟨w.heap.size, 3, none⟩ (.func (.func 49) #[] #[])).setCell ⟨w.heap.size, 4, none⟩ (.func (.func 50) #[] #[])).setCell ⟨w.heap.size, 5, none⟩ (.func (.func 51) #[] #[])).setCell ⟨w.heap.size, 6, none⟩ (.func (.func 52) #[] #[])).setCell ⟨w.heap.size, 7, none⟩ (.func (.func 53) #[] #[]))) ?_ ?_
  · rw [e0, Result.andThen_ok]; rw [e1, Result.andThen_ok]; rw [e2, Result.andThen_ok]; rw [e3, Result.andThen_ok]; rw [e4, Result.andThen_ok]; rw [e5, Result.andThen_ok]; rw [e6, Result.andThen_ok]; rw [e7]; rfl
  · go_wp2
    clear e0 e1 e2 e3 e4 e5 e6 e7 h0 h1 h2 h3 h4 h5 h6 h7
    generalize ((((((((w1.setCell ⟨w.heap.size, 0, none⟩ .nilFunc).setCell ⟨w.heap.size, 1, none⟩ (.func (.func 47) #[] #[])).setCell ⟨w.heap.size, 2, none⟩ (.func (.func 48) #[] #[])).setCell ⟨w.heap.size, 3, none⟩ (.func (.func 49) #[] #[])).setCell ⟨w.heap.size, 4, none⟩ (.func (.func 50) #[] #[])).setCell ⟨w.heap.size, 5, none⟩ (.func (.func 51) #[] #[])).setCell ⟨w.heap.size, 6, none⟩ (.func (.func 52) #[] #[])).setCell ⟨w.heap.size, 7, none⟩ (.func (.func 53) #[] #[])) = w8 at *
    have k0 := cell_blk hR.out 0
    have k1 := cell_blk hR.out 1
    have k2 := cell_blk hR.out 2
    have k3 := cell_blk hR.out 3
    have k4 := cell_blk hR.out 4
    have k5 := cell_blk hR.out 5
    have k6 := cell_blk hR.out 6
    have k7 := cell_blk hR.out 7
    simp only [ruV, fnV, List.getElem?_toArray, List.getElem?_cons_zero, List.getElem?_cons_succ] at k0 k1 k2 k3 k4 k5 k6 k7
    refine bodyPost_ret (v := .agg ruV) (by simp [results, Tryd.results34, go_sem, *, ruV, fnV]) rfl ⟨rfl, B8⟩
/-- A runner's cells. -/
def rnV (sw st : Value) (o : Int) : Array Value := #[sw, st, .int .i64 o, .nilFunc, fnV 47, fnV 48, fnV 49, fnV 50, fnV 51, fnV 52, fnV 53]
set_option maxHeartbeats 8000000 in
theorem newRunner_any (aw at' : Option Addr) (nw cw nt ct : Nat) (o : Int) (w : World) : Calls Tryd.prog 22 #[.agg #[.slice aw nw cw, .slice at' nt ct], .int .i64 o] w fun e w' => ∃ R, e = .returned (.pointer (some ⟨R, 0, none⟩)) ∧ w'.heap[R]? = some (.cells (rnV (.slice aw nw cw) (.slice at' nt ct) o) 84 (0, 0)) ∧ w.heap.size ≤ R ∧ Below w.heap.size w w' := by
  have B0 : Below w.heap.size w (w.alloc (.cells #[.slice aw nw cw, .slice at' nt ct] 25)) := (Below.refl _ _).alloc (Nat.le_refl _) _
  have hbx : (w.alloc (.cells #[.slice aw nw cw, .slice at' nt ct] 25)).heap[w.heap.size]? = some (.cells #[.slice aw nw cw, .slice at' nt ct] 25 (0, 0)) := new_at _ _ _ rfl
  have RU0 := rules_any
  unfold ruV fnV at RU0
  have RU := Mr.hid RU0
  clear RU0
  have c0 := cell_blk hbx 0
  have c1 := cell_blk hbx 1
  have lx := (Array.getElem?_eq_some_iff.1 hbx).1
  replace B0 := Mr.hid B0
  clear hbx
  go_enter Tryd.func22, Tryd.ntmps22
  go_upto_region 1 with fail
  generalize w.alloc (.cells #[.slice aw nw cw, .slice at' nt ct] 25) = w1 at *
  go_region_held3 (fun W => W.cell? ⟨w.heap.size, 0, none⟩ = some (.slice aw nw cw) ∧ W.cell? ⟨w.heap.size, 1, none⟩ = some (.slice at' nt ct)) (simp [*, go_sem])
    (first | (go_at_call 34; refine (RU.out _).mono ?_; clear RU; rintro e w4 ⟨rfl, B4⟩; have X4 : Hid (Below w1.heap.size w1 w4) := (((Below.refl _ _).drew).trans B4); have q0 := (X4.out.cell (p := ⟨w.heap.size, 0, none⟩) lx).trans c0; have q1 := (X4.out.cell (p := ⟨w.heap.size, 1, none⟩) lx).trans c1; have lx4 := Nat.lt_of_lt_of_le lx X4.out.size; clear B4))
  have BW : Hid (Below w.heap.size w (w4.alloc (.cells (rnV (.slice aw nw cw) (.slice at' nt ct) o) 84))) := (B0.out.trans (X4.out.mono B0.out.size)).alloc (Nat.le_trans B0.out.size X4.out.size) _
  have LW : Hid (w.heap.size ≤ w4.heap.size) := Nat.le_trans B0.out.size X4.out.size
  go_wp2
  go_ret
  exact ⟨w4.heap.size, rfl, new_at w4 _ _ rfl, LW.out, BW.out⟩
end Go.Proofs.YtmejblmeaipahaaDoor.Ts
