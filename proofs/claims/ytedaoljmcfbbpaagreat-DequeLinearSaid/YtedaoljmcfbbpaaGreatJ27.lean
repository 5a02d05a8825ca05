import Derived.Test.YtedaoljmcfbbpaaGreatJ26
/-
  DequeSwaps, pure, the second part: every access is as the law asks; whose call a swap is in.
-/
namespace Go.Proofs.YtedaoljmcfbbpaaGreat.Dm
open Go.RowKit Go.Shelf Mr Me Ma Gm Dq
set_option linter.unusedVariables false
set_option linter.unusedSimpArgs false
def isSt : Dt → Prop
  | .steal .. => True
  | _ => False
/-- What a step's access is, told of the trace ahead of it. -/
structure Ac (i : Nat) (now : Int) (s : Sw) (k : Dt) (a : Acc) : Prop where
  th : a.th = (i : Int)
  mv : a.mv = now
  ld : a.ad = 0 → a.kd = 1 → a.saw = s.top
  sw : a.ad = 0 → a.kd ≠ 1 → a.kd = 3 ∧ a.new = a.old + 1 ∧ 0 ≤ a.old ∧ a.old ≤ 65536 ∧ (a.saw ≠ a.old → s.ld i ≤ s.last) ∧ (a.old = s.down ∨ isSt k)
section
variable {i : Nat} {now : Int} {s : Sw} {k : Dt} {ws : List Int}
theorem ac_load (ad : Nat) (had : ad ≠ 0) : Ac i now s k (ldA i now ad ws) := ⟨rfl, rfl, fun h => absurd h (by show ¬ ((ad : Int) = 0); omega), fun h => absurd h (by show ¬ ((ad : Int) = 0); omega)⟩
theorem ac_load0 (h : s.top = rd ws 0) : Ac i now s k (ldA i now 0 ws) := ⟨rfl, rfl, fun _ _ => h.symm, fun _ h => absurd rfl h⟩
theorem ac_st (ad : Nat) (had : ad ≠ 0) (x : Int) : Ac i now s k (stA i now ad x) := ⟨rfl, rfl, fun h => absurd h (by show ¬ ((ad : Int) = 0); omega), fun h => absurd h (by show ¬ ((ad : Int) = 0); omega)⟩
theorem ac_sw (t saw : Int) (h0 : 0 ≤ t) (h1 : t ≤ 65536) (h2 : saw ≠ t → s.ld i ≤ s.last) (h3 : t = s.down ∨ isSt k) : Ac i now s k (swA i now 0 t (t + 1) saw) := ⟨rfl, rfl, fun _ h => absurd h (by show ¬ ((3 : Int) = 1); omega), fun _ _ => ⟨rfl, rfl, h0, h1, h2, h3⟩⟩
end
set_option maxHeartbeats 1000000 in
theorem ac_step {r : Nat} {P : Pg Dt Lw} (h : Iv r P) (hn : P.n < 65536) (hS : Sa P) {i : Nat} {t : Pt Dt} {k : Dt} (ht : P.pts[i]? = some t) (hk : t.tk = some k) (now : Int) (fr : Bool) : ∀ a, (stp r fr i now P.ws P.g k).la = [a] → Ac i now (swS P.lg) k a := by
  have hok := h.tsk i t k ht hk
  have htk := hS.tsk i t k ht hk
  obtain ⟨hl, r1, r2, ⟨t1, t2⟩, _, _⟩ := h
  obtain ⟨s1, s2, s3, _⟩ := hS
  have cn := cel_ne r
  generalize swS P.lg = s at *
  intro a e
  cases k with
  | push nx v bt =>
    simp only [Ok] at hok
    obtain rfl | rfl | rfl | rfl : nx = 1 ∨ nx = 2 ∨ nx = 3 ∨ nx = 4 := by omega
    · cases e; exact ac_load 1 (by omega)
    · by_cases hy : (r : Int) ≤ bt - wrap64 (rd P.ws 0)
      · have e2 : stp r fr i now P.ws P.g (.push 2 v bt) = _ := if_pos hy
        rw [e2] at e; cases e; exact ac_load0 s1
      · have e2 : stp r fr i now P.ws P.g (.push 2 v bt) = _ := if_neg hy
        rw [e2] at e; cases e; exact ac_load0 s1
    · cases e; exact ac_st _ (cn _).1 _
    · cases e; exact ac_st 1 (by omega) _
  | take nx l tt v =>
    simp only [Ok] at hok
    obtain ⟨q1, q2, q3⟩ := htk
    obtain rfl | rfl | rfl | rfl | rfl | rfl | rfl : nx = 1 ∨ nx = 2 ∨ nx = 3 ∨ nx = 4 ∨ nx = 5 ∨ nx = 6 ∨ nx = 7 := by omega
    · cases e; exact ac_load 1 (by omega)
    · cases e; exact ac_st 1 (by omega) _
    · by_cases hy : l < wrap64 (rd P.ws 0)
      · have e2 : stp r fr i now P.ws P.g (.take 3 l tt v) = _ := if_pos hy
        rw [e2] at e; cases e; exact ac_load0 s1
      · have e2 : stp r fr i now P.ws P.g (.take 3 l tt v) = _ := if_neg hy
        rw [e2] at e; cases e; exact ac_load0 s1
    · cases e; exact ac_st 1 (by omega) _
    · by_cases hy : tt < l
      · have e2 : stp r fr i now P.ws P.g (.take 5 l tt v) = _ := if_pos hy
        rw [e2] at e; cases e; exact ac_load _ (cn _).1
      · have e2 : stp r fr i now P.ws P.g (.take 5 l tt v) = _ := if_neg hy
        rw [e2] at e; cases e; exact ac_load _ (cn _).1
    · have hd : tt = s.down := by
        have e1 := q1 (by omega) (by omega)
        have e3 := q3 rfl
        have b1 := hok.2.2.2.2.1 (by omega)
        rw [s2, e1, ← e3]
        show tt = tt % 18446744073709551616
        omega
      have b1 := hok.2.2.2.2.1 (by omega)
      have q := q2 (.inr rfl)
      by_cases hy : rd P.ws 0 = tt
      · have e2 : stp r fr i now P.ws P.g (.take 6 l tt v) = _ := if_pos hy
        rw [e2] at e; cases e; exact ac_sw _ _ (by omega) (by omega) (fun h => absurd rfl h) (.inl hd)
      · have e2 : stp r fr i now P.ws P.g (.take 6 l tt v) = _ := if_neg hy
        rw [e2] at e; cases e; exact ac_sw _ _ (by omega) (by omega) (fun h => q.resolve_left (fun h9 => hy h9.symm)) (.inl hd)
    · cases e; exact ac_st 1 (by omega) _
  | steal nx tt v =>
    simp only [Ok] at hok
    obtain rfl | rfl | rfl | rfl : nx = 1 ∨ nx = 2 ∨ nx = 3 ∨ nx = 4 := by omega
    · cases e; exact ac_load0 s1
    · by_cases hy : wrap64 (rd P.ws 1) - tt ≤ 0
      · have e2 : stp r fr i now P.ws P.g (.steal 2 tt v) = _ := if_pos hy
        rw [e2] at e; cases e; exact ac_load 1 (by omega)
      · have e2 : stp r fr i now P.ws P.g (.steal 2 tt v) = _ := if_neg hy
        rw [e2] at e; cases e; exact ac_load 1 (by omega)
    · cases e; exact ac_load _ (cn _).1
    · have q := htk (by omega)
      by_cases hy : rd P.ws 0 = tt
      · have e2 : stp r fr i now P.ws P.g (.steal 4 tt v) = _ := if_pos hy
        rw [e2] at e; cases e; exact ac_sw _ _ (by omega) (by omega) (fun h => absurd rfl h) (.inr trivial)
      · have e2 : stp r fr i now P.ws P.g (.steal 4 tt v) = _ := if_neg hy
        rw [e2] at e; cases e; exact ac_sw _ _ (by omega) (by omega) (fun h => q.resolve_left (fun h9 => hy h9.symm)) (.inr trivial)
/-- Points and ends leave a call's thread, operation and beginning alone. -/
theorem setP_get {cls : List Cl} {c c' : Nat} {pt : Option Int} {x' : Cl} (h : (setP cls c pt)[c']? = some x') : ∃ x, cls[c']? = some x ∧ x'.th = x.th ∧ x'.op = x.op ∧ x'.beg = x.beg ∧ x'.fin = x.fin := by
  unfold setP at h
  split at h
  · rename_i m cl hcl
    rw [List.getElem?_set] at h
    split at h
    · rename_i e; subst e
      split at h
      · cases h; exact ⟨cl, hcl, rfl, rfl, rfl, rfl⟩
      · cases h
    · exact ⟨x', h, rfl, rfl, rfl, rfl⟩
  · exact ⟨x', h, rfl, rfl, rfl, rfl⟩
theorem setE_get {cls : List Cl} {c c' : Nat} {now ak av : Int} {x' : Cl} (h : (setE cls c now ak av)[c']? = some x') : ∃ x, cls[c']? = some x ∧ x'.th = x.th ∧ x'.op = x.op ∧ x'.beg = x.beg ∧ ((c' ≠ c ∧ x'.fin = x.fin) ∨ (c' = c ∧ x'.fin = now)) := by
  unfold setE at h
  split at h
  · rename_i cl hcl
    rw [List.getElem?_set] at h
    split at h
    · rename_i e; subst e
      split at h
      · cases h; exact ⟨cl, hcl, rfl, rfl, rfl, .inr ⟨rfl, rfl⟩⟩
      · cases h
    · rename_i e; exact ⟨x', h, rfl, rfl, rfl, .inl ⟨fun e' => e e'.symm, rfl⟩⟩
  · rename_i hc
    refine ⟨x', h, rfl, rfl, rfl, .inl ⟨fun e => ?_, rfl⟩⟩
    subst e; rw [h] at hc; cases hc
/-- The calls behind a step. -/
theorem stepE_cls {τ γ : Type} {P : Pg τ γ} {i : Nat} {t : Pt τ} {now : Int} {e : Ef τ γ} {c' : Nat} {x' : Cl} (h : (P.stepE i t now e).cls[c']? = some x') : ∃ x, P.cls[c']? = some x ∧ x'.th = x.th ∧ x'.op = x.op ∧ x'.beg = x.beg ∧ (x'.fin = x.fin ∨ (c' = t.call.toNat ∧ e.tk = none ∧ x'.fin = now)) ∧ (c' = t.call.toNat → e.tk = none → x'.fin = now) := by
  unfold Pg.stepE at h
  split at h
  · rename_i k hk
    obtain ⟨x, h1, h2, h3, h4, h5⟩ := setP_get h
    exact ⟨x, h1, h2, h3, h4, .inl h5, fun _ e => by rw [hk] at e; cases e⟩
  · rename_i hk
    obtain ⟨y, h1, h2, h3, h4, h5⟩ := setE_get h
    obtain ⟨x, g1, g2, g3, g4, g5⟩ := setP_get h1
    refine ⟨x, g1, h2.trans g2, h3.trans g3, h4.trans g4, ?_, fun e1 e2 => ?_⟩
    · rcases h5 with ⟨_, h5⟩ | ⟨e1, h5⟩
      · exact .inl (h5.trans g5)
      · exact .inr ⟨e1, hk, h5⟩
    · rcases h5 with ⟨e3, _⟩ | ⟨_, h5⟩
      · exact absurd e1 e3
      · exact h5
end Go.Proofs.YtedaoljmcfbbpaaGreat.Dm
/-
  DequeOnce, pure, the first part: what is pushed is what was given, what the owner holds and what lies between top and bottom; a step, told by its effect.
-/
namespace Go.Proofs.YtedaoljmcfbbpaaGreat.Dm
open Go.RowKit Go.Shelf Mr Me Ma Gm Dq
set_option linter.unusedVariables false
set_option linter.unusedSimpArgs false
def Wi (x : Int) : Prop := -9223372036854775808 ≤ x ∧ x ≤ 9223372036854775807
theorem w64_nUw {x : Int} (h : Wi x) : wrap64 (nU x) = x := by
  have e : nU x = x % 18446744073709551616 := rfl
  rw [e]; unfold wrap64; unfold Wi at h; omega
/-- A cell's value; the values from an index on. -/
def cv (r : Nat) (ws : List Int) (k : Int) : Int := wrap64 (rd ws (cel r k))
def sg (r : Nat) (ws : List Int) (t : Int) (n : Nat) : List Int := (List.range n).map (fun j => cv r ws (t + (j : Nat)))
theorem cel_inj {r : Nat} {a b : Int} (h0 : 0 ≤ a) (h1 : a < b) (h2 : b - a < r) : cel r a ≠ cel r b := by
  intro e
  have e' : a.toNat % r = b.toNat % r := by unfold cel at e; omega
  have h3 := Nat.sub_mod_eq_zero_of_mod_eq e'.symm
  rw [Nat.mod_eq_of_lt (by omega)] at h3
  omega
theorem cv_0 (r : Nat) (ws : List Int) (x k : Int) : cv r (ws.set 0 x) k = cv r ws k := by unfold cv; rw [rd_other _ (fun e => (cel_ne r k).1 e.symm)]
theorem cv_1 (r : Nat) (ws : List Int) (x k : Int) : cv r (ws.set 1 x) k = cv r ws k := by unfold cv; rw [rd_other _ (fun e => (cel_ne r k).2 e.symm)]
theorem cv_c {r : Nat} (ws : List Int) (x : Int) {a b : Int} (h0 : 0 ≤ a) (h1 : a < b) (h2 : b - a < r) : cv r (ws.set (cel r b) x) a = cv r ws a := by unfold cv; rw [rd_other _ (fun e => cel_inj h0 h1 h2 e.symm)]
theorem sg_congr {r : Nat} {ws ws' : List Int} {t : Int} {n : Nat} (h : ∀ j : Nat, j < n → cv r ws (t + j) = cv r ws' (t + j)) : sg r ws t n = sg r ws' t n := by
  unfold sg
  exact List.map_congr_left (fun j hj => h j (List.mem_range.1 hj))
theorem sg_snoc (r : Nat) (ws : List Int) (t : Int) (n : Nat) : sg r ws t (n + 1) = sg r ws t n ++ [cv r ws (t + n)] := by simp [sg, List.range_succ]
theorem sg_cons (r : Nat) (ws : List Int) (t : Int) (n : Nat) : sg r ws t (n + 1) = cv r ws t :: sg r ws (t + 1) n := by
  unfold sg
  rw [List.range_succ_eq_map, List.map_cons, List.map_map]
  congr 1
  · simp
  · apply List.map_congr_left
    intro j _
    simp only [Function.comp]
    congr 1
    show t + ((j + 1 : Nat) : Int) = t + 1 + (j : Nat)
    omega
theorem sg_zero (r : Nat) (ws : List Int) (t : Int) : sg r ws t 0 = [] := rfl
/-- What a call gives to the deque, what it gives out. -/
def ci (x : Cl) : List Int := if x.op = 90 ∧ x.ak = 1 then [x.arg] else []
def co (x : Cl) : List Int := if x.op ≠ 90 ∧ x.ak = 2 then [x.av] else []
def inL (cls : List Cl) : List Int := cls.flatMap ci
def outL (cls : List Cl) : List Int := cls.flatMap co
/-- What the owner holds. -/
def hdF (r : Nat) (ws : List Int) : Option Dt → Int → Int → List Int
  | some (.take nx l t _), ak, av => if nx = 5 then (if t < l then [cv r ws l] else []) else if (nx = 4 ∨ nx = 7) ∧ ak = 2 then [av] else []
  | _, _, _ => []
def hdO (r : Nat) (ws : List Int) : Option (Pt Dt) → List Int
  | some t => hdF r ws t.tk t.ak t.av
  | none => []
/-- The owner's view: bottom's word, and what it may rest on. -/
def On (r : Nat) (ws : List Int) (B : Int) : Option Dt → Prop
  | some (.push nx v bt) => rd ws 1 = nU B ∧ (2 ≤ nx → bt = B) ∧ (3 ≤ nx → B - rd ws 0 < r) ∧ (4 ≤ nx → cv r ws B = v)
  | some (.take nx l t v) => (nx ≤ 2 → rd ws 1 = nU B) ∧ (nx = 2 → l = B - 1) ∧ (3 ≤ nx → rd ws 1 = nU l) ∧ (nx = 3 → B = l + 1) ∧ (nx = 4 → B = t ∧ rd ws 0 = t ∧ l + 1 = t) ∧ (nx = 5 → t ≤ rd ws 0 ∧ t ≤ l ∧ (t < l → B = l) ∧ (¬ t < l → B = l + 1)) ∧ (nx = 6 → t = l ∧ t ≤ rd ws 0 ∧ B = l + 1 ∧ (rd ws 0 = l → cv r ws l = v)) ∧ (nx = 7 → B = t + 1 ∧ rd ws 0 = t + 1 ∧ l = t)
  | _ => rd ws 1 = nU B
/-- A thief's. -/
def Sl (r : Nat) (ws : List Int) (B : Int) : Dt → Prop
  | .steal nx t v => (2 ≤ nx → t ≤ rd ws 0) ∧ (3 ≤ nx → t = rd ws 0 → rd ws 0 < B) ∧ (4 ≤ nx → t = rd ws 0 → cv r ws t = v)
  | _ => True
/-- Whose call a task is in. -/
def Cb (x : Cl) : Dt → Prop
  | .push _ v _ => x.op = 90 ∧ x.arg = v
  | .take .. => x.op = 91
  | .steal .. => x.op = 92
structure Oi (r : Nat) (P : Pg Dt Lw) (B : Int) : Prop where
  t0 : 0 ≤ rd P.ws 0
  tb : rd P.ws 0 ≤ B
  room : B - rd P.ws 0 ≤ r
  nn : B ≤ P.n
  own : On r P.ws B (tkF P.pts 0)
  stl : ∀ (i : Nat) (t : Pt Dt) (k : Dt), P.pts[i]? = some t → t.tk = some k → Sl r P.ws B k
  cal : ∀ (i : Nat) (t : Pt Dt) (k : Dt), P.pts[i]? = some t → t.tk = some k → ∃ (c : Nat) (x : Cl), t.call = (c : Int) ∧ P.cls[c]? = some x ∧ x.th = (i : Int) ∧ x.ak = 0 ∧ Cb x k
  wf : ∀ (c : Nat) (x : Cl), P.cls[c]? = some x → Wi x.arg
  opn : ∀ (c : Nat) (x : Cl), P.cls[c]? = some x → 0 ≤ x.fin ∨ ∃ (i : Nat) (t : Pt Dt), P.pts[i]? = some t ∧ t.tk.isSome = true ∧ t.call = (c : Int)
  bal : (inL P.cls).Perm (outL P.cls ++ (hdO r P.ws P.pts[0]? ++ sg r P.ws (rd P.ws 0) (B - rd P.ws 0).toNat))
theorem flat_set {α β : Type} (f : α → List β) : ∀ (l : List α) (c : Nat) (x x' : α), l[c]? = some x → f x = [] → ((l.set c x').flatMap f).Perm (f x' ++ l.flatMap f)
  | [], _, _, _, h, _ => by simp at h
  | a :: l, 0, x, x', h, h0 => by
      simp at h; subst h
      simp [h0]
  | a :: l, c + 1, x, x', h, h0 => by
      have ih := flat_set f l c x x' (by simpa using h) h0
      simp only [List.set_cons_succ, List.flatMap_cons]
      exact ((List.Perm.refl (f a)).append ih).trans (List.perm_append_comm_assoc _ _ _)
theorem ci_zero {x : Cl} (h : x.ak = 0) : ci x = [] := by unfold ci; rw [if_neg (by omega)]
theorem co_zero {x : Cl} (h : x.ak = 0) : co x = [] := by unfold co; rw [if_neg (by omega)]
theorem set_same {α : Type} {l : List α} {c : Nat} {x : α} (h : l[c]? = some x) : l.set c x = l := by
  apply List.ext_getElem?
  intro i
  rw [List.getElem?_set]
  split
  · rename_i e; subst e
    rw [if_pos (List.getElem?_eq_some_iff.1 h).1, h]
  · rfl
theorem setP_set {cls : List Cl} {c : Nat} {x : Cl} (h : cls[c]? = some x) (pt : Option Int) : ∃ x', setP cls c pt = cls.set c x' ∧ x'.th = x.th ∧ x'.op = x.op ∧ x'.arg = x.arg ∧ x'.ak = x.ak := by
  unfold setP
  rw [h]
  cases pt with
  | none => exact ⟨x, (set_same h).symm, rfl, rfl, rfl, rfl⟩
  | some m => exact ⟨_, rfl, rfl, rfl, rfl, rfl⟩
/-- What a step makes of the calls. -/
theorem step_cls {P : Pg Dt Lw} {i : Nat} {t : Pt Dt} {now : Int} {e : Df} {c : Nat} {x : Cl} (hc : t.call = (c : Int)) (hx : P.cls[c]? = some x) : ∃ x', (P.count.stepE i t now e).cls = P.cls.set c x' ∧ x'.th = x.th ∧ x'.op = x.op ∧ x'.arg = x.arg ∧ (e.tk = none → x'.ak = (endA (told t.ak t.av e.tl).1 (told t.ak t.av e.tl).2).1 ∧ x'.av = (endA (told t.ak t.av e.tl).1 (told t.ak t.av e.tl).2).2) ∧ (e.tk ≠ none → x'.ak = x.ak) ∧ (e.tk = none → x'.fin = now) := by
  have hct : t.call.toNat = c := by rw [hc]; exact Int.toNat_natCast c
  have hl := (List.getElem?_eq_some_iff.1 hx).1
  obtain ⟨y, h1, h2, h3, h4, h5⟩ := setP_set hx e.pt
  unfold Pg.stepE
  cases hk : e.tk with
  | some k' =>
    refine ⟨y, ?_, h2, h3, h4, fun h => (by cases h), fun _ => h5, fun h => (by cases h)⟩
    show setP P.cls t.call.toNat e.pt = _
    rw [hct]; exact h1
  | none =>
    refine ⟨{ y with fin := now, ak := (endA (told t.ak t.av e.tl).1 (told t.ak t.av e.tl).2).1, av := (endA (told t.ak t.av e.tl).1 (told t.ak t.av e.tl).2).2 }, ?_, h2, h3, h4, fun _ => ⟨rfl, rfl⟩, fun h => absurd rfl h, fun _ => rfl⟩
    show setE (setP P.cls t.call.toNat e.pt) t.call.toNat now _ _ = _
    rw [hct, h1]
    unfold setE
    rw [List.getElem?_set_self hl]
    simp
theorem Oi.stepE {r : Nat} {P : Pg Dt Lw} {B B' : Int} (h : Oi r P B) {i : Nat} {t : Pt Dt} {k : Dt} (ht : P.pts[i]? = some t) (hk : t.tk = some k) (now : Int) (hnow : 0 ≤ now) (e : Df)
    (E1 : 0 ≤ rd e.ws 0 ∧ rd e.ws 0 ≤ B' ∧ B' - rd e.ws 0 ≤ r ∧ B' ≤ P.n + 1)
    (E2 : On r e.ws B' (if i = 0 then e.tk else tkF P.pts 0))
    (E3 : ∀ k', e.tk = some k' → Sl r e.ws B' k' ∧ ∀ x, Cb x k → Cb x k')
    (E4 : ∀ k', Sl r P.ws B k' → Sl r e.ws B' k')
    (E5 : ∀ x' : Cl, Cb x' k → Wi x'.arg → (e.tk = none → x'.ak = (endA (told t.ak t.av e.tl).1 (told t.ak t.av e.tl).2).1 ∧ x'.av = (endA (told t.ak t.av e.tl).1 (told t.ak t.av e.tl).2).2) → (e.tk ≠ none → x'.ak = 0) →
      (ci x' ++ (hdO r P.ws P.pts[0]? ++ sg r P.ws (rd P.ws 0) (B - rd P.ws 0).toNat)).Perm (co x' ++ ((if i = 0 then hdF r e.ws e.tk (told t.ak t.av e.tl).1 (told t.ak t.av e.tl).2 else hdO r e.ws P.pts[0]?) ++ sg r e.ws (rd e.ws 0) (B' - rd e.ws 0).toNat))) :
    Oi r (P.count.stepE i t now e) B' := by
  have hi : i < P.pts.length := (List.getElem?_eq_some_iff.1 ht).1
  obtain ⟨c, x, hc, hx, hth, hak, hcb⟩ := h.cal i t k ht hk
  obtain ⟨x', hcl, y1, y2, y3, y4, y5, y6⟩ := step_cls (i := i) (now := now) (e := e) hc hx
  have hcb' : Cb x' k := by cases k <;> simp only [Cb] at hcb ⊢ <;> rw [y2] <;> first | exact hcb | exact ⟨hcb.1, y3.trans hcb.2⟩
  have hp := E5 x' hcb' (by rw [y3]; exact h.wf c x hx) y4 (fun hne => (y5 hne).trans hak)
  obtain ⟨Q, hQ⟩ : ∃ Q, P.count.stepE i t now e = Q := ⟨_, rfl⟩
  have q1 : Q.ws = e.ws := by rw [← hQ]; unfold Pg.stepE; split <;> rfl
  have q2 : Q.n = P.n + 1 := by rw [← hQ, stepE_n]; rfl
  have q3 : ∃ u : Pt Dt, u.tk = e.tk ∧ u.call = t.call ∧ Q.pts = P.pts.set i u ∧ hdO r e.ws (some u) = hdF r e.ws e.tk (told t.ak t.av e.tl).1 (told t.ak t.av e.tl).2 := by
    rw [← hQ]; unfold Pg.stepE
    split
    · rename_i k hk; exact ⟨⟨some k, false, t.call, (told t.ak t.av e.tl).1, (told t.ak t.av e.tl).2⟩, hk.symm, rfl, rfl, by rw [hk]; rfl⟩
    · rename_i hk; exact ⟨⟨none, false, t.call, 0, 0⟩, hk.symm, rfl, rfl, by rw [hk]; rfl⟩
  rw [hQ] at hcl ⊢
  obtain ⟨u, hu, hcu, hpt, hhd⟩ := q3
  have hl := (List.getElem?_eq_some_iff.1 hx).1
  refine ⟨by rw [q1]; exact E1.1, by rw [q1]; exact E1.2.1, by rw [q1]; exact E1.2.2.1, by rw [q2]; have := E1.2.2.2; omega, ?_, fun j t' k' hj hk' => ?_, fun j t' k' hj hk' => ?_, fun c' z hz => ?_, fun c' z hz => ?_, ?_⟩
  · rw [q1, hpt, tkF_set _ _ _ hi, hu]
    by_cases h0 : i = 0
    · subst h0; rw [upd_same]; rw [if_pos rfl] at E2; exact E2
    · rw [upd_other _ _ _ _ (fun e => h0 e.symm)]; rw [if_neg h0] at E2; exact E2
  · rw [q1]
    rw [hpt] at hj
    rcases pts_set hj with ⟨rfl, rfl⟩ | ⟨_, hj⟩
    · exact (E3 k' (by rw [← hu]; exact hk')).1
    · exact E4 k' (h.stl j t' k' hj hk')
  · rw [hpt] at hj
    rcases pts_set hj with ⟨rfl, rfl⟩ | ⟨hji, hj⟩
    · have he : e.tk = some k' := by rw [← hu]; exact hk'
      refine ⟨c, x', hcu.trans hc, by rw [hcl]; exact List.getElem?_set_self hl, y1.trans hth, (y5 (by rw [he]; exact fun h => by cases h)).trans hak, (E3 k' he).2 x' hcb'⟩
    · obtain ⟨c', z, w1, w2, w3, w4, w5⟩ := h.cal j t' k' hj hk'
      refine ⟨c', z, w1, ?_, w3, w4, w5⟩
      rw [hcl, List.getElem?_set_ne]
      · exact w2
      · rintro rfl
        rw [hx] at w2; cases w2
        omega
  · rw [hcl] at hz
    rw [List.getElem?_set] at hz
    split at hz
    · cases hz; rw [y3]; exact h.wf c x hx
    · exact h.wf c' z hz
  · rw [hcl] at hz
    rw [List.getElem?_set] at hz
    split at hz
    · rename_i ec
      subst ec
      cases hz
      by_cases he : e.tk = none
      · exact .inl (by rw [y6 he]; exact hnow)
      · refine .inr ⟨i, u, by rw [hpt]; exact List.getElem?_set_self hi, ?_, hcu.trans hc⟩
        rw [hu]
        cases h9 : e.tk with
        | none => exact absurd h9 he
        | some k' => rfl
    · rename_i hne
      rcases h.opn c' z hz with h1 | ⟨j, t', g1, g2, g3⟩
      · exact .inl h1
      · refine .inr ⟨j, t', ?_, g2, g3⟩
        rw [hpt, List.getElem?_set_ne]
        · exact g1
        · rintro rfl
          rw [ht] at g1; cases g1
          omega
  · rw [hcl, q1]
    have f1 := flat_set ci P.cls c x x' hx (ci_zero hak)
    have f2 := flat_set co P.cls c x x' hx (co_zero hak)
    have e0 : hdO r e.ws Q.pts[0]? = (if i = 0 then hdF r e.ws e.tk (told t.ak t.av e.tl).1 (told t.ak t.av e.tl).2 else hdO r e.ws P.pts[0]?) := by
      rw [hpt]
      by_cases h0 : i = 0
      · subst h0; rw [List.getElem?_set_self hi, if_pos rfl, hhd]
      · rw [List.getElem?_set_ne h0, if_neg h0]
    rw [e0]
    have s1 := f1.trans ((List.Perm.refl (ci x')).append h.bal)
    have s2 := s1.trans (List.perm_append_comm_assoc _ _ _)
    have s3 := s2.trans ((List.Perm.refl (outL P.cls)).append hp)
    have s4 := s3.trans (List.perm_append_comm_assoc _ _ _)
    rw [← List.append_assoc] at s4
    exact s4.trans (f2.symm.append (List.Perm.refl _))
end Go.Proofs.YtedaoljmcfbbpaaGreat.Dm
