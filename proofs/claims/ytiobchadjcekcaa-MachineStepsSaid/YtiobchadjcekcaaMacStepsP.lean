/-
  MachineSteps, without the model.
-/
import Derived.Test.YtiobchadjcekcaaMacMx
namespace Go.Proofs.Ytiobchadjcekcaa.Ma
open Go.RowKit Mr Me
def bz (P : Pm) : List Bool := P.pts.map (fun t => t.tk.busy)
theorem bz_length (P : Pm) : (bz P).length = P.pts.length := by simp [bz]
theorem bz_get {P : Pm} {i : Nat} {t : Pt} (h : P.pts[i]? = some t) : (bz P)[i]? = some t.tk.busy := by simp [bz, h]
theorem bz_count (P : Pm) : bz P.count = bz P := rfl
theorem map_set_busy (pts : List Pt) (i : Nat) (t : Pt) : (pts.set i t).map (fun t => t.tk.busy) = (pts.map (fun t => t.tk.busy)).set i t.tk.busy := by rw [List.map_set]
/-- One of the first j calls of l ends at k. -/
def fins (l : List Cl) (k j : Nat) : Bool := (l.take j).any (fun c => c.fin == (k : Int))
theorem fins_zero (l : List Cl) (k : Nat) : fins l k 0 = false := by simp [fins]
theorem fins_step (l : List Cl) (k j : Nat) (cl : Cl) (h : l[j]? = some cl) : fins l k (j + 1) = (fins l k j || cl.fin == (k : Int)) := any_take h
/-- What the law sees of a move. -/
inductive Sx (Q P P' : Pm) (k nth m1 : Nat) (m : Mv) : Prop
  | out (h : ¬ (0 ≤ m.th ∧ m.th < nth)) (hc : P'.cls.length = P.cls.length) (hl : P'.lg.length = P.lg.length) (hb : bz P' = bz P)
  | rest (tn : Nat) (h0 : m.th = tn) (h1 : tn < nth) (b : Bool) (ht : (bz P)[tn]? = some b) (hd : (m.op = 0 ∧ b = false) ∨ (m.op ≠ 0 ∧ (b = true ∨ ¬ ((m.op = 1 ∨ m.op = 2) ∧ 0 ≤ m.arg ∧ m.arg < m1)))) (hc : P'.cls.length = P.cls.length) (hl : P'.lg.length = P.lg.length) (hb : bz P' = bz P)
  | begins (tn : Nat) (h0 : m.th = tn) (h1 : tn < nth) (ht : (bz P)[tn]? = some false) (hop : m.op = 1 ∨ m.op = 2) (ha0 : 0 ≤ m.arg) (ha1 : m.arg < m1) (cl : Cl) (hcl : Q.cls[P.cls.length]? = some cl) (e0 : cl.beg = k) (e1 : cl.th = tn) (e2 : cl.op = m.op) (e3 : cl.arg = m.arg) (e4 : cl.data = m.data) (hc : P'.cls.length = P.cls.length + 1) (hl : P'.lg.length = P.lg.length) (hb : bz P' = (bz P).set tn true)
  | steps (tn : Nat) (h0 : m.th = tn) (h1 : tn < nth) (ht : (bz P)[tn]? = some true) (hop : m.op = 0) (a : Acc) (ha : Q.lg[P.lg.length]? = some a) (e0 : a.mv = k) (e1 : a.th = tn) (hc : P'.cls.length = P.cls.length) (hl : P'.lg.length = P.lg.length + 1) (hb : bz P' = (bz P).set tn (!fins Q.cls k Q.cls.length))
section
variable (nth : Nat) (ws : List Int) (ms : List Mv) (hms : ms.length ≤ 65536)
include hms in
theorem pk_sx (k : Nat) (hk : k < ms.length) : Sx ((Pm.new nth ws).play ms) (Pk nth ws ms k) (Pk nth ws ms (k + 1)) k nth ws.length (ms[k]?.getD noMv) := by
  have mx := pk_mx nth ws ms hms k hk
  have e := pk_n nth ws ms hms k (by omega)
  have e' := pk_n nth ws ms hms (k + 1) hk
  have ep := pk_pts nth ws ms hms k (by omega)
  have ew := pk_len nth ws ms k
  have hH := pk_hs nth ws ms k
  have hQ : Hs ((Pm.new nth ws).play ms) := (Hs.new nth ws).play ms
  have ex := pk_ext nth ws ms hms (k + 1) hk
  obtain ⟨l, hl, _⟩ := pk_lg nth ws ms hms (k + 1) hk
  generalize (Pm.new nth ws).play ms = Q at *
  generalize Pk nth ws ms k = P at *
  generalize Pk nth ws ms (k + 1) = P' at *
  generalize ms[k]?.getD noMv = m at *
  have lt : ∀ t, 0 ≤ m.th → P.pts[m.th.toNat]? = some t → m.th = (m.th.toNat : Int) ∧ m.th.toNat < nth := fun t h0 ht => ⟨by omega, by rw [← ep]; exact (List.getElem?_eq_some_iff.1 ht).1⟩
  have lgat : ∀ a, P'.lg = P.lg ++ [a] → Q.lg[P.lg.length]? = some a := fun a ha => by rw [hl, ha]; simp
  have key := fin_key (P := P) hQ (by omega) ex
  have old := fin_old hH
  have noFin : P'.cls = P.cls → fins Q.cls k Q.cls.length = false := fun hc => by
    unfold fins
    rw [List.take_length, List.any_eq_false]
    intro x hx
    obtain ⟨j, hj, rfl⟩ := List.getElem_of_mem hx
    intro hf
    have hf' : Q.cls[j].fin = P.n := by rw [e]; simpa using hf
    have := key j Q.cls[j] (List.getElem?_eq_getElem hj) hf'
    rw [hc] at this
    exact old j _ this hf'
  have isFin : ∀ c cl x, P.cls[c]? = some cl → P'.cls = P.cls.set c (ended cl P.n x) → fins Q.cls k Q.cls.length = true := fun c cl x hcl hc => by
    have h1 : P'.cls[c]? = some (ended cl P.n x) := by rw [hc]; exact List.getElem?_set_self (List.getElem?_eq_some_iff.1 hcl).1
    obtain ⟨cl2, h3, h4⟩ := ex.old c _ h1
    have h5 : Q.cls[c]? = some (ended cl P.n x) := by
      rcases h4 with rfl | ⟨hf', _⟩
      · exact h3
      · simp only [ended] at hf'
        omega
    unfold fins
    rw [List.take_length, List.any_eq_true]
    exact ⟨_, List.mem_of_getElem? h5, by simp [ended, e]⟩
  cases mx with
  | out h hb e => subst e; exact .out (by rw [← ep]; exact h) rfl rfl rfl
  | rest t h0 ht hd hb e =>
    subst e
    obtain ⟨h1, h2⟩ := lt t h0 ht
    refine .rest m.th.toNat h1 h2 t.tk.busy (bz_get ht) ?_ rfl rfl rfl
    rw [← ew]
    unfold Does at hd
    by_cases hop : m.op = 0
    · refine .inl ⟨hop, ?_⟩
      cases hbz : t.tk.busy with
      | false => rfl
      | true => exact absurd (.inl ⟨hop, hbz⟩) hd
    · refine .inr ⟨hop, ?_⟩
      cases hbz : t.tk.busy with
      | true => exact .inl rfl
      | false => exact .inr fun hc => hd (.inr ⟨hop, hbz, hc.1, hc.2.1, hc.2.2⟩)
  | begins t h0 ht hi hop ha0 ha1 hb e =>
    obtain ⟨h1, h2⟩ := lt t h0 ht
    have hcl : P'.cls[P.cls.length]? = some ⟨m.th.toNat, m.op, m.arg, m.data, P.n, -1, -1, 0, 0⟩ := by rw [e]; simp
    obtain ⟨cl', h3, h4⟩ := ex.old _ _ hcl
    have eb : bz P' = (bz P).set m.th.toNat true := by
      rw [e]
      unfold bz
      simp only
      rw [map_set_busy]
      congr 1
      simp only
      split <;> rfl
    have ec : P'.cls.length = P.cls.length + 1 := by rw [e]; simp
    have el : P'.lg.length = P.lg.length := by rw [e]; rfl
    refine .begins m.th.toNat h1 h2 (by rw [bz_get ht, hi]) hop ha0 (by rw [← ew]; exact ha1) cl' h3 ?_ ?_ ?_ ?_ ?_ ec el eb <;> rcases h4 with rfl | ⟨_, kk, x, _, rfl⟩ <;> first | rfl | (simp only [ended]; omega) | (simp only; omega)
  | look ad fr c cl h0 ht hop hcl hb e =>
    obtain ⟨h1, h2⟩ := lt _ h0 ht
    refine .steps m.th.toNat h1 h2 (bz_get ht) hop _ (lgat _ (by rw [e])) (by simp only; omega) rfl (by rw [e]; simp) (by rw [e]; simp) ?_
    rw [isFin c cl _ hcl (by rw [e]), e]
    exact map_set_busy _ _ _
  | load ad x fr c cl h0 ht hop hcl hb e =>
    obtain ⟨h1, h2⟩ := lt _ h0 ht
    refine .steps m.th.toNat h1 h2 (bz_get ht) hop _ (lgat _ (by rw [e])) (by simp only; omega) rfl (by rw [e]; simp [Pm.count]) (by rw [e]; simp) ?_
    rw [noFin (by rw [e]; rfl), e]
    exact map_set_busy _ _ _
  | hit ad x fr c cl h0 ht hop hcl hx hb e =>
    obtain ⟨h1, h2⟩ := lt _ h0 ht
    refine .steps m.th.toNat h1 h2 (bz_get ht) hop _ (lgat _ (by rw [e])) (by simp only; omega) rfl (by rw [e]; simp) (by rw [e]; simp) ?_
    rw [isFin c cl _ hcl (by rw [e]), e]
    exact map_set_busy _ _ _
  | miss ad x fr c cl h0 ht hop hcl hx hb e =>
    obtain ⟨h1, h2⟩ := lt _ h0 ht
    refine .steps m.th.toNat h1 h2 (bz_get ht) hop _ (lgat _ (by rw [e])) (by simp only; omega) rfl (by rw [e]; simp [Pm.count]) (by rw [e]; simp) ?_
    rw [noFin (by rw [e]; rfl), e]
    exact map_set_busy _ _ _
end
end Go.Proofs.Ytiobchadjcekcaa.Ma
