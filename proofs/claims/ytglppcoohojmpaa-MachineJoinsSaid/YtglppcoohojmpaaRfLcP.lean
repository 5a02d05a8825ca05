import Derived.Test.YtglppcoohojmpaaJ15
/-
  Each thread's last call, without the model.
-/
namespace Go.Proofs.Ytglppcoohojmpaa.Rf
open Go.RowKit Mr Me Ma
def NoneAt (cls : List Cl) (x : Int) : Prop := ∀ (c : Nat) (cl : Cl), cls[c]? = some cl → cl.th ≠ x
def LastAt (cls : List Cl) (x : Int) (c : Nat) (cl : Cl) : Prop := cls[c]? = some cl ∧ cl.th = x ∧ ∀ (k : Nat) (cl' : Cl), c < k → cls[k]? = some cl' → cl'.th ≠ x
def Lt (cls : List Cl) (i : Nat) (t : Pt) : Prop :=
  (t.call = -1 ∧ t.tk.busy = false ∧ NoneAt cls i) ∨ ∃ (c : Nat) (cl : Cl), t.call = c ∧ LastAt cls i c cl ∧ t.tk.busy = decide (cl.fin < 0) ∧ 0 ≤ cl.beg
structure Lc (P : Pm) : Prop where
  rng : ∀ (c : Nat) (cl : Cl), P.cls[c]? = some cl → ∃ i : Nat, cl.th = (i : Int) ∧ i < P.pts.length
  th : ∀ (i : Nat) (t : Pt), P.pts[i]? = some t → Lt P.cls i t
theorem Lc.new (nth : Nat) (ws : List Int) : Lc (Pm.new nth ws) := by
  refine ⟨fun c cl h => ?_, fun i t h => ?_⟩
  · simp [Pm.new] at h
  · have := List.mem_of_getElem? h
    simp only [Pm.new] at this
    obtain ⟨_, rfl⟩ := List.mem_replicate.1 this
    exact .inl ⟨rfl, rfl, fun c cl h => by simp [Pm.new] at h⟩
theorem Lc.count {P : Pm} (h : Lc P) : Lc P.count := ⟨h.rng, h.th⟩
theorem get_set {l : List Pt} {i j : Nat} {a b : Pt} (h : (l.set i a)[j]? = some b) : (j = i ∧ b = a) ∨ (j ≠ i ∧ l[j]? = some b) := by
  rw [List.getElem?_set] at h
  split at h
  · rename_i e
    split at h
    · exact .inl ⟨e.symm, (Option.some.inj h).symm⟩
    · cases h
  · rename_i e
    exact .inr ⟨fun x => e x.symm, h⟩
theorem Lc.keep {P P' : Pm} (h : Lc P) (i : Nat) (t t' : Pt) (ht : P.pts[i]? = some t) (hc : t'.call = t.call) (hb : t'.tk.busy = t.tk.busy) (h1 : P'.cls = P.cls) (h2 : P'.pts = P.pts.set i t') : Lc P' := by
  refine ⟨fun c cl hcl => ?_, fun j u hj => ?_⟩
  · rw [h1] at hcl; rw [h2, List.length_set]; exact h.rng c cl hcl
  · rw [h2] at hj
    rw [h1]
    rcases get_set hj with ⟨rfl, rfl⟩ | ⟨_, hj'⟩
    · have := h.th _ t ht
      unfold Lt at this ⊢
      rw [hc, hb]
      exact this
    · exact h.th j u hj'
theorem setC_get {cls : List Cl} {c k : Nat} {now x : Int} {cl' : Cl} (h : (setC cls c now x)[k]? = some cl') : ∃ cl, cls[k]? = some cl ∧ cl'.th = cl.th ∧ cl'.beg = cl.beg ∧ (k ≠ c → cl' = cl) ∧ (k = c → cl'.fin = now) := by
  unfold setC at h
  split at h
  · rename_i cl hcl
    rw [List.getElem?_set] at h
    split at h
    · rename_i e
      subst e
      split at h
      · obtain rfl := Option.some.inj h
        exact ⟨cl, hcl, rfl, rfl, fun e => absurd rfl e, fun _ => rfl⟩
      · cases h
    · rename_i e
      exact ⟨cl', h, rfl, rfl, fun _ => rfl, fun e' => absurd e'.symm e⟩
  · rename_i hcl
    exact ⟨cl', h, rfl, rfl, fun _ => rfl, fun e' => by rw [e', hcl] at h; cases h⟩
theorem setC_there {cls : List Cl} {k : Nat} {cl : Cl} (c : Nat) (now x : Int) (h : cls[k]? = some cl) : ∃ cl', (setC cls c now x)[k]? = some cl' := by
  have : k < (setC cls c now x).length := by rw [setC_length]; exact (List.getElem?_eq_some_iff.1 h).1
  exact ⟨_, List.getElem?_eq_getElem this⟩
theorem Lc.fin {P P' : Pm} (h : Lc P) (i : Nat) (t t' : Pt) (ht : P.pts[i]? = some t) (hb : t.tk.busy = true) (now x : Int) (hn : 0 ≤ now) (hc : t'.call = t.call) (hb' : t'.tk.busy = false) (h1 : P'.cls = setC P.cls t.call.toNat now x) (h2 : P'.pts = P.pts.set i t') : Lc P' := by
  have hnone : ∀ y, NoneAt P.cls y → NoneAt (setC P.cls t.call.toNat now x) y := fun y hy c cl hcl => by
    obtain ⟨cl0, e1, e2, _⟩ := setC_get hcl
    rw [e2]; exact hy c cl0 e1
  refine ⟨fun c cl hcl => ?_, fun j u hj => ?_⟩
  · rw [h1] at hcl
    obtain ⟨cl0, e1, e2, _⟩ := setC_get hcl
    rw [h2, List.length_set, e2]; exact h.rng c cl0 e1
  · rw [h2] at hj
    rw [h1]
    rcases get_set hj with ⟨rfl, rfl⟩ | ⟨hji, hj'⟩
    · rcases h.th j t ht with ⟨_, hx, _⟩ | ⟨c, cl, e1, e2, e3, e4⟩
      · rw [hx] at hb; cases hb
      · obtain ⟨cl', g⟩ := setC_there (t.call.toNat) now x e2.1
        obtain ⟨cl0, k1, k2, k3, k4, k5⟩ := setC_get g
        rw [e2.1] at k1
        obtain rfl := Option.some.inj k1
        have hcc : c = t.call.toNat := by rw [e1]; simp
        refine .inr ⟨c, cl', by rw [hc, e1], ⟨g, by rw [k2]; exact e2.2.1, fun k cl2 hk hcl2 => ?_⟩, ?_, by rw [k3]; exact e4⟩
        · obtain ⟨cl3, m1, m2, _⟩ := setC_get hcl2
          rw [m2]; exact e2.2.2 k cl3 hk m1
        · rw [hb', k5 hcc]
          simp; omega
    · rcases h.th j u hj' with ⟨e1, e2, e3⟩ | ⟨c, cl, e1, e2, e3, e4⟩
      · exact .inl ⟨e1, e2, hnone _ e3⟩
      · have hne : c ≠ t.call.toNat := fun e => by
          rcases h.th i t ht with ⟨_, hx, _⟩ | ⟨c', cl', f1, f2, _⟩
          · rw [hx] at hb; cases hb
          · have : c' = c := by rw [e, f1]; simp
            obtain ⟨f3, f4, _⟩ := f2
            rw [this, e2.1] at f3
            obtain rfl := Option.some.inj f3
            rw [e2.2.1] at f4
            exact hji (by omega)
        obtain ⟨cl', g⟩ := setC_there (t.call.toNat) now x e2.1
        obtain ⟨cl0, k1, k2, k3, k4, k5⟩ := setC_get g
        rw [e2.1] at k1
        obtain rfl := Option.some.inj k1
        obtain rfl := k4 hne
        refine .inr ⟨c, cl', e1, ⟨g, e2.2.1, fun k cl2 hk hcl2 => ?_⟩, e3, e4⟩
        obtain ⟨cl3, m1, m2, _⟩ := setC_get hcl2
        rw [m2]; exact e2.2.2 k cl3 hk m1
theorem get_snoc {l : List Cl} {x : Cl} {k : Nat} {y : Cl} (h : (l ++ [x])[k]? = some y) : l[k]? = some y ∨ (k = l.length ∧ y = x) := by
  by_cases hk : k < l.length
  · rw [List.getElem?_append_left hk] at h; exact .inl h
  · have : k = l.length := by
      have := (List.getElem?_eq_some_iff.1 h).1
      simp at this; omega
    subst this
    simp at h
    exact .inr ⟨rfl, h.symm⟩
theorem Lc.add {P P' : Pm} (h : Lc P) (i : Nat) (t' : Pt) (hi : i < P.pts.length) (cl : Cl) (hth : cl.th = i) (hf : cl.fin = -1) (hb : 0 ≤ cl.beg) (hc : t'.call = (P.cls.length : Int)) (hb' : t'.tk.busy = true) (h1 : P'.cls = P.cls ++ [cl]) (h2 : P'.pts = P.pts.set i t') : Lc P' := by
  refine ⟨fun c cl0 hcl => ?_, fun j u hj => ?_⟩
  · rw [h1] at hcl
    rw [h2, List.length_set]
    rcases get_snoc hcl with e | ⟨_, rfl⟩
    · exact h.rng c cl0 e
    · exact ⟨i, hth, hi⟩
  · rw [h2] at hj
    rw [h1]
    rcases get_set hj with ⟨rfl, rfl⟩ | ⟨hji, hj'⟩
    · refine .inr ⟨P.cls.length, cl, hc, ⟨by simp, hth, fun k cl2 hk hcl2 => ?_⟩, by rw [hb', hf]; rfl, hb⟩
      have := (List.getElem?_eq_some_iff.1 hcl2).1
      simp at this; omega
    · have hne : cl.th ≠ j := by rw [hth]; omega
      rcases h.th j u hj' with ⟨e1, e2, e3⟩ | ⟨c, cl1, e1, e2, e3, e4⟩
      · refine .inl ⟨e1, e2, fun k cl2 hcl2 => ?_⟩
        rcases get_snoc hcl2 with e | ⟨_, rfl⟩
        · exact e3 k cl2 e
        · exact hne
      · refine .inr ⟨c, cl1, e1, ⟨?_, e2.2.1, fun k cl2 hk hcl2 => ?_⟩, e3, e4⟩
        · rw [List.getElem?_append_left (List.getElem?_eq_some_iff.1 e2.1).1]; exact e2.1
        · rcases get_snoc hcl2 with e | ⟨_, rfl⟩
          · exact e2.2.2 k cl2 hk e
          · exact hne
theorem Lc.move {P : Pm} (h : Lc P) (th op arg data : Int) : Lc (P.move th op arg data).1 := by
  unfold Pm.move
  split
  · exact h
  · split
    · rename_i hth
      split
      · exact h.count
      · rename_i t ht
        split
        · unfold Pm.step
          split
          · exact h.count
          · rename_i ad htk
            exact h.fin th.toNat t ⟨.idle, false, t.call⟩ ht (by rw [htk]; rfl) P.n (P.ws[ad]?.getD 0) (by omega) rfl rfl rfl rfl
          · rename_i ad x htk
            exact h.keep th.toNat t ⟨.bump ad (P.ws[ad]?.getD 0) true, false, t.call⟩ ht rfl (by rw [htk]; rfl) rfl rfl
          · rename_i ad x htk
            split
            · exact h.fin th.toNat t ⟨.idle, false, t.call⟩ ht (by rw [htk]; rfl) P.n x (by omega) rfl rfl rfl rfl
            · exact h.keep th.toNat t ⟨.bump ad x false, false, t.call⟩ ht rfl (by rw [htk]; rfl) rfl rfl
        · split
          · exact h.count
          · unfold Pm.begins
            split
            · refine h.add th.toNat ⟨if op = 1 then .look arg.toNat else .bump arg.toNat 0 false, true, (P.cls.length : Int)⟩ (by omega) ⟨(th.toNat : Nat), op, arg, data, P.n, -1, -1, 0, 0⟩ rfl rfl (by simp) rfl ?_ rfl rfl
              show (if op = 1 then PT.look arg.toNat else PT.bump arg.toNat 0 false).busy = true
              split <;> rfl
            · exact h.count
    · exact h.count
theorem move_pts (P : Pm) (th op arg data : Int) : (P.move th op arg data).1.pts.length = P.pts.length := by
  unfold Pm.move
  split
  · rfl
  · split
    · split
      · rfl
      · split
        · unfold Pm.step
          repeat' split
          all_goals simp [Pm.count]
        · split
          · rfl
          · unfold Pm.begins
            repeat' split
            all_goals simp [Pm.count]
    · rfl
/-- What is asked of a thread's last call, in range or not. -/
theorem Lc.ask {P : Pm} (h : Lc P) (x : Int) : (NoneAt P.cls x ∧ ((x < 0 ∨ (P.pts.length : Int) ≤ x) ∨ ∃ (i : Nat) (t : Pt), x = i ∧ P.pts[i]? = some t ∧ t.call = -1 ∧ t.tk.busy = false)) ∨
    ∃ (i c : Nat) (t : Pt) (cl : Cl), x = i ∧ P.pts[i]? = some t ∧ t.call = c ∧ LastAt P.cls x c cl ∧ t.tk.busy = decide (cl.fin < 0) ∧ 0 ≤ cl.beg := by
  by_cases hx : 0 ≤ x ∧ x < P.pts.length
  · obtain ⟨i, rfl⟩ : ∃ i : Nat, x = i := ⟨x.toNat, by omega⟩
    obtain ⟨t, ht⟩ : ∃ t, P.pts[i]? = some t := ⟨_, List.getElem?_eq_getElem (by omega)⟩
    rcases h.th i t ht with ⟨e1, e2, e3⟩ | ⟨c, cl, e1, e2, e3, e4⟩
    · exact .inl ⟨e3, .inr ⟨i, t, rfl, ht, e1, e2⟩⟩
    · exact .inr ⟨i, c, t, cl, rfl, ht, e1, e2, e3, e4⟩
  · refine .inl ⟨fun c cl hcl e => ?_, .inl (by omega)⟩
    obtain ⟨i, e1, e2⟩ := h.rng c cl hcl
    omega
end Go.Proofs.Ytglppcoohojmpaa.Rf
