import Derived.Test.YtglppcoohojmpaaJ09
import Derived.Shelf.Abstract
/-
  Machine.Move over a machine with its own calls: the move that the page tells.
-/
namespace Go.Proofs.Ytglppcoohojmpaa.Ma
open Go.RowKit Mr Me
/-- The machine has come to P'. -/
def Out (W : World) (U K : Nat → Prop) (q : Ph) (km s1 a1 s2 a2 : Nat) (P' : Pm) (w : World) : Prop :=
  ∃ U', R w U' K q km s1 a1 s2 a2 P' ∧ (∀ k, U k → U' k) ∧ (∀ k, U' k → U k ∨ W.heap.size ≤ k) ∧ Fr W w U
section
variable {W : World} {U K : Nat → Prop} {q : Ph} {km s1 a1 s2 a2 : Nat} {P : Pm}
theorem Out.of {W1 w : World} {vc mv : _} {ah : List Int} {bt : Nat → Nat} {X' : Nat → Obj → Prop} {P' : Pm} (hK : Kt W K km P.ws.length s1 a1 s2 a2) (hKU : ∀ k, K k → ¬ U k ∧ k < W.heap.size) (hvk : q.vk = .map (some km)) (hf : Fr W W1 U)
    (hg : Goes W1 U { q with vc := vc } ⟨thsOf P'.pts bt, P'.n, P'.cls, [], P'.ws, mv, P'.lg, ah⟩ X' w) (hX : ∀ k o, Xof P'.pts bt k o → X' k o) (hinj : Inj P'.pts bt) (hah : ah.length ≤ P'.lg.length) (hws : P'.ws.length = P.ws.length) (hwf : Wf P') :
    Out W U K q km s1 a1 s2 a2 P' w := by
  obtain ⟨U', S, vl, va, ⟨hx, hm⟩, h1, h2, hf1⟩ := hg
  have hfw : Fr W w U := hf.trans (hf1.mono (fun _ => .inl))
  have hU2 : ∀ k, U' k → U k ∨ W.heap.size ≤ k := fun k hk => (h2 k hk).imp id (fun h => Nat.le_trans hf.size h)
  refine ⟨U', ⟨S, vl, va, vc, mv, ah, bt, ⟨fun k o hk => hx k o (hX k o hk), hm⟩, hinj, hah, ?_, ?_, hwf, hvk⟩, h1, hU2, hfw⟩
  · rw [hws]
    exact hK.kept (fun k hk => hfw.block k (hKU k hk).2 (hKU k hk).1)
  · intro k hk
    refine ⟨fun hu => ?_, Nat.lt_of_lt_of_le (hKU k hk).2 hfw.size⟩
    rcases hU2 k hu with h | h
    · exact (hKU k hk).1 h
    · have := (hKU k hk).2; omega
/-- Nothing but the count. -/
theorem Out.counted {S : Nat → Prop} {vl va vc : Value} {mv : Int} {ah : List Int} {bt : Nat → Nat} (hM : Mch W U S { q with vc := vc } vl va ⟨thsOf P.pts bt, P.n, P.cls, [], P.ws, mv, P.lg, ah⟩ (Xof P.pts bt)) (hinj : Inj P.pts bt) (hah : ah.length ≤ P.lg.length) (hK : Kt W K km P.ws.length s1 a1 s2 a2) (hKU : ∀ k, K k → ¬ U k ∧ k < W.heap.size) (hwf : Wf P) (hvk : q.vk = .map (some km)) (hn : P.n < 65536) (o : Obj) {w : World} (hB : Below (Wn W q.b ((P.n : Int) + 1) o).heap.size (Wn W q.b ((P.n : Int) + 1) o) w) :
    Out W U K q km s1 a1 s2 a2 P.count w := by
  obtain ⟨h1, h2, h3⟩ := hM.setN ((P.n : Int) + 1) o
  have h1' := h1.below hB
  refine Out.of (P' := P.count) hK hKU hvk h2 (X' := Xof P.pts bt) (vc := vc) (mv := mv) (ah := ah) (bt := bt) ⟨U, S, vl, va, ?_, fun _ h => h, fun _ h => .inl h, Fr.of_below hB⟩ (fun _ _ h => h) hinj hah rfl (hwf.count hn)
  have e : ((P.count.n : Nat) : Int) = (P.n : Int) + 1 := by simp [Pm.count]
  rw [e]
  exact h1'
theorem thsOf_put (pts : List Pt) (bt : Nat → Nat) (i : Nat) (t' : Pt) : (thsOf pts bt).set i (t'.th (bt i)) = thsOf (pts.set i t') bt := by
  rw [thsOf_set]
  congr 1
  funext k
  split
  · rename_i e; rw [e]
  · rfl
theorem pts_set_get {pts : List Pt} {i j : Nat} {t u : Pt} (h : (pts.set i t)[j]? = some u) : (j = i ∧ u = t) ∨ (j ≠ i ∧ pts[j]? = some u) := by
  rw [List.getElem?_set] at h
  by_cases e : i = j
  · rw [if_pos e] at h
    split at h
    · simp at h; exact .inl ⟨e.symm, h.symm⟩
    · cases h
  · rw [if_neg e] at h
    exact .inr ⟨fun e' => e e'.symm, h⟩
theorem inj_set {pts : List Pt} {bt : Nat → Nat} {i : Nat} {t t' : Pt} (h : Inj pts bt) (ht : pts[i]? = some t) (hb : t'.tk.busy = true → t.tk.busy = true) : Inj (pts.set i t') bt := by
  intro j k u v hj hk hu hv e
  rcases pts_set_get hj with ⟨rfl, rfl⟩ | ⟨hj1, hj2⟩
  · rcases pts_set_get hk with ⟨rfl, rfl⟩ | ⟨hk1, hk2⟩
    · rfl
    · exact h j k t v ht hk2 (hb hu) hv e
  · rcases pts_set_get hk with ⟨rfl, rfl⟩ | ⟨hk1, hk2⟩
    · exact h j k u t hj2 ht hu (hb hv) e
    · exact h j k u v hj2 hk2 hu hv e
/-- The task of thread i has turned into another, in its block. -/
theorem xof_turn {pts : List Pt} {bt : Nat → Nat} {i : Nat} {t t' : Pt} {o' : Obj} (h : Inj pts bt) (ht : pts[i]? = some t) (hb : t.tk.busy = true) (ho : t'.tk.obj = some o') : ∀ k o, Xof (pts.set i t') bt k o → (k = bt i ∧ o = o') ∨ (k ≠ bt i ∧ Xof pts bt k o) := by
  rintro k o ⟨j, u, hj, rfl, hu⟩
  rcases pts_set_get hj with ⟨rfl, rfl⟩ | ⟨hj1, hj2⟩
  · rw [ho] at hu
    exact .inl ⟨rfl, (Option.some.inj hu).symm⟩
  · exact .inr ⟨fun e => hj1 (h j i u t hj2 ht (obj_busy _ _ hu) hb e), j, u, hj2, rfl, hu⟩
/-- The task of thread i has gone. -/
theorem xof_gone {pts : List Pt} {bt : Nat → Nat} {i : Nat} {t' : Pt} (ho : t'.tk.obj = none) : ∀ k o, Xof (pts.set i t') bt k o → Xof pts bt k o := by
  rintro k o ⟨j, u, hj, rfl, hu⟩
  rcases pts_set_get hj with ⟨rfl, rfl⟩ | ⟨hj1, hj2⟩
  · rw [ho] at hu; cases hu
  · exact ⟨j, u, hj2, rfl, hu⟩
theorem roomyW {P : Pm} (h : Wf P) (ah : List Int) (hah : ah.length ≤ P.lg.length) : Me.Roomy P.lg ah := by
  have h1 := h.n
  have h2 := h.lg
  exact ⟨by omega, by omega⟩
/-- A step of a busy thread. -/
theorem step_own {S : Nat → Prop} {vl va vc : Value} {mv : Int} {ah : List Int} {bt : Nat → Nat} (hM : Mch W U S { q with vc := vc } vl va ⟨thsOf P.pts bt, P.n, P.cls, [], P.ws, mv, P.lg, ah⟩ (Xof P.pts bt)) (hinj : Inj P.pts bt) (hah : ah.length ≤ P.lg.length) (hwf : Wf P) (i : Nat) (t : Pt) (ht : P.pts[i]? = some t) (hb : t.tk.busy = true) (now : Int) :
    Calls Try.prog 38 #[.pointer (some ⟨q.b, 0, none⟩), .int .i64 (i : Int), .int .i64 now] W fun e w' => e = .returned (.bool true) ∧ ∃ X' mv' ah', Goes W U { q with vc := vc } ⟨thsOf (P.step i t now).1.pts bt, (P.step i t now).1.n, (P.step i t now).1.cls, [], (P.step i t now).1.ws, mv', (P.step i t now).1.lg, ah'⟩ X' w' ∧ (∀ k o, Xof (P.step i t now).1.pts bt k o → X' k o) ∧ ah'.length ≤ (P.step i t now).1.lg.length := by
  obtain ⟨hok, hcc⟩ := hwf.th i t ht
  obtain ⟨c, hcall, hcl⟩ := hcc hb
  have hil : i < P.pts.length := (List.getElem?_eq_some_iff.1 ht).1
  have hths : (thsOf P.pts bt)[i]? = some (t.th (bt i)) := by rw [thsOf_get, ht]; rfl
  obtain ⟨cl, hclg⟩ : ∃ cl, P.cls[c]? = some cl := ⟨_, List.getElem?_eq_getElem hcl⟩
  have hroom := roomyW hwf ah hah
  obtain ⟨tk, fr, call⟩ := t
  simp only at hok hcc hb hcall
  subst hcall
  have hgetF : ∀ x : Th, ((thsOf P.pts bt).set i x)[i]? = some x := fun x => by simp [thsOf_length, hil]
  cases tk with
  | idle => cases hb
  | look ad =>
    have hX : Xof P.pts bt (bt i) (lookO ad) := ⟨i, _, ht, rfl, rfl⟩
    refine (step_off (X0 := fun _ => False) (X' := Xof P.pts bt) hM i _ hths now _ _ rfl (fun _ h => h.elim) (fun W1 hD => work_look (look_step hD hroom hX hok _ (hgetF _) c rfl cl hclg) fr) { (Pt.th ⟨.look ad, fr, c⟩ (bt i)) with fr := false, ak := 2, av := wrap64 (P.ws[ad]?.getD 0) } ?_ c rfl { cl with pt := now } ?_ rfl).mono ?_
    · simp [Ss.told, Ss.loads, thsOf_length, hil]
    · simp [Ss.told, Ss.loads, hcl]
    · rintro e w' ⟨rfl, hg⟩
      refine ⟨rfl, Xof P.pts bt, now, ah, ?_, xof_gone rfl, by simp [Pm.step]; omega⟩
      have e1 : thsOf (P.pts.set i ⟨.idle, false, c⟩) bt = (thsOf P.pts bt).set i ⟨.nilIface, false, c, 0, 0⟩ := (thsOf_put P.pts bt i ⟨.idle, false, c⟩).symm
      have e2 : setC P.cls c now (P.ws[ad]?.getD 0) = P.cls.set c { cl with pt := now, fin := now, ak := 2, av := wrap64 (P.ws[ad]?.getD 0) } := by simp [setC, hclg]
      simp only [Pm.step, Int.toNat_natCast, e1, e2]
      simpa [Ss.told, Ss.loads] using hg
  | bump ad x ld =>
    have hX : Xof P.pts bt (bt i) (bumpO ad x ld) := ⟨i, _, ht, rfl, rfl⟩
    have hU0 : U (bt i) := (hM.1 _ _ hX).2.1
    have hX0 : ∀ k, k = bt i → U k := fun k e => e ▸ hU0
    have ownX : ∀ (t' : Pt) (o : Obj), t'.tk.obj = some o → Xof (P.pts.set i t') bt (bt i) o := fun t' o ho => ⟨i, t', by simp [hil], rfl, ho⟩
    cases ld with
    | false =>
      refine (step_on (X0 := fun k => k = bt i) (X' := Xof (P.pts.set i ⟨.bump ad (P.ws[ad]?.getD 0) true, false, c⟩) bt) hM i _ hths now _ _ rfl hX0 (fun W1 hD => work_bump (bump_load hD hroom hX (.inl rfl) hok (xof_turn hinj ht rfl rfl)) fr)).mono ?_
      rintro e w' ⟨rfl, hg⟩
      refine ⟨rfl, _, now, ah, ?_, fun _ _ h => h, by simp [Pm.step]; omega⟩
      have e1 : thsOf (P.pts.set i ⟨.bump ad (P.ws[ad]?.getD 0) true, false, c⟩) bt = (thsOf P.pts bt).set i (Pt.th ⟨.bump ad (P.ws[ad]?.getD 0) true, false, c⟩ (bt i)) := (thsOf_put P.pts bt i _).symm
      simp only [Pm.step, e1]
      simpa [Ss.loads, Pt.th, PT.tv] using hg
    | true =>
      by_cases hhit : P.ws[ad]?.getD 0 = x
      · refine (step_off (X0 := fun k => k = bt i) (X' := Xof (P.pts.set i ⟨.bump ad x false, false, c⟩) bt) hM i _ hths now _ _ rfl hX0 (fun W1 hD => work_bump (bump_hit hD hroom hX (.inl rfl) hok hhit _ (hgetF _) c rfl cl hclg (xof_turn hinj ht rfl rfl) (ownX ⟨.bump ad x false, false, c⟩ _ rfl)) fr) { (Pt.th ⟨.bump ad x true, fr, c⟩ (bt i)) with fr := false, ak := 2, av := wrap64 x } ?_ c rfl { cl with pt := now } ?_ rfl).mono ?_
        · simp [Ss.told, Ss.hits, thsOf_length, hil]
        · simp [Ss.told, Ss.hits, hcl]
        · rintro e w' ⟨rfl, hg⟩
          have e0 : P.step i ⟨.bump ad x true, fr, c⟩ now = ({ P with ws := P.ws.set ad (up x), lg := P.lg ++ [⟨now, i, 3, ad, x, up x, x⟩], cls := setC P.cls c now x, pts := P.pts.set i ⟨.idle, false, c⟩ }, true) := by simp [Pm.step, hhit]
          have e1 : thsOf (P.pts.set i ⟨.idle, false, c⟩) bt = (thsOf P.pts bt).set i ⟨.nilIface, false, c, 0, 0⟩ := (thsOf_put P.pts bt i ⟨.idle, false, c⟩).symm
          have e2 : setC P.cls c now x = P.cls.set c { cl with pt := now, fin := now, ak := 2, av := wrap64 x } := by simp [setC, hclg]
          refine ⟨rfl, Xof (P.pts.set i ⟨.bump ad x false, false, c⟩) bt, now, ah ++ [x], ?_, ?_, by rw [e0]; simp; omega⟩
          · simp only [e0, e1, e2]
            simpa [Ss.told, Ss.hits, up] using hg
          · rw [e0]
            rintro k o ⟨j, u, hj, rfl, hu⟩
            rcases pts_set_get hj with ⟨rfl, rfl⟩ | ⟨hj1, hj2⟩
            · cases hu
            · exact ⟨j, u, by rw [List.getElem?_set, if_neg (fun e => hj1 e.symm)]; exact hj2, rfl, hu⟩
      · refine (step_on (X0 := fun k => k = bt i) (X' := Xof (P.pts.set i ⟨.bump ad x false, false, c⟩) bt) hM i _ hths now _ _ rfl hX0 (fun W1 hD => work_bump (bump_miss hD hroom hX (.inl rfl) hok hhit (xof_turn hinj ht rfl rfl) (ownX ⟨.bump ad x false, false, c⟩ _ rfl)) fr)).mono ?_
        rintro e w' ⟨rfl, hg⟩
        have e0 : P.step i ⟨.bump ad x true, fr, c⟩ now = ({ P with lg := P.lg ++ [⟨now, i, 3, ad, x, up x, P.ws[ad]?.getD 0⟩], pts := P.pts.set i ⟨.bump ad x false, false, c⟩ }, true) := by simp [Pm.step, hhit]
        have e1 : thsOf (P.pts.set i ⟨.bump ad x false, false, c⟩) bt = (thsOf P.pts bt).set i (Pt.th ⟨.bump ad x false, false, c⟩ (bt i)) := (thsOf_put P.pts bt i _).symm
        refine ⟨rfl, Xof (P.pts.set i ⟨.bump ad x false, false, c⟩) bt, now, ah, ?_, fun _ _ h => by rw [e0] at h; exact h, by rw [e0]; simp; omega⟩
        simp only [e0, e1]
        simpa [Ss.misses, Pt.th, PT.tv, up] using hg
end
end Go.Proofs.Ytglppcoohojmpaa.Ma
/-
  Machine.Move over a machine with its own calls, whole.
-/
namespace Go.Proofs.Ytglppcoohojmpaa.Ma
open Go.RowKit Go.Shelf Mr Me
theorem step_ws (P : Pm) (i : Nat) (t : Pt) (now : Int) : (P.step i t now).1.ws.length = P.ws.length := by
  unfold Pm.step
  split <;> (try split) <;> simp
theorem step_pts (P : Pm) (i : Nat) (t : Pt) (now : Int) : (P.step i t now).1.pts.length = P.pts.length := by
  unfold Pm.step
  split <;> (try split) <;> simp
theorem step_n (P : Pm) (i : Nat) (t : Pt) (now : Int) : (P.step i t now).1.n = P.n := by
  unfold Pm.step
  split <;> (try split) <;> simp
theorem step_cls (P : Pm) (i : Nat) (t : Pt) (now : Int) : (P.step i t now).1.cls.length = P.cls.length := by
  unfold Pm.step
  split <;> (try split) <;> simp [setC_length]
theorem step_lg (P : Pm) (i : Nat) (t : Pt) (now : Int) : (P.step i t now).1.lg.length ≤ P.lg.length + 1 := by
  unfold Pm.step
  split <;> (try split) <;> simp
/-- What stands for thread i behind its step. -/
theorem step_th (P : Pm) (i : Nat) (t : Pt) (now : Int) (ht : P.pts[i]? = some t) : ∃ t', (P.step i t now).1.pts = P.pts.set i t' ∧ t'.call = t.call ∧ (t'.tk.busy = true → t.tk.busy = true) ∧ (t.tk.ok P.ws.length → t'.tk.ok P.ws.length) := by
  have hself : P.pts = P.pts.set i t := by
    obtain ⟨hl, e⟩ := List.getElem?_eq_some_iff.1 ht
    rw [← e, List.set_getElem_self]
  obtain ⟨tk, fr, call⟩ := t
  cases tk with
  | idle => exact ⟨_, hself, rfl, id, id⟩
  | look ad => exact ⟨⟨.idle, false, call⟩, rfl, rfl, (fun h => by cases h), fun _ => trivial⟩
  | bump ad x ld =>
    cases ld with
    | false => exact ⟨⟨.bump ad (P.ws[ad]?.getD 0) true, false, call⟩, rfl, rfl, fun _ => rfl, fun h => h⟩
    | true =>
      by_cases h : P.ws[ad]?.getD 0 = x
      · exact ⟨⟨.idle, false, call⟩, by simp [Pm.step, h], rfl, (fun h => by cases h), fun _ => trivial⟩
      · exact ⟨⟨.bump ad x false, false, call⟩, by simp [Pm.step, h], rfl, fun _ => rfl, fun h => h⟩
theorem Wf.step {P : Pm} (h : Wf P) (hn : P.n < 65536) (i : Nat) (t : Pt) (ht : P.pts[i]? = some t) (now : Int) : Wf (P.count.step i t now).1 := by
  have hc := h.count hn
  obtain ⟨t', e1, e2, e3, e4⟩ := step_th P.count i t now ht
  refine ⟨by rw [step_n]; exact hc.n, ?_, by rw [step_n, step_cls]; exact hc.cls, ?_⟩
  · have := step_lg P.count i t now
    have h2 := h.lg
    rw [step_n]
    simp only [Pm.count] at this ⊢
    omega
  · intro j u hj
    rw [step_ws, step_cls]
    rw [e1] at hj
    rcases pts_set_get hj with ⟨rfl, rfl⟩ | ⟨_, hj2⟩
    · obtain ⟨h1, h2⟩ := h.th j t ht
      refine ⟨e4 h1, fun hb => ?_⟩
      rw [e2]
      exact h2 (e3 hb)
    · exact h.th j u hj2
theorem Wf.begins {P : Pm} (h : Wf P) (hn : P.n < 65536) (i : Nat) (op arg data now : Int) : Wf (P.count.begins i op arg data now).1 := by
  have hc := h.count hn
  unfold Pm.begins
  split
  · rename_i hin
    have h2 := h.cls
    refine ⟨hc.n, hc.lg, by simp [Pm.count]; omega, ?_⟩
    intro j u hj
    rcases pts_set_get hj with ⟨rfl, rfl⟩ | ⟨_, hj2⟩
    · refine ⟨?_, fun _ => ⟨P.cls.length, rfl, by simp [Pm.count]⟩⟩
      have hlt : arg.toNat < P.ws.length := by have := hin.2; simp only [Pm.count] at this; omega
      simp only
      split
      · exact hlt
      · exact hlt
    · obtain ⟨h3, h4⟩ := h.th j u hj2
      refine ⟨h3, fun hb => ?_⟩
      obtain ⟨c, h5, h6⟩ := h4 hb
      exact ⟨c, h5, by simp [Pm.count]; omega⟩
  · exact hc
theorem inj_new {pts : List Pt} {bt : Nat → Nat} {i btn : Nat} {t' : Pt} (h : Inj pts bt) (hnew : ∀ j u, pts[j]? = some u → u.tk.busy = true → bt j ≠ btn) : Inj (pts.set i t') (fun k => if k = i then btn else bt k) := by
  intro j k u v hj hk hu hv e
  rcases pts_set_get hj with ⟨rfl, rfl⟩ | ⟨hj1, hj2⟩
  · rcases pts_set_get hk with ⟨rfl, rfl⟩ | ⟨hk1, hk2⟩
    · rfl
    · simp only [if_true, if_neg hk1] at e
      exact absurd e.symm (hnew k v hk2 hv)
  · rcases pts_set_get hk with ⟨rfl, rfl⟩ | ⟨hk1, hk2⟩
    · simp only [if_true, if_neg hj1] at e
      exact absurd e (hnew j u hj2 hu)
    · simp only [if_neg hj1, if_neg hk1] at e
      exact h j k u v hj2 hk2 hu hv e
theorem xof_new {pts : List Pt} {bt : Nat → Nat} {i btn : Nat} {t' : Pt} {o' : Obj} (ho : t'.tk.obj = some o') : ∀ k o, Xof (pts.set i t') (fun k => if k = i then btn else bt k) k o → Xs.more (Xof pts bt) btn o' k o := by
  rintro k o ⟨j, u, hj, rfl, hu⟩
  rcases pts_set_get hj with ⟨rfl, rfl⟩ | ⟨hj1, hj2⟩
  · rw [ho] at hu
    exact .inr ⟨by simp, (Option.some.inj hu).symm⟩
  · exact .inl ⟨j, u, hj2, by simp [hj1], hu⟩
section
variable {W : World} {U K : Nat → Prop} {q : Ph} {km s1 a1 s2 a2 : Nat} {P : Pm}
theorem Out.same (h : R W U K q km s1 a1 s2 a2 P) {w : World} (hB : Below W.heap.size W w) : Out W U K q km s1 a1 s2 a2 P w := by
  obtain ⟨S, vl, va, vc, mv, ah, bt, hM, hinj, hah, hK, hKU, hwf, hvk⟩ := h
  exact ⟨U, ⟨S, vl, va, vc, mv, ah, bt, hM.below hB, hinj, hah, hK.kept (fun k hk => hB.block k (hKU k hk).2), fun k hk => ⟨(hKU k hk).1, Nat.lt_of_lt_of_le (hKU k hk).2 hB.size⟩, hwf, hvk⟩, fun _ h => h, fun _ h => .inl h, Fr.of_below hB⟩
theorem Kt.wn (h : Kt W K km P.ws.length s1 a1 s2 a2) (hKU : ∀ k, K k → ¬ U k ∧ k < W.heap.size) {b : Nat} (hb : U b) (n : Int) (o : Obj) : Kt (Wn W b n o) K km P.ws.length s1 a1 s2 a2 :=
  h.kept (fun k hk => (Below.heap_alloc _ _ _ (by simpa using (hKU k hk).2)).trans (Below.heap_setCell _ _ _ k (fun e => (hKU k hk).1 (by have e' : k = b := e; rw [e']; exact hb))))
theorem begin_own {S : Nat → Prop} {vl va vc : Value} {mv : Int} {ah : List Int} {bt : Nat → Nat} (hM : Mch W U S { q with vc := vc } vl va ⟨thsOf P.pts bt, P.n, P.cls, [], P.ws, mv, P.lg, ah⟩ (Xof P.pts bt)) (hinj : Inj P.pts bt) (hK : Kt W K km P.ws.length s1 a1 s2 a2) (hwf : Wf P) (hvk : q.vk = .map (some km)) (i : Nat) (t : Pt) (ht : P.pts[i]? = some t) (op : Int) (ad : Nat) (hin : ad < P.ws.length) (data now : Int) (pt : PT) (cs : Array Value) (tt ty : TypeId) (hobj : pt.obj = some (.cells cs tt (0, 0))) (htv : ∀ b, pt.tv b = .iface ty (.pointer (some ⟨b, 0, none⟩)))
    (htt : tt ≠ 78 ∧ tt ≠ 98 ∧ tt ≠ 96 ∧ tt ≠ 93 ∧ tt ≠ 130) {sb ab g : Nat} (hc : Clo W sb ab P.ws.length g) (G : ∀ w, Calls Try.prog g #[.int .i64 (ad : Int)] w fun e w' => e = .returned (.iface ty (.pointer (some ⟨w.heap.size, 0, none⟩))) ∧ w' = w.alloc (.cells cs tt (0, 0))) (eg : ∀ args w, (callFunc g args).run Try.prog w = .ok (.enter g args) w)
    (hv : (if op = 1 then Value.func (.func 48) #[] #[.pointer (some ⟨s1, 0, none⟩), .pointer (some ⟨a1, 0, none⟩)] else if op = 2 then .func (.func 48) #[] #[.pointer (some ⟨s2, 0, none⟩), .pointer (some ⟨a2, 0, none⟩)] else .nilFunc) = .func (.func 48) #[] #[.pointer (some ⟨sb, 0, none⟩), .pointer (some ⟨ab, 0, none⟩)]) :
    Calls Try.prog 39 #[.pointer (some ⟨q.b, 0, none⟩), .agg #[.int .i64 (i : Int), .int .i64 op, .int .i64 (ad : Int), .int .i64 data], .int .i64 now] W fun e w' => e = .returned (.bool true) ∧ ∃ vc' bt' X', Goes W U { q with vc := vc' } ⟨thsOf (P.pts.set i ⟨pt, true, (P.cls.length : Int)⟩) bt', P.n, P.cls ++ [⟨i, op, ad, data, now, -1, -1, 0, 0⟩], [], P.ws, mv, P.lg, ah⟩ X' w' ∧ (∀ k o, Xof (P.pts.set i ⟨pt, true, (P.cls.length : Int)⟩) bt' k o → X' k o) ∧ Inj (P.pts.set i ⟨pt, true, (P.cls.length : Int)⟩) bt' := by
  have hths : (thsOf P.pts bt)[i]? = some (t.th (bt i)) := by rw [thsOf_get, ht]; rfl
  have hK1 : Kt (W.alloc (mvO i op ad data)).drew K km P.ws.length s1 a1 s2 a2 := (hK.alloc _).kept (fun _ _ => rfl)
  have hc1 : Clo (W.alloc (mvO i op ad data)).drew sb ab P.ws.length g := (hc.alloc _).kept rfl rfl
  have hs1 : (W.alloc (mvO i op ad data)).drew.heap.size = W.heap.size + 1 := by simp
  have KB := kit_some hK1 hc1 i op data ad hin ty (.cells cs tt (0, 0)) G eg hv
  rw [hs1] at KB
  refine (machBegin_some (q := { q with vc := vc }) hM (by have := hwf.cls; have := hwf.n; simp only; omega) i _ hths op ad data now ty (.pointer (some ⟨W.heap.size + 1 + 1 + 1, 0, none⟩)) (W.heap.size + 1 + 1 + 1) cs tt (by omega) km hvk htt ?_).mono ?_
  · show Calls Try.prog 51 #[q.vk, _] _ _
    rw [hvk]
    refine KB.mono ?_
    rintro e w' ⟨rfl, rfl⟩
    refine ⟨rfl, ?_, ?_⟩
    · exact (((Below.refl (W.heap.size + 1) _).alloc (by simp) _).alloc (by simp) _).alloc (by simp) _
    · have := heap_alloc_new (((W.alloc (mvO i op ad data)).drew.alloc (mvO i op ad data)).alloc (mvO i op ad data)) (.cells cs tt (0, 0))
      simpa using this
  · rintro e w' ⟨rfl, vc', hg⟩
    refine ⟨rfl, vc', (fun k => if k = i then W.heap.size + 1 + 1 + 1 else bt k), _, ?_, xof_new hobj, inj_new hinj (fun j u hj hu e => ?_)⟩
    · have e1 := thsOf_set P.pts bt i ⟨pt, true, (P.cls.length : Int)⟩ (W.heap.size + 1 + 1 + 1)
      rw [← e1]
      simp only [Pt.th, htv]
      exact hg
    · obtain ⟨o, ho⟩ : ∃ o, u.tk.obj = some o := by
        obtain ⟨tk, fr, call⟩ := u
        cases tk <;> first | exact ⟨_, rfl⟩ | cases hu
      have h1 := hM.1 (bt j) o ⟨j, u, hj, rfl, ho⟩
      have := hM.2.ul _ h1.2.1
      omega
theorem move_own (h : R W U K q km s1 a1 s2 a2 P) (th op arg data : Int) :
    Calls Try.prog 14 #[.pointer (some ⟨q.b, 0, none⟩), .agg #[.int .i64 th, .int .i64 op, .int .i64 arg, .int .i64 data]] W fun e w' => e = .returned (.bool (P.move th op arg data).2) ∧ Out W U K q km s1 a1 s2 a2 (P.move th op arg data).1 w' := by
  by_cases hfull : 65536 ≤ P.n
  · have e : P.move th op arg data = (P, false) := by simp [Pm.move, hfull]
    rw [e]
    obtain ⟨S, vl, va, vc, mv, ah, bt, hM, _⟩ := id h
    refine (mv_full th op arg data hM (by simp; omega)).mono ?_
    rintro e w' ⟨rfl, hB⟩
    exact ⟨rfl, Out.same h hB⟩
  obtain ⟨S, vl, va, vc, mv, ah, bt, hM, hinj, hah, hK, hKU, hwf, hvk⟩ := h
  have hn : P.n < 65536 := by omega
  have hnt : P.pts.length = q.nt := by rw [← thsOf_length P.pts bt]; exact hM.nt
  by_cases hin : 0 ≤ th ∧ th < P.pts.length
  · obtain ⟨i, rfl⟩ : ∃ i : Nat, th = i := ⟨th.toNat, by omega⟩
    have hil : i < P.pts.length := by omega
    obtain ⟨t, ht⟩ : ∃ t, P.pts[i]? = some t := ⟨_, List.getElem?_eq_getElem hil⟩
    have hths : (thsOf P.pts bt)[i]? = some (t.th (bt i)) := by rw [thsOf_get, ht]; rfl
    have em : P.move i op arg data = if op = 0 then P.count.step i t P.n else if t.tk.busy = true then (P.count, false) else P.count.begins i op arg data P.n := by
      unfold Pm.move
      rw [if_neg hfull, if_pos hin, Int.toNat_natCast, ht]
    rw [em]
    have cnt := fun (o : Obj) (w : World) (hB : Below (Wn W q.b ((P.n : Int) + 1) o).heap.size (Wn W q.b ((P.n : Int) + 1) o) w) => Out.counted hM hinj hah hK hKU hwf hvk hn o hB
    by_cases hop : op = 0
    · subst hop
      rw [if_pos rfl]
      cases hb : t.tk.busy
      · have e : P.count.step i t P.n = (P.count, false) := by
          obtain ⟨tk, fr, call⟩ := t
          cases tk <;> first | rfl | cases hb
        rw [e]
        have htv : (t.th (bt i)).tv = .nilIface := by
          obtain ⟨tk, fr, call⟩ := t
          cases tk <;> first | rfl | cases hb
        refine (mv_step hM (by simp; omega) (by simp) i _ hths arg data (R := fun w' => w' = Wn W q.b ((P.n : Int) + 1) (mvO i 0 arg data)) (step_idle (hM.setN ((P.n : Int) + 1) (mvO i 0 arg data)).1 i _ hths htv _)).mono ?_
        rintro e w' ⟨rfl, rfl⟩
        exact ⟨rfl, cnt _ _ (Below.refl _ _)⟩
      · obtain ⟨h1, h2, h3⟩ := hM.setN ((P.n : Int) + 1) (mvO i 0 arg data)
        have h1' : Mch (Wn W q.b ((P.n : Int) + 1) (mvO i 0 arg data)) U S { q with vc := vc } vl va ⟨thsOf P.count.pts bt, (P.count.n : Nat), P.count.cls, [], P.count.ws, mv, P.count.lg, ah⟩ (Xof P.count.pts bt) := by
          have e : ((P.count.n : Nat) : Int) = (P.n : Int) + 1 := by simp [Pm.count]
          rw [e]
          exact h1
        have ST := step_own h1' hinj hah (hwf.count hn) i t ht hb (P.n : Int)
        refine (mv_step hM (by simp; omega) (by simp) i _ hths arg data ST).mono ?_
        rintro e w' ⟨rfl, X', mv', ah', hg, hX, hah'⟩
        have e2 : (P.count.step i t P.n).2 = true := by
          obtain ⟨tk, fr, call⟩ := t
          cases tk with
          | idle => cases hb
          | look ad => rfl
          | bump ad x ld => cases ld <;> simp only [Pm.step] <;> (try split) <;> rfl
        refine ⟨by rw [e2], Out.of hK hKU hvk h2 hg hX ?_ hah' (by rw [step_ws]; rfl) (hwf.step hn i t ht P.n)⟩
        obtain ⟨t', q1, q2, q3, q4⟩ := step_th P.count i t P.n ht
        rw [q1]
        exact inj_set hinj ht q3
    · rw [if_neg hop]
      cases hb : t.tk.busy
      · simp only [Bool.false_eq_true, if_false]
        have htv : (t.th (bt i)).tv = .nilIface := by
          obtain ⟨tk, fr, call⟩ := t
          cases tk <;> first | rfl | cases hb
        obtain ⟨h1, h2, h3⟩ := hM.setN ((P.n : Int) + 1) (mvO i op arg data)
        have h1' : Mch (Wn W q.b ((P.n : Int) + 1) (mvO i op arg data)) U S { q with vc := vc } vl va ⟨thsOf P.count.pts bt, (P.count.n : Nat), P.count.cls, [], P.count.ws, mv, P.count.lg, ah⟩ (Xof P.count.pts bt) := by
          have e : ((P.count.n : Nat) : Int) = (P.n : Int) + 1 := by simp [Pm.count]
          rw [e]
          exact h1
        have hK1 : Kt (Wn W q.b ((P.n : Int) + 1) (mvO i op arg data)) K km P.ws.length s1 a1 s2 a2 := Kt.wn hK hKU hM.2.ub.1 _ _
        by_cases hok : (op = 1 ∨ op = 2) ∧ 0 ≤ arg ∧ arg < P.ws.length
        · have eb : P.count.begins i op arg data P.n = ({ P.count with cls := P.cls ++ [⟨i, op, arg, data, P.n, -1, -1, 0, 0⟩], pts := P.pts.set i ⟨if op = 1 then .look arg.toNat else .bump arg.toNat 0 false, true, (P.cls.length : Int)⟩ }, true) := by
            unfold Pm.begins
            exact if_pos hok
          have hwf' := hwf.begins hn i op arg data P.n
          rw [eb] at hwf' ⊢
          obtain ⟨hop12, ha0, ha1⟩ := hok
          obtain ⟨ad, rfl⟩ : ∃ ad : Nat, arg = ad := ⟨arg.toNat, by omega⟩
          simp only [Int.toNat_natCast] at hwf' ⊢
          have had : ad < P.ws.length := by omega
          have fin := fun (r : Ending → World → Prop) (BG : Calls Try.prog 39 #[.pointer (some ⟨q.b, 0, none⟩), .agg #[.int .i64 (i : Int), .int .i64 op, .int .i64 (ad : Int), .int .i64 data], .int .i64 (P.n : Int)] (Wn W q.b ((P.n : Int) + 1) (mvO i op ad data)) fun e w' => e = .returned (.bool true) ∧ ∃ vc' bt' X', Goes (Wn W q.b ((P.n : Int) + 1) (mvO i op ad data)) U { q with vc := vc' } ⟨thsOf (P.pts.set i ⟨if op = 1 then .look ad else .bump ad 0 false, true, (P.cls.length : Int)⟩) bt', (P.count.n : Nat), P.cls ++ [⟨i, op, ad, data, P.n, -1, -1, 0, 0⟩], [], P.ws, mv, P.lg, ah⟩ X' w' ∧ (∀ k o, Xof (P.pts.set i ⟨if op = 1 then .look ad else .bump ad 0 false, true, (P.cls.length : Int)⟩) bt' k o → X' k o) ∧ Inj (P.pts.set i ⟨if op = 1 then .look ad else .bump ad 0 false, true, (P.cls.length : Int)⟩) bt') => mv_begin hM (by simp; omega) (by simp) i _ hths op ad data hop htv BG
          refine (fin (fun _ _ => True) ?_).mono ?_
          · rcases hop12 with rfl | rfl
            · exact begin_own h1' hinj hK1 (hwf.count hn) hvk i t ht 1 ad had data P.n (.look ad) _ _ _ rfl (fun _ => rfl) (by decide) hK1.c1 (own1_any ad) (enters_of Try.func34 (by kernel_rfl) rfl) rfl
            · exact begin_own h1' hinj hK1 (hwf.count hn) hvk i t ht 2 ad had data P.n (.bump ad 0 false) _ _ _ rfl (fun _ => rfl) (by decide) hK1.c2 (own2_any ad) (enters_of Try.func35 (by kernel_rfl) rfl) rfl
          · rintro e w' ⟨rfl, vc', bt', X', hg, hX, hinj'⟩
            exact ⟨rfl, Out.of hK hKU hvk h2 hg hX hinj' hah rfl hwf'⟩
        · have eb : P.count.begins i op arg data P.n = (P.count, false) := by
            unfold Pm.begins
            exact if_neg hok
          rw [eb]
          have hK2 : Kt ((Wn W q.b ((P.n : Int) + 1) (mvO i op arg data)).alloc (mvO i op arg data)).drew K km P.ws.length s1 a1 s2 a2 := (hK1.alloc _).kept (fun _ _ => rfl)
          have hs1 : ((Wn W q.b ((P.n : Int) + 1) (mvO i op arg data)).alloc (mvO i op arg data)).drew.heap.size = (Wn W q.b ((P.n : Int) + 1) (mvO i op arg data)).heap.size + 1 := by simp
          have KB : Calls Try.prog 51 #[.map (some km), .agg #[.int .i64 (i : Int), .int .i64 op, .int .i64 arg, .int .i64 data]] ((Wn W q.b ((P.n : Int) + 1) (mvO i op arg data)).alloc (mvO i op arg data)).drew fun e w' => e = .returned .nilIface ∧ Below ((Wn W q.b ((P.n : Int) + 1) (mvO i op arg data)).heap.size + 1) ((Wn W q.b ((P.n : Int) + 1) (mvO i op arg data)).alloc (mvO i op arg data)).drew w' := by
            by_cases hop1 : op = 1
            · subst hop1
              refine (kit_out hK2 hK2.c1 i 1 arg data (by omega) rfl).mono ?_
              rintro e w' ⟨rfl, rfl⟩
              exact ⟨rfl, ((Below.refl _ _).alloc (by rw [hs1]; omega) _).alloc (by rw [World.size_alloc, hs1]; omega) _⟩
            · by_cases hop2 : op = 2
              · subst hop2
                refine (kit_out hK2 hK2.c2 i 2 arg data (by omega) rfl).mono ?_
                rintro e w' ⟨rfl, rfl⟩
                exact ⟨rfl, ((Below.refl _ _).alloc (by rw [hs1]; omega) _).alloc (by rw [World.size_alloc, hs1]; omega) _⟩
              · refine (kit_none hK2 i op arg data hop1 hop2).mono ?_
                rintro e w' ⟨rfl, rfl⟩
                exact ⟨rfl, (Below.refl _ _).alloc (by rw [hs1]; omega) _⟩
          refine (mv_begin hM (by simp; omega) (by simp) i _ hths op arg data hop htv (r := false) (R := fun w' => Below (Wn W q.b ((P.n : Int) + 1) (mvO i op arg data)).heap.size (Wn W q.b ((P.n : Int) + 1) (mvO i op arg data)) w') (machBegin_none h1' i op arg data P.n km hvk (by show Calls Try.prog 51 #[q.vk, _] _ _; rw [hvk]; exact KB))).mono ?_
          rintro e w' ⟨rfl, hB⟩
          exact ⟨rfl, cnt _ _ hB⟩
      · simp only [if_true]
        obtain ⟨ty, v, htv⟩ : ∃ ty v, (t.th (bt i)).tv = .iface ty v := by
          obtain ⟨tk, fr, call⟩ := t
          cases tk <;> first | exact ⟨_, _, rfl⟩ | cases hb
        refine (mv_busy hM (by simp; omega) (by simp) i _ hths op arg data hop ty v htv).mono ?_
        rintro e w' ⟨rfl, rfl⟩
        exact ⟨rfl, cnt _ _ (Below.refl _ _)⟩
  · have e : P.move th op arg data = (P.count, false) := by simp only [Pm.move, if_neg hfull, if_neg hin]
    rw [e]
    refine (mv_none th op arg data hM (by simp; omega) (by simp) (by simp only; omega)).mono ?_
    rintro e w' ⟨rfl, rfl⟩
    exact ⟨rfl, Out.counted hM hinj hah hK hKU hwf hvk hn _ (Below.refl _ _)⟩
end
end Go.Proofs.Ytglppcoohojmpaa.Ma
