/-
  Machine.Move over a machine with its own calls: the move that the page tells.
-/
import Derived.Test.YtiobchadjcekcaaMacPure
namespace Go.Proofs.Ytiobchadjcekcaa.Ma
open Go.RowKit Mr Me
/-- The machine has come to P'. -/
def Out (W : World) (U K : Nat → Prop) (q : Ph) (km s1 a1 s2 a2 : Nat) (P' : Pm) (w : World) : Prop :=
  ∃ U', R w U' K q km s1 a1 s2 a2 P' ∧ (∀ k, U k → U' k) ∧ (∀ k, U' k → U k ∨ W.heap.size ≤ k) ∧ Fr W w U
section
variable {W : World} {U K : Nat → Prop} {q : Ph} {km s1 a1 s2 a2 : Nat} {P : Pm}
theorem Out.of {W1 w : World} {vc mv : _} {ah : List Int} {bt : Nat → Nat} {X' : Nat → Obj → Prop} {P' : Pm} (hK : Kt W K km P.ws.length s1 a1 s2 a2) (hKU : ∀ k, K k → ¬ U k ∧ k < W.heap.size) (hvk : q.vk = .map (some km)) (hf : Fr W W1 U)
    (hg : Goes W1 U { q with vc := vc } ⟨thsOf P'.pts bt, P'.n, P'.cls, [], P'.ws, mv, P'.lg, ah⟩ X' w) (hX : ∀ k o, Xof P'.pts bt k o → X' k o) (hinj : Inj P'.pts bt) (hah : ah.length ≤ P'.lg.length) (hws : P'.ws.length = P.ws.length) (hwf : Wf P') :
    Out W U K q km s1 a1 s2 a2 P' w := by
  obtain ⟨U', S, vl, va, ⟨hx, hm⟩, h1, h2, hf1⟩ := hg
  have hfw : Fr W w U := hf.trans (hf1.mono (fun _ => .inl))
  have hU2 : ∀ k, U' k → U k ∨ W.heap.size ≤ k := fun k hk => (h2 k hk).imp id (fun h => Nat.le_trans hf.size h)
  refine ⟨U', ⟨S, vl, va, vc, mv, ah, bt, ⟨fun k o hk => hx k o (hX k o hk), hm⟩, hinj, hah, ?_, ?_, hwf, hvk⟩, h1, hU2, hfw⟩
  · rw [hws]
    exact hK.kept (fun k hk => hfw.block k (hKU k hk).2 (hKU k hk).1)
  · intro k hk
    refine ⟨fun hu => ?_, Nat.lt_of_lt_of_le (hKU k hk).2 hfw.size⟩
    rcases hU2 k hu with h | h
    · exact (hKU k hk).1 h
    · have := (hKU k hk).2; omega
/-- Nothing but the count. -/
theorem Out.counted {S : Nat → Prop} {vl va vc : Value} {mv : Int} {ah : List Int} {bt : Nat → Nat} (hM : Mch W U S { q with vc := vc } vl va ⟨thsOf P.pts bt, P.n, P.cls, [], P.ws, mv, P.lg, ah⟩ (Xof P.pts bt)) (hinj : Inj P.pts bt) (hah : ah.length ≤ P.lg.length) (hK : Kt W K km P.ws.length s1 a1 s2 a2) (hKU : ∀ k, K k → ¬ U k ∧ k < W.heap.size) (hwf : Wf P) (hvk : q.vk = .map (some km)) (hn : P.n < 65536) (o : Obj) {w : World} (hB : Below (Wn W q.b ((P.n : Int) + 1) o).heap.size (Wn W q.b ((P.n : Int) + 1) o) w) :
    Out W U K q km s1 a1 s2 a2 P.count w := by
  obtain ⟨h1, h2, h3⟩ := hM.setN ((P.n : Int) + 1) o
  have h1' := h1.below hB
  refine Out.of (P' := P.count) hK hKU hvk h2 (X' := Xof P.pts bt) (vc := vc) (mv := mv) (ah := ah) (bt := bt) ⟨U, S, vl, va, ?_, fun _ h => h, fun _ h => .inl h, Fr.of_below hB⟩ (fun _ _ h => h) hinj hah rfl (hwf.count hn)
  have e : ((P.count.n : Nat) : Int) = (P.n : Int) + 1 := by simp [Pm.count]
  rw [e]
  exact h1'
theorem thsOf_put (pts : List Pt) (bt : Nat → Nat) (i : Nat) (t' : Pt) : (thsOf pts bt).set i (t'.th (bt i)) = thsOf (pts.set i t') bt := by
  rw [thsOf_set]
  congr 1
  funext k
  split
  · rename_i e; rw [e]
  · rfl
theorem pts_set_get {pts : List Pt} {i j : Nat} {t u : Pt} (h : (pts.set i t)[j]? = some u) : (j = i ∧ u = t) ∨ (j ≠ i ∧ pts[j]? = some u) := by
  rw [List.getElem?_set] at h
  by_cases e : i = j
  · rw [if_pos e] at h
    split at h
    · simp at h; exact .inl ⟨e.symm, h.symm⟩
    · cases h
  · rw [if_neg e] at h
    exact .inr ⟨fun e' => e e'.symm, h⟩
theorem inj_set {pts : List Pt} {bt : Nat → Nat} {i : Nat} {t t' : Pt} (h : Inj pts bt) (ht : pts[i]? = some t) (hb : t'.tk.busy = true → t.tk.busy = true) : Inj (pts.set i t') bt := by
  intro j k u v hj hk hu hv e
  rcases pts_set_get hj with ⟨rfl, rfl⟩ | ⟨hj1, hj2⟩
  · rcases pts_set_get hk with ⟨rfl, rfl⟩ | ⟨hk1, hk2⟩
    · rfl
    · exact h j k t v ht hk2 (hb hu) hv e
  · rcases pts_set_get hk with ⟨rfl, rfl⟩ | ⟨hk1, hk2⟩
    · exact h j k u t hj2 ht hu (hb hv) e
    · exact h j k u v hj2 hk2 hu hv e
/-- The task of thread i has turned into another, in its block. -/
theorem xof_turn {pts : List Pt} {bt : Nat → Nat} {i : Nat} {t t' : Pt} {o' : Obj} (h : Inj pts bt) (ht : pts[i]? = some t) (hb : t.tk.busy = true) (ho : t'.tk.obj = some o') : ∀ k o, Xof (pts.set i t') bt k o → (k = bt i ∧ o = o') ∨ (k ≠ bt i ∧ Xof pts bt k o) := by
  rintro k o ⟨j, u, hj, rfl, hu⟩
  rcases pts_set_get hj with ⟨rfl, rfl⟩ | ⟨hj1, hj2⟩
  · rw [ho] at hu
    exact .inl ⟨rfl, (Option.some.inj hu).symm⟩
  · exact .inr ⟨fun e => hj1 (h j i u t hj2 ht (obj_busy _ _ hu) hb e), j, u, hj2, rfl, hu⟩
/-- The task of thread i has gone. -/
theorem xof_gone {pts : List Pt} {bt : Nat → Nat} {i : Nat} {t' : Pt} (ho : t'.tk.obj = none) : ∀ k o, Xof (pts.set i t') bt k o → Xof pts bt k o := by
  rintro k o ⟨j, u, hj, rfl, hu⟩
  rcases pts_set_get hj with ⟨rfl, rfl⟩ | ⟨hj1, hj2⟩
  · rw [ho] at hu; cases hu
  · exact ⟨j, u, hj2, rfl, hu⟩
theorem roomyW {P : Pm} (h : Wf P) (ah : List Int) (hah : ah.length ≤ P.lg.length) : Me.Roomy P.lg ah := by
  have h1 := h.n
  have h2 := h.lg
  exact ⟨by omega, by omega⟩
/-- A step of a busy thread. -/
theorem step_own {S : Nat → Prop} {vl va vc : Value} {mv : Int} {ah : List Int} {bt : Nat → Nat} (hM : Mch W U S { q with vc := vc } vl va ⟨thsOf P.pts bt, P.n, P.cls, [], P.ws, mv, P.lg, ah⟩ (Xof P.pts bt)) (hinj : Inj P.pts bt) (hah : ah.length ≤ P.lg.length) (hwf : Wf P) (i : Nat) (t : Pt) (ht : P.pts[i]? = some t) (hb : t.tk.busy = true) (now : Int) :
    Calls Try.prog 23 #[.pointer (some ⟨q.b, 0, none⟩), .int .i64 (i : Int), .int .i64 now] W fun e w' => e = .returned (.bool true) ∧ ∃ X' mv' ah', Goes W U { q with vc := vc } ⟨thsOf (P.step i t now).1.pts bt, (P.step i t now).1.n, (P.step i t now).1.cls, [], (P.step i t now).1.ws, mv', (P.step i t now).1.lg, ah'⟩ X' w' ∧ (∀ k o, Xof (P.step i t now).1.pts bt k o → X' k o) ∧ ah'.length ≤ (P.step i t now).1.lg.length := by
  obtain ⟨hok, hcc⟩ := hwf.th i t ht
  obtain ⟨c, hcall, hcl⟩ := hcc hb
  have hil : i < P.pts.length := (List.getElem?_eq_some_iff.1 ht).1
  have hths : (thsOf P.pts bt)[i]? = some (t.th (bt i)) := by rw [thsOf_get, ht]; rfl
  obtain ⟨cl, hclg⟩ : ∃ cl, P.cls[c]? = some cl := ⟨_, List.getElem?_eq_getElem hcl⟩
  have hroom := roomyW hwf ah hah
  obtain ⟨tk, fr, call⟩ := t
  simp only at hok hcc hb hcall
  subst hcall
  have hgetF : ∀ x : Th, ((thsOf P.pts bt).set i x)[i]? = some x := fun x => by simp [thsOf_length, hil]
  cases tk with
  | idle => cases hb
  | look ad =>
    have hX : Xof P.pts bt (bt i) (lookO ad) := ⟨i, _, ht, rfl, rfl⟩
    refine (step_off (X0 := fun _ => False) (X' := Xof P.pts bt) hM i _ hths now _ _ rfl (fun _ h => h.elim) (fun W1 hD => work_look (look_step hD hroom hX hok _ (hgetF _) c rfl cl hclg) fr) { (Pt.th ⟨.look ad, fr, c⟩ (bt i)) with fr := false, ak := 2, av := wrap64 (P.ws[ad]?.getD 0) } ?_ c rfl { cl with pt := now } ?_ rfl).mono ?_
    · simp [Ss.told, Ss.loads, thsOf_length, hil]
    · simp [Ss.told, Ss.loads, hcl]
    · rintro e w' ⟨rfl, hg⟩
      refine ⟨rfl, Xof P.pts bt, now, ah, ?_, xof_gone rfl, by simp [Pm.step]; omega⟩
      have e1 : thsOf (P.pts.set i ⟨.idle, false, c⟩) bt = (thsOf P.pts bt).set i ⟨.nilIface, false, c, 0, 0⟩ := (thsOf_put P.pts bt i ⟨.idle, false, c⟩).symm
      have e2 : setC P.cls c now (P.ws[ad]?.getD 0) = P.cls.set c { cl with pt := now, fin := now, ak := 2, av := wrap64 (P.ws[ad]?.getD 0) } := by simp [setC, hclg]
      simp only [Pm.step, Int.toNat_natCast, e1, e2]
      simpa [Ss.told, Ss.loads] using hg
  | bump ad x ld =>
    have hX : Xof P.pts bt (bt i) (bumpO ad x ld) := ⟨i, _, ht, rfl, rfl⟩
    have hU0 : U (bt i) := (hM.1 _ _ hX).2.1
    have hX0 : ∀ k, k = bt i → U k := fun k e => e ▸ hU0
    have ownX : ∀ (t' : Pt) (o : Obj), t'.tk.obj = some o → Xof (P.pts.set i t') bt (bt i) o := fun t' o ho => ⟨i, t', by simp [hil], rfl, ho⟩
    cases ld with
    | false =>
      refine (step_on (X0 := fun k => k = bt i) (X' := Xof (P.pts.set i ⟨.bump ad (P.ws[ad]?.getD 0) true, false, c⟩) bt) hM i _ hths now _ _ rfl hX0 (fun W1 hD => work_bump (bump_load hD hroom hX (.inl rfl) hok (xof_turn hinj ht rfl rfl)) fr)).mono ?_
      rintro e w' ⟨rfl, hg⟩
      refine ⟨rfl, _, now, ah, ?_, fun _ _ h => h, by simp [Pm.step]; omega⟩
      have e1 : thsOf (P.pts.set i ⟨.bump ad (P.ws[ad]?.getD 0) true, false, c⟩) bt = (thsOf P.pts bt).set i (Pt.th ⟨.bump ad (P.ws[ad]?.getD 0) true, false, c⟩ (bt i)) := (thsOf_put P.pts bt i _).symm
      simp only [Pm.step, e1]
      simpa [Ss.loads, Pt.th, PT.tv] using hg
    | true =>
      by_cases hhit : P.ws[ad]?.getD 0 = x
      · refine (step_off (X0 := fun k => k = bt i) (X' := Xof (P.pts.set i ⟨.bump ad x false, false, c⟩) bt) hM i _ hths now _ _ rfl hX0 (fun W1 hD => work_bump (bump_hit hD hroom hX (.inl rfl) hok hhit _ (hgetF _) c rfl cl hclg (xof_turn hinj ht rfl rfl) (ownX ⟨.bump ad x false, false, c⟩ _ rfl)) fr) { (Pt.th ⟨.bump ad x true, fr, c⟩ (bt i)) with fr := false, ak := 2, av := wrap64 x } ?_ c rfl { cl with pt := now } ?_ rfl).mono ?_
        · simp [Ss.told, Ss.hits, thsOf_length, hil]
        · simp [Ss.told, Ss.hits, hcl]
        · rintro e w' ⟨rfl, hg⟩
          have e0 : P.step i ⟨.bump ad x true, fr, c⟩ now = ({ P with ws := P.ws.set ad (up x), lg := P.lg ++ [⟨now, i, 3, ad, x, up x, x⟩], cls := setC P.cls c now x, pts := P.pts.set i ⟨.idle, false, c⟩ }, true) := by simp [Pm.step, hhit]
          have e1 : thsOf (P.pts.set i ⟨.idle, false, c⟩) bt = (thsOf P.pts bt).set i ⟨.nilIface, false, c, 0, 0⟩ := (thsOf_put P.pts bt i ⟨.idle, false, c⟩).symm
          have e2 : setC P.cls c now x = P.cls.set c { cl with pt := now, fin := now, ak := 2, av := wrap64 x } := by simp [setC, hclg]
          refine ⟨rfl, Xof (P.pts.set i ⟨.bump ad x false, false, c⟩) bt, now, ah ++ [x], ?_, ?_, by rw [e0]; simp; omega⟩
          · simp only [e0, e1, e2]
            simpa [Ss.told, Ss.hits, up] using hg
          · rw [e0]
            rintro k o ⟨j, u, hj, rfl, hu⟩
            rcases pts_set_get hj with ⟨rfl, rfl⟩ | ⟨hj1, hj2⟩
            · cases hu
            · exact ⟨j, u, by rw [List.getElem?_set, if_neg (fun e => hj1 e.symm)]; exact hj2, rfl, hu⟩
      · refine (step_on (X0 := fun k => k = bt i) (X' := Xof (P.pts.set i ⟨.bump ad x false, false, c⟩) bt) hM i _ hths now _ _ rfl hX0 (fun W1 hD => work_bump (bump_miss hD hroom hX (.inl rfl) hok hhit (xof_turn hinj ht rfl rfl) (ownX ⟨.bump ad x false, false, c⟩ _ rfl)) fr)).mono ?_
        rintro e w' ⟨rfl, hg⟩
        have e0 : P.step i ⟨.bump ad x true, fr, c⟩ now = ({ P with lg := P.lg ++ [⟨now, i, 3, ad, x, up x, P.ws[ad]?.getD 0⟩], pts := P.pts.set i ⟨.bump ad x false, false, c⟩ }, true) := by simp [Pm.step, hhit]
        have e1 : thsOf (P.pts.set i ⟨.bump ad x false, false, c⟩) bt = (thsOf P.pts bt).set i (Pt.th ⟨.bump ad x false, false, c⟩ (bt i)) := (thsOf_put P.pts bt i _).symm
        refine ⟨rfl, Xof (P.pts.set i ⟨.bump ad x false, false, c⟩) bt, now, ah, ?_, fun _ _ h => by rw [e0] at h; exact h, by rw [e0]; simp; omega⟩
        simp only [e0, e1]
        simpa [Ss.misses, Pt.th, PT.tv, up] using hg
end
end Go.Proofs.Ytiobchadjcekcaa.Ma
