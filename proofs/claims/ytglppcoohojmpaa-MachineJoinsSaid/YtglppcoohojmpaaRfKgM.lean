import Derived.Test.YtglppcoohojmpaaRfKg
/-
  A machine with such a kit: its moves.
-/
namespace Go.Proofs.Ytglppcoohojmpaa.Rf
open Go.RowKit Go.Shelf Mr Me Ma
set_option linter.unusedVariables false
/-- A move, where calls of addresses from lim on are refused. -/
def _root_.Go.Proofs.Ytglppcoohojmpaa.Ma.Pm.moveL (P : Pm) (lim : Nat) (th op arg data : Int) : Pm × Bool := if (op = 1 ∨ op = 2) ∧ (lim : Int) ≤ arg then P.move (-1) 0 0 0 else P.move th op arg data
def RG (W : World) (U K : Nat → Prop) (q : Ph) (km lim : Nat) (P : Pm) : Prop :=
  ∃ S vl va vc mv ah bt, Mch W U S { q with vc := vc } vl va ⟨thsOf P.pts bt, P.n, P.cls, [], P.ws, mv, P.lg, ah⟩ (Xof P.pts bt) ∧ Inj P.pts bt ∧ ah.length ≤ P.lg.length ∧ KG W K km lim ∧ (∀ k, K k → ¬ U k ∧ k < W.heap.size) ∧ Wf P ∧ q.vk = .map (some km)
/-- The machine has come to P'. -/
def OutG (W : World) (U K : Nat → Prop) (q : Ph) (km lim : Nat) (P' : Pm) (w : World) : Prop :=
  ∃ U', RG w U' K q km lim P' ∧ (∀ k, U k → U' k) ∧ (∀ k, U' k → U k ∨ W.heap.size ≤ k) ∧ Fr W w U
section
variable {W : World} {U K : Nat → Prop} {q : Ph} {km lim : Nat} {P : Pm}
theorem OutG.of {W1 w : World} {vc mv : _} {ah : List Int} {bt : Nat → Nat} {X' : Nat → Obj → Prop} {P' : Pm} (hK : KG W K km lim) (hKU : ∀ k, K k → ¬ U k ∧ k < W.heap.size) (hvk : q.vk = .map (some km)) (hf : Fr W W1 U)
    (hg : Goes W1 U { q with vc := vc } ⟨thsOf P'.pts bt, P'.n, P'.cls, [], P'.ws, mv, P'.lg, ah⟩ X' w) (hX : ∀ k o, Xof P'.pts bt k o → X' k o) (hinj : Inj P'.pts bt) (hah : ah.length ≤ P'.lg.length) (hws : P'.ws.length = P.ws.length) (hwf : Wf P') :
    OutG W U K q km lim P' w := by
  obtain ⟨U', S, vl, va, ⟨hx, hm⟩, h1, h2, hf1⟩ := hg
  have hfw : Fr W w U := hf.trans (hf1.mono (fun _ => .inl))
  have hU2 : ∀ k, U' k → U k ∨ W.heap.size ≤ k := fun k hk => (h2 k hk).imp id (fun h => Nat.le_trans hf.size h)
  refine ⟨U', ⟨S, vl, va, vc, mv, ah, bt, ⟨fun k o hk => hx k o (hX k o hk), hm⟩, hinj, hah, ?_, ?_, hwf, hvk⟩, h1, hU2, hfw⟩
  · exact hK.kept (fun k hk => hfw.block k (hKU k hk).2 (hKU k hk).1)
  · intro k hk
    refine ⟨fun hu => ?_, Nat.lt_of_lt_of_le (hKU k hk).2 hfw.size⟩
    rcases hU2 k hu with h | h
    · exact (hKU k hk).1 h
    · have := (hKU k hk).2; omega
/-- Nothing but the count. -/
theorem OutG.counted {S : Nat → Prop} {vl va vc : Value} {mv : Int} {ah : List Int} {bt : Nat → Nat} (hM : Mch W U S { q with vc := vc } vl va ⟨thsOf P.pts bt, P.n, P.cls, [], P.ws, mv, P.lg, ah⟩ (Xof P.pts bt)) (hinj : Inj P.pts bt) (hah : ah.length ≤ P.lg.length) (hK : KG W K km lim) (hKU : ∀ k, K k → ¬ U k ∧ k < W.heap.size) (hwf : Wf P) (hvk : q.vk = .map (some km)) (hn : P.n < 65536) (o : Obj) {w : World} (hB : Below (Wn W q.b ((P.n : Int) + 1) o).heap.size (Wn W q.b ((P.n : Int) + 1) o) w) :
    OutG W U K q km lim P.count w := by
  obtain ⟨h1, h2, h3⟩ := hM.setN ((P.n : Int) + 1) o
  have h1' := h1.below hB
  refine OutG.of (P' := P.count) hK hKU hvk h2 (X' := Xof P.pts bt) (vc := vc) (mv := mv) (ah := ah) (bt := bt) ⟨U, S, vl, va, ?_, fun _ h => h, fun _ h => .inl h, Fr.of_below hB⟩ (fun _ _ h => h) hinj hah rfl (hwf.count hn)
  have e : ((P.count.n : Nat) : Int) = (P.n : Int) + 1 := by simp [Pm.count]
  rw [e]
  exact h1'
theorem OutG.same (h : RG W U K q km lim P) {w : World} (hB : Below W.heap.size W w) : OutG W U K q km lim P w := by
  obtain ⟨S, vl, va, vc, mv, ah, bt, hM, hinj, hah, hK, hKU, hwf, hvk⟩ := h
  exact ⟨U, ⟨S, vl, va, vc, mv, ah, bt, hM.below hB, hinj, hah, hK.kept (fun k hk => hB.block k (hKU k hk).2), fun k hk => ⟨(hKU k hk).1, Nat.lt_of_lt_of_le (hKU k hk).2 hB.size⟩, hwf, hvk⟩, fun _ h => h, fun _ h => .inl h, Fr.of_below hB⟩
theorem KG.wn (h : KG W K km lim) (hKU : ∀ k, K k → ¬ U k ∧ k < W.heap.size) {b : Nat} (hb : U b) (n : Int) (o : Obj) : KG (Wn W b n o) K km lim :=
  h.kept (fun k hk => (Below.heap_alloc _ _ _ (by simpa using (hKU k hk).2)).trans (Below.heap_setCell _ _ _ k (fun e => (hKU k hk).1 (by have e' : k = b := e; rw [e']; exact hb))))
theorem begin_ownG {S : Nat → Prop} {vl va vc : Value} {mv : Int} {ah : List Int} {bt : Nat → Nat} (hM : Mch W U S { q with vc := vc } vl va ⟨thsOf P.pts bt, P.n, P.cls, [], P.ws, mv, P.lg, ah⟩ (Xof P.pts bt)) (hinj : Inj P.pts bt) (hwf : Wf P) (hvk : q.vk = .map (some km)) (i : Nat) (t : Pt) (ht : P.pts[i]? = some t) (op : Int) (ad : Nat) (data now : Int) (pt : PT) (cs : Array Value) (tt ty : TypeId) (hobj : pt.obj = some (.cells cs tt (0, 0))) (htv : ∀ b, pt.tv b = .iface ty (.pointer (some ⟨b, 0, none⟩)))
    (htt : tt ≠ 78 ∧ tt ≠ 98 ∧ tt ≠ 96 ∧ tt ≠ 93 ∧ tt ≠ 130) (KB : Calls Try.prog 51 #[.map (some km), .agg #[.int .i64 (i : Int), .int .i64 op, .int .i64 (ad : Int), .int .i64 data]] (W.alloc (mvO i op ad data)).drew fun e w' => e = .returned (.iface ty (.pointer (some ⟨W.heap.size + 1 + 1 + 1, 0, none⟩))) ∧ w' = (((W.alloc (mvO i op ad data)).drew.alloc (mvO i op ad data)).alloc (mvO i op ad data)).alloc (.cells cs tt (0, 0))) :
    Calls Try.prog 39 #[.pointer (some ⟨q.b, 0, none⟩), .agg #[.int .i64 (i : Int), .int .i64 op, .int .i64 (ad : Int), .int .i64 data], .int .i64 now] W fun e w' => e = .returned (.bool true) ∧ ∃ vc' bt' X', Goes W U { q with vc := vc' } ⟨thsOf (P.pts.set i ⟨pt, true, (P.cls.length : Int)⟩) bt', P.n, P.cls ++ [⟨i, op, ad, data, now, -1, -1, 0, 0⟩], [], P.ws, mv, P.lg, ah⟩ X' w' ∧ (∀ k o, Xof (P.pts.set i ⟨pt, true, (P.cls.length : Int)⟩) bt' k o → X' k o) ∧ Inj (P.pts.set i ⟨pt, true, (P.cls.length : Int)⟩) bt' := by
  have hths : (thsOf P.pts bt)[i]? = some (t.th (bt i)) := by rw [thsOf_get, ht]; rfl
  refine (machBegin_some (q := { q with vc := vc }) hM (by have := hwf.cls; have := hwf.n; simp only; omega) i _ hths op ad data now ty (.pointer (some ⟨W.heap.size + 1 + 1 + 1, 0, none⟩)) (W.heap.size + 1 + 1 + 1) cs tt (by omega) km hvk htt ?_).mono ?_
  · show Calls Try.prog 51 #[q.vk, _] _ _
    rw [hvk]
    refine KB.mono ?_
    rintro e w' ⟨rfl, rfl⟩
    refine ⟨rfl, ?_, ?_⟩
    · exact (((Below.refl (W.heap.size + 1) _).alloc (by simp) _).alloc (by simp) _).alloc (by simp) _
    · have := heap_alloc_new (((W.alloc (mvO i op ad data)).drew.alloc (mvO i op ad data)).alloc (mvO i op ad data)) (.cells cs tt (0, 0))
      simpa using this
  · rintro e w' ⟨rfl, vc', hg⟩
    refine ⟨rfl, vc', (fun k => if k = i then W.heap.size + 1 + 1 + 1 else bt k), _, ?_, xof_new hobj, inj_new hinj (fun j u hj hu e => ?_)⟩
    · have e1 := thsOf_set P.pts bt i ⟨pt, true, (P.cls.length : Int)⟩ (W.heap.size + 1 + 1 + 1)
      rw [← e1]
      simp only [Pt.th, htv]
      exact hg
    · obtain ⟨o, ho⟩ : ∃ o, u.tk.obj = some o := by
        obtain ⟨tk, fr, call⟩ := u
        cases tk <;> first | exact ⟨_, rfl⟩ | cases hu
      have h1 := hM.1 (bt j) o ⟨j, u, hj, rfl, ho⟩
      have := hM.2.ul _ h1.2.1
      omega
theorem move_ownG (h : RG W U K q km lim P) (hlim : lim ≤ P.ws.length) (th op arg data : Int) :
    Calls Try.prog 14 #[.pointer (some ⟨q.b, 0, none⟩), .agg #[.int .i64 th, .int .i64 op, .int .i64 arg, .int .i64 data]] W fun e w' => e = .returned (.bool (P.moveL lim th op arg data).2) ∧ OutG W U K q km lim (P.moveL lim th op arg data).1 w' := by
  by_cases hfull : 65536 ≤ P.n
  · have e : P.moveL lim th op arg data = (P, false) := by unfold Pm.moveL; split <;> simp [Pm.move, hfull]
    rw [e]
    obtain ⟨S, vl, va, vc, mv, ah, bt, hM, _⟩ := id h
    refine (mv_full th op arg data hM (by simp; omega)).mono ?_
    rintro e w' ⟨rfl, hB⟩
    exact ⟨rfl, OutG.same h hB⟩
  obtain ⟨S, vl, va, vc, mv, ah, bt, hM, hinj, hah, hK, hKU, hwf, hvk⟩ := h
  have hn : P.n < 65536 := by omega
  have hnt : P.pts.length = q.nt := by rw [← thsOf_length P.pts bt]; exact hM.nt
  by_cases hin : 0 ≤ th ∧ th < P.pts.length
  · obtain ⟨i, rfl⟩ : ∃ i : Nat, th = i := ⟨th.toNat, by omega⟩
    have hil : i < P.pts.length := by omega
    obtain ⟨t, ht⟩ : ∃ t, P.pts[i]? = some t := ⟨_, List.getElem?_eq_getElem hil⟩
    have hths : (thsOf P.pts bt)[i]? = some (t.th (bt i)) := by rw [thsOf_get, ht]; rfl
    have em : P.moveL lim i op arg data = if op = 0 then P.count.step i t P.n else if t.tk.busy = true then (P.count, false) else if (op = 1 ∨ op = 2) ∧ 0 ≤ arg ∧ arg < lim then P.count.begins i op arg data P.n else (P.count, false) := by
      have e1 : P.move i op arg data = if op = 0 then P.count.step i t P.n else if t.tk.busy = true then (P.count, false) else P.count.begins i op arg data P.n := by
        unfold Pm.move
        rw [if_neg hfull, if_pos hin, Int.toNat_natCast, ht]
      have e2 : P.move (-1) 0 0 0 = (P.count, false) := by
        unfold Pm.move
        rw [if_neg hfull, if_neg (by omega)]
      unfold Pm.moveL
      by_cases hr : (op = 1 ∨ op = 2) ∧ (lim : Int) ≤ arg
      · rw [if_pos hr, e2, if_neg (by omega), if_neg (show ¬ ((op = 1 ∨ op = 2) ∧ 0 ≤ arg ∧ arg < lim) by omega)]
        split <;> rfl
      · rw [if_neg hr, e1]
        by_cases h0 : op = 0
        · rw [if_pos h0, if_pos h0]
        · rw [if_neg h0, if_neg h0]
          split
          · rfl
          · by_cases hk : (op = 1 ∨ op = 2) ∧ 0 ≤ arg ∧ arg < lim
            · rw [if_pos hk]
            · rw [if_neg hk]
              unfold Pm.begins
              rw [if_neg]
              rintro ⟨g1, g2, g3⟩
              exact hk ⟨g1, g2, by omega⟩
    rw [em]
    have cnt := fun (o : Obj) (w : World) (hB : Below (Wn W q.b ((P.n : Int) + 1) o).heap.size (Wn W q.b ((P.n : Int) + 1) o) w) => OutG.counted hM hinj hah hK hKU hwf hvk hn o hB
    by_cases hop : op = 0
    · subst hop
      rw [if_pos rfl]
      cases hb : t.tk.busy
      · have e : P.count.step i t P.n = (P.count, false) := by
          obtain ⟨tk, fr, call⟩ := t
          cases tk <;> first | rfl | cases hb
        rw [e]
        have htv : (t.th (bt i)).tv = .nilIface := by
          obtain ⟨tk, fr, call⟩ := t
          cases tk <;> first | rfl | cases hb
        refine (mv_step hM (by simp; omega) (by simp) i _ hths arg data (R := fun w' => w' = Wn W q.b ((P.n : Int) + 1) (mvO i 0 arg data)) (step_idle (hM.setN ((P.n : Int) + 1) (mvO i 0 arg data)).1 i _ hths htv _)).mono ?_
        rintro e w' ⟨rfl, rfl⟩
        exact ⟨rfl, cnt _ _ (Below.refl _ _)⟩
      · obtain ⟨h1, h2, h3⟩ := hM.setN ((P.n : Int) + 1) (mvO i 0 arg data)
        have h1' : Mch (Wn W q.b ((P.n : Int) + 1) (mvO i 0 arg data)) U S { q with vc := vc } vl va ⟨thsOf P.count.pts bt, (P.count.n : Nat), P.count.cls, [], P.count.ws, mv, P.count.lg, ah⟩ (Xof P.count.pts bt) := by
          have e : ((P.count.n : Nat) : Int) = (P.n : Int) + 1 := by simp [Pm.count]
          rw [e]
          exact h1
        have ST := step_own h1' hinj hah (hwf.count hn) i t ht hb (P.n : Int)
        refine (mv_step hM (by simp; omega) (by simp) i _ hths arg data ST).mono ?_
        rintro e w' ⟨rfl, X', mv', ah', hg, hX, hah'⟩
        have e2 : (P.count.step i t P.n).2 = true := by
          obtain ⟨tk, fr, call⟩ := t
          cases tk with
          | idle => cases hb
          | look ad => rfl
          | bump ad x ld => cases ld <;> simp only [Pm.step] <;> (try split) <;> rfl
        refine ⟨by rw [e2], OutG.of hK hKU hvk h2 hg hX ?_ hah' (by rw [step_ws]) (hwf.step hn i t ht P.n)⟩
        obtain ⟨t', q1, q2, q3, q4⟩ := step_th P.count i t P.n ht
        rw [q1]
        exact inj_set hinj ht q3
    · rw [if_neg hop]
      cases hb : t.tk.busy
      · simp only [Bool.false_eq_true, if_false]
        have htv : (t.th (bt i)).tv = .nilIface := by
          obtain ⟨tk, fr, call⟩ := t
          cases tk <;> first | rfl | cases hb
        obtain ⟨h1, h2, h3⟩ := hM.setN ((P.n : Int) + 1) (mvO i op arg data)
        have h1' : Mch (Wn W q.b ((P.n : Int) + 1) (mvO i op arg data)) U S { q with vc := vc } vl va ⟨thsOf P.count.pts bt, (P.count.n : Nat), P.count.cls, [], P.count.ws, mv, P.count.lg, ah⟩ (Xof P.count.pts bt) := by
          have e : ((P.count.n : Nat) : Int) = (P.n : Int) + 1 := by simp [Pm.count]
          rw [e]
          exact h1
        have hK1 : KG (Wn W q.b ((P.n : Int) + 1) (mvO i op arg data)) K km lim := KG.wn hK hKU hM.2.ub.1 _ _
        have hK2 : KG ((Wn W q.b ((P.n : Int) + 1) (mvO i op arg data)).alloc (mvO i op arg data)).drew K km lim := hK1.kept (fun k hk => Below.heap_alloc _ _ _ (hK1.1 k hk))
        have hs1 : ((Wn W q.b ((P.n : Int) + 1) (mvO i op arg data)).alloc (mvO i op arg data)).drew.heap.size = (Wn W q.b ((P.n : Int) + 1) (mvO i op arg data)).heap.size + 1 := by simp
        by_cases hok : (op = 1 ∨ op = 2) ∧ 0 ≤ arg ∧ arg < lim
        · have eb : P.count.begins i op arg data P.n = ({ P.count with cls := P.cls ++ [⟨i, op, arg, data, P.n, -1, -1, 0, 0⟩], pts := P.pts.set i ⟨if op = 1 then .look arg.toNat else .bump arg.toNat 0 false, true, (P.cls.length : Int)⟩ }, true) := by
            unfold Pm.begins
            exact if_pos ⟨hok.1, hok.2.1, show arg < (P.ws.length : Int) by have := hok.2.2; omega⟩
          have hwf' := hwf.begins hn i op arg data P.n
          rw [if_pos hok]
          rw [eb] at hwf' ⊢
          obtain ⟨hop12, ha0, ha1⟩ := hok
          obtain ⟨ad, rfl⟩ : ∃ ad : Nat, arg = ad := ⟨arg.toNat, by omega⟩
          simp only [Int.toNat_natCast] at hwf' ⊢
          have had : ad < lim := by omega
          have fin := fun (r : Ending → World → Prop) (BG : Calls Try.prog 39 #[.pointer (some ⟨q.b, 0, none⟩), .agg #[.int .i64 (i : Int), .int .i64 op, .int .i64 (ad : Int), .int .i64 data], .int .i64 (P.n : Int)] (Wn W q.b ((P.n : Int) + 1) (mvO i op ad data)) fun e w' => e = .returned (.bool true) ∧ ∃ vc' bt' X', Goes (Wn W q.b ((P.n : Int) + 1) (mvO i op ad data)) U { q with vc := vc' } ⟨thsOf (P.pts.set i ⟨if op = 1 then .look ad else .bump ad 0 false, true, (P.cls.length : Int)⟩) bt', (P.count.n : Nat), P.cls ++ [⟨i, op, ad, data, P.n, -1, -1, 0, 0⟩], [], P.ws, mv, P.lg, ah⟩ X' w' ∧ (∀ k o, Xof (P.pts.set i ⟨if op = 1 then .look ad else .bump ad 0 false, true, (P.cls.length : Int)⟩) bt' k o → X' k o) ∧ Inj (P.pts.set i ⟨if op = 1 then .look ad else .bump ad 0 false, true, (P.cls.length : Int)⟩) bt') => mv_begin hM (by simp; omega) (by simp) i _ hths op ad data hop htv BG
          refine (fin (fun _ _ => True) ?_).mono ?_
          · rcases hop12 with rfl | rfl
            · exact begin_ownG h1' hinj (hwf.count hn) hvk i t ht 1 ad data P.n (.look ad) _ _ _ rfl (fun _ => rfl) (by decide) (by have := (hK2.here).look i data ad had; rw [hs1] at this; exact this)
            · exact begin_ownG h1' hinj (hwf.count hn) hvk i t ht 2 ad data P.n (.bump ad 0 false) _ _ _ rfl (fun _ => rfl) (by decide) (by have := (hK2.here).bump i data ad had; rw [hs1] at this; exact this)
          · rintro e w' ⟨rfl, vc', bt', X', hg, hX, hinj'⟩
            exact ⟨rfl, OutG.of hK hKU hvk h2 hg hX hinj' hah rfl hwf'⟩
        · rw [if_neg hok]
          have KB : Calls Try.prog 51 #[.map (some km), .agg #[.int .i64 (i : Int), .int .i64 op, .int .i64 arg, .int .i64 data]] ((Wn W q.b ((P.n : Int) + 1) (mvO i op arg data)).alloc (mvO i op arg data)).drew fun e w' => e = .returned .nilIface ∧ Below ((Wn W q.b ((P.n : Int) + 1) (mvO i op arg data)).heap.size + 1) ((Wn W q.b ((P.n : Int) + 1) (mvO i op arg data)).alloc (mvO i op arg data)).drew w' := by
            have := (hK2.here).no i op arg data hok
            rw [hs1] at this
            exact this
          refine (mv_begin hM (by simp; omega) (by simp) i _ hths op arg data hop htv (r := false) (R := fun w' => Below (Wn W q.b ((P.n : Int) + 1) (mvO i op arg data)).heap.size (Wn W q.b ((P.n : Int) + 1) (mvO i op arg data)) w') (machBegin_none h1' i op arg data P.n km hvk (by show Calls Try.prog 51 #[q.vk, _] _ _; rw [hvk]; exact KB))).mono ?_
          rintro e w' ⟨rfl, hB⟩
          exact ⟨rfl, cnt _ _ hB⟩
      · simp only [if_true]
        obtain ⟨ty, v, htv⟩ : ∃ ty v, (t.th (bt i)).tv = .iface ty v := by
          obtain ⟨tk, fr, call⟩ := t
          cases tk <;> first | exact ⟨_, _, rfl⟩ | cases hb
        refine (mv_busy hM (by simp; omega) (by simp) i _ hths op arg data hop ty v htv).mono ?_
        rintro e w' ⟨rfl, rfl⟩
        exact ⟨rfl, cnt _ _ (Below.refl _ _)⟩
  · have e : P.moveL lim th op arg data = (P.count, false) := by
      unfold Pm.moveL
      split
      · simp [Pm.move, hfull]
      · simp only [Pm.move, if_neg hfull, if_neg hin]
    rw [e]
    refine (mv_none th op arg data hM (by simp; omega) (by simp) (by simp only; omega)).mono ?_
    rintro e w' ⟨rfl, rfl⟩
    exact ⟨rfl, OutG.counted hM hinj hah hK hKU hwf hvk hn _ (Below.refl _ _)⟩
end
end Go.Proofs.Ytglppcoohojmpaa.Rf
