import Derived.Test.YtnbibkohgppjnaaGreatJ37
import Derived.Test.YtnbibkohgppjnaaGreatJ39
import Derived.Shelf.Abstract
set_option linter.unusedVariables false
set_option linter.unusedSimpArgs false
set_option maxRecDepth 100000
namespace Go.Proofs.YtnbibkohgppjnaaGreat.Ws
open Go.RowKit Go.Shelf Mr Md Wt
attribute [local go_sem] Oper.semAt_some
theorem sl_cell {w : World} {T : Nat → Prop} {b o n cap : Nat} {l : List Int} (h : Sl w T 1 (.slice (some ⟨b, o, none⟩) n cap) n (ints l)) {k : Nat} {u : Int} (hk : l[k]? = some u) : w.cell? ⟨b, o + k, none⟩ = some (.int .i64 u) := by
  have hn : 0 < n := by
    have h1 := h.1
    have h2 := (List.getElem?_eq_some_iff.1 hk).1
    simp [ints] at h1
    omega
  obtain ⟨b', o', cap', hv, _, _, _, hr⟩ := h.there hn
  cases hv
  exact hr k _ (by simp [ints, hk])
def Lpost (sc : List Cq) (nm : List Int) (W : World) (bm : Nat) (vo : Value) (P : Nat) (x : Ct) (od : List Int) (e : Ending) (w' : World) : Prop :=
  Fr W w' (fun k => k = bm ∨ vo.ownBlock = some k) ∧ (∀ g, vo.ownBlock = some g → Kp W w' g od.length) ∧ Seen w' bm (GoodL sc) ∧
  (((spc sc).lm P x = none ∧ e = .returned (.tuple #[.slice none 0 0, .bool false])) ∨
   ∃ l vr, (spc sc).lm P x = some l ∧ e = .returned (.tuple #[vr, .bool true]) ∧ Has w' (fun _ => True) 3 1 vr (od.length + l.length) (ints (od ++ l.map (fun i => nm[i]?.getD 0))) ∧ ∀ k, vr.ownBlock = some k → vo.ownBlock = some k ∨ W.heap.size ≤ k)
theorem has_fr {w w' : World} {e : TypeId} {size n : Nat} {v : Value} {xs : List Value} (h : Has w (fun _ => True) e size v n xs) {S : Nat → Prop} (hf : Fr w w' S) (hd : ∀ k, v.ownBlock = some k → ¬ S k) : Has w' (fun _ => True) e size v n xs :=
  h.kept (fun k hk => hf.block k (h.lt k hk).2 (hd k hk)) (fun _ _ => trivial)
theorem Kp.lt {A B : World} {g c : Nat} (h : Kp A B g c) : g < B.heap.size := by
  obtain ⟨x, y, t, h1, h2, _⟩ := h
  exact (Array.getElem?_eq_some_iff.1 h2).1
def lset (w : World) (n : Nat) (v : Value) (c : Bool) : World := (w.setCell ⟨n + 1 + 1 + 1, 0, none⟩ v).setCell ⟨n + 1 + 1 + 1 + 1, 0, none⟩ (.bool c)
theorem lset_at {w : World} {n : Nat} {u : Value} {b : Bool} (h3 : w.heap[n + 1 + 1 + 1]? = some (.cells #[u] 24 (0, 0))) (h4 : w.heap[n + 1 + 1 + 1 + 1]? = some (.cells #[.bool b] 4 (0, 0))) (v : Value) (c : Bool) :
    (lset w n v c).heap[n + 1 + 1 + 1]? = some (.cells #[v] 24 (0, 0)) ∧ (lset w n v c).heap[n + 1 + 1 + 1 + 1]? = some (.cells #[.bool c] 4 (0, 0)) ∧ Fr w (lset w n v c) (fun k => k = n + 1 + 1 + 1 ∨ k = n + 1 + 1 + 1 + 1) := by
  have b3 : Boxed w (n + 1 + 1 + 1) 24 u := h3
  have b4 : Boxed w (n + 1 + 1 + 1 + 1) 4 (.bool b) := h4
  refine ⟨?_, ?_, ((Fr.refl _ _).setCell _ _ (.inl (.inl rfl))).setCell _ _ (.inl (.inr rfl))⟩
  · unfold lset
    rw [Below.heap_setCell _ _ _ _ (by show n + 1 + 1 + 1 ≠ n + 1 + 1 + 1 + 1; omega)]
    exact b3.set v
  · unfold lset
    have : Boxed (w.setCell ⟨n + 1 + 1 + 1, 0, none⟩ v) (n + 1 + 1 + 1 + 1) 4 (.bool b) := (Below.heap_setCell _ _ _ _ (by show n + 1 + 1 + 1 + 1 ≠ n + 1 + 1 + 1; omega)).trans b4
    exact this.set _
def Rs (sc : List Cq) (nm : List Int) (W : World) (vo : Value) (P : Nat) (x : Ct) (od : List Int) (v : Value) (w : World) : Prop :=
  ((spc sc).lm P x = none ∧ v = .tuple #[.slice none 0 0, .bool false]) ∨
  ∃ l vr, (spc sc).lm P x = some l ∧ v = .tuple #[vr, .bool true] ∧ Has w (fun _ => True) 3 1 vr (od.length + l.length) (ints (od ++ l.map (fun i => nm[i]?.getD 0))) ∧ ∀ k, vr.ownBlock = some k → vo.ownBlock = some k ∨ W.heap.size ≤ k
theorem Rs.tup {sc : List Cq} {nm : List Int} {W : World} {vo : Value} {P : Nat} {x : Ct} {od : List Int} {v : Value} {w : World} (h : Rs sc nm W vo P x od v w) : ∃ a b, v = .tuple #[a, .bool b] := by
  rcases h with ⟨_, h⟩ | ⟨l, vr, _, h, _⟩
  · exact ⟨_, _, h⟩
  · exact ⟨_, _, h⟩
theorem rs_of {sc : List Cq} {nm : List Int} {W Wc : World} {vo vo' : Value} {P : Nat} {x : Ct} {od : List Int} {e : Ending} {w : World} (h : ((spc sc).lm P x = none ∧ e = .returned (.tuple #[.slice none 0 0, .bool false])) ∨ ∃ l vr, (spc sc).lm P x = some l ∧ e = .returned (.tuple #[vr, .bool true]) ∧ Has w (fun _ => True) 3 1 vr (od.length + l.length) (ints (od ++ l.map (fun i => nm[i]?.getD 0))) ∧ ∀ k, vr.ownBlock = some k → vo'.ownBlock = some k ∨ Wc.heap.size ≤ k) (hk : ∀ k, (vo'.ownBlock = some k ∨ Wc.heap.size ≤ k) → vo.ownBlock = some k ∨ W.heap.size ≤ k) : ∃ v, e = .returned v ∧ Rs sc nm W vo P x od v w := by
  rcases h with ⟨h1, h2⟩ | ⟨l, vr, h1, h2, h3, h4⟩
  · exact ⟨_, h2, .inl ⟨h1, rfl⟩⟩
  · exact ⟨_, h2, .inr ⟨l, vr, h1, rfl, h3, fun k q => hk k (h4 k q)⟩⟩
structure Lx (sc : List Cq) (nm : List Int) (W : World) (bm : Nat) (vo : Value) (P : Nat) (x : Ct) (od : List Int) (W1 : World) : Prop where
  fr : Fr W W1 (fun k => k = bm ∨ vo.ownBlock = some k)
  kp : ∀ g, vo.ownBlock = some g → Kp W W1 g od.length
  sn : Seen W1 bm (GoodL sc)
  an : ∃ l vr, (spc sc).lm P x = some l ∧ W1.heap[W.heap.size + 1 + 1 + 1]? = some (.cells #[vr] 24 (0, 0)) ∧ W1.heap[W.heap.size + 1 + 1 + 1 + 1]? = some (.cells #[.bool true] 4 (0, 0)) ∧ Has W1 (fun _ => True) 3 1 vr (od.length + l.length) (ints (od ++ l.map (fun i => nm[i]?.getD 0))) ∧ ∀ k, vr.ownBlock = some k → vo.ownBlock = some k ∨ W.heap.size ≤ k
section
variable {sc : List Cq} {nm : List Int} {W W1 W2 : World} {bm : Nat} {vo : Value} {P : Nat} {x : Ct} {od : List Int}
theorem has_put' {w : World} {e : TypeId} {size n : Nat} {v : Value} {xs : List Value} (h : Has w (fun _ => True) e size v n xs) {l : Nat} {o o' : Obj} (ho : w.heap[l]? = some o) (hc : o.isCells = false) : Has (w.putObj l o') (fun _ => True) e size v n xs := by
  refine ⟨h.1, h.2.imp id ?_⟩
  rintro ⟨g, cap, cur, h1, h2, h3, h4⟩
  exact ⟨g, cap, cur, h1, h2, block_put ho hc h3, h4⟩
theorem Lx.put (h : Lx sc nm W bm vo P x od W1) {l : Nat} {o o' : Obj} (ho : W1.heap[l]? = some o) (hc : o.isCells = false) (hl : W.heap.size ≤ l ∧ bm < W.heap.size) : Lx sc nm W bm vo P x od (W1.putObj l o') := by
  obtain ⟨li, vr, h1, h2, h3, h4, h5⟩ := h.an
  exact ⟨h.fr.trans ((fr_one _ _ _).mono (fun k hk => .inr (by omega))), fun g hg => (h.kp g hg).put ho hc, h.sn.kept (World.putObj_heap_other (by omega)), li, vr, h1, block_put ho hc h2, block_put ho hc h3, has_put' h4 ho hc, h5⟩
theorem Lx.below (h : Lx sc nm W bm vo P x od W1) (hB : Below W1.heap.size W1 W2) : Lx sc nm W bm vo P x od W2 := by
  obtain ⟨li, vr, h1, h2, h3, h4, h5⟩ := h.an
  have g : ∀ {k o}, W1.heap[k]? = some o → W2.heap[k]? = some o := fun {k o} hk => (hB.block k (Array.getElem?_eq_some_iff.1 hk).1).trans hk
  exact ⟨h.fr.trans (Fr.of_below hB), fun g' hg => (h.kp g' hg).then (hB.block _ (h.kp g' hg).lt), h.sn.kept (hB.block _ h.sn.lt), li, vr, h1, g h2, g h3, h4.below hB, h5⟩
end
structure Lm (W : World) (bs bm : Nat) (T : Nat → Prop) (vc vn vo : Value) (sc : List Cq) (nm : List Int) (P : Nat) (v0 v1 v2 v3 v4 : Value) (x : Ct) (od : List Int) (W1 : World) : Prop where
  bx : W1.heap[W.heap.size]? = some (.cells #[.pointer (some ⟨bs, 0, none⟩)] 46 (0, 0))
  ba : W1.heap[W.heap.size + 1]? = some (stO P v0 v1 v2 v3 v4)
  bo : W1.heap[W.heap.size + 1 + 1]? = some (.cells #[vo] 24 (0, 0))
  r0 : W1.heap[W.heap.size + 1 + 1 + 1]? = some (.cells #[.slice none 0 0] 24 (0, 0))
  r1 : W1.heap[W.heap.size + 1 + 1 + 1 + 1]? = some (.cells #[.bool false] 4 (0, 0))
  sb : W1.heap[bs]? = some (sbO vc vn (ahM sc) (enM sc) (.map (some bm)))
  cl : Sl W1 T 9 vc sc.length (cqs sc)
  ct : CtAt W1 T v0 v1 v2 v3 v4 x
  nu : Sl W1 T 1 vn sc.length (ints nm)
  kp : ∀ g, vo.ownBlock = some g → Kp W W1 g od.length
  sn : Seen W1 bm (GoodL sc)
  fr : Fr W W1 (fun k => k = bm ∨ vo.ownBlock = some k)
structure Cl (W : World) (bs bm hb bp ba : Nat) (T : Nat → Prop) (vc vn vo : Value) (sc : List Cq) (nm : List Int) (P : Nat) (v0 v1 v2 v3 v4 : Value) (x : Ct) (ob : Obj) (od : List Int) (W1 : World) : Prop where
  ow : Ow W1 bp ba bs W.heap.size T vc vn (.map (some bm)) (ahM sc) (enM sc) sc P v0 v1 v2 v3 v4 x
  bx : W1.heap[W.heap.size]? = some (.cells #[.pointer (some ⟨bs, 0, none⟩)] 46 (0, 0))
  bo : W1.heap[W.heap.size + 1 + 1]? = some (.cells #[vo] 24 (0, 0))
  r0 : W1.heap[W.heap.size + 1 + 1 + 1]? = some (.cells #[.slice none 0 0] 24 (0, 0))
  r1 : W1.heap[W.heap.size + 1 + 1 + 1 + 1]? = some (.cells #[.bool false] 4 (0, 0))
  hr : W1.heap[hb]? = some ob
  nu : Sl W1 T 1 vn sc.length (ints nm)
  kp : ∀ g, vo.ownBlock = some g → Kp W W1 g od.length
  sn : Seen W1 bm (GoodL sc)
  fr : Fr W W1 (fun k => k = bm ∨ vo.ownBlock = some k)
structure Lk (W : World) (bs bm hb bp ba : Nat) (T : Nat → Prop) (vo : Value) : Prop where
  t : ∀ k, T k → k < W.heap.size ∧ k ≠ bm ∧ vo.ownBlock ≠ some k
  s : bs < W.heap.size ∧ bs ≠ bm ∧ vo.ownBlock ≠ some bs
  m : bm < W.heap.size
  o : ∀ k, vo.ownBlock = some k → k < W.heap.size
  h : W.heap.size + 5 ≤ hb ∧ W.heap.size + 5 ≤ bp ∧ W.heap.size + 5 ≤ ba
section
variable {W W1 W2 : World} {bs bm hb bp ba : Nat} {T : Nat → Prop} {vc vn vo : Value} {sc : List Cq} {nm : List Int} {P : Nat} {v0 v1 v2 v3 v4 : Value} {x : Ct} {ob : Obj} {od : List Int}
theorem Lm.below (h : Lm W bs bm T vc vn vo sc nm P v0 v1 v2 v3 v4 x od W1) (hB : Below W1.heap.size W1 W2) : Lm W bs bm T vc vn vo sc nm P v0 v1 v2 v3 v4 x od W2 := by
  have g : ∀ {k o}, W1.heap[k]? = some o → W2.heap[k]? = some o := fun {k o} hk => (hB.block k (Array.getElem?_eq_some_iff.1 hk).1).trans hk
  exact ⟨g h.bx, g h.ba, g h.bo, g h.r0, g h.r1, g h.sb, h.cl.below hB, h.ct.below hB, h.nu.below hB, fun g' hg => (h.kp g' hg).then (hB.block _ (h.kp g' hg).lt), h.sn.kept (hB.block _ h.sn.lt), h.fr.trans (Fr.of_below hB)⟩
theorem Cl.kept (h : Cl W bs bm hb bp ba T vc vn vo sc nm P v0 v1 v2 v3 v4 x ob od W1) (q : Lk W bs bm hb bp ba T vo) {S : Nat → Prop} (hf : Fr W1 W2 S) (hS : ∀ k, S k → k = bm ∨ vo.ownBlock = some k ∨ (W.heap.size + 5 ≤ k ∧ k ≠ hb ∧ k ≠ bp ∧ k ≠ ba)) (hod : ∀ g, vo.ownBlock = some g → Kp W W2 g od.length) (hsn : Seen W2 bm (GoodL sc)) : Cl W bs bm hb bp ba T vc vn vo sc nm P v0 v1 v2 v3 v4 x ob od W2 := by
  obtain ⟨hh1, hh2, hh3⟩ := q.h
  obtain ⟨hs1, hs2, hs3⟩ := q.s
  have hm := q.m
  have out : ∀ k, W.heap.size ≤ k → (k < W.heap.size + 5 ∨ k = hb ∨ k = bp ∨ k = ba) → ¬ S k := fun k h1 h2 e => by
    rcases hS k e with e | e | ⟨e1, e2, e3, e4⟩
    · omega
    · have := q.o k e; omega
    · rcases h2 with h2 | h2 | h2 | h2
      · omega
      · exact e2 h2
      · exact e3 h2
      · exact e4 h2
  have inT : ∀ k, T k → ¬ S k := fun k hk e => by
    obtain ⟨t1, t2, t3⟩ := q.t k hk
    rcases hS k e with e | e | ⟨e1, _⟩
    · exact t2 e
    · exact t3 e
    · omega
  have ins : ¬ S bs := fun e => by
    rcases hS bs e with e | e | ⟨e1, _⟩
    · exact hs2 e
    · exact hs3 e
    · omega
  have g : ∀ {k o}, W1.heap[k]? = some o → ¬ S k → W2.heap[k]? = some o := fun {k o} hk hn => (hf.block k (Array.getElem?_eq_some_iff.1 hk).1 hn).trans hk
  exact ⟨⟨g h.ow.hp (out _ (by omega) (.inr (.inr (.inl rfl)))), g h.ow.ha (out _ (by omega) (.inr (.inr (.inr rfl)))), g h.ow.sb ins, h.ow.cl.fr hf (fun k hk _ => inT k hk), h.ow.ct.fr hf (fun k hk _ => inT k hk), Nat.le_trans h.ow.sz hf.size⟩, g h.bx (out _ (by omega) (.inl (by omega))), g h.bo (out _ (by omega) (.inl (by omega))), g h.r0 (out _ (by omega) (.inl (by omega))), g h.r1 (out _ (by omega) (.inl (by omega))), g h.hr (out _ (by omega) (.inr (.inl rfl))), h.nu.fr hf (fun k hk _ => inT k hk), hod, hsn, h.fr.trans (hf.mono (fun k hk => by
    rcases hS k hk with e | e | ⟨e, _⟩
    · exact .inl (.inl e)
    · exact .inl (.inr e)
    · exact .inr (by omega)))⟩
theorem Cl.below (h : Cl W bs bm hb bp ba T vc vn vo sc nm P v0 v1 v2 v3 v4 x ob od W1) (q : Lk W bs bm hb bp ba T vo) (hB : Below W1.heap.size W1 W2) : Cl W bs bm hb bp ba T vc vn vo sc nm P v0 v1 v2 v3 v4 x ob od W2 :=
  h.kept q (S := fun _ => False) (Fr.of_below hB) (fun _ e => e.elim) (fun g hg => (h.kp g hg).then (hB.block _ (h.kp g hg).lt)) (h.sn.kept (hB.block bm h.sn.lt))
theorem Cl.put (h : Cl W bs bm hb bp ba T vc vn vo sc nm P v0 v1 v2 v3 v4 x ob od W1) (q : Lk W bs bm hb bp ba T vo) {l : Nat} {o' : Obj} (hl : W.heap.size + 5 ≤ l ∧ l ≠ hb ∧ l ≠ bp ∧ l ≠ ba) : Cl W bs bm hb bp ba T vc vn vo sc nm P v0 v1 v2 v3 v4 x ob od (W1.putObj l o') := by
  have hm := q.m
  refine h.kept q (S := fun k => k = l) (fr_one _ _ _) (fun k e => .inr (.inr (by subst e; exact hl))) ?_ (h.sn.kept (World.putObj_heap_other (by omega)))
  exact fun g hg => (h.kp g hg).then (World.putObj_heap_other (by have := q.o g hg; omega))
theorem Lm.asked (h : Lm W bs bm T vc vn vo sc nm P v0 v1 v2 v3 v4 x od W1) (hh : W1.heap[hb]? = some ob) : Cl W bs bm hb W1.heap.size (W1.heap.size + 1) T vc vn vo sc nm P v0 v1 v2 v3 v4 x ob od ((W1.alloc (.cells #[.pointer (some ⟨bs, 0, none⟩)] 46 (0, 0))).alloc (stO P v0 v1 v2 v3 v4)) := by
  have hB : Below W1.heap.size W1 ((W1.alloc (.cells #[.pointer (some ⟨bs, 0, none⟩)] 46 (0, 0))).alloc (stO P v0 v1 v2 v3 v4)) := ((Below.refl _ _).alloc (Nat.le_refl _) _).alloc (by simp) _
  have h2 := h.below hB
  refine ⟨⟨?_, ?_, h2.sb, h2.cl, h2.ct, h2.fr.size⟩, h2.bx, h2.bo, h2.r0, h2.r1, (hB.block _ (Array.getElem?_eq_some_iff.1 hh).1).trans hh, h2.nu, h2.kp, h2.sn, h2.fr⟩
  · rw [heap_alloc_old _ _ (by simp), heap_alloc_new]
  · have := heap_alloc_new (W1.alloc (.cells #[.pointer (some ⟨bs, 0, none⟩)] 46 (0, 0))) (stO P v0 v1 v2 v3 v4)
    rw [World.size_alloc] at this
    exact this
end
set_option maxHeartbeats 16000000 in
theorem least_any {sc : List Cq} {nm : List Int} (hsc : sc.length ≤ 8) (hnm : nm.length = sc.length) (hob : ∀ c ∈ sc, obj c.op ≠ 0) (hwc : ∀ c ∈ sc, WfC c) : ∀ (r : Nat) {W : World} {bs bm : Nat} {T : Nat → Prop} {vc vn vo : Value} {P : Nat} {v0 v1 v2 v3 v4 : Value} {x : Ct} {od : List Int}, room sc.length P ≤ r → P < 256 → May x → Few (sc.length - room sc.length P) x → WfX x → od.length + room sc.length P ≤ 8 → Sr W bs bm T vc vn sc (GoodL sc) → CtAt W T v0 v1 v2 v3 v4 x → Sl W T 1 vn sc.length (ints nm) → Has W (fun _ => True) 3 1 vo od.length (ints od) → (∀ k, vo.ownBlock = some k → ¬ T k ∧ k ≠ bs ∧ k ≠ bm) →
    Calls Tryz.prog 16 #[.pointer (some ⟨bs, 0, none⟩), .agg #[gv P, v0, v1, v2, v3, v4], vo] W fun e w' => Lpost sc nm W bm vo P x od e w' := by
  intro r
  induction r using Nat.strongRecOn with
  | _ r IH =>
  intro W bs bm T vc vn vo P v0 v1 v2 v3 v4 x od hr hP hm hFw hwx hol hS0 hx0 hn0 hod hvo0
  have hF : Few 8 x := by unfold Few at *; omega
  obtain ⟨T', hT'⟩ : ∃ T' : Nat → Prop, T' = fun k => T k ∧ k < W.heap.size := ⟨_, rfl⟩
  have hx : CtAt W T' v0 v1 v2 v3 v4 x := by rw [hT']; exact ct_inb hx0
  have hS : Sr W bs bm T' vc vn sc (GoodL sc) := by rw [hT']; exact ⟨hS0.sb, sl_inb hS0.cl, hS0.sn, fun e => hS0.nT e.1, hS0.ne⟩
  have hnu : Sl W T' 1 vn sc.length (ints nm) := by rw [hT']; exact sl_inb hn0
  have hTl : ∀ k, T' k → k < W.heap.size := by rw [hT']; exact fun k hk => hk.2
  have hvo : ∀ k, vo.ownBlock = some k → ¬ T' k ∧ k ≠ bs ∧ k ≠ bm ∧ k < W.heap.size := fun k hk => by rw [hT']; exact ⟨fun e => (hvo0 k hk).1 e.1, (hvo0 k hk).2.1, (hvo0 k hk).2.2, (hod.lt k hk).2⟩
  clear hT' hS0 hx0 hn0 hvo0
  replace IH := Mr.hid IH
  have hbs : bs < W.heap.size := (sb_cells hS.sb).1
  have hbm : bm < W.heap.size := hS.sn.lt
  obtain ⟨a0, c0, rfl, h0⟩ := hx.cell.form
  obtain ⟨a1, c1, rfl, h1⟩ := hx.stack.form
  obtain ⟨a2, c2, rfl, h2⟩ := hx.queue.form
  obtain ⟨a3, c3, rfl, h3⟩ := hx.set.form
  obtain ⟨a4, c4, rfl, h4⟩ := hx.table.form
  obtain ⟨ao, co, hvf, h5⟩ := hod.form
  subst hvf
  obtain ⟨W5, hW5⟩ : ∃ W5, ((((W.alloc (.cells #[.pointer (some ⟨bs, 0, none⟩)] 46 (0, 0))).alloc (stO P (.slice a0 x.cell.length c0) (.slice a1 x.stack.length c1) (.slice a2 x.queue.length c2) (.slice a3 x.set.length c3) (.slice a4 x.table.length c4))).alloc (.cells #[.slice ao od.length co] 24 (0, 0))).alloc (.cells #[.slice none 0 0] 24 (0, 0))).alloc (.cells #[.bool false] 4 (0, 0)) = W5 := ⟨_, rfl⟩
  have hB5 : Below W.heap.size W W5 := by rw [← hW5]; exact ((((((Below.refl _ _).alloc (Nat.le_refl _) _).alloc (by simp) _).alloc (by simp <;> omega) _).alloc (by simp <;> omega) _).alloc (by simp <;> omega) _)
  have hs5 : W5.heap.size = W.heap.size + 5 := by rw [← hW5]; simp
  have q0 : W5.heap[W.heap.size]? = some (.cells #[.pointer (some ⟨bs, 0, none⟩)] 46 (0, 0)) := by
    rw [← hW5, heap_alloc_old _ _ (by simp <;> omega), heap_alloc_old _ _ (by simp <;> omega), heap_alloc_old _ _ (by simp <;> omega), heap_alloc_old _ _ (by simp), heap_alloc_new]
  have q1 : W5.heap[W.heap.size + 1]? = some (stO P (.slice a0 x.cell.length c0) (.slice a1 x.stack.length c1) (.slice a2 x.queue.length c2) (.slice a3 x.set.length c3) (.slice a4 x.table.length c4)) := by
    rw [← hW5, heap_alloc_old _ _ (by simp <;> omega), heap_alloc_old _ _ (by simp <;> omega), heap_alloc_old _ _ (by simp)]
    have := heap_alloc_new (W.alloc (.cells #[.pointer (some ⟨bs, 0, none⟩)] 46 (0, 0))) (stO P (.slice a0 x.cell.length c0) (.slice a1 x.stack.length c1) (.slice a2 x.queue.length c2) (.slice a3 x.set.length c3) (.slice a4 x.table.length c4))
    rw [World.size_alloc] at this
    exact this
  have q2 : W5.heap[W.heap.size + 1 + 1]? = some (.cells #[.slice ao od.length co] 24 (0, 0)) := by
    rw [← hW5, heap_alloc_old _ _ (by simp <;> omega), heap_alloc_old _ _ (by simp)]
    have := heap_alloc_new ((W.alloc (.cells #[.pointer (some ⟨bs, 0, none⟩)] 46 (0, 0))).alloc (stO P (.slice a0 x.cell.length c0) (.slice a1 x.stack.length c1) (.slice a2 x.queue.length c2) (.slice a3 x.set.length c3) (.slice a4 x.table.length c4))) (.cells #[.slice ao od.length co] 24 (0, 0))
    rw [World.size_alloc, World.size_alloc] at this
    exact this
  have q3 : W5.heap[W.heap.size + 1 + 1 + 1]? = some (.cells #[.slice none 0 0] 24 (0, 0)) := by
    rw [← hW5, heap_alloc_old _ _ (by simp)]
    have := heap_alloc_new (((W.alloc (.cells #[.pointer (some ⟨bs, 0, none⟩)] 46 (0, 0))).alloc (stO P (.slice a0 x.cell.length c0) (.slice a1 x.stack.length c1) (.slice a2 x.queue.length c2) (.slice a3 x.set.length c3) (.slice a4 x.table.length c4))).alloc (.cells #[.slice ao od.length co] 24 (0, 0))) (.cells #[.slice none 0 0] 24 (0, 0))
    rw [World.size_alloc, World.size_alloc, World.size_alloc] at this
    exact this
  have q4 : W5.heap[W.heap.size + 1 + 1 + 1 + 1]? = some (.cells #[.bool false] 4 (0, 0)) := by
    rw [← hW5]
    have := heap_alloc_new ((((W.alloc (.cells #[.pointer (some ⟨bs, 0, none⟩)] 46 (0, 0))).alloc (stO P (.slice a0 x.cell.length c0) (.slice a1 x.stack.length c1) (.slice a2 x.queue.length c2) (.slice a3 x.set.length c3) (.slice a4 x.table.length c4))).alloc (.cells #[.slice ao od.length co] 24 (0, 0))).alloc (.cells #[.slice none 0 0] 24 (0, 0))) (.cells #[.bool false] 4 (0, 0))
    rw [World.size_alloc, World.size_alloc, World.size_alloc, World.size_alloc] at this
    exact this
  have sb5 := (hB5.block _ hbs).trans hS.sb
  have c50 : W5.cell? ⟨W.heap.size, 0, none⟩ = some (.pointer (some ⟨bs, 0, none⟩)) := by simp [World.cell?, q0]
  obtain ⟨_, p0, p1, p2, p3, p4, p5⟩ := st_cells q1
  have CW := whole_any sb5 (mks_lt _ _ hsc) hP (.slice a0 x.cell.length c0) (.slice a1 x.stack.length c1) (.slice a2 x.queue.length c2) (.slice a3 x.set.length c3) (.slice a4 x.table.length c4)
  rw [en_whl sc hsc] at CW
  replace CW := Mr.hid CW
  have C5 : Hid (Lm W bs bm T' vc vn (.slice ao od.length co) sc nm P (.slice a0 x.cell.length c0) (.slice a1 x.stack.length c1) (.slice a2 x.queue.length c2) (.slice a3 x.set.length c3) (.slice a4 x.table.length c4) x od W5) := Mr.hid ⟨q0, q1, q2, q3, q4, sb5, hS.cl.below hB5, hx.below hB5, hnu.below hB5, fun g hg => Kp.of_has hod hg (hB5.block _ (hod.lt g hg).2), hS.sn.kept (hB5.block _ hbm), Fr.of_below hB5⟩
  have hsz5 : W.heap.size + 5 ≤ W5.heap.size := by omega
  refine (callsIn_wide (n := 5)).1 ?_
  refine callsIn_of_wp_marks Tryz.func16 rfl trivial ?_ rfl
  simp only [Tryz.ntmps16, List.size_toArray, List.length_cons, List.length_nil, Nat.reduceAdd, Nat.reduceSub, Array.replicate_succ, Array.replicate_zero, List.push_toArray, List.append_toArray, List.nil_append, List.cons_append]
  refine wpIn_mono (Q := noPan _) ?_ noPan_le
  refine wpIn_wide.2 ?_
  unfold stO gv at *
  go_upto_region 1 with (fail)
  clear hW5 q0 q1 q2 q3 q4 sb5 hB5
  cases hwb : whlB sc P with
  | true =>
    rw [hwb] at CW
    go_upto_region 2 with (go_at_call 30; refine CW.out.mono ?_; rintro e w6 ⟨rfl, hB6⟩)
    have C6 := C5.out.below hB6
    have e2 : w6.cell? ⟨W.heap.size + 1 + 1, 0, none⟩ = some (.slice ao od.length co) := by simp [World.cell?, C6.bo]
    have e3 : w6.cell? ⟨W.heap.size + 1 + 1 + 1, 0, none⟩ = some (.slice none 0 0) := by simp [World.cell?, C6.r0]
    have e4 : w6.cell? ⟨W.heap.size + 1 + 1 + 1 + 1, 0, none⟩ = some (.bool false) := by simp [World.cell?, C6.r1]
    have f3 : w6.frozen? ⟨W.heap.size + 1 + 1 + 1, 0, none⟩ = false := by simp [World.frozen?, C6.r0]
    have f4 : w6.frozen? ⟨W.heap.size + 1 + 1 + 1 + 1, 0, none⟩ = false := by simp [World.frozen?, C6.r1]
    have C6' := Mr.hid C6
    clear C6 C5 CW hB6 c50 p0 p1 p2 p3 p4 p5
    go_wp2
    have n3 : (w6.setCell ⟨W.heap.size + 1 + 1 + 1, 0, none⟩ (.slice ao od.length co)).setCell ⟨W.heap.size + 1 + 1 + 1 + 1, 0, none⟩ (.bool true) = lset w6 W.heap.size (.slice ao od.length co) true := rfl
    rw [n3]
    obtain ⟨g3, g4, hfr⟩ := lset_at C6'.out.r0 C6'.out.r1 (.slice ao od.length co) true
    have hkL : ∀ g, (Value.slice ao od.length co).ownBlock = some g → Kp W (lset w6 W.heap.size (.slice ao od.length co) true) g od.length := fun g hg => (C6'.out.kp g hg).then (hfr.block _ (C6'.out.kp g hg).lt (by have := (hvo g hg).2.2.2; omega))
    have hvL := has_kp hod (by simpa using hkL)
    refine ⟨.tuple #[.slice ao od.length co, .bool true], by simp [results, Tryz.f16, go_sem, World.cell?, g3, g4], C6'.out.fr.trans (hfr.mono (fun k hk => .inr (by omega))), hkL, C6'.out.sn.kept (hfr.block _ C6'.out.sn.lt (by omega)), .inr ⟨[], _, (spc sc).lm_whole hwb, rfl, by simpa using hvL, fun k hk => .inl hk⟩⟩
  | false =>
    rw [hwb] at CW
    go_upto_region 3 with (go_at_call 30; refine CW.out.mono ?_; rintro e w6 ⟨rfl, hB6⟩)
    have C6 := Mr.hid (C5.out.below hB6)
    have hs6 : W.heap.size + 5 ≤ w6.heap.size := Nat.le_trans hsz5 hB6.size
    have CT := sight_any hP C6.out.ct hF
    unfold gv at CT
    replace CT := Mr.hid CT
    clear C5 CW hB6 c50 p0 p1 p2 p3 p4 p5
    obtain ⟨_, p0, p1, p2, p3, p4, p5⟩ := st_cells C6.out.ba
    have hk := is_key (sgt_len (P := P) hF) (wf_sgt hP hF hwx)
    have hle := sgt_len (P := P) hF
    have hle : Hid ((ints (sgt P x)).length = 22) := by show _ = _; rw [ints, List.length_map]; exact hle
    have h1c := Mr.hid (ints_one' (sgt P x))
    generalize hcs : ints (sgt P x) = cs at *
    replace hcs := Mr.hid hcs
    have TH : Hid (∀ w1 : World, (w1.alloc (.cells #[.int .i64 0, .int .i64 0, .int .i64 0, .int .i64 0, .int .i64 0, .int .i64 0, .int .i64 0, .int .i64 0, .int .i64 0, .int .i64 0, .int .i64 0, .int .i64 0, .int .i64 0, .int .i64 0, .int .i64 0, .int .i64 0, .int .i64 0, .int .i64 0, .int .i64 0, .int .i64 0, .int .i64 0, .int .i64 0] 73 (0, 0))).there w1.heap.size 0 22) := Mr.hid (fun w1 => there_new w1 _ (by rfl))
    go_upto_region 4 with (first | (go_at_call 31; refine CT.out.mono ?_; rintro e w1 ⟨rfl, hB1⟩) | (refine wpList_store_mid rfl 73 (.tmp 8) (.tmp 20) rfl w1.heap.size 0 cs.toArray rfl rfl (by simpa [hle.out] using TH.out w1) (by simp only [List.size_toArray, hle.out]; kernel_rfl) (all_oneCell_toArray h1c.out) ?_))
    generalize hWk : World.setCells _ _ _ _ = Wk
    have RG : Hid (Wk.rangeAt w1.heap.size 0 cs) := by rw [← hWk]; exact Mr.hid (World.rangeAt_setCells_same _ _ _ _ (by rw [hle.out]; exact TH.out w1))
    have BK : Below w1.heap.size w1 Wk := by rw [← hWk]; exact below_cells _ _ _ ((Below.refl _ _).alloc (Nat.le_refl _) _) (Nat.le_refl _)
    clear hWk TH CT
    have hs1 : W.heap.size + 5 ≤ w1.heap.size := Nat.le_trans hs6 hB1.size
    have Ck := Mr.hid ((C6.out.below hB1).below BK)
    clear C6 hB1 p0 p1 p2 p3 p4 p5
    have SN := Ck.out.sn
    have cb := (sb_cells Ck.out.sb).2.2.2.2
    have cp : Wk.cell? ⟨W.heap.size, 0, none⟩ = some (.pointer (some ⟨bs, 0, none⟩)) := by simp [World.cell?, Ck.out.bx]
    have LK := SN.kept (W' := Wk.drew) rfl |>.look hk
    obtain ⟨lv, lb, LK, hlv⟩ : ∃ lv lb, (Instr.lookup 65 (.map (some bm)) (.agg cs.toArray) true).run Tryz.prog Wk.drew = .ok (.tuple #[lv, .bool lb]) Wk.drew ∧ (lb = true → (spc sc).lm P x = none) := by
      rcases LK with h | ⟨v, hg, h⟩
      · exact ⟨_, false, h, fun e => by cases e⟩
      · exact ⟨v, true, h, fun _ => hg P x (by rw [hcs.out])⟩
    replace LK := Mr.hid LK
    replace hlv := Mr.hid hlv
    refine wp_region_held_drew (S := fun w' => w' = Wk.drew) (by kernel_rfl) rfl (fun hS' => ?_)
    try simp only [Act.put, LA, LB, LC, LD, LE, LF]
    refine wpAnyH_take (i := 0) (v := .pointer (some ⟨bs, 0, none⟩)) rfl (by kernel_rfl) (by kernel_rfl) (by kernel_rfl) (fun _ _ _ h => h) (Or.inl ⟨by kernel_rfl, fun w' hw => by subst hw; go_simp⟩) hS' ?_
    try simp only [Act.put, LA, LB, LC, LD, LE, LF]
    refine wpAnyH_take (i := 1) (v := .pointer (some ⟨bs, 0, none⟩)) rfl (by kernel_rfl) (by kernel_rfl) (by kernel_rfl) (fun _ _ _ h => h) (Or.inl ⟨by kernel_rfl, fun w' hw => by subst hw; go_simp⟩) hS' ?_
    try simp only [Act.put, LA, LB, LC, LD, LE, LF]
    refine wpAnyH_take (i := 2) (v := .pointer (some ⟨bs, 11, none⟩)) rfl (by kernel_rfl) (by kernel_rfl) (by kernel_rfl) (fun _ _ _ h => h) (Or.inl ⟨by kernel_rfl, fun w' hw => by subst hw; go_simp⟩) hS' ?_
    try simp only [Act.put, LA, LB, LC, LD, LE, LF]
    refine wpAnyH_take (i := 3) (v := .map (some bm)) rfl (by kernel_rfl) (by kernel_rfl) (by kernel_rfl) (fun _ _ _ h => h) (Or.inl ⟨by kernel_rfl, fun w' hw => by subst hw; go_simp⟩) hS' ?_
    try simp only [Act.put, LA, LB, LC, LD, LE, LF]
    refine wpAnyH_take (i := 4) (v := .agg cs.toArray) rfl (by kernel_rfl) (by kernel_rfl) (by kernel_rfl) (fun _ _ _ h => h) (yieldsIf_load_mid (by kernel_rfl) 73 (.tmp 8) rfl w1.heap.size 0 rfl cs (.array 22 3) (fun w' hw => by subst hw; exact RG.out) (by kernel_rfl) rfl (by rw [hle.out]; kernel_rfl)) hS' ?_
    try simp only [Act.put, LA, LB, LC, LD, LE, LF]
    refine wpAnyH_take (i := 5) (v := .tuple #[lv, .bool lb]) rfl (by kernel_rfl) (by kernel_rfl) (by kernel_rfl) (fun _ _ _ h => h) (Or.inl ⟨by kernel_rfl, fun w' hw => by subst hw; exact run_look (LK.out)⟩) hS' ?_
    try simp only [Act.put, LA, LB, LC, LD, LE, LF]
    refine wpAnyH_take (i := 6) (v := .tuple #[lv, .bool lb]) rfl (by kernel_rfl) (by kernel_rfl) (by kernel_rfl) (fun _ _ _ h => h) (Or.inl ⟨by kernel_rfl, fun w' hw => by subst hw; go_simp⟩) hS' ?_
    try simp only [Act.put, LA, LB, LC, LD, LE, LF]
    refine wpAnyH_take (i := 7) (v := lv) rfl (by kernel_rfl) (by kernel_rfl) (by kernel_rfl) (fun _ _ _ h => h) (Or.inl ⟨by kernel_rfl, fun w' hw => by subst hw; go_simp⟩) hS' ?_
    try simp only [Act.put, LA, LB, LC, LD, LE, LF]
    refine wpAnyH_take (i := 8) (v := .bool lb) rfl (by kernel_rfl) (by kernel_rfl) (by kernel_rfl) (fun _ _ _ h => h) (Or.inl ⟨by kernel_rfl, fun w' hw => by subst hw; go_simp⟩) hS' ?_
    try simp only [Act.put, LA, LB, LC, LD, LE, LF]
    refine wpAnyH_take (i := 9) (v := lv) rfl (by kernel_rfl) (by kernel_rfl) (by kernel_rfl) (fun _ _ _ h => h) (Or.inl ⟨by kernel_rfl, fun w' hw => by subst hw; go_simp⟩) hS' ?_
    try simp only [Act.put, LA, LB, LC, LD, LE, LF]
    refine wpAnyH_take (i := 10) (v := .bool lb) rfl (by kernel_rfl) (by kernel_rfl) (by kernel_rfl) (fun _ _ _ h => h) (Or.inl ⟨by kernel_rfl, fun w' hw => by subst hw; go_simp⟩) hS' ?_
    try simp only [Act.put, LA, LB, LC, LD, LE, LF]
    refine wpAnyH_done (by kernel_rfl) ?_ _
    cases lb with
    | true =>
      have e3 : Wk.cell? ⟨W.heap.size + 1 + 1 + 1, 0, none⟩ = some (.slice none 0 0) := by simp [World.cell?, Ck.out.r0]
      have e4 : Wk.cell? ⟨W.heap.size + 1 + 1 + 1 + 1, 0, none⟩ = some (.bool false) := by simp [World.cell?, Ck.out.r1]
      have f3 : Wk.frozen? ⟨W.heap.size + 1 + 1 + 1, 0, none⟩ = false := by simp [World.frozen?, Ck.out.r0]
      have f4 : Wk.frozen? ⟨W.heap.size + 1 + 1 + 1 + 1, 0, none⟩ = false := by simp [World.frozen?, Ck.out.r1]
      have hno := Mr.hid (hlv.out rfl)
      clear hlv
      go_wp2
      have n3 : (Wk.setCell ⟨W.heap.size + 1 + 1 + 1, 0, none⟩ (.slice none 0 0)).setCell ⟨W.heap.size + 1 + 1 + 1 + 1, 0, none⟩ (.bool false) = lset Wk W.heap.size (.slice none 0 0) false := rfl
      rw [n3]
      obtain ⟨g3, g4, hfr⟩ := lset_at Ck.out.r0 Ck.out.r1 (.slice none 0 0) false
      have g3c : (lset Wk W.heap.size (.slice none 0 0) false).drew.cell? ⟨W.heap.size + 1 + 1 + 1, 0, none⟩ = some (.slice none 0 0) := cell_of g3
      have g4c : (lset Wk W.heap.size (.slice none 0 0) false).drew.cell? ⟨W.heap.size + 1 + 1 + 1 + 1, 0, none⟩ = some (.bool false) := cell_of g4
      refine ⟨.tuple #[.slice none 0 0, .bool false], by simp [results, Tryz.f16, go_sem, g3c, g4c], (Ck.out.fr.trans (hfr.mono (fun k hk => .inr (by omega)))).drew, fun g hg => (Ck.out.kp g hg).then (hfr.block _ (Ck.out.kp g hg).lt (by have := (hvo g hg).2.2.2; omega)), SN.kept (hfr.block _ SN.lt (by omega)), .inl ⟨hno.out, rfl⟩⟩
    | false =>
      have hlt1 : w1.heap.size < Wk.heap.size := by
        have h0 := RG.out 0 _ (List.getElem?_eq_getElem (by have := hle.out; omega))
        rcases Nat.lt_or_ge w1.heap.size Wk.heap.size with h | h
        · exact h
        · simp [World.cell?, Array.getElem?_eq_none h] at h0
      obtain ⟨ob, hob1⟩ : ∃ ob, Wk.heap[w1.heap.size]? = some ob := ⟨_, Array.getElem?_eq_getElem hlt1⟩
      have hRG : Hid (∀ W' : World, W'.heap[w1.heap.size]? = some ob → W'.rangeAt w1.heap.size 0 cs) := Mr.hid (fun W' h j v hj => by
        have := RG.out j v hj
        unfold World.cell? at this ⊢
        rw [h]
        rw [hob1] at this
        exact this)
      obtain ⟨_, p0, p1, p2, p3, p4, p5⟩ := st_cells Ck.out.ba
      have CO := Mr.hid (onward_any (W := Wk.drew) (b := bs) (P := P) (.slice a0 x.cell.length c0) (.slice a1 x.stack.length c1) (.slice a2 x.queue.length c2) (.slice a3 x.set.length c3) (.slice a4 x.table.length c4))
      have CN := Mr.hid (Ck.out.asked (hb := w1.heap.size) hob1)
      have hq : Hid (Lk W bs bm w1.heap.size Wk.heap.size (Wk.heap.size + 1) T' (.slice ao od.length co)) := Mr.hid ⟨fun k hk => ⟨hTl k hk, fun e => hS.nT (e ▸ hk), fun e => (hvo k e).1 hk⟩, ⟨hbs, hS.ne, fun e => (hvo bs e).2.1 rfl⟩, hbm, fun k hk => (hvo k hk).2.2.2, by omega, by omega, by omega⟩
      unfold gv at CO
      clear LK hlv SN
      go_wp2_with (go_at_call 32; refine CO.out.mono ?_; rintro e w9 ⟨rfl, rfl⟩)
      have hz9 : ((Wk.alloc (.cells #[.pointer (some ⟨bs, 0, none⟩)] 46 (0, 0))).alloc (stO P (.slice a0 x.cell.length c0) (.slice a1 x.stack.length c1) (.slice a2 x.queue.length c2) (.slice a3 x.set.length c3) (.slice a4 x.table.length c4))).drew.heap.size ≥ Wk.heap.size + 2 := by simp
      have CN9 := Mr.hid (CN.out.below hq.out (Below.refl _ _).drew)
      generalize hW9 : ((Wk.alloc _).alloc _).drew = W9 at *
      clear hW9 CO p0 p1 p2 p3 p4 p5 CN Ck RG BK
      refine (wpIn_wide (n := 5)).1 ?_
      refine range_r (N := sc.length) (ok := fun i => (spc sc).ok P x i) (R := Hd W.heap.size sc P x) (Kn := fun W1 => Ow W1 Wk.heap.size (Wk.heap.size + 1) bs W.heap.size T' vc vn (.map (some bm)) (ahM sc) (enM sc) sc P (.slice a0 x.cell.length c0) (.slice a1 x.stack.length c1) (.slice a2 x.queue.length c2) (.slice a3 x.set.length c3) (.slice a4 x.table.length c4) x) rfl (by omega) (enters_of Tryz.func49 (by kernel_rfl) rfl) ?hps (iter_hands 4 (by omega) hP hsc (fun i => mks_lt _ _ hsc) (fun i _ => ah_ahm sc hsc P i) hob hm hF)
        (fun k W1 => Cl W bs bm w1.heap.size Wk.heap.size (Wk.heap.size + 1) T' vc vn (.slice ao od.length co) sc nm P (.slice a0 x.cell.length c0) (.slice a1 x.stack.length c1) (.slice a2 x.queue.length c2) (.slice a3 x.set.length c3) (.slice a4 x.table.length c4) x ob od W1 ∧ ∀ j, j < k → (spc sc).ok P x j = true → (spc sc).lm (P ||| 2 ^ j) ((spc sc).nx x j) = none) (fun k Wa l o o' h hl ho hc => ⟨h.1.put hq.out (by omega), h.2⟩) (fun k Wa Wb h hB => ⟨h.1.below hq.out hB, h.2⟩)
        (fun W1 => Lx sc nm W bm (.slice ao od.length co) P x od W1) (fun Wa l o o' h hl ho hc => h.put ho hc (by omega)) (fun Wa Wb h hB => h.below hB) (fun k W1 h => h.1.ow) (fun k W1 hk ho h => ⟨h.1, fun j hj ho' => by
          rcases Nat.lt_succ_iff_lt_or_eq.1 hj with e | e
          · exact h.2 j e ho'
          · subst e; rw [ho] at ho'; cases ho'⟩) ⟨CN9.out, fun j hj => by omega⟩
        (fun k a' W' => ∃ Bx u0 u1 u2 u3 u4, W.heap.size ≤ Bx ∧ W'.heap[Bx]? = some (stO (P ||| 2 ^ k) u0 u1 u2 u3 u4) ∧ CtAt W' (fun j => W.heap.size ≤ j) u0 u1 u2 u3 u4 (alw x (cd sc k)).1 ∧ a' = { tmps := #[Value.pointer (some { block := bs, off := 0 }), Value.agg #[Value.int IntKind.u64 ↑P, Value.slice a0 x.cell.length c0, Value.slice a1 x.stack.length c1, Value.slice a2 x.queue.length c2, Value.slice a3 x.set.length c3, Value.slice a4 x.table.length c4], Value.slice ao od.length co, Value.pointer (some { block := W.heap.size, off := 0 }), Value.pointer (some { block := W.heap.size + 1, off := 0 }), Value.pointer (some { block := W.heap.size + 1 + 1, off := 0 }), Value.pointer (some { block := W.heap.size + 1 + 1 + 1, off := 0 }), Value.pointer (some { block := W.heap.size + 1 + 1 + 1 + 1, off := 0 }), Value.pointer (some { block := w1.heap.size, off := 0 }), lv, Value.bool false, Value.int .i64 (k : Int), Value.pointer (some { block := Bx, off := 0 }), undef, undef, Value.pointer (some { block := bs, off := 0 }), Value.agg #[Value.int IntKind.u64 ↑P, Value.slice a0 x.cell.length c0, Value.slice a1 x.stack.length c1, Value.slice a2 x.queue.length c2, Value.slice a3 x.set.length c3, Value.slice a4 x.table.length c4], Value.bool false, undef, Value.agg #[Value.int IntKind.u64 ↑P, Value.slice a0 x.cell.length c0, Value.slice a1 x.stack.length c1, Value.slice a2 x.queue.length c2, Value.slice a3 x.set.length c3, Value.slice a4 x.table.length c4], Value.agg cs.toArray, Value.tuple #[lv, Value.bool false], Value.pointer (some { block := bs, off := 0 }), Value.pointer (some { block := bs, off := 0 }), Value.pointer (some { block := bs, off := 11 }), Value.map (some bm), Value.agg cs.toArray, Value.tuple #[lv, Value.bool false], lv, Value.bool false, Value.bool false, Value.pointer (some { block := bs, off := 0 }), Value.agg #[Value.int IntKind.u64 ↑P, Value.slice a0 x.cell.length c0, Value.slice a1 x.stack.length c1, Value.slice a2 x.queue.length c2, Value.slice a3 x.set.length c3, Value.slice a4 x.table.length c4], Value.func (Fn.func 49) #[] #[Value.pointer (some { block := Wk.heap.size, off := 0 }), Value.pointer (some { block := Wk.heap.size + 1, off := 0 })], Value.int .i64 (k : Int), Value.agg #[Value.int .u64 ((P ||| 2 ^ k : Nat) : Int), u0, u1, u2, u3, u4], undef, undef, undef, undef, undef, undef, undef, undef, undef, undef, undef, undef, undef, undef, undef, undef, undef, undef, undef, undef, undef, undef, undef], defers := [] })
        (fun k a' => by
          rintro Wa l o o' ⟨Bx, u0, u1, u2, u3, u4, h0, h1, h2, h3⟩ hl ho hc
          exact ⟨Bx, u0, u1, u2, u3, u4, h0, block_put ho hc h1, ct_put h2 ho hc, h3⟩) ?assign ?body ?done ?left
      case hps =>
        rintro k args Wq ⟨u0, u1, u2, u3, u4, rfl, _⟩
        rfl
      case assign =>
        rintro l k args Wb K hk ho ⟨u0, u1, u2, u3, u4, rfl, hct⟩ hC hK
        obtain ⟨y0, z0, rfl, g0⟩ := hct.cell.form
        obtain ⟨y1, z1, rfl, g1⟩ := hct.stack.form
        obtain ⟨y2, z2, rfl, g2⟩ := hct.queue.form
        obtain ⟨y3, z3, rfl, g3⟩ := hct.set.form
        obtain ⟨y4, z4, rfl, g4⟩ := hct.table.form
        unfold gv
        gi_wp2
        exact hK _ _ ((KeepsOthers.alloc _ _).from _) ⟨hC.1.below hq.out ((Below.refl _ _).alloc (Nat.le_refl _) _), hC.2⟩ ⟨Wb.heap.size, _, _, _, _, _, hC.1.ow.sz, heap_alloc_new _ _, hct.below ((Below.refl _ _).alloc (Nat.le_refl _) _), rfl⟩
      case body =>
        rintro l k a' Wb hk ho ⟨hC, hno⟩ ⟨Bx, u0, u1, u2, u3, u4, hBx, hbx, hct, rfl⟩ hsz
        obtain ⟨y0, z0, rfl, g0⟩ := hct.cell.form
        obtain ⟨y1, z1, rfl, g1⟩ := hct.stack.form
        obtain ⟨y2, z2, rfl, g2⟩ := hct.queue.form
        obtain ⟨y3, z3, rfl, g3⟩ := hct.set.form
        obtain ⟨y4, z4, rfl, g4⟩ := hct.table.form
        have hrk := room_with hk ((spc sc).new P x k ho)
        have hcd : cd sc k ∈ sc := cd_mem hk
        have hyes := ok_yes ho
        have hrk2 : room sc.length (P ||| 2 ^ k) + 1 = room sc.length P := hrk
        obtain ⟨nk, hnk⟩ : ∃ nk, nm[k]? = some nk := ⟨_, List.getElem?_eq_getElem (by omega)⟩
        have hl8 : (od ++ [nk]).length + room sc.length (P ||| 2 ^ k) ≤ 8 := by simp; omega
        have hIH : Hid (∀ (w' : World) (q0 q1 q2 q3 q4 vo' : Value) (T2 : Nat → Prop), Sr w' bs bm T2 vc vn sc (GoodL sc) → CtAt w' T2 q0 q1 q2 q3 q4 (alw x (cd sc k)).1 → Sl w' T2 1 vn sc.length (ints nm) → Has w' (fun _ => True) 3 1 vo' (od ++ [nk]).length (ints (od ++ [nk])) → (∀ j, vo'.ownBlock = some j → ¬ T2 j ∧ j ≠ bs ∧ j ≠ bm) →
            Calls Tryz.prog 16 #[.pointer (some ⟨bs, 0, none⟩), .agg #[.int .u64 ((P ||| 2 ^ k : Nat) : Int), q0, q1, q2, q3, q4], vo'] w' fun e w2 => Lpost sc nm w' bm vo' (P ||| 2 ^ k) (alw x (cd sc k)).1 (od ++ [nk]) e w2) := Mr.hid (fun w' q0 q1 q2 q3 q4 vo' T2 hs hc hn ho' hv => by
          refine IH.out (r - 1) (by omega) (by omega) (with_lt (n := 8) (by omega) hP) (may_alw hm (hob _ hcd) hyes) ?_ (wf_alw hwx (hwc _ hcd)) hl8 hs hc hn ho' hv
          have h1 := few_alw hFw (cd sc k)
          have h3 := room_le sc.length P
          have h4 : sc.length - room sc.length P + 1 = sc.length - room sc.length (P ||| 2 ^ k) := by omega
          rw [← h4]; exact h1)
        have hlmk : ∀ l, (spc sc).lm (P ||| 2 ^ k) (alw x (cd sc k)).1 = some l → (spc sc).lm P x = some (k :: l) := fun l hl => (spc sc).lm_some hwb hk ho hl hno
        have hnok : (spc sc).lm (P ||| 2 ^ k) (alw x (cd sc k)).1 = none → ∀ j, j < k + 1 → (spc sc).ok P x j = true → (spc sc).lm (P ||| 2 ^ j) ((spc sc).nx x j) = none := fun h j hj ho' => by
          rcases Nat.lt_succ_iff_lt_or_eq.1 hj with e | e
          · exact hno j e ho'
          · subst e; exact h
        obtain ⟨bn, on, cn, hvn, _, _, _, _⟩ := hC.nu.there (by omega)
        subst hvn
        generalize hxn : (alw x (cd sc k)).1 = xn at *
        replace hlmk := Mr.hid hlmk
        replace hnok := Mr.hid hnok
        replace hno := Mr.hid hno
        gi_wp2
        refine wpIn_region_any (by kernel_rfl) ?_
        refine wpAnyIn_walks (dep := fun i => if i = 4 then [3] else if i = 5 then [4] else if i = 6 then [5] else if i = 8 then [6, 7] else if i = 9 then [8] else if i = 10 then [9] else if i = 11 then [2, 10] else if i = 12 then [0, 1, 11] else if i = 13 then [12] else if i = 14 then [13] else if i = 15 then [13] else if i = 16 then [14] else if i = 17 then [15] else []) (by kernel_rfl) (fun yy => { tmps := #[Value.pointer (some { block := bs, off := 0 }), Value.agg #[Value.int IntKind.u64 ↑P, Value.slice a0 x.cell.length c0, Value.slice a1 x.stack.length c1, Value.slice a2 x.queue.length c2, Value.slice a3 x.set.length c3, Value.slice a4 x.table.length c4], Value.slice ao od.length co, Value.pointer (some { block := W.heap.size, off := 0 }), Value.pointer (some { block := W.heap.size + 1, off := 0 }), Value.pointer (some { block := W.heap.size + 1 + 1, off := 0 }), Value.pointer (some { block := W.heap.size + 1 + 1 + 1, off := 0 }), Value.pointer (some { block := W.heap.size + 1 + 1 + 1 + 1, off := 0 }), Value.pointer (some { block := w1.heap.size, off := 0 }), lv, Value.bool false, Value.int .i64 (k : Int), Value.pointer (some { block := Bx, off := 0 }), yy 16, yy 17, Value.pointer (some { block := bs, off := 0 }), Value.agg #[Value.int IntKind.u64 ↑P, Value.slice a0 x.cell.length c0, Value.slice a1 x.stack.length c1, Value.slice a2 x.queue.length c2, Value.slice a3 x.set.length c3, Value.slice a4 x.table.length c4], Value.bool false, undef, Value.agg #[Value.int IntKind.u64 ↑P, Value.slice a0 x.cell.length c0, Value.slice a1 x.stack.length c1, Value.slice a2 x.queue.length c2, Value.slice a3 x.set.length c3, Value.slice a4 x.table.length c4], Value.agg cs.toArray, Value.tuple #[lv, Value.bool false], Value.pointer (some { block := bs, off := 0 }), Value.pointer (some { block := bs, off := 0 }), Value.pointer (some { block := bs, off := 11 }), Value.map (some bm), Value.agg cs.toArray, Value.tuple #[lv, Value.bool false], lv, Value.bool false, Value.bool false, Value.pointer (some { block := bs, off := 0 }), Value.agg #[Value.int IntKind.u64 ↑P, Value.slice a0 x.cell.length c0, Value.slice a1 x.stack.length c1, Value.slice a2 x.queue.length c2, Value.slice a3 x.set.length c3, Value.slice a4 x.table.length c4], Value.func (Fn.func 49) #[] #[Value.pointer (some { block := Wk.heap.size, off := 0 }), Value.pointer (some { block := Wk.heap.size + 1, off := 0 })], Value.int .i64 (k : Int), Value.agg #[Value.int .u64 ((P ||| 2 ^ k : Nat) : Int), .slice y0 xn.cell.length z0, .slice y1 xn.stack.length z1, .slice y2 xn.queue.length z2, .slice y3 xn.set.length z3, .slice y4 xn.table.length z4], yy 13, yy 0, yy 1, yy 2, yy 3, yy 4, yy 5, yy 6, yy 7, yy 8, yy 9, yy 10, yy 11, yy 12, yy 14, yy 15, undef, undef, undef, undef, undef, undef, undef], defers := [] }) (fun D yy w => KeepsFrom W9.heap.size Wb w ∧ (D 0 = true → yy 0 = Value.pointer (some ⟨bs, 0, none⟩)) ∧ (D 1 = true → yy 1 = Value.agg #[.int .u64 ((P ||| 2 ^ k : Nat) : Int), .slice y0 xn.cell.length z0, .slice y1 xn.stack.length z1, .slice y2 xn.queue.length z2, .slice y3 xn.set.length z3, .slice y4 xn.table.length z4]) ∧ (D 2 = true → yy 2 = Value.slice ao od.length co) ∧ (D 3 = true → yy 3 = Value.pointer (some ⟨bs, 0, none⟩)) ∧ (D 4 = true → yy 4 = Value.pointer (some ⟨bs, 0, none⟩)) ∧ (D 5 = true → yy 5 = Value.pointer (some ⟨bs, 1, none⟩)) ∧ (D 6 = true → yy 6 = Value.slice (some ⟨bn, on, none⟩) sc.length cn) ∧ (D 7 = true → yy 7 = Value.int .i64 (k : Int)) ∧ (D 8 = true → yy 8 = Value.pointer (some ⟨bn, on + k, none⟩)) ∧ (D 9 = true → yy 9 = Value.int .i64 nk) ∧ (D 12 = false → w.heap[Bx]? = some (stO (P ||| 2 ^ k) (.slice y0 xn.cell.length z0) (.slice y1 xn.stack.length z1) (.slice y2 xn.queue.length z2) (.slice y3 xn.set.length z3) (.slice y4 xn.table.length z4)) ∧ CtAt w (fun j => W.heap.size ≤ j ∧ j < Wb.heap.size) (.slice y0 xn.cell.length z0) (.slice y1 xn.stack.length z1) (.slice y2 xn.queue.length z2) (.slice y3 xn.set.length z3) (.slice y4 xn.table.length z4) xn) ∧ (D 10 = true → D 11 = false → ∃ b10, yy 10 = .slice (some ⟨b10, 0, none⟩) 1 1 ∧ w.cell? ⟨b10, 0, none⟩ = some (.int .i64 nk)) ∧ (D 11 = true → D 12 = false → ∃ g cap, yy 11 = .slice (some ⟨g, 0, none⟩) (od.length + 1) cap ∧ Has w (fun _ => True) 3 1 (.slice (some ⟨g, 0, none⟩) (od.length + 1) cap) (od.length + 1) (ints od ++ [.int .i64 nk]) ∧ ((Value.slice ao od.length co).ownBlock = some g ∨ Wb.heap.size ≤ g)) ∧ (D 12 = true → Rs sc nm W (.slice ao od.length co) (P ||| 2 ^ k) xn (od ++ [nk]) (yy 12) w) ∧ (D 13 = true → yy 13 = yy 12) ∧ (D 14 = true → ∃ b, yy 12 = .tuple #[yy 14, b]) ∧ (D 15 = true → ∃ a, yy 12 = .tuple #[a, yy 15]) ∧ (D 16 = true → yy 16 = yy 14) ∧ (D 17 = true → yy 17 = yy 15) ∧ Cl W bs bm w1.heap.size Wk.heap.size (Wk.heap.size + 1) T' vc (.slice (some ⟨bn, on, none⟩) sc.length cn) (.slice ao od.length co) sc nm P (.slice a0 x.cell.length c0) (.slice a1 x.stack.length c1) (.slice a2 x.queue.length c2) (.slice a3 x.set.length c3) (.slice a4 x.table.length c4) x ob od w) rfl (fun _ => undef) ⟨(KeepsOthers.drew _).from _, fun h => by simp at h, fun h => by simp at h, fun h => by simp at h, fun h => by simp at h, fun h => by simp at h, fun h => by simp at h, fun h => by simp at h, fun h => by simp at h, fun h => by simp at h, fun h => by simp at h, fun _ => ⟨hbx, (ct_inb hct).below (Below.refl _ _).drew⟩, fun h => by simp at h, fun h => by simp at h, fun h => by simp at h, fun h => by simp at h, fun h => by simp at h, fun h => by simp at h, fun h => by simp at h, fun h => by simp at h, hC.below hq.out (Below.refl _ _).drew⟩ ?hs ?he
        case he =>
          rintro yy w ⟨kf, _, _, _, _, _, _, _, _, _, _, _, _, _, e12, _, e14, e15, e16, e17, cl⟩
          have v16 := e16 (by decide)
          have v17 := e17 (by decide)
          obtain ⟨b14, q14⟩ := e14 (by decide)
          obtain ⟨a15, q15⟩ := e15 (by decide)
          replace e12 := e12 (by decide)
          clear e14 e15 e16 e17
          rcases e12 with ⟨hn, hv⟩ | ⟨li, vr, hl, hv, hhas, hown⟩
          · rw [hv] at q14 q15
            have w15 : yy 15 = .bool false := by injection q15 with q; have := congrArg (fun a => a[1]?) q; simpa using this.symm
            have w14 : yy 14 = .slice none 0 0 := by injection q14 with q; have := congrArg (fun a => a[0]?) q; simpa using this.symm
            rw [w15] at v17
            rw [w14] at v16
            gi_wp2
            first | exact ⟨kf, cl, hnok.out hn⟩ | exact hnok.out hn
          · rw [hv] at q14 q15
            have w15 : yy 15 = .bool true := by injection q15 with q; have := congrArg (fun a => a[1]?) q; simpa using this.symm
            have w14 : yy 14 = vr := by injection q14 with q; have := congrArg (fun a => a[0]?) q; simpa using this.symm
            rw [w15] at v17
            rw [w14] at v16
            rw [show (od ++ [nk]).length = od.length + 1 by simp] at hhas
            obtain ⟨avr, cvr, rfl, _⟩ := hhas.form
            have e3 : w.cell? ⟨W.heap.size + 1 + 1 + 1, 0, none⟩ = some (.slice none 0 0) := cell_of cl.r0
            have e4 : w.cell? ⟨W.heap.size + 1 + 1 + 1 + 1, 0, none⟩ = some (.bool false) := cell_of cl.r1
            have f3 : w.frozen? ⟨W.heap.size + 1 + 1 + 1, 0, none⟩ = false := by simp [World.frozen?, cl.r0]
            have f4 : w.frozen? ⟨W.heap.size + 1 + 1 + 1 + 1, 0, none⟩ = false := by simp [World.frozen?, cl.r1]
            obtain ⟨n3, n4, hfr⟩ := lset_at cl.r0 cl.r1 (.slice avr (od.length + 1 + li.length) cvr) true
            have hX : Lx sc nm W bm (.slice ao od.length co) P x od (lset w W.heap.size (.slice avr (od.length + 1 + li.length) cvr) true) := by
              refine ⟨cl.fr.trans (hfr.mono (fun j hj => .inr (by omega))), fun g' hg' => (cl.kp g' hg').then (hfr.block _ (cl.kp g' hg').lt (by have := (hvo g' hg').2.2.2; omega)), cl.sn.kept (hfr.block _ cl.sn.lt (by omega)), k :: li, _, hlmk.out _ hl, n3, n4, ?_, hown⟩
              have := has_fr hhas hfr (fun j hj e => ?_)
              · have e1 : od.length + (k :: li).length = od.length + 1 + li.length := by simp; omega
                have e2 : od ++ (k :: li).map (fun i => nm[i]?.getD 0) = (od ++ [nk]) ++ li.map (fun i => nm[i]?.getD 0) := by simp [hnk]
                rw [e1, e2]; exact this
              · rcases hhas.2 with ⟨q, _⟩ | ⟨g', _, cur, q, _, hg', _⟩
                · rw [q] at hj; simp [Value.ownBlock] at hj
                · rw [q] at hj
                  simp [Value.ownBlock] at hj
                  subst hj
                  rcases e with e | e
                  · rw [e, cl.r0] at hg'; simp at hg'
                  · rw [e, cl.r1] at hg'; simp at hg'
            have hXk : KeepsFrom W9.heap.size Wb (lset w W.heap.size (.slice avr (od.length + 1 + li.length) cvr) true) := kf.trans (((KeepsOthers.setCell _ _ _).trans (KeepsOthers.setCell _ _ _)).from _)
            replace hX := Mr.hid hX
            replace hXk := Mr.hid hXk
            clear n3 n4 hfr hhas hown
            gi_wp2
            first | exact ⟨hXk.out, hX.out⟩ | exact hX.out
        case hs =>
          intro i hi D yy w hDi hdep hcl hI K hK
          have hi' : i < 18 := hi
          clear hi
          obtain rfl | rfl | rfl | rfl | rfl | rfl | rfl | rfl | rfl | rfl | rfl | rfl | rfl | rfl | rfl | rfl | rfl | rfl : i = 0 ∨ i = 1 ∨ i = 2 ∨ i = 3 ∨ i = 4 ∨ i = 5 ∨ i = 6 ∨ i = 7 ∨ i = 8 ∨ i = 9 ∨ i = 10 ∨ i = 11 ∨ i = 12 ∨ i = 13 ∨ i = 14 ∨ i = 15 ∨ i = 16 ∨ i = 17 := by omega
          · obtain ⟨kf, e0, e1, e2, e3, e4, e5, e6, e7, e8, e9, eb, e10, e11, e12, e13, e14, e15, e16, e17, cl⟩ := hI
            have cy : w.cell? ⟨W.heap.size, 0, none⟩ = some (.pointer (some ⟨bs, 0, none⟩)) := cell_of cl.bx
            refine wpOpIn_step rfl (fun K' hK' => ?_)
            try simp only [Act.put, LA, LB, LC, LD, LE, LF]
            rw [if_pos (by kernel_rfl)]
            refine ⟨fun _ _ => trivial, ?_⟩
            go_simp
            have hq' := hK (Value.pointer (some ⟨bs, 0, none⟩)) w ⟨kf, (fun _ => by simp [upd]), (by simpa [upb, upd] using e1), (by simpa [upb, upd] using e2), (by simpa [upb, upd] using e3), (by simpa [upb, upd] using e4), (by simpa [upb, upd] using e5), (by simpa [upb, upd] using e6), (by simpa [upb, upd] using e7), (by simpa [upb, upd] using e8), (by simpa [upb, upd] using e9), (by simpa [upb, upd] using eb), (by simpa [upb, upd] using e10), (by simpa [upb, upd] using e11), (by simpa [upb, upd] using e12), (by simpa [upb, upd] using e13), (by simpa [upb, upd] using e14), (by simpa [upb, upd] using e15), (by simpa [upb, upd] using e16), (by simpa [upb, upd] using e17), cl⟩
            refine hK' _ _ ?_
            simpa [upd] using hq'
          · obtain ⟨kf, e0, e1, e2, e3, e4, e5, e6, e7, e8, e9, eb, e10, e11, e12, e13, e14, e15, e16, e17, cl⟩ := hI
            have d12 : D 12 = false := by
              cases h : D 12 with
              | false => rfl
              | true =>
                have q0 := hcl 12 h 1 (by decide)
                rw [hDi] at q0; cases q0
            obtain ⟨_, p0, p1, p2, p3, p4, p5⟩ := st_cells (eb d12).1
            refine wpOpIn_step rfl (fun K' hK' => ?_)
            try simp only [Act.put, LA, LB, LC, LD, LE, LF]
            rw [if_pos (by kernel_rfl)]
            refine ⟨fun _ _ => trivial, ?_⟩
            go_simp
            have hq' := hK (Value.agg #[.int .u64 ((P ||| 2 ^ k : Nat) : Int), .slice y0 xn.cell.length z0, .slice y1 xn.stack.length z1, .slice y2 xn.queue.length z2, .slice y3 xn.set.length z3, .slice y4 xn.table.length z4]) w ⟨kf, (by simpa [upb, upd] using e0), (fun _ => by simp [upd]), (by simpa [upb, upd] using e2), (by simpa [upb, upd] using e3), (by simpa [upb, upd] using e4), (by simpa [upb, upd] using e5), (by simpa [upb, upd] using e6), (by simpa [upb, upd] using e7), (by simpa [upb, upd] using e8), (by simpa [upb, upd] using e9), (by simpa [upb, upd] using eb), (by simpa [upb, upd] using e10), (by simpa [upb, upd] using e11), (by simpa [upb, upd] using e12), (by simpa [upb, upd] using e13), (by simpa [upb, upd] using e14), (by simpa [upb, upd] using e15), (by simpa [upb, upd] using e16), (by simpa [upb, upd] using e17), cl⟩
            refine hK' _ _ ?_
            simpa [upd] using hq'
          · obtain ⟨kf, e0, e1, e2, e3, e4, e5, e6, e7, e8, e9, eb, e10, e11, e12, e13, e14, e15, e16, e17, cl⟩ := hI
            have cy : w.cell? ⟨W.heap.size + 1 + 1, 0, none⟩ = some (.slice ao od.length co) := cell_of cl.bo
            refine wpOpIn_step rfl (fun K' hK' => ?_)
            try simp only [Act.put, LA, LB, LC, LD, LE, LF]
            rw [if_pos (by kernel_rfl)]
            refine ⟨fun _ _ => trivial, ?_⟩
            go_simp
            have hq' := hK (Value.slice ao od.length co) w ⟨kf, (by simpa [upb, upd] using e0), (by simpa [upb, upd] using e1), (fun _ => by simp [upd]), (by simpa [upb, upd] using e3), (by simpa [upb, upd] using e4), (by simpa [upb, upd] using e5), (by simpa [upb, upd] using e6), (by simpa [upb, upd] using e7), (by simpa [upb, upd] using e8), (by simpa [upb, upd] using e9), (by simpa [upb, upd] using eb), (by simpa [upb, upd] using e10), (by simpa [upb, upd] using e11), (by simpa [upb, upd] using e12), (by simpa [upb, upd] using e13), (by simpa [upb, upd] using e14), (by simpa [upb, upd] using e15), (by simpa [upb, upd] using e16), (by simpa [upb, upd] using e17), cl⟩
            refine hK' _ _ ?_
            simpa [upd] using hq'
          · obtain ⟨kf, e0, e1, e2, e3, e4, e5, e6, e7, e8, e9, eb, e10, e11, e12, e13, e14, e15, e16, e17, cl⟩ := hI
            have cy : w.cell? ⟨W.heap.size, 0, none⟩ = some (.pointer (some ⟨bs, 0, none⟩)) := cell_of cl.bx
            refine wpOpIn_step rfl (fun K' hK' => ?_)
            try simp only [Act.put, LA, LB, LC, LD, LE, LF]
            rw [if_pos (by kernel_rfl)]
            refine ⟨fun _ _ => trivial, ?_⟩
            go_simp
            have hq' := hK (Value.pointer (some ⟨bs, 0, none⟩)) w ⟨kf, (by simpa [upb, upd] using e0), (by simpa [upb, upd] using e1), (by simpa [upb, upd] using e2), (fun _ => by simp [upd]), (by simpa [upb, upd] using e4), (by simpa [upb, upd] using e5), (by simpa [upb, upd] using e6), (by simpa [upb, upd] using e7), (by simpa [upb, upd] using e8), (by simpa [upb, upd] using e9), (by simpa [upb, upd] using eb), (by simpa [upb, upd] using e10), (by simpa [upb, upd] using e11), (by simpa [upb, upd] using e12), (by simpa [upb, upd] using e13), (by simpa [upb, upd] using e14), (by simpa [upb, upd] using e15), (by simpa [upb, upd] using e16), (by simpa [upb, upd] using e17), cl⟩
            refine hK' _ _ ?_
            simpa [upd] using hq'
          · obtain ⟨kf, e0, e1, e2, e3, e4, e5, e6, e7, e8, e9, eb, e10, e11, e12, e13, e14, e15, e16, e17, cl⟩ := hI
            have v3 := e3 (hdep 3 (by decide))
            refine wpOpIn_step rfl (fun K' hK' => ?_)
            try simp only [Act.put, LA, LB, LC, LD, LE, LF]
            rw [if_pos (by kernel_rfl)]
            refine ⟨fun _ _ => trivial, ?_⟩
            go_simp
            have hq' := hK (Value.pointer (some ⟨bs, 0, none⟩)) w ⟨kf, (by simpa [upb, upd] using e0), (by simpa [upb, upd] using e1), (by simpa [upb, upd] using e2), (by simpa [upb, upd] using e3), (fun _ => by simp [upd]), (by simpa [upb, upd] using e5), (by simpa [upb, upd] using e6), (by simpa [upb, upd] using e7), (by simpa [upb, upd] using e8), (by simpa [upb, upd] using e9), (by simpa [upb, upd] using eb), (by simpa [upb, upd] using e10), (by simpa [upb, upd] using e11), (by simpa [upb, upd] using e12), (by simpa [upb, upd] using e13), (by simpa [upb, upd] using e14), (by simpa [upb, upd] using e15), (by simpa [upb, upd] using e16), (by simpa [upb, upd] using e17), cl⟩
            refine hK' _ _ ?_
            simpa [upd, v3] using hq'
          · obtain ⟨kf, e0, e1, e2, e3, e4, e5, e6, e7, e8, e9, eb, e10, e11, e12, e13, e14, e15, e16, e17, cl⟩ := hI
            have v4 := e4 (hdep 4 (by decide))
            refine wpOpIn_step rfl (fun K' hK' => ?_)
            try simp only [Act.put, LA, LB, LC, LD, LE, LF]
            rw [if_pos (by kernel_rfl)]
            refine ⟨fun _ _ => trivial, ?_⟩
            go_simp
            have hq' := hK (Value.pointer (some ⟨bs, 1, none⟩)) w ⟨kf, (by simpa [upb, upd] using e0), (by simpa [upb, upd] using e1), (by simpa [upb, upd] using e2), (by simpa [upb, upd] using e3), (by simpa [upb, upd] using e4), (fun _ => by simp [upd]), (by simpa [upb, upd] using e6), (by simpa [upb, upd] using e7), (by simpa [upb, upd] using e8), (by simpa [upb, upd] using e9), (by simpa [upb, upd] using eb), (by simpa [upb, upd] using e10), (by simpa [upb, upd] using e11), (by simpa [upb, upd] using e12), (by simpa [upb, upd] using e13), (by simpa [upb, upd] using e14), (by simpa [upb, upd] using e15), (by simpa [upb, upd] using e16), (by simpa [upb, upd] using e17), cl⟩
            refine hK' _ _ ?_
            simpa [upd, v4] using hq'
          · obtain ⟨kf, e0, e1, e2, e3, e4, e5, e6, e7, e8, e9, eb, e10, e11, e12, e13, e14, e15, e16, e17, cl⟩ := hI
            have v5 := e5 (hdep 5 (by decide))
            have cy := (sb_cells cl.ow.sb).2.2.1
            refine wpOpIn_step rfl (fun K' hK' => ?_)
            try simp only [Act.put, LA, LB, LC, LD, LE, LF]
            rw [if_pos (by kernel_rfl)]
            refine ⟨fun _ _ => trivial, ?_⟩
            go_simp
            have hq' := hK (Value.slice (some ⟨bn, on, none⟩) sc.length cn) w ⟨kf, (by simpa [upb, upd] using e0), (by simpa [upb, upd] using e1), (by simpa [upb, upd] using e2), (by simpa [upb, upd] using e3), (by simpa [upb, upd] using e4), (by simpa [upb, upd] using e5), (fun _ => by simp [upd]), (by simpa [upb, upd] using e7), (by simpa [upb, upd] using e8), (by simpa [upb, upd] using e9), (by simpa [upb, upd] using eb), (by simpa [upb, upd] using e10), (by simpa [upb, upd] using e11), (by simpa [upb, upd] using e12), (by simpa [upb, upd] using e13), (by simpa [upb, upd] using e14), (by simpa [upb, upd] using e15), (by simpa [upb, upd] using e16), (by simpa [upb, upd] using e17), cl⟩
            refine hK' _ _ ?_
            simpa [upd, v5] using hq'
          · obtain ⟨kf, e0, e1, e2, e3, e4, e5, e6, e7, e8, e9, eb, e10, e11, e12, e13, e14, e15, e16, e17, cl⟩ := hI
            refine wpOpIn_step rfl (fun K' hK' => ?_)
            try simp only [Act.put, LA, LB, LC, LD, LE, LF]
            rw [if_pos (by kernel_rfl)]
            refine ⟨fun _ _ => trivial, ?_⟩
            go_simp
            have hq' := hK (Value.int .i64 (k : Int)) w ⟨kf, (by simpa [upb, upd] using e0), (by simpa [upb, upd] using e1), (by simpa [upb, upd] using e2), (by simpa [upb, upd] using e3), (by simpa [upb, upd] using e4), (by simpa [upb, upd] using e5), (by simpa [upb, upd] using e6), (fun _ => by simp [upd]), (by simpa [upb, upd] using e8), (by simpa [upb, upd] using e9), (by simpa [upb, upd] using eb), (by simpa [upb, upd] using e10), (by simpa [upb, upd] using e11), (by simpa [upb, upd] using e12), (by simpa [upb, upd] using e13), (by simpa [upb, upd] using e14), (by simpa [upb, upd] using e15), (by simpa [upb, upd] using e16), (by simpa [upb, upd] using e17), cl⟩
            refine hK' _ _ ?_
            simpa [upd] using hq'
          · obtain ⟨kf, e0, e1, e2, e3, e4, e5, e6, e7, e8, e9, eb, e10, e11, e12, e13, e14, e15, e16, e17, cl⟩ := hI
            have v6 := e6 (hdep 6 (by decide))
            have v7 := e7 (hdep 7 (by decide))
            have qi : (0 : Int) ≤ (k : Int) := by omega
            have qj : (k : Int) < (sc.length : Int) := by omega
            refine wpOpIn_step rfl (fun K' hK' => ?_)
            try simp only [Act.put, LA, LB, LC, LD, LE, LF]
            rw [if_pos (by kernel_rfl)]
            refine ⟨fun _ _ => trivial, ?_⟩
            go_simp
            have hq' := hK (Value.pointer (some ⟨bn, on + k, none⟩)) w ⟨kf, (by simpa [upb, upd] using e0), (by simpa [upb, upd] using e1), (by simpa [upb, upd] using e2), (by simpa [upb, upd] using e3), (by simpa [upb, upd] using e4), (by simpa [upb, upd] using e5), (by simpa [upb, upd] using e6), (by simpa [upb, upd] using e7), (fun _ => by simp [upd]), (by simpa [upb, upd] using e9), (by simpa [upb, upd] using eb), (by simpa [upb, upd] using e10), (by simpa [upb, upd] using e11), (by simpa [upb, upd] using e12), (by simpa [upb, upd] using e13), (by simpa [upb, upd] using e14), (by simpa [upb, upd] using e15), (by simpa [upb, upd] using e16), (by simpa [upb, upd] using e17), cl⟩
            refine hK' _ _ ?_
            simpa [upd, v6, v7] using hq'
          · obtain ⟨kf, e0, e1, e2, e3, e4, e5, e6, e7, e8, e9, eb, e10, e11, e12, e13, e14, e15, e16, e17, cl⟩ := hI
            have v8 := e8 (hdep 8 (by decide))
            have cy := sl_cell cl.nu hnk
            refine wpOpIn_step rfl (fun K' hK' => ?_)
            try simp only [Act.put, LA, LB, LC, LD, LE, LF]
            rw [if_pos (by kernel_rfl)]
            refine ⟨fun _ _ => trivial, ?_⟩
            go_simp
            have hq' := hK (Value.int .i64 nk) w ⟨kf, (by simpa [upb, upd] using e0), (by simpa [upb, upd] using e1), (by simpa [upb, upd] using e2), (by simpa [upb, upd] using e3), (by simpa [upb, upd] using e4), (by simpa [upb, upd] using e5), (by simpa [upb, upd] using e6), (by simpa [upb, upd] using e7), (by simpa [upb, upd] using e8), (fun _ => by simp [upd]), (by simpa [upb, upd] using eb), (by simpa [upb, upd] using e10), (by simpa [upb, upd] using e11), (by simpa [upb, upd] using e12), (by simpa [upb, upd] using e13), (by simpa [upb, upd] using e14), (by simpa [upb, upd] using e15), (by simpa [upb, upd] using e16), (by simpa [upb, upd] using e17), cl⟩
            refine hK' _ _ ?_
            simpa [upd, v8] using hq'
          · obtain ⟨kf, e0, e1, e2, e3, e4, e5, e6, e7, e8, e9, eb, e10, e11, e12, e13, e14, e15, e16, e17, cl⟩ := hI
            have v9 := e9 (hdep 9 (by decide))
            have BA : Below w.heap.size w (w.alloc (.cells #[.int .i64 nk] 3 (0, 0))) := (Below.refl _ _).alloc (Nat.le_refl _) _
            refine wpOpIn_step rfl (fun K' hK' => ?_)
            try simp only [Act.put, LA, LB, LC, LD, LE, LF]
            rw [if_pos (by kernel_rfl)]
            refine ⟨fun _ _ => trivial, ?_⟩
            go_simp
            have hq' := hK (.slice (some ⟨w.heap.size, 0, none⟩) 1 1) (w.alloc (.cells #[.int .i64 nk] 3 (0, 0))) ⟨kf.trans ((KeepsOthers.alloc _ _).from _), (by simpa [upb, upd] using e0), (by simpa [upb, upd] using e1), (by simpa [upb, upd] using e2), (by simpa [upb, upd] using e3), (by simpa [upb, upd] using e4), (by simpa [upb, upd] using e5), (by simpa [upb, upd] using e6), (by simpa [upb, upd] using e7), (by simpa [upb, upd] using e8), (by simpa [upb, upd] using e9), (fun h => by have h2 := eb (by simpa [upb] using h); exact ⟨(BA.block _ (Array.getElem?_eq_some_iff.1 h2.1).1).trans h2.1, h2.2.below BA⟩), (fun _ _ => ⟨w.heap.size, by simp [upd], cell_of (heap_alloc_new _ _)⟩), (fun h _ => absurd (hcl 11 (by simpa [upb] using h) 10 (by decide)) (by rw [hDi]; decide)), (fun h => absurd (hcl 11 (hcl 12 (by simpa [upb] using h) 11 (by decide)) 10 (by decide)) (by rw [hDi]; decide)), (by simpa [upb, upd] using e13), (by simpa [upb, upd] using e14), (by simpa [upb, upd] using e15), (by simpa [upb, upd] using e16), (by simpa [upb, upd] using e17), cl.below hq.out BA⟩
            refine hK' _ _ ?_
            simpa [upd, v9] using hq'
          · obtain ⟨kf, e0, e1, e2, e3, e4, e5, e6, e7, e8, e9, eb, e10, e11, e12, e13, e14, e15, e16, e17, cl⟩ := hI
            have v2 := e2 (hdep 2 (by decide))
            obtain ⟨b10, v10, hc10⟩ := e10 (hdep 10 (by decide)) hDi
            have d12 : D 12 = false := by
              cases h : D 12 with
              | false => rfl
              | true =>
                have q0 := hcl 12 h 11 (by decide)
                rw [hDi] at q0; cases q0
            have hodw := has_kp hod (fun g hg => by rw [Nat.mul_one]; exact cl.kp g hg)
            obtain ⟨i0, hinf, hz0, hz1, hz2⟩ := info_parts mp_int
            refine wpOpIn_step rfl (fun K' hK' => ?_)
            try simp only [Act.put, LA, LB, LC, LD, LE, LF]
            rw [if_pos (by kernel_rfl)]
            refine opIn_append_keep (P := Tryz.prog) w (.tmp 39) (.tmp 47) 24 rfl (fun _ => True) 3 i0 _ 1 8 Tryz.underlying24 hinf hz0 hz1 hz2 rfl (.slice ao od.length co) od.length (ints od) (show yy 2 = _ from v2) hodw ⟨b10, 0, none⟩ 1 1 [.int .i64 nk] (show yy 10 = _ from v10) rfl (newsOne hc10) (by simp [Value.oneCell']) (by omega) (by unfold maxLen; omega) (by omega) trivial ?_
            intro g cap w' hh hgr hor hkp
            have hfw : Fr w w' (fun j => (Value.slice ao od.length co).ownBlock = some j) := (Fr.refl _ _).grown hgr (fun j hj => .inl hj)
            have hkp' : ∀ g', (Value.slice ao od.length co).ownBlock = some g' → Kp w w' g' od.length := fun g' hg' => by have := hkp g' hg'; rwa [Nat.mul_one] at this
            try simp only [Act.put, LA, LB, LC, LD, LE, LF]
            have hq' := hK (.slice (some ⟨g, 0, none⟩) (od.length + 1) cap) w' ⟨kf.trans (KeepsFrom.of_grownBy hgr (fun j hj => by have := (hvo j hj).2.2.2; omega)), (by simpa [upb, upd] using e0), (by simpa [upb, upd] using e1), (by simpa [upb, upd] using e2), (by simpa [upb, upd] using e3), (by simpa [upb, upd] using e4), (by simpa [upb, upd] using e5), (by simpa [upb, upd] using e6), (by simpa [upb, upd] using e7), (by simpa [upb, upd] using e8), (by simpa [upb, upd] using e9), (fun _ => by have h2 := eb d12; exact ⟨(hfw.block _ (Array.getElem?_eq_some_iff.1 h2.1).1 (fun e => by have := (hvo Bx e).2.2.2; omega)).trans h2.1, h2.2.fr hfw (fun j hj _ e => by have := (hvo j e).2.2.2; omega)⟩), (fun _ h => by simp [upb] at h), (fun _ _ => ⟨g, cap, by simp [upd], hh, hor.imp id (fun e => by have := kf.size; omega)⟩), (fun h => by simp [upb, d12] at h), (by simpa [upb, upd] using e13), (by simpa [upb, upd] using e14), (by simpa [upb, upd] using e15), (by simpa [upb, upd] using e16), (by simpa [upb, upd] using e17), cl.kept hq.out hfw (fun j hj => .inr (.inl hj)) (fun g' hg' => (cl.kp g' hg').trans (hkp' g' hg')) (cl.sn.kept (hfw.block _ cl.sn.lt (fun e => (hvo bm e).2.2.1 rfl)))⟩
            refine hK' _ _ ?_
            simpa [upd, v2, v10] using hq'
          · obtain ⟨kf, e0, e1, e2, e3, e4, e5, e6, e7, e8, e9, eb, e10, e11, e12, e13, e14, e15, e16, e17, cl⟩ := hI
            have v0 := e0 (hdep 0 (by decide))
            have v1 := e1 (hdep 1 (by decide))
            obtain ⟨g, cap, v11, hh, hor⟩ := e11 (hdep 11 (by decide)) hDi
            have b3 := eb hDi
            have hgT : ∀ j, T' j → j ≠ g := fun j hj e => by subst e; rcases hor with q | q; (· exact (hvo j q).1 hj); (· have := hTl j hj; omega)
            have hgc : ∀ j, (W.heap.size ≤ j ∧ j < Wb.heap.size) → j ≠ g := fun j hj e => by subst e; rcases hor with q | q; (· have := (hvo j q).2.2.2; omega); (· omega)
            have hgs : g ≠ bs ∧ g ≠ bm ∧ g ≠ W.heap.size := by rcases hor with q | q; (· have := hvo g q; exact ⟨this.2.1, this.2.2.1, by omega⟩); (· omega)
            have hgo : ∀ j, (Value.slice (some ⟨g, 0, none⟩) (od.length + 1) cap).ownBlock = some j → ¬ ((T' j ∨ W.heap.size ≤ j) ∧ j ≠ g) ∧ j ≠ bs ∧ j ≠ bm := fun j e => by simp [Value.ownBlock] at e; subst e; exact ⟨fun h => h.2 rfl, hgs.1, hgs.2.1⟩
            have hh' : Has w (fun _ => True) 3 1 (.slice (some ⟨g, 0, none⟩) (od.length + 1) cap) (od ++ [nk]).length (ints (od ++ [nk])) := by rw [List.length_append, ints_append]; exact hh
            refine wpOpIn_step rfl (fun K' hK' => ?_)
            try simp only [Act.put, LA, LB, LC, LD, LE, LF]
            rw [if_pos (by kernel_rfl)]
            refine ⟨fun _ _ => trivial, ?_⟩
            go_simp
            refine ((CallsIn.inRound l (callsIn_wide.2 (hIH.out w _ _ _ _ _ (.slice (some ⟨g, 0, none⟩) (od.length + 1) cap) (fun j => (T' j ∨ W.heap.size ≤ j) ∧ j ≠ g) ⟨cl.ow.sb, cl.ow.cl.mono (fun j h => ⟨.inl h, fun e => hgT j h e⟩), cl.sn, fun h => h.1.elim hS.nT (fun h => by omega), hS.ne⟩ (b3.2.mono (fun j h => ⟨.inr h.1, fun e => hgc j h e⟩)) (cl.nu.mono (fun j h => ⟨.inl h, fun e => hgT j h e⟩)) hh' (fun j e => hgo j e)))).mono ?_)
            rintro e w6' ⟨hf6, hk6, hs6, hout⟩
            have hf6' : Fr w w6' (fun j => j = bm ∨ j = g) := hf6.mono (fun j hj => hj.imp id (fun e => by simpa [Value.ownBlock] using e.symm))
            obtain ⟨v12, rfl, hrs⟩ := rs_of (W := W) (vo := .slice ao od.length co) hout (fun j hj => by rcases hj with e | e; (· simp [Value.ownBlock] at e; subst e; exact hor.imp id (fun q => by have := kf.size; omega)); (· exact .inr (by have := kf.size; omega)))
            have hq' := hK (v12) w6' ⟨kf.trans ⟨hf6'.size, fun j o hj h1 hc => (hf6'.block j (Array.getElem?_eq_some_iff.1 h1).1 (fun e => by rcases e with e | e; (· omega); (· subst e; rcases hh.2 with ⟨e, _⟩ | ⟨g', _, cur, e, _, hg', _⟩; (· cases e); (· cases e; rw [hg'] at h1; cases h1; cases hc)))).trans h1⟩, (by simpa [upb, upd] using e0), (by simpa [upb, upd] using e1), (by simpa [upb, upd] using e2), (by simpa [upb, upd] using e3), (by simpa [upb, upd] using e4), (by simpa [upb, upd] using e5), (by simpa [upb, upd] using e6), (by simpa [upb, upd] using e7), (by simpa [upb, upd] using e8), (by simpa [upb, upd] using e9), (fun h => by simp [upb] at h), (fun _ h => absurd (hdep 11 (by decide)) (by rw [show D 11 = false by simpa [upb] using h]; decide)), (fun _ h => by simp [upb] at h), (fun _ => by simpa [upd] using hrs), (fun h => absurd (hcl 13 (by simpa [upb] using h) 12 (by decide)) (by rw [hDi]; decide)), (fun h => absurd (hcl 13 (hcl 14 (by simpa [upb] using h) 13 (by decide)) 12 (by decide)) (by rw [hDi]; decide)), (fun h => absurd (hcl 13 (hcl 15 (by simpa [upb] using h) 13 (by decide)) 12 (by decide)) (by rw [hDi]; decide)), (by simpa [upb, upd] using e16), (by simpa [upb, upd] using e17), cl.kept hq.out hf6' (fun j hj => by rcases hj with e | e; (· exact .inl e); (· subst e; rcases hor with q | q; (· exact .inr (.inl q)); (· exact .inr (.inr (by omega))))) (fun g' hg' => by by_cases e : g' = g; (· subst e; exact (cl.kp g' hg').trans ((hk6 g' rfl).mono (by rw [List.length_append]; exact Nat.le_add_right _ _))); (· exact (cl.kp g' hg').then (hf6'.block _ (cl.kp g' hg').lt (fun q => by rcases q with q | q; (· exact (hvo g' hg').2.2.1 q); (· exact e q))))) hs6⟩
            refine hK' _ _ ?_
            simpa [upd, v0, v1, v11] using hq'
          · obtain ⟨kf, e0, e1, e2, e3, e4, e5, e6, e7, e8, e9, eb, e10, e11, e12, e13, e14, e15, e16, e17, cl⟩ := hI
            refine wpOpIn_step rfl (fun K' hK' => ?_)
            try simp only [Act.put, LA, LB, LC, LD, LE, LF]
            rw [if_pos (by kernel_rfl)]
            refine ⟨fun _ _ => trivial, ?_⟩
            go_simp
            have hq' := hK (yy 12) w ⟨kf, (by simpa [upb, upd] using e0), (by simpa [upb, upd] using e1), (by simpa [upb, upd] using e2), (by simpa [upb, upd] using e3), (by simpa [upb, upd] using e4), (by simpa [upb, upd] using e5), (by simpa [upb, upd] using e6), (by simpa [upb, upd] using e7), (by simpa [upb, upd] using e8), (by simpa [upb, upd] using e9), (by simpa [upb, upd] using eb), (by simpa [upb, upd] using e10), (by simpa [upb, upd] using e11), (by simpa [upb, upd] using e12), (fun _ => by simp [upd]), (by simpa [upb, upd] using e14), (by simpa [upb, upd] using e15), (by simpa [upb, upd] using e16), (by simpa [upb, upd] using e17), cl⟩
            refine hK' _ _ ?_
            simpa [upd] using hq'
          · obtain ⟨kf, e0, e1, e2, e3, e4, e5, e6, e7, e8, e9, eb, e10, e11, e12, e13, e14, e15, e16, e17, cl⟩ := hI
            have v13 := e13 (hdep 13 (by decide))
            obtain ⟨ta, tb, htu⟩ := (e12 (hcl 13 (hdep 13 (by decide)) 12 (by decide))).tup
            rw [htu] at v13
            refine wpOpIn_step rfl (fun K' hK' => ?_)
            try simp only [Act.put, LA, LB, LC, LD, LE, LF]
            rw [if_pos (by kernel_rfl)]
            refine ⟨fun _ _ => trivial, ?_⟩
            go_simp
            have hq' := hK (ta) w ⟨kf, (by simpa [upb, upd] using e0), (by simpa [upb, upd] using e1), (by simpa [upb, upd] using e2), (by simpa [upb, upd] using e3), (by simpa [upb, upd] using e4), (by simpa [upb, upd] using e5), (by simpa [upb, upd] using e6), (by simpa [upb, upd] using e7), (by simpa [upb, upd] using e8), (by simpa [upb, upd] using e9), (by simpa [upb, upd] using eb), (by simpa [upb, upd] using e10), (by simpa [upb, upd] using e11), (by simpa [upb, upd] using e12), (by simpa [upb, upd] using e13), (fun _ => ⟨.bool tb, by simpa [upd] using htu⟩), (by simpa [upb, upd] using e15), (fun h => absurd (hcl 16 (by simpa [upb] using h) 14 (by decide)) (by rw [hDi]; decide)), (by simpa [upb, upd] using e17), cl⟩
            refine hK' _ _ ?_
            simpa [upd, v13, htu] using hq'
          · obtain ⟨kf, e0, e1, e2, e3, e4, e5, e6, e7, e8, e9, eb, e10, e11, e12, e13, e14, e15, e16, e17, cl⟩ := hI
            have v13 := e13 (hdep 13 (by decide))
            obtain ⟨ta, tb, htu⟩ := (e12 (hcl 13 (hdep 13 (by decide)) 12 (by decide))).tup
            rw [htu] at v13
            refine wpOpIn_step rfl (fun K' hK' => ?_)
            try simp only [Act.put, LA, LB, LC, LD, LE, LF]
            rw [if_pos (by kernel_rfl)]
            refine ⟨fun _ _ => trivial, ?_⟩
            go_simp
            have hq' := hK (.bool tb) w ⟨kf, (by simpa [upb, upd] using e0), (by simpa [upb, upd] using e1), (by simpa [upb, upd] using e2), (by simpa [upb, upd] using e3), (by simpa [upb, upd] using e4), (by simpa [upb, upd] using e5), (by simpa [upb, upd] using e6), (by simpa [upb, upd] using e7), (by simpa [upb, upd] using e8), (by simpa [upb, upd] using e9), (by simpa [upb, upd] using eb), (by simpa [upb, upd] using e10), (by simpa [upb, upd] using e11), (by simpa [upb, upd] using e12), (by simpa [upb, upd] using e13), (by simpa [upb, upd] using e14), (fun _ => ⟨ta, by simpa [upd] using htu⟩), (by simpa [upb, upd] using e16), (fun h => absurd (hcl 17 (by simpa [upb] using h) 15 (by decide)) (by rw [hDi]; decide)), cl⟩
            refine hK' _ _ ?_
            simpa [upd, v13, htu] using hq'
          · obtain ⟨kf, e0, e1, e2, e3, e4, e5, e6, e7, e8, e9, eb, e10, e11, e12, e13, e14, e15, e16, e17, cl⟩ := hI
            refine wpOpIn_step rfl (fun K' hK' => ?_)
            try simp only [Act.put, LA, LB, LC, LD, LE, LF]
            rw [if_pos (by kernel_rfl)]
            refine ⟨fun _ _ => trivial, ?_⟩
            go_simp
            have hq' := hK (yy 14) w ⟨kf, (by simpa [upb, upd] using e0), (by simpa [upb, upd] using e1), (by simpa [upb, upd] using e2), (by simpa [upb, upd] using e3), (by simpa [upb, upd] using e4), (by simpa [upb, upd] using e5), (by simpa [upb, upd] using e6), (by simpa [upb, upd] using e7), (by simpa [upb, upd] using e8), (by simpa [upb, upd] using e9), (by simpa [upb, upd] using eb), (by simpa [upb, upd] using e10), (by simpa [upb, upd] using e11), (by simpa [upb, upd] using e12), (by simpa [upb, upd] using e13), (by simpa [upb, upd] using e14), (by simpa [upb, upd] using e15), (fun _ => by simp [upd]), (by simpa [upb, upd] using e17), cl⟩
            refine hK' _ _ ?_
            simpa [upd] using hq'
          · obtain ⟨kf, e0, e1, e2, e3, e4, e5, e6, e7, e8, e9, eb, e10, e11, e12, e13, e14, e15, e16, e17, cl⟩ := hI
            refine wpOpIn_step rfl (fun K' hK' => ?_)
            try simp only [Act.put, LA, LB, LC, LD, LE, LF]
            rw [if_pos (by kernel_rfl)]
            refine ⟨fun _ _ => trivial, ?_⟩
            go_simp
            have hq' := hK (yy 15) w ⟨kf, (by simpa [upb, upd] using e0), (by simpa [upb, upd] using e1), (by simpa [upb, upd] using e2), (by simpa [upb, upd] using e3), (by simpa [upb, upd] using e4), (by simpa [upb, upd] using e5), (by simpa [upb, upd] using e6), (by simpa [upb, upd] using e7), (by simpa [upb, upd] using e8), (by simpa [upb, upd] using e9), (by simpa [upb, upd] using eb), (by simpa [upb, upd] using e10), (by simpa [upb, upd] using e11), (by simpa [upb, upd] using e12), (by simpa [upb, upd] using e13), (by simpa [upb, upd] using e14), (by simpa [upb, upd] using e15), (by simpa [upb, upd] using e16), (fun _ => by simp [upd]), cl⟩
            refine hK' _ _ ?_
            simpa [upd] using hq'
      case done =>
        rintro D Wd hD ⟨hC, hno⟩ hKd
        have hnone := (spc sc).lm_none hwb hno
        have cx : Wd.cell? ⟨W.heap.size, 0, none⟩ = some (.pointer (some ⟨bs, 0, none⟩)) := cell_of hC.bx
        have cm := (sb_cells hC.ow.sb).2.2.2.2
        have RG := hRG.out Wd hC.hr
        have hgood : GoodL sc (.agg cs.toArray) (.int .i64 0) := fun P' x' he => by
          rw [← hcs.out] at he
          obtain ⟨rfl, rfl⟩ := key_inj he
          exact hnone
        obtain ⟨es, ck, hmo0, _⟩ := hC.sn
        have hmo : Wd.drew.heap[bm]? = some (.map es ck) := hmo0
        have hmc : (Obj.map es ck).isCells = false := rfl
        obtain ⟨o, hst, hoc, hsn⟩ := (hC.sn.kept (W' := Wd.drew) rfl).store hk hgood
        have hoth : ∀ j, j ≠ bm → (Wd.drew.putObj bm o).heap[j]? = Wd.heap[j]? := fun j hj => World.putObj_heap_other hj
        have k3 := (hoth (W.heap.size + 1 + 1 + 1) (by omega)).trans hC.r0
        have k4 := (hoth (W.heap.size + 1 + 1 + 1 + 1) (by omega)).trans hC.r1
        have e3 : (Wd.drew.putObj bm o).cell? ⟨W.heap.size + 1 + 1 + 1, 0, none⟩ = some (.slice none 0 0) := cell_of k3
        have e4 : (Wd.drew.putObj bm o).cell? ⟨W.heap.size + 1 + 1 + 1 + 1, 0, none⟩ = some (.bool false) := cell_of k4
        have f3 : (Wd.drew.putObj bm o).frozen? ⟨W.heap.size + 1 + 1 + 1, 0, none⟩ = false := by simp [World.frozen?, k3]
        have f4 : (Wd.drew.putObj bm o).frozen? ⟨W.heap.size + 1 + 1 + 1 + 1, 0, none⟩ = false := by simp [World.frozen?, k4]
        have hkd := (hoth D (by omega)).trans hKd
        have hfw : Fr W (Wd.drew.putObj bm o) (fun k => k = bm ∨ (Value.slice ao od.length co).ownBlock = some k) := (hC.fr.drew).trans ((fr_one Wd.drew bm o).mono (fun j hj => .inl (.inl hj)))
        have hkw : ∀ g, (Value.slice ao od.length co).ownBlock = some g → Kp W (Wd.drew.putObj bm o) g od.length := fun g hg => (hC.kp g hg).then (hoth g (hvo g hg).2.2.1)
        replace RG := Mr.hid RG
        replace hst := Mr.hid hst
        replace hfw := Mr.hid hfw
        replace hkw := Mr.hid hkw
        replace hsn := Mr.hid hsn
        replace hnone := Mr.hid hnone
        replace hoth := Mr.hid hoth
        go_wp2
        refine wp_region_held_drew (S := fun w' => w'.cell? ⟨W.heap.size, 0, none⟩ = some (.pointer (some ⟨bs, 0, none⟩)) ∧ w'.cell? ⟨bs, 11, none⟩ = some (.map (some bm)) ∧ w'.rangeAt w1.heap.size 0 cs) (by kernel_rfl) ⟨cx, cm, RG.out⟩ (fun hS' => ?_)
        try simp only [Act.put, LA, LB, LC, LD, LE, LF]
        refine wpAnyH_take (i := 0) (v := .pointer (some ⟨bs, 0, none⟩)) rfl (by kernel_rfl) (by kernel_rfl) (by kernel_rfl) (fun _ _ _ h => h) (Or.inl ⟨by kernel_rfl, fun w' hw => by obtain ⟨s1, s2, s4⟩ := hw; clear cx cm; go_simp⟩) hS' ?_
        try simp only [Act.put, LA, LB, LC, LD, LE, LF]
        refine wpAnyH_take (i := 1) (v := .pointer (some ⟨bs, 0, none⟩)) rfl (by kernel_rfl) (by kernel_rfl) (by kernel_rfl) (fun _ _ _ h => h) (Or.inl ⟨by kernel_rfl, fun w' hw => by obtain ⟨s1, s2, s4⟩ := hw; clear cx cm; go_simp⟩) hS' ?_
        try simp only [Act.put, LA, LB, LC, LD, LE, LF]
        refine wpAnyH_take (i := 2) (v := .pointer (some ⟨bs, 11, none⟩)) rfl (by kernel_rfl) (by kernel_rfl) (by kernel_rfl) (fun _ _ _ h => h) (Or.inl ⟨by kernel_rfl, fun w' hw => by obtain ⟨s1, s2, s4⟩ := hw; clear cx cm; go_simp⟩) hS' ?_
        try simp only [Act.put, LA, LB, LC, LD, LE, LF]
        refine wpAnyH_take (i := 3) (v := .map (some bm)) rfl (by kernel_rfl) (by kernel_rfl) (by kernel_rfl) (fun _ _ _ h => h) (Or.inl ⟨by kernel_rfl, fun w' hw => by obtain ⟨s1, s2, s4⟩ := hw; clear cx cm; go_simp⟩) hS' ?_
        try simp only [Act.put, LA, LB, LC, LD, LE, LF]
        refine wpAnyH_take (i := 4) (v := .agg cs.toArray) rfl (by kernel_rfl) (by kernel_rfl) (by kernel_rfl) (fun _ _ _ h => h) (yieldsIf_load_mid (by kernel_rfl) 73 (.tmp 8) rfl w1.heap.size 0 rfl cs (.array 22 3) (fun w' hw => hw.2.2) (by kernel_rfl) rfl (by rw [hle.out]; kernel_rfl)) hS' ?_
        try simp only [Act.put, LA, LB, LC, LD, LE, LF]
        refine wpAnyH_ready (rs := [5]) (by kernel_rfl) (by simp) ?_
        refine AllReadyH.cons rfl (fun K hK => ?_) AllReadyH.nil
        try simp only [Act.put, LA, LB, LC, LD, LE, LF]
        go_simp
        simp only [hst.out, Result.andThen]
        refine hK.out _ _ ⟨cell_put hmo hmc cx, cell_put hmo hmc cm, fun j v hj => cell_put hmo hmc (RG.out j v hj)⟩ (fun hS' => ?_)
        clear hK K
        try simp only [Act.put, LA, LB, LC, LD, LE, LF]
        refine wpAnyH_done (by kernel_rfl) ?_ _
        generalize hWe : Wd.drew.putObj bm o = We at *
        clear hWe hS'
        go_wp2
        have n3 : (We.setCell ⟨W.heap.size + 1 + 1 + 1, 0, none⟩ (.slice none 0 0)).setCell ⟨W.heap.size + 1 + 1 + 1 + 1, 0, none⟩ (.bool false) = lset We W.heap.size (.slice none 0 0) false := rfl
        rw [n3]
        obtain ⟨g3, g4, hfr⟩ := lset_at k3 k4 (.slice none 0 0) false
        have hkd2 : (lset We W.heap.size (.slice none 0 0) false).heap[D]? = some (.deferred (some [])) := (hfr.block D (Array.getElem?_eq_some_iff.1 hkd).1 (by omega)).trans hkd
        refine ⟨by simp, .inl ⟨_, _, rfl, run_takeDeferred (w := lset We W.heap.size (.slice none 0 0) false) hkd2, ?_⟩⟩
        have g3c := cell_of ((World.putObj_heap_other (w := lset We W.heap.size (.slice none 0 0) false) (o := .deferred none) (show W.heap.size + 1 + 1 + 1 ≠ D by omega)).trans g3)
        have g4c := cell_of ((World.putObj_heap_other (w := lset We W.heap.size (.slice none 0 0) false) (o := .deferred none) (show W.heap.size + 1 + 1 + 1 + 1 ≠ D by omega)).trans g4)
        refine ⟨.tuple #[.slice none 0 0, .bool false], by simp [results, Tryz.f16, go_sem, g3c, g4c], (hfw.out.trans (hfr.mono (fun k hk => .inr (by omega)))).trans ((fr_one _ D _).mono (fun k hk => .inr (by omega))), fun g hg => ((hkw.out g hg).then (hfr.block _ (hkw.out g hg).lt (by have := (hvo g hg).2.2.2; omega))).then (World.putObj_heap_other (by have := (hvo g hg).2.2.2; omega)), (hsn.out.kept (hfr.block _ hsn.out.lt (by omega))).kept (World.putObj_heap_other (by omega)), .inl ⟨hnone.out, rfl⟩⟩
      case left =>
        rintro D Wd hD hX hKd
        obtain ⟨li, vr, h1', h2', h3', h4', h5'⟩ := hX.an
        have g3c := cell_of ((World.putObj_heap_other (w := Wd) (o := .deferred none) (show W.heap.size + 1 + 1 + 1 ≠ D by omega)).trans h2')
        have g4c := cell_of ((World.putObj_heap_other (w := Wd) (o := .deferred none) (show W.heap.size + 1 + 1 + 1 + 1 ≠ D by omega)).trans h3')
        gi_wp2
        refine ⟨by simp, .inl ⟨_, _, rfl, run_takeDeferred (w := Wd) hKd, ?_⟩⟩
        refine ⟨.tuple #[vr, .bool true], by simp [results, Tryz.f16, go_sem, g3c, g4c], hX.fr.trans ((fr_one _ D _).mono (fun k hk => .inr (by omega))), fun g hg => (hX.kp g hg).then (World.putObj_heap_other (by have := (hvo g hg).2.2.2; omega)), hX.sn.kept (World.putObj_heap_other (by omega)), .inr ⟨li, vr, h1', rfl, has_put' h4' hKd rfl, h5'⟩⟩
end Go.Proofs.YtnbibkohgppjnaaGreat.Ws
