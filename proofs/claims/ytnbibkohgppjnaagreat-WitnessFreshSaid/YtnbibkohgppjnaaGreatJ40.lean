import Derived.Test.YtnbibkohgppjnaaGreatJ37
import Derived.Test.YtnbibkohgppjnaaGreatJ39
import Derived.Shelf.Abstract
set_option linter.unusedVariables false
set_option linter.unusedSimpArgs false
set_option maxRecDepth 100000
namespace Go.Proofs.YtnbibkohgppjnaaGreat.Ws
open Go.RowKit Go.Shelf Mr Md Wt
attribute [local go_sem] Oper.semAt_some
structure Cn (W : World) (bs bm hb yb bp ba : Nat) (T : Nat → Prop) (vc vn : Value) (sc : List Cq) (P : Nat) (v0 v1 v2 v3 v4 : Value) (x : Ct) (ob : Obj) (n : Nat) (W1 : World) : Prop where
 ow : Ow W1 bp ba bs W.heap.size T vc vn (.map (some bm)) (ahM sc) (enM sc) sc P v0 v1 v2 v3 v4 x
 bx : W1.heap[W.heap.size]? = some (.cells #[.pointer (some ⟨bs, 0, none⟩)] 46 (0, 0))
 hr : W1.heap[hb]? = some ob
 wy : W1.heap[yb]? = some (.cells #[.int .i64 (n : Int)] 3 (0, 0))
 sn : Seen W1 bm (GoodC sc)
 fr : Fr W W1 (fun k => k = bm)
structure Cm (W : World) (bs bm hb yb : Nat) (T : Nat → Prop) (vc vn : Value) (sc : List Cq) (P : Nat) (v0 v1 v2 v3 v4 : Value) (x : Ct) (ob : Obj) (n : Nat) (W1 : World) : Prop where
 bx : W1.heap[W.heap.size]? = some (.cells #[.pointer (some ⟨bs, 0, none⟩)] 46 (0, 0))
 ba : W1.heap[W.heap.size + 1]? = some (stO P v0 v1 v2 v3 v4)
 hr : W1.heap[hb]? = some ob
 wy : W1.heap[yb]? = some (.cells #[.int .i64 (n : Int)] 3 (0, 0))
 sb : W1.heap[bs]? = some (sbO vc vn (ahM sc) (enM sc) (.map (some bm)))
 cl : Sl W1 T 9 vc sc.length (cqs sc)
 ct : CtAt W1 T v0 v1 v2 v3 v4 x
 sn : Seen W1 bm (GoodC sc)
 fr : Fr W W1 (fun k => k = bm)
section
variable {W W1 W2 : World} {bs bm hb yb bp ba : Nat} {T : Nat → Prop} {vc vn : Value} {sc : List Cq} {P : Nat} {v0 v1 v2 v3 v4 : Value} {x : Ct} {ob : Obj} {n : Nat}
theorem Cn.kept (h : Cn W bs bm hb yb bp ba T vc vn sc P v0 v1 v2 v3 v4 x ob n W1) {S : Nat → Prop} (hf : Fr W1 W2 S) (hT : ∀ k, T k → ¬ S k) (h1 : ¬ S bp) (h2 : ¬ S ba) (h3 : ¬ S bs) (h4 : ¬ S W.heap.size) (h5 : ¬ S hb) (h6 : ¬ S yb) (h7 : ∀ k, S k → k = bm ∨ W.heap.size ≤ k) (hsn : Seen W2 bm (GoodC sc)) : Cn W bs bm hb yb bp ba T vc vn sc P v0 v1 v2 v3 v4 x ob n W2 := by
 have g : ∀ {k o}, W1.heap[k]? = some o → ¬ S k → W2.heap[k]? = some o := fun {k o} hk hn => (hf.block k (Array.getElem?_eq_some_iff.1 hk).1 hn).trans hk
 exact ⟨⟨g h.ow.hp h1, g h.ow.ha h2, g h.ow.sb h3, h.ow.cl.fr hf (fun k hk _ => hT k hk), h.ow.ct.fr hf (fun k hk _ => hT k hk), Nat.le_trans h.ow.sz hf.size⟩, g h.bx h4, g h.hr h5, g h.wy h6, hsn, h.fr.trans (hf.mono h7)⟩
theorem Cn.set (h : Cn W bs bm hb yb bp ba T vc vn sc P v0 v1 v2 v3 v4 x ob n W1) {m : Nat} (hT : ∀ k, T k → k < W.heap.size) (hq : W.heap.size < yb ∧ yb ≠ bp ∧ yb ≠ ba ∧ yb ≠ hb ∧ bs < W.heap.size ∧ bm < W.heap.size) : Cn W bs bm hb yb bp ba T vc vn sc P v0 v1 v2 v3 v4 x ob m (W1.setCell ⟨yb, 0, none⟩ (.int .i64 (m : Int))) := by
 obtain ⟨q1, q2, q3, q4, q5, q6⟩ := hq
 have hf : Fr W1 (W1.setCell ⟨yb, 0, none⟩ (.int .i64 (m : Int))) (fun k => k = yb) := (Fr.refl _ _).setCell _ _ (.inl rfl)
 have g : ∀ {k o}, W1.heap[k]? = some o → k ≠ yb → (W1.setCell ⟨yb, 0, none⟩ (.int .i64 (m : Int))).heap[k]? = some o := fun {k o} hk hn => (hf.block k (Array.getElem?_eq_some_iff.1 hk).1 hn).trans hk
 refine ⟨⟨g h.ow.hp (Ne.symm q2), g h.ow.ha (Ne.symm q3), g h.ow.sb (by omega), h.ow.cl.fr hf (fun k hk _ => by have := hT k hk; omega), h.ow.ct.fr hf (fun k hk _ => by have := hT k hk; omega), Nat.le_trans h.ow.sz hf.size⟩, g h.bx (by omega), g h.hr (Ne.symm q4), ?_, h.sn.kept (hf.block _ h.sn.lt (by omega)), h.fr.trans (hf.mono (fun k hk => .inr (by omega)))⟩
 have := h.wy
 exact Boxed.set _ (show Boxed W1 yb 3 _ from h.wy)
theorem Cm.kept (h : Cm W bs bm hb yb T vc vn sc P v0 v1 v2 v3 v4 x ob n W1) {S : Nat → Prop} (hf : Fr W1 W2 S) (hT : ∀ k, T k → ¬ S k) (h3 : ¬ S bs) (h4 : ¬ S W.heap.size) (h4' : ¬ S (W.heap.size + 1)) (h5 : ¬ S hb) (h6 : ¬ S bm) (h7 : ∀ k, S k → W.heap.size ≤ k) {m : Nat} (hw : W2.heap[yb]? = some (.cells #[.int .i64 (m : Int)] 3 (0, 0))) : Cm W bs bm hb yb T vc vn sc P v0 v1 v2 v3 v4 x ob m W2 := by
 have g : ∀ {k o}, W1.heap[k]? = some o → ¬ S k → W2.heap[k]? = some o := fun {k o} hk hn => (hf.block k (Array.getElem?_eq_some_iff.1 hk).1 hn).trans hk
 exact ⟨g h.bx h4, g h.ba h4', g h.hr h5, hw, g h.sb h3, h.cl.fr hf (fun k hk _ => hT k hk), h.ct.fr hf (fun k hk _ => hT k hk), h.sn.kept (hf.block _ h.sn.lt h6), h.fr.trans (hf.mono (fun k hk => .inr (h7 k hk)))⟩
theorem Cm.below (h : Cm W bs bm hb yb T vc vn sc P v0 v1 v2 v3 v4 x ob n W1) (hB : Below W1.heap.size W1 W2) : Cm W bs bm hb yb T vc vn sc P v0 v1 v2 v3 v4 x ob n W2 :=
 h.kept (S := fun _ => False) (Fr.of_below hB) (fun _ _ e => e) id id id id id (fun _ e => e.elim) ((hB.block _ (Array.getElem?_eq_some_iff.1 h.wy).1).trans h.wy)
theorem Cm.asked (h : Cm W bs bm hb yb T vc vn sc P v0 v1 v2 v3 v4 x ob n W1) : Cn W bs bm hb yb W1.heap.size (W1.heap.size + 1) T vc vn sc P v0 v1 v2 v3 v4 x ob n ((W1.alloc (.cells #[.pointer (some ⟨bs, 0, none⟩)] 46 (0, 0))).alloc (stO P v0 v1 v2 v3 v4)) := by
 have hB : Below W1.heap.size W1 ((W1.alloc (.cells #[.pointer (some ⟨bs, 0, none⟩)] 46 (0, 0))).alloc (stO P v0 v1 v2 v3 v4)) := ((Below.refl _ _).alloc (Nat.le_refl _) _).alloc (by simp) _
 have h2 := h.below hB
 refine ⟨⟨?_, ?_, h2.sb, h2.cl, h2.ct, h2.fr.size⟩, h2.bx, h2.hr, h2.wy, h2.sn, h2.fr⟩
 ·rw [heap_alloc_old _ _ (by simp), heap_alloc_new]
 ·have := heap_alloc_new (W1.alloc (.cells #[.pointer (some ⟨bs, 0, none⟩)] 46 (0, 0))) (stO P v0 v1 v2 v3 v4)
  rw [World.size_alloc] at this
  exact this
theorem Cn.grows : Grows (Cn W bs bm hb yb bp ba T vc vn sc P v0 v1 v2 v3 v4 x ob n) := by
 intro Wa Wb h hB
 exact h.kept (S := fun _ => False) (Fr.of_below hB) (fun _ _ e => e) id id id id id id (fun _ e => e.elim) (h.sn.kept (hB.block bm h.sn.lt))
theorem Cn.keeps {B : Nat} (hT : ∀ k, T k → k < B) (h1 : bp < B) (h2 : ba < B) (h3 : bs < B) (h4 : W.heap.size < B) (h5 : hb < B) (h6 : yb < B) (h7 : bm < B) : Keeps B (Cn W bs bm hb yb bp ba T vc vn sc P v0 v1 v2 v3 v4 x ob n) := by
 intro Wa l o o' h hl ho hc
 refine h.kept (S := fun k => k = l) (fr_one _ _ _) (fun k hk => by have := hT k hk; omega) (by omega) (by omega) (by omega) (by omega) (by omega) (by omega) (fun k hk => .inr (by omega)) (h.sn.kept (World.putObj_heap_other (by omega)))
end
set_option maxHeartbeats 8000000 in
theorem count_any {sc : List Cq} (hsc : sc.length ≤ 8) (hob : ∀ c ∈ sc, obj c.op ≠ 0) (hwc : ∀ c ∈ sc, WfC c) : ∀ (r : Nat) {W : World} {bs bm : Nat} {T : Nat → Prop} {vc vn : Value} {P : Nat} {v0 v1 v2 v3 v4 : Value} {x : Ct}, room sc.length P ≤ r → P < 256 → May x → Few (sc.length - room sc.length P) x → WfX x → Sr W bs bm T vc vn sc (GoodC sc) → CtAt W T v0 v1 v2 v3 v4 x →
  Calls Tryz.prog 20 #[.pointer (some ⟨bs, 0, none⟩), .agg #[gv P, v0, v1, v2, v3, v4]] W fun e w' => e = .returned (.int .i64 ((spc sc).num P x : Int)) ∧ Seen w' bm (GoodC sc) ∧ Fr W w' (fun k => k = bm) := by
 intro r
 induction r using Nat.strongRecOn with
 | _ r IH =>
 intro W bs bm T vc vn P v0 v1 v2 v3 v4 x hr hP hm hFw hwx hS0 hx0
 have hF : Few 8 x := by unfold Few at *; omega
 obtain ⟨T', hT'⟩ : ∃ T' : Nat → Prop, T' = fun k => T k ∧ k < W.heap.size := ⟨_, rfl⟩
 have hx : CtAt W T' v0 v1 v2 v3 v4 x := by rw [hT']; exact ct_inb hx0
 have hS : Sr W bs bm T' vc vn sc (GoodC sc) := by rw [hT']; exact ⟨hS0.sb, sl_inb hS0.cl, hS0.sn, fun e => hS0.nT e.1, hS0.ne⟩
 have hTl : ∀ k, T' k → k < W.heap.size := by rw [hT']; exact fun k hk => hk.2
 clear hT' hS0 hx0
 replace IH := Mr.hid IH
 have CS := fun W' (hB : Below W.heap.size W W') => Mr.hid (sight_any hP (hx.below hB) hF)
 have hk := is_key (sgt_len (P := P) hF) (wf_sgt hP hF hwx)
 obtain ⟨a0, c0, rfl, h0⟩ := hx.cell.form
 obtain ⟨a1, c1, rfl, h1⟩ := hx.stack.form
 obtain ⟨a2, c2, rfl, h2⟩ := hx.queue.form
 obtain ⟨a3, c3, rfl, h3⟩ := hx.set.form
 obtain ⟨a4, c4, rfl, h4⟩ := hx.table.form
 have hB0 : Below W.heap.size W ((W.alloc (.cells #[.pointer (some ⟨bs, 0, none⟩)] 46 (0, 0))).alloc (stO P (.slice a0 x.cell.length c0) (.slice a1 x.stack.length c1) (.slice a2 x.queue.length c2) (.slice a3 x.set.length c3) (.slice a4 x.table.length c4))) := ((Below.refl _ _).alloc (Nat.le_refl _) _).alloc (by simp) _
 have CT := Mr.hid (CS _ hB0).out
 clear CS
 unfold stO gv at *
 refine (callsIn_wide (n := 5)).1 ?_
 refine callsIn_of_wp_marks Tryz.func20 rfl trivial ?_ rfl
 simp only [Tryz.ntmps20, List.size_toArray, List.length_cons, List.length_nil, Nat.reduceAdd, Nat.reduceSub, Array.replicate_succ, Array.replicate_zero, List.push_toArray, List.append_toArray, List.nil_append, List.cons_append]
 refine wpIn_mono (Q := noPan _) ?_ noPan_le
 refine wpIn_wide.2 ?_
 go_upto_region 1 with (fail)
 have hle := sgt_len (P := P) hF
 have hle : Hid ((ints (sgt P x)).length = 22) := by show _ = _; rw [ints, List.length_map]; exact hle
 have h1c := Mr.hid (ints_one' (sgt P x))
 generalize hcs : ints (sgt P x) = cs at *
 replace hcs := Mr.hid hcs
 have TH : Hid (∀ w1 : World, (w1.alloc (.cells #[.int .i64 0, .int .i64 0, .int .i64 0, .int .i64 0, .int .i64 0, .int .i64 0, .int .i64 0, .int .i64 0, .int .i64 0, .int .i64 0, .int .i64 0, .int .i64 0, .int .i64 0, .int .i64 0, .int .i64 0, .int .i64 0, .int .i64 0, .int .i64 0, .int .i64 0, .int .i64 0, .int .i64 0, .int .i64 0] 73 (0, 0))).there w1.heap.size 0 22) := Mr.hid (fun w1 => there_new w1 _ (by rfl))
 go_upto_region 2 with (first | (go_at_call 31; refine CT.out.mono ?_; rintro e w1 ⟨rfl, hB1⟩) | (refine wpList_store_mid rfl 73 (.tmp 5) (.tmp 12) rfl w1.heap.size 0 cs.toArray rfl rfl (by simpa [hle.out] using TH.out w1) (by simp only [List.size_toArray, hle.out]; kernel_rfl) (all_oneCell_toArray h1c.out) ?_))
 generalize hWk : World.setCells _ _ _ _ = Wk
 have RG : Hid (Wk.rangeAt w1.heap.size 0 cs) := by rw [← hWk]; exact Mr.hid (World.rangeAt_setCells_same _ _ _ _ (by rw [hle.out]; exact TH.out w1))
 have BK : Below w1.heap.size w1 Wk := by rw [← hWk]; exact below_cells _ _ _ ((Below.refl _ _).alloc (Nat.le_refl _) _) (Nat.le_refl _)
 clear hWk TH CT
 have hB2 := hB0.trans (hB1.mono hB0.size)
 have hB3 := hB2.trans (BK.mono hB2.size)
 have SN := hS.sn.kept (hB3.block bm hS.sn.lt)
 have cb := (hB3.cell (p := ⟨bs, 11, none⟩) (sb_cells hS.sb).1).trans (sb_cells hS.sb).2.2.2.2
 have cp : Wk.cell? ⟨W.heap.size, 0, none⟩ = some (.pointer (some ⟨bs, 0, none⟩)) := by
  have q : Wk.heap[W.heap.size]? = some (.cells #[.pointer (some ⟨bs, 0, none⟩)] 46 (0, 0)) := by
   rw [BK.block _ (Nat.lt_of_lt_of_le (by simp; omega) hB1.size), hB1.block _ (by simp; omega), heap_alloc_old _ _ (by simp), heap_alloc_new]
  unfold World.cell?; rw [q]; rfl
 have LK := SN.kept (W' := Wk.drew) rfl |>.look hk
 obtain ⟨lv, lb, LK, hlv⟩ : ∃ lv lb, (Instr.lookup 65 (.map (some bm)) (.agg cs.toArray) true).run Tryz.prog Wk.drew = .ok (.tuple #[lv, .bool lb]) Wk.drew ∧ (lb = true → lv = .int .i64 ((spc sc).num P x : Int)) := by
  rcases LK with h | ⟨v, hg, h⟩
  ·exact ⟨_, false, h, fun e => by cases e⟩
  ·exact ⟨v, true, h, fun _ => hg P x (by rw [hcs.out])⟩
 replace LK := Mr.hid LK
 replace hlv := Mr.hid hlv
 refine wp_region_held_drew (S := fun w' => w' = Wk.drew) (by kernel_rfl) rfl (fun hS' => ?_)
 try simp only [Act.put, LA, LB, LC, LD, LE, LF]
 refine wpAnyH_take (i := 0) (v := .pointer (some ⟨bs, 0, none⟩)) rfl (by kernel_rfl) (by kernel_rfl) (by kernel_rfl) (fun _ _ _ h => h) (Or.inl ⟨by kernel_rfl, fun w' hw => by subst hw; go_simp⟩) hS' ?_
 try simp only [Act.put, LA, LB, LC, LD, LE, LF]
 refine wpAnyH_take (i := 1) (v := .pointer (some ⟨bs, 0, none⟩)) rfl (by kernel_rfl) (by kernel_rfl) (by kernel_rfl) (fun _ _ _ h => h) (Or.inl ⟨by kernel_rfl, fun w' hw => by subst hw; go_simp⟩) hS' ?_
 try simp only [Act.put, LA, LB, LC, LD, LE, LF]
 refine wpAnyH_take (i := 2) (v := .pointer (some ⟨bs, 11, none⟩)) rfl (by kernel_rfl) (by kernel_rfl) (by kernel_rfl) (fun _ _ _ h => h) (Or.inl ⟨by kernel_rfl, fun w' hw => by subst hw; go_simp⟩) hS' ?_
 try simp only [Act.put, LA, LB, LC, LD, LE, LF]
 refine wpAnyH_take (i := 3) (v := .map (some bm)) rfl (by kernel_rfl) (by kernel_rfl) (by kernel_rfl) (fun _ _ _ h => h) (Or.inl ⟨by kernel_rfl, fun w' hw => by subst hw; go_simp⟩) hS' ?_
 try simp only [Act.put, LA, LB, LC, LD, LE, LF]
 refine wpAnyH_take (i := 4) (v := .agg cs.toArray) rfl (by kernel_rfl) (by kernel_rfl) (by kernel_rfl) (fun _ _ _ h => h) (yieldsIf_load_mid (by kernel_rfl) 73 (.tmp 5) rfl w1.heap.size 0 rfl cs (.array 22 3) (fun w' hw => by subst hw; exact RG.out) (by kernel_rfl) rfl (by rw [hle.out]; kernel_rfl)) hS' ?_
 try simp only [Act.put, LA, LB, LC, LD, LE, LF]
 refine wpAnyH_take (i := 5) (v := .tuple #[lv, .bool lb]) rfl (by kernel_rfl) (by kernel_rfl) (by kernel_rfl) (fun _ _ _ h => h) (Or.inl ⟨by kernel_rfl, fun w' hw => by subst hw; exact run_look (LK.out)⟩) hS' ?_
 try simp only [Act.put, LA, LB, LC, LD, LE, LF]
 refine wpAnyH_take (i := 6) (v := .tuple #[lv, .bool lb]) rfl (by kernel_rfl) (by kernel_rfl) (by kernel_rfl) (fun _ _ _ h => h) (Or.inl ⟨by kernel_rfl, fun w' hw => by subst hw; go_simp⟩) hS' ?_
 try simp only [Act.put, LA, LB, LC, LD, LE, LF]
 refine wpAnyH_take (i := 7) (v := lv) rfl (by kernel_rfl) (by kernel_rfl) (by kernel_rfl) (fun _ _ _ h => h) (Or.inl ⟨by kernel_rfl, fun w' hw => by subst hw; go_simp⟩) hS' ?_
 try simp only [Act.put, LA, LB, LC, LD, LE, LF]
 refine wpAnyH_take (i := 8) (v := .bool lb) rfl (by kernel_rfl) (by kernel_rfl) (by kernel_rfl) (fun _ _ _ h => h) (Or.inl ⟨by kernel_rfl, fun w' hw => by subst hw; go_simp⟩) hS' ?_
 try simp only [Act.put, LA, LB, LC, LD, LE, LF]
 refine wpAnyH_take (i := 9) (v := lv) rfl (by kernel_rfl) (by kernel_rfl) (by kernel_rfl) (fun _ _ _ h => h) (Or.inl ⟨by kernel_rfl, fun w' hw => by subst hw; go_simp⟩) hS' ?_
 try simp only [Act.put, LA, LB, LC, LD, LE, LF]
 refine wpAnyH_take (i := 10) (v := .bool lb) rfl (by kernel_rfl) (by kernel_rfl) (by kernel_rfl) (fun _ _ _ h => h) (Or.inl ⟨by kernel_rfl, fun w' hw => by subst hw; go_simp⟩) hS' ?_
 try simp only [Act.put, LA, LB, LC, LD, LE, LF]
 refine wpAnyH_done (by kernel_rfl) ?_ _
 cases lb with
 | true =>
  rw [hlv.out rfl]
  go_wp2
  refine ⟨.int .i64 ((spc sc).num P x : Int), by simp [results, Tryz.f20, go_sem], ?_⟩
  exact ⟨rfl, SN.kept rfl, (Fr.of_below hB3).drew⟩
 | false =>
  have hlt1 : w1.heap.size < Wk.heap.size := by
   have h0 := RG.out 0 _ (List.getElem?_eq_getElem (by have := hle.out; omega))
   rcases Nat.lt_or_ge w1.heap.size Wk.heap.size with h | h
   ·exact h
   ·simp [World.cell?, Array.getElem?_eq_none h] at h0
  obtain ⟨ob, hob1⟩ : ∃ ob, Wk.heap[w1.heap.size]? = some ob := ⟨_, Array.getElem?_eq_getElem hlt1⟩
  have hRG : Hid (∀ W' : World, W'.heap[w1.heap.size]? = some ob → W'.rangeAt w1.heap.size 0 cs) := Mr.hid (fun W' h j v hj => by
   have := RG.out j v hj
   unfold World.cell? at this ⊢
   rw [h]
   rw [hob1] at this
   exact this)
  go_upto_region 6 with (fail)
  have q0 : Wk.heap[W.heap.size]? = some (.cells #[.pointer (some ⟨bs, 0, none⟩)] 46 (0, 0)) := by
   rw [BK.block _ (Nat.lt_of_lt_of_le (by simp; omega) hB1.size), hB1.block _ (by simp; omega), heap_alloc_old _ _ (by simp), heap_alloc_new]
  have q1 : Wk.heap[W.heap.size + 1]? = some (stO P (.slice a0 x.cell.length c0) (.slice a1 x.stack.length c1) (.slice a2 x.queue.length c2) (.slice a3 x.set.length c3) (.slice a4 x.table.length c4)) := by
   rw [BK.block _ (Nat.lt_of_lt_of_le (by simp) hB1.size), hB1.block _ (by simp)]
   have := heap_alloc_new (W.alloc (.cells #[.pointer (some ⟨bs, 0, none⟩)] 46 (0, 0))) (stO P (.slice a0 x.cell.length c0) (.slice a1 x.stack.length c1) (.slice a2 x.queue.length c2) (.slice a3 x.set.length c3) (.slice a4 x.table.length c4))
   rw [World.size_alloc] at this
   exact this
  have hs1 : W.heap.size + 1 < w1.heap.size := by have := hB1.size; simp at this; omega
  have hBk : Below Wk.heap.size Wk (Wk.alloc (.cells #[.int .i64 0] 3 (0, 0))).drew := ((Below.refl _ _).alloc (Nat.le_refl _) _).drew
  have q2 : (Wk.alloc (.cells #[.int .i64 0] 3 (0, 0))).drew.heap[Wk.heap.size]? = some (.cells #[.int .i64 0] 3 (0, 0)) := heap_alloc_new _ _
  have qs : (Wk.alloc (.cells #[.int .i64 0] 3 (0, 0))).drew.heap.size = Wk.heap.size + 1 := by simp
  generalize hW5 : (Wk.alloc _).drew = W5 at *
  clear hW5 LK hlv hS' RG cp cb
  have hbs : bs < W.heap.size := (sb_cells hS.sb).1
  have hB5 : Below W.heap.size W W5 := hB3.trans (hBk.mono hB3.size)
  have q0' := (hBk.block _ (Array.getElem?_eq_some_iff.1 q0).1).trans q0
  have q1' := (hBk.block _ (Array.getElem?_eq_some_iff.1 q1).1).trans q1
  have q3' := (hBk.block _ hlt1).trans hob1
  have sb5 := (hB5.block _ hbs).trans hS.sb
  have C5 : Hid (Cm W bs bm w1.heap.size Wk.heap.size T' vc vn sc P (.slice a0 x.cell.length c0) (.slice a1 x.stack.length c1) (.slice a2 x.queue.length c2) (.slice a3 x.set.length c3) (.slice a4 x.table.length c4) x ob 0 W5) := Mr.hid ⟨q0', q1', q3', q2, sb5, hS.cl.below hB5, hx.below hB5, SN.kept (hBk.block _ SN.lt), Fr.of_below hB5⟩
  have c50 : W5.cell? ⟨W.heap.size, 0, none⟩ = some (.pointer (some ⟨bs, 0, none⟩)) := by simp [World.cell?, q0']
  obtain ⟨_, p0, p1, p2, p3, p4, p5⟩ := st_cells q1'
  have CW := whole_any sb5 (mks_lt _ _ hsc) hP (.slice a0 x.cell.length c0) (.slice a1 x.stack.length c1) (.slice a2 x.queue.length c2) (.slice a3 x.set.length c3) (.slice a4 x.table.length c4)
  rw [en_whl sc hsc] at CW
  replace CW := Mr.hid CW
  have hs5 : w1.heap.size < W5.heap.size := by omega
  have hs6 : Wk.heap.size < W5.heap.size := by omega
  clear q0 q1 q2 q3' q0' q1' sb5 hB5 hBk hB3 hB2 BK hB1 hB0 SN qs hob1
  cases hwb : whlB sc P with
  | false =>
   rw [hwb] at CW
   go_upto_region 8 with (go_at_call 30; refine CW.out.mono ?_; rintro e w6 ⟨rfl, hB6⟩)
   have C8 := Mr.hid (C5.out.below hB6)
   have hn0 : Hid ((spc sc).upto P x 0 = 0) := Mr.hid (by show (if whlB sc P = true then 1 else 0) = 0; rw [hwb]; rfl)
   have hz1 : w1.heap.size < w6.heap.size := Nat.lt_of_lt_of_le hs5 hB6.size
   have hz2 : Wk.heap.size < w6.heap.size := Nat.lt_of_lt_of_le hs6 hB6.size
   have c60 := (hB6.cell (p := ⟨W.heap.size, 0, none⟩) (show W.heap.size < W5.heap.size by omega)).trans c50
   obtain ⟨_, p0, p1, p2, p3, p4, p5⟩ := st_cells C8.out.ba
   clear hB6 C5 CW c50
   have CO := Mr.hid (onward_any (W := w6) (b := bs) (P := P) (.slice a0 x.cell.length c0) (.slice a1 x.stack.length c1) (.slice a2 x.queue.length c2) (.slice a3 x.set.length c3) (.slice a4 x.table.length c4))
   have CN : Hid (Cn W bs bm w1.heap.size Wk.heap.size w6.heap.size (w6.heap.size + 1) T' vc vn sc P (.slice a0 x.cell.length c0) (.slice a1 x.stack.length c1) (.slice a2 x.queue.length c2) (.slice a3 x.set.length c3) (.slice a4 x.table.length c4) x ob ((spc sc).upto P x 0) ((w6.alloc (.cells #[.pointer (some ⟨bs, 0, none⟩)] 46 (0, 0))).alloc (stO P (.slice a0 x.cell.length c0) (.slice a1 x.stack.length c1) (.slice a2 x.queue.length c2) (.slice a3 x.set.length c3) (.slice a4 x.table.length c4)))) := Mr.hid (by rw [hn0.out]; exact C8.out.asked)
   unfold gv at CO
   go_wp2_with (go_at_call 32; refine CO.out.mono ?_; rintro e w9 ⟨rfl, rfl⟩)
   have hz9 : ((w6.alloc (.cells #[.pointer (some ⟨bs, 0, none⟩)] 46 (0, 0))).alloc (stO P (.slice a0 x.cell.length c0) (.slice a1 x.stack.length c1) (.slice a2 x.queue.length c2) (.slice a3 x.set.length c3) (.slice a4 x.table.length c4))).heap.size = w6.heap.size + 2 := by simp
   generalize hW9 : (w6.alloc _).alloc _ = W9 at *
   clear hW9 CO c60 p0 p1 p2 p3 p4 p5
   refine (wpIn_wide (n := 5)).1 ?_
   refine range_r (N := sc.length) (ok := fun i => (spc sc).ok P x i) (R := Hd W.heap.size sc P x) (Kn := fun W1 => Ow W1 w6.heap.size (w6.heap.size + 1) bs W.heap.size T' vc vn (.map (some bm)) (ahM sc) (enM sc) sc P (.slice a0 x.cell.length c0) (.slice a1 x.stack.length c1) (.slice a2 x.queue.length c2) (.slice a3 x.set.length c3) (.slice a4 x.table.length c4) x) rfl (by omega) (enters_of Tryz.func49 (by kernel_rfl) rfl) ?hps (iter_hands 4 (by omega) hP hsc (fun i => mks_lt _ _ hsc) (fun i _ => ah_ahm sc hsc P i) hob hm hF)
    (fun k => Cn W bs bm w1.heap.size Wk.heap.size w6.heap.size (w6.heap.size + 1) T' vc vn sc P (.slice a0 x.cell.length c0) (.slice a1 x.stack.length c1) (.slice a2 x.queue.length c2) (.slice a3 x.set.length c3) (.slice a4 x.table.length c4) x ob ((spc sc).upto P x k)) (fun k => Cn.keeps (fun k hk => by have := hTl k hk; omega) (by omega) (by omega) (by omega) (by omega) (by omega) (by omega) (by have := hS.sn.lt; omega)) (fun k => Cn.grows) (fun _ => False) (fun _ _ _ _ h _ _ _ => h) (fun _ _ h _ => h) (fun k W1 h => h.ow) (fun k W1 hk ho h => by
     have : (spc sc).upto P x (k + 1) = (spc sc).upto P x k := by rw [Sp.upto, if_neg (by rw [ho]; simp)]; rfl
     rw [this]; exact h) CN.out
    (fun k a' W' => ∃ Bx u0 u1 u2 u3 u4, W'.heap[Bx]? = some (stO (P ||| 2 ^ k) u0 u1 u2 u3 u4) ∧ CtAt W' (fun j => W.heap.size ≤ j) u0 u1 u2 u3 u4 (alw x (cd sc k)).1 ∧ a' = { tmps := #[Value.pointer (some { block := bs, off := 0 }), Value.agg #[Value.int IntKind.u64 ↑P, Value.slice a0 x.cell.length c0, Value.slice a1 x.stack.length c1, Value.slice a2 x.queue.length c2, Value.slice a3 x.set.length c3, Value.slice a4 x.table.length c4], Value.pointer (some { block := W.heap.size, off := 0 }), Value.pointer (some { block := W.heap.size + 1, off := 0 }), Value.int IntKind.i64 0, Value.pointer (some { block := w1.heap.size, off := 0 }), lv, Value.bool false, Value.pointer (some { block := Wk.heap.size, off := 0 }), undef, Value.pointer (some { block := Bx, off := 0 }), Value.agg #[Value.int IntKind.u64 ↑P, Value.slice a0 x.cell.length c0, Value.slice a1 x.stack.length c1, Value.slice a2 x.queue.length c2, Value.slice a3 x.set.length c3, Value.slice a4 x.table.length c4], Value.agg cs.toArray, Value.tuple #[lv, Value.bool false], Value.pointer (some { block := bs, off := 0 }), Value.pointer (some { block := bs, off := 0 }), Value.pointer (some { block := bs, off := 11 }), Value.map (some bm), Value.agg cs.toArray, Value.tuple #[lv, Value.bool false], lv, Value.bool false, Value.bool false, undef, Value.pointer (some { block := bs, off := 0 }), Value.agg #[Value.int IntKind.u64 ↑P, Value.slice a0 x.cell.length c0, Value.slice a1 x.stack.length c1, Value.slice a2 x.queue.length c2, Value.slice a3 x.set.length c3, Value.slice a4 x.table.length c4], Value.bool false, Value.pointer (some { block := bs, off := 0 }), Value.agg #[Value.int IntKind.u64 ↑P, Value.slice a0 x.cell.length c0, Value.slice a1 x.stack.length c1, Value.slice a2 x.queue.length c2, Value.slice a3 x.set.length c3, Value.slice a4 x.table.length c4], Value.func (Fn.func 49) #[] #[Value.pointer (some { block := w6.heap.size, off := 0 }), Value.pointer (some { block := w6.heap.size + 1, off := 0 })], Value.int .i64 (k : Int), Value.agg #[Value.int .u64 ((P ||| 2 ^ k : Nat) : Int), u0, u1, u2, u3, u4], undef, undef, undef, undef, undef, undef, undef, undef, undef, undef, undef, undef], defers := [] })
    (fun k a' => by
     rintro Wa l o o' ⟨Bx, u0, u1, u2, u3, u4, h1, h2, h3⟩ hl ho hc
     exact ⟨Bx, u0, u1, u2, u3, u4, block_put ho hc h1, ct_put h2 ho hc, h3⟩) ?assign ?body ?done (fun _ _ _ h => h.elim)
   case hps =>
    rintro k args Wq ⟨u0, u1, u2, u3, u4, rfl, _⟩
    rfl
   case assign =>
    rintro l k args Wb K hk ho ⟨u0, u1, u2, u3, u4, rfl, hct⟩ hC hK
    obtain ⟨y0, z0, rfl, g0⟩ := hct.cell.form
    obtain ⟨y1, z1, rfl, g1⟩ := hct.stack.form
    obtain ⟨y2, z2, rfl, g2⟩ := hct.queue.form
    obtain ⟨y3, z3, rfl, g3⟩ := hct.set.form
    obtain ⟨y4, z4, rfl, g4⟩ := hct.table.form
    unfold gv
    gi_wp2
    exact hK _ _ ((KeepsOthers.alloc _ _).from _) (Cn.grows _ _ hC ((Below.refl _ _).alloc (Nat.le_refl _) _)) ⟨Wb.heap.size, _, _, _, _, _, heap_alloc_new _ _, hct.below ((Below.refl _ _).alloc (Nat.le_refl _) _), rfl⟩
   case body =>
    rintro l k a' Wb hk ho hC ⟨Bx, u0, u1, u2, u3, u4, hbx, hct, rfl⟩ hsz
    obtain ⟨y0, z0, rfl, g0⟩ := hct.cell.form
    obtain ⟨y1, z1, rfl, g1⟩ := hct.stack.form
    obtain ⟨y2, z2, rfl, g2⟩ := hct.queue.form
    obtain ⟨y3, z3, rfl, g3⟩ := hct.set.form
    obtain ⟨y4, z4, rfl, g4⟩ := hct.table.form
    have hrk := room_with hk ((spc sc).new P x k ho)
    have hcd : cd sc k ∈ sc := cd_mem hk
    have hyes := ok_yes ho
    have hIH : Hid (∀ (w' : World) (q0 q1 q2 q3 q4 : Value), Sr w' bs bm (fun j => T' j ∨ W.heap.size ≤ j) vc vn sc (GoodC sc) → CtAt w' (fun j => T' j ∨ W.heap.size ≤ j) q0 q1 q2 q3 q4 (alw x (cd sc k)).1 →
      Calls Tryz.prog 20 #[.pointer (some ⟨bs, 0, none⟩), .agg #[.int .u64 ((P ||| 2 ^ k : Nat) : Int), q0, q1, q2, q3, q4]] w' fun e w2 => e = .returned (.int .i64 ((spc sc).num (P ||| 2 ^ k) (alw x (cd sc k)).1 : Int)) ∧ Seen w2 bm (GoodC sc) ∧ Fr w' w2 (fun j => j = bm)) := Mr.hid (fun w' q0 q1 q2 q3 q4 hs hc => by
     have h2 : room sc.length (P ||| 2 ^ k) + 1 = room sc.length P := hrk
     refine IH.out (r - 1) (by omega) (by omega) (with_lt (n := 8) (by omega) hP) (may_alw hm (hob _ hcd) hyes) ?_ (wf_alw hwx (hwc _ hcd)) hs hc
     have h1 := few_alw hFw (cd sc k)
     have h3 := room_le sc.length P
     have h4 : sc.length - room sc.length P + 1 = sc.length - room sc.length (P ||| 2 ^ k) := by omega
     rw [← h4]; exact h1)
    generalize hxn : (alw x (cd sc k)).1 = xn at *
    have hup : (spc sc).upto P x (k + 1) = (spc sc).upto P x k + (spc sc).num (P ||| 2 ^ k) xn := by rw [Sp.upto, if_pos ho, ← hxn]; rfl
    have hb1 := (spc sc).num_le hsc (P ||| 2 ^ k) xn
    have hb2 := (spc sc).upto_le ((spc sc).num_le hsc) P x k
    have hb3 : k * 43046721 ≤ 8 * 43046721 := Nat.mul_le_mul_right _ (by omega)
    have hbm : bm < W.heap.size := hS.sn.lt
    have hwr : IntKind.i64.wrap (((spc sc).upto P x k : Nat) + ((spc sc).num (P ||| 2 ^ k) xn : Nat) : Int) = (((spc sc).upto P x (k + 1) : Nat) : Int) := by rw [i64w _ (by omega) (by omega), hup]; simp
    clear hup
    gi_wp2
    refine wpIn_region_any (by kernel_rfl) ?_
    refine wpAnyIn_walks (dep := fun i => if i = 3 then [1, 2] else if i = 4 then [0, 3] else if i = 5 then [4] else []) (by kernel_rfl) (fun yy => { tmps := #[Value.pointer (some { block := bs, off := 0 }), Value.agg #[Value.int IntKind.u64 ↑P, Value.slice a0 x.cell.length c0, Value.slice a1 x.stack.length c1, Value.slice a2 x.queue.length c2, Value.slice a3 x.set.length c3, Value.slice a4 x.table.length c4], Value.pointer (some { block := W.heap.size, off := 0 }), Value.pointer (some { block := W.heap.size + 1, off := 0 }), Value.int IntKind.i64 0, Value.pointer (some { block := w1.heap.size, off := 0 }), lv, Value.bool false, Value.pointer (some { block := Wk.heap.size, off := 0 }), undef, Value.pointer (some { block := Bx, off := 0 }), Value.agg #[Value.int IntKind.u64 ↑P, Value.slice a0 x.cell.length c0, Value.slice a1 x.stack.length c1, Value.slice a2 x.queue.length c2, Value.slice a3 x.set.length c3, Value.slice a4 x.table.length c4], Value.agg cs.toArray, Value.tuple #[lv, Value.bool false], Value.pointer (some { block := bs, off := 0 }), Value.pointer (some { block := bs, off := 0 }), Value.pointer (some { block := bs, off := 11 }), Value.map (some bm), Value.agg cs.toArray, Value.tuple #[lv, Value.bool false], lv, Value.bool false, Value.bool false, undef, Value.pointer (some { block := bs, off := 0 }), Value.agg #[Value.int IntKind.u64 ↑P, Value.slice a0 x.cell.length c0, Value.slice a1 x.stack.length c1, Value.slice a2 x.queue.length c2, Value.slice a3 x.set.length c3, Value.slice a4 x.table.length c4], Value.bool false, Value.pointer (some { block := bs, off := 0 }), Value.agg #[Value.int IntKind.u64 ↑P, Value.slice a0 x.cell.length c0, Value.slice a1 x.stack.length c1, Value.slice a2 x.queue.length c2, Value.slice a3 x.set.length c3, Value.slice a4 x.table.length c4], Value.func (Fn.func 49) #[] #[Value.pointer (some { block := w6.heap.size, off := 0 }), Value.pointer (some { block := w6.heap.size + 1, off := 0 })], Value.int .i64 (k : Int), Value.agg #[Value.int .u64 ((P ||| 2 ^ k : Nat) : Int), .slice y0 xn.cell.length z0, .slice y1 xn.stack.length z1, .slice y2 xn.queue.length z2, .slice y3 xn.set.length z3, .slice y4 xn.table.length z4], yy 0, yy 1, yy 2, yy 3, yy 4, undef, undef, undef, undef, undef, undef, undef], defers := [] }) (fun D yy w => KeepsFrom W9.heap.size Wb w ∧ (D 0 = true → yy 0 = .int .i64 ((spc sc).upto P x k : Int)) ∧ (D 1 = true → yy 1 = .pointer (some ⟨bs, 0, none⟩)) ∧ (D 2 = true → yy 2 = Value.agg #[.int .u64 ((P ||| 2 ^ k : Nat) : Int), .slice y0 xn.cell.length z0, .slice y1 xn.stack.length z1, .slice y2 xn.queue.length z2, .slice y3 xn.set.length z3, .slice y4 xn.table.length z4]) ∧ (D 3 = true → yy 3 = .int .i64 ((spc sc).num (P ||| 2 ^ k) xn : Int)) ∧ (D 4 = true → yy 4 = .int .i64 ((spc sc).upto P x (k + 1) : Int)) ∧ (D 3 = false → w.heap[Bx]? = some (stO (P ||| 2 ^ k) (.slice y0 xn.cell.length z0) (.slice y1 xn.stack.length z1) (.slice y2 xn.queue.length z2) (.slice y3 xn.set.length z3) (.slice y4 xn.table.length z4)) ∧ CtAt w (fun j => W.heap.size ≤ j) (.slice y0 xn.cell.length z0) (.slice y1 xn.stack.length z1) (.slice y2 xn.queue.length z2) (.slice y3 xn.set.length z3) (.slice y4 xn.table.length z4) xn) ∧ (D 5 = false → Cn W bs bm w1.heap.size Wk.heap.size w6.heap.size (w6.heap.size + 1) T' vc vn sc P (.slice a0 x.cell.length c0) (.slice a1 x.stack.length c1) (.slice a2 x.queue.length c2) (.slice a3 x.set.length c3) (.slice a4 x.table.length c4) x ob ((spc sc).upto P x k) w) ∧ (D 5 = true → Cn W bs bm w1.heap.size Wk.heap.size w6.heap.size (w6.heap.size + 1) T' vc vn sc P (.slice a0 x.cell.length c0) (.slice a1 x.stack.length c1) (.slice a2 x.queue.length c2) (.slice a3 x.set.length c3) (.slice a4 x.table.length c4) x ob ((spc sc).upto P x (k + 1)) w)) rfl (fun _ => undef) ⟨(KeepsOthers.drew _).from _, fun h => by simp at h, fun h => by simp at h, fun h => by simp at h, fun h => by simp at h, fun h => by simp at h, fun _ => ⟨hbx, hct.below (Below.refl _ _).drew⟩, fun _ => Cn.grows _ _ hC (Below.refl _ _).drew, fun h => by simp at h⟩ ?hs ?he
    case he =>
     rintro yy w ⟨kf, _, _, _, _, _, _, _, cm⟩
     exact ⟨kf, .inl ⟨rfl, cm (by decide)⟩⟩
    case hs =>
     intro i hi D yy w hDi hdep hcl hI K hK
     have hi' : i < 6 := hi
     clear hi
     obtain rfl | rfl | rfl | rfl | rfl | rfl : i = 0 ∨ i = 1 ∨ i = 2 ∨ i = 3 ∨ i = 4 ∨ i = 5 := by omega
     ·obtain ⟨kf, e0, e1, e2, e3, e4, eb, cn, cm⟩ := hI
      have d5 : D 5 = false := by
       cases h : D 5 with
       | false => rfl
       | true =>
        have q4 := hcl 5 h 4 (by decide)
        have q0 := hcl 4 q4 0 (by decide)
        rw [hDi] at q0; cases q0
      have cw := (cn d5).wy
      have cy : w.cell? ⟨Wk.heap.size, 0, none⟩ = some (.int .i64 ((spc sc).upto P x k : Int)) := by simp [World.cell?, cw]
      clear cw
      refine wpOpIn_step rfl (fun K' hK' => ?_)
      try simp only [Act.put, LA, LB, LC, LD, LE, LF]
      rw [if_pos (by kernel_rfl)]
      refine ⟨fun _ _ => trivial, ?_⟩
      go_simp
      refine hK' _ _ (hK (.int .i64 ((spc sc).upto P x k : Int)) w ⟨kf, (fun _ => by simp [upd]), (by simpa [upb, upd] using e1), (by simpa [upb, upd] using e2), (by simpa [upb, upd] using e3), (by simpa [upb, upd] using e4), (by simpa [upb, upd] using eb), (by simpa [upb, upd] using cn), (by simpa [upb, upd] using cm)⟩)
     ·obtain ⟨kf, e0, e1, e2, e3, e4, eb, cn, cm⟩ := hI
      have cx : w.heap[W.heap.size]? = some (.cells #[.pointer (some ⟨bs, 0, none⟩)] 46 (0, 0)) := by
       cases h : D 5 with
       | false => exact (cn h).bx
       | true => exact (cm h).bx
      have cy : w.cell? ⟨W.heap.size, 0, none⟩ = some (.pointer (some ⟨bs, 0, none⟩)) := by simp [World.cell?, cx]
      clear cx
      refine wpOpIn_step rfl (fun K' hK' => ?_)
      try simp only [Act.put, LA, LB, LC, LD, LE, LF]
      rw [if_pos (by kernel_rfl)]
      refine ⟨fun _ _ => trivial, ?_⟩
      go_simp
      refine hK' _ _ (hK (.pointer (some ⟨bs, 0, none⟩)) w ⟨kf, (by simpa [upb, upd] using e0), (fun _ => by simp [upd]), (by simpa [upb, upd] using e2), (by simpa [upb, upd] using e3), (by simpa [upb, upd] using e4), (by simpa [upb, upd] using eb), (by simpa [upb, upd] using cn), (by simpa [upb, upd] using cm)⟩)
     ·obtain ⟨kf, e0, e1, e2, e3, e4, eb, cn, cm⟩ := hI
      have d3 : D 3 = false := by
       cases h : D 3 with
       | false => rfl
       | true => have q2 := hcl 3 h 2 (by decide); rw [hDi] at q2; cases q2
      obtain ⟨_, p0, p1, p2, p3, p4, p5⟩ := st_cells (eb d3).1
      refine wpOpIn_step rfl (fun K' hK' => ?_)
      try simp only [Act.put, LA, LB, LC, LD, LE, LF]
      rw [if_pos (by kernel_rfl)]
      refine ⟨fun _ _ => trivial, ?_⟩
      go_simp
      refine hK' _ _ (hK (Value.agg #[.int .u64 ((P ||| 2 ^ k : Nat) : Int), .slice y0 xn.cell.length z0, .slice y1 xn.stack.length z1, .slice y2 xn.queue.length z2, .slice y3 xn.set.length z3, .slice y4 xn.table.length z4]) w ⟨kf, (by simpa [upb, upd] using e0), (by simpa [upb, upd] using e1), (fun _ => by simp [upd]), (by simpa [upb, upd] using e3), (by simpa [upb, upd] using e4), (by simpa [upb, upd] using eb), (by simpa [upb, upd] using cn), (by simpa [upb, upd] using cm)⟩)
     ·obtain ⟨kf, e0, e1, e2, e3, e4, eb, cn, cm⟩ := hI
      have v1 := e1 (hdep 1 (by decide))
      have v2 := e2 (hdep 2 (by decide))
      have d5 : D 5 = false := by
       cases h : D 5 with
       | false => rfl
       | true =>
        have q4 := hcl 5 h 4 (by decide)
        have q0 := hcl 4 q4 3 (by decide)
        rw [hDi] at q0; cases q0
      have c5 := cn d5
      have b3 := eb hDi
      refine wpOpIn_step rfl (fun K' hK' => ?_)
      try simp only [Act.put, LA, LB, LC, LD, LE, LF]
      rw [if_pos (by kernel_rfl)]
      refine ⟨fun _ _ => trivial, ?_⟩
      go_simp
      refine ((CallsIn.inRound l (callsIn_wide.2 (hIH.out w _ _ _ _ _ ⟨c5.ow.sb, c5.ow.cl.mono (fun _ h => .inl h), c5.sn, fun h => h.elim hS.nT (fun h => by omega), hS.ne⟩ (b3.2.mono (fun _ h => .inr h))))).mono ?_)
      rintro e w6' ⟨rfl, hs6, hf6⟩
      refine hK' _ _ ?_
      have hq := hK (.int .i64 ((spc sc).num (P ||| 2 ^ k) xn : Int)) w6' ⟨kf.trans ⟨hf6.size, fun j o hj h1 _ => (hf6.block j (Array.getElem?_eq_some_iff.1 h1).1 (by omega)).trans h1⟩, (by simpa [upb, upd] using e0), (by simpa [upb, upd] using e1), (by simpa [upb, upd] using e2), (fun _ => by simp [upd]), (by simpa [upb, upd] using e4), fun h => by simp [upb] at h, fun _ => c5.kept hf6 (fun j hj e => hS.nT (e ▸ hj)) (by omega) (by omega) (fun e => hS.ne e) (by omega) (by omega) (by omega) (fun _ h => .inl h) hs6, fun h => by simp [upb, d5] at h⟩
      simpa [upd, v1, v2] using hq
     ·obtain ⟨kf, e0, e1, e2, e3, e4, eb, cn, cm⟩ := hI
      have v0 := e0 (hdep 0 (by decide))
      have v3 := e3 (hdep 3 (by decide))
      refine wpOpIn_step rfl (fun K' hK' => ?_)
      try simp only [Act.put, LA, LB, LC, LD, LE, LF]
      rw [if_pos (by kernel_rfl)]
      refine ⟨fun _ _ => trivial, ?_⟩
      go_simp
      refine hK' _ _ ?_
      have hq := hK (.int .i64 ((spc sc).upto P x (k + 1) : Int)) w ⟨kf, (by simpa [upb, upd] using e0), (by simpa [upb, upd] using e1), (by simpa [upb, upd] using e2), (by simpa [upb, upd] using e3), (fun _ => by simp [upd]), (by simpa [upb, upd] using eb), (by simpa [upb, upd] using cn), (by simpa [upb, upd] using cm)⟩
      simpa [upd, v0, v3] using hq
     ·obtain ⟨kf, e0, e1, e2, e3, e4, eb, cn, cm⟩ := hI
      have v4 := e4 (hdep 4 (by decide))
      have q3 := hcl 4 (hdep 4 (by decide)) 3 (by decide)
      have v3 := e3 q3
      have c5 := cn hDi
      have cw := c5.wy
      have cy : w.cell? ⟨Wk.heap.size, 0, none⟩ = some (.int .i64 ((spc sc).upto P x k : Int)) := by simp [World.cell?, cw]
      have cf : w.frozen? ⟨Wk.heap.size, 0, none⟩ = false := by simp [World.frozen?, cw]
      refine wpOpIn_step rfl (fun K' hK' => ?_)
      try simp only [Act.put, LA, LB, LC, LD, LE, LF]
      rw [if_pos (by kernel_rfl)]
      refine ⟨fun _ _ => trivial, ?_⟩
      go_simp
      refine hK' _ _ ?_
      have hq := hK undef (w.setCell ⟨Wk.heap.size, 0, none⟩ (.int .i64 ((spc sc).upto P x (k + 1) : Int))) ⟨kf.trans ((KeepsOthers.setCell _ _ _).from _), (by simpa [upb, upd] using e0), (by simpa [upb, upd] using e1), (by simpa [upb, upd] using e2), (by simpa [upb, upd] using e3), (by simpa [upb, upd] using e4), fun h => by simp [upb, q3] at h, fun h => by simp [upb] at h, fun _ => c5.set hTl ⟨by omega, by omega, by omega, by omega, by omega, by omega⟩⟩
      simpa [upd, v4, v3] using hq
   case done =>
    rintro D Wd hD hC hKd
    have cx : Wd.cell? ⟨W.heap.size, 0, none⟩ = some (.pointer (some ⟨bs, 0, none⟩)) := by simp [World.cell?, hC.bx]
    have cm := (sb_cells hC.ow.sb).2.2.2.2
    have RG := hRG.out Wd hC.hr
    rw [show (spc sc).upto P x sc.length = (spc sc).num P x from ((spc sc).num_upto P x).symm] at hC
    have cy : Wd.cell? ⟨Wk.heap.size, 0, none⟩ = some (.int .i64 ((spc sc).num P x : Int)) := by simp [World.cell?, hC.wy]
    have hgood : GoodC sc (.agg cs.toArray) (.int .i64 ((spc sc).num P x : Int)) := fun P' x' he => by
     rw [← hcs.out] at he
     obtain ⟨rfl, rfl⟩ := key_inj he
     rfl
    obtain ⟨es, ck, hmo0, _⟩ := hC.sn
    have hmo : Wd.drew.heap[bm]? = some (.map es ck) := hmo0
    have hmc : (Obj.map es ck).isCells = false := rfl
    obtain ⟨o, hst, hoc, hsn⟩ := (hC.sn.kept (W' := Wd.drew) rfl).store hk hgood
    have cy2 : (Wd.drew.putObj bm o).cell? ⟨Wk.heap.size, 0, none⟩ = some (.int .i64 ((spc sc).num P x : Int)) := by
     unfold World.cell? at cy ⊢
     rw [World.putObj_heap_other (show Wk.heap.size ≠ bm by have := hS.sn.lt; omega)]; exact cy
    replace RG := Mr.hid RG
    replace hst := Mr.hid hst
    go_wp2
    refine wp_region_held_drew (S := fun w' => w'.cell? ⟨W.heap.size, 0, none⟩ = some (.pointer (some ⟨bs, 0, none⟩)) ∧ w'.cell? ⟨bs, 11, none⟩ = some (.map (some bm)) ∧ w'.cell? ⟨Wk.heap.size, 0, none⟩ = some (.int .i64 ((spc sc).num P x : Int)) ∧ w'.rangeAt w1.heap.size 0 cs) (by kernel_rfl) ⟨cx, cm, cy, RG.out⟩ (fun hS' => ?_)
    try simp only [Act.put, LA, LB, LC, LD, LE, LF]
    refine wpAnyH_take (i := 0) (v := .pointer (some ⟨bs, 0, none⟩)) rfl (by kernel_rfl) (by kernel_rfl) (by kernel_rfl) (fun _ _ _ h => h) (Or.inl ⟨by kernel_rfl, fun w' hw => by obtain ⟨s1, s2, s3, s4⟩ := hw; clear cx cm cy cy2; go_simp⟩) hS' ?_
    try simp only [Act.put, LA, LB, LC, LD, LE, LF]
    refine wpAnyH_take (i := 1) (v := .pointer (some ⟨bs, 0, none⟩)) rfl (by kernel_rfl) (by kernel_rfl) (by kernel_rfl) (fun _ _ _ h => h) (Or.inl ⟨by kernel_rfl, fun w' hw => by obtain ⟨s1, s2, s3, s4⟩ := hw; clear cx cm cy cy2; go_simp⟩) hS' ?_
    try simp only [Act.put, LA, LB, LC, LD, LE, LF]
    refine wpAnyH_take (i := 2) (v := .pointer (some ⟨bs, 11, none⟩)) rfl (by kernel_rfl) (by kernel_rfl) (by kernel_rfl) (fun _ _ _ h => h) (Or.inl ⟨by kernel_rfl, fun w' hw => by obtain ⟨s1, s2, s3, s4⟩ := hw; clear cx cm cy cy2; go_simp⟩) hS' ?_
    try simp only [Act.put, LA, LB, LC, LD, LE, LF]
    refine wpAnyH_take (i := 3) (v := .map (some bm)) rfl (by kernel_rfl) (by kernel_rfl) (by kernel_rfl) (fun _ _ _ h => h) (Or.inl ⟨by kernel_rfl, fun w' hw => by obtain ⟨s1, s2, s3, s4⟩ := hw; clear cx cm cy cy2; go_simp⟩) hS' ?_
    try simp only [Act.put, LA, LB, LC, LD, LE, LF]
    refine wpAnyH_take (i := 4) (v := .agg cs.toArray) rfl (by kernel_rfl) (by kernel_rfl) (by kernel_rfl) (fun _ _ _ h => h) (yieldsIf_load_mid (by kernel_rfl) 73 (.tmp 5) rfl w1.heap.size 0 rfl cs (.array 22 3) (fun w' hw => hw.2.2.2) (by kernel_rfl) rfl (by rw [hle.out]; kernel_rfl)) hS' ?_
    try simp only [Act.put, LA, LB, LC, LD, LE, LF]
    refine wpAnyH_take (i := 5) (v := .int .i64 ((spc sc).num P x : Int)) rfl (by kernel_rfl) (by kernel_rfl) (by kernel_rfl) (fun _ _ _ h => h) (Or.inl ⟨by kernel_rfl, fun w' hw => by obtain ⟨s1, s2, s3, s4⟩ := hw; clear cx cm cy cy2; go_simp⟩) hS' ?_
    try simp only [Act.put, LA, LB, LC, LD, LE, LF]
    refine wpAnyH_ready (rs := [6]) (by kernel_rfl) (by simp) ?_
    refine AllReadyH.cons rfl (fun K hK => ?_) AllReadyH.nil
    try simp only [Act.put, LA, LB, LC, LD, LE, LF]
    go_simp
    simp only [hst.out, Result.andThen]
    refine hK.out _ _ ⟨cell_put hmo hmc cx, cell_put hmo hmc cm, cy2, fun j v hj => cell_put hmo hmc (RG.out j v hj)⟩ (fun hS' => ?_)
    clear hK K
    try simp only [Act.put, LA, LB, LC, LD, LE, LF]
    refine wpAnyH_done (by kernel_rfl) ?_ _
    go_wp2
    refine ⟨by simp, .inl ⟨_, _, rfl, run_takeDeferred (w := Wd.drew.putObj bm o) ((World.putObj_heap_other (show D ≠ bm by have := hS.sn.lt; omega)).trans hKd), ?_⟩⟩
    refine ⟨.int .i64 ((spc sc).num P x : Int), by simp [results, Tryz.f20, go_sem], rfl, hsn.kept (World.putObj_heap_other (show bm ≠ D by have := hS.sn.lt; omega)), ?_⟩
    exact (((hC.fr.drew).trans ((fr_one Wd.drew bm o).mono (fun j hj => .inl hj))).trans ((fr_one _ D _).mono (fun j hj => .inr (by omega))))
  | true =>
   rw [hwb] at CW
   go_upto_region 7 with (go_at_call 30; refine CW.out.mono ?_; rintro e w6 ⟨rfl, hB6⟩)
   have C6 := Mr.hid (C5.out.below hB6)
   have hn0 : Hid ((spc sc).upto P x 0 = 1) := Mr.hid (by show (if whlB sc P = true then 1 else 0) = 1; rw [hwb]; rfl)
   have hz1 : w1.heap.size < w6.heap.size := Nat.lt_of_lt_of_le hs5 hB6.size
   have hz2 : Wk.heap.size < w6.heap.size := Nat.lt_of_lt_of_le hs6 hB6.size
   have cy6 : w6.cell? ⟨Wk.heap.size, 0, none⟩ = some (.int .i64 0) := by simp [World.cell?, C6.out.wy]
   have cf6 : w6.frozen? ⟨Wk.heap.size, 0, none⟩ = false := by simp [World.frozen?, C6.out.wy]
   have hbm6 : bm < W.heap.size := hS.sn.lt
   have C8 : Hid (Cm W bs bm w1.heap.size Wk.heap.size T' vc vn sc P (.slice a0 x.cell.length c0) (.slice a1 x.stack.length c1) (.slice a2 x.queue.length c2) (.slice a3 x.set.length c3) (.slice a4 x.table.length c4) x ob 1 (w6.setCell ⟨Wk.heap.size, 0, none⟩ (.int .i64 1))) := Mr.hid (C6.out.kept (S := fun k => k = Wk.heap.size) ((Fr.refl _ _).setCell _ _ (.inl rfl)) (fun k hk => by have := hTl k hk; omega) (by omega) (by omega) (by omega) (by omega) (by omega) (fun k hk => by omega) (Boxed.set _ (show Boxed w6 Wk.heap.size 3 _ from C6.out.wy)))
   have hsz8 : (w6.setCell ⟨Wk.heap.size, 0, none⟩ (.int .i64 1)).heap.size = w6.heap.size := by simp
   clear hB6 C5 C6 CW c50 p0 p1 p2 p3 p4 p5
   go_upto_region 8 with (fail)
   generalize hW8 : w6.setCell _ _ = W8 at *
   clear hW8 cy6 cf6
   rw [← hsz8] at hz1 hz2
   clear hsz8
   obtain ⟨_, p0, p1, p2, p3, p4, p5⟩ := st_cells C8.out.ba
   have c60 : W8.cell? ⟨W.heap.size, 0, none⟩ = some (.pointer (some ⟨bs, 0, none⟩)) := by simp [World.cell?, C8.out.bx]
   have CO := Mr.hid (onward_any (W := W8) (b := bs) (P := P) (.slice a0 x.cell.length c0) (.slice a1 x.stack.length c1) (.slice a2 x.queue.length c2) (.slice a3 x.set.length c3) (.slice a4 x.table.length c4))
   have CN : Hid (Cn W bs bm w1.heap.size Wk.heap.size W8.heap.size (W8.heap.size + 1) T' vc vn sc P (.slice a0 x.cell.length c0) (.slice a1 x.stack.length c1) (.slice a2 x.queue.length c2) (.slice a3 x.set.length c3) (.slice a4 x.table.length c4) x ob ((spc sc).upto P x 0) ((W8.alloc (.cells #[.pointer (some ⟨bs, 0, none⟩)] 46 (0, 0))).alloc (stO P (.slice a0 x.cell.length c0) (.slice a1 x.stack.length c1) (.slice a2 x.queue.length c2) (.slice a3 x.set.length c3) (.slice a4 x.table.length c4)))) := Mr.hid (by rw [hn0.out]; exact C8.out.asked)
   unfold gv at CO
   go_wp2_with (go_at_call 32; refine CO.out.mono ?_; rintro e w9 ⟨rfl, rfl⟩)
   have hz9 : ((W8.alloc (.cells #[.pointer (some ⟨bs, 0, none⟩)] 46 (0, 0))).alloc (stO P (.slice a0 x.cell.length c0) (.slice a1 x.stack.length c1) (.slice a2 x.queue.length c2) (.slice a3 x.set.length c3) (.slice a4 x.table.length c4))).heap.size = W8.heap.size + 2 := by simp
   generalize hW9 : (W8.alloc _).alloc _ = W9 at *
   clear hW9 CO c60 p0 p1 p2 p3 p4 p5
   refine (wpIn_wide (n := 5)).1 ?_
   refine range_r (N := sc.length) (ok := fun i => (spc sc).ok P x i) (R := Hd W.heap.size sc P x) (Kn := fun W1 => Ow W1 W8.heap.size (W8.heap.size + 1) bs W.heap.size T' vc vn (.map (some bm)) (ahM sc) (enM sc) sc P (.slice a0 x.cell.length c0) (.slice a1 x.stack.length c1) (.slice a2 x.queue.length c2) (.slice a3 x.set.length c3) (.slice a4 x.table.length c4) x) rfl (by omega) (enters_of Tryz.func49 (by kernel_rfl) rfl) ?hps (iter_hands 4 (by omega) hP hsc (fun i => mks_lt _ _ hsc) (fun i _ => ah_ahm sc hsc P i) hob hm hF)
    (fun k => Cn W bs bm w1.heap.size Wk.heap.size W8.heap.size (W8.heap.size + 1) T' vc vn sc P (.slice a0 x.cell.length c0) (.slice a1 x.stack.length c1) (.slice a2 x.queue.length c2) (.slice a3 x.set.length c3) (.slice a4 x.table.length c4) x ob ((spc sc).upto P x k)) (fun k => Cn.keeps (fun k hk => by have := hTl k hk; omega) (by omega) (by omega) (by omega) (by omega) (by omega) (by omega) (by have := hS.sn.lt; omega)) (fun k => Cn.grows) (fun _ => False) (fun _ _ _ _ h _ _ _ => h) (fun _ _ h _ => h) (fun k W1 h => h.ow) (fun k W1 hk ho h => by
     have : (spc sc).upto P x (k + 1) = (spc sc).upto P x k := by rw [Sp.upto, if_neg (by rw [ho]; simp)]; rfl
     rw [this]; exact h) CN.out
    (fun k a' W' => ∃ Bx u0 u1 u2 u3 u4, W'.heap[Bx]? = some (stO (P ||| 2 ^ k) u0 u1 u2 u3 u4) ∧ CtAt W' (fun j => W.heap.size ≤ j) u0 u1 u2 u3 u4 (alw x (cd sc k)).1 ∧ a' = { tmps := #[Value.pointer (some { block := bs, off := 0 }), Value.agg #[Value.int IntKind.u64 ↑P, Value.slice a0 x.cell.length c0, Value.slice a1 x.stack.length c1, Value.slice a2 x.queue.length c2, Value.slice a3 x.set.length c3, Value.slice a4 x.table.length c4], Value.pointer (some { block := W.heap.size, off := 0 }), Value.pointer (some { block := W.heap.size + 1, off := 0 }), Value.int IntKind.i64 0, Value.pointer (some { block := w1.heap.size, off := 0 }), lv, Value.bool false, Value.pointer (some { block := Wk.heap.size, off := 0 }), undef, Value.pointer (some { block := Bx, off := 0 }), Value.agg #[Value.int IntKind.u64 ↑P, Value.slice a0 x.cell.length c0, Value.slice a1 x.stack.length c1, Value.slice a2 x.queue.length c2, Value.slice a3 x.set.length c3, Value.slice a4 x.table.length c4], Value.agg cs.toArray, Value.tuple #[lv, Value.bool false], Value.pointer (some { block := bs, off := 0 }), Value.pointer (some { block := bs, off := 0 }), Value.pointer (some { block := bs, off := 11 }), Value.map (some bm), Value.agg cs.toArray, Value.tuple #[lv, Value.bool false], lv, Value.bool false, Value.bool false, undef, Value.pointer (some { block := bs, off := 0 }), Value.agg #[Value.int IntKind.u64 ↑P, Value.slice a0 x.cell.length c0, Value.slice a1 x.stack.length c1, Value.slice a2 x.queue.length c2, Value.slice a3 x.set.length c3, Value.slice a4 x.table.length c4], Value.bool true, Value.pointer (some { block := bs, off := 0 }), Value.agg #[Value.int IntKind.u64 ↑P, Value.slice a0 x.cell.length c0, Value.slice a1 x.stack.length c1, Value.slice a2 x.queue.length c2, Value.slice a3 x.set.length c3, Value.slice a4 x.table.length c4], Value.func (Fn.func 49) #[] #[Value.pointer (some { block := W8.heap.size, off := 0 }), Value.pointer (some { block := W8.heap.size + 1, off := 0 })], Value.int .i64 (k : Int), Value.agg #[Value.int .u64 ((P ||| 2 ^ k : Nat) : Int), u0, u1, u2, u3, u4], undef, undef, undef, undef, undef, undef, undef, undef, undef, undef, undef, undef], defers := [] })
    (fun k a' => by
     rintro Wa l o o' ⟨Bx, u0, u1, u2, u3, u4, h1, h2, h3⟩ hl ho hc
     exact ⟨Bx, u0, u1, u2, u3, u4, block_put ho hc h1, ct_put h2 ho hc, h3⟩) ?assign ?body ?done (fun _ _ _ h => h.elim)
   case hps =>
    rintro k args Wq ⟨u0, u1, u2, u3, u4, rfl, _⟩
    rfl
   case assign =>
    rintro l k args Wb K hk ho ⟨u0, u1, u2, u3, u4, rfl, hct⟩ hC hK
    obtain ⟨y0, z0, rfl, g0⟩ := hct.cell.form
    obtain ⟨y1, z1, rfl, g1⟩ := hct.stack.form
    obtain ⟨y2, z2, rfl, g2⟩ := hct.queue.form
    obtain ⟨y3, z3, rfl, g3⟩ := hct.set.form
    obtain ⟨y4, z4, rfl, g4⟩ := hct.table.form
    unfold gv
    gi_wp2
    exact hK _ _ ((KeepsOthers.alloc _ _).from _) (Cn.grows _ _ hC ((Below.refl _ _).alloc (Nat.le_refl _) _)) ⟨Wb.heap.size, _, _, _, _, _, heap_alloc_new _ _, hct.below ((Below.refl _ _).alloc (Nat.le_refl _) _), rfl⟩
   case body =>
    rintro l k a' Wb hk ho hC ⟨Bx, u0, u1, u2, u3, u4, hbx, hct, rfl⟩ hsz
    obtain ⟨y0, z0, rfl, g0⟩ := hct.cell.form
    obtain ⟨y1, z1, rfl, g1⟩ := hct.stack.form
    obtain ⟨y2, z2, rfl, g2⟩ := hct.queue.form
    obtain ⟨y3, z3, rfl, g3⟩ := hct.set.form
    obtain ⟨y4, z4, rfl, g4⟩ := hct.table.form
    have hrk := room_with hk ((spc sc).new P x k ho)
    have hcd : cd sc k ∈ sc := cd_mem hk
    have hyes := ok_yes ho
    have hIH : Hid (∀ (w' : World) (q0 q1 q2 q3 q4 : Value), Sr w' bs bm (fun j => T' j ∨ W.heap.size ≤ j) vc vn sc (GoodC sc) → CtAt w' (fun j => T' j ∨ W.heap.size ≤ j) q0 q1 q2 q3 q4 (alw x (cd sc k)).1 →
      Calls Tryz.prog 20 #[.pointer (some ⟨bs, 0, none⟩), .agg #[.int .u64 ((P ||| 2 ^ k : Nat) : Int), q0, q1, q2, q3, q4]] w' fun e w2 => e = .returned (.int .i64 ((spc sc).num (P ||| 2 ^ k) (alw x (cd sc k)).1 : Int)) ∧ Seen w2 bm (GoodC sc) ∧ Fr w' w2 (fun j => j = bm)) := Mr.hid (fun w' q0 q1 q2 q3 q4 hs hc => by
     have h2 : room sc.length (P ||| 2 ^ k) + 1 = room sc.length P := hrk
     refine IH.out (r - 1) (by omega) (by omega) (with_lt (n := 8) (by omega) hP) (may_alw hm (hob _ hcd) hyes) ?_ (wf_alw hwx (hwc _ hcd)) hs hc
     have h1 := few_alw hFw (cd sc k)
     have h3 := room_le sc.length P
     have h4 : sc.length - room sc.length P + 1 = sc.length - room sc.length (P ||| 2 ^ k) := by omega
     rw [← h4]; exact h1)
    generalize hxn : (alw x (cd sc k)).1 = xn at *
    have hup : (spc sc).upto P x (k + 1) = (spc sc).upto P x k + (spc sc).num (P ||| 2 ^ k) xn := by rw [Sp.upto, if_pos ho, ← hxn]; rfl
    have hb1 := (spc sc).num_le hsc (P ||| 2 ^ k) xn
    have hb2 := (spc sc).upto_le ((spc sc).num_le hsc) P x k
    have hb3 : k * 43046721 ≤ 8 * 43046721 := Nat.mul_le_mul_right _ (by omega)
    have hbm : bm < W.heap.size := hS.sn.lt
    have hwr : IntKind.i64.wrap (((spc sc).upto P x k : Nat) + ((spc sc).num (P ||| 2 ^ k) xn : Nat) : Int) = (((spc sc).upto P x (k + 1) : Nat) : Int) := by rw [i64w _ (by omega) (by omega), hup]; simp
    clear hup
    gi_wp2
    refine wpIn_region_any (by kernel_rfl) ?_
    refine wpAnyIn_walks (dep := fun i => if i = 3 then [1, 2] else if i = 4 then [0, 3] else if i = 5 then [4] else []) (by kernel_rfl) (fun yy => { tmps := #[Value.pointer (some { block := bs, off := 0 }), Value.agg #[Value.int IntKind.u64 ↑P, Value.slice a0 x.cell.length c0, Value.slice a1 x.stack.length c1, Value.slice a2 x.queue.length c2, Value.slice a3 x.set.length c3, Value.slice a4 x.table.length c4], Value.pointer (some { block := W.heap.size, off := 0 }), Value.pointer (some { block := W.heap.size + 1, off := 0 }), Value.int IntKind.i64 0, Value.pointer (some { block := w1.heap.size, off := 0 }), lv, Value.bool false, Value.pointer (some { block := Wk.heap.size, off := 0 }), undef, Value.pointer (some { block := Bx, off := 0 }), Value.agg #[Value.int IntKind.u64 ↑P, Value.slice a0 x.cell.length c0, Value.slice a1 x.stack.length c1, Value.slice a2 x.queue.length c2, Value.slice a3 x.set.length c3, Value.slice a4 x.table.length c4], Value.agg cs.toArray, Value.tuple #[lv, Value.bool false], Value.pointer (some { block := bs, off := 0 }), Value.pointer (some { block := bs, off := 0 }), Value.pointer (some { block := bs, off := 11 }), Value.map (some bm), Value.agg cs.toArray, Value.tuple #[lv, Value.bool false], lv, Value.bool false, Value.bool false, undef, Value.pointer (some { block := bs, off := 0 }), Value.agg #[Value.int IntKind.u64 ↑P, Value.slice a0 x.cell.length c0, Value.slice a1 x.stack.length c1, Value.slice a2 x.queue.length c2, Value.slice a3 x.set.length c3, Value.slice a4 x.table.length c4], Value.bool true, Value.pointer (some { block := bs, off := 0 }), Value.agg #[Value.int IntKind.u64 ↑P, Value.slice a0 x.cell.length c0, Value.slice a1 x.stack.length c1, Value.slice a2 x.queue.length c2, Value.slice a3 x.set.length c3, Value.slice a4 x.table.length c4], Value.func (Fn.func 49) #[] #[Value.pointer (some { block := W8.heap.size, off := 0 }), Value.pointer (some { block := W8.heap.size + 1, off := 0 })], Value.int .i64 (k : Int), Value.agg #[Value.int .u64 ((P ||| 2 ^ k : Nat) : Int), .slice y0 xn.cell.length z0, .slice y1 xn.stack.length z1, .slice y2 xn.queue.length z2, .slice y3 xn.set.length z3, .slice y4 xn.table.length z4], yy 0, yy 1, yy 2, yy 3, yy 4, undef, undef, undef, undef, undef, undef, undef], defers := [] }) (fun D yy w => KeepsFrom W9.heap.size Wb w ∧ (D 0 = true → yy 0 = .int .i64 ((spc sc).upto P x k : Int)) ∧ (D 1 = true → yy 1 = .pointer (some ⟨bs, 0, none⟩)) ∧ (D 2 = true → yy 2 = Value.agg #[.int .u64 ((P ||| 2 ^ k : Nat) : Int), .slice y0 xn.cell.length z0, .slice y1 xn.stack.length z1, .slice y2 xn.queue.length z2, .slice y3 xn.set.length z3, .slice y4 xn.table.length z4]) ∧ (D 3 = true → yy 3 = .int .i64 ((spc sc).num (P ||| 2 ^ k) xn : Int)) ∧ (D 4 = true → yy 4 = .int .i64 ((spc sc).upto P x (k + 1) : Int)) ∧ (D 3 = false → w.heap[Bx]? = some (stO (P ||| 2 ^ k) (.slice y0 xn.cell.length z0) (.slice y1 xn.stack.length z1) (.slice y2 xn.queue.length z2) (.slice y3 xn.set.length z3) (.slice y4 xn.table.length z4)) ∧ CtAt w (fun j => W.heap.size ≤ j) (.slice y0 xn.cell.length z0) (.slice y1 xn.stack.length z1) (.slice y2 xn.queue.length z2) (.slice y3 xn.set.length z3) (.slice y4 xn.table.length z4) xn) ∧ (D 5 = false → Cn W bs bm w1.heap.size Wk.heap.size W8.heap.size (W8.heap.size + 1) T' vc vn sc P (.slice a0 x.cell.length c0) (.slice a1 x.stack.length c1) (.slice a2 x.queue.length c2) (.slice a3 x.set.length c3) (.slice a4 x.table.length c4) x ob ((spc sc).upto P x k) w) ∧ (D 5 = true → Cn W bs bm w1.heap.size Wk.heap.size W8.heap.size (W8.heap.size + 1) T' vc vn sc P (.slice a0 x.cell.length c0) (.slice a1 x.stack.length c1) (.slice a2 x.queue.length c2) (.slice a3 x.set.length c3) (.slice a4 x.table.length c4) x ob ((spc sc).upto P x (k + 1)) w)) rfl (fun _ => undef) ⟨(KeepsOthers.drew _).from _, fun h => by simp at h, fun h => by simp at h, fun h => by simp at h, fun h => by simp at h, fun h => by simp at h, fun _ => ⟨hbx, hct.below (Below.refl _ _).drew⟩, fun _ => Cn.grows _ _ hC (Below.refl _ _).drew, fun h => by simp at h⟩ ?hs ?he
    case he =>
     rintro yy w ⟨kf, _, _, _, _, _, _, _, cm⟩
     exact ⟨kf, .inl ⟨rfl, cm (by decide)⟩⟩
    case hs =>
     intro i hi D yy w hDi hdep hcl hI K hK
     have hi' : i < 6 := hi
     clear hi
     obtain rfl | rfl | rfl | rfl | rfl | rfl : i = 0 ∨ i = 1 ∨ i = 2 ∨ i = 3 ∨ i = 4 ∨ i = 5 := by omega
     ·obtain ⟨kf, e0, e1, e2, e3, e4, eb, cn, cm⟩ := hI
      have d5 : D 5 = false := by
       cases h : D 5 with
       | false => rfl
       | true =>
        have q4 := hcl 5 h 4 (by decide)
        have q0 := hcl 4 q4 0 (by decide)
        rw [hDi] at q0; cases q0
      have cw := (cn d5).wy
      have cy : w.cell? ⟨Wk.heap.size, 0, none⟩ = some (.int .i64 ((spc sc).upto P x k : Int)) := by simp [World.cell?, cw]
      clear cw
      refine wpOpIn_step rfl (fun K' hK' => ?_)
      try simp only [Act.put, LA, LB, LC, LD, LE, LF]
      rw [if_pos (by kernel_rfl)]
      refine ⟨fun _ _ => trivial, ?_⟩
      go_simp
      refine hK' _ _ (hK (.int .i64 ((spc sc).upto P x k : Int)) w ⟨kf, (fun _ => by simp [upd]), (by simpa [upb, upd] using e1), (by simpa [upb, upd] using e2), (by simpa [upb, upd] using e3), (by simpa [upb, upd] using e4), (by simpa [upb, upd] using eb), (by simpa [upb, upd] using cn), (by simpa [upb, upd] using cm)⟩)
     ·obtain ⟨kf, e0, e1, e2, e3, e4, eb, cn, cm⟩ := hI
      have cx : w.heap[W.heap.size]? = some (.cells #[.pointer (some ⟨bs, 0, none⟩)] 46 (0, 0)) := by
       cases h : D 5 with
       | false => exact (cn h).bx
       | true => exact (cm h).bx
      have cy : w.cell? ⟨W.heap.size, 0, none⟩ = some (.pointer (some ⟨bs, 0, none⟩)) := by simp [World.cell?, cx]
      clear cx
      refine wpOpIn_step rfl (fun K' hK' => ?_)
      try simp only [Act.put, LA, LB, LC, LD, LE, LF]
      rw [if_pos (by kernel_rfl)]
      refine ⟨fun _ _ => trivial, ?_⟩
      go_simp
      refine hK' _ _ (hK (.pointer (some ⟨bs, 0, none⟩)) w ⟨kf, (by simpa [upb, upd] using e0), (fun _ => by simp [upd]), (by simpa [upb, upd] using e2), (by simpa [upb, upd] using e3), (by simpa [upb, upd] using e4), (by simpa [upb, upd] using eb), (by simpa [upb, upd] using cn), (by simpa [upb, upd] using cm)⟩)
     ·obtain ⟨kf, e0, e1, e2, e3, e4, eb, cn, cm⟩ := hI
      have d3 : D 3 = false := by
       cases h : D 3 with
       | false => rfl
       | true => have q2 := hcl 3 h 2 (by decide); rw [hDi] at q2; cases q2
      obtain ⟨_, p0, p1, p2, p3, p4, p5⟩ := st_cells (eb d3).1
      refine wpOpIn_step rfl (fun K' hK' => ?_)
      try simp only [Act.put, LA, LB, LC, LD, LE, LF]
      rw [if_pos (by kernel_rfl)]
      refine ⟨fun _ _ => trivial, ?_⟩
      go_simp
      refine hK' _ _ (hK (Value.agg #[.int .u64 ((P ||| 2 ^ k : Nat) : Int), .slice y0 xn.cell.length z0, .slice y1 xn.stack.length z1, .slice y2 xn.queue.length z2, .slice y3 xn.set.length z3, .slice y4 xn.table.length z4]) w ⟨kf, (by simpa [upb, upd] using e0), (by simpa [upb, upd] using e1), (fun _ => by simp [upd]), (by simpa [upb, upd] using e3), (by simpa [upb, upd] using e4), (by simpa [upb, upd] using eb), (by simpa [upb, upd] using cn), (by simpa [upb, upd] using cm)⟩)
     ·obtain ⟨kf, e0, e1, e2, e3, e4, eb, cn, cm⟩ := hI
      have v1 := e1 (hdep 1 (by decide))
      have v2 := e2 (hdep 2 (by decide))
      have d5 : D 5 = false := by
       cases h : D 5 with
       | false => rfl
       | true =>
        have q4 := hcl 5 h 4 (by decide)
        have q0 := hcl 4 q4 3 (by decide)
        rw [hDi] at q0; cases q0
      have c5 := cn d5
      have b3 := eb hDi
      refine wpOpIn_step rfl (fun K' hK' => ?_)
      try simp only [Act.put, LA, LB, LC, LD, LE, LF]
      rw [if_pos (by kernel_rfl)]
      refine ⟨fun _ _ => trivial, ?_⟩
      go_simp
      refine ((CallsIn.inRound l (callsIn_wide.2 (hIH.out w _ _ _ _ _ ⟨c5.ow.sb, c5.ow.cl.mono (fun _ h => .inl h), c5.sn, fun h => h.elim hS.nT (fun h => by omega), hS.ne⟩ (b3.2.mono (fun _ h => .inr h))))).mono ?_)
      rintro e w6' ⟨rfl, hs6, hf6⟩
      refine hK' _ _ ?_
      have hq := hK (.int .i64 ((spc sc).num (P ||| 2 ^ k) xn : Int)) w6' ⟨kf.trans ⟨hf6.size, fun j o hj h1 _ => (hf6.block j (Array.getElem?_eq_some_iff.1 h1).1 (by omega)).trans h1⟩, (by simpa [upb, upd] using e0), (by simpa [upb, upd] using e1), (by simpa [upb, upd] using e2), (fun _ => by simp [upd]), (by simpa [upb, upd] using e4), fun h => by simp [upb] at h, fun _ => c5.kept hf6 (fun j hj e => hS.nT (e ▸ hj)) (by omega) (by omega) (fun e => hS.ne e) (by omega) (by omega) (by omega) (fun _ h => .inl h) hs6, fun h => by simp [upb, d5] at h⟩
      simpa [upd, v1, v2] using hq
     ·obtain ⟨kf, e0, e1, e2, e3, e4, eb, cn, cm⟩ := hI
      have v0 := e0 (hdep 0 (by decide))
      have v3 := e3 (hdep 3 (by decide))
      refine wpOpIn_step rfl (fun K' hK' => ?_)
      try simp only [Act.put, LA, LB, LC, LD, LE, LF]
      rw [if_pos (by kernel_rfl)]
      refine ⟨fun _ _ => trivial, ?_⟩
      go_simp
      refine hK' _ _ ?_
      have hq := hK (.int .i64 ((spc sc).upto P x (k + 1) : Int)) w ⟨kf, (by simpa [upb, upd] using e0), (by simpa [upb, upd] using e1), (by simpa [upb, upd] using e2), (by simpa [upb, upd] using e3), (fun _ => by simp [upd]), (by simpa [upb, upd] using eb), (by simpa [upb, upd] using cn), (by simpa [upb, upd] using cm)⟩
      simpa [upd, v0, v3] using hq
     ·obtain ⟨kf, e0, e1, e2, e3, e4, eb, cn, cm⟩ := hI
      have v4 := e4 (hdep 4 (by decide))
      have q3 := hcl 4 (hdep 4 (by decide)) 3 (by decide)
      have v3 := e3 q3
      have c5 := cn hDi
      have cw := c5.wy
      have cy : w.cell? ⟨Wk.heap.size, 0, none⟩ = some (.int .i64 ((spc sc).upto P x k : Int)) := by simp [World.cell?, cw]
      have cf : w.frozen? ⟨Wk.heap.size, 0, none⟩ = false := by simp [World.frozen?, cw]
      refine wpOpIn_step rfl (fun K' hK' => ?_)
      try simp only [Act.put, LA, LB, LC, LD, LE, LF]
      rw [if_pos (by kernel_rfl)]
      refine ⟨fun _ _ => trivial, ?_⟩
      go_simp
      refine hK' _ _ ?_
      have hq := hK undef (w.setCell ⟨Wk.heap.size, 0, none⟩ (.int .i64 ((spc sc).upto P x (k + 1) : Int))) ⟨kf.trans ((KeepsOthers.setCell _ _ _).from _), (by simpa [upb, upd] using e0), (by simpa [upb, upd] using e1), (by simpa [upb, upd] using e2), (by simpa [upb, upd] using e3), (by simpa [upb, upd] using e4), fun h => by simp [upb, q3] at h, fun h => by simp [upb] at h, fun _ => c5.set hTl ⟨by omega, by omega, by omega, by omega, by omega, by omega⟩⟩
      simpa [upd, v4, v3] using hq
   case done =>
    rintro D Wd hD hC hKd
    have cx : Wd.cell? ⟨W.heap.size, 0, none⟩ = some (.pointer (some ⟨bs, 0, none⟩)) := by simp [World.cell?, hC.bx]
    have cm := (sb_cells hC.ow.sb).2.2.2.2
    have RG := hRG.out Wd hC.hr
    rw [show (spc sc).upto P x sc.length = (spc sc).num P x from ((spc sc).num_upto P x).symm] at hC
    have cy : Wd.cell? ⟨Wk.heap.size, 0, none⟩ = some (.int .i64 ((spc sc).num P x : Int)) := by simp [World.cell?, hC.wy]
    have hgood : GoodC sc (.agg cs.toArray) (.int .i64 ((spc sc).num P x : Int)) := fun P' x' he => by
     rw [← hcs.out] at he
     obtain ⟨rfl, rfl⟩ := key_inj he
     rfl
    obtain ⟨es, ck, hmo0, _⟩ := hC.sn
    have hmo : Wd.drew.heap[bm]? = some (.map es ck) := hmo0
    have hmc : (Obj.map es ck).isCells = false := rfl
    obtain ⟨o, hst, hoc, hsn⟩ := (hC.sn.kept (W' := Wd.drew) rfl).store hk hgood
    have cy2 : (Wd.drew.putObj bm o).cell? ⟨Wk.heap.size, 0, none⟩ = some (.int .i64 ((spc sc).num P x : Int)) := by
     unfold World.cell? at cy ⊢
     rw [World.putObj_heap_other (show Wk.heap.size ≠ bm by have := hS.sn.lt; omega)]; exact cy
    replace RG := Mr.hid RG
    replace hst := Mr.hid hst
    go_wp2
    refine wp_region_held_drew (S := fun w' => w'.cell? ⟨W.heap.size, 0, none⟩ = some (.pointer (some ⟨bs, 0, none⟩)) ∧ w'.cell? ⟨bs, 11, none⟩ = some (.map (some bm)) ∧ w'.cell? ⟨Wk.heap.size, 0, none⟩ = some (.int .i64 ((spc sc).num P x : Int)) ∧ w'.rangeAt w1.heap.size 0 cs) (by kernel_rfl) ⟨cx, cm, cy, RG.out⟩ (fun hS' => ?_)
    try simp only [Act.put, LA, LB, LC, LD, LE, LF]
    refine wpAnyH_take (i := 0) (v := .pointer (some ⟨bs, 0, none⟩)) rfl (by kernel_rfl) (by kernel_rfl) (by kernel_rfl) (fun _ _ _ h => h) (Or.inl ⟨by kernel_rfl, fun w' hw => by obtain ⟨s1, s2, s3, s4⟩ := hw; clear cx cm cy cy2; go_simp⟩) hS' ?_
    try simp only [Act.put, LA, LB, LC, LD, LE, LF]
    refine wpAnyH_take (i := 1) (v := .pointer (some ⟨bs, 0, none⟩)) rfl (by kernel_rfl) (by kernel_rfl) (by kernel_rfl) (fun _ _ _ h => h) (Or.inl ⟨by kernel_rfl, fun w' hw => by obtain ⟨s1, s2, s3, s4⟩ := hw; clear cx cm cy cy2; go_simp⟩) hS' ?_
    try simp only [Act.put, LA, LB, LC, LD, LE, LF]
    refine wpAnyH_take (i := 2) (v := .pointer (some ⟨bs, 11, none⟩)) rfl (by kernel_rfl) (by kernel_rfl) (by kernel_rfl) (fun _ _ _ h => h) (Or.inl ⟨by kernel_rfl, fun w' hw => by obtain ⟨s1, s2, s3, s4⟩ := hw; clear cx cm cy cy2; go_simp⟩) hS' ?_
    try simp only [Act.put, LA, LB, LC, LD, LE, LF]
    refine wpAnyH_take (i := 3) (v := .map (some bm)) rfl (by kernel_rfl) (by kernel_rfl) (by kernel_rfl) (fun _ _ _ h => h) (Or.inl ⟨by kernel_rfl, fun w' hw => by obtain ⟨s1, s2, s3, s4⟩ := hw; clear cx cm cy cy2; go_simp⟩) hS' ?_
    try simp only [Act.put, LA, LB, LC, LD, LE, LF]
    refine wpAnyH_take (i := 4) (v := .agg cs.toArray) rfl (by kernel_rfl) (by kernel_rfl) (by kernel_rfl) (fun _ _ _ h => h) (yieldsIf_load_mid (by kernel_rfl) 73 (.tmp 5) rfl w1.heap.size 0 rfl cs (.array 22 3) (fun w' hw => hw.2.2.2) (by kernel_rfl) rfl (by rw [hle.out]; kernel_rfl)) hS' ?_
    try simp only [Act.put, LA, LB, LC, LD, LE, LF]
    refine wpAnyH_take (i := 5) (v := .int .i64 ((spc sc).num P x : Int)) rfl (by kernel_rfl) (by kernel_rfl) (by kernel_rfl) (fun _ _ _ h => h) (Or.inl ⟨by kernel_rfl, fun w' hw => by obtain ⟨s1, s2, s3, s4⟩ := hw; clear cx cm cy cy2; go_simp⟩) hS' ?_
    try simp only [Act.put, LA, LB, LC, LD, LE, LF]
    refine wpAnyH_ready (rs := [6]) (by kernel_rfl) (by simp) ?_
    refine AllReadyH.cons rfl (fun K hK => ?_) AllReadyH.nil
    try simp only [Act.put, LA, LB, LC, LD, LE, LF]
    go_simp
    simp only [hst.out, Result.andThen]
    refine hK.out _ _ ⟨cell_put hmo hmc cx, cell_put hmo hmc cm, cy2, fun j v hj => cell_put hmo hmc (RG.out j v hj)⟩ (fun hS' => ?_)
    clear hK K
    try simp only [Act.put, LA, LB, LC, LD, LE, LF]
    refine wpAnyH_done (by kernel_rfl) ?_ _
    go_wp2
    refine ⟨by simp, .inl ⟨_, _, rfl, run_takeDeferred (w := Wd.drew.putObj bm o) ((World.putObj_heap_other (show D ≠ bm by have := hS.sn.lt; omega)).trans hKd), ?_⟩⟩
    refine ⟨.int .i64 ((spc sc).num P x : Int), by simp [results, Tryz.f20, go_sem], rfl, hsn.kept (World.putObj_heap_other (show bm ≠ D by have := hS.sn.lt; omega)), ?_⟩
    exact (((hC.fr.drew).trans ((fr_one Wd.drew bm o).mono (fun j hj => .inl hj))).trans ((fr_one _ D _).mono (fun j hj => .inr (by omega))))
end Go.Proofs.YtnbibkohgppjnaaGreat.Ws
