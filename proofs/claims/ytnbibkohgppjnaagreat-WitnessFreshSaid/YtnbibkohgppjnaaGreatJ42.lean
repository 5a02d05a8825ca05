import Derived.Test.YtnbibkohgppjnaaGreatJ38
import Derived.Test.YtnbibkohgppjnaaGreatJ40
import Derived.Test.YtnbibkohgppjnaaGreatJ41
import Derived.Test.YtnbibkohgppjnaaGreatJ37
import Derived.Test.YtnbibkohgppjnaaGreatJ14
import Derived.Test.YtnbibkohgppjnaaGreatJ10
import Derived.BigQuiet
import Derived.Test.YtnbibkohgppjnaaGreatJ13
import Derived.Deep.LoopGhost
set_option linter.unusedVariables false
set_option linter.unusedSimpArgs false
set_option maxRecDepth 100000
namespace Go.Proofs.YtnbibkohgppjnaaGreat.Ws
open Go.RowKit Mr Md Wt
attribute [local go_sem] Oper.semAt_some
theorem scs_ob (cs : List Cq) : ∀ c ∈ scs cs, obj c.op ≠ 0 := by
 intro c hc
 unfold scs at hc
 obtain ⟨⟨k, d⟩, hd, rfl⟩ := List.mem_map.1 hc
 obtain ⟨i, h1, _, h3⟩ := (mem_cnt1 cs 0 _).1 hd
 exact h3
theorem scs_wf {cs : List Cq} (h : ∀ c ∈ cs, WfC c) : ∀ c ∈ scs cs, WfC c := by
 intro c hc
 unfold scs at hc
 obtain ⟨⟨k, d⟩, hd, rfl⟩ := List.mem_map.1 hc
 obtain ⟨i, h1, _, h3⟩ := (mem_cnt1 cs 0 _).1 hd
 exact h d (List.mem_of_getElem? h1)
theorem room0 (n : Nat) : room n 0 = n := by
 unfold room
 rw [List.filter_eq_self.2 (fun i _ => by simp), List.length_range]
theorem may_ct0 : May ct0 := by
 refine ⟨by simp [ct0], ?_, ?_⟩ <;> (intro j hj; simp [ct0] at hj)
theorem few_ct0 (k : Nat) : Few k ct0 := by simp [Few, ct0]
theorem nw_seen {W w : World} {bs bm : Nat} {vc vn : Value} {sc : List Cq} {nm : List Int} {ah : Nat → Nat} {en : Nat} (h : Nw W bs bm vc vn sc nm ah en w) (Good : Value → Value → Prop) : Seen w bm Good := by
 obtain ⟨ck, hm⟩ := h.mp
 exact ⟨#[], ck, hm, fun e he => by simp at he⟩
theorem nw_sr {W w : World} {bs bm : Nat} {vc vn : Value} {sc : List Cq} {nm : List Int} (h : Nw W bs bm vc vn sc nm (ahM sc) (enM sc) w) (Good : Value → Value → Prop) : Sr w bs bm (fun k => W.heap.size ≤ k ∧ k ≠ bs ∧ k ≠ bm) vc vn sc Good :=
 ⟨h.sb, Sl.of_has h.cl, nw_seen h Good, fun e => e.2.2 rfl, h.lb.2.2⟩
def cntA (cs : List Cq) : Nat := (spc (scs cs)).num 0 ct0
def fndA (cs : List Cq) : Option (List Int) := ((spc (scs cs)).lm 0 ct0).map (fun l => l.map (fun i => ((nms cs).map (fun n : Nat => (n : Int)))[i]?.getD 0))
noncomputable def errA (cs : List Cq) : Int := if mayB cs = false then 120 else if 8 < (scs cs).length then 3 else 0
noncomputable def cntR (cs : List Cq) : Int := if errA cs = 0 then (cntA cs : Int) else 0
set_option maxHeartbeats 4000000 in
theorem Count_any {W : World} {T : Nat → Prop} {v : Value} {cs : List Cq} (hv : Sl W T 9 v cs.length (cqs cs)) (hsm : cs.length * 72 ≤ 281474976710656) (hwf : ∀ c ∈ cs, WfC c) :
  Calls Tryz.prog 11 #[v] W fun e w' => e = .returned (.tuple #[.int .i64 (cntR cs), .int .i64 (errA cs)]) ∧ Below W.heap.size W w' := by
 have CN := Mr.hid (new_any hv hsm)
 obtain ⟨a, cap, rfl, hcap⟩ := hv.form
 clear hv
 go_enter Tryz.func11, Tryz.ntmps11
 go_upto_region 1 with (fail)
 by_cases hm : mayB cs = false
 ·have hE : Hid (errA cs = 120) := Mr.hid (by simp [errA, hm])
  go_wp2_with (go_at_call 15; refine CN.out.mono ?_; rintro e w1 ⟨hB1, ⟨_, rfl⟩ | ⟨hm', _⟩ | ⟨hm', _⟩⟩; rotate_left; (· rw [hm] at hm'; cases hm'); (· rw [hm] at hm'; cases hm'))
  refine bodyPost_ret (v := .tuple #[.int .i64 0, .int .i64 120]) (by simp [results, Tryz.results11, go_sem]) rfl ?_
  exact ⟨by rw [cntR, hE.out]; rfl, hB1⟩
 ·have hm1 : mayB cs = true := by simpa using hm
  by_cases hl : 8 < (scs cs).length
  ·have hE : Hid (errA cs = 3) := Mr.hid (by simp [errA, hm1, hl])
   go_wp2_with (go_at_call 15; refine CN.out.mono ?_; rintro e w1 ⟨hB1, ⟨hm', _⟩ | ⟨_, _, rfl⟩ | ⟨_, hl', _⟩⟩; (· rw [hm1] at hm'; cases hm'); rotate_left; (· omega))
   refine bodyPost_ret (v := .tuple #[.int .i64 0, .int .i64 3]) (by simp [results, Tryz.results11, go_sem]) rfl ?_
   exact ⟨by rw [cntR, hE.out]; rfl, hB1⟩
  ·have hE : Hid (errA cs = 0) := Mr.hid (by simp [errA, hm1, hl])
   go_upto_region 4 with (go_at_call 15; refine CN.out.mono ?_; rintro e w1 ⟨hB1, ⟨hm', _⟩ | ⟨_, hl', _⟩ | ⟨_, hl', bs, bm, vc, vn, rfl, hN⟩⟩; (· rw [hm1] at hm'; cases hm'); (· omega))
   have CC := count_any hl' (scs_ob cs) (scs_wf hwf) (scs cs).length (P := 0) (by rw [room0]; exact Nat.le_refl _) (by omega) may_ct0 (few_ct0 _) wf_ct0 (nw_sr hN (GoodC (scs cs))) (ct0_at w1 _)
   unfold gv at CC
   replace CC := Mr.hid CC
   go_wp2_with (go_at_call 20; refine CC.out.mono ?_; rintro e w2 ⟨rfl, _, hf2⟩)
   refine bodyPost_ret (v := .tuple #[.int .i64 (cntA cs : Int), .int .i64 0]) (by simp [results, Tryz.results11, go_sem, cntA]) rfl ?_
   refine ⟨by rw [cntR, hE.out]; rfl, hB1.trans (hf2.below (fun k hk => by have := hN.lb; omega) hB1.size)⟩
set_option maxHeartbeats 4000000 in
theorem Find_any {W : World} {T : Nat → Prop} {v : Value} {cs : List Cq} (hv : Sl W T 9 v cs.length (cqs cs)) (hsm : cs.length * 72 ≤ 281474976710656) (hwf : ∀ c ∈ cs, WfC c) :
  Calls Tryz.prog 6 #[v] W fun e w' => Below W.heap.size W w' ∧ ((errA cs ≠ 0 ∧ e = .returned (.tuple #[.slice none 0 0, .int .i64 (errA cs)])) ∨ (errA cs = 0 ∧ fndA cs = none ∧ e = .returned (.tuple #[.slice none 0 0, .int .i64 124])) ∨
   (errA cs = 0 ∧ ∃ l vr, fndA cs = some l ∧ e = .returned (.tuple #[vr, .int .i64 0]) ∧ Has w' (fun k => W.heap.size ≤ k) 3 1 vr l.length (ints l))) := by
 have CN := Mr.hid (new_any hv hsm)
 obtain ⟨a, cap, rfl, hcap⟩ := hv.form
 clear hv
 go_enter Tryz.func6, Tryz.ntmps6
 go_upto_region 1 with (fail)
 by_cases hm : mayB cs = false
 ·have hE : Hid (errA cs = 120) := Mr.hid (by simp [errA, hm])
  go_wp2_with (go_at_call 15; refine CN.out.mono ?_; rintro e w1 ⟨hB1, ⟨_, rfl⟩ | ⟨hm', _⟩ | ⟨hm', _⟩⟩; rotate_left; (· rw [hm] at hm'; cases hm'); (· rw [hm] at hm'; cases hm'))
  refine bodyPost_ret (v := .tuple #[.slice none 0 0, .int .i64 120]) (by simp [results, Tryz.results6, go_sem]) rfl ?_
  exact ⟨hB1, .inl ⟨by rw [hE.out]; omega, by rw [hE.out]⟩⟩
 ·have hm1 : mayB cs = true := by simpa using hm
  by_cases hl : 8 < (scs cs).length
  ·have hE : Hid (errA cs = 3) := Mr.hid (by simp [errA, hm1, hl])
   go_wp2_with (go_at_call 15; refine CN.out.mono ?_; rintro e w1 ⟨hB1, ⟨hm', _⟩ | ⟨_, _, rfl⟩ | ⟨_, hl', _⟩⟩; (· rw [hm1] at hm'; cases hm'); rotate_left; (· omega))
   refine bodyPost_ret (v := .tuple #[.slice none 0 0, .int .i64 3]) (by simp [results, Tryz.results6, go_sem]) rfl ?_
   exact ⟨hB1, .inl ⟨by rw [hE.out]; omega, by rw [hE.out]⟩⟩
  ·have hE : Hid (errA cs = 0) := Mr.hid (by simp [errA, hm1, hl])
   go_upto_region 4 with (go_at_call 15; refine CN.out.mono ?_; rintro e w1 ⟨hB1, ⟨hm', _⟩ | ⟨_, hl', _⟩ | ⟨_, hl', bs, bm, vc, vn, rfl, hN⟩⟩; (· rw [hm1] at hm'; cases hm'); (· omega))
   have hnl : ((nms cs).map (fun n : Nat => (n : Int))).length = (scs cs).length := by rw [List.length_map, scs_len]
   have CC := least_any hl' hnl (scs_ob cs) (scs_wf hwf) (scs cs).length (P := 0) (od := []) (by rw [room0]; exact Nat.le_refl _) (by omega) may_ct0 (few_ct0 _) wf_ct0 (by rw [room0]; simp; omega) (nw_sr hN (GoodL (scs cs))) (ct0_at w1 _) (by have := Sl.of_has hN.nu; rw [hnl] at this; exact this) (Has.nil _ _ _ _) (fun k hk => by simp [Value.ownBlock] at hk)
   unfold gv at CC
   replace CC := Mr.hid CC
   cases hf : (spc (scs cs)).lm 0 ct0 with
   | none =>
    have hfn : fndA cs = none := by simp [fndA, hf]
    go_wp2_with (go_at_call 16; refine CC.out.mono ?_; rintro e w2 ⟨hf2, _, _, ⟨_, rfl⟩ | ⟨l, vr, hq, _⟩⟩; rotate_left; (· rw [hf] at hq; cases hq))
    refine bodyPost_ret (v := .tuple #[.slice none 0 0, .int .i64 124]) (by simp [results, Tryz.results6, go_sem]) rfl ?_
    refine ⟨hB1.trans (hf2.below (fun k hk => by have := hN.lb; rcases hk with hk | hk; (· omega); (· simp [Value.ownBlock] at hk)) hB1.size), .inr (.inl ⟨hE.out, hfn, rfl⟩)⟩
   | some l0 =>
    have hfn : fndA cs = some (l0.map (fun i => ((nms cs).map (fun n : Nat => (n : Int)))[i]?.getD 0)) := by simp [fndA, hf]
    go_wp2_with (go_at_call 16; refine CC.out.mono ?_; rintro e w2 ⟨hf2, _, _, ⟨hq, _⟩ | ⟨l, vr, hq, rfl, hh, hown⟩⟩; (· rw [hf] at hq; cases hq))
    refine bodyPost_ret (v := .tuple #[vr, .int .i64 0]) (by simp [results, Tryz.results6, go_sem]) rfl ?_
    rw [hf] at hq
    cases hq
    refine ⟨hB1.trans (hf2.below (fun k hk => by have := hN.lb; rcases hk with hk | hk; (· omega); (· simp [Value.ownBlock] at hk)) hB1.size), .inr (.inr ⟨hE.out, _, vr, hfn, rfl, ?_⟩)⟩
    have h1 := hh.kept (w' := w2) (T := fun k => W.heap.size ≤ k) (fun _ _ => rfl) (fun k hk => by rcases hown k hk with q | q; (· simp [Value.ownBlock] at q); (· exact Nat.le_trans hB1.size q))
    simpa using h1
end Go.Proofs.YtnbibkohgppjnaaGreat.Ws
namespace Go.Proofs.YtnbibkohgppjnaaGreat.Ws
open Md Wt
def Oks (cs : List Cq) (o : List Int) : Prop := IsOrd cs o ∧ InT (ordc cs o) (ordc cs o).length ∧ okTo ct0 (ordc cs o) o.length
def nmo (cs : List Cq) (l : List Nat) : List Int := l.map (fun i => ((nms cs).map (fun n : Nat => (n : Int)))[i]?.getD 0)
theorem nmo_nd (cs : List Cq) (i : Nat) : ((nms cs).map (fun n : Nat => (n : Int)))[i]?.getD 0 = ((nd (nms cs) i : Nat) : Int) := by
 rw [List.getElem?_map, nd]
 cases (nms cs)[i]? <;> rfl
theorem nmo_eq (cs : List Cq) (l : List Nat) : nmo cs l = l.map (fun i => ((nd (nms cs) i : Nat) : Int)) := by
 unfold nmo
 exact List.map_congr_left (fun i _ => nmo_nd cs i)
theorem ordc_nmo {cs : List Cq} {l : List Nat} (h : ∀ i ∈ l, i < (scs cs).length) : ordc cs (nmo cs l) = l.map (cd (scs cs)) := by
 rw [nmo_eq, ordc, List.map_map]
 apply List.map_congr_left
 intro i hi
 have := (at_i (cs := cs) (i := i) (by rw [← scs_len]; exact h i hi)).1
 show callD cs ((nd (nms cs) i : Nat) : Int) = _
 exact callD_get this
theorem nodup_map {α β : Type} {f : α → β} : ∀ {l : List α}, l.Nodup → (∀ a ∈ l, ∀ b ∈ l, f a = f b → a = b) → (l.map f).Nodup := by
 intro l
 induction l with
 | nil => intro _ _; simp
 | cons a l ih =>
  intro h hf
  rw [List.map_cons, List.nodup_cons]
  rw [List.nodup_cons] at h
  refine ⟨fun hm => ?_, ih h.2 (fun x hx y hy => hf x (by simp [hx]) y (by simp [hy]))⟩
  obtain ⟨b, hb, e⟩ := List.mem_map.1 hm
  have := hf b (by simp [hb]) a (by simp) e
  exact h.1 (this ▸ hb)
theorem pair_int {os : List Cq} : InT os os.length ↔ os.Pairwise (fun c d => ¬ AhP d c) := by
 rw [List.pairwise_iff_getElem]
 constructor
 ·intro h i j hi hj hij
  exact h i j _ _ hij hj (List.getElem?_eq_getElem hi) (List.getElem?_eq_getElem hj)
 ·intro h i j c d hij hj hc hd
  obtain ⟨hi', e1⟩ := List.getElem?_eq_some_iff.1 hc
  obtain ⟨hj', e2⟩ := List.getElem?_eq_some_iff.1 hd
  have := h i j hi' hj' hij
  rw [e1, e2] at this
  exact this
theorem exp_oks {cs : List Cq} {l : List Nat} (h : Exp (scs cs) l) : Oks cs (nmo cs l) := by
 have hlt : ∀ i ∈ l, i < (nms cs).length := fun i hi => by rw [← scs_len]; exact h.lt i hi
 have ho := ordc_nmo h.lt
 have hlen : (nmo cs l).length = l.length := by simp [nmo]
 refine ⟨⟨⟨fun j x hj hx => ?_, ?_⟩, fun k c hk hc hob hf => ?_⟩, ?_, ?_⟩
 ·rw [nmo_eq, List.getElem?_map] at hx
  cases hq : l[j]? with
  | none => rw [hq] at hx; cases hx
  | some i =>
   rw [hq] at hx
   cases hx
   have hi := List.mem_of_getElem? hq
   obtain ⟨h1, h2⟩ := at_i (hlt i hi)
   exact ⟨Int.natCast_nonneg _, _, by simpa using h1, h2⟩
 ·rw [List.take_length, nmo_eq]
  refine nodup_map h.nod (fun a ha b hb e => ?_)
  exact nd_inj (hlt a ha) (hlt b hb) (Int.ofNat.inj e)
 ·obtain ⟨i, hi, h1, h2⟩ := of_num hc hob
  have := h.full i (by rw [scs_len]; exact hi) (by rw [h2]; exact hf)
  rw [nmo_eq]
  exact List.mem_map.2 ⟨i, this, by rw [h1]⟩
 ·rw [ho, pair_int, List.pairwise_map]
  exact h.tim
 ·rw [ho, hlen]
  exact h.ans
theorem find_good {cs : List Cq} (hf : ∀ c ∈ scs cs, Fit c) {l : List Nat} (h : (spc (scs cs)).lm 0 ct0 = some l) : Oks cs (nmo cs l) :=
 exp_oks ((go_exp0 hf l).1 ((spc (scs cs)).lst_some _ 0 ct0 l (room_le _ _) h).1)
end Go.Proofs.YtnbibkohgppjnaaGreat.Ws
namespace Go.Proofs.YtnbibkohgppjnaaGreat.Wt
open Go.RowKit Mr Md
set_option maxHeartbeats 4000000 in
theorem isNumber_any (a : Option Addr) (n cap : Nat) (i : Int) (w : World) : Calls Tryz.prog 81 #[.slice a n cap, .int .i64 i] w fun e w' => e = .returned (.bool (decide (0 ≤ i ∧ i < (n : Int)))) ∧ w = w' := by
 obtain ⟨b, hb⟩ : ∃ b, b = decide (0 ≤ i ∧ i < (n : Int)) := ⟨_, rfl⟩
 rw [← hb]
 replace hb : Hid (b = true ↔ 0 ≤ i ∧ i < (n : Int)) := by rw [hb]; exact decide_eq_true_iff
 go_enter Tryz.func81, Tryz.ntmps81
 go_wp2
 all_goals
  go_ret
  refine ⟨ret_bool ?_, rfl⟩
  rw [Bool.eq_iff_iff, hb.out]
  clear hb
  simp at *
  try omega
set_option maxHeartbeats 4000000 in
theorem num_any (e : Int) (w : World) : Calls Tryz.prog 9 #[.int .i64 e] w fun x w' => x = .returned (.int .i64 e) ∧ w = w' := by
 go_enter Tryz.func9, Tryz.ntmps9
 go_wp2
 go_ret
 exact ⟨rfl, rfl⟩
section
variable {W : World} {T : Nat → Prop} {v : Value} {cs : List Cq}
end
end Go.Proofs.YtnbibkohgppjnaaGreat.Wt
namespace Go.Proofs.YtnbibkohgppjnaaGreat.Wt
open Go.RowKit Mr Md
theorem wt_bool : (Tryz.prog.info? 4).map (fun i => (i.zero, i.size, i.bytes)) = some (some (.bool false), 1, 1) := by kernel_rfl
theorem makeB (W : World) (n : Nat) (hn : n ≤ 281474976710656) (o : List Int) :
  (Instr.makeSlice 129 (.int .i64 (n : Int)) (.int .i64 (n : Int))).run Tryz.prog W = .ok (.slice (some ⟨W.heap.size, 0, none⟩) n n) (W.alloc (.cells (plc n o 0) 4 (0, 0))) := by
 obtain ⟨i0, hi, hz0, hz1, hz2⟩ := parts_of wt_bool
 have h := run_make (P := Tryz.prog) W 129 4 i0 (.bool false) Tryz.underlying129 hi hz0 .i64 .i64 (n : Int) (n : Int) (by omega) (Int.le_refl _) (by rw [hz2]; omega) (by omega)
 have e : (n : Int).toNat = n := by omega
 rw [e, hz1, Nat.mul_one] at h
 have e2 : madeCells (Value.bool false).cells n = plc n o 0 := by
  apply Array.ext
  ·rw [size_madeCells, plc_size]
  ·intro i h1 h2
   have hi : i < n := by simpa [plc_size] using h2
   simp [madeCells, plc, Value.cells, Nat.mod_one]
 rw [e2] at h
 exact h
structure Pb (W w : World) (b n : Nat) (o : List Int) (k : Nat) : Prop where
 bel : Below W.heap.size W w
 up : W.heap.size ≤ b
 box : w.heap[b]? = some (.cells (plc n o k) 4 (0, 0))
theorem Pb.below {W w w' : World} {b n : Nat} {o : List Int} {k : Nat} (h : Pb W w b n o k) (hB : Below w.heap.size w w') : Pb W w' b n o k :=
 ⟨h.bel.trans (hB.mono h.bel.size), h.up, (hB.block _ (Array.getElem?_eq_some_iff.1 h.box).1).trans h.box⟩
theorem Pb.get {W w : World} {b n : Nat} {o : List Int} {k : Nat} (h : Pb W w b n o k) {j : Nat} (hj : j < n) : w.cell? ⟨b, j, none⟩ = some (.bool (decide ((j : Int) ∈ o.take k))) ∧ w.frozen? ⟨b, j, none⟩ = false ∧ b < w.heap.size := by
 refine ⟨?_, by simp [World.frozen?, h.box], (Array.getElem?_eq_some_iff.1 h.box).1⟩
 rw [cell_blk h.box, plc_get o k hj]
theorem Pb.next {W w : World} {b n : Nat} {o : List Int} {k j : Nat} (h : Pb W w b n o k) (hk : o[k]? = some (j : Int)) : Pb W (w.setCell ⟨b, j, none⟩ (.bool true)) b n o (k + 1) :=
 ⟨h.bel.setCell (p := ⟨b, _, none⟩) h.up _, h.up, by rw [setBlk h.box, plc_set hk]⟩
theorem full_succ {cs : List Cq} {o : List Int} {i : Nat} {c : Cq} (h : Full1 cs o i) (hc : cs[i]? = some c) (hs : obj c.op ≠ 0 → c.fin ≠ -1 → (i : Int) ∈ o) : Full1 cs o (i + 1) := fun j d hj hd h1 h2 => by
 by_cases e : j < i
 ·exact h j d e hd h1 h2
 ·have : j = i := by omega
  subst this; rw [hc] at hd; cases hd; exact hs h1 h2
theorem full_not {cs : List Cq} {o : List Int} {i : Nat} {c : Cq} (hc : cs[i]? = some c) (h1 : obj c.op ≠ 0) (h2 : c.fin ≠ -1) (h3 : (i : Int) ∉ o) : ¬ IsOrd cs o := fun h => h3 (h.2 i c (List.getElem?_eq_some_iff.1 hc).1 hc h1 h2)
set_option maxHeartbeats 16000000 in
theorem isOrder_any {W : World} {T T' : Nat → Prop} {v u : Value} {cs : List Cq} {o : List Int} (hv : Sl W T 9 v cs.length (cqs cs)) (hu : Sl W T' 1 u o.length (ints o)) (hsm : cs.length * 72 ≤ 281474976710656) (hso : o.length * 8 ≤ 281474976710656) (b : Bool) (hb : b = true ↔ IsOrd cs o) :
  Calls Tryz.prog 58 #[v, u] W fun e w' => e = .returned (.bool b) ∧ Below W.heap.size W w' := by
 obtain ⟨a, cap, rfl, hcap⟩ := hv.form
 obtain ⟨au, cu, rfl, hcu⟩ := hu.form
 obtain ⟨n, hn⟩ : ∃ n, n = cs.length := ⟨_, rfl⟩
 obtain ⟨m, hm⟩ : ∃ m, m = o.length := ⟨_, rfl⟩
 rw [← hn, ← hm]
 rw [← hn] at hsm
 rw [← hm] at hso hu
 have hmk := makeB W n (by omega) o
 have hP0 : ∀ w1, w1 = W.alloc (.cells (plc n o 0) 4 (0, 0)) → Pb W w1 W.heap.size n o 0 := by
  rintro w1 rfl
  exact ⟨(Below.refl _ _).alloc (Nat.le_refl _) _, Nat.le_refl _, new_at _ _ _ rfl⟩
 replace hn := Mr.hid hn
 replace hm := Mr.hid hm
 replace hv := Mr.hid hv
 replace hu := Mr.hid hu
 replace hb := Mr.hid hb
 replace hP0 := Mr.hid hP0
 clear hcap hcu
 go_enter Tryz.func58, Tryz.ntmps58
 go_upto_region 2 with (fail)
 have hA := hP0.out _ rfl
 clear hP0 hmk
 generalize (W.alloc (.cells (plc n o 0) 4 (0, 0))) = w1 at *
 obtain ⟨ba, hba⟩ : ∃ ba, ba = W.heap.size := ⟨_, rfl⟩
 rw [← hba] at hA
 rw [← hba]
 clear hba
 replace hA := Mr.hid hA
 go_wp2
 go_loopg [15] m (fun q s15 wr => ∃ k : Nat, s15 = .int .i64 (k : Int) ∧ k + q = m ∧ Some1 cs o k ∧ Pb W wr ba n o k)
 case atStart => exact ⟨0, rfl, by omega, Some1.zero _ _, hA.out⟩
 case round =>
  clear hA
  obtain ⟨k, rfl, hk, hS, hA⟩ := hrel
  by_cases hlt : k < m
  ·obtain ⟨x, hx⟩ : ∃ x, o[k]? = some x := ⟨o[k]'(by have := hm.out; omega), List.getElem?_eq_getElem _⟩
   have hno := Some1.not (cs := cs) (o := o) (n := k) (x := x) (by have := hm.out; omega) hx
   obtain ⟨g1, o1, c1, e1, _, _, hl1, r1⟩ := (hu.out.below hA.bel).there (by omega)
   cases e1
   have k1 := r1 k _ (by rw [ints, List.getElem?_map, hx]; rfl)
   have hlI : (k : Int) < (m : Int) := by omega
   have hw1 : IntKind.i64.wrap ((k : Int) + 1) = (k : Int) + 1 := i64x _ (by omega) (by omega)
   have NB := fun w => isNumber_any a n cap x w
   clear r1
   by_cases hin : 0 ≤ x ∧ x < (n : Int)
   ·rw [decide_eq_true hin] at NB
    obtain ⟨j, rfl⟩ : ∃ j : Nat, x = (j : Int) := ⟨x.toNat, by omega⟩
    have hjn : j < n := by omega
    obtain ⟨c, hcj⟩ := get_of_lt (cs := cs) (i := j) (by have := hn.out; omega)
    obtain ⟨bc, oc, rfl, A9⟩ := call_at (hv.out.below hA.bel) hcj
    obtain ⟨hbl, g0, g1, g2, g3, g4, g5, g6, g7, g8⟩ := A9
    have f1 : (j : Int) < (n : Int) := by omega
    have CT := fun w => counts_any c w
    unfold Cq.val at CT
    have GT := Mr.hid (fun w (h : Pb W w ba n o k) => h.get hjn)
    replace NB := Mr.hid NB
    replace hin := Mr.hid hin
    replace hcj := Mr.hid hcj
    by_cases ho : obj c.op = 0
    ·have hct1 : (obj c.op != 0) = false := by simp [ho]
     rw [hct1] at CT
     have hbf : b = false := by
      cases hbb : b with
      | false => rfl
      | true => exact absurd (hb.out.1 hbb) (hno (fun h => by obtain ⟨_, ⟨c', hc', hoo⟩, _⟩ := h; rw [Int.toNat_natCast, hcj.out] at hc'; cases hc'; exact hoo ho))
     subst hbf
     replace CT := Mr.hid CT
     replace ho := Mr.hid ho
     replace hno := Mr.hid hno
     replace hx := Mr.hid hx
     replace hS := Mr.hid hS
     replace hA := Mr.hid hA
     go_wp2_with (first
      | (go_at_call 81; refine (NB.out _).mono ?_; clear NB; rintro e w5 ⟨rfl, rfl⟩)
      | (go_at_call 23; refine (CT.out _).mono ?_; clear CT; rintro e w6 ⟨rfl, hB6⟩; replace hA := Mr.hid (hA.out.below hB6); clear hB6; clear g0))
     go_ret
     exact ⟨rfl, hA.out.bel⟩
    ·have hct1 : (obj c.op != 0) = true := by simp [ho]
     rw [hct1] at CT
     by_cases hp : (j : Int) ∈ o.take k
     ·have hbf : b = false := by
       cases hbb : b with
       | false => rfl
       | true => exact absurd (hb.out.1 hbb) (hno (fun h => h.2.2 hp))
      subst hbf
      have hp2 : decide ((j : Int) ∈ o.take k) = true := decide_eq_true hp
      replace CT := Mr.hid CT
      replace ho := Mr.hid ho
      replace hp := Mr.hid hp
      replace hp2 := Mr.hid hp2
      replace hno := Mr.hid hno
      replace hx := Mr.hid hx
      replace hS := Mr.hid hS
      replace hA := Mr.hid hA
      go_wp2_with (first
       | (go_at_call 81; refine (NB.out _).mono ?_; clear NB; rintro e w5 ⟨rfl, rfl⟩)
       | (go_at_call 23; refine (CT.out _).mono ?_; clear CT; rintro e w6 ⟨rfl, hB6⟩; replace hA := Mr.hid (hA.out.below hB6); clear hB6; clear g0; obtain ⟨z1, z2, z3⟩ := GT.out _ hA.out; rw [hp2.out] at z1))
      go_ret
      exact ⟨rfl, hA.out.bel⟩
     ·have hp2 : decide ((j : Int) ∈ o.take k) = false := decide_eq_false hp
      have hSn := Mr.hid (hS.succ hx (by omega) (by rw [Int.toNat_natCast]; exact hcj.out) ho hp)
      have NX := Mr.hid (fun w (h : Pb W w ba n o k) => h.next hx)
      replace CT := Mr.hid CT
      replace ho := Mr.hid ho
      replace hp := Mr.hid hp
      replace hp2 := Mr.hid hp2
      replace hno := Mr.hid hno
      replace hx := Mr.hid hx
      replace hS := Mr.hid hS
      replace hA := Mr.hid hA
      go_wp2_with (first
       | (go_at_call 81; refine (NB.out _).mono ?_; clear NB; rintro e w5 ⟨rfl, rfl⟩)
       | (go_at_call 23; refine (CT.out _).mono ?_; clear CT; rintro e w6 ⟨rfl, hB6⟩; replace hA := Mr.hid (hA.out.below hB6); clear hB6; clear g0; obtain ⟨z1, z2, z3⟩ := GT.out _ hA.out; rw [hp2.out] at z1))
      go_roundg (gk - 1)
      case measure => omega
      case rel => exact ⟨k + 1, by simp, by omega, hSn.out, NX.out _ hA.out⟩
   ·rw [decide_eq_false hin] at NB
    have hbf : b = false := by
     cases hbb : b with
     | false => rfl
     | true => exact absurd (hb.out.1 hbb) (hno (fun h => by
       obtain ⟨h0, ⟨c', hc', _⟩, _⟩ := h
       have := (List.getElem?_eq_some_iff.1 hc').1
       have := hn.out
       omega))
    subst hbf
    replace NB := Mr.hid NB
    replace hin := Mr.hid hin
    replace hno := Mr.hid hno
    replace hx := Mr.hid hx
    replace hS := Mr.hid hS
    replace hA := Mr.hid hA
    go_wp2_with (go_at_call 81; refine (NB.out _).mono ?_; clear NB; rintro e w5 ⟨rfl, rfl⟩)
    go_ret
    exact ⟨rfl, hA.out.bel⟩
  ·have hin : k = o.length := by have := hm.out; omega
   rw [hin] at hS hA
   clear hin
   have dl : decide ((k : Int) < (m : Int)) = false := decide_eq_false (by omega)
   replace hS := Mr.hid hS
   replace hA := Mr.hid hA
   go_wp2
   go_loopg [43] n (fun q s43 wr => ∃ i : Nat, s43 = .int .i64 (i : Int) ∧ i + q = n ∧ Full1 cs o i ∧ Pb W wr ba n o o.length)
   case atStart => exact ⟨0, rfl, by omega, fun j d hj => by omega, hA.out⟩
   case round =>
    clear hA
    obtain ⟨i, rfl, hi, hF, hA⟩ := hrel
    by_cases hlt2 : i < n
    ·obtain ⟨c, hci⟩ := get_of_lt (cs := cs) (i := i) (by have := hn.out; omega)
     obtain ⟨bc, oc, rfl, A9⟩ := call_at (hv.out.below hA.bel) hci
     have hbx : ∀ w1, w1 = wr.alloc (cqO c) → w1.heap[wr.heap.size]? = some (cqO c) ∧ Pb W w1 ba n o o.length := by rintro w1 rfl; exact ⟨new_at _ _ _ rfl, hA.below ((Below.refl _ _).alloc (Nat.le_refl _) _)⟩
     obtain ⟨hbl, g0, g1, g2, g3, g4, g5, g6, g7, g8⟩ := A9
     have hlI : (i : Int) < (n : Int) := by omega
     have hw1 : IntKind.i64.wrap ((i : Int) + 1) = (i : Int) + 1 := i64x _ (by omega) (by omega)
     have CT := fun w => counts_any c w
     have ED := fun w => ended_any c w
     unfold Cq.val at CT ED
     have GT : ∀ w, Pb W w ba n o o.length → w.cell? ⟨ba, i, none⟩ = some (.bool (decide ((i : Int) ∈ o))) ∧ w.frozen? ⟨ba, i, none⟩ = false ∧ ba < w.heap.size := fun w h => by have := h.get hlt2; rwa [List.take_length] at this
     clear hA
     replace GT := Mr.hid GT
     replace hbx := Mr.hid hbx
     replace hci := Mr.hid hci
     replace hF := Mr.hid hF
     go_upto_region 12 with (fail)
     obtain ⟨hX5, hA⟩ := hbx.out _ rfl
     unfold cqO at hX5 hA
     clear hbx g0 g1 g2 g3 g4 g5 g6 g7 g8 hbl
     generalize (wr.alloc (Obj.cells #[.int .i64 c.th, .int .i64 c.op, .int .i64 c.arg, .int .i64 c.data, .int .i64 c.beg, .int .i64 c.fin, .int .i64 c.pt, .int .i64 c.ak, .int .i64 c.av] 45 (0, 0))) = w5 at *
     generalize wr.heap.size = bx at *
     clear wr
     obtain ⟨k0, k1, k2, k3, k4, k5, k6, k7, k8, kl⟩ := cq_cells (c := c) hX5
     replace hX5 := Mr.hid hX5
     replace hA := Mr.hid hA
     by_cases ho : obj c.op = 0
     ·have hct1 : (obj c.op != 0) = false := by simp [ho]
      have hFn := Mr.hid (full_succ hF.out hci.out (fun h => absurd ho h))
      rw [hct1] at CT
      replace CT := Mr.hid CT
      replace ho := Mr.hid ho
      go_wp2_with (go_at_call 23; refine (CT.out _).mono ?_; clear CT; rintro e w6 ⟨rfl, hB6⟩; replace hA := Mr.hid (hA.out.below hB6); clear hB6 k0)
      go_roundg (gk - 1)
      case measure => omega
      case rel => exact ⟨i + 1, by simp, by omega, hFn.out, hA.out⟩
     ·have hct1 : (obj c.op != 0) = true := by simp [ho]
      rw [hct1] at CT
      replace CT := Mr.hid CT
      by_cases he : c.fin = -1
      ·have hFn := Mr.hid (full_succ hF.out hci.out (fun _ h => absurd he h))
       have hE : endB c = false := by simp [endB, he]
       rw [hE] at ED
       replace ED := Mr.hid ED
       replace ho := Mr.hid ho
       replace he := Mr.hid he
       go_wp2_with (first
        | (go_at_call 23; refine (CT.out _).mono ?_; clear CT; rintro e w6 ⟨rfl, hB6⟩; replace hA := Mr.hid (hA.out.below hB6); have hX6 := (hB6.block _ kl).trans hX5.out; clear hB6 k0 k1 k2 k3 k4 k5 k6 k7 k8; obtain ⟨k0, k1, k2, k3, k4, k5, k6, k7, k8, kl6⟩ := cq_cells (c := c) hX6; clear hX6)
        | (go_at_call 27; refine (ED.out _).mono ?_; clear ED; rintro e w7 ⟨rfl, hB6⟩; replace hA := Mr.hid (hA.out.below hB6); clear hB6))
       go_roundg (gk - 1)
       case measure => omega
       case rel => exact ⟨i + 1, by simp, by omega, hFn.out, hA.out⟩
      ·have hE : endB c = true := by simp [endB, he]
       rw [hE] at ED
       replace ED := Mr.hid ED
       by_cases hp : (i : Int) ∈ o
       ·have hFn := Mr.hid (full_succ hF.out hci.out (fun _ _ => hp))
        have hp2 := Mr.hid (decide_eq_true hp)
        replace ho := Mr.hid ho
        replace he := Mr.hid he
        replace hp := Mr.hid hp
        go_wp2_with (first
         | (go_at_call 23; refine (CT.out _).mono ?_; clear CT; rintro e w6 ⟨rfl, hB6⟩; replace hA := Mr.hid (hA.out.below hB6); have hX6 := (hB6.block _ kl).trans hX5.out; clear hB6 k0 k1 k2 k3 k4 k5 k6 k7 k8; obtain ⟨k0, k1, k2, k3, k4, k5, k6, k7, k8, kl6⟩ := cq_cells (c := c) hX6; clear hX6)
         | (go_at_call 27; refine (ED.out _).mono ?_; clear ED; rintro e w7 ⟨rfl, hB6⟩; replace hA := Mr.hid (hA.out.below hB6); clear hB6; obtain ⟨z1, z2, z3⟩ := GT.out _ hA.out; rw [hp2.out] at z1))
        go_roundg (gk - 1)
        case measure => omega
        case rel => exact ⟨i + 1, by simp, by omega, hFn.out, hA.out⟩
       ·have hbf : b = false := by
         cases hbb : b with
         | false => rfl
         | true => exact absurd (hb.out.1 hbb) (full_not hci.out ho he hp)
        subst hbf
        have hp2 := Mr.hid (decide_eq_false hp)
        replace ho := Mr.hid ho
        replace he := Mr.hid he
        replace hp := Mr.hid hp
        go_wp2_with (first
         | (go_at_call 23; refine (CT.out _).mono ?_; clear CT; rintro e w6 ⟨rfl, hB6⟩; replace hA := Mr.hid (hA.out.below hB6); have hX6 := (hB6.block _ kl).trans hX5.out; clear hB6 k0 k1 k2 k3 k4 k5 k6 k7 k8; obtain ⟨k0, k1, k2, k3, k4, k5, k6, k7, k8, kl6⟩ := cq_cells (c := c) hX6; clear hX6)
         | (go_at_call 27; refine (ED.out _).mono ?_; clear ED; rintro e w7 ⟨rfl, hB6⟩; replace hA := Mr.hid (hA.out.below hB6); clear hB6; obtain ⟨z1, z2, z3⟩ := GT.out _ hA.out; rw [hp2.out] at z1))
        go_ret
        exact ⟨rfl, hA.out.bel⟩
    ·have hin2 : i = cs.length := by have := hn.out; omega
     rw [hin2] at hF
     have hbt : b = true := hb.out.2 ⟨hS.out, hF⟩
     subst hbt
     have dl2 : decide ((i : Int) < (n : Int)) = false := decide_eq_false (by omega)
     replace hF := Mr.hid hF
     replace hA := Mr.hid hA
     go_wp2
     go_ret
     exact ⟨rfl, hA.out.bel⟩
end Go.Proofs.YtnbibkohgppjnaaGreat.Wt
namespace Go.Proofs.YtnbibkohgppjnaaGreat.Wt
open Go.RowKit Mr Md
def set9 (w : World) (b : Nat) (c : Cq) : World := (((((((((w.setCell ⟨b, 0, none⟩ (.int .i64 c.th)).setCell ⟨b, 1, none⟩ (.int .i64 c.op)).setCell ⟨b, 2, none⟩ (.int .i64 c.arg)).setCell ⟨b, 3, none⟩ (.int .i64 c.data)).setCell ⟨b, 4, none⟩ (.int .i64 c.beg)).setCell ⟨b, 5, none⟩ (.int .i64 c.fin)).setCell ⟨b, 6, none⟩ (.int .i64 c.pt)).setCell ⟨b, 7, none⟩ (.int .i64 c.ak)).setCell ⟨b, 8, none⟩ (.int .i64 c.av))
theorem set9_at {w : World} {b : Nat} {lt : Cq} (h : w.heap[b]? = some (cqO lt)) (c : Cq) : (set9 w b c).heap[b]? = some (cqO c) := by
 unfold cqO at h
 have := setBlk (setBlk (setBlk (setBlk (setBlk (setBlk (setBlk (setBlk (setBlk h 0 (.int .i64 c.th)) 1 (.int .i64 c.op)) 2 (.int .i64 c.arg)) 3 (.int .i64 c.data)) 4 (.int .i64 c.beg)) 5 (.int .i64 c.fin)) 6 (.int .i64 c.pt)) 7 (.int .i64 c.ak)) 8 (.int .i64 c.av)
 unfold set9 cqO
 rw [this]
 simp
theorem set9_below {n : Nat} {W w : World} (h : Below n W w) {b : Nat} (hb : n ≤ b) (c : Cq) : Below n W (set9 w b c) := by
 unfold set9
 exact ((((((((h.setCell (p := ⟨b, _, none⟩) hb _).setCell (p := ⟨b, _, none⟩) hb _).setCell (p := ⟨b, _, none⟩) hb _).setCell (p := ⟨b, _, none⟩) hb _).setCell (p := ⟨b, _, none⟩) hb _).setCell (p := ⟨b, _, none⟩) hb _).setCell (p := ⟨b, _, none⟩) hb _).setCell (p := ⟨b, _, none⟩) hb _).setCell (p := ⟨b, _, none⟩) hb _
structure La (W w : World) (b : Nat) (lt : Cq) : Prop where
 bel : Below W.heap.size W w
 up : W.heap.size ≤ b
 box : w.heap[b]? = some (cqO lt)
theorem La.below {W w w' : World} {b : Nat} {lt : Cq} (h : La W w b lt) (hB : Below w.heap.size w w') : La W w' b lt :=
 ⟨h.bel.trans (hB.mono h.bel.size), h.up, (hB.block _ (Array.getElem?_eq_some_iff.1 h.box).1).trans h.box⟩
theorem La.next {W w : World} {b : Nat} {lt : Cq} (h : La W w b lt) (c : Cq) : La W (set9 w b c) b c := ⟨set9_below h.bel h.up c, h.up, set9_at h.box c⟩
theorem cq_thaw {w : World} {b : Nat} {c : Cq} (h : w.heap[b]? = some (cqO c)) : w.frozen? ⟨b, 0, none⟩ = false ∧ w.frozen? ⟨b, 1, none⟩ = false ∧ w.frozen? ⟨b, 2, none⟩ = false ∧ w.frozen? ⟨b, 3, none⟩ = false ∧ w.frozen? ⟨b, 4, none⟩ = false ∧ w.frozen? ⟨b, 5, none⟩ = false ∧ w.frozen? ⟨b, 6, none⟩ = false ∧ w.frozen? ⟨b, 7, none⟩ = false ∧ w.frozen? ⟨b, 8, none⟩ = false := by
 unfold cqO at h
 exact ⟨by simp [World.frozen?, h], by simp [World.frozen?, h], by simp [World.frozen?, h], by simp [World.frozen?, h], by simp [World.frozen?, h], by simp [World.frozen?, h], by simp [World.frozen?, h], by simp [World.frozen?, h], by simp [World.frozen?, h]⟩
set_option maxHeartbeats 16000000 in
theorem inTime_any {W : World} {T : Nat → Prop} {v : Value} {os : List Cq} (hv : Sl W T 9 v os.length (cqs os)) (hsm : os.length * 72 ≤ 281474976710656) (hf : ∀ c ∈ os, Fit c) (b : Bool) (hb : b = true ↔ InT os os.length) :
  Calls Tryz.prog 59 #[v] W fun e w' => e = .returned (.bool b) ∧ Below W.heap.size W w' := by
 obtain ⟨a, cap, rfl, hcap⟩ := hv.form
 obtain ⟨n, hn⟩ : ∃ n, n = os.length := ⟨_, rfl⟩
 rw [← hn] at hsm ⊢
 have hL0 : ∀ w1, w1 = W.alloc (.cells #[.int .i64 0, .int .i64 0, .int .i64 0, .int .i64 0, .int .i64 0, .int .i64 0, .int .i64 0, .int .i64 0, .int .i64 0] 45 (0, 0)) → La W w1 W.heap.size cq0 := by
  rintro w1 rfl
  exact ⟨(Below.refl _ _).alloc (Nat.le_refl _) _, Nat.le_refl _, new_at _ _ _ rfl⟩
 replace hL0 := Mr.hid hL0
 replace hn := Mr.hid hn
 replace hv := Mr.hid hv
 replace hb := Mr.hid hb
 replace hf := Mr.hid hf
 clear hcap
 go_enter Tryz.func59, Tryz.ntmps59
 go_upto_region 2 with (fail)
 have hL := hL0.out _ rfl
 clear hL0
 generalize (W.alloc (.cells #[.int .i64 0, .int .i64 0, .int .i64 0, .int .i64 0, .int .i64 0, .int .i64 0, .int .i64 0, .int .i64 0, .int .i64 0] 45 (0, 0))) = w1 at *
 obtain ⟨ba, hba⟩ : ∃ ba, ba = W.heap.size := ⟨_, rfl⟩
 rw [← hba] at hL
 rw [← hba]
 clear hba
 replace hL := Mr.hid hL
 go_wp2
 go_loopg [8] n (fun k s8 wr => ∃ (i : Nat) (lt : Cq), s8 = .int .i64 (i : Int) ∧ i + k = n ∧ InT os i ∧ Lat os i lt ∧ La W wr ba lt)
 case atStart => exact ⟨0, cq0, rfl, by omega, InT.zero _, Lat.zero _, hL.out⟩
 case round =>
  clear hL
  obtain ⟨i, lt, rfl, hi, hI, hLt, hL⟩ := hrel
  by_cases hlt : i < n
  ·obtain ⟨c, hci⟩ := get_of_lt (cs := os) (i := i) (by have := hn.out; omega)
   obtain ⟨bc, oc, rfl, A9⟩ := call_at (hv.out.below hL.bel) hci
   have hfc := hf.out c (List.mem_of_getElem? hci)
   have hbx : ∀ w1, w1 = wr.alloc (cqO c) → w1.heap[wr.heap.size]? = some (cqO c) ∧ La W w1 ba lt := by rintro w1 rfl; exact ⟨new_at _ _ _ rfl, hL.below ((Below.refl _ _).alloc (Nat.le_refl _) _)⟩
   obtain ⟨hbl, g0, g1, g2, g3, g4, g5, g6, g7, g8⟩ := A9
   have hlI : (i : Int) < (n : Int) := by omega
   have hw1 : IntKind.i64.wrap ((i : Int) + 1) = (i : Int) + 1 := i64x _ (by omega) (by omega)
   have AA := fun w => ahead_any c lt w
   unfold Cq.val at AA
   clear hL
   replace hbx := Mr.hid hbx
   replace hci := Mr.hid hci
   replace hfc := Mr.hid hfc
   replace hI := Mr.hid hI
   replace hLt := Mr.hid hLt
   go_upto_region 5 with (fail)
   obtain ⟨hX5, hL⟩ := hbx.out _ rfl
   unfold cqO at hX5
   clear hbx g0 g1 g2 g3 g4 g5 g6 g7 g8 hbl
   unfold cqO at hL
   generalize (wr.alloc (Obj.cells #[.int .i64 c.th, .int .i64 c.op, .int .i64 c.arg, .int .i64 c.data, .int .i64 c.beg, .int .i64 c.fin, .int .i64 c.pt, .int .i64 c.ak, .int .i64 c.av] 45 (0, 0))) = w5 at *
   generalize wr.heap.size = bx at *
   clear wr
   obtain ⟨k0, k1, k2, k3, k4, k5, k6, k7, k8, kl⟩ := cq_cells (c := c) hX5
   obtain ⟨l0, l1, l2, l3, l4, l5, l6, l7, l8, ll⟩ := cq_cells hL.box
   replace hX5 := Mr.hid hX5
   replace hL := Mr.hid hL
   cases hq : ahB c lt with
   | true =>
    have hbf : b = false := by
     cases hbb : b with
     | false => rfl
     | true => exact absurd (hb.out.1 hbb) (hLt.out.bad hci.out hfc.out hq (by have := hn.out; omega))
    subst hbf
    rw [hq] at AA
    replace AA := Mr.hid AA
    replace hq := Mr.hid hq
    go_wp2_with (go_at_call 29; refine (AA.out _).mono ?_; clear AA; rintro e w6 ⟨rfl, hB6⟩; replace hL := Mr.hid (hL.out.below hB6); clear hB6)
    go_ret
    exact ⟨rfl, hL.out.bel⟩
   | false =>
    have hIn := Mr.hid (hI.out.succ hci.out (hLt.out.free hq))
    rw [hq] at AA
    replace AA := Mr.hid AA
    replace hq := Mr.hid hq
    by_cases hbg : lt.beg < c.beg
    ·have hLn := Mr.hid (hLt.out.next hci.out hbg)
     have hbg2 : decide (lt.beg < c.beg) = true := decide_eq_true hbg
     replace hbg := Mr.hid hbg
     go_wp2_with (go_at_call 29; refine (AA.out _).mono ?_; clear AA; rintro e w6 ⟨rfl, hB6⟩; replace hL := Mr.hid (hL.out.below hB6); have hX6 := (hB6.block _ kl).trans hX5.out; clear hB6 k0 k1 k2 k3 k4 k5 k6 k7 k8 l0 l1 l2 l3 l4 l5 l6 l7 l8; obtain ⟨k0, k1, k2, k3, k4, k5, k6, k7, k8, kl6⟩ := cq_cells (c := c) hX6; obtain ⟨l0, l1, l2, l3, l4, l5, l6, l7, l8, ll6⟩ := cq_cells hL.out.box; obtain ⟨f0, f1, f2, f3, f4, f5, f6, f7, f8⟩ := cq_thaw hL.out.box; clear hX6)
     go_roundg (gk - 1)
     case measure => omega
     case rel => exact ⟨i + 1, c, by simp, by omega, hIn.out, hLn.out, hL.out.next c⟩
    ·have hLn := Mr.hid (hLt.out.keep hci.out hbg)
     have hbg2 : decide (lt.beg < c.beg) = false := decide_eq_false hbg
     replace hbg := Mr.hid hbg
     go_wp2_with (go_at_call 29; refine (AA.out _).mono ?_; clear AA; rintro e w6 ⟨rfl, hB6⟩; replace hL := Mr.hid (hL.out.below hB6); have hX6 := (hB6.block _ kl).trans hX5.out; clear hB6 k0 k1 k2 k3 k4 k5 k6 k7 k8 l0 l1 l2 l3 l4 l5 l6 l7 l8; obtain ⟨k0, k1, k2, k3, k4, k5, k6, k7, k8, kl6⟩ := cq_cells (c := c) hX6; obtain ⟨l0, l1, l2, l3, l4, l5, l6, l7, l8, ll6⟩ := cq_cells hL.out.box; clear hX6)
     go_roundg (gk - 1)
     case measure => omega
     case rel => exact ⟨i + 1, lt, by simp, by omega, hIn.out, hLn.out, hL.out⟩
  ·have hbt : b = true := hb.out.2 (by rw [show os.length = i from by have := hn.out; omega]; exact hI)
   subst hbt
   have dl : decide ((i : Int) < (n : Int)) = false := decide_eq_false (by omega)
   replace hI := Mr.hid hI
   replace hLt := Mr.hid hLt
   replace hL := Mr.hid hL
   go_wp2
   go_ret
   exact ⟨rfl, hL.out.bel⟩
end Go.Proofs.YtnbibkohgppjnaaGreat.Wt
namespace Go.Proofs.YtnbibkohgppjnaaGreat.Wt
open Go.RowKit Mr Md
theorem wz_call : (Tryz.prog.info? 45).map (fun i => (i.zero, i.size, i.bytes)) = some (some (.agg #[.int .i64 0, .int .i64 0, .int .i64 0, .int .i64 0, .int .i64 0, .int .i64 0, .int .i64 0, .int .i64 0, .int .i64 0]), 9, 72) := by kernel_rfl
def lay (os : List Cq) (k : Nat) : List Cq := os.take k ++ List.replicate (os.length - k) cq0
theorem lay_len (os : List Cq) (k : Nat) (hk : k ≤ os.length) : (lay os k).length = os.length := by simp [lay]; omega
theorem lay_end (os : List Cq) : lay os os.length = os := by simp [lay]
theorem lay_set {os : List Cq} {k : Nat} {c : Cq} (hc : os[k]? = some c) : (lay os k).set k c = lay os (k + 1) := by
 have hk := (List.getElem?_eq_some_iff.1 hc).1
 unfold lay
 rw [List.take_add_one, hc]
 have e : os.length - k = (os.length - (k + 1)) + 1 := by omega
 rw [e, List.replicate_succ, List.set_append_right _ _ (by simp; omega)]
 simp [Nat.min_eq_left (Nat.le_of_lt hk)]
theorem cqs_cons (c : Cq) (l : List Cq) : cqs (c :: l) = c.row ++ cqs l := by simp [cqs]
theorem cqs_set : ∀ (l : List Cq) (k : Nat) (c : Cq), k < l.length → (((((((((cqs l).set (k * 9) (.int .i64 c.th)).set (k * 9 + 1) (.int .i64 c.op)).set (k * 9 + 2) (.int .i64 c.arg)).set (k * 9 + 3) (.int .i64 c.data)).set (k * 9 + 4) (.int .i64 c.beg)).set (k * 9 + 5) (.int .i64 c.fin)).set (k * 9 + 6) (.int .i64 c.pt)).set (k * 9 + 7) (.int .i64 c.ak)).set (k * 9 + 8) (.int .i64 c.av) = cqs (l.set k c) := by
 intro l
 induction l with
 | nil => intro k c h; simp at h
 | cons d l ih =>
  intro k c h
  cases k with
  | zero => simp [cqs_cons, Cq.row]
  | succ k =>
   have h2 := ih k c (by simpa using h)
   rw [cqs_cons, List.set_cons_succ, cqs_cons, ← h2]
   have e : ∀ t, (k + 1) * 9 + t = d.row.length + (k * 9 + t) := fun t => by simp [Cq.row]; omega
   have e0 : (k + 1) * 9 = d.row.length + k * 9 := by simp [Cq.row]; omega
   have st : ∀ (xs : List Value) (t : Nat) (v : Value), (d.row ++ xs).set (d.row.length + t) v = d.row ++ xs.set t v := fun xs t v => by rw [List.set_append_right _ _ (by omega)]; congr 2; omega
   rw [e0, st, ← e0, e 1, st, e 2, st, e 3, st, e 4, st, e 5, st, e 6, st, e 7, st, e 8, st]
structure Lb (W w : World) (b : Nat) (os : List Cq) (k : Nat) : Prop where
 bel : Below W.heap.size W w
 up : W.heap.size ≤ b
 box : w.heap[b]? = some (.cells (cqs (lay os k)).toArray 45 (0, 0))
theorem Lb.below {W w w' : World} {b : Nat} {os : List Cq} {k : Nat} (h : Lb W w b os k) (hB : Below w.heap.size w w') : Lb W w' b os k :=
 ⟨h.bel.trans (hB.mono h.bel.size), h.up, (hB.block _ (Array.getElem?_eq_some_iff.1 h.box).1).trans h.box⟩
theorem Lb.sl {W w : World} {b : Nat} {os : List Cq} (h : Lb W w b os os.length) : Sl w (fun k => W.heap.size ≤ k) 9 (.slice (some ⟨b, 0, none⟩) os.length os.length) os.length (cqs os) := by
 have hb := h.box
 rw [lay_end] at hb
 refine ⟨cqs_length _, _, _, rfl, Nat.le_refl _, .inr ⟨b, 0, rfl, h.up, (Array.getElem?_eq_some_iff.1 hb).1, fun j u hu => ?_⟩⟩
 rw [Nat.zero_add, cell_blk hb]
 simpa using hu
theorem Lb.get {W w : World} {b : Nat} {os : List Cq} {k : Nat} (h : Lb W w b os k) (hk : k < os.length) : At9 w b (k * 9) cq0 ∧ ∀ t, t < 9 → w.frozen? ⟨b, k * 9 + t, none⟩ = false := by
 have hl : (lay os k)[k]? = some cq0 := by
  unfold lay
  rw [List.getElem?_append_right (by simp; omega), List.length_take, Nat.min_eq_left (by omega), Nat.sub_self, List.getElem?_replicate, if_pos (by omega)]
 have hg := fun t (ht : t < 9) => cqs_get (lay os k) k cq0 hl t ht
 have hc := fun t (ht : t < 9) => (cell_blk h.box (k * 9 + t)).trans ((by simp : ((cqs (lay os k)).toArray)[k * 9 + t]? = (cqs (lay os k))[k * 9 + t]?).trans (hg t ht))
 exact ⟨⟨(Array.getElem?_eq_some_iff.1 h.box).1, hc 0 (by omega), hc 1 (by omega), hc 2 (by omega), hc 3 (by omega), hc 4 (by omega), hc 5 (by omega), hc 6 (by omega), hc 7 (by omega), hc 8 (by omega)⟩, fun t ht => by simp [World.frozen?, h.box]⟩
def put9 (w : World) (b o : Nat) (c : Cq) : World := ((((((((w.setCell ⟨b, o, none⟩ (.int .i64 c.th)).setCell ⟨b, o + 1, none⟩ (.int .i64 c.op)).setCell ⟨b, o + 2, none⟩ (.int .i64 c.arg)).setCell ⟨b, o + 3, none⟩ (.int .i64 c.data)).setCell ⟨b, o + 4, none⟩ (.int .i64 c.beg)).setCell ⟨b, o + 5, none⟩ (.int .i64 c.fin)).setCell ⟨b, o + 6, none⟩ (.int .i64 c.pt)).setCell ⟨b, o + 7, none⟩ (.int .i64 c.ak)).setCell ⟨b, o + 8, none⟩ (.int .i64 c.av)
theorem Lb.next {W w : World} {b : Nat} {os : List Cq} {k : Nat} {c : Cq} (h : Lb W w b os k) (hc : os[k]? = some c) : Lb W (put9 w b (k * 9) c) b os (k + 1) := by
 have hk := (List.getElem?_eq_some_iff.1 hc).1
 refine ⟨?_, h.up, ?_⟩
 ·unfold put9
  exact ((((((((h.bel.setCell (p := ⟨b, _, none⟩) h.up _).setCell (p := ⟨b, _, none⟩) h.up _).setCell (p := ⟨b, _, none⟩) h.up _).setCell (p := ⟨b, _, none⟩) h.up _).setCell (p := ⟨b, _, none⟩) h.up _).setCell (p := ⟨b, _, none⟩) h.up _).setCell (p := ⟨b, _, none⟩) h.up _).setCell (p := ⟨b, _, none⟩) h.up _).setCell (p := ⟨b, _, none⟩) h.up _
 ·unfold put9
  rw [setBlk (setBlk (setBlk (setBlk (setBlk (setBlk (setBlk (setBlk (setBlk h.box _ _) _ _) _ _) _ _) _ _) _ _) _ _) _ _) _ _]
  rw [← lay_set hc, ← cqs_set (lay os k) k c (by rw [lay_len os k (by omega)]; exact hk)]
  simp
theorem makeC (W : World) (os : List Cq) (hn : os.length * 72 ≤ 281474976710656) :
  (Instr.makeSlice 22 (.int .i64 (os.length : Int)) (.int .i64 (os.length : Int))).run Tryz.prog W = .ok (.slice (some ⟨W.heap.size, 0, none⟩) os.length os.length) (W.alloc (.cells (cqs (lay os 0)).toArray 45 (0, 0))) := by
 obtain ⟨i0, hi, hz0, hz1, hz2⟩ := parts_of wz_call
 have h := run_make (P := Tryz.prog) W 22 45 i0 _ Tryz.underlying22 hi hz0 .i64 .i64 (os.length : Int) (os.length : Int) (by omega) (Int.le_refl _) (by rw [hz2]; omega) (by omega)
 have e : (os.length : Int).toNat = os.length := by omega
 rw [e, hz1] at h
 have e2 : ∀ n, madeCells (Value.agg #[.int .i64 0, .int .i64 0, .int .i64 0, .int .i64 0, .int .i64 0, .int .i64 0, .int .i64 0, .int .i64 0, .int .i64 0]).cells (n * 9) = (cqs (List.replicate n cq0)).toArray := by
  intro n
  apply Array.ext_getElem?
  intro i
  by_cases hi : i < n * 9
  ·have hd : (List.replicate n cq0)[i / 9]? = some cq0 := by rw [List.getElem?_replicate, if_pos (by omega)]
   have hg := cqs_get (List.replicate n cq0) (i / 9) cq0 hd (i % 9) (Nat.mod_lt _ (by omega))
   rw [show i / 9 * 9 + i % 9 = i from by omega] at hg
   have hm : i % 9 < 9 := Nat.mod_lt _ (by omega)
   rw [show ((cqs (List.replicate n cq0)).toArray)[i]? = (cqs (List.replicate n cq0))[i]? from by simp, hg]
   simp [madeCells, Value.cells, hi, Cq.row, cq0]
   have : i % 9 = 0 ∨ i % 9 = 1 ∨ i % 9 = 2 ∨ i % 9 = 3 ∨ i % 9 = 4 ∨ i % 9 = 5 ∨ i % 9 = 6 ∨ i % 9 = 7 ∨ i % 9 = 8 := by omega
   rcases this with e | e | e | e | e | e | e | e | e <;> simp [e]
  ·rw [Array.getElem?_eq_none (by rw [size_madeCells]; omega), Array.getElem?_eq_none (by simp [cqs_length]; omega)]
 rw [e2] at h
 have e3 : lay os 0 = List.replicate os.length cq0 := by simp [lay]
 rw [e3]
 exact h
end Go.Proofs.YtnbibkohgppjnaaGreat.Wt
