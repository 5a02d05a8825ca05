import Derived.Test.YtecldhngggkjjaaGreatJ09
import Derived.OrdersIn
import Derived.WalkKit
import Derived.Test.YtecldhngggkjjaaGreatJ10
import Derived.Test.YtecldhngggkjjaaGreatShelf
import Derived.Test.YtecldhngggkjjaaGreatJ13
import Derived.Deep.LoopGhost
import Derived.BigQuiet
import Derived.Deep.RegionWith
set_option linter.unusedVariables false
set_option linter.unusedSimpArgs false
set_option maxRecDepth 100000
namespace Go.Proofs.YtecldhngggkjjaaGreat.Ws
open Go.RowKit
def depsOk (md : Region.Mode) (ops : Array Oper) (dep : Nat → List Nat) : Bool :=
 (List.range ops.size).all fun i => ((ops[i]?).map fun o => (o.after.all fun e => !Region.binds md e || decide (e.on < i)) && ((dep i).all fun k => o.after.any fun e => Region.binds md e && decide (e.on = k))).getD false
def upd (x : Nat → Value) (i : Nat) (y : Value) : Nat → Value := fun j => if j = i then y else x j
def upb (D : Nat → Bool) (i : Nat) : Nat → Bool := fun j => decide (j = i) || D j
section
variable {F : Fence} {n : Nat} {P : Program} {ops : Array Oper} {Q : Exit → Act → World → Prop} {md : Region.Mode}
theorem depsOk_at {dep : Nat → List Nat} (h : depsOk md ops dep = true) {i : Nat} {o : Oper} (ho : ops[i]? = some o) :
  (∀ e ∈ o.after, Region.binds md e = true → e.on < i) ∧ ∀ k ∈ dep i, ∃ e ∈ o.after, Region.binds md e = true ∧ e.on = k := by
 have hi : i < ops.size := (Array.getElem?_eq_some_iff.1 ho).1
 have := List.all_eq_true.1 h i (List.mem_range.2 hi)
 rw [ho] at this
 simp only [Option.map_some, Option.getD_some, Bool.and_eq_true] at this
 refine ⟨fun e he hb => ?_, fun k hk => ?_⟩
 ·have h1 := Array.all_eq_true'.1 this.1 e he
  rw [hb] at h1
  simpa using h1
 ·have h1 := List.all_eq_true.1 this.2 k hk
  obtain ⟨e, he, h2⟩ := Array.any_eq_true'.1 h1
  rw [Bool.and_eq_true, decide_eq_true_eq] at h2
  exact ⟨e, he, h2.1, h2.2⟩
theorem all_listed {dep : Nat → List Nat} (hc : depsOk md ops dep = true) {L : Array Bool} (hL : L.size = ops.size) (hr : Region.ready md ops L = []) : ∀ j, j < ops.size → L.getD j false = true := by
 intro j
 induction j using Nat.strongRecOn with
 | _ j ih =>
  intro hj
  cases hq : L.getD j false with
  | true => rfl
  | false =>
   exfalso
   have ho : ops[j]? = some ops[j] := Array.getElem?_eq_getElem hj
   have hm : j ∈ Region.ready md ops L := by
    refine mem_ready.2 ⟨?_, _, ho, fun e he hb => ?_⟩
    ·rw [Array.getD_eq_getD_getElem?, Array.getElem?_eq_getElem (by omega)] at hq ⊢
     exact hq
    ·have := (depsOk_at hc ho).1 e he hb
     exact ih _ this (by omega)
   rw [hr] at hm
   cases hm
theorem wpAnyIn_walk {dep : Nat → List Nat} (hc : depsOk md ops dep = true) (A : (Nat → Value) → Act) (Inv : (Nat → Bool) → (Nat → Value) → World → Prop)
  (hstep : ∀ i, i < ops.size → ∀ D x w, D i = false → (∀ k ∈ dep i, D k = true) → (∀ j, D j = true → ∀ k ∈ dep j, D k = true) → Inv D x w → ∀ K : Act → World → Prop, (∀ y w', Inv (upb D i) (upd x i y) w' → K (A (upd x i y)) w') → wpOpIn F n P ops Q i K (A x) w)
  (hend : ∀ x w, Inv (fun j => decide (j < ops.size)) x w → Q .normal (A x) w) :
  ∀ (fuel : Nat) (L : Array Bool) (x : Nat → Value) (w : World), L.size = ops.size → ((List.range ops.size).filter (fun j => !L.getD j false)).length ≤ fuel → (∀ j, L.getD j false = true → ∀ k ∈ dep j, L.getD k false = true) → Inv (fun j => L.getD j false) x w → wpAnyIn F n P md ops Q fuel L (A x) w := by
 have fin : ∀ (L : Array Bool) (x : Nat → Value) (w : World), L.size = ops.size → Region.ready md ops L = [] → Inv (fun j => L.getD j false) x w → Q .normal (A x) w := by
  intro L x w hL hr hI
  have := all_listed hc hL hr
  refine hend x w ?_
  have e : (fun j => L.getD j false) = (fun j => decide (j < ops.size)) := by
   funext j
   by_cases hj : j < ops.size
   ·rw [this j hj]; simp [hj]
   ·simp [hj, Array.getD_eq_getD_getElem?, Array.getElem?_eq_none (show L.size ≤ j by omega)]
  rw [← e]; exact hI
 intro fuel
 induction fuel with
 | zero =>
  intro L x w hL hn hcl hI
  have hr : Region.ready md ops L = [] := by
   cases hq : Region.ready md ops L with
   | nil => rfl
   | cons i l =>
    exfalso
    obtain ⟨h0, o, ho, _⟩ := mem_ready.1 (show i ∈ Region.ready md ops L by rw [hq]; simp)
    have hi : i < ops.size := (Array.getElem?_eq_some_iff.1 ho).1
    have h1 := List.eq_nil_of_length_eq_zero (Nat.le_zero.1 hn)
    have h2 := List.filter_eq_nil_iff.1 h1 i (List.mem_range.2 hi)
    rw [Array.getD_eq_getD_getElem?, Array.getElem?_eq_getElem (by omega)] at h0 h2
    simp at h0 h2
    rw [h0] at h2; cases h2
  exact ⟨hr, fin L x w hL hr hI⟩
 | succ fuel ih =>
  intro L x w hL hn hcl hI
  refine ⟨fun hr => fin L x w hL hr hI, fun i hi => ?_⟩
  obtain ⟨h0, o, ho, hd⟩ := mem_ready.1 hi
  have hil : i < ops.size := (Array.getElem?_eq_some_iff.1 ho).1
  have hDi : L.getD i false = false := by
   rw [Array.getD_eq_getD_getElem?, Array.getElem?_eq_getElem (by omega)] at h0 ⊢
   exact h0
  have hdep : ∀ k ∈ dep i, L.getD k false = true := fun k hk => by
   obtain ⟨e, he, hb, rfl⟩ := (depsOk_at hc ho).2 k hk
   exact hd e he hb
  have hup : (fun j => (L.setIfInBounds i true).getD j false) = upb (fun j => L.getD j false) i := by
   funext j
   unfold upb
   by_cases hj : j = i
   ·subst hj
    simp [Array.getD_eq_getD_getElem?, show j < L.size by omega]
   ·simp [Array.getD_eq_getD_getElem?, hj, Array.getElem?_setIfInBounds_ne (show i ≠ j from fun e => hj e.symm)]
  refine hstep i hil _ x w hDi hdep hcl hI _ (fun y w' hI' => ?_)
  rw [← hup] at hI'
  refine ih _ (upd x i y) w' (by simp [hL]) ?_ ?_ hI'
  ·have := count_flip ops.size (fun j => !L.getD j false) (fun j => !(L.setIfInBounds i true).getD j false) i hil (by simp [hDi]) (by have := congrFun hup i; simp only [upb, decide_true, Bool.true_or] at this; rw [this]; rfl) (fun j hj => by
    have := congrFun hup j
    simp only [upb, hj, decide_false, Bool.false_or] at this
    rw [this])
   omega
  ·intro j hj k hk
   have h1 := congrFun hup j
   have h2 := congrFun hup k
   simp only [upb] at h1 h2
   rw [h1] at hj
   rw [h2]
   by_cases e : j = i
   ·subst e
    simp [hdep k hk]
   ·rw [decide_eq_false e, Bool.false_or] at hj
    rw [hcl j hj k hk, Bool.or_true]
theorem wpAnyIn_walks {dep : Nat → List Nat} (hc : depsOk md ops dep = true) (A : (Nat → Value) → Act) (Inv : (Nat → Bool) → (Nat → Value) → World → Prop) {L : Array Bool} (hL : L = Array.replicate ops.size false) (x : Nat → Value) {w : World} (h0 : Inv (fun _ => false) x w)
  (hstep : ∀ i, i < ops.size → ∀ D x w, D i = false → (∀ k ∈ dep i, D k = true) → (∀ j, D j = true → ∀ k ∈ dep j, D k = true) → Inv D x w → ∀ K : Act → World → Prop, (∀ y w', Inv (upb D i) (upd x i y) w' → K (A (upd x i y)) w') → wpOpIn F n P ops Q i K (A x) w)
  (hend : ∀ x w, Inv (fun j => decide (j < ops.size)) x w → Q .normal (A x) w) : wpAnyIn F n P md ops Q ops.size L (A x) w := by
 have hg : ∀ j, L.getD j false = false := fun j => by
  rw [hL, Array.getD_eq_getD_getElem?]
  by_cases hj : j < ops.size
  ·simp [hj]
  ·simp [Array.getElem?_eq_none (show (Array.replicate ops.size false).size ≤ j by simp; omega)]
 refine wpAnyIn_walk hc A Inv hstep hend _ L x w (by rw [hL]; simp) ?_ (fun j hj => by rw [hg] at hj; cases hj) ?_
 ·exact Nat.le_trans (List.length_filter_le _ _) (by simp)
 ·rw [show (fun j => L.getD j false) = (fun _ => false) from funext hg]; exact h0
end
end Go.Proofs.YtecldhngggkjjaaGreat.Ws
namespace Go.Proofs.YtecldhngggkjjaaGreat.Wt
open Go.RowKit Mr Md
def srt (zs : List Int) : List Int := zs.mergeSort fun x y => decide (x ≤ y)
theorem srt_perm (zs : List Int) : (srt zs).Perm zs := List.mergeSort_perm _ _
theorem srt_len (zs : List Int) : (srt zs).length = zs.length := (srt_perm zs).length_eq
theorem srt_up (zs : List Int) : (srt zs).Pairwise (· ≤ ·) := by
 have := List.pairwise_mergeSort (le := fun x y : Int => decide (x ≤ y)) (fun a b c h1 h2 => by simp at *; omega) (fun a b => by simp; omega) zs
 exact this.imp (fun h => of_decide_eq_true h)
theorem holds_at {W : World} {g o : Nat} {cur : Array Value} {e : TypeId} {zs : List Int} (hg : W.heap[g]? = some (.cells cur e (0, 0))) (hx : (cur.toList.drop o).take (zs.length * 1) = ints zs) : Sort.Holds (Value.int .i64) W g o zs.toArray := by
 intro j hj
 have hj' : j < zs.length := by simpa using hj
 refine ⟨?_, by simp [World.frozen?, hg]⟩
 have := own_cells hg hx j _ (ints_get zs j hj')
 rw [this]
 simp [hj']
theorem sort_any {W : World} {S : Nat → Prop} {u : Value} {zs : List Int} (hu : Md.Own W S 3 1 u zs.length (ints zs)) (hsz : zs.length < 4611686018427387904) :
  Calls Tryz.prog 53 #[u] W fun e w' => e = .returned (.tuple #[]) ∧ Fr W w' S ∧ Sl w' S 1 u zs.length (ints (srt zs)) := by
 by_cases h0 : zs.length = 0
 ·obtain ⟨a, cap, rfl, hc, _⟩ := hu.form
  have hz : zs = [] := List.eq_nil_of_length_eq_zero h0
  subst hz
  refine (Tryz.slices_Sort_int_none a cap W).mono ?_
  rintro e w' ⟨rfl, rfl⟩
  exact ⟨rfl, Fr.refl _ _, by simpa [srt] using hu.sl⟩
 ·obtain ⟨g, o, cap, cur, rfl, hc, hm, hS, hg, hs, hx⟩ := hu.there (by omega)
  have hH := holds_at hg hx
  have hl := (Array.getElem?_eq_some_iff.1 hg).1
  refine (Tryz.slices_Sort_int g o cap zs W hH hl hsz).mono ?_
  rintro e w' ⟨rfl, n, os, rfl⟩
  refine ⟨rfl, ⟨rfl, rfl, rfl, by simp, fun k hk hne => ?_⟩, by simp [ints, srt_len], _, cap, rfl, hc, .inr ⟨g, o, rfl, hS, by simp; omega, fun j u hu => ?_⟩⟩
  ·rw [Sort.heap_grow_old _ _ (by simpa using hk)]
   have : g ≠ k := fun e => hne (by rw [← e]; exact hS)
   simp [Sort.putRow, Sort.mapBlock, Sort.ahead, Array.getElem?_modify, this]
  ·have hj : j < (srt zs).length := by simpa [ints] using (List.getElem?_eq_some_iff.1 hu).1
   rw [Sort.cell?_grow _ _ _ (by simpa using hl)]
   have hsz2 : (srt zs).toArray.size = zs.toArray.size := by simp [srt_len]
   have := Sort.cell?_putRow (Value.int .i64) (Sort.ahead W n) g o zs.toArray (srt zs).toArray hH hsz2 j (by simpa using hj)
   unfold srt at this
   rw [this]
   simp [ints, srt] at hu
   obtain ⟨a, h1, h2⟩ := hu
   rw [← h2]
   simp [srt] at hj
   simp [h1]
end Go.Proofs.YtecldhngggkjjaaGreat.Wt
namespace Go.Proofs.YtecldhngggkjjaaGreat.Wt
open Go.RowKit Mr Md
set_option maxHeartbeats 8000000 in
theorem apart_any {W : World} {T : Nat → Prop} {v : Value} {cs : List Cq} (hv : Sl W T 9 v cs.length (cqs cs)) (hsm : cs.length * 72 ≤ 281474976710656) (b : Bool) (hb : b = true ↔ (mvl cs).Nodup) :
  Calls Tryz.prog 32 #[v] W fun e w' => e = .returned (.bool b) ∧ Below W.heap.size W w' := by
 obtain ⟨a, cap, rfl, hcap⟩ := hv.form
 obtain ⟨i0, hi0, hz0, hz1, hz2⟩ := parts_of wt_int
 obtain ⟨n, hn⟩ : ∃ n, n = cs.length := ⟨_, rfl⟩
 have hv' := hv
 rw [← hn] at hv hsm hcap ⊢
 rw [hn] at hv
 replace hn := Mr.hid hn
 replace hv := Mr.hid hv
 replace hb := Mr.hid hb
 clear hv'
 go_enter Tryz.func32, Tryz.ntmps32
 go_wp2
 go_loopg [3, 9] n (fun k s3 s9 wr => ∃ i : Nat, s9 = .int .i64 (i : Int) ∧ i + k = n ∧ Below W.heap.size W wr ∧ Md.Own wr (fun k => W.heap.size ≤ k) 3 1 s3 (mvl (cs.take i)).length (ints (mvl (cs.take i))))
 case atStart => exact ⟨0, rfl, by omega, Below.refl _ _, Md.Own.zero _ _ _ _ _⟩
 case round =>
  obtain ⟨i, rfl, hi, B, ho⟩ := hrel
  by_cases hlt : i < n
  ·obtain ⟨c, hci⟩ := get_of_lt (cs := cs) (i := i) (by have := hn.out; omega)
   obtain ⟨bc, oc, rfl, A9⟩ := call_at (hv.out.below B) hci
   obtain ⟨u, cu, rfl, hcu, hcm⟩ := ho.form
   obtain ⟨l, hl⟩ : ∃ l, l = mvl (cs.take i) := ⟨_, rfl⟩
   rw [← hl] at ho hcu ⊢
   have AF := fun w1 => Ap.first (w1 := w1) B ho c
   have hll : l.length ≤ 3 * i := by rw [hl]; exact Nat.le_trans (mvl_len _) (by simp; omega)
   have hnx := mvl_take cs i c hci
   rw [← hl] at hnx
   obtain ⟨hbl, g0, g1, g2, g3, g4, g5, g6, g7, g8⟩ := A9
   have hlI : (i : Int) < (n : Int) := by omega
   have ED := fun w => ended_any c w
   unfold Cq.val at ED
   clear ho hl
   replace AF := Mr.hid AF
   replace hnx := Mr.hid hnx
   replace hci := Mr.hid hci
   replace B := Mr.hid B
   replace ED := Mr.hid ED
   go_upto_region 5 with (fail)
   have hA := AF.out _ rfl
   unfold cqO at hA
   clear AF g0 g1 g2 g3 g4 g5 g6 g7 g8 hbl B
   generalize (wr.alloc (Obj.cells #[.int .i64 c.th, .int .i64 c.op, .int .i64 c.arg, .int .i64 c.data, .int .i64 c.beg, .int .i64 c.fin, .int .i64 c.pt, .int .i64 c.ak, .int .i64 c.av] 30 (0, 0))) = w5 at *
   generalize wr.heap.size = bx at *
   clear wr
   replace hA := Mr.hid hA
   obtain ⟨k0, k1, k2, k3, k4, k5, k6, k7, k8, kl⟩ := cq_cells hA.out.box
   go_upto_region 6 with (at_builtin; refine wpList_append_mine _ rfl (.tmp 13) (.tmp 16) 31 rfl (fun k => W.heap.size ≤ k ∧ k ≠ bx) 3 i0 _ 1 8 Tryz.underlying31 hi0 hz0 hz1 hz2 rfl _ (l).length (ints (l)) rfl (hA.out.own.below ((Below.refl _ _).alloc (Nat.le_refl _) _)) (some ⟨w5.heap.size, 0, none⟩) 1 1 [.int .i64 c.beg] rfl rfl (fun e => by cases e) (new1 rfl) (by simp [Value.oneCell']) (by unfold maxLen; omega) (by omega) ?_; intro b5 cap5 w6 hown hfr; have hX := hA.out.app rfl hown hfr; clear hown hfr; replace hX := Mr.hid hX)
   clear k0 k1 k2 k3 k4 k5 k6 k7 k8 kl
   replace hA := hX.out
   clear hX
   obtain ⟨l1, hl1⟩ : ∃ l1, l1 = l ++ [c.beg] := ⟨_, rfl⟩
   have ql1 : l.length + 1 = l1.length := by rw [hl1]; simp
   rw [← hl1, ql1] at hA
   rw [ql1]
   replace ql1 : l1.length ≤ 3 * i + 1 := by omega
   replace hl1 := Mr.hid hl1
   replace hA := Mr.hid hA
   obtain ⟨k0, k1, k2, k3, k4, k5, k6, k7, k8, kl⟩ := cq_cells hA.out.box
   by_cases e1 : c.fin = -1
   ·have hE : endB c = false := by simp [endB, e1]
    replace e1 := Mr.hid e1
    replace ED := ED.out
    rw [hE] at ED
    replace ED := Mr.hid ED
    go_upto_region 8 with (go_at_call 42; refine (ED.out _).mono ?_; clear ED; rintro e w7 ⟨rfl, hB7⟩; clear k0 k1 k2 k3 k4 k5 k6 k7 k8 kl; replace hA := Mr.hid (hA.out.below hB7); clear hB7; obtain ⟨k0, k1, k2, k3, k4, k5, k6, k7, k8, kl⟩ := cq_cells hA.out.box)
    by_cases e2 : c.pt = -1
    ·have e2' : (c.pt != -1) = false := by simp [e2]
     have e3 := Mr.hid trivial
     replace e2 := Mr.hid e2
     have hfin : Hid (mvl (cs.take (i + 1)) = l1) := by show mvl (cs.take (i + 1)) = l1; rw [hnx.out, hl1.out]; simp [mvc, e1.out, e2.out, e3.out]
     go_wp2
     go_roundg (gk - 1)
     case measure => omega
     case rel => exact ⟨i + 1, by simp, by omega, hA.out.bel, by rw [hfin.out]; exact hA.out.done⟩
    ·have e2' : (c.pt != -1) = true := by simp [e2]
     replace e2 := Mr.hid e2
     by_cases e3 : c.pt = c.fin
     ·exact absurd (e3.trans e1.out) e2.out
     ·have e3' : (c.pt != c.fin) = true := by simp [e3]
      replace e3 := Mr.hid e3
      have hfin : Hid (mvl (cs.take (i + 1)) = l1 ++ [c.pt]) := by show mvl (cs.take (i + 1)) = l1 ++ [c.pt]; rw [hnx.out, hl1.out]; simp [mvc, e1.out, e2.out, e3.out]
      go_wp2_with (at_builtin; refine wpList_append_mine _ rfl (.tmp 35) (.tmp 38) 31 rfl (fun k => W.heap.size ≤ k ∧ k ≠ bx) 3 i0 _ 1 8 Tryz.underlying31 hi0 hz0 hz1 hz2 rfl _ (l1).length (ints (l1)) rfl (hA.out.own.below ((Below.refl _ _).alloc (Nat.le_refl _) _)) (some ⟨w7.heap.size, 0, none⟩) 1 1 [.int .i64 c.pt] rfl rfl (fun e => by cases e) (new1 rfl) (by simp [Value.oneCell']) (by unfold maxLen; omega) (by omega) ?_; intro b9 cap9 w9 hown hfr; have hX := hA.out.app rfl hown hfr; clear hown hfr; replace hX := Mr.hid hX)
      go_roundg (gk - 1)
      case measure => omega
      case rel => exact ⟨i + 1, by simp, by omega, hX.out.bel, by rw [hfin.out]; exact hX.out.done⟩
   ·have hE : endB c = true := by simp [endB, e1]
    replace e1 := Mr.hid e1
    replace ED := ED.out
    rw [hE] at ED
    replace ED := Mr.hid ED
    go_upto_region 7 with (go_at_call 42; refine (ED.out _).mono ?_; clear ED; rintro e w7 ⟨rfl, hB7⟩; clear k0 k1 k2 k3 k4 k5 k6 k7 k8 kl; replace hA := Mr.hid (hA.out.below hB7); clear hB7; obtain ⟨k0, k1, k2, k3, k4, k5, k6, k7, k8, kl⟩ := cq_cells hA.out.box)
    go_upto_region 8 with (at_builtin; refine wpList_append_mine _ rfl (.tmp 20) (.tmp 23) 31 rfl (fun k => W.heap.size ≤ k ∧ k ≠ bx) 3 i0 _ 1 8 Tryz.underlying31 hi0 hz0 hz1 hz2 rfl _ (l1).length (ints (l1)) rfl (hA.out.own.below ((Below.refl _ _).alloc (Nat.le_refl _) _)) (some ⟨w7.heap.size, 0, none⟩) 1 1 [.int .i64 c.fin] rfl rfl (fun e => by cases e) (new1 rfl) (by simp [Value.oneCell']) (by unfold maxLen; omega) (by omega) ?_; intro b7 cap7 w8 hown hfr; have hX := hA.out.app rfl hown hfr; clear hown hfr; replace hX := Mr.hid hX)
    clear k0 k1 k2 k3 k4 k5 k6 k7 k8 kl
    replace hA := hX.out
    clear hX
    obtain ⟨l2, hl2⟩ : ∃ l2, l2 = l1 ++ [c.fin] := ⟨_, rfl⟩
    have ql2 : l1.length + 1 = l2.length := by rw [hl2]; simp
    rw [← hl2, ql2] at hA
    rw [ql2]
    replace ql2 : l2.length ≤ 3 * i + 2 := by omega
    replace hl2 := Mr.hid hl2
    replace hA := Mr.hid hA
    obtain ⟨k0, k1, k2, k3, k4, k5, k6, k7, k8, kl⟩ := cq_cells hA.out.box
    by_cases e2 : c.pt = -1
    ·have e2' : (c.pt != -1) = false := by simp [e2]
     have e3 := Mr.hid trivial
     replace e2 := Mr.hid e2
     have hfin : Hid (mvl (cs.take (i + 1)) = l2) := by show mvl (cs.take (i + 1)) = l2; rw [hnx.out, hl2.out, hl1.out]; simp [mvc, e1.out, e2.out, e3.out]
     go_wp2
     go_roundg (gk - 1)
     case measure => omega
     case rel => exact ⟨i + 1, by simp, by omega, hA.out.bel, by rw [hfin.out]; exact hA.out.done⟩
    ·have e2' : (c.pt != -1) = true := by simp [e2]
     replace e2 := Mr.hid e2
     by_cases e3 : c.pt = c.fin
     ·have e3' : (c.pt != c.fin) = false := by simp [e3]
      replace e3 := Mr.hid e3
      have hfin : Hid (mvl (cs.take (i + 1)) = l2) := by show mvl (cs.take (i + 1)) = l2; rw [hnx.out, hl2.out, hl1.out]; simp [mvc, e1.out, e2.out, e3.out]
      go_wp2
      go_roundg (gk - 1)
      case measure => omega
      case rel => exact ⟨i + 1, by simp, by omega, hA.out.bel, by rw [hfin.out]; exact hA.out.done⟩
     ·have e3' : (c.pt != c.fin) = true := by simp [e3]
      replace e3 := Mr.hid e3
      have hfin : Hid (mvl (cs.take (i + 1)) = l2 ++ [c.pt]) := by show mvl (cs.take (i + 1)) = l2 ++ [c.pt]; rw [hnx.out, hl2.out, hl1.out]; simp [mvc, e1.out, e2.out, e3.out]
      go_wp2_with (at_builtin; refine wpList_append_mine _ rfl (.tmp 35) (.tmp 38) 31 rfl (fun k => W.heap.size ≤ k ∧ k ≠ bx) 3 i0 _ 1 8 Tryz.underlying31 hi0 hz0 hz1 hz2 rfl _ (l2).length (ints (l2)) rfl (hA.out.own.below ((Below.refl _ _).alloc (Nat.le_refl _) _)) (some ⟨w8.heap.size, 0, none⟩) 1 1 [.int .i64 c.pt] rfl rfl (fun e => by cases e) (new1 rfl) (by simp [Value.oneCell']) (by unfold maxLen; omega) (by omega) ?_; intro b9 cap9 w9 hown hfr; have hX := hA.out.app rfl hown hfr; clear hown hfr; replace hX := Mr.hid hX)
      go_roundg (gk - 1)
      case measure => omega
      case rel => exact ⟨i + 1, by simp, by omega, hX.out.bel, by rw [hfin.out]; exact hX.out.done⟩
  ·have hin : i = cs.length := by have := hn.out; omega
   rw [hin, List.take_length] at ho
   obtain ⟨l, hl⟩ : ∃ l, l = mvl cs := ⟨_, rfl⟩
   rw [← hl] at ho
   have hb2 : b = true ↔ ∀ i x y, (srt l)[i]? = some x → (srt l)[i + 1]? = some y → y ≠ x := by rw [hb.out, ← hl, ← (srt_perm l).nodup_iff]; exact sorted_nodup (srt_up l)
   have hll : l.length ≤ 3 * n := by rw [hl, hn.out]; exact mvl_len _
   have SO := sort_any ho (by omega)
   obtain ⟨u, cu, rfl, hcu, hcm⟩ := ho.form
   have hsl := srt_len l
   obtain ⟨s, hs⟩ : ∃ s, s = srt l := ⟨_, rfl⟩
   rw [← hs] at hb2 SO hsl
   obtain ⟨m, hm⟩ : ∃ m, m = l.length := ⟨_, rfl⟩
   rw [← hm] at SO hcu hsl hll ⊢
   clear hb ho hl hs hin hm
   have dl : decide ((i : Int) < (n : Int)) = false := decide_eq_false (by omega)
   replace SO := Mr.hid SO
   replace hb2 := Mr.hid hb2
   replace B := Mr.hid B
   replace hsl := Mr.hid hsl
   go_wp2_with (go_at_call 53; refine SO.out.mono ?_; clear SO; rintro e w2 ⟨rfl, hf2, hS2⟩; have hB2 : Below W.heap.size W w2 := ⟨hf2.os.trans B.out.os, hf2.tape.trans B.out.tape, hf2.output.trans B.out.output, Nat.le_trans B.out.size hf2.size, fun k hk => (hf2.block k (Nat.lt_of_lt_of_le hk B.out.size) (by omega)).trans (B.out.block k hk)⟩; clear hf2 B; replace hB2 := Mr.hid hB2; replace hS2 := Mr.hid hS2)
   go_loopg [6] m (fun k s6 wr => ∃ i : Nat, s6 = .int .i64 ((i : Int) + 1) ∧ i + k = m ∧ Below W.heap.size W wr ∧ Below w2.heap.size w2 wr ∧ ∀ j x y, j < i → s[j]? = some x → s[j + 1]? = some y → y ≠ x)
   case atStart => exact ⟨0, rfl, by omega, hB2.out, Below.refl _ _, fun j x y hj => by omega⟩
   case round =>
    obtain ⟨i, rfl, hi, B, B2, ht⟩ := hrel
    by_cases hlt : i + 1 < m
    ·obtain ⟨gu, ou, cu', hgu, _, _, hul, ru⟩ := (hS2.out.below B2).there (by omega)
     cases hgu
     have hx1 : s[i + 1]? = some (s[i + 1]'(by have := hsl.out; omega)) := List.getElem?_eq_getElem _
     have hx0 : s[i]? = some (s[i]'(by have := hsl.out; omega)) := List.getElem?_eq_getElem _
     obtain ⟨y1, hy1⟩ : ∃ y, y = s[i + 1]'(by have := hsl.out; omega) := ⟨_, rfl⟩
     obtain ⟨y0, hy0⟩ : ∃ y, y = s[i]'(by have := hsl.out; omega) := ⟨_, rfl⟩
     rw [← hy1] at hx1
     rw [← hy0] at hx0
     clear hy0 hy1
     have k1 := ru (i + 1) _ (by rw [ints, List.getElem?_map, hx1]; rfl)
     have k0 := ru i _ (by rw [ints, List.getElem?_map, hx0]; rfl)
     have hli : ((i : Int) + 1) < (m : Int) := by omega
     have ewr : IntKind.i64.wrap ((i : Int) + 1 - 1) = (i : Int) := by rw [show (i : Int) + 1 - 1 = (i : Int) from by omega]; exact i64x _ (by omega) (by omega)
     have e1 : ((i : Int) + 1).toNat = i + 1 := by omega
     clear ru
     replace B := Mr.hid B
     replace B2 := Mr.hid B2
     replace ht := Mr.hid ht
     replace hx1 := Mr.hid hx1
     replace hx0 := Mr.hid hx0
     go_upto_region 15 with (fail)
     go_quiet (fail)
     have hBq := Bx.draws W.heap.size wr nq
     have hBq2 := Bx.draws w2.heap.size wr nq
     have hB := Mr.hid (B.out.trans hBq)
     have hC2 := Mr.hid (B2.out.trans hBq2)
     clear hBq hBq2 k1 k0 hul B B2
     generalize wr.drewN nq = W6 at *
     by_cases he : y1 = y0
     ·have hbf : b = false := by
       cases hbb : b with
       | false => rfl
       | true => exact absurd he (hb2.out.1 hbb i y0 y1 hx0.out hx1.out)
      have he2 : (y1 == y0) = true := by simp [he]
      subst hbf
      go_wp2
      go_ret
      exact ⟨rfl, hB.out⟩
     ·have he2 : (y1 == y0) = false := by simp [he]
      go_wp2
      go_roundg (gk - 1)
      case measure => omega
      case rel => exact ⟨i + 1, by simp, by omega, hB.out, hC2.out, fun j x y hj hx hy => by
       by_cases hji : j < i
       ·exact ht.out j x y hji hx hy
       ·have : j = i := by omega
        subst this
        rw [hx0.out] at hx; rw [hx1.out] at hy; cases hx; cases hy; exact he⟩
    ·have hbt : b = true := hb2.out.2 (fun j x y hx hy => ht j x y (by have := (List.getElem?_eq_some_iff.1 hy).1; have := hsl.out; omega) hx hy)
     subst hbt
     have dl2 : decide (((i : Int) + 1) < (m : Int)) = false := decide_eq_false (by omega)
     replace B := Mr.hid B
     clear ht
     go_wp2
     go_ret
     exact ⟨rfl, B.out⟩
end Go.Proofs.YtecldhngggkjjaaGreat.Wt
namespace Go.Proofs.YtecldhngggkjjaaGreat.Wt
open Go.RowKit Mr Md
def lastL (cs : List Cq) (i : Nat) : List Value := (List.range 16).map fun (t : Nat) => Value.int .i64 ((lastT cs (t : Int) i : Nat) : Int)
def lastA (cs : List Cq) (i : Nat) : Array Value := (lastL cs i).toArray
theorem lastA_get (cs : List Cq) (i : Nat) {t : Int} (h0 : 0 ≤ t) (h1 : t < 16) : (lastA cs i)[t.toNat]? = some (.int .i64 ((lastT cs t i : Nat) : Int)) := by
 have e : ((t.toNat : Nat) : Int) = t := by omega
 simp [lastA, lastL, show t.toNat < 16 by omega, e, show max t 0 = t by omega]
theorem lastA_zero (cs : List Cq) : lastA cs 0 = #[.int .i64 0, .int .i64 0, .int .i64 0, .int .i64 0, .int .i64 0, .int .i64 0, .int .i64 0, .int .i64 0, .int .i64 0, .int .i64 0, .int .i64 0, .int .i64 0, .int .i64 0, .int .i64 0, .int .i64 0, .int .i64 0] := by
 simp [lastA, lastL, lastT, List.range, List.range.loop]
theorem lastA_size (cs : List Cq) (i : Nat) : (lastA cs i).size = 16 := by simp [lastA, lastL]
theorem lastA_set {cs : List Cq} {i : Nat} {c : Cq} (hc : cs[i]? = some c) (h0 : 0 ≤ c.th) (h1 : c.th < 16) : (lastA cs i).setIfInBounds c.th.toNat (.int .i64 ((i : Int) + 1)) = lastA cs (i + 1) := by
 apply Array.ext
 ·simp [lastA_size]
 ·intro j hj1 hj2
  have hj : j < 16 := by simpa [lastA_size] using hj2
  rw [Array.getElem_setIfInBounds (by rw [lastA_size]; exact hj)]
  by_cases e : c.th.toNat = j
  ·rw [if_pos e]
   have e2 : ((j : Nat) : Int) = c.th := by omega
   simp [lastA, lastL, e2, lastT_hit hc]
  ·rw [if_neg e]
   have e2 : c.th ≠ ((j : Nat) : Int) := by omega
   simp [lastA, lastL, lastT_miss hc e2]
theorem make16 (W : World) :
  (Instr.makeSlice 31 (.int .i64 16) (.int .i64 16)).run Tryz.prog W = .ok (.slice (some ⟨W.heap.size, 0, none⟩) 16 16) (W.alloc (.cells #[.int .i64 0, .int .i64 0, .int .i64 0, .int .i64 0, .int .i64 0, .int .i64 0, .int .i64 0, .int .i64 0, .int .i64 0, .int .i64 0, .int .i64 0, .int .i64 0, .int .i64 0, .int .i64 0, .int .i64 0, .int .i64 0] 3 (0, 0))) := by
 obtain ⟨i0, hi, hz0, hz1, hz2⟩ := parts_of wt_int
 have h := run_make (P := Tryz.prog) W 31 3 i0 (.int .i64 0) Tryz.underlying31 hi hz0 .i64 .i64 16 16 (by omega) (Int.le_refl _) (by rw [hz2]; omega) (by omega)
 have e : (16 : Int).toNat = 16 := by decide
 rw [e, hz1, Nat.mul_one] at h
 have e2 : madeCells (Value.int .i64 0).cells 16 = #[.int .i64 0, .int .i64 0, .int .i64 0, .int .i64 0, .int .i64 0, .int .i64 0, .int .i64 0, .int .i64 0, .int .i64 0, .int .i64 0, .int .i64 0, .int .i64 0, .int .i64 0, .int .i64 0, .int .i64 0, .int .i64 0] := by kernel_rfl
 rw [e2] at h
 exact h
structure Tn (W w : World) (b : Nat) (ty : TypeId) (cs : List Cq) (i : Nat) : Prop where
 bel : Below W.heap.size W w
 up : W.heap.size ≤ b
 box : w.heap[b]? = some (.cells (lastA cs i) ty (0, 0))
theorem Tn.below {W w w' : World} {b : Nat} {ty : TypeId} {cs : List Cq} {i : Nat} (h : Tn W w b ty cs i) (hB : Below w.heap.size w w') : Tn W w' b ty cs i :=
 ⟨h.bel.trans (hB.mono h.bel.size), h.up, (hB.block _ (Array.getElem?_eq_some_iff.1 h.box).1).trans h.box⟩
theorem Tn.get {W w : World} {b : Nat} {ty : TypeId} {cs : List Cq} {i : Nat} (h : Tn W w b ty cs i) {t : Int} (h0 : 0 ≤ t) (h1 : t < 16) : w.cell? ⟨b, t.toNat, none⟩ = some (.int .i64 ((lastT cs t i : Nat) : Int)) ∧ w.frozen? ⟨b, t.toNat, none⟩ = false ∧ b < w.heap.size := by
 refine ⟨?_, by simp [World.frozen?, h.box], (Array.getElem?_eq_some_iff.1 h.box).1⟩
 rw [cell_blk h.box, lastA_get cs i h0 h1]
theorem Tn.next {W w : World} {b : Nat} {ty : TypeId} {cs : List Cq} {i : Nat} (h : Tn W w b ty cs i) {c : Cq} (hc : cs[i]? = some c) (h0 : 0 ≤ c.th) (h1 : c.th < 16) : Tn W (w.setCell ⟨b, c.th.toNat, none⟩ (.int .i64 ((i : Int) + 1))) b ty cs (i + 1) :=
 ⟨h.bel.setCell (p := ⟨b, _, none⟩) h.up _, h.up, by rw [setBlk h.box, lastA_set hc h0 h1]⟩
end Go.Proofs.YtecldhngggkjjaaGreat.Wt
namespace Go.Proofs.YtecldhngggkjjaaGreat.Wt
open Go.RowKit Mr Md
set_option maxHeartbeats 8000000 in
theorem inTurn_any {W : World} {T : Nat → Prop} {v : Value} {cs : List Cq} (hv : Sl W T 9 v cs.length (cqs cs)) (hsm : cs.length * 72 ≤ 281474976710656) (hU : Up cs cs.length) (b : Bool) (hb : b = true ↔ Turn AhP cs cs.length) :
  Calls Tryz.prog 33 #[v] W fun e w' => e = .returned (.bool b) ∧ Below W.heap.size W w' := by
 obtain ⟨a, cap, rfl, hcap⟩ := hv.form
 obtain ⟨n, hn⟩ : ∃ n, n = cs.length := ⟨_, rfl⟩
 rw [← hn] at hsm hcap hb
 replace hU := Mr.hid hU
 replace hv := Mr.hid hv
 replace hb := Mr.hid hb
 rw [← hn]
 replace hn := Mr.hid hn
 have hT0 : ∀ w1, w1 = W.alloc (.cells #[.int .i64 0, .int .i64 0, .int .i64 0, .int .i64 0, .int .i64 0, .int .i64 0, .int .i64 0, .int .i64 0, .int .i64 0, .int .i64 0, .int .i64 0, .int .i64 0, .int .i64 0, .int .i64 0, .int .i64 0, .int .i64 0] 92 (0, 0)) → Tn W w1 W.heap.size 92 cs 0 := by
  rintro w1 rfl
  exact ⟨(Below.refl _ _).alloc (Nat.le_refl _) _, Nat.le_refl _, by rw [lastA_zero]; exact new_at _ _ _ rfl⟩
 replace hT0 := Mr.hid hT0
 go_enter Tryz.func33, Tryz.ntmps33
 go_upto_region 2 with (fail)
 have hT := hT0.out _ rfl
 clear hT0
 generalize (W.alloc (.cells #[.int .i64 0, .int .i64 0, .int .i64 0, .int .i64 0, .int .i64 0, .int .i64 0, .int .i64 0, .int .i64 0, .int .i64 0, .int .i64 0, .int .i64 0, .int .i64 0, .int .i64 0, .int .i64 0, .int .i64 0, .int .i64 0] 92 (0, 0))) = w1 at *
 obtain ⟨ba, hba⟩ : ∃ ba, ba = W.heap.size := ⟨_, rfl⟩
 rw [← hba] at hT
 rw [← hba]
 clear hba
 replace hT := Mr.hid hT
 go_wp2
 go_loopg [9] n (fun k s9 wr => ∃ i : Nat, s9 = .int .i64 (i : Int) ∧ i + k = n ∧ Turn AhP cs i ∧ Tn W wr ba 92 cs i)
 case atStart => exact ⟨0, rfl, by omega, Turn.zero _ _, hT.out⟩
 case round =>
  clear hT
  obtain ⟨i, rfl, hi, hR, hT⟩ := hrel
  by_cases hlt : i < n
  ·obtain ⟨c, hci⟩ := get_of_lt (cs := cs) (i := i) (by have := hn.out; omega)
   obtain ⟨bc, oc, rfl, A9⟩ := call_at (hv.out.below hT.bel) hci
   obtain ⟨t0, t1, -, -⟩ := hU.out.fit (by have := hn.out; omega) hci
   have hTA := fun o => hT.below ((Below.refl wr.heap.size wr).alloc (Nat.le_refl _) o)
   have hbx : ∀ w1, w1 = wr.alloc (cqO c) → w1.heap[wr.heap.size]? = some (cqO c) := by rintro w1 rfl; exact new_at _ _ _ rfl
   obtain ⟨hbl, g0, g1, g2, g3, g4, g5, g6, g7, g8⟩ := A9
   obtain ⟨z1, z2, z3⟩ := (hTA (cqO c)).get t0 t1
   have hlI : (i : Int) < (n : Int) := by omega
   have hml := lastT_le cs c.th i
   unfold cqO at z1 z2
   replace hTA := Mr.hid hTA
   replace hbx := Mr.hid hbx
   replace hR := Mr.hid hR
   replace hci := Mr.hid hci
   clear hT
   obtain ⟨m0, hm0⟩ : ∃ m0, m0 = lastT cs c.th i := ⟨_, rfl⟩
   rw [← hm0] at z1 hml
   replace hm0 := Mr.hid hm0
   go_upto_region 6 with (fail)
   have hT := hTA.out (cqO c)
   have hB := hbx.out _ rfl
   unfold cqO at hT hB
   clear hTA hbx g0 g1 g2 g3 g4 g5 g6 g7 g8 hbl z1 z2 z3
   generalize (wr.alloc (Obj.cells #[.int .i64 c.th, .int .i64 c.op, .int .i64 c.arg, .int .i64 c.data, .int .i64 c.beg, .int .i64 c.fin, .int .i64 c.pt, .int .i64 c.ak, .int .i64 c.av] 30 (0, 0))) = w5 at *
   generalize wr.heap.size = bx at *
   clear wr
   have NX : ∀ w, Tn W w ba 92 cs i → Tn W (w.setCell ⟨ba, c.th.toNat, none⟩ (.int .i64 ((i : Int) + 1))) ba 92 cs (i + 1) := fun w h => h.next hci.out t0 t1
   have GT : ∀ w, Tn W w ba 92 cs i → w.cell? ⟨ba, c.th.toNat, none⟩ = some (.int .i64 (m0 : Int)) ∧ w.frozen? ⟨ba, c.th.toNat, none⟩ = false ∧ ba < w.heap.size := fun w h => by rw [hm0.out]; exact h.get t0 t1
   have hw : IntKind.i64.wrap ((i : Int) + 1) = (i : Int) + 1 := i64x _ (by omega) (by omega)
   replace NX := Mr.hid NX
   replace GT := Mr.hid GT
   by_cases hm : m0 = 0
   ·have hok : Turn AhP cs (i + 1) := hR.out.succ hci.out (fun d h0 => by rw [← hm0.out, hm] at h0; omega)
    subst hm
    obtain ⟨k0, k1, k2, k3, k4, k5, k6, k7, k8, kl⟩ := cq_cells (c := c) hB
    obtain ⟨z1, z2, z3⟩ := GT.out _ hT
    replace hT := Mr.hid hT
    replace hok := Mr.hid hok
    go_quiet (fail)
    go_wp2
    go_roundg (gk - 1)
    case measure => omega
    case rel => exact ⟨i + 1, by simp, by omega, hok.out, NX.out _ (hT.out.below (Bx.draws _ _ nq))⟩
   ·obtain ⟨m, rfl⟩ : ∃ m, m0 = m + 1 := ⟨m0 - 1, by omega⟩
    obtain ⟨d, hdm⟩ := get_of_lt (cs := cs) (i := m) (by have := hn.out; omega)
    obtain ⟨bc', oc', hbo, A9⟩ := call_at (hv.out.below hT.bel) hdm
    cases hbo
    obtain ⟨hbl, d0, d1, d2, d3, d4, d5, d6, d7, d8⟩ := A9
    obtain ⟨k0, k1, k2, k3, k4, k5, k6, k7, k8, kl⟩ := cq_cells (c := c) hB
    have hmw : IntKind.i64.wrap (((m + 1 : Nat) : Int) - 1) = (m : Int) := by rw [show ((m + 1 : Nat) : Int) - 1 = (m : Int) from by omega]; exact i64x _ (by omega) (by omega)
    have hmw2 : IntKind.i64.wrap (m : Int) = (m : Int) := i64x _ (by omega) (by omega)
    have hmw3 : IntKind.i64.wrap ((m : Int) + 1 - 1) = (m : Int) := by rw [show (m : Int) + 1 - 1 = (m : Int) from by omega]; exact i64x _ (by omega) (by omega)
    have hm3 : (0 : Int) < (m : Int) + 1 := by omega
    have hm0' : (0 : Int) < ((m + 1 : Nat) : Int) := by omega
    have hm1 : (0 : Int) ≤ (m : Int) := by omega
    have hm2 : (m : Int) < (n : Int) := by omega
    have AA := fun w => ahead_any d c w
    unfold Cq.val at AA
    obtain ⟨q, hq⟩ : ∃ q, q = ahB d c := ⟨_, rfl⟩
    rw [← hq] at AA
    have hok : q = true → Turn AhP cs (i + 1) := fun h => hR.out.succ hci.out (fun d' h0 hd' => by
     rw [← hm0.out, Nat.add_sub_cancel, hdm] at hd'; cases hd'
     rw [hq] at h; simp [ahB] at h; exact h)
    have hno : q = false → b = false := fun h => by
     cases hbb : b with
     | false => rfl
     | true =>
      have h2 := hb.out.1 hbb i hlt c d hci.out (by rw [← hm0.out]; omega) (by rw [← hm0.out, Nat.add_sub_cancel]; exact hdm)
      rw [hq] at h; simp [ahB, AhP] at h h2; omega
    replace AA := Mr.hid AA
    replace hq := Mr.hid hq
    replace hok := Mr.hid hok
    replace hno := Mr.hid hno
    replace hT := Mr.hid hT
    replace hdm := Mr.hid hdm
    have KK : Hid (∀ w', Below w5.heap.size w5 w' → w'.cell? ⟨bc, oc + m * 9, none⟩ = some (.int .i64 d.th) ∧ w'.cell? ⟨bc, oc + m * 9 + 1, none⟩ = some (.int .i64 d.op) ∧ w'.cell? ⟨bc, oc + m * 9 + 2, none⟩ = some (.int .i64 d.arg) ∧ w'.cell? ⟨bc, oc + m * 9 + 3, none⟩ = some (.int .i64 d.data) ∧ w'.cell? ⟨bc, oc + m * 9 + 4, none⟩ = some (.int .i64 d.beg) ∧ w'.cell? ⟨bc, oc + m * 9 + 5, none⟩ = some (.int .i64 d.fin) ∧ w'.cell? ⟨bc, oc + m * 9 + 6, none⟩ = some (.int .i64 d.pt) ∧ w'.cell? ⟨bc, oc + m * 9 + 7, none⟩ = some (.int .i64 d.ak) ∧ w'.cell? ⟨bc, oc + m * 9 + 8, none⟩ = some (.int .i64 d.av) ∧ w'.cell? ⟨bx, 0, none⟩ = some (.int .i64 c.th) ∧ w'.cell? ⟨bx, 1, none⟩ = some (.int .i64 c.op) ∧ w'.cell? ⟨bx, 2, none⟩ = some (.int .i64 c.arg) ∧ w'.cell? ⟨bx, 3, none⟩ = some (.int .i64 c.data) ∧ w'.cell? ⟨bx, 4, none⟩ = some (.int .i64 c.beg) ∧ w'.cell? ⟨bx, 5, none⟩ = some (.int .i64 c.fin) ∧ w'.cell? ⟨bx, 6, none⟩ = some (.int .i64 c.pt) ∧ w'.cell? ⟨bx, 7, none⟩ = some (.int .i64 c.ak) ∧ w'.cell? ⟨bx, 8, none⟩ = some (.int .i64 c.av)) := fun w' hB => ⟨(hB.cell (p := ⟨bc, _, none⟩) hbl).trans d0, (hB.cell (p := ⟨bc, _, none⟩) hbl).trans d1, (hB.cell (p := ⟨bc, _, none⟩) hbl).trans d2, (hB.cell (p := ⟨bc, _, none⟩) hbl).trans d3, (hB.cell (p := ⟨bc, _, none⟩) hbl).trans d4, (hB.cell (p := ⟨bc, _, none⟩) hbl).trans d5, (hB.cell (p := ⟨bc, _, none⟩) hbl).trans d6, (hB.cell (p := ⟨bc, _, none⟩) hbl).trans d7, (hB.cell (p := ⟨bc, _, none⟩) hbl).trans d8, (hB.cell (p := ⟨bx, _, none⟩) kl).trans k0, (hB.cell (p := ⟨bx, _, none⟩) kl).trans k1, (hB.cell (p := ⟨bx, _, none⟩) kl).trans k2, (hB.cell (p := ⟨bx, _, none⟩) kl).trans k3, (hB.cell (p := ⟨bx, _, none⟩) kl).trans k4, (hB.cell (p := ⟨bx, _, none⟩) kl).trans k5, (hB.cell (p := ⟨bx, _, none⟩) kl).trans k6, (hB.cell (p := ⟨bx, _, none⟩) kl).trans k7, (hB.cell (p := ⟨bx, _, none⟩) kl).trans k8⟩
    go_region_held3 (fun w' => w'.cell? ⟨bc, oc + m * 9, none⟩ = some (.int .i64 d.th) ∧ w'.cell? ⟨bc, oc + m * 9 + 1, none⟩ = some (.int .i64 d.op) ∧ w'.cell? ⟨bc, oc + m * 9 + 2, none⟩ = some (.int .i64 d.arg) ∧ w'.cell? ⟨bc, oc + m * 9 + 3, none⟩ = some (.int .i64 d.data) ∧ w'.cell? ⟨bc, oc + m * 9 + 4, none⟩ = some (.int .i64 d.beg) ∧ w'.cell? ⟨bc, oc + m * 9 + 5, none⟩ = some (.int .i64 d.fin) ∧ w'.cell? ⟨bc, oc + m * 9 + 6, none⟩ = some (.int .i64 d.pt) ∧ w'.cell? ⟨bc, oc + m * 9 + 7, none⟩ = some (.int .i64 d.ak) ∧ w'.cell? ⟨bc, oc + m * 9 + 8, none⟩ = some (.int .i64 d.av) ∧ w'.cell? ⟨bx, 0, none⟩ = some (.int .i64 c.th) ∧ w'.cell? ⟨bx, 1, none⟩ = some (.int .i64 c.op) ∧ w'.cell? ⟨bx, 2, none⟩ = some (.int .i64 c.arg) ∧ w'.cell? ⟨bx, 3, none⟩ = some (.int .i64 c.data) ∧ w'.cell? ⟨bx, 4, none⟩ = some (.int .i64 c.beg) ∧ w'.cell? ⟨bx, 5, none⟩ = some (.int .i64 c.fin) ∧ w'.cell? ⟨bx, 6, none⟩ = some (.int .i64 c.pt) ∧ w'.cell? ⟨bx, 7, none⟩ = some (.int .i64 c.ak) ∧ w'.cell? ⟨bx, 8, none⟩ = some (.int .i64 c.av)) (first | exact KK.out _ (by assumption) | go_keep) (first | (go_at_call 44; refine (AA.out _).mono ?_; rintro e w6 ⟨rfl, hB6⟩; replace hB6 : Below w5.heap.size w5 w6 := ⟨hB6.os, hB6.tape, hB6.output, hB6.size, hB6.block⟩))
    all_goals
     have hT6 := hT.out.below hB6
     clear hT KK AA d0 d1 d2 d3 d4 d5 d6 d7 d8 k0 k1 k2 k3 k4 k5 k6 k7 k8
     have hbx6 := (hB6.block _ kl).trans hB
     obtain ⟨k0, k1, k2, k3, k4, k5, k6, k7, k8, kl6⟩ := cq_cells (c := c) hbx6
     obtain ⟨z1, z2, z3⟩ := GT.out _ hT6
     replace hT6 := Mr.hid hT6
     cases q with
     | false =>
      have hbf := hno.out rfl
      subst hbf
      go_wp2
      go_ret
      exact ⟨rfl, hT6.out.bel⟩
     | true =>
      have hok2 := Mr.hid (hok.out rfl)
      go_wp2
      go_roundg (gk - 1)
      case measure => omega
      case rel => exact ⟨i + 1, by simp, by omega, hok2.out, NX.out _ hT6.out⟩
  ·have hbt : b = true := hb.out.2 (by rw [show n = i from by omega]; exact hR)
   subst hbt
   have dl : decide ((i : Int) < (n : Int)) = false := decide_eq_false (by omega)
   replace hT := Mr.hid hT
   clear hR
   go_wp2
   go_ret
   exact ⟨rfl, hT.out.bel⟩
end Go.Proofs.YtecldhngggkjjaaGreat.Wt
namespace Go.Proofs.YtecldhngggkjjaaGreat.Wt
open Go.RowKit Mr Md
theorem not_may_up {cs : List Cq} {i : Nat} {c : Cq} (hc : cs[i]? = some c) (h : ¬ Fit c) : ¬ MayC cs := fun hm => h (hm.1.fit (List.getElem?_eq_some_iff.1 hc).1 hc)
theorem not_may_rise {cs : List Cq} {m : Nat} {c d : Cq} (hc : cs[m + 1]? = some c) (hd : cs[m]? = some d) (h : ¬ d.beg < c.beg) : ¬ MayC cs := fun hm => h ((hm.1 (m + 1) (List.getElem?_eq_some_iff.1 hc).1).2 d c (by omega) (by simpa using hd) hc)
set_option maxHeartbeats 8000000 in
theorem may_any {W : World} {T : Nat → Prop} {v : Value} {cs : List Cq} (hv : Sl W T 9 v cs.length (cqs cs)) (hsm : cs.length * 72 ≤ 281474976710656) :
  Calls Tryz.prog 19 #[v] W fun e w' => e = .returned (.bool (mayB cs)) ∧ Below W.heap.size W w' := by
 obtain ⟨b, hb⟩ : ∃ b, b = mayB cs := ⟨_, rfl⟩
 rw [← hb]
 have AP := fun w' (hB : Below W.heap.size W w') (b : Bool) (hb : b = true ↔ (mvl cs).Nodup) => apart_any (hv.below hB) hsm b hb
 have IT := fun w' (hB : Below W.heap.size W w') hU (b : Bool) (hb : b = true ↔ Turn AhP cs cs.length) => inTurn_any (hv.below hB) hsm hU b hb
 obtain ⟨a, cap, rfl, hcap⟩ := hv.form
 obtain ⟨n, hn⟩ : ∃ n, n = cs.length := ⟨_, rfl⟩
 rw [← hn] at hsm hcap AP ⊢
 replace IT : Hid (∀ w', Below W.heap.size W w' → Up cs cs.length → ∀ b : Bool, (b = true ↔ Turn AhP cs cs.length) → Calls Tryz.prog 33 #[.slice a n cap] w' fun e w'' => e = .returned (.bool b) ∧ Below w'.heap.size w' w'') := by rw [hn]; exact IT
 replace hv := Mr.hid hv
 replace hb := Mr.hid hb
 replace hn := Mr.hid hn
 replace AP := Mr.hid AP
 go_enter Tryz.func19, Tryz.ntmps19
 go_wp2
 go_loopg [7] n (fun k s7 wr => ∃ i : Nat, s7 = .int .i64 (i : Int) ∧ i + k = n ∧ Below W.heap.size W wr ∧ Up cs i)
 case atStart => exact ⟨0, rfl, by omega, Below.refl _ _, Up.zero _⟩
 case round =>
  obtain ⟨i, rfl, hi, hB, hU⟩ := hrel
  by_cases hlt : i < n
  ·clear AP IT
   obtain ⟨c, hci⟩ := get_of_lt (cs := cs) (i := i) (by have := hn.out; omega)
   obtain ⟨bc, oc, rfl, A9⟩ := call_at (hv.out.below hB) hci
   have hBA := fun o => hB.alloc hB.size o
   have hbx : ∀ w1, w1 = wr.alloc (cqO c) → w1.heap[wr.heap.size]? = some (cqO c) := by rintro w1 rfl; exact new_at _ _ _ rfl
   obtain ⟨hbl, g0, g1, g2, g3, g4, g5, g6, g7, g8⟩ := A9
   have hlI : (i : Int) < (n : Int) := by omega
   replace hBA := Mr.hid hBA
   replace hbx := Mr.hid hbx
   replace hU := Mr.hid hU
   replace hci := Mr.hid hci
   clear hB
   go_upto_region 4 with (fail)
   have hB5 := hBA.out (cqO c)
   have hX := hbx.out _ rfl
   unfold cqO at hB5 hX
   clear hBA hbx g0 g1 g2 g3 g4 g5 g6 g7 g8 hbl
   generalize (wr.alloc (Obj.cells #[.int .i64 c.th, .int .i64 c.op, .int .i64 c.arg, .int .i64 c.data, .int .i64 c.beg, .int .i64 c.fin, .int .i64 c.pt, .int .i64 c.ak, .int .i64 c.av] 30 (0, 0))) = w5 at *
   generalize wr.heap.size = bx at *
   clear wr
   obtain ⟨k0, k1, k2, k3, k4, k5, k6, k7, k8, kl⟩ := cq_cells (c := c) hX
   have MA := fun w => mayAlone_any c w
   unfold Cq.val at MA
   have hw : IntKind.i64.wrap ((i : Int) + 1) = (i : Int) + 1 := i64x _ (by omega) (by omega)
   clear hX
   by_cases hf : Fit c
   ·rw [decide_eq_true hf] at MA
    replace MA := Mr.hid MA
    by_cases h0 : i = 0
    ·have hok := hU.out.succ hci.out hf (fun d h => by omega)
     subst h0
     have hz : decide ((0 : Int) < ((0 : Nat) : Int)) = false := by decide
     replace hok := Mr.hid hok
     replace hf := Mr.hid hf
     replace hB5 := Mr.hid hB5
     have KK : Hid (∀ w', Below w5.heap.size w5 w' → w'.cell? ⟨bx, 0, none⟩ = some (.int .i64 c.th) ∧ w'.cell? ⟨bx, 1, none⟩ = some (.int .i64 c.op) ∧ w'.cell? ⟨bx, 2, none⟩ = some (.int .i64 c.arg) ∧ w'.cell? ⟨bx, 3, none⟩ = some (.int .i64 c.data) ∧ w'.cell? ⟨bx, 4, none⟩ = some (.int .i64 c.beg) ∧ w'.cell? ⟨bx, 5, none⟩ = some (.int .i64 c.fin) ∧ w'.cell? ⟨bx, 6, none⟩ = some (.int .i64 c.pt) ∧ w'.cell? ⟨bx, 7, none⟩ = some (.int .i64 c.ak) ∧ w'.cell? ⟨bx, 8, none⟩ = some (.int .i64 c.av)) := fun w' hB => ⟨(hB.cell (p := ⟨bx, _, none⟩) kl).trans k0, (hB.cell (p := ⟨bx, _, none⟩) kl).trans k1, (hB.cell (p := ⟨bx, _, none⟩) kl).trans k2, (hB.cell (p := ⟨bx, _, none⟩) kl).trans k3, (hB.cell (p := ⟨bx, _, none⟩) kl).trans k4, (hB.cell (p := ⟨bx, _, none⟩) kl).trans k5, (hB.cell (p := ⟨bx, _, none⟩) kl).trans k6, (hB.cell (p := ⟨bx, _, none⟩) kl).trans k7, (hB.cell (p := ⟨bx, _, none⟩) kl).trans k8⟩
     refine wp_region_held_drew (S := (fun w' => w'.cell? ⟨bx, 0, none⟩ = some (.int .i64 c.th) ∧ w'.cell? ⟨bx, 1, none⟩ = some (.int .i64 c.op) ∧ w'.cell? ⟨bx, 2, none⟩ = some (.int .i64 c.arg) ∧ w'.cell? ⟨bx, 3, none⟩ = some (.int .i64 c.data) ∧ w'.cell? ⟨bx, 4, none⟩ = some (.int .i64 c.beg) ∧ w'.cell? ⟨bx, 5, none⟩ = some (.int .i64 c.fin) ∧ w'.cell? ⟨bx, 6, none⟩ = some (.int .i64 c.pt) ∧ w'.cell? ⟨bx, 7, none⟩ = some (.int .i64 c.ak) ∧ w'.cell? ⟨bx, 8, none⟩ = some (.int .i64 c.av))) (by kernel_rfl) (KK.out _ ((Below.refl _ _).drew)) (fun hS => ?_)
     try simp only [Act.put, LA, LB, LC, LD, LE, LF]
     refine wpAnyH_take (i := 0) (v := Value.agg #[.int .i64 c.th, .int .i64 c.op, .int .i64 c.arg, .int .i64 c.data, .int .i64 c.beg, .int .i64 c.fin, .int .i64 c.pt, .int .i64 c.ak, .int .i64 c.av]) rfl (by kernel_rfl) (by kernel_rfl) (by kernel_rfl) (fun _ _ _ h => h) (Or.inl ⟨by kernel_rfl, fun w' hw => ?y0⟩) hS ?_
     case y0 =>
      clear hS
      obtain ⟨hw0, hw1, hw2, hw3, hw4, hw5, hw6, hw7, hw8⟩ := hw
      go_simp
     try simp only [Act.put, LA, LB, LC, LD, LE, LF]
     refine wpAnyH_ready (rs := [1]) (by kernel_rfl) (by simp) ?_
     refine AllReadyH.cons rfl (fun K hK => ?_) AllReadyH.nil
     try simp only [Act.put, LA, LB, LC, LD, LE, LF]
     go_simp
     (go_at_call 31; refine (MA.out _).mono ?_; rintro e w6 ⟨rfl, hB6⟩; replace hB6 : Below w5.heap.size w5 w6 := ⟨hB6.os, hB6.tape, hB6.output, hB6.size, hB6.block⟩)
     try (go_wp2_with fail)
     refine hK.out _ _ (KK.out _ hB6) (fun hS => ?_)
     clear hK K
     try simp only [Act.put, LA, LB, LC, LD, LE, LF]
     refine wpAnyH_take (i := 2) (v := .bool false) rfl (by kernel_rfl) (by kernel_rfl) (by kernel_rfl) (fun _ _ _ h => h) (Or.inl ⟨by kernel_rfl, fun w' hw => ?y2⟩) hS ?_
     case y2 =>
      clear hS
      have hw2 := hw
      go_simp
     try simp only [Act.put, LA, LB, LC, LD, LE, LF]
     refine wpAnyH_take (i := 3) (v := .bool false) rfl (by kernel_rfl) (by kernel_rfl) (by kernel_rfl) (fun _ _ _ h => h) (Or.inl ⟨by kernel_rfl, fun w' hw => ?y3⟩) hS ?_
     case y3 =>
      clear hS
      have hw2 := hw
      go_simp
     try simp only [Act.put, LA, LB, LC, LD, LE, LF]
     refine wpAnyH_take (i := 4) (v := .int .i64 ((0 : Nat) : Int)) rfl (by kernel_rfl) (by kernel_rfl) (by kernel_rfl) (fun _ _ _ h => h) (Or.inl ⟨by kernel_rfl, fun w' hw => ?y4⟩) hS ?_
     case y4 =>
      clear hS
      have hw2 := hw
      go_simp
     try simp only [Act.put, LA, LB, LC, LD, LE, LF]
     refine wpAnyH_take (i := 5) (v := .bool false) rfl (by kernel_rfl) (by kernel_rfl) (by kernel_rfl) (fun _ _ _ h => h) (Or.inl ⟨by kernel_rfl, fun w' hw => ?y5⟩) hS ?_
     case y5 =>
      clear hS
      have hw2 := hw
      go_simp
     try simp only [Act.put, LA, LB, LC, LD, LE, LF]
     refine wpAnyH_take (i := 6) (v := .bool false) rfl (by kernel_rfl) (by kernel_rfl) (by kernel_rfl) (fun _ _ _ h => h) (Or.inl ⟨by kernel_rfl, fun w' hw => ?y6⟩) hS ?_
     case y6 =>
      clear hS
      have hw2 := hw
      go_simp
     try simp only [Act.put, LA, LB, LC, LD, LE, LF]
     refine wpAnyH_take (i := 7) (v := undef) rfl (by kernel_rfl) (by kernel_rfl) (by kernel_rfl) (fun _ _ _ h => h) (Or.inr ⟨by kernel_rfl, rfl⟩) hS ?_
     try simp only [Act.put, LA, LB, LC, LD, LE, LF]
     refine wpAnyH_take (i := 8) (v := undef) rfl (by kernel_rfl) (by kernel_rfl) (by kernel_rfl) (fun _ _ _ h => h) (Or.inr ⟨by kernel_rfl, rfl⟩) hS ?_
     try simp only [Act.put, LA, LB, LC, LD, LE, LF]
     refine wpAnyH_take (i := 9) (v := undef) rfl (by kernel_rfl) (by kernel_rfl) (by kernel_rfl) (fun _ _ _ h => h) (Or.inr ⟨by kernel_rfl, rfl⟩) hS ?_
     try simp only [Act.put, LA, LB, LC, LD, LE, LF]
     refine wpAnyH_take (i := 10) (v := undef) rfl (by kernel_rfl) (by kernel_rfl) (by kernel_rfl) (fun _ _ _ h => h) (Or.inr ⟨by kernel_rfl, rfl⟩) hS ?_
     try simp only [Act.put, LA, LB, LC, LD, LE, LF]
     refine wpAnyH_take (i := 11) (v := undef) rfl (by kernel_rfl) (by kernel_rfl) (by kernel_rfl) (fun _ _ _ h => h) (Or.inr ⟨by kernel_rfl, rfl⟩) hS ?_
     try simp only [Act.put, LA, LB, LC, LD, LE, LF]
     refine wpAnyH_take (i := 12) (v := undef) rfl (by kernel_rfl) (by kernel_rfl) (by kernel_rfl) (fun _ _ _ h => h) (Or.inr ⟨by kernel_rfl, rfl⟩) hS ?_
     try simp only [Act.put, LA, LB, LC, LD, LE, LF]
     refine wpAnyH_take (i := 13) (v := undef) rfl (by kernel_rfl) (by kernel_rfl) (by kernel_rfl) (fun _ _ _ h => h) (Or.inr ⟨by kernel_rfl, rfl⟩) hS ?_
     try simp only [Act.put, LA, LB, LC, LD, LE, LF]
     refine wpAnyH_take (i := 14) (v := undef) rfl (by kernel_rfl) (by kernel_rfl) (by kernel_rfl) (fun _ _ _ h => h) (Or.inr ⟨by kernel_rfl, rfl⟩) hS ?_
     try simp only [Act.put, LA, LB, LC, LD, LE, LF]
     refine wpAnyH_take (i := 15) (v := undef) rfl (by kernel_rfl) (by kernel_rfl) (by kernel_rfl) (fun _ _ _ h => h) (Or.inr ⟨by kernel_rfl, rfl⟩) hS ?_
     try simp only [Act.put, LA, LB, LC, LD, LE, LF]
     refine wpAnyH_take (i := 16) (v := .bool false) rfl (by kernel_rfl) (by kernel_rfl) (by kernel_rfl) (fun _ _ _ h => h) (Or.inl ⟨by kernel_rfl, fun w' hw => ?y16⟩) hS ?_
     case y16 =>
      clear hS
      have hw2 := hw
      go_simp
     try simp only [Act.put, LA, LB, LC, LD, LE, LF]
     refine wpAnyH_take (i := 17) (v := .bool false) rfl (by kernel_rfl) (by kernel_rfl) (by kernel_rfl) (fun _ _ _ h => h) (Or.inl ⟨by kernel_rfl, fun w' hw => ?y17⟩) hS ?_
     case y17 =>
      clear hS
      have hw2 := hw
      go_simp
     try simp only [Act.put, LA, LB, LC, LD, LE, LF]
     refine wpAnyH_done (by kernel_rfl) ?_ _
     all_goals
      have hB7 := Mr.hid (hB5.out.trans (hB6.mono hB5.out.size))
      clear KK MA k0 k1 k2 k3 k4 k5 k6 k7 k8
      go_wp2
      go_roundg (gk - 1)
      case measure => omega
      case rel => exact ⟨0 + 1, by simp, by omega, hB7.out, hok.out⟩
    ·obtain ⟨m, rfl⟩ : ∃ m, i = m + 1 := ⟨i - 1, by omega⟩
     obtain ⟨d, hdm⟩ := get_of_lt (cs := cs) (i := m) (by have := hn.out; omega)
     obtain ⟨bc', oc', hbo, A9⟩ := call_at (hv.out.below hB5) hdm
     cases hbo
     obtain ⟨hbl, -, -, -, -, d4, -, -, -, -⟩ := A9
     have hmw2 : IntKind.i64.wrap (m : Int) = (m : Int) := i64x _ (by omega) (by omega)
     have hmw3 : IntKind.i64.wrap ((m : Int) + 1 - 1) = (m : Int) := by rw [show (m : Int) + 1 - 1 = (m : Int) from by omega]; exact i64x _ (by omega) (by omega)
     have hm3 : (0 : Int) < (m : Int) + 1 := by omega
     have hm1 : (0 : Int) ≤ (m : Int) := by omega
     have hm2 : (m : Int) < (n : Int) := by omega
     have hm4 : (0 : Int) < ((m + 1 : Nat) : Int) := by omega
     replace hB5 := Mr.hid hB5
     by_cases hr : d.beg < c.beg
     ·have hok := hU.out.succ hci.out hf (fun d' h hd' => by rw [Nat.add_sub_cancel, hdm] at hd'; cases hd'; exact hr)
      have hz : decide (c.beg ≤ d.beg) = false := decide_eq_false (by omega)
      replace hok := Mr.hid hok
      replace hf := Mr.hid hf
      replace hr := Mr.hid hr
      replace hdm := Mr.hid hdm
      have KK : Hid (∀ w', Below w5.heap.size w5 w' → w'.cell? ⟨bx, 0, none⟩ = some (.int .i64 c.th) ∧ w'.cell? ⟨bx, 1, none⟩ = some (.int .i64 c.op) ∧ w'.cell? ⟨bx, 2, none⟩ = some (.int .i64 c.arg) ∧ w'.cell? ⟨bx, 3, none⟩ = some (.int .i64 c.data) ∧ w'.cell? ⟨bx, 4, none⟩ = some (.int .i64 c.beg) ∧ w'.cell? ⟨bx, 5, none⟩ = some (.int .i64 c.fin) ∧ w'.cell? ⟨bx, 6, none⟩ = some (.int .i64 c.pt) ∧ w'.cell? ⟨bx, 7, none⟩ = some (.int .i64 c.ak) ∧ w'.cell? ⟨bx, 8, none⟩ = some (.int .i64 c.av) ∧ w'.cell? ⟨bc, oc + m * 9 + 4, none⟩ = some (.int .i64 d.beg)) := fun w' hB => ⟨(hB.cell (p := ⟨bx, _, none⟩) kl).trans k0, (hB.cell (p := ⟨bx, _, none⟩) kl).trans k1, (hB.cell (p := ⟨bx, _, none⟩) kl).trans k2, (hB.cell (p := ⟨bx, _, none⟩) kl).trans k3, (hB.cell (p := ⟨bx, _, none⟩) kl).trans k4, (hB.cell (p := ⟨bx, _, none⟩) kl).trans k5, (hB.cell (p := ⟨bx, _, none⟩) kl).trans k6, (hB.cell (p := ⟨bx, _, none⟩) kl).trans k7, (hB.cell (p := ⟨bx, _, none⟩) kl).trans k8, (hB.cell (p := ⟨bc, _, none⟩) hbl).trans d4⟩
      go_region_held3 (fun w' => w'.cell? ⟨bx, 0, none⟩ = some (.int .i64 c.th) ∧ w'.cell? ⟨bx, 1, none⟩ = some (.int .i64 c.op) ∧ w'.cell? ⟨bx, 2, none⟩ = some (.int .i64 c.arg) ∧ w'.cell? ⟨bx, 3, none⟩ = some (.int .i64 c.data) ∧ w'.cell? ⟨bx, 4, none⟩ = some (.int .i64 c.beg) ∧ w'.cell? ⟨bx, 5, none⟩ = some (.int .i64 c.fin) ∧ w'.cell? ⟨bx, 6, none⟩ = some (.int .i64 c.pt) ∧ w'.cell? ⟨bx, 7, none⟩ = some (.int .i64 c.ak) ∧ w'.cell? ⟨bx, 8, none⟩ = some (.int .i64 c.av) ∧ w'.cell? ⟨bc, oc + m * 9 + 4, none⟩ = some (.int .i64 d.beg)) (first | exact KK.out _ (by assumption) | go_keep) (first | (go_at_call 31; refine (MA.out _).mono ?_; rintro e w6 ⟨rfl, hB6⟩; replace hB6 : Below w5.heap.size w5 w6 := ⟨hB6.os, hB6.tape, hB6.output, hB6.size, hB6.block⟩))
      all_goals
       have hB7 := Mr.hid (hB5.out.trans (hB6.mono hB5.out.size))
       clear KK MA k0 k1 k2 k3 k4 k5 k6 k7 k8
       go_wp2
       go_roundg (gk - 1)
       case measure => omega
       case rel => exact ⟨m + 1 + 1, by simp, by omega, hB7.out, hok.out⟩
     ·have hbf : b = false := by rw [hb.out]; exact mayB_false (not_may_rise hci.out hdm hr)
      have hz : decide (c.beg ≤ d.beg) = true := decide_eq_true (by omega)
      subst hbf
      replace hf := Mr.hid hf
      replace hr := Mr.hid hr
      replace hdm := Mr.hid hdm
      have KK : Hid (∀ w', Below w5.heap.size w5 w' → w'.cell? ⟨bx, 0, none⟩ = some (.int .i64 c.th) ∧ w'.cell? ⟨bx, 1, none⟩ = some (.int .i64 c.op) ∧ w'.cell? ⟨bx, 2, none⟩ = some (.int .i64 c.arg) ∧ w'.cell? ⟨bx, 3, none⟩ = some (.int .i64 c.data) ∧ w'.cell? ⟨bx, 4, none⟩ = some (.int .i64 c.beg) ∧ w'.cell? ⟨bx, 5, none⟩ = some (.int .i64 c.fin) ∧ w'.cell? ⟨bx, 6, none⟩ = some (.int .i64 c.pt) ∧ w'.cell? ⟨bx, 7, none⟩ = some (.int .i64 c.ak) ∧ w'.cell? ⟨bx, 8, none⟩ = some (.int .i64 c.av) ∧ w'.cell? ⟨bc, oc + m * 9 + 4, none⟩ = some (.int .i64 d.beg)) := fun w' hB => ⟨(hB.cell (p := ⟨bx, _, none⟩) kl).trans k0, (hB.cell (p := ⟨bx, _, none⟩) kl).trans k1, (hB.cell (p := ⟨bx, _, none⟩) kl).trans k2, (hB.cell (p := ⟨bx, _, none⟩) kl).trans k3, (hB.cell (p := ⟨bx, _, none⟩) kl).trans k4, (hB.cell (p := ⟨bx, _, none⟩) kl).trans k5, (hB.cell (p := ⟨bx, _, none⟩) kl).trans k6, (hB.cell (p := ⟨bx, _, none⟩) kl).trans k7, (hB.cell (p := ⟨bx, _, none⟩) kl).trans k8, (hB.cell (p := ⟨bc, _, none⟩) hbl).trans d4⟩
      go_region_held3 (fun w' => w'.cell? ⟨bx, 0, none⟩ = some (.int .i64 c.th) ∧ w'.cell? ⟨bx, 1, none⟩ = some (.int .i64 c.op) ∧ w'.cell? ⟨bx, 2, none⟩ = some (.int .i64 c.arg) ∧ w'.cell? ⟨bx, 3, none⟩ = some (.int .i64 c.data) ∧ w'.cell? ⟨bx, 4, none⟩ = some (.int .i64 c.beg) ∧ w'.cell? ⟨bx, 5, none⟩ = some (.int .i64 c.fin) ∧ w'.cell? ⟨bx, 6, none⟩ = some (.int .i64 c.pt) ∧ w'.cell? ⟨bx, 7, none⟩ = some (.int .i64 c.ak) ∧ w'.cell? ⟨bx, 8, none⟩ = some (.int .i64 c.av) ∧ w'.cell? ⟨bc, oc + m * 9 + 4, none⟩ = some (.int .i64 d.beg)) (first | exact KK.out _ (by assumption) | go_keep) (first | (go_at_call 31; refine (MA.out _).mono ?_; rintro e w6 ⟨rfl, hB6⟩; replace hB6 : Below w5.heap.size w5 w6 := ⟨hB6.os, hB6.tape, hB6.output, hB6.size, hB6.block⟩))
      all_goals
       have hB7 := Mr.hid (hB5.out.trans (hB6.mono hB5.out.size))
       clear KK MA k0 k1 k2 k3 k4 k5 k6 k7 k8
       go_wp2
       go_ret
       exact ⟨rfl, hB7.out⟩
   ·rw [decide_eq_false hf] at MA
    have hbf : b = false := by rw [hb.out]; exact mayB_false (not_may_up hci.out hf)
    subst hbf
    replace MA := Mr.hid MA
    replace hf := Mr.hid hf
    replace hB5 := Mr.hid hB5
    have KK : Hid (∀ w', Below w5.heap.size w5 w' → w'.cell? ⟨bx, 0, none⟩ = some (.int .i64 c.th) ∧ w'.cell? ⟨bx, 1, none⟩ = some (.int .i64 c.op) ∧ w'.cell? ⟨bx, 2, none⟩ = some (.int .i64 c.arg) ∧ w'.cell? ⟨bx, 3, none⟩ = some (.int .i64 c.data) ∧ w'.cell? ⟨bx, 4, none⟩ = some (.int .i64 c.beg) ∧ w'.cell? ⟨bx, 5, none⟩ = some (.int .i64 c.fin) ∧ w'.cell? ⟨bx, 6, none⟩ = some (.int .i64 c.pt) ∧ w'.cell? ⟨bx, 7, none⟩ = some (.int .i64 c.ak) ∧ w'.cell? ⟨bx, 8, none⟩ = some (.int .i64 c.av)) := fun w' hB => ⟨(hB.cell (p := ⟨bx, _, none⟩) kl).trans k0, (hB.cell (p := ⟨bx, _, none⟩) kl).trans k1, (hB.cell (p := ⟨bx, _, none⟩) kl).trans k2, (hB.cell (p := ⟨bx, _, none⟩) kl).trans k3, (hB.cell (p := ⟨bx, _, none⟩) kl).trans k4, (hB.cell (p := ⟨bx, _, none⟩) kl).trans k5, (hB.cell (p := ⟨bx, _, none⟩) kl).trans k6, (hB.cell (p := ⟨bx, _, none⟩) kl).trans k7, (hB.cell (p := ⟨bx, _, none⟩) kl).trans k8⟩
    refine wp_region_held_drew (S := (fun w' => w'.cell? ⟨bx, 0, none⟩ = some (.int .i64 c.th) ∧ w'.cell? ⟨bx, 1, none⟩ = some (.int .i64 c.op) ∧ w'.cell? ⟨bx, 2, none⟩ = some (.int .i64 c.arg) ∧ w'.cell? ⟨bx, 3, none⟩ = some (.int .i64 c.data) ∧ w'.cell? ⟨bx, 4, none⟩ = some (.int .i64 c.beg) ∧ w'.cell? ⟨bx, 5, none⟩ = some (.int .i64 c.fin) ∧ w'.cell? ⟨bx, 6, none⟩ = some (.int .i64 c.pt) ∧ w'.cell? ⟨bx, 7, none⟩ = some (.int .i64 c.ak) ∧ w'.cell? ⟨bx, 8, none⟩ = some (.int .i64 c.av))) (by kernel_rfl) (KK.out _ ((Below.refl _ _).drew)) (fun hS => ?_)
    try simp only [Act.put, LA, LB, LC, LD, LE, LF]
    refine wpAnyH_take (i := 0) (v := Value.agg #[.int .i64 c.th, .int .i64 c.op, .int .i64 c.arg, .int .i64 c.data, .int .i64 c.beg, .int .i64 c.fin, .int .i64 c.pt, .int .i64 c.ak, .int .i64 c.av]) rfl (by kernel_rfl) (by kernel_rfl) (by kernel_rfl) (fun _ _ _ h => h) (Or.inl ⟨by kernel_rfl, fun w' hw => ?y0⟩) hS ?_
    case y0 =>
     clear hS
     obtain ⟨hw0, hw1, hw2, hw3, hw4, hw5, hw6, hw7, hw8⟩ := hw
     go_simp
    try simp only [Act.put, LA, LB, LC, LD, LE, LF]
    refine wpAnyH_ready (rs := [1]) (by kernel_rfl) (by simp) ?_
    refine AllReadyH.cons rfl (fun K hK => ?_) AllReadyH.nil
    try simp only [Act.put, LA, LB, LC, LD, LE, LF]
    go_simp
    (go_at_call 31; refine (MA.out _).mono ?_; rintro e w6 ⟨rfl, hB6⟩; replace hB6 : Below w5.heap.size w5 w6 := ⟨hB6.os, hB6.tape, hB6.output, hB6.size, hB6.block⟩)
    try (go_wp2_with fail)
    refine hK.out _ _ (KK.out _ hB6) (fun hS => ?_)
    clear hK K
    try simp only [Act.put, LA, LB, LC, LD, LE, LF]
    refine wpAnyH_take (i := 2) (v := .bool true) rfl (by kernel_rfl) (by kernel_rfl) (by kernel_rfl) (fun _ _ _ h => h) (Or.inl ⟨by kernel_rfl, fun w' hw => ?y2⟩) hS ?_
    case y2 =>
     clear hS
     have hw2 := hw
     go_simp
    try simp only [Act.put, LA, LB, LC, LD, LE, LF]
    refine wpAnyH_take (i := 3) (v := .bool true) rfl (by kernel_rfl) (by kernel_rfl) (by kernel_rfl) (fun _ _ _ h => h) (Or.inl ⟨by kernel_rfl, fun w' hw => ?y3⟩) hS ?_
    case y3 =>
     clear hS
     have hw2 := hw
     go_simp
    try simp only [Act.put, LA, LB, LC, LD, LE, LF]
    refine wpAnyH_take (i := 4) (v := undef) rfl (by kernel_rfl) (by kernel_rfl) (by kernel_rfl) (fun _ _ _ h => h) (Or.inr ⟨by kernel_rfl, rfl⟩) hS ?_
    try simp only [Act.put, LA, LB, LC, LD, LE, LF]
    refine wpAnyH_take (i := 5) (v := undef) rfl (by kernel_rfl) (by kernel_rfl) (by kernel_rfl) (fun _ _ _ h => h) (Or.inr ⟨by kernel_rfl, rfl⟩) hS ?_
    try simp only [Act.put, LA, LB, LC, LD, LE, LF]
    refine wpAnyH_take (i := 6) (v := undef) rfl (by kernel_rfl) (by kernel_rfl) (by kernel_rfl) (fun _ _ _ h => h) (Or.inr ⟨by kernel_rfl, rfl⟩) hS ?_
    try simp only [Act.put, LA, LB, LC, LD, LE, LF]
    refine wpAnyH_take (i := 7) (v := undef) rfl (by kernel_rfl) (by kernel_rfl) (by kernel_rfl) (fun _ _ _ h => h) (Or.inr ⟨by kernel_rfl, rfl⟩) hS ?_
    try simp only [Act.put, LA, LB, LC, LD, LE, LF]
    refine wpAnyH_take (i := 8) (v := undef) rfl (by kernel_rfl) (by kernel_rfl) (by kernel_rfl) (fun _ _ _ h => h) (Or.inr ⟨by kernel_rfl, rfl⟩) hS ?_
    try simp only [Act.put, LA, LB, LC, LD, LE, LF]
    refine wpAnyH_take (i := 9) (v := undef) rfl (by kernel_rfl) (by kernel_rfl) (by kernel_rfl) (fun _ _ _ h => h) (Or.inr ⟨by kernel_rfl, rfl⟩) hS ?_
    try simp only [Act.put, LA, LB, LC, LD, LE, LF]
    refine wpAnyH_take (i := 10) (v := undef) rfl (by kernel_rfl) (by kernel_rfl) (by kernel_rfl) (fun _ _ _ h => h) (Or.inr ⟨by kernel_rfl, rfl⟩) hS ?_
    try simp only [Act.put, LA, LB, LC, LD, LE, LF]
    refine wpAnyH_take (i := 11) (v := undef) rfl (by kernel_rfl) (by kernel_rfl) (by kernel_rfl) (fun _ _ _ h => h) (Or.inr ⟨by kernel_rfl, rfl⟩) hS ?_
    try simp only [Act.put, LA, LB, LC, LD, LE, LF]
    refine wpAnyH_take (i := 12) (v := undef) rfl (by kernel_rfl) (by kernel_rfl) (by kernel_rfl) (fun _ _ _ h => h) (Or.inr ⟨by kernel_rfl, rfl⟩) hS ?_
    try simp only [Act.put, LA, LB, LC, LD, LE, LF]
    refine wpAnyH_take (i := 13) (v := undef) rfl (by kernel_rfl) (by kernel_rfl) (by kernel_rfl) (fun _ _ _ h => h) (Or.inr ⟨by kernel_rfl, rfl⟩) hS ?_
    try simp only [Act.put, LA, LB, LC, LD, LE, LF]
    refine wpAnyH_take (i := 14) (v := undef) rfl (by kernel_rfl) (by kernel_rfl) (by kernel_rfl) (fun _ _ _ h => h) (Or.inr ⟨by kernel_rfl, rfl⟩) hS ?_
    try simp only [Act.put, LA, LB, LC, LD, LE, LF]
    refine wpAnyH_take (i := 15) (v := undef) rfl (by kernel_rfl) (by kernel_rfl) (by kernel_rfl) (fun _ _ _ h => h) (Or.inr ⟨by kernel_rfl, rfl⟩) hS ?_
    try simp only [Act.put, LA, LB, LC, LD, LE, LF]
    refine wpAnyH_take (i := 16) (v := undef) rfl (by kernel_rfl) (by kernel_rfl) (by kernel_rfl) (fun _ _ _ h => h) (Or.inr ⟨by kernel_rfl, rfl⟩) hS ?_
    try simp only [Act.put, LA, LB, LC, LD, LE, LF]
    refine wpAnyH_take (i := 17) (v := .bool true) rfl (by kernel_rfl) (by kernel_rfl) (by kernel_rfl) (fun _ _ _ h => h) (Or.inl ⟨by kernel_rfl, fun w' hw => ?y17⟩) hS ?_
    case y17 =>
     clear hS
     have hw2 := hw
     go_simp
    try simp only [Act.put, LA, LB, LC, LD, LE, LF]
    refine wpAnyH_done (by kernel_rfl) ?_ _
    all_goals
     have hB7 := Mr.hid (hB5.out.trans (hB6.mono hB5.out.size))
     clear KK MA k0 k1 k2 k3 k4 k5 k6 k7 k8
     go_wp2
     go_ret
     exact ⟨rfl, hB7.out⟩
  ·have hin : i = cs.length := by have := hn.out; omega
   rw [hin] at hU
   have dl : decide ((i : Int) < (n : Int)) = false := decide_eq_false (by omega)
   replace hB := Mr.hid hB
   by_cases hA : (mvl cs).Nodup
   ·have A1 := fun w' hB => AP.out w' hB true (by simp [hA])
    by_cases hT : Turn AhP cs cs.length
    ·have hbt : b = true := by rw [hb.out]; exact mayB_true ⟨hU, (apart_mvl hU).1 hA, hT⟩
     have I1 := fun w' hB => IT.out w' hB hU true (by simp [hT])
     subst hbt
     clear AP IT
     replace A1 := Mr.hid A1
     replace I1 := Mr.hid I1
     replace hA := Mr.hid hA
     replace hT := Mr.hid hT
     replace hU := Mr.hid hU
     go_wp2_with (first
      | (go_at_call 32; refine (A1.out _ hB.out).mono ?_; clear A1; rintro e w2 ⟨rfl, hB2⟩; replace hB2 := Mr.hid (hB.out.trans (hB2.mono hB.out.size)))
      | (go_at_call 33; refine (I1.out _ hB2.out).mono ?_; clear I1; rintro e w3 ⟨rfl, hB3⟩; replace hB3 := Mr.hid (hB2.out.trans (hB3.mono hB2.out.size))))
     go_ret
     exact ⟨rfl, hB3.out⟩
    ·have hbt : b = false := by rw [hb.out]; exact mayB_false (fun h => hT h.2.2)
     have I1 := fun w' hB => IT.out w' hB hU false (by simp [hT])
     subst hbt
     clear AP IT
     replace A1 := Mr.hid A1
     replace I1 := Mr.hid I1
     replace hA := Mr.hid hA
     replace hT := Mr.hid hT
     replace hU := Mr.hid hU
     go_wp2_with (first
      | (go_at_call 32; refine (A1.out _ hB.out).mono ?_; clear A1; rintro e w2 ⟨rfl, hB2⟩; replace hB2 := Mr.hid (hB.out.trans (hB2.mono hB.out.size)))
      | (go_at_call 33; refine (I1.out _ hB2.out).mono ?_; clear I1; rintro e w3 ⟨rfl, hB3⟩; replace hB3 := Mr.hid (hB2.out.trans (hB3.mono hB2.out.size))))
     go_ret
     exact ⟨rfl, hB3.out⟩
   ·have A1 := fun w' hB => AP.out w' hB false (by simp [hA])
    have hbt : b = false := by rw [hb.out]; exact mayB_false (fun h => hA ((apart_mvl hU).2 h.2.1))
    subst hbt
    clear AP IT
    replace A1 := Mr.hid A1
    replace hA := Mr.hid hA
    replace hU := Mr.hid hU
    go_wp2_with (first
     | (go_at_call 32; refine (A1.out _ hB.out).mono ?_; clear A1; rintro e w2 ⟨rfl, hB2⟩; replace hB2 := Mr.hid (hB.out.trans (hB2.mono hB.out.size))))
    go_ret
    exact ⟨rfl, hB2.out⟩
end Go.Proofs.YtecldhngggkjjaaGreat.Wt
