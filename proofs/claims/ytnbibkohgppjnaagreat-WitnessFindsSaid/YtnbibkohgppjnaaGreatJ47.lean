import Derived.Test.YtnbibkohgppjnaaGreatJ36
import Derived.Test.YtnbibkohgppjnaaGreatJ44
import Derived.Test.YtnbibkohgppjnaaGreatJ46
import Derived.Test.YtnbibkohgppjnaaGreatJ10
import Derived.Test.YtnbibkohgppjnaaGreatJ13
import Derived.Deep.LoopGhost
import Derived.BigQuiet
set_option linter.unusedVariables false
set_option linter.unusedSimpArgs false
set_option maxRecDepth 100000
namespace Go.Proofs.YtnbibkohgppjnaaGreat.Ws
open Md
def k0 : Cq := ⟨0, 30, 1, 0, 0, 9, 8, 1, 0⟩
def k1 : Cq := ⟨1, 31, 0, 0, 1, 3, 2, 3, 0⟩
def k2 : Cq := ⟨1, 31, 0, 0, 10, 14, 12, 2, 1⟩
def ks : List Cq := [k0, k1, k2]
theorem ks_get {i : Nat} {c : Cq} (h : ks[i]? = some c) : (i = 0 ∧ c = k0) ∨ (i = 1 ∧ c = k1) ∨ (i = 2 ∧ c = k2) := by
 match i with
 | 0 => left; simp [ks] at h; exact ⟨rfl, h.symm⟩
 | 1 => right; left; simp [ks] at h; exact ⟨rfl, h.symm⟩
 | 2 => right; right; simp [ks] at h; exact ⟨rfl, h.symm⟩
 | i + 3 => simp [ks] at h
theorem ks_may : Wt.MayC ks := by
 refine ⟨fun i hi => ⟨fun c hc => ?_, fun c d h0 hc hd => ?_⟩, fun i j c d x hc hd hx hy => ?_, fun i hi c d hc h0 hd => ?_⟩
 ·rcases ks_get hc with ⟨_, rfl⟩ | ⟨_, rfl⟩ | ⟨_, rfl⟩ <;> decide
 ·rcases ks_get hd with ⟨e, rfl⟩ | ⟨e, rfl⟩ | ⟨e, rfl⟩ <;> subst e
  ·omega
  ·rcases ks_get hc with ⟨e, rfl⟩ | ⟨e, rfl⟩ | ⟨e, rfl⟩ <;> first | omega | decide
  ·rcases ks_get hc with ⟨e, rfl⟩ | ⟨e, rfl⟩ | ⟨e, rfl⟩ <;> first | omega | decide
 ·have e0 : Wt.mvc k0 = [0, 9, 8] := by decide
  have e1 : Wt.mvc k1 = [1, 3, 2] := by decide
  have e2 : Wt.mvc k2 = [10, 14, 12] := by decide
  rcases ks_get hc with ⟨rfl, rfl⟩ | ⟨rfl, rfl⟩ | ⟨rfl, rfl⟩ <;> rcases ks_get hd with ⟨rfl, rfl⟩ | ⟨rfl, rfl⟩ | ⟨rfl, rfl⟩ <;> first | rfl | (simp only [e0, e1, e2, List.mem_cons, List.not_mem_nil, or_false] at hx hy; omega)
 ·have l0 : Wt.lastT ks 0 0 = 0 := by decide
  have l1 : Wt.lastT ks 1 1 = 0 := by decide
  have l2 : Wt.lastT ks 1 2 = 2 := by decide
  rcases ks_get hc with ⟨rfl, rfl⟩ | ⟨rfl, rfl⟩ | ⟨rfl, rfl⟩
  ·exact absurd h0 (by show ¬ 0 < Wt.lastT ks 0 0; rw [l0]; omega)
  ·exact absurd h0 (by show ¬ 0 < Wt.lastT ks 1 1; rw [l1]; omega)
  ·rw [show Wt.lastT ks k2.th 2 - 1 = 1 from by show Wt.lastT ks 1 2 - 1 = 1; rw [l2]] at hd
   simp [ks] at hd
   subst hd
   exact ⟨by decide, by decide⟩
theorem ks_mayB : Wt.mayB ks = true := Wt.mayB_true ks_may
theorem ks_err : errA ks = 0 := by
 unfold errA
 rw [ks_mayB]
 have : (scs ks).length = 3 := by decide
 simp [this]
theorem ks_cnt : cntA ks = 1 := by decide
theorem ks_find : (spc (scs ks)).lm 0 ct0 = some [1, 0, 2] := by decide
theorem ks_fnd : fndA ks = some [1, 0, 2] := by rw [fndA, ks_find]; decide
theorem ks_fit : ∀ c ∈ scs ks, Wt.Fit c := scs_fit ks_mayB
theorem ks_ok : ∃ x, Wt.Rs ks [1, 0, 2] 0 x := by
 have h := find_good ks_fit ks_find
 have e : nmo ks [1, 0, 2] = [1, 0, 2] := by decide
 rw [e] at h
 exact ⟨_, .ok ks_may h.1 h.2.1 h.2.2⟩
theorem ks_not : ∃ x, Wt.Rs ks [0, 1, 2] 123 x := by
 refine ⟨_, .answer ks_may ⟨⟨fun j x hj hx => ?_, by decide⟩, fun i c hi hc ho hf => ?_⟩ ?_ (fun h => ?_)⟩
 ·match j with
  | 0 => simp at hx; subst hx; exact ⟨by omega, k0, rfl, by decide⟩
  | 1 => simp at hx; subst hx; exact ⟨by omega, k1, rfl, by decide⟩
  | 2 => simp at hx; subst hx; exact ⟨by omega, k2, rfl, by decide⟩
  | j + 3 => simp at hj; omega
 ·rcases ks_get hc with ⟨rfl, _⟩ | ⟨rfl, _⟩ | ⟨rfl, _⟩ <;> decide
 ·rw [pair_int]
  have e : Wt.ordc ks [0, 1, 2] = [k0, k1, k2] := rfl
  rw [e]
  refine List.pairwise_cons.2 ⟨fun c hc => ?_, List.pairwise_cons.2 ⟨fun c hc => ?_, by simp⟩⟩
  ·simp at hc
   rcases hc with rfl | rfl <;> (rintro ⟨_, h⟩; revert h; decide)
  ·simp at hc
   rcases hc with rfl
   rintro ⟨_, h⟩; revert h; decide
 ·have h1 := h 1 (by decide) k1 rfl
  revert h1
  decide
end Go.Proofs.YtnbibkohgppjnaaGreat.Ws
namespace Go.Proofs.YtnbibkohgppjnaaGreat.Wt
def Up1 (l : List (Int × Int)) : Prop := l.Pairwise (fun a b => a.1 ≤ b.1)
theorem Up1.at {l : List (Int × Int)} (h : Up1 l) {i : Nat} {x : Int × Int} (hx : l[i]? = some x) : ∀ y ∈ l.drop i, x.1 ≤ y.1 := by
 intro y hy
 obtain ⟨k, hk⟩ := List.getElem?_of_mem hy
 rw [List.getElem?_drop] at hk
 obtain ⟨h1, rfl⟩ := List.getElem?_eq_some_iff.1 hx
 obtain ⟨h2, rfl⟩ := List.getElem?_eq_some_iff.1 hk
 by_cases e : k = 0
 ·subst e; simp
 ·exact (List.pairwise_iff_getElem.1 h) i (i + k) h1 h2 (by omega)
theorem drop_sub {α : Type} {l : List α} {i : Nat} {y : α} (h : y ∈ l.drop (i + 1)) : y ∈ l.drop i := by
 obtain ⟨k, hk⟩ := List.getElem?_of_mem h
 rw [List.getElem?_drop] at hk
 refine List.mem_of_getElem? (i := k + 1) ?_
 rw [List.getElem?_drop, show i + (k + 1) = i + 1 + k from by omega]; exact hk
theorem mem_drop_at {α : Type} {l : List α} {i : Nat} {x : α} (h : l[i]? = some x) : x ∈ l.drop i := by
 refine List.mem_of_getElem? (i := 0) ?_
 rw [List.getElem?_drop, Nat.add_zero]; exact h
structure Mg (a b m : List (Int × Int)) (i k : Nat) : Prop where
 perm : m.Perm (a.take i ++ b.take k)
 up : Up1 m
 low : ∀ x ∈ m, ∀ y, (y ∈ a.drop i ∨ y ∈ b.drop k) → x.1 ≤ y.1
theorem Mg.zero (a b : List (Int × Int)) : Mg a b [] 0 0 := ⟨by simp, List.Pairwise.nil, fun x hx => by simp at hx⟩
theorem Mg.len {a b m : List (Int × Int)} {i k : Nat} (h : Mg a b m i k) : m.length ≤ i + k := by
 have := h.perm.length_eq
 simp at this; omega
theorem Mg.left {a b m : List (Int × Int)} {i k : Nat} (h : Mg a b m i k) (ha : Up1 a) (hb : Up1 b) {x : Int × Int} (hx : a[i]? = some x) (hle : ∀ y, b[k]? = some y → x.1 ≤ y.1) : Mg a b (m ++ [x]) (i + 1) k := by
 refine ⟨?_, ?_, ?_⟩
 ·rw [List.take_add_one, hx]
  show (m ++ [x]).Perm (a.take i ++ [x] ++ b.take k)
  refine (List.Perm.append_right [x] h.perm).trans ?_
  rw [List.append_assoc, List.append_assoc]
  exact List.Perm.append_left _ List.perm_append_comm
 ·unfold Up1
  rw [List.pairwise_append]
  refine ⟨h.up, by simp, fun y hy z hz => ?_⟩
  simp at hz; subst hz
  exact h.low y hy z (.inl (mem_drop_at hx))
 ·intro z hz y hy
  rcases List.mem_append.1 hz with hz | hz
  ·exact h.low z hz y (hy.imp drop_sub id)
  ·simp at hz; subst hz
   rcases hy with hy | hy
   ·exact ha.at hx y (drop_sub hy)
   ·by_cases hk : k < b.length
    ·have hbk : b[k]? = some b[k] := List.getElem?_eq_getElem _
     exact Int.le_trans (hle _ hbk) (hb.at hbk y hy)
    ·rw [List.drop_of_length_le (by omega)] at hy; simp at hy
theorem Mg.swap {a b m : List (Int × Int)} {i k : Nat} (h : Mg a b m i k) : Mg b a m k i := ⟨h.perm.trans List.perm_append_comm, h.up, fun x hx y hy => h.low x hx y hy.symm⟩
theorem Mg.right {a b m : List (Int × Int)} {i k : Nat} (h : Mg a b m i k) (ha : Up1 a) (hb : Up1 b) {y : Int × Int} (hy : b[k]? = some y) (hle : ∀ x, a[i]? = some x → y.1 ≤ x.1) : Mg a b (m ++ [y]) i (k + 1) := (h.swap.left hb ha hy hle).swap
theorem Mg.done {a b m l : List (Int × Int)} {i k : Nat} (h : Mg a b m i k) (hi : ¬ i < a.length) (hk : ¬ k < b.length) {j : Nat} (ha : a.Perm (l.take j)) (hb : b.Perm (l.drop j)) : m.Perm l := by
 have := h.perm
 rw [List.take_of_length_le (by omega), List.take_of_length_le (by omega)] at this
 refine this.trans ((ha.append hb).trans ?_)
 rw [List.take_append_drop]
end Go.Proofs.YtnbibkohgppjnaaGreat.Wt
namespace Go.Proofs.YtnbibkohgppjnaaGreat.Wt
open Go.RowKit Mr Md
theorem wt_mark : (Tryz.prog.info? 98).map (fun i => (i.zero, i.size, i.bytes)) = some (some (.agg #[.int .i64 0, .int .i64 0]), 2, 16) := by kernel_rfl
theorem prs_app (a b : List (Int × Int)) : prs (a ++ b) = prs a ++ prs b := by simp [prs]
theorem prs_one (x : Int × Int) : prs [x] = pr x := by simp [prs]
theorem prs_at {l : List (Int × Int)} {i : Nat} {x : Int × Int} (h : l[i]? = some x) : (prs l)[i * 2]? = some (.int .i64 x.1) ∧ (prs l)[i * 2 + 1]? = some (.int .i64 x.2) := by
 have hi := (List.getElem?_eq_some_iff.1 h).1
 have := prs_get l i hi
 rwa [h] at this
theorem prs_take (l : List (Int × Int)) (j : Nat) : prs l = prs (l.take j) ++ prs (l.drop j) := by rw [← prs_app, List.take_append_drop]
theorem sl_take {W : World} {T : Nat → Prop} {g o cap : Nat} {l : List (Int × Int)} (h : Sl W T 2 (.slice (some ⟨g, o, none⟩) l.length cap) l.length (prs l)) {j : Nat} (hj : j ≤ l.length) (h0 : 0 < l.length) : Sl W T 2 (.slice (some ⟨g, o, none⟩) j cap) (l.take j).length (prs (l.take j)) := by
 obtain ⟨g', o', cap', hv, hc, hT, hl, hr⟩ := h.there h0
 cases hv
 have e : (l.take j).length = j := by simp; omega
 refine ⟨prs_length _, _, cap, by rw [e], by rw [e]; omega, .inr ⟨g, o, rfl, hT, hl, fun k u hu => ?_⟩⟩
 refine hr k u ?_
 rw [prs_take l j, List.getElem?_append_left (List.getElem?_eq_some_iff.1 hu).1]; exact hu
theorem sl_drop {W : World} {T : Nat → Prop} {g o cap : Nat} {l : List (Int × Int)} (h : Sl W T 2 (.slice (some ⟨g, o, none⟩) l.length cap) l.length (prs l)) {j : Nat} (hj : j ≤ l.length) (h0 : 0 < l.length) : Sl W T 2 (.slice (some ⟨g, o + j * 2, none⟩) (l.length - j) (cap - j)) (l.drop j).length (prs (l.drop j)) := by
 obtain ⟨g', o', cap', hv, hc, hT, hl, hr⟩ := h.there h0
 cases hv
 have e : (l.drop j).length = l.length - j := by simp
 refine ⟨prs_length _, _, cap - j, by rw [e], by rw [e]; omega, .inr ⟨g, o + j * 2, rfl, hT, hl, fun k u hu => ?_⟩⟩
 have e2 : (prs (l.take j)).length = j * 2 := by rw [prs_length]; simp; omega
 rw [Nat.add_assoc]
 refine hr (j * 2 + k) u ?_
 rw [prs_take l j, List.getElem?_append_right (by omega), e2, Nat.add_sub_cancel_left]; exact hu
theorem bytes_mono {a b : Nat} (h : a ≤ b) : (a + a / 4 + 192) * 16 ≤ (b + b / 4 + 192) * 16 := Nat.mul_le_mul_right _ (by omega)
theorem cell_drewN (w : World) (nq : Nat) (p : Addr) : (w.drewN nq).cell? p = w.cell? p := rfl
theorem new2 {w w1 : World} {x : Int × Int} {t : TypeId} (h1 : w1 = w.alloc (.cells #[.int .i64 x.1, .int .i64 x.2] t (0, 0))) : ∀ ad, some (⟨w.heap.size, 0, none⟩ : Addr) = some ad → ∀ j u, (pr x)[j]? = some u → w1.cell? (ad.add j) = some u := by
 rintro ad e j u hu
 cases e
 subst h1
 rw [add1, Nat.zero_add, cell_blk (new_at w _ _ rfl)]
 simpa [pr] using hu
structure Mw (W0 W w : World) (u : Value) (m : List (Int × Int)) : Prop where
 bel : Below W0.heap.size W0 w
 bel2 : Below W.heap.size W w
 own : Md.Own w (fun k => W.heap.size ≤ k) 98 2 u m.length (prs m)
theorem Mw.drew {W0 W w : World} {u : Value} {m : List (Int × Int)} (h : Mw W0 W w u m) (nq : Nat) : Mw W0 W (w.drewN nq) u m :=
 ⟨h.bel.trans (Bx.draws _ _ nq), h.bel2.trans (Bx.draws _ _ nq), h.own.below (Bx.draws _ _ nq)⟩
theorem Mw.app {W0 W w w1 w2 : World} {u u' : Value} {m : List (Int × Int)} {x : Int × Int} {o : Obj} (hW : W0.heap.size ≤ W.heap.size) (h : Mw W0 W w u m) (h1 : w1 = w.alloc o) (ho : Md.Own w2 (fun k => W.heap.size ≤ k ∨ k = w1.heap.size) 98 2 u' (m.length + 1) (prs m ++ pr x)) (hf : Fr w1 w2 (fun k => W.heap.size ≤ k)) : Mw W0 W w2 u' (m ++ [x]) := by
 have B1 : Below W.heap.size W w1 := by subst h1; exact h.bel2.alloc h.bel2.size _
 have B0 : Below W0.heap.size W0 w1 := by subst h1; exact h.bel.alloc h.bel.size _
 have e : prs m ++ pr x = prs (m ++ [x]) := by rw [prs_app, prs_one]
 rw [e] at ho
 refine ⟨⟨hf.os.trans B0.os, hf.tape.trans B0.tape, hf.output.trans B0.output, Nat.le_trans B0.size hf.size, fun k hk => (hf.block k (Nat.lt_of_lt_of_le hk B0.size) (by omega)).trans (B0.block k hk)⟩, ⟨hf.os.trans B1.os, hf.tape.trans B1.tape, hf.output.trans B1.output, Nat.le_trans B1.size hf.size, fun k hk => (hf.block k (Nat.lt_of_lt_of_le hk B1.size) (by omega)).trans (B1.block k hk)⟩, ?_⟩
 rw [List.length_append]
 exact ho.mono (fun k hk => by have := B1.size; omega)
set_option maxHeartbeats 8000000 in
theorem sorted_any : ∀ (N : Nat) {W : World} {T : Nat → Prop} {v : Value} {l : List (Int × Int)}, l.length ≤ N → Sl W T 2 v l.length (prs l) → (l.length + l.length / 4 + 192) * 16 ≤ 281474976710656 →
  Calls Tryz.prog 52 #[v] W fun e w' => ∃ v' l', e = .returned v' ∧ Sl w' (fun k => T k ∨ W.heap.size ≤ k) 2 v' l'.length (prs l') ∧ l'.Perm l ∧ Up1 l' ∧ Below W.heap.size W w' := by
 intro N
 induction N using Nat.strongRecOn with
 | ind N ih =>
  intro W0 T v l hN hv hsm
  by_cases h2 : l.length < 2
  ·have hup : Up1 l := by
    unfold Up1
    rw [List.pairwise_iff_getElem]
    intro i j hi hj hij
    omega
   obtain ⟨a, cap, rfl, hcap⟩ := hv.form
   obtain ⟨n, hn⟩ : ∃ n, n = l.length := ⟨_, rfl⟩
   rw [← hn]
   rw [← hn] at h2
   have hI2 : (n : Int) < 2 := by omega
   replace hn := Mr.hid hn
   replace hv := Mr.hid hv
   replace hup := Mr.hid hup
   clear ih
   go_enter Tryz.func52, Tryz.ntmps52
   go_wp2
   go_ret
   exact ⟨_, l, rfl, by have := hn.out; subst this; exact hv.out.mono (fun k hk => .inl hk), List.Perm.refl _, hup.out, Below.refl _ _⟩
  ·obtain ⟨i0, hi0, hz0, hz1, hz2⟩ := parts_of wt_mark
   obtain ⟨a, cap, rfl, hcap⟩ := hv.form
   obtain ⟨g, o, cap', hga, _, hTg, hgl, hr⟩ := hv.there (by omega)
   cases hga
   have C1 := fun w' (hB : Below W0.heap.size W0 w') => ih (l.length / 2) (by omega) (by simp; omega) ((sl_take hv (j := l.length / 2) (by omega) (by omega)).below hB) (Nat.le_trans (Nat.mul_le_mul_right _ (by simp; omega)) hsm)
   have C2 := fun w' (hB : Below W0.heap.size W0 w') => ih (l.length - l.length / 2) (by omega) (by simp) ((sl_drop hv (j := l.length / 2) (by omega) (by omega)).below hB) (Nat.le_trans (Nat.mul_le_mul_right _ (by simp; omega)) hsm)
   obtain ⟨n, hn⟩ : ∃ n, n = l.length := ⟨_, rfl⟩
   rw [← hn]
   rw [← hn] at hcap hsm h2 C1 C2
   have hI2 : decide ((n : Int) < 2) = false := decide_eq_false (by omega)
   have hnc : ¬ n / 2 = cap := by omega
   replace hv := Mr.hid hv
   replace hn := Mr.hid hn
   replace C1 := Mr.hid C1
   replace C2 := Mr.hid C2
   clear ih hr
   go_enter Tryz.func52, Tryz.ntmps52
   go_upto_region 4 with (go_at_call 52; refine (C1.out _ (Below.refl _ _)).mono ?_; clear C1; rintro e w1 ⟨va, la, rfl, hSa, hPa, hUa, hB1⟩; replace hSa := Mr.hid hSa; replace hPa := Mr.hid hPa; replace hUa := Mr.hid hUa; replace hB1 := Mr.hid hB1)
   go_upto_region 5 with (go_at_call 52; refine (C2.out _ hB1.out).mono ?_; clear C2; rintro e w2 ⟨vb, lb, rfl, hSb, hPb, hUb, hB2⟩; replace hSb := Mr.hid hSb; replace hPb := Mr.hid hPb; replace hUb := Mr.hid hUb; replace hB2 := Mr.hid hB2)
   have hSa2 := hSa.out.below hB2.out
   have hB02 := hB1.out.trans (hB2.out.mono hB1.out.size)
   obtain ⟨aa, ca, rfl, hca⟩ := hSa2.form
   obtain ⟨ab, cb, rfl, hcb⟩ := hSb.out.form
   have hla : la.length ≤ n := by rw [hPa.out.length_eq]; simp; omega
   have hlb : lb.length ≤ n := by rw [hPb.out.length_eq]; simp; have := hn.out; omega
   have hlab : la.length + lb.length = n := by rw [hPa.out.length_eq, hPb.out.length_eq]; simp; have := hn.out; omega
   replace hSa := Mr.hid hSa2
   clear hSa2
   have hW2 := Mr.hid hB02.size
   replace hB02 := Mr.hid hB02
   go_wp2
   go_loopg [5, 6, 7] n (fun q s5 s6 s7 wr => ∃ (i k : Nat) (m : List (Int × Int)), s6 = .int .i64 (i : Int) ∧ s7 = .int .i64 (k : Int) ∧ i + k + q = n ∧ i ≤ la.length ∧ k ≤ lb.length ∧ Mg la lb m i k ∧ Mw W0 w2 wr s5 m)
   case atStart => exact ⟨0, 0, [], rfl, rfl, by omega, by omega, by omega, Mg.zero _ _, hB02.out, Below.refl _ _, Md.Own.zero _ _ _ _ _⟩
   case round =>
    obtain ⟨i, k, m, rfl, rfl, hq, hia, hkb, hM, hw⟩ := hrel
    obtain ⟨u, cu, rfl, hcu, hcm⟩ := hw.own.form
    have hml := hM.len
    by_cases hk : k < lb.length
    ·obtain ⟨y, hy⟩ : ∃ y, lb[k]? = some y := ⟨lb[k], List.getElem?_eq_getElem _⟩
     obtain ⟨gb, ob, cb2, hgb, _, _, hglb, hrb⟩ := (hSb.out.below hw.bel2).there (by omega)
     cases hgb
     have kb0 := hrb _ _ (prs_at hy).1
     have kb1 := hrb _ _ (prs_at hy).2
     rw [← Nat.add_assoc] at kb1
     clear hrb
     have f1 : (k : Int) < (lb.length : Int) := by omega
     have f2 : ((k : Int) == (lb.length : Int)) = false := by simp; omega
     by_cases hi : i < la.length
     ·obtain ⟨x, hx⟩ : ∃ x, la[i]? = some x := ⟨la[i], List.getElem?_eq_getElem _⟩
      obtain ⟨ga, oa, ca2, hga, _, _, hgla, hra⟩ := (hSa.out.below hw.bel2).there (by omega)
      cases hga
      have ka0 := hra _ _ (prs_at hx).1
      have ka1 := hra _ _ (prs_at hx).2
      rw [← Nat.add_assoc] at ka1
      clear hra
      have f3 : (i : Int) < (la.length : Int) := by omega
      by_cases hle : x.1 ≤ y.1
      ·have hMn := Mr.hid (hM.left hUa.out hUb.out hx (fun y2 hy2 => by rw [hy] at hy2; cases hy2; exact hle))
       have f4 : decide (x.1 ≤ y.1) = true := decide_eq_true hle
       replace hM := Mr.hid hM
       replace hx := Mr.hid hx
       replace hy := Mr.hid hy
       replace hle := Mr.hid hle
       have hm1 : m.length + 1 ≤ n := by clear hsm; omega
       have hby := Mr.hid (Nat.le_trans (bytes_mono hm1) hsm)
       have hmx := Mr.hid (show m.length + 1 ≤ maxLen by unfold maxLen; omega)
       replace hw := Mr.hid hw
       go_wp2
       go_quiet (fail)
       replace hw := Mr.hid (hw.out.drew nq)
       rw [← cell_drewN wr nq] at ka0
       rw [← cell_drewN wr nq] at ka1
       rw [← cell_drewN wr nq] at kb0
       rw [← cell_drewN wr nq] at kb1
       generalize wr.drewN nq = w6 at *
       go_wp2_with (at_builtin; refine wpList_append_mine _ rfl (.tmp 57) (.tmp 62) 96 rfl (fun k => w2.heap.size ≤ k) 98 i0 _ 2 16 Tryz.underlying96 hi0 hz0 hz1 hz2 rfl _ m.length (prs m) rfl (hw.out.own.below ((Below.refl _ _).alloc (Nat.le_refl _) _)) (some ⟨w6.heap.size, 0, none⟩) 1 1 (pr x) rfl rfl (fun e => by cases e) (new2 rfl) (by simp [pr, Value.oneCell']) hmx.out hby.out ?_; intro b9 cap9 w9 hown hfr; have hX := Mr.hid (hw.out.app hW2.out rfl hown hfr); clear hown hfr)
       go_roundg (gk - 1)
       case measure => omega
       case rel => exact ⟨i + 1, k, m ++ [x], by simp, by simp, by omega, by omega, by omega, hMn.out, hX.out⟩
      ·have hMn := Mr.hid (hM.right hUa.out hUb.out hy (fun x2 hx2 => by rw [hx] at hx2; cases hx2; omega))
       have f4 : decide (x.1 ≤ y.1) = false := decide_eq_false hle
       replace hM := Mr.hid hM
       replace hx := Mr.hid hx
       replace hy := Mr.hid hy
       replace hle := Mr.hid hle
       have hm1 : m.length + 1 ≤ n := by clear hsm; omega
       have hby := Mr.hid (Nat.le_trans (bytes_mono hm1) hsm)
       have hmx := Mr.hid (show m.length + 1 ≤ maxLen by unfold maxLen; omega)
       replace hw := Mr.hid hw
       go_wp2
       go_quiet (fail)
       replace hw := Mr.hid (hw.out.drew nq)
       rw [← cell_drewN wr nq] at ka0
       rw [← cell_drewN wr nq] at ka1
       rw [← cell_drewN wr nq] at kb0
       rw [← cell_drewN wr nq] at kb1
       generalize wr.drewN nq = w6 at *
       go_wp2_with (at_builtin; refine wpList_append_mine _ rfl (.tmp 66) (.tmp 71) 96 rfl (fun k => w2.heap.size ≤ k) 98 i0 _ 2 16 Tryz.underlying96 hi0 hz0 hz1 hz2 rfl _ m.length (prs m) rfl (hw.out.own.below ((Below.refl _ _).alloc (Nat.le_refl _) _)) (some ⟨w6.heap.size, 0, none⟩) 1 1 (pr y) rfl rfl (fun e => by cases e) (new2 rfl) (by simp [pr, Value.oneCell']) hmx.out hby.out ?_; intro b9 cap9 w9 hown hfr; have hX := Mr.hid (hw.out.app hW2.out rfl hown hfr); clear hown hfr)
       go_roundg (gk - 1)
       case measure => omega
       case rel => exact ⟨i, k + 1, m ++ [y], by simp, by simp, by omega, by omega, by omega, hMn.out, hX.out⟩
     ·have hMn := Mr.hid (hM.right hUa.out hUb.out hy (fun x2 hx2 => by have := (List.getElem?_eq_some_iff.1 hx2).1; omega))
      have f3 : decide ((i : Int) < (la.length : Int)) = false := decide_eq_false (by omega)
      replace hM := Mr.hid hM
      replace hy := Mr.hid hy
      have hm1 : m.length + 1 ≤ n := by clear hsm; omega
      have hby := Mr.hid (Nat.le_trans (bytes_mono hm1) hsm)
      have hmx := Mr.hid (show m.length + 1 ≤ maxLen by unfold maxLen; omega)
      replace hw := Mr.hid hw
      go_wp2
      go_quiet (fail)
      replace hw := Mr.hid (hw.out.drew nq)
      rw [← cell_drewN wr nq] at kb0
      rw [← cell_drewN wr nq] at kb1
      generalize wr.drewN nq = w6 at *
      go_wp2_with (at_builtin; refine wpList_append_mine _ rfl (.tmp 66) (.tmp 71) 96 rfl (fun k => w2.heap.size ≤ k) 98 i0 _ 2 16 Tryz.underlying96 hi0 hz0 hz1 hz2 rfl _ m.length (prs m) rfl (hw.out.own.below ((Below.refl _ _).alloc (Nat.le_refl _) _)) (some ⟨w6.heap.size, 0, none⟩) 1 1 (pr y) rfl rfl (fun e => by cases e) (new2 rfl) (by simp [pr, Value.oneCell']) hmx.out hby.out ?_; intro b9 cap9 w9 hown hfr; have hX := Mr.hid (hw.out.app hW2.out rfl hown hfr); clear hown hfr)
      go_roundg (gk - 1)
      case measure => omega
      case rel => exact ⟨i, k + 1, m ++ [y], by simp, by simp, by omega, by omega, by omega, hMn.out, hX.out⟩
    ·by_cases hii : i < la.length
     ·have hi : i < la.length := by omega
      obtain ⟨x, hx⟩ : ∃ x, la[i]? = some x := ⟨la[i], List.getElem?_eq_getElem _⟩
      obtain ⟨ga, oa, ca2, hga, _, _, hgla, hra⟩ := (hSa.out.below hw.bel2).there (by omega)
      cases hga
      have ka0 := hra _ _ (prs_at hx).1
      have ka1 := hra _ _ (prs_at hx).2
      rw [← Nat.add_assoc] at ka1
      clear hra
      have hMn := Mr.hid (hM.left hUa.out hUb.out hx (fun y hy => by have := (List.getElem?_eq_some_iff.1 hy).1; omega))
      replace hM := Mr.hid hM
      replace hx := Mr.hid hx
      have f1 : (i : Int) < (la.length : Int) := by omega
      have f2 : ((k : Int) == (lb.length : Int)) = true := by simp; omega
      have hm1 : m.length + 1 ≤ n := by clear hsm; omega
      have hby := Mr.hid (Nat.le_trans (bytes_mono hm1) hsm)
      have hmx := Mr.hid (show m.length + 1 ≤ maxLen by unfold maxLen; omega)
      replace hw := Mr.hid hw
      go_wp2
      go_quiet (fail)
      replace hw := Mr.hid (hw.out.drew nq)
      rw [← cell_drewN wr nq] at ka0
      rw [← cell_drewN wr nq] at ka1
      generalize wr.drewN nq = w6 at *
      go_wp2_with (at_builtin; refine wpList_append_mine _ rfl (.tmp 57) (.tmp 62) 96 rfl (fun k => w2.heap.size ≤ k) 98 i0 _ 2 16 Tryz.underlying96 hi0 hz0 hz1 hz2 rfl _ m.length (prs m) rfl (hw.out.own.below ((Below.refl _ _).alloc (Nat.le_refl _) _)) (some ⟨w6.heap.size, 0, none⟩) 1 1 (pr x) rfl rfl (fun e => by cases e) (new2 rfl) (by simp [pr, Value.oneCell']) hmx.out hby.out ?_; intro b9 cap9 w9 hown hfr; have hX := Mr.hid (hw.out.app hW2.out rfl hown hfr); clear hown hfr)
      go_roundg (gk - 1)
      case measure => omega
      case rel => exact ⟨i + 1, k, m ++ [x], by simp, by simp, by omega, by omega, by omega, hMn.out, hX.out⟩
     ·have f1 : decide ((i : Int) < (la.length : Int)) = false := decide_eq_false (by omega)
      have f2 : decide ((k : Int) < (lb.length : Int)) = false := decide_eq_false (by omega)
      have hP := hM.done (l := l) (by omega) hk hPa.out hPb.out
      replace hP := Mr.hid hP
      replace hM := Mr.hid hM
      replace hw := Mr.hid hw
      go_wp2
      go_ret
      exact ⟨_, m, rfl, hw.out.own.sl.mono (fun k hk => .inr (Nat.le_trans hB02.out.size hk)), hP.out, hM.out.up, hw.out.bel⟩
end Go.Proofs.YtnbibkohgppjnaaGreat.Wt
namespace Go.Proofs.YtnbibkohgppjnaaGreat.Wt
open Go.RowKit Mr Md
set_option maxHeartbeats 8000000 in
theorem rApart_any {W : World} {T : Nat → Prop} {v : Value} {cs : List Cq} (hv : Sl W T 9 v cs.length (cqs cs)) (hsm : cs.length * 72 ≤ 281474976710656) (b : Bool) (hb : b = true ↔ Apart cs) :
  Calls Tryz.prog 34 #[v] W fun e w' => e = .returned (.bool b) ∧ Below W.heap.size W w' := by
 obtain ⟨i0, hi0, hz0, hz1, hz2⟩ := parts_of wt_mark
 obtain ⟨a, cap, rfl, hcap⟩ := hv.form
 obtain ⟨n, hn⟩ : ∃ n, n = cs.length := ⟨_, rfl⟩
 have mx : ∀ k, k ≤ 3 * n → k ≤ maxLen := fun k hk => by unfold maxLen; rw [← hn] at hsm; omega
 have by2 : ∀ k, k ≤ 3 * n → (k + k / 4 + 192) * 16 ≤ 281474976710656 := fun k hk => by rw [← hn] at hsm; omega
 rw [← hn] at hsm hcap ⊢
 replace mx := Mr.hid mx
 replace by2 := Mr.hid by2
 replace hn := Mr.hid hn
 replace hv := Mr.hid hv
 replace hb := Mr.hid hb
 go_enter Tryz.func34, Tryz.ntmps34
 go_wp2
 go_loopg [3, 4] n (fun k s3 s4 wr => ∃ i : Nat, s4 = .int .i64 (i : Int) ∧ i + k = n ∧ Mw W W wr s3 (mkl (cs.take i) 0))
 case atStart => exact ⟨0, rfl, by omega, Below.refl _ _, Below.refl _ _, Md.Own.zero _ _ _ _ _⟩
 case round =>
  obtain ⟨i, rfl, hi, hA⟩ := hrel
  by_cases hlt : i < n
  ·obtain ⟨c, hci⟩ := get_of_lt (cs := cs) (i := i) (by have := hn.out; omega)
   obtain ⟨bc, oc, rfl, -⟩ := call_at (hv.out.below hA.bel) hci
   have RC : ∀ w, Below W.heap.size W w → At9 w bc (oc + i * 9) c := fun w hB => by
    obtain ⟨b', o', e, h⟩ := call_at (hv.out.below hB) hci
    cases e; exact h
   obtain ⟨u, cu, rfl, hcu, hcm⟩ := hA.own.form
   obtain ⟨l, hl⟩ : ∃ l, l = mkl (cs.take i) 0 := ⟨_, rfl⟩
   rw [← hl] at hA hcu ⊢
   have hll : l.length ≤ 3 * i := by rw [hl]; exact Nat.le_trans (mkl_len _ _) (by simp; omega)
   have hnx := mkl_take cs i c hci
   rw [← hl] at hnx
   have hlI : (i : Int) < (n : Int) := by omega
   have hw1 : IntKind.i64.wrap ((i : Int) + 1) = (i : Int) + 1 := i64x _ (by omega) (by omega)
   clear hl
   replace RC := Mr.hid RC
   replace hnx := Mr.hid hnx
   replace hci := Mr.hid hci
   replace hA := Mr.hid hA
   obtain ⟨hbl, g0, g1, g2, g3, g4, g5, g6, g7, g8⟩ := RC.out _ hA.out.bel
   go_upto_region 6 with (at_builtin; refine wpList_append_mine _ rfl (.tmp 12) (.tmp 20) 96 rfl (fun k => W.heap.size ≤ k) 98 i0 _ 2 16 Tryz.underlying96 hi0 hz0 hz1 hz2 rfl _ (l).length (prs (l)) rfl (hA.out.own.below ((Below.refl _ _).alloc (Nat.le_refl _) _)) (some ⟨wr.heap.size, 0, none⟩) 1 1 (pr (c.beg, (i : Int))) rfl rfl (fun e => by cases e) (new2 rfl) (by simp [pr, Value.oneCell']) (mx.out _ (by omega)) (by2.out _ (by omega)) ?_; intro b5 cap5 w6 hown hfr; have hX := Mr.hid (hA.out.app (Nat.le_refl _) rfl hown hfr); clear hown hfr)
   clear g0 g1 g2 g3 g4 g5 g6 g7 g8 hbl
   replace hA := hX.out
   clear hX
   obtain ⟨l1, hl1⟩ : ∃ l1, l1 = l ++ [(c.beg, (i : Int))] := ⟨_, rfl⟩
   have ql1 : l.length + 1 = l1.length := by rw [hl1]; simp
   rw [← hl1, ql1] at hA
   rw [ql1]
   replace ql1 : l1.length ≤ 3 * i + 1 := by omega
   replace hl1 := Mr.hid hl1
   replace hA := Mr.hid hA
   obtain ⟨hbl, g0, g1, g2, g3, g4, g5, g6, g7, g8⟩ := RC.out _ hA.out.bel
   by_cases e1 : c.fin = -1
   ·have e1' : (c.fin != -1) = false := by simp [e1]
    replace e1 := Mr.hid e1
    go_upto_region 8 with (fail)
    by_cases e2 : c.pt = -1
    ·have e2' : (c.pt != -1) = false := by simp [e2]
     replace e2 := Mr.hid e2
     have hfin : Hid (mkl (cs.take (i + 1)) 0 = l1) := by show mkl (cs.take (i + 1)) 0 = l1; rw [hnx.out, hl1.out]; simp [mkc, e1.out, e2.out]
     go_wp2
     go_roundg (gk - 1)
     case measure => omega
     case rel => exact ⟨i + 1, by simp, by omega, by rw [hfin.out]; exact hA.out⟩
    ·have e2' : (c.pt != -1) = true := by simp [e2]
     replace e2 := Mr.hid e2
     have hfin : Hid (mkl (cs.take (i + 1)) 0 = l1 ++ [(c.pt, (i : Int))]) := by show mkl (cs.take (i + 1)) 0 = l1 ++ [(c.pt, (i : Int))]; rw [hnx.out, hl1.out]; simp [mkc, e1.out, e2.out]
     go_wp2_with (at_builtin; refine wpList_append_mine _ rfl (.tmp 44) (.tmp 52) 96 rfl (fun k => W.heap.size ≤ k) 98 i0 _ 2 16 Tryz.underlying96 hi0 hz0 hz1 hz2 rfl _ (l1).length (prs (l1)) rfl (hA.out.own.below ((Below.refl _ _).alloc (Nat.le_refl _) _)) (some ⟨w6.heap.size, 0, none⟩) 1 1 (pr (c.pt, (i : Int))) rfl rfl (fun e => by cases e) (new2 rfl) (by simp [pr, Value.oneCell']) (mx.out _ (by omega)) (by2.out _ (by omega)) ?_; intro b9 cap9 w9 hown hfr; have hX := Mr.hid (hA.out.app (Nat.le_refl _) rfl hown hfr); clear hown hfr)
     go_roundg (gk - 1)
     case measure => omega
     case rel => exact ⟨i + 1, by simp, by omega, by rw [hfin.out]; exact hX.out⟩
   ·have e1' : (c.fin != -1) = true := by simp [e1]
    replace e1 := Mr.hid e1
    go_upto_region 8 with (at_builtin; refine wpList_append_mine _ rfl (.tmp 28) (.tmp 36) 96 rfl (fun k => W.heap.size ≤ k) 98 i0 _ 2 16 Tryz.underlying96 hi0 hz0 hz1 hz2 rfl _ (l1).length (prs (l1)) rfl (hA.out.own.below ((Below.refl _ _).alloc (Nat.le_refl _) _)) (some ⟨w6.heap.size, 0, none⟩) 1 1 (pr (c.fin, (i : Int))) rfl rfl (fun e => by cases e) (new2 rfl) (by simp [pr, Value.oneCell']) (mx.out _ (by omega)) (by2.out _ (by omega)) ?_; intro b7 cap7 w8 hown hfr; have hX := Mr.hid (hA.out.app (Nat.le_refl _) rfl hown hfr); clear hown hfr)
    clear g0 g1 g2 g3 g4 g5 g6 g7 g8 hbl
    replace hA := hX.out
    clear hX
    obtain ⟨l2, hl2⟩ : ∃ l2, l2 = l1 ++ [(c.fin, (i : Int))] := ⟨_, rfl⟩
    have ql2 : l1.length + 1 = l2.length := by rw [hl2]; simp
    rw [← hl2, ql2] at hA
    rw [ql2]
    replace ql2 : l2.length ≤ 3 * i + 2 := by omega
    replace hl2 := Mr.hid hl2
    replace hA := Mr.hid hA
    obtain ⟨hbl, g0, g1, g2, g3, g4, g5, g6, g7, g8⟩ := RC.out _ hA.out.bel
    by_cases e2 : c.pt = -1
    ·have e2' : (c.pt != -1) = false := by simp [e2]
     replace e2 := Mr.hid e2
     have hfin : Hid (mkl (cs.take (i + 1)) 0 = l2) := by show mkl (cs.take (i + 1)) 0 = l2; rw [hnx.out, hl2.out, hl1.out]; simp [mkc, e1.out, e2.out]
     go_wp2
     go_roundg (gk - 1)
     case measure => omega
     case rel => exact ⟨i + 1, by simp, by omega, by rw [hfin.out]; exact hA.out⟩
    ·have e2' : (c.pt != -1) = true := by simp [e2]
     replace e2 := Mr.hid e2
     have hfin : Hid (mkl (cs.take (i + 1)) 0 = l2 ++ [(c.pt, (i : Int))]) := by show mkl (cs.take (i + 1)) 0 = l2 ++ [(c.pt, (i : Int))]; rw [hnx.out, hl2.out, hl1.out]; simp [mkc, e1.out, e2.out]
     go_wp2_with (at_builtin; refine wpList_append_mine _ rfl (.tmp 44) (.tmp 52) 96 rfl (fun k => W.heap.size ≤ k) 98 i0 _ 2 16 Tryz.underlying96 hi0 hz0 hz1 hz2 rfl _ (l2).length (prs (l2)) rfl (hA.out.own.below ((Below.refl _ _).alloc (Nat.le_refl _) _)) (some ⟨w8.heap.size, 0, none⟩) 1 1 (pr (c.pt, (i : Int))) rfl rfl (fun e => by cases e) (new2 rfl) (by simp [pr, Value.oneCell']) (mx.out _ (by omega)) (by2.out _ (by omega)) ?_; intro b9 cap9 w9 hown hfr; have hX := Mr.hid (hA.out.app (Nat.le_refl _) rfl hown hfr); clear hown hfr)
     go_roundg (gk - 1)
     case measure => omega
     case rel => exact ⟨i + 1, by simp, by omega, by rw [hfin.out]; exact hX.out⟩
  ·have hin : i = cs.length := by have := hn.out; omega
   rw [hin, List.take_length] at hA
   have hb2 := (apart_mkl cs).symm
   rw [← hb.out] at hb2
   obtain ⟨l, hl⟩ : ∃ l, l = mkl cs 0 := ⟨_, rfl⟩
   rw [← hl] at hA hb2
   have hll : l.length ≤ 3 * n := by rw [hl, hn.out]; exact mkl_len _ _
   obtain ⟨u, cu, rfl, hcu, hcm⟩ := hA.own.form
   have SO := sorted_any l.length (Nat.le_refl _) hA.own.sl (by2.out _ hll)
   have dl : decide ((i : Int) < (n : Int)) = false := decide_eq_false (by omega)
   have B := hA.bel
   clear hb hl hA hin mx by2
   replace SO := Mr.hid SO
   replace hb2 := Mr.hid hb2
   replace B := Mr.hid B
   go_wp2_with (go_at_call 52; refine SO.out.mono ?_; clear SO; rintro e w2 ⟨v2, s, rfl, hS2, hP2, hU2, hB2⟩; replace hB2 := Mr.hid (B.out.trans (hB2.mono B.out.size)); clear B; replace hb2 : Hid (b = true ↔ ∀ i x y, s[i]? = some x → s[i + 1]? = some y → ¬ (y.1 = x.1 ∧ y.2 ≠ x.2)) := (hb2.out.trans (ApartR.perm hP2).symm).trans (sorted_apart hU2); have hsl := hP2.length_eq; obtain ⟨a2, c2, rfl, hc2⟩ := hS2.form; obtain ⟨m, hm⟩ : ∃ m, m = s.length := ⟨_, rfl⟩; rw [← hm] at hS2 hc2 hsl; rw [← hm]; replace hm := Mr.hid hm; replace hS2 := Mr.hid hS2; replace hP2 := Mr.hid hP2; replace hU2 := Mr.hid hU2)
   go_loopg [5] m (fun k s5 wr => ∃ i : Nat, s5 = .int .i64 ((i : Int) + 1) ∧ i + k = m ∧ Below W.heap.size W wr ∧ Below w2.heap.size w2 wr ∧ ∀ j x y, j < i → s[j]? = some x → s[j + 1]? = some y → ¬ (y.1 = x.1 ∧ y.2 ≠ x.2))
   case atStart => exact ⟨0, rfl, by omega, hB2.out, Below.refl _ _, fun j x y hj => by omega⟩
   case round =>
    obtain ⟨i, rfl, hi, B, B2, ht⟩ := hrel
    by_cases hlt : i + 1 < m
    ·obtain ⟨gu, ou, cu', hgu, _, _, hul, ru⟩ := (hS2.out.below B2).there (by omega)
     cases hgu
     obtain ⟨y1, hx1⟩ : ∃ y, s[i + 1]? = some y := ⟨s[i + 1]'(by have := hm.out; omega), List.getElem?_eq_getElem _⟩
     obtain ⟨y0, hx0⟩ : ∃ y, s[i]? = some y := ⟨s[i]'(by have := hm.out; omega), List.getElem?_eq_getElem _⟩
     have k1 := ru _ _ (prs_at hx1).1
     have k1' := ru _ _ (prs_at hx1).2
     have k0 := ru _ _ (prs_at hx0).1
     have k0' := ru _ _ (prs_at hx0).2
     rw [← Nat.add_assoc] at k1' k0'
     have hli : ((i : Int) + 1) < (m : Int) := by omega
     have hl0 : (i : Int) < (m : Int) := by omega
     have h00 : (0 : Int) ≤ (i : Int) := by omega
     have h01 : (0 : Int) ≤ (i : Int) + 1 := by omega
     have ewr : IntKind.i64.wrap ((i : Int) + 1 - 1) = (i : Int) := by rw [show (i : Int) + 1 - 1 = (i : Int) from by omega]; exact i64x _ (by omega) (by omega)
     have ew2 : IntKind.i64.wrap (i : Int) = (i : Int) := i64x _ (by omega) (by omega)
     have e1 : ((i : Int) + 1).toNat = i + 1 := by omega
     have hw2 : IntKind.i64.wrap ((i : Int) + 1 + 1) = (i : Int) + 1 + 1 := i64x _ (by omega) (by omega)
     clear ru
     replace B := Mr.hid B
     replace B2 := Mr.hid B2
     replace ht := Mr.hid ht
     replace hx1 := Mr.hid hx1
     replace hx0 := Mr.hid hx0
     go_upto_region 14 with (fail)
     by_cases he : y1.1 = y0.1
     ·have he2 : (y1.1 == y0.1) = true := by simp [he]
      by_cases hf : y1.2 = y0.2
      ·have hf2 : (y1.2 != y0.2) = false := by simp [hf]
       replace he := Mr.hid he
       replace hf := Mr.hid hf
       go_quiet (fail)
       have hBq := Mr.hid (B.out.trans (Bx.draws W.heap.size wr nq))
       have hC2 := Mr.hid (B2.out.trans (Bx.draws w2.heap.size wr nq))
       clear k1 k0 k1' k0' hul B B2
       generalize wr.drewN nq = W6 at *
       go_wp2
       go_roundg (gk - 1)
       case measure => omega
       case rel => exact ⟨i + 1, by simp, by omega, hBq.out, hC2.out, fun j x y hj hx hy => by
        by_cases hji : j < i
        ·exact ht.out j x y hji hx hy
        ·have : j = i := by omega
         subst this
         rw [hx0.out] at hx; rw [hx1.out] at hy; cases hx; cases hy; exact fun h => h.2 hf.out⟩
      ·have hf2 : (y1.2 != y0.2) = true := by simp [hf]
       have hbf : b = false := by
        cases hbb : b with
        | false => rfl
        | true => exact absurd ⟨he, hf⟩ (hb2.out.1 hbb i y0 y1 hx0.out hx1.out)
       subst hbf
       replace he := Mr.hid he
       replace hf := Mr.hid hf
       go_quiet (fail)
       have hBq := Mr.hid (B.out.trans (Bx.draws W.heap.size wr nq))
       clear k1 k0 k1' k0' hul B B2
       generalize wr.drewN nq = W6 at *
       go_wp2
       go_ret
       exact ⟨rfl, hBq.out⟩
     ·have he2 : (y1.1 == y0.1) = false := by simp [he]
      replace he := Mr.hid he
      go_quiet (fail)
      have hBq := Mr.hid (B.out.trans (Bx.draws W.heap.size wr nq))
      have hC2 := Mr.hid (B2.out.trans (Bx.draws w2.heap.size wr nq))
      clear k1 k0 k1' k0' hul B B2
      generalize wr.drewN nq = W6 at *
      go_wp2
      go_roundg (gk - 1)
      case measure => omega
      case rel => exact ⟨i + 1, by simp, by omega, hBq.out, hC2.out, fun j x y hj hx hy => by
       by_cases hji : j < i
       ·exact ht.out j x y hji hx hy
       ·have : j = i := by omega
        subst this
        rw [hx0.out] at hx; rw [hx1.out] at hy; cases hx; cases hy; exact fun h => he.out h.1⟩
    ·have hbt : b = true := hb2.out.2 (fun j x y hx hy => ht j x y (by have := (List.getElem?_eq_some_iff.1 hy).1; have := hm.out; omega) hx hy)
     subst hbt
     have dl2 : decide (((i : Int) + 1) < (m : Int)) = false := decide_eq_false (by omega)
     replace B := Mr.hid B
     clear ht
     go_wp2
     go_ret
     exact ⟨rfl, B.out⟩
end Go.Proofs.YtnbibkohgppjnaaGreat.Wt
