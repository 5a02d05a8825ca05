import Derived.Test.YtnbibkohgppjnaaGreatJ42
import Derived.Test.YtnbibkohgppjnaaGreatJ44
import Derived.Test.YtnbibkohgppjnaaGreatJ09
import Derived.Test.YtnbibkohgppjnaaGreatJ10
import Derived.Deep.LoopGhost
import Derived.BigQuiet
set_option linter.unusedVariables false
set_option linter.unusedSimpArgs false
set_option maxRecDepth 100000
namespace Go.Proofs.YtnbibkohgppjnaaGreat.Ws
open Md
def k0 : Cq := ⟨0, 30, 1, 0, 0, 9, 8, 1, 0⟩
def k1 : Cq := ⟨1, 31, 0, 0, 1, 3, 2, 3, 0⟩
def k2 : Cq := ⟨1, 31, 0, 0, 10, 14, 12, 2, 1⟩
def ks : List Cq := [k0, k1, k2]
theorem ks_get {i : Nat} {c : Cq} (h : ks[i]? = some c) : (i = 0 ∧ c = k0) ∨ (i = 1 ∧ c = k1) ∨ (i = 2 ∧ c = k2) := by
 match i with
 | 0 => left; simp [ks] at h; exact ⟨rfl, h.symm⟩
 | 1 => right; left; simp [ks] at h; exact ⟨rfl, h.symm⟩
 | 2 => right; right; simp [ks] at h; exact ⟨rfl, h.symm⟩
 | i + 3 => simp [ks] at h
theorem ks_may : Wt.MayC ks := by
 refine ⟨fun i hi => ⟨fun c hc => ?_, fun c d h0 hc hd => ?_⟩, fun i j c d x hc hd hx hy => ?_, fun i hi c d hc h0 hd => ?_⟩
 ·rcases ks_get hc with ⟨_, rfl⟩ | ⟨_, rfl⟩ | ⟨_, rfl⟩ <;> decide
 ·rcases ks_get hd with ⟨e, rfl⟩ | ⟨e, rfl⟩ | ⟨e, rfl⟩ <;> subst e
  ·omega
  ·rcases ks_get hc with ⟨e, rfl⟩ | ⟨e, rfl⟩ | ⟨e, rfl⟩ <;> first | omega | decide
  ·rcases ks_get hc with ⟨e, rfl⟩ | ⟨e, rfl⟩ | ⟨e, rfl⟩ <;> first | omega | decide
 ·have e0 : Wt.mvc k0 = [0, 9, 8] := by decide
  have e1 : Wt.mvc k1 = [1, 3, 2] := by decide
  have e2 : Wt.mvc k2 = [10, 14, 12] := by decide
  rcases ks_get hc with ⟨rfl, rfl⟩ | ⟨rfl, rfl⟩ | ⟨rfl, rfl⟩ <;> rcases ks_get hd with ⟨rfl, rfl⟩ | ⟨rfl, rfl⟩ | ⟨rfl, rfl⟩ <;> first | rfl | (simp only [e0, e1, e2, List.mem_cons, List.not_mem_nil, or_false] at hx hy; omega)
 ·have l0 : Wt.lastT ks 0 0 = 0 := by decide
  have l1 : Wt.lastT ks 1 1 = 0 := by decide
  have l2 : Wt.lastT ks 1 2 = 2 := by decide
  rcases ks_get hc with ⟨rfl, rfl⟩ | ⟨rfl, rfl⟩ | ⟨rfl, rfl⟩
  ·exact absurd h0 (by show ¬ 0 < Wt.lastT ks 0 0; rw [l0]; omega)
  ·exact absurd h0 (by show ¬ 0 < Wt.lastT ks 1 1; rw [l1]; omega)
  ·rw [show Wt.lastT ks k2.th 2 - 1 = 1 from by show Wt.lastT ks 1 2 - 1 = 1; rw [l2]] at hd
   simp [ks] at hd
   subst hd
   exact ⟨by decide, by decide⟩
theorem ks_mayB : Wt.mayB ks = true := Wt.mayB_true ks_may
theorem ks_err : errA ks = 0 := by
 unfold errA
 rw [ks_mayB]
 have : (scs ks).length = 3 := by decide
 simp [this]
theorem ks_cnt : cntA ks = 1 := by decide
theorem ks_find : (spc (scs ks)).lm 0 ct0 = some [1, 0, 2] := by decide
theorem ks_fnd : fndA ks = some [1, 0, 2] := by rw [fndA, ks_find]; decide
theorem ks_fit : ∀ c ∈ scs ks, Wt.Fit c := scs_fit ks_mayB
theorem ks_ok : ∃ x, Wt.Rs ks [1, 0, 2] 0 x := by
 have h := find_good ks_fit ks_find
 have e : nmo ks [1, 0, 2] = [1, 0, 2] := by decide
 rw [e] at h
 exact ⟨_, .ok ks_may h.1 h.2.1 h.2.2⟩
theorem ks_not : ∃ x, Wt.Rs ks [0, 1, 2] 123 x := by
 refine ⟨_, .answer ks_may ⟨⟨fun j x hj hx => ?_, by decide⟩, fun i c hi hc ho hf => ?_⟩ ?_ (fun h => ?_)⟩
 ·match j with
  | 0 => simp at hx; subst hx; exact ⟨by omega, k0, rfl, by decide⟩
  | 1 => simp at hx; subst hx; exact ⟨by omega, k1, rfl, by decide⟩
  | 2 => simp at hx; subst hx; exact ⟨by omega, k2, rfl, by decide⟩
  | j + 3 => simp at hj; omega
 ·rcases ks_get hc with ⟨rfl, _⟩ | ⟨rfl, _⟩ | ⟨rfl, _⟩ <;> decide
 ·rw [pair_int]
  have e : Wt.ordc ks [0, 1, 2] = [k0, k1, k2] := rfl
  rw [e]
  refine List.pairwise_cons.2 ⟨fun c hc => ?_, List.pairwise_cons.2 ⟨fun c hc => ?_, by simp⟩⟩
  ·simp at hc
   rcases hc with rfl | rfl <;> (rintro ⟨_, h⟩; revert h; decide)
  ·simp at hc
   rcases hc with rfl
   rintro ⟨_, h⟩; revert h; decide
 ·have h1 := h 1 (by decide) k1 rfl
  revert h1
  decide
end Go.Proofs.YtnbibkohgppjnaaGreat.Ws
namespace Go.Proofs.YtnbibkohgppjnaaGreat.Wt
def Up1 (l : List (Int × Int)) : Prop := l.Pairwise (fun a b => a.1 ≤ b.1)
theorem Up1.at {l : List (Int × Int)} (h : Up1 l) {i : Nat} {x : Int × Int} (hx : l[i]? = some x) : ∀ y ∈ l.drop i, x.1 ≤ y.1 := by
 intro y hy
 obtain ⟨k, hk⟩ := List.getElem?_of_mem hy
 rw [List.getElem?_drop] at hk
 obtain ⟨h1, rfl⟩ := List.getElem?_eq_some_iff.1 hx
 obtain ⟨h2, rfl⟩ := List.getElem?_eq_some_iff.1 hk
 by_cases e : k = 0
 ·subst e; simp
 ·exact (List.pairwise_iff_getElem.1 h) i (i + k) h1 h2 (by omega)
theorem drop_sub {α : Type} {l : List α} {i : Nat} {y : α} (h : y ∈ l.drop (i + 1)) : y ∈ l.drop i := by
 obtain ⟨k, hk⟩ := List.getElem?_of_mem h
 rw [List.getElem?_drop] at hk
 refine List.mem_of_getElem? (i := k + 1) ?_
 rw [List.getElem?_drop, show i + (k + 1) = i + 1 + k from by omega]; exact hk
theorem mem_drop_at {α : Type} {l : List α} {i : Nat} {x : α} (h : l[i]? = some x) : x ∈ l.drop i := by
 refine List.mem_of_getElem? (i := 0) ?_
 rw [List.getElem?_drop, Nat.add_zero]; exact h
structure Mg (a b m : List (Int × Int)) (i k : Nat) : Prop where
 perm : m.Perm (a.take i ++ b.take k)
 up : Up1 m
 low : ∀ x ∈ m, ∀ y, (y ∈ a.drop i ∨ y ∈ b.drop k) → x.1 ≤ y.1
theorem Mg.zero (a b : List (Int × Int)) : Mg a b [] 0 0 := ⟨by simp, List.Pairwise.nil, fun x hx => by simp at hx⟩
theorem Mg.len {a b m : List (Int × Int)} {i k : Nat} (h : Mg a b m i k) : m.length ≤ i + k := by
 have := h.perm.length_eq
 simp at this; omega
theorem Mg.left {a b m : List (Int × Int)} {i k : Nat} (h : Mg a b m i k) (ha : Up1 a) (hb : Up1 b) {x : Int × Int} (hx : a[i]? = some x) (hle : ∀ y, b[k]? = some y → x.1 ≤ y.1) : Mg a b (m ++ [x]) (i + 1) k := by
 refine ⟨?_, ?_, ?_⟩
 ·rw [List.take_add_one, hx]
  show (m ++ [x]).Perm (a.take i ++ [x] ++ b.take k)
  refine (List.Perm.append_right [x] h.perm).trans ?_
  rw [List.append_assoc, List.append_assoc]
  exact List.Perm.append_left _ List.perm_append_comm
 ·unfold Up1
  rw [List.pairwise_append]
  refine ⟨h.up, by simp, fun y hy z hz => ?_⟩
  simp at hz; subst hz
  exact h.low y hy z (.inl (mem_drop_at hx))
 ·intro z hz y hy
  rcases List.mem_append.1 hz with hz | hz
  ·exact h.low z hz y (hy.imp drop_sub id)
  ·simp at hz; subst hz
   rcases hy with hy | hy
   ·exact ha.at hx y (drop_sub hy)
   ·by_cases hk : k < b.length
    ·have hbk : b[k]? = some b[k] := List.getElem?_eq_getElem _
     exact Int.le_trans (hle _ hbk) (hb.at hbk y hy)
    ·rw [List.drop_of_length_le (by omega)] at hy; simp at hy
theorem Mg.swap {a b m : List (Int × Int)} {i k : Nat} (h : Mg a b m i k) : Mg b a m k i := ⟨h.perm.trans List.perm_append_comm, h.up, fun x hx y hy => h.low x hx y hy.symm⟩
theorem Mg.right {a b m : List (Int × Int)} {i k : Nat} (h : Mg a b m i k) (ha : Up1 a) (hb : Up1 b) {y : Int × Int} (hy : b[k]? = some y) (hle : ∀ x, a[i]? = some x → y.1 ≤ x.1) : Mg a b (m ++ [y]) i (k + 1) := (h.swap.left hb ha hy hle).swap
theorem Mg.done {a b m l : List (Int × Int)} {i k : Nat} (h : Mg a b m i k) (hi : ¬ i < a.length) (hk : ¬ k < b.length) {j : Nat} (ha : a.Perm (l.take j)) (hb : b.Perm (l.drop j)) : m.Perm l := by
 have := h.perm
 rw [List.take_of_length_le (by omega), List.take_of_length_le (by omega)] at this
 refine this.trans ((ha.append hb).trans ?_)
 rw [List.take_append_drop]
end Go.Proofs.YtnbibkohgppjnaaGreat.Wt
namespace Go.Proofs.YtnbibkohgppjnaaGreat.Wt
open Go.RowKit Mr Md
theorem prs_app (a b : List (Int × Int)) : prs (a ++ b) = prs a ++ prs b := by simp [prs]
theorem prs_one (x : Int × Int) : prs [x] = pr x := by simp [prs]
structure Mw (W0 W w : World) (u : Value) (m : List (Int × Int)) : Prop where
 bel : Below W0.heap.size W0 w
 bel2 : Below W.heap.size W w
 own : Md.Own w (fun k => W.heap.size ≤ k) 98 2 u m.length (prs m)
theorem Mw.drew {W0 W w : World} {u : Value} {m : List (Int × Int)} (h : Mw W0 W w u m) (nq : Nat) : Mw W0 W (w.drewN nq) u m :=
 ⟨h.bel.trans (Bx.draws _ _ nq), h.bel2.trans (Bx.draws _ _ nq), h.own.below (Bx.draws _ _ nq)⟩
theorem Mw.app {W0 W w w1 w2 : World} {u u' : Value} {m : List (Int × Int)} {x : Int × Int} {o : Obj} (hW : W0.heap.size ≤ W.heap.size) (h : Mw W0 W w u m) (h1 : w1 = w.alloc o) (ho : Md.Own w2 (fun k => W.heap.size ≤ k ∨ k = w1.heap.size) 98 2 u' (m.length + 1) (prs m ++ pr x)) (hf : Fr w1 w2 (fun k => W.heap.size ≤ k)) : Mw W0 W w2 u' (m ++ [x]) := by
 have B1 : Below W.heap.size W w1 := by subst h1; exact h.bel2.alloc h.bel2.size _
 have B0 : Below W0.heap.size W0 w1 := by subst h1; exact h.bel.alloc h.bel.size _
 have e : prs m ++ pr x = prs (m ++ [x]) := by rw [prs_app, prs_one]
 rw [e] at ho
 refine ⟨⟨hf.os.trans B0.os, hf.tape.trans B0.tape, hf.output.trans B0.output, Nat.le_trans B0.size hf.size, fun k hk => (hf.block k (Nat.lt_of_lt_of_le hk B0.size) (by omega)).trans (B0.block k hk)⟩, ⟨hf.os.trans B1.os, hf.tape.trans B1.tape, hf.output.trans B1.output, Nat.le_trans B1.size hf.size, fun k hk => (hf.block k (Nat.lt_of_lt_of_le hk B1.size) (by omega)).trans (B1.block k hk)⟩, ?_⟩
 rw [List.length_append]
 exact ho.mono (fun k hk => by have := B1.size; omega)
end Go.Proofs.YtnbibkohgppjnaaGreat.Wt
namespace Go.Proofs.YtnbibkohgppjnaaGreat.Wt
open Go.RowKit Mr Md
end Go.Proofs.YtnbibkohgppjnaaGreat.Wt
