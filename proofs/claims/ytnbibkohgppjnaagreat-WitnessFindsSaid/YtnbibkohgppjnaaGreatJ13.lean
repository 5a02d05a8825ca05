import Derived.Test.YtnbibkohgppjnaaGreatJ01
import Derived.Test.YtnbibkohgppjnaaGreatJ10
import Derived.Deep.RegionHeld3
import Derived.Test.YtnbibkohgppjnaaGreatJ12
import Derived.BigQuiet
import Derived.Deep.RegionWith
import Derived.Test.YtnbibkohgppjnaaGreatJ03
import Derived.LoopN
set_option linter.unusedVariables false
set_option linter.unusedSimpArgs false
set_option maxRecDepth 100000
namespace Go.Proofs.YtnbibkohgppjnaaGreat.Md
open Go.RowKit Mr
set_option maxHeartbeats 4000000 in
theorem mObj (op : Int) (w : World) : Calls Tryz.prog 43 #[.int .i64 op] w fun e w' => e = .returned (.int .i64 (obj op)) ∧ w' = w := by
 by_cases h : op = 22 ∨ op = 23 ∨ op = 30 ∨ op = 31 ∨ op = 40 ∨ op = 41 ∨ op = 50 ∨ op = 51 ∨ op = 52 ∨ op = 60 ∨ op = 61 ∨ op = 62
 ·rcases h with rfl | rfl | rfl | rfl | rfl | rfl | rfl | rfl | rfl | rfl | rfl | rfl
  all_goals
   go_enter Tryz.func43, Tryz.ntmps43
   go_wp2
   go_ret
   exact ⟨rfl, rfl⟩
 ·have e : obj op = 0 := by
   unfold obj
   rw [if_neg (by omega), if_neg (by omega), if_neg (by omega), if_neg (by omega), if_neg (by omega)]
  rw [e]
  have d : ∀ k : Int, (k = 22 ∨ k = 23 ∨ k = 30 ∨ k = 31 ∨ k = 40 ∨ k = 41 ∨ k = 50 ∨ k = 51 ∨ k = 52 ∨ k = 60 ∨ k = 61 ∨ k = 62) → (op == k) = false := fun k hk => by
   rw [beq_eq_false_iff_ne]; rintro rfl; exact h hk
  have d0 := d 22 (by simp)
  have d1 := d 23 (by simp)
  have d2 := d 30 (by simp)
  have d3 := d 31 (by simp)
  have d4 := d 40 (by simp)
  have d5 := d 41 (by simp)
  have d6 := d 50 (by simp)
  have d7 := d 51 (by simp)
  have d8 := d 52 (by simp)
  have d9 := d 60 (by simp)
  have da := d 61 (by simp)
  have db := d 62 (by simp)
  clear d h e
  go_enter Tryz.func43, Tryz.ntmps43
  go_wp2
  go_ret
  exact ⟨rfl, rfl⟩
end Go.Proofs.YtnbibkohgppjnaaGreat.Md
namespace Go.Proofs.YtnbibkohgppjnaaGreat.Wt
open Go.RowKit Mr Md
theorem ret_bool {a b : Bool} (h : a = b) : Ending.returned (Value.bool a) = Ending.returned (Value.bool b) := by rw [h]
set_option maxHeartbeats 2000000 in
theorem ended_any (c : Cq) (w : World) : Calls Tryz.prog 27 #[c.val] w fun e w' => e = .returned (.bool (endB c)) ∧ Below w.heap.size w w' := by
 obtain ⟨th, op, arg, data, beg, fin, pt, ak, av⟩ := c
 unfold Cq.val
 go_enter Tryz.func27, Tryz.ntmps27
 go_wp2
 go_ret
 exact ⟨rfl, (Below.refl _ _).alloc (Nat.le_refl _) _⟩
set_option maxHeartbeats 2000000 in
theorem ahead_any (c d : Cq) (w : World) : Calls Tryz.prog 29 #[c.val, d.val] w fun e w' => e = .returned (.bool (ahB c d)) ∧ Below w.heap.size w w' := by
 obtain ⟨th, op, arg, data, beg, fin, pt, ak, av⟩ := c
 obtain ⟨th2, op2, arg2, data2, beg2, fin2, pt2, ak2, av2⟩ := d
 unfold Cq.val
 by_cases h : fin = -1
 ·have h2 : (fin != -1) = false := by simp [h]
  go_enter Tryz.func29, Tryz.ntmps29
  go_wp2
  go_ret
  refine ⟨ret_bool ?_, (((Below.refl _ _).alloc (Nat.le_refl _) _).alloc (by simp) _).alloc (by simp; omega) _⟩
  simp [ahB, h]
 ·have h2 : (fin != -1) = true := by simp [h]
  go_enter Tryz.func29, Tryz.ntmps29
  go_wp2
  go_ret
  refine ⟨ret_bool ?_, (((Below.refl _ _).alloc (Nat.le_refl _) _).alloc (by simp) _).alloc (by simp; omega) _⟩
  simp [ahB, h]
set_option maxHeartbeats 2000000 in
theorem counts_any (c : Cq) (w : World) : Calls Tryz.prog 23 #[c.val] w fun e w' => e = .returned (.bool (obj c.op != 0)) ∧ Below w.heap.size w w' := by
 obtain ⟨th, op, arg, data, beg, fin, pt, ak, av⟩ := c
 unfold Cq.val
 go_enter Tryz.func23, Tryz.ntmps23
 go_wp2_with (go_at_call 43; refine (mObj _ _).mono ?_; rintro e w' ⟨rfl, rfl⟩)
 go_ret
 exact ⟨rfl, (Below.refl _ _).alloc (Nat.le_refl _) _⟩
set_option maxHeartbeats 2000000 in
theorem rCounts_any (c : Cq) (w : World) : Calls Tryz.prog 35 #[c.val] w fun e w' => e = .returned (.bool (obj c.op != 0)) ∧ Below w.heap.size w w' := by
 obtain ⟨th, op, arg, data, beg, fin, pt, ak, av⟩ := c
 unfold Cq.val
 go_enter Tryz.func35, Tryz.ntmps35
 go_wp2_with (go_at_call 53; refine (object_any _ _).mono ?_; rintro e w' ⟨rfl, rfl⟩)
 go_ret
 exact ⟨rfl, (Below.refl _ _).alloc (Nat.le_refl _) _⟩
theorem box9 {W w1 : World} {c : Cq} (h : Below (W.alloc (cqO c)).heap.size (W.alloc (cqO c)) w1) : w1.heap[W.heap.size]? = some (cqO c) := (h.block _ (by simp)).trans (new_at _ _ _ rfl)
theorem below_a {n : Nat} {w w' : World} (h : Below n w w') (hn : n ≤ w'.heap.size) (o : Obj) : Below n w (w'.alloc o) := h.alloc hn o
set_option maxHeartbeats 4000000 in
theorem timely_any (c : Cq) (w : World) : Calls Tryz.prog 61 #[c.val] w fun e w' => e = .returned (.bool (decide (Tim c))) ∧ Below w.heap.size w w' := by
 obtain ⟨b, hb⟩ : ∃ b, b = decide (Tim c) := ⟨_, rfl⟩
 rw [← hb]
 replace hb : Hid (b = true ↔ Tim c) := by rw [hb]; exact decide_eq_true_iff
 obtain ⟨th, op, arg, data, beg, fin, pt, ak, av⟩ := c
 unfold Cq.val
 go_enter Tryz.func61, Tryz.ntmps61
 go_wp2
 all_goals
  go_ret
  refine ⟨ret_bool ?_, ?_⟩
  ·rw [Bool.eq_iff_iff, hb.out]
   clear hb
   simp only [Tim]
   simp at *
   omega
  ·repeat (first | exact Below.refl _ _ | refine below_a ?_ (by simp; try omega) _)
set_option maxHeartbeats 4000000 in
theorem answered_any (c : Cq) (w : World) : Calls Tryz.prog 62 #[c.val] w fun e w' => e = .returned (.bool (decide (Anw c))) ∧ Below w.heap.size w w' := by
 obtain ⟨b, hb⟩ : ∃ b, b = decide (Anw c) := ⟨_, rfl⟩
 rw [← hb]
 replace hb : Hid (b = true ↔ Anw c) := by rw [hb]; exact decide_eq_true_iff
 obtain ⟨th, op, arg, data, beg, fin, pt, ak, av⟩ := c
 unfold Cq.val
 go_enter Tryz.func62, Tryz.ntmps62
 go_wp2
 all_goals
  go_ret
  refine ⟨ret_bool ?_, ?_⟩
  ·rw [Bool.eq_iff_iff, hb.out]
   clear hb
   simp only [Anw]
   by_cases h1 : fin = -1 <;> by_cases h2 : ak = 0 <;> by_cases h3 : ak = 2 <;> first | omega | (simp_all; done) | (simp_all; omega) | (simp at *; omega) | (exfalso; have h4 := ‹((fin != -1) == (ak == 0)) = true›; rw [show (fin != -1) = true from by simpa using h1, show (ak == 0) = false from by simpa using h2] at h4; cases h4)
  ·repeat (first | exact Below.refl _ _ | refine below_a ?_ (by simp; try omega) _)
set_option maxHeartbeats 4000000 in
theorem mayAlone_any (c : Cq) (w : World) : Calls Tryz.prog 40 #[c.val] w fun e w' => e = .returned (.bool (decide (Fit c))) ∧ Below w.heap.size w w' := by
 obtain ⟨b, hb⟩ : ∃ b, b = decide (Fit c) := ⟨_, rfl⟩
 rw [← hb]
 replace hb : Hid (b = true ↔ Fit c) := by rw [hb]; exact decide_eq_true_iff
 obtain ⟨b1, hb1⟩ : ∃ b, b = decide (Tim c) := ⟨_, rfl⟩
 obtain ⟨b2, hb2⟩ : ∃ b, b = decide (Anw c) := ⟨_, rfl⟩
 have T := fun w => timely_any c w
 have A := fun w => answered_any c w
 rw [← hb1] at T
 rw [← hb2] at A
 replace hb1 : Hid (b1 = true ↔ Tim c) := by rw [hb1]; exact decide_eq_true_iff
 replace hb2 : Hid (b2 = true ↔ Anw c) := by rw [hb2]; exact decide_eq_true_iff
 replace hb : Hid (b = true ↔ 0 ≤ c.th ∧ c.th < 16 ∧ b1 = true ∧ b2 = true) := by rw [hb.out, hb1.out, hb2.out]; exact Iff.rfl
 clear hb1 hb2
 obtain ⟨th, op, arg, data, beg, fin, pt, ak, av⟩ := c
 unfold Cq.val at *
 replace T := Mr.hid T
 replace A := Mr.hid A
 go_enter Tryz.func40, Tryz.ntmps40
 go_wp2_with (first
  | (go_at_call 61; refine (T.out _).mono ?_; rintro e w1 ⟨rfl, hB1⟩; obtain ⟨k0, k1, k2, k3, k4, k5, k6, k7, k8, kl⟩ := cq_cells (box9 (c := ⟨th, op, arg, data, beg, fin, pt, ak, av⟩) hB1); replace hB1 := Mr.hid (((Below.refl _ w).alloc (Nat.le_refl _) _).trans (hB1.mono (by simp))))
  | (go_at_call 62; refine (A.out _).mono ?_; rintro e w2 ⟨rfl, hB2⟩; replace hB1 := Mr.hid (hB1.out.trans (hB2.mono (by have := hB1.out.size; omega)))))
 all_goals
  go_ret
  refine ⟨ret_bool ?_, ?_⟩
  ·rw [Bool.eq_iff_iff, hb.out]
   clear hb T A
   cases b1 <;> cases b2 <;> simp_all <;> omega
  ·first | exact hB1.out | exact (Below.refl _ _).alloc (Nat.le_refl _) _
end Go.Proofs.YtnbibkohgppjnaaGreat.Wt
namespace Go.Proofs.YtnbibkohgppjnaaGreat.Wt
open Go.RowKit Mr Md
theorem parts_of {a : Option TypeInfo} {z : Option Value} {n b : Nat} (h : a.map (fun i => (i.zero, i.size, i.bytes)) = some (z, n, b)) : ∃ i, a = some i ∧ i.zero = z ∧ i.size = n ∧ i.bytes = b := by
 cases a with
 | none => simp at h
 | some i => simp at h; exact ⟨i, rfl, h.1, h.2.1, h.2.2⟩
theorem i64x (x : Int) (h1 : -9223372036854775808 ≤ x) (h2 : x ≤ 9223372036854775807) : IntKind.i64.wrap x = x := by
 simp [IntKind.wrap, IntKind.signed, IntKind.bits]; omega
theorem wt_int : (Tryz.prog.info? 3).map (fun i => (i.zero, i.size, i.bytes)) = some (some (.int .i64 0), 1, 8) := by kernel_rfl
theorem new1 {w w1 : World} {x : Value} (h1 : w1 = w.alloc (.cells #[x] 3 (0, 0))) : ∀ ad, some (⟨w.heap.size, 0, none⟩ : Addr) = some ad → ∀ j u, ([x])[j]? = some u → w1.cell? (ad.add j) = some u := by
 rintro ad e j u hu
 cases e
 subst h1
 rw [add1, Nat.zero_add, cell_blk (new_at w _ _ rfl)]
 simpa using hu
structure At9 (w : World) (b o : Nat) (c : Cq) : Prop where
 lt : b < w.heap.size
 c0 : w.cell? ⟨b, o, none⟩ = some (.int .i64 c.th)
 c1 : w.cell? ⟨b, o + 1, none⟩ = some (.int .i64 c.op)
 c2 : w.cell? ⟨b, o + 2, none⟩ = some (.int .i64 c.arg)
 c3 : w.cell? ⟨b, o + 3, none⟩ = some (.int .i64 c.data)
 c4 : w.cell? ⟨b, o + 4, none⟩ = some (.int .i64 c.beg)
 c5 : w.cell? ⟨b, o + 5, none⟩ = some (.int .i64 c.fin)
 c6 : w.cell? ⟨b, o + 6, none⟩ = some (.int .i64 c.pt)
 c7 : w.cell? ⟨b, o + 7, none⟩ = some (.int .i64 c.ak)
 c8 : w.cell? ⟨b, o + 8, none⟩ = some (.int .i64 c.av)
theorem call_at {W : World} {T : Nat → Prop} {a : Option Addr} {cap : Nat} {cs : List Cq} (h : Sl W T 9 (.slice a cs.length cap) cs.length (cqs cs)) {i : Nat} {c : Cq} (hc : cs[i]? = some c) :
  ∃ b o, a = some ⟨b, o, none⟩ ∧ At9 W b (o + i * 9) c := by
 have hi := (List.getElem?_eq_some_iff.1 hc).1
 obtain ⟨b, o, cap', hv, _, _, hl, hr⟩ := h.there (by omega)
 cases hv
 have hg := fun j (hj : j < 9) => cqs_get cs i c hc j hj
 exact ⟨b, o, rfl, hl, hr (i * 9 + 0) _ (hg 0 (by omega)), hr (i * 9 + 1) _ (hg 1 (by omega)), hr (i * 9 + 2) _ (hg 2 (by omega)), hr (i * 9 + 3) _ (hg 3 (by omega)), hr (i * 9 + 4) _ (hg 4 (by omega)), hr (i * 9 + 5) _ (hg 5 (by omega)), hr (i * 9 + 6) _ (hg 6 (by omega)), hr (i * 9 + 7) _ (hg 7 (by omega)), hr (i * 9 + 8) _ (hg 8 (by omega))⟩
theorem At9.below {w w' : World} {b o : Nat} {c : Cq} (h : At9 w b o c) (hB : Below w.heap.size w w') : At9 w' b o c :=
 ⟨Nat.lt_of_lt_of_le h.lt hB.size, (hB.cell h.lt).trans h.c0, (hB.cell h.lt).trans h.c1, (hB.cell h.lt).trans h.c2, (hB.cell h.lt).trans h.c3, (hB.cell h.lt).trans h.c4, (hB.cell h.lt).trans h.c5, (hB.cell h.lt).trans h.c6, (hB.cell h.lt).trans h.c7, (hB.cell h.lt).trans h.c8⟩
structure Ap (W w : World) (b : Nat) (c : Cq) (u : Value) (l : List Int) : Prop where
 bel : Below W.heap.size W w
 up : W.heap.size ≤ b
 box : w.heap[b]? = some (cqO c)
 own : Md.Own w (fun k => W.heap.size ≤ k ∧ k ≠ b) 3 1 u l.length (ints l)
theorem own_kept {W W' : World} {S T : Nat → Prop} {e : TypeId} {size n : Nat} {v : Value} {xs : List Value} (h : Md.Own W S e size v n xs) (hb : ∀ k, S k → k < W.heap.size → W'.heap[k]? = W.heap[k]? ∧ T k) : Md.Own W' T e size v n xs := by
 obtain ⟨h1, a, cap, hv, hc, hm, h2⟩ := h
 refine ⟨h1, a, cap, hv, hc, hm, h2.imp id ?_⟩
 rintro ⟨g, o, cur, ha, hS, hg, hs, hx⟩
 have := hb g hS (Array.getElem?_eq_some_iff.1 hg).1
 exact ⟨g, o, cur, ha, this.2, this.1.trans hg, hs, hx⟩
theorem Ap.first {W w w1 : World} {u : Value} {l : List Int} (hB : Below W.heap.size W w) (ho : Md.Own w (fun k => W.heap.size ≤ k) 3 1 u l.length (ints l)) (c : Cq) (h1 : w1 = w.alloc (cqO c)) : Ap W w1 w.heap.size c u l := by
 subst h1
 exact ⟨hB.alloc hB.size _, hB.size, new_at _ _ _ rfl, own_kept ho (fun k hk hl => ⟨Below.heap_alloc _ _ _ hl, hk, by omega⟩)⟩
theorem Ap.below {W w w' : World} {b : Nat} {c : Cq} {u : Value} {l : List Int} (h : Ap W w b c u l) (hB : Below w.heap.size w w') : Ap W w' b c u l :=
 ⟨h.bel.trans (hB.mono h.bel.size), h.up, (hB.block _ (Array.getElem?_eq_some_iff.1 h.box).1).trans h.box, h.own.below hB⟩
theorem Ap.app {W w w1 w2 : World} {b : Nat} {c : Cq} {u u' : Value} {l : List Int} {x : Int} {o : Obj} (h : Ap W w b c u l) (h1 : w1 = w.alloc o) (ho : Md.Own w2 (fun k => (W.heap.size ≤ k ∧ k ≠ b) ∨ k = w1.heap.size) 3 1 u' (l.length + 1) (ints l ++ [.int .i64 x])) (hf : Fr w1 w2 (fun k => W.heap.size ≤ k ∧ k ≠ b)) : Ap W w2 b c u' (l ++ [x]) := by
 have hb := (Array.getElem?_eq_some_iff.1 h.box).1
 have hs := h.bel.size
 have B1 : Below W.heap.size W w1 := by subst h1; exact h.bel.alloc hs _
 have hb1 : w1.heap[b]? = some (cqO c) := by subst h1; exact old_at h.box _
 have hb1l := (Array.getElem?_eq_some_iff.1 hb1).1
 refine ⟨⟨hf.os.trans B1.os, hf.tape.trans B1.tape, hf.output.trans B1.output, Nat.le_trans B1.size hf.size, fun k hk => (hf.block k (Nat.lt_of_lt_of_le hk B1.size) (by omega)).trans (B1.block k hk)⟩, h.up, (hf.block b hb1l (by simp)).trans hb1, ?_⟩
 have e : ints l ++ [Value.int .i64 x] = ints (l ++ [x]) := by simp [ints]
 rw [e] at ho
 rw [List.length_append]
 exact ho.mono (fun k hk => by have := B1.size; omega)
theorem Ap.done {W w : World} {b : Nat} {c : Cq} {u : Value} {l : List Int} (h : Ap W w b c u l) : Md.Own w (fun k => W.heap.size ≤ k) 3 1 u l.length (ints l) := h.own.mono (fun k hk => hk.1)
end Go.Proofs.YtnbibkohgppjnaaGreat.Wt
namespace Go.Proofs.YtnbibkohgppjnaaGreat.Ws
open Go.RowKit Mr Md Wt
def sbO (vc vn : Value) (ah : Nat → Nat) (en : Nat) (mv : Value) : Obj :=
 .cells #[vc, vn, gv (ah 0), gv (ah 1), gv (ah 2), gv (ah 3), gv (ah 4), gv (ah 5), gv (ah 6), gv (ah 7), gv en, mv] 68 (0, 0)
theorem sb_cells {W : World} {b : Nat} {vc vn mv : Value} {ah : Nat → Nat} {en : Nat} (h : W.heap[b]? = some (sbO vc vn ah en mv)) :
  b < W.heap.size ∧ W.cell? ⟨b, 0, none⟩ = some vc ∧ W.cell? ⟨b, 1, none⟩ = some vn ∧ W.cell? ⟨b, 10, none⟩ = some (.int .u64 (en : Int)) ∧ W.cell? ⟨b, 11, none⟩ = some mv := by
 refine ⟨(Array.getElem?_eq_some_iff.1 h).1, ?_, ?_, ?_, ?_⟩ <;> (unfold World.cell?; rw [h]; rfl)
theorem sb_ah {W : World} {b : Nat} {vc vn mv : Value} {ah : Nat → Nat} {en : Nat} (h : W.heap[b]? = some (sbO vc vn ah en mv)) (i : Nat) (hi : i < 8) : W.cell? ⟨b, 2 + i, none⟩ = some (.int .u64 (ah i : Int)) := by
 unfold World.cell?
 rw [h]
 match i, hi with
 | 0, _ => rfl
 | 1, _ => rfl
 | 2, _ => rfl
 | 3, _ => rfl
 | 4, _ => rfl
 | 5, _ => rfl
 | 6, _ => rfl
 | 7, _ => rfl
theorem st_cells {W : World} {b P : Nat} {v0 v1 v2 v3 v4 : Value} (h : W.heap[b]? = some (stO P v0 v1 v2 v3 v4)) :
  b < W.heap.size ∧ W.cell? ⟨b, 0, none⟩ = some (.int .u64 (P : Int)) ∧ W.cell? ⟨b, 1, none⟩ = some v0 ∧ W.cell? ⟨b, 2, none⟩ = some v1 ∧ W.cell? ⟨b, 3, none⟩ = some v2 ∧ W.cell? ⟨b, 4, none⟩ = some v3 ∧ W.cell? ⟨b, 5, none⟩ = some v4 := by
 refine ⟨(Array.getElem?_eq_some_iff.1 h).1, ?_, ?_, ?_, ?_, ?_, ?_⟩ <;> (unfold World.cell?; rw [h]; rfl)
set_option maxHeartbeats 2000000 in
theorem whole_any {W : World} {b : Nat} {vc vn mv : Value} {ah : Nat → Nat} {en P : Nat} (h : W.heap[b]? = some (sbO vc vn ah en mv)) (he : en < 256) (hP : P < 256) (v0 v1 v2 v3 v4 : Value) :
  Calls Tryz.prog 30 #[.pointer (some ⟨b, 0, none⟩), .agg #[gv P, v0, v1, v2, v3, v4]] W fun e w' => e = .returned (.bool (inB8 en P)) ∧ Below W.heap.size W w' := by
 obtain ⟨hl, _, _, h10, _⟩ := sb_cells h
 have hC := fun W' => Mr.hid (within_any en P he hP W')
 have hB : Below W.heap.size W (W.alloc (stO P v0 v1 v2 v3 v4)) := (Below.refl _ _).alloc (Nat.le_refl _) _
 have k10 := (hB.cell (p := ⟨b, 10, none⟩) hl).trans h10
 have k0 := (st_cells (new_at W (stO P v0 v1 v2 v3 v4) _ rfl)).2.1
 unfold stO gv at *
 go_enter Tryz.func30, Tryz.ntmps30
 go_upto_region 1 with (fail)
 go_region_with ((go_at_call 47; refine (hC _).out.mono ?_; rintro e w' ⟨rfl, rfl⟩))
 all_goals go_wp2
 all_goals go_ret
 all_goals exact ⟨rfl, hB.drew⟩
set_option maxHeartbeats 2000000 in
theorem onward_any {W : World} {b : Nat} {P : Nat} (v0 v1 v2 v3 v4 : Value) :
  Calls Tryz.prog 32 #[.pointer (some ⟨b, 0, none⟩), .agg #[gv P, v0, v1, v2, v3, v4]] W fun e w' => e = .returned (.func (.func 49) #[] #[.pointer (some ⟨W.heap.size, 0, none⟩), .pointer (some ⟨W.heap.size + 1, 0, none⟩)]) ∧ w' = (W.alloc (.cells #[.pointer (some ⟨b, 0, none⟩)] 46 (0, 0))).alloc (stO P v0 v1 v2 v3 v4) := by
 unfold stO gv
 go_enter Tryz.func32, Tryz.ntmps32
 go_wp2
 go_ret
 exact ⟨rfl, rfl⟩
end Go.Proofs.YtnbibkohgppjnaaGreat.Ws
namespace Go.Proofs.YtnbibkohgppjnaaGreat.Md
open Go.RowKit Mr
theorem Own.kept2 {W W' : World} {S T : Nat → Prop} {e : TypeId} {size n : Nat} {v : Value} {xs : List Value} (h : Own W S e size v n xs) (hb : ∀ k, S k → k < W.heap.size → W'.heap[k]? = W.heap[k]?) (hT : ∀ k, S k → k < W.heap.size → T k) : Own W' T e size v n xs := by
 obtain ⟨h1, a, cap, hv, hc, hm, h2⟩ := h
 refine ⟨h1, a, cap, hv, hc, hm, h2.imp id ?_⟩
 rintro ⟨g, o, cur, ha, hS, hg, hs, hx⟩
 have hl := (Array.getElem?_eq_some_iff.1 hg).1
 exact ⟨g, o, cur, ha, hT g hS hl, (hb g hS hl).trans hg, hs, hx⟩
def Ob (W : World) (S : Nat → Prop) (g : Nat) (tb e : TypeId) (size n : Nat) (xs : List Value) : Prop :=
 ∃ v, S g ∧ W.heap[g]? = some (.cells #[v] tb (0, 0)) ∧ Own W (fun k => S k ∧ k ≠ g) e size v n xs
theorem Ob.kept {W W' : World} {S T : Nat → Prop} {g : Nat} {tb e : TypeId} {size n : Nat} {xs : List Value} (h : Ob W S g tb e size n xs) (hb : ∀ k, S k → k < W.heap.size → W'.heap[k]? = W.heap[k]?) (hT : ∀ k, S k → k < W.heap.size → T k) : Ob W' T g tb e size n xs := by
 obtain ⟨v, hS, hg, hO⟩ := h
 have hl := (Array.getElem?_eq_some_iff.1 hg).1
 exact ⟨v, hT g hS hl, (hb g hS hl).trans hg, hO.kept2 (fun k hk hl => hb k hk.1 hl) (fun k hk hl => ⟨hT k hk.1 hl, hk.2⟩)⟩
theorem Ob.below {W W' : World} {S : Nat → Prop} {g : Nat} {tb e : TypeId} {size n : Nat} {xs : List Value} (h : Ob W S g tb e size n xs) (hB : Below W.heap.size W W') : Ob W' (fun k => S k ∧ k < W.heap.size) g tb e size n xs :=
 h.kept (fun k _ hl => hB.block k hl) (fun k hk hl => ⟨hk, hl⟩)
theorem Ob.new {W1 : World} {B : Nat} {v : Value} {tb e : TypeId} {size n : Nat} {xs : List Value} (hO : Own W1 (fun k => B ≤ k) e size v n xs) (hB : B ≤ W1.heap.size) : Ob (W1.alloc (.cells #[v] tb (0, 0))) (fun k => B ≤ k) W1.heap.size tb e size n xs :=
 ⟨v, hB, heap_alloc_new W1 _, hO.kept2 (fun k _ hl => Below.heap_alloc W1 _ k hl) (fun k hk hl => ⟨hk, by omega⟩)⟩
set_option maxRecDepth 100000 in
set_option maxHeartbeats 1000000 in
theorem newCell_any {w : World} {S : Nat → Prop} {u : Value} {l : List Int} (hu : Sl w S 1 u l.length (ints l)) (hsm : l.length * 8 ≤ 225100000000000) :
  Calls Tryz.prog 89 #[u] w fun e w' => ∃ g, e = .returned (.pointer (some ⟨g, 0, none⟩)) ∧ Ob w' (fun k => w.heap.size ≤ k) g 171 3 1 l.length (ints l) ∧ Below w.heap.size w w' := by
 obtain ⟨a, c, rfl, hc⟩ := hu.form
 have C1 := cloneI_any hu hsm
 clear hu
 replace C1 := Mr.hid C1
 go_enter Tryz.func89, Tryz.ntmps89
 go_wp2_with (first | (go_at_call 113; refine C1.out.mono ?_; rintro e w1 ⟨v1, rfl, hO, hB⟩; obtain ⟨a1, c1, rfl, _, _⟩ := hO.form; replace hO := Mr.hid hO))
 go_ret
 exact ⟨_, rfl, Ob.new hO.out hB.size, hB.alloc hB.size _⟩
set_option maxRecDepth 100000 in
set_option maxHeartbeats 1000000 in
theorem newStack_any {w : World} {S : Nat → Prop} {u : Value} {l : List Int} (hu : Sl w S 1 u l.length (ints l)) (hsm : l.length * 8 ≤ 225100000000000) :
  Calls Tryz.prog 90 #[u] w fun e w' => ∃ g, e = .returned (.pointer (some ⟨g, 0, none⟩)) ∧ Ob w' (fun k => w.heap.size ≤ k) g 172 3 1 l.length (ints l.reverse) ∧ Below w.heap.size w w' := by
 obtain ⟨a, c, rfl, hc⟩ := hu.form
 have C1 := turned_any hu hsm
 clear hu
 replace C1 := Mr.hid C1
 go_enter Tryz.func90, Tryz.ntmps90
 go_wp2_with (first | (go_at_call 114; refine C1.out.mono ?_; rintro e w1 ⟨v1, rfl, hO, hB⟩; obtain ⟨a1, c1, rfl, _, _⟩ := hO.form; replace hO := Mr.hid hO))
 go_ret
 exact ⟨_, rfl, Ob.new hO.out hB.size, hB.alloc hB.size _⟩
set_option maxRecDepth 100000 in
set_option maxHeartbeats 1000000 in
theorem newQueue_any {w : World} {S : Nat → Prop} {u : Value} {l : List Int} (hu : Sl w S 1 u l.length (ints l)) (hsm : l.length * 8 ≤ 225100000000000) :
  Calls Tryz.prog 91 #[u] w fun e w' => ∃ g, e = .returned (.pointer (some ⟨g, 0, none⟩)) ∧ Ob w' (fun k => w.heap.size ≤ k) g 173 3 1 l.length (ints l) ∧ Below w.heap.size w w' := by
 obtain ⟨a, c, rfl, hc⟩ := hu.form
 have C1 := cloneI_any hu hsm
 clear hu
 replace C1 := Mr.hid C1
 go_enter Tryz.func91, Tryz.ntmps91
 go_wp2_with (first | (go_at_call 113; refine C1.out.mono ?_; rintro e w1 ⟨v1, rfl, hO, hB⟩; obtain ⟨a1, c1, rfl, _, _⟩ := hO.form; replace hO := Mr.hid hO))
 go_ret
 exact ⟨_, rfl, Ob.new hO.out hB.size, hB.alloc hB.size _⟩
set_option maxRecDepth 100000 in
set_option maxHeartbeats 1000000 in
theorem newSet_any {w : World} {S : Nat → Prop} {u : Value} {l : List Int} (hu : Sl w S 1 u l.length (ints l)) (hsm : l.length * 8 ≤ 225100000000000) :
  Calls Tryz.prog 92 #[u] w fun e w' => ∃ g, e = .returned (.pointer (some ⟨g, 0, none⟩)) ∧ Ob w' (fun k => w.heap.size ≤ k) g 175 3 1 l.length (ints l) ∧ Below w.heap.size w w' := by
 obtain ⟨a, c, rfl, hc⟩ := hu.form
 have C1 := cloneI_any hu hsm
 clear hu
 replace C1 := Mr.hid C1
 go_enter Tryz.func92, Tryz.ntmps92
 go_wp2_with (first | (go_at_call 113; refine C1.out.mono ?_; rintro e w1 ⟨v1, rfl, hO, hB⟩; obtain ⟨a1, c1, rfl, _, _⟩ := hO.form; replace hO := Mr.hid hO))
 go_ret
 exact ⟨_, rfl, Ob.new hO.out hB.size, hB.alloc hB.size _⟩
set_option maxRecDepth 100000 in
set_option maxHeartbeats 1000000 in
theorem newTable_any {w : World} {S : Nat → Prop} {u : Value} {l : List (Int × Int)} (hu : Sl w S 2 u l.length (prs l)) (hsm : l.length * 16 ≤ 225100000000000) :
  Calls Tryz.prog 93 #[u] w fun e w' => ∃ g, e = .returned (.pointer (some ⟨g, 0, none⟩)) ∧ Ob w' (fun k => w.heap.size ≤ k) g 178 92 2 l.length (prs l) ∧ Below w.heap.size w w' := by
 obtain ⟨a, c, rfl, hc⟩ := hu.form
 have C1 := cloneP_any hu hsm
 clear hu
 replace C1 := Mr.hid C1
 go_enter Tryz.func93, Tryz.ntmps93
 go_wp2_with (first | (go_at_call 115; refine C1.out.mono ?_; rintro e w1 ⟨v1, rfl, hO, hB⟩; obtain ⟨a1, c1, rfl, _, _⟩ := hO.form; replace hO := Mr.hid hO))
 go_ret
 exact ⟨_, rfl, Ob.new hO.out hB.size, hB.alloc hB.size _⟩
structure Wd (W : World) (B : Nat) (lab : Nat → Nat) (g0 g1 g2 g3 g4 : Nat) (x : Ct) : Prop where
 low : ∀ k, lab k < 5 → B ≤ k
 cell : Ob W (fun k => lab k = 0) g0 171 3 1 x.cell.length (ints x.cell)
 stack : Ob W (fun k => lab k = 1) g1 172 3 1 x.stack.length (ints x.stack.reverse)
 queue : Ob W (fun k => lab k = 2) g2 173 3 1 x.queue.length (ints x.queue)
 set : Ob W (fun k => lab k = 3) g3 175 3 1 x.set.length (ints x.set)
 table : Ob W (fun k => lab k = 4) g4 178 92 2 x.table.length (prs x.table)
def labs (s0 s1 s2 s3 s4 : Nat) (k : Nat) : Nat := if k < s0 then 5 else if k < s1 then 0 else if k < s2 then 1 else if k < s3 then 2 else if k < s4 then 3 else 4
def wdV (g0 g1 g2 g3 g4 : Nat) : Value := .agg #[.iface 139 (.pointer (some ⟨g0, 0, none⟩)), .iface 141 (.pointer (some ⟨g1, 0, none⟩)), .iface 143 (.pointer (some ⟨g2, 0, none⟩)), .iface 145 (.pointer (some ⟨g3, 0, none⟩)), .iface 147 (.pointer (some ⟨g4, 0, none⟩))]
def Tq (W w : World) (bU bR : Nat) (o r : Obj) : Prop := Below W.heap.size W w ∧ w.heap[bU]? = some o ∧ w.heap[bR]? = some r ∧ bR < w.heap.size ∧ W.heap.size ≤ bU ∧ W.heap.size ≤ bR ∧ bU < bR
theorem Tq.new (W : World) (o r : Obj) : Tq W ((W.alloc o).alloc r) W.heap.size (W.heap.size + 1) o r :=
 ⟨((Below.refl _ _).alloc (Nat.le_refl _) _).alloc (by simp) _, old_at (new_at W _ _ rfl) _, new_at _ _ _ (by simp), by simp, Nat.le_refl _, by omega, by omega⟩
theorem Tq.below {W w w' : World} {bU bR : Nat} {o r : Obj} (h : Tq W w bU bR o r) (hB : Below w.heap.size w w') : Tq W w' bU bR o r :=
 ⟨h.1.trans (hB.mono h.1.size), (hB.block _ (by have := h.2.2.2.1; have := h.2.2.2.2.2.2; omega)).trans h.2.1, (hB.block _ h.2.2.2.1).trans h.2.2.1, Nat.lt_of_lt_of_le h.2.2.2.1 hB.size, h.2.2.2.2⟩
theorem Tq.drew {W w : World} {bU bR : Nat} {o r : Obj} (h : Tq W w bU bR o r) : Tq W w.drew bU bR o r := ⟨h.1.drew, h.2⟩
theorem ifs_cells {W : World} {b : Nat} {v0 v1 v2 v3 v4 : Value} {t : TypeId} (h : W.heap[b]? = some (.cells #[v0, v1, v2, v3, v4] t (0, 0))) : W.cell? ⟨b, 0, none⟩ = some v0 ∧ W.cell? ⟨b, 1, none⟩ = some v1 ∧ W.cell? ⟨b, 2, none⟩ = some v2 ∧ W.cell? ⟨b, 3, none⟩ = some v3 ∧ W.cell? ⟨b, 4, none⟩ = some v4 ∧ b < W.heap.size :=
 ⟨by simp [World.cell?, h], by simp [World.cell?, h], by simp [World.cell?, h], by simp [World.cell?, h], by simp [World.cell?, h], (Array.getElem?_eq_some_iff.1 h).1⟩
theorem ifs_thaw {W : World} {b : Nat} {v0 v1 v2 v3 v4 : Value} {t : TypeId} (h : W.heap[b]? = some (.cells #[v0, v1, v2, v3, v4] t (0, 0))) : W.frozen? ⟨b, 0, none⟩ = false ∧ W.frozen? ⟨b, 1, none⟩ = false ∧ W.frozen? ⟨b, 2, none⟩ = false ∧ W.frozen? ⟨b, 3, none⟩ = false ∧ W.frozen? ⟨b, 4, none⟩ = false :=
 ⟨by simp [World.frozen?, h], by simp [World.frozen?, h], by simp [World.frozen?, h], by simp [World.frozen?, h], by simp [World.frozen?, h]⟩
theorem set5_five {w : World} {b : Nat} {t : TypeId} {u0 u1 u2 u3 u4 : Value} (v0 v1 v2 v3 v4 : Value) (h : w.heap[b]? = some (.cells #[u0, u1, u2, u3, u4] t (0, 0))) : (set5 w b v0 v1 v2 v3 v4).heap[b]? = some (.cells #[v0, v1, v2, v3, v4] t (0, 0)) := by
 unfold set5
 exact setBlk (setBlk (setBlk (setBlk (setBlk h 0 v0) 1 v1) 2 v2) 3 v3) 4 v4
theorem five_far {w : World} {bU bR : Nat} {s0 s1 s2 s3 s4 : Value} {t : TypeId} (h : w.heap[bU]? = some (.cells #[s0, s1, s2, s3, s4] t (0, 0))) (hne : bU < bR) (v0 v1 v2 v3 v4 : Value) :
  (((((w.setCell ⟨bR, 0, none⟩ v0).setCell ⟨bR, 1, none⟩ v1).setCell ⟨bR, 2, none⟩ v2).setCell ⟨bR, 3, none⟩ v3).setCell ⟨bR, 4, none⟩ v4).cell? ⟨bU, 0, none⟩ = some s0 ∧ (((((w.setCell ⟨bR, 0, none⟩ v0).setCell ⟨bR, 1, none⟩ v1).setCell ⟨bR, 2, none⟩ v2).setCell ⟨bR, 3, none⟩ v3).setCell ⟨bR, 4, none⟩ v4).cell? ⟨bU, 1, none⟩ = some s1 ∧ (((((w.setCell ⟨bR, 0, none⟩ v0).setCell ⟨bR, 1, none⟩ v1).setCell ⟨bR, 2, none⟩ v2).setCell ⟨bR, 3, none⟩ v3).setCell ⟨bR, 4, none⟩ v4).cell? ⟨bU, 2, none⟩ = some s2 ∧ (((((w.setCell ⟨bR, 0, none⟩ v0).setCell ⟨bR, 1, none⟩ v1).setCell ⟨bR, 2, none⟩ v2).setCell ⟨bR, 3, none⟩ v3).setCell ⟨bR, 4, none⟩ v4).cell? ⟨bU, 3, none⟩ = some s3 ∧ (((((w.setCell ⟨bR, 0, none⟩ v0).setCell ⟨bR, 1, none⟩ v1).setCell ⟨bR, 2, none⟩ v2).setCell ⟨bR, 3, none⟩ v3).setCell ⟨bR, 4, none⟩ v4).cell? ⟨bU, 4, none⟩ = some s4 := by
 obtain ⟨k0, k1, k2, k3, k4, _⟩ := ifs_cells ((set5_far w bR v0 v1 v2 v3 v4 bU (by omega)).trans h)
 exact ⟨k0, k1, k2, k3, k4⟩
theorem wd_made {w0 w1 w2 w3 w4 w5 w6 : World} {B g0 g1 g2 g3 g4 : Nat} {x : Ct} (o0 : Ob w1 (fun k => w0.heap.size ≤ k) g0 171 3 1 x.cell.length (ints x.cell)) (o1 : Ob w2 (fun k => w1.heap.size ≤ k) g1 172 3 1 x.stack.length (ints x.stack.reverse)) (o2 : Ob w3 (fun k => w2.heap.size ≤ k) g2 173 3 1 x.queue.length (ints x.queue)) (o3 : Ob w4 (fun k => w3.heap.size ≤ k) g3 175 3 1 x.set.length (ints x.set)) (o4 : Ob w5 (fun k => w4.heap.size ≤ k) g4 178 92 2 x.table.length (prs x.table)) (h1 : Below w0.heap.size w0 w1) (h2 : Below w1.heap.size w1 w2) (h3 : Below w2.heap.size w2 w3) (h4 : Below w3.heap.size w3 w4) (h5 : Below w4.heap.size w4 w5) (hw : ∀ k, w0.heap.size ≤ k → k < w5.heap.size → w6.heap[k]? = w5.heap[k]?) (hB : B ≤ w0.heap.size) : Wd w6 B (labs w0.heap.size w1.heap.size w2.heap.size w3.heap.size w4.heap.size) g0 g1 g2 g3 g4 x := by
 have s1 := h1.size
 have s2 := h2.size
 have s3 := h3.size
 have s4 := h4.size
 have s5 := h5.size
 refine ⟨fun k hk => ?_, ?_, ?_, ?_, ?_, ?_⟩
 ·unfold labs at hk
  split at hk
  ·omega
  ·omega
 ·refine o0.kept (fun k hk hl => ?_) (fun k hk hl => ?_)
  ·exact (hw k (by omega) (by omega)).trans ((h5.block k (by omega)).trans ((h4.block k (by omega)).trans ((h3.block k (by omega)).trans (h2.block k (by omega)))))
  ·unfold labs
   rw [if_neg (by omega)]
   rw [if_pos (by omega)]
 ·refine o1.kept (fun k hk hl => ?_) (fun k hk hl => ?_)
  ·exact (hw k (by omega) (by omega)).trans ((h5.block k (by omega)).trans ((h4.block k (by omega)).trans (h3.block k (by omega))))
  ·unfold labs
   rw [if_neg (by omega)]
   rw [if_neg (by omega)]
   rw [if_pos (by omega)]
 ·refine o2.kept (fun k hk hl => ?_) (fun k hk hl => ?_)
  ·exact (hw k (by omega) (by omega)).trans ((h5.block k (by omega)).trans (h4.block k (by omega)))
  ·unfold labs
   rw [if_neg (by omega)]
   rw [if_neg (by omega)]
   rw [if_neg (by omega)]
   rw [if_pos (by omega)]
 ·refine o3.kept (fun k hk hl => ?_) (fun k hk hl => ?_)
  ·exact (hw k (by omega) (by omega)).trans (h5.block k (by omega))
  ·unfold labs
   rw [if_neg (by omega)]
   rw [if_neg (by omega)]
   rw [if_neg (by omega)]
   rw [if_neg (by omega)]
   rw [if_pos (by omega)]
 ·refine o4.kept (fun k hk hl => ?_) (fun k hk hl => ?_)
  ·exact (hw k (by omega) (by omega))
  ·unfold labs
   rw [if_neg (by omega)]
   rw [if_neg (by omega)]
   rw [if_neg (by omega)]
   rw [if_neg (by omega)]
   rw [if_neg (by omega)]
end Go.Proofs.YtnbibkohgppjnaaGreat.Md
namespace Go.Proofs.YtnbibkohgppjnaaGreat.Md
open Go.RowKit Mr
theorem ta_0_0 (a : Addr) (w : World) : (Instr.typeAssert (.iface 139 (.pointer (some a))) 123 139 true).run Tryz.prog w = .ok (.tuple #[.pointer (some a), .bool true]) w := by kernel_rfl
theorem ta_1_0 (a : Addr) (w : World) : (Instr.typeAssert (.iface 141 (.pointer (some a))) 123 139 true).run Tryz.prog w = .ok (.tuple #[.pointer none, .bool false]) w := by kernel_rfl
theorem ta_1_1 (a : Addr) (w : World) : (Instr.typeAssert (.iface 141 (.pointer (some a))) 123 141 true).run Tryz.prog w = .ok (.tuple #[.pointer (some a), .bool true]) w := by kernel_rfl
theorem ta_2_0 (a : Addr) (w : World) : (Instr.typeAssert (.iface 143 (.pointer (some a))) 123 139 true).run Tryz.prog w = .ok (.tuple #[.pointer none, .bool false]) w := by kernel_rfl
theorem ta_2_1 (a : Addr) (w : World) : (Instr.typeAssert (.iface 143 (.pointer (some a))) 123 141 true).run Tryz.prog w = .ok (.tuple #[.pointer none, .bool false]) w := by kernel_rfl
theorem ta_2_2 (a : Addr) (w : World) : (Instr.typeAssert (.iface 143 (.pointer (some a))) 123 143 true).run Tryz.prog w = .ok (.tuple #[.pointer (some a), .bool true]) w := by kernel_rfl
theorem ta_3_0 (a : Addr) (w : World) : (Instr.typeAssert (.iface 145 (.pointer (some a))) 123 139 true).run Tryz.prog w = .ok (.tuple #[.pointer none, .bool false]) w := by kernel_rfl
theorem ta_3_1 (a : Addr) (w : World) : (Instr.typeAssert (.iface 145 (.pointer (some a))) 123 141 true).run Tryz.prog w = .ok (.tuple #[.pointer none, .bool false]) w := by kernel_rfl
theorem ta_3_2 (a : Addr) (w : World) : (Instr.typeAssert (.iface 145 (.pointer (some a))) 123 143 true).run Tryz.prog w = .ok (.tuple #[.pointer none, .bool false]) w := by kernel_rfl
theorem ta_3_3 (a : Addr) (w : World) : (Instr.typeAssert (.iface 145 (.pointer (some a))) 123 145 true).run Tryz.prog w = .ok (.tuple #[.pointer (some a), .bool true]) w := by kernel_rfl
theorem ta_4_0 (a : Addr) (w : World) : (Instr.typeAssert (.iface 147 (.pointer (some a))) 123 139 true).run Tryz.prog w = .ok (.tuple #[.pointer none, .bool false]) w := by kernel_rfl
theorem ta_4_1 (a : Addr) (w : World) : (Instr.typeAssert (.iface 147 (.pointer (some a))) 123 141 true).run Tryz.prog w = .ok (.tuple #[.pointer none, .bool false]) w := by kernel_rfl
theorem ta_4_2 (a : Addr) (w : World) : (Instr.typeAssert (.iface 147 (.pointer (some a))) 123 143 true).run Tryz.prog w = .ok (.tuple #[.pointer none, .bool false]) w := by kernel_rfl
theorem ta_4_3 (a : Addr) (w : World) : (Instr.typeAssert (.iface 147 (.pointer (some a))) 123 145 true).run Tryz.prog w = .ok (.tuple #[.pointer none, .bool false]) w := by kernel_rfl
theorem ta_4_4 (a : Addr) (w : World) : (Instr.typeAssert (.iface 147 (.pointer (some a))) 123 147 true).run Tryz.prog w = .ok (.tuple #[.pointer (some a), .bool true]) w := by kernel_rfl
set_option maxRecDepth 100000 in
set_option maxHeartbeats 2000000 in
theorem put_cell {W : World} {S : Nat → Prop} {g b : Nat} {l : List Int} (ho : Ob W S g 171 3 1 l.length (ints l)) {s0 s1 s2 s3 s4 : Value} (hb : W.heap[b]? = some (ctO s0 s1 s2 s3 s4)) (hbS : ¬ S b) (hsm : l.length * 8 ≤ 225100000000000) :
  Calls Tryz.prog 96 #[.iface 139 (.pointer (some ⟨g, 0, none⟩)), .pointer (some ⟨b, 0, none⟩)] W fun e w' => e = .returned (.tuple #[]) ∧ ∃ v, Own w' (fun k => S k ∨ (W.heap.size ≤ k ∧ k < w'.heap.size)) 3 1 v l.length (ints l) ∧ w'.heap[b]? = some (ctO v s1 s2 s3 s4) ∧ Fr W w' (fun k => k = b) := by
 obtain ⟨v, hS, hg, hO⟩ := ho
 have cg : W.cell? ⟨g, 0, none⟩ = some v := by simp [World.cell?, hg]
 have hgl := (Array.getElem?_eq_some_iff.1 hg).1
 obtain ⟨y0, y1, y2, y3, y4, y5⟩ := ctO_cells hb
 obtain ⟨f0, f1, f2, f3, f4⟩ := ctO_thaw hb
 have ta0 := ta_0_0 ⟨g, 0, none⟩
 have hE : Hid (Own (W.setCell ⟨b, 0, none⟩ v) (fun k => S k ∨ (W.heap.size ≤ k ∧ k < (W.setCell ⟨b, 0, none⟩ v).heap.size)) 3 1 v l.length (ints l) ∧ (W.setCell ⟨b, 0, none⟩ v).heap[b]? = some (ctO v s1 s2 s3 s4) ∧ Fr W (W.setCell ⟨b, 0, none⟩ v) (fun k => k = b)) :=
  ⟨hO.kept2 (fun k hk _ => Below.heap_setCell W _ v k (fun e => hbS ((show k = b from e) ▸ hk.1))) (fun k hk _ => .inl hk.1), setBlk hb 0 v, (Fr.refl W _).setCell _ v (.inl rfl)⟩
 obtain ⟨av, cv, rfl, _, _⟩ := hO.form
 clear hb hg hO hbS hS
 go_enter Tryz.func96, Tryz.ntmps96
 go_wp2
 go_end0
 exact ⟨rfl, _, hE.out⟩
set_option maxRecDepth 100000 in
set_option maxHeartbeats 2000000 in
theorem put_stack {W : World} {S : Nat → Prop} {g b : Nat} {l : List Int} (ho : Ob W S g 172 3 1 l.length (ints l.reverse)) {s0 s1 s2 s3 s4 : Value} (hb : W.heap[b]? = some (ctO s0 s1 s2 s3 s4)) (hbS : ¬ S b) (hsm : l.length * 8 ≤ 225100000000000) :
  Calls Tryz.prog 96 #[.iface 141 (.pointer (some ⟨g, 0, none⟩)), .pointer (some ⟨b, 0, none⟩)] W fun e w' => e = .returned (.tuple #[]) ∧ ∃ v, Own w' (fun k => S k ∨ (W.heap.size ≤ k ∧ k < w'.heap.size)) 3 1 v l.length (ints l) ∧ w'.heap[b]? = some (ctO s0 v s2 s3 s4) ∧ Fr W w' (fun k => k = b) := by
 obtain ⟨v, hS, hg, hO⟩ := ho
 have cg : W.cell? ⟨g, 0, none⟩ = some v := by simp [World.cell?, hg]
 have hgl := (Array.getElem?_eq_some_iff.1 hg).1
 obtain ⟨y0, y1, y2, y3, y4, y5⟩ := ctO_cells hb
 obtain ⟨f0, f1, f2, f3, f4⟩ := ctO_thaw hb
 have ta0 := ta_1_0 ⟨g, 0, none⟩
 have ta1 := ta_1_1 ⟨g, 0, none⟩
 have hO' := hO.sl
 rw [show l.length = l.reverse.length from (List.length_reverse ..).symm] at hO'
 have C := turned_any hO' (by simpa using hsm)
 clear hO'
 simp only [List.length_reverse] at C
 obtain ⟨av, cv, rfl, _, _⟩ := hO.form
 have HB := hb
 clear hb hg hO hS
 replace C := Mr.hid C
 replace HB := Mr.hid HB
 go_enter Tryz.func96, Tryz.ntmps96
 go_wp2_with (first | (go_at_call 114; refine C.out.mono ?_; rintro e w1 ⟨v1, rfl, hO1, hB1⟩; obtain ⟨a1, c1, rfl, _, _⟩ := hO1.form; have HB1 := Mr.hid ((hB1.block b y5).trans HB.out); clear y0 y1 y2 y3 y4 f0 f1 f2 f3 f4; obtain ⟨y0, y1, y2, y3, y4, y6⟩ := ctO_cells HB1.out; obtain ⟨f0, f1, f2, f3, f4⟩ := ctO_thaw HB1.out; replace hO1 := Mr.hid hO1; replace hB1 := Mr.hid hB1))
 go_end0
 refine ⟨rfl, _, ?_, setBlk HB1.out 1 _, (Fr.of_below hB1.out).setCell _ _ (.inl rfl)⟩
 have h1 := hO1.out
 rw [List.reverse_reverse] at h1
 exact h1.kept2 (fun k hk _ => Below.heap_setCell _ _ _ k (fun e => by simp at e; omega)) (fun k hk hl => .inr ⟨hk, by simpa using hl⟩)
set_option maxRecDepth 100000 in
set_option maxHeartbeats 2000000 in
theorem put_queue {W : World} {S : Nat → Prop} {g b : Nat} {l : List Int} (ho : Ob W S g 173 3 1 l.length (ints l)) {s0 s1 s2 s3 s4 : Value} (hb : W.heap[b]? = some (ctO s0 s1 s2 s3 s4)) (hbS : ¬ S b) (hsm : l.length * 8 ≤ 225100000000000) :
  Calls Tryz.prog 96 #[.iface 143 (.pointer (some ⟨g, 0, none⟩)), .pointer (some ⟨b, 0, none⟩)] W fun e w' => e = .returned (.tuple #[]) ∧ ∃ v, Own w' (fun k => S k ∨ (W.heap.size ≤ k ∧ k < w'.heap.size)) 3 1 v l.length (ints l) ∧ w'.heap[b]? = some (ctO s0 s1 v s3 s4) ∧ Fr W w' (fun k => k = b) := by
 obtain ⟨v, hS, hg, hO⟩ := ho
 have cg : W.cell? ⟨g, 0, none⟩ = some v := by simp [World.cell?, hg]
 have hgl := (Array.getElem?_eq_some_iff.1 hg).1
 obtain ⟨y0, y1, y2, y3, y4, y5⟩ := ctO_cells hb
 obtain ⟨f0, f1, f2, f3, f4⟩ := ctO_thaw hb
 have ta0 := ta_2_0 ⟨g, 0, none⟩
 have ta1 := ta_2_1 ⟨g, 0, none⟩
 have ta2 := ta_2_2 ⟨g, 0, none⟩
 have hE : Hid (Own (W.setCell ⟨b, 2, none⟩ v) (fun k => S k ∨ (W.heap.size ≤ k ∧ k < (W.setCell ⟨b, 2, none⟩ v).heap.size)) 3 1 v l.length (ints l) ∧ (W.setCell ⟨b, 2, none⟩ v).heap[b]? = some (ctO s0 s1 v s3 s4) ∧ Fr W (W.setCell ⟨b, 2, none⟩ v) (fun k => k = b)) :=
  ⟨hO.kept2 (fun k hk _ => Below.heap_setCell W _ v k (fun e => hbS ((show k = b from e) ▸ hk.1))) (fun k hk _ => .inl hk.1), setBlk hb 2 v, (Fr.refl W _).setCell _ v (.inl rfl)⟩
 obtain ⟨av, cv, rfl, _, _⟩ := hO.form
 clear hb hg hO hbS hS
 go_enter Tryz.func96, Tryz.ntmps96
 go_wp2
 go_end0
 exact ⟨rfl, _, hE.out⟩
set_option maxRecDepth 100000 in
set_option maxHeartbeats 2000000 in
theorem put_set {W : World} {S : Nat → Prop} {g b : Nat} {l : List Int} (ho : Ob W S g 175 3 1 l.length (ints l)) {s0 s1 s2 s3 s4 : Value} (hb : W.heap[b]? = some (ctO s0 s1 s2 s3 s4)) (hbS : ¬ S b) (hsm : l.length * 8 ≤ 225100000000000) :
  Calls Tryz.prog 96 #[.iface 145 (.pointer (some ⟨g, 0, none⟩)), .pointer (some ⟨b, 0, none⟩)] W fun e w' => e = .returned (.tuple #[]) ∧ ∃ v, Own w' (fun k => S k ∨ (W.heap.size ≤ k ∧ k < w'.heap.size)) 3 1 v l.length (ints l) ∧ w'.heap[b]? = some (ctO s0 s1 s2 v s4) ∧ Fr W w' (fun k => k = b) := by
 obtain ⟨v, hS, hg, hO⟩ := ho
 have cg : W.cell? ⟨g, 0, none⟩ = some v := by simp [World.cell?, hg]
 have hgl := (Array.getElem?_eq_some_iff.1 hg).1
 obtain ⟨y0, y1, y2, y3, y4, y5⟩ := ctO_cells hb
 obtain ⟨f0, f1, f2, f3, f4⟩ := ctO_thaw hb
 have ta0 := ta_3_0 ⟨g, 0, none⟩
 have ta1 := ta_3_1 ⟨g, 0, none⟩
 have ta2 := ta_3_2 ⟨g, 0, none⟩
 have ta3 := ta_3_3 ⟨g, 0, none⟩
 have hE : Hid (Own (W.setCell ⟨b, 3, none⟩ v) (fun k => S k ∨ (W.heap.size ≤ k ∧ k < (W.setCell ⟨b, 3, none⟩ v).heap.size)) 3 1 v l.length (ints l) ∧ (W.setCell ⟨b, 3, none⟩ v).heap[b]? = some (ctO s0 s1 s2 v s4) ∧ Fr W (W.setCell ⟨b, 3, none⟩ v) (fun k => k = b)) :=
  ⟨hO.kept2 (fun k hk _ => Below.heap_setCell W _ v k (fun e => hbS ((show k = b from e) ▸ hk.1))) (fun k hk _ => .inl hk.1), setBlk hb 3 v, (Fr.refl W _).setCell _ v (.inl rfl)⟩
 obtain ⟨av, cv, rfl, _, _⟩ := hO.form
 clear hb hg hO hbS hS
 go_enter Tryz.func96, Tryz.ntmps96
 go_wp2
 go_end0
 exact ⟨rfl, _, hE.out⟩
set_option maxRecDepth 100000 in
set_option maxHeartbeats 2000000 in
theorem put_table {W : World} {S : Nat → Prop} {g b : Nat} {l : List (Int × Int)} (ho : Ob W S g 178 92 2 l.length (prs l)) {s0 s1 s2 s3 s4 : Value} (hb : W.heap[b]? = some (ctO s0 s1 s2 s3 s4)) (hbS : ¬ S b) (hsm : l.length * 16 ≤ 225100000000000) :
  Calls Tryz.prog 96 #[.iface 147 (.pointer (some ⟨g, 0, none⟩)), .pointer (some ⟨b, 0, none⟩)] W fun e w' => e = .returned (.tuple #[]) ∧ ∃ v, Own w' (fun k => S k ∨ (W.heap.size ≤ k ∧ k < w'.heap.size)) 92 2 v l.length (prs l) ∧ w'.heap[b]? = some (ctO s0 s1 s2 s3 v) ∧ Fr W w' (fun k => k = b) := by
 obtain ⟨v, hS, hg, hO⟩ := ho
 have cg : W.cell? ⟨g, 0, none⟩ = some v := by simp [World.cell?, hg]
 have hgl := (Array.getElem?_eq_some_iff.1 hg).1
 obtain ⟨y0, y1, y2, y3, y4, y5⟩ := ctO_cells hb
 obtain ⟨f0, f1, f2, f3, f4⟩ := ctO_thaw hb
 have ta0 := ta_4_0 ⟨g, 0, none⟩
 have ta1 := ta_4_1 ⟨g, 0, none⟩
 have ta2 := ta_4_2 ⟨g, 0, none⟩
 have ta3 := ta_4_3 ⟨g, 0, none⟩
 have ta4 := ta_4_4 ⟨g, 0, none⟩
 have hE : Hid (Own (W.setCell ⟨b, 4, none⟩ v) (fun k => S k ∨ (W.heap.size ≤ k ∧ k < (W.setCell ⟨b, 4, none⟩ v).heap.size)) 92 2 v l.length (prs l) ∧ (W.setCell ⟨b, 4, none⟩ v).heap[b]? = some (ctO s0 s1 s2 s3 v) ∧ Fr W (W.setCell ⟨b, 4, none⟩ v) (fun k => k = b)) :=
  ⟨hO.kept2 (fun k hk _ => Below.heap_setCell W _ v k (fun e => hbS ((show k = b from e) ▸ hk.1))) (fun k hk _ => .inl hk.1), setBlk hb 4 v, (Fr.refl W _).setCell _ v (.inl rfl)⟩
 obtain ⟨av, cv, rfl, _, _⟩ := hO.form
 clear hb hg hO hbS hS
 go_enter Tryz.func96, Tryz.ntmps96
 go_wp2
 go_end0
 exact ⟨rfl, _, hE.out⟩
structure CtOwn (W : World) (B : Nat) (lab : Nat → Nat) (v0 v1 v2 v3 v4 : Value) (x : Ct) : Prop where
 low : ∀ k, lab k < 5 → B ≤ k
 cell : Own W (fun k => lab k = 0) 3 1 v0 x.cell.length (ints x.cell)
 stack : Own W (fun k => lab k = 1) 3 1 v1 x.stack.length (ints x.stack)
 queue : Own W (fun k => lab k = 2) 3 1 v2 x.queue.length (ints x.queue)
 set : Own W (fun k => lab k = 3) 3 1 v3 x.set.length (ints x.set)
 table : Own W (fun k => lab k = 4) 92 2 v4 x.table.length (prs x.table)
theorem CtOwn.at {W : World} {B : Nat} {lab : Nat → Nat} {v0 v1 v2 v3 v4 : Value} {x : Ct} (h : CtOwn W B lab v0 v1 v2 v3 v4 x) : CtAt W (fun k => B ≤ k) v0 v1 v2 v3 v4 x :=
 ⟨h.cell.sl.mono (fun k e => h.low k (by omega)), h.stack.sl.mono (fun k e => h.low k (by omega)), h.queue.sl.mono (fun k e => h.low k (by omega)), h.set.sl.mono (fun k e => h.low k (by omega)), h.table.sl.mono (fun k e => h.low k (by omega))⟩
def labc (n : Nat) (lab : Nat → Nat) (s0 s1 s2 s3 s4 : Nat) (k : Nat) : Nat := if k < n then lab k else labs s0 s1 s2 s3 s4 k
theorem labc_old {n : Nat} {lab : Nat → Nat} {s0 s1 s2 s3 s4 k : Nat} (h : k < n) : labc n lab s0 s1 s2 s3 s4 k = lab k := if_pos h
theorem labc_new {n : Nat} {lab : Nat → Nat} {s0 s1 s2 s3 s4 k : Nat} (h : n ≤ k) : labc n lab s0 s1 s2 s3 s4 k = labs s0 s1 s2 s3 s4 k := if_neg (by omega)
end Go.Proofs.YtnbibkohgppjnaaGreat.Md
namespace Go.Proofs.YtnbibkohgppjnaaGreat.Md
open Go.RowKit Mr
theorem ct_made {w0 w1 w2 w3 w4 w5 w6 : World} {B n bS bR : Nat} {lab : Nat → Nat} {v0 v1 v2 v3 v4 : Value} {x : Ct} (o0 : Own w1 (fun k => (lab k = 0 ∧ k < n) ∨ (w0.heap.size ≤ k ∧ k < w1.heap.size)) 3 1 v0 x.cell.length (ints x.cell)) (o1 : Own w2 (fun k => (lab k = 1 ∧ k < n) ∨ (w1.heap.size ≤ k ∧ k < w2.heap.size)) 3 1 v1 x.stack.length (ints x.stack)) (o2 : Own w3 (fun k => (lab k = 2 ∧ k < n) ∨ (w2.heap.size ≤ k ∧ k < w3.heap.size)) 3 1 v2 x.queue.length (ints x.queue)) (o3 : Own w4 (fun k => (lab k = 3 ∧ k < n) ∨ (w3.heap.size ≤ k ∧ k < w4.heap.size)) 3 1 v3 x.set.length (ints x.set)) (o4 : Own w5 (fun k => (lab k = 4 ∧ k < n) ∨ (w4.heap.size ≤ k ∧ k < w5.heap.size)) 92 2 v4 x.table.length (prs x.table)) (f1 : Fr w0 w1 (fun k => k = bS)) (f2 : Fr w1 w2 (fun k => k = bS)) (f3 : Fr w2 w3 (fun k => k = bS)) (f4 : Fr w3 w4 (fun k => k = bS)) (f5 : Fr w4 w5 (fun k => k = bS)) (hw : ∀ k, k ≠ bR → w6.heap[k]? = w5.heap[k]?) (low : ∀ k, lab k < 5 → B ≤ k) (hB : B ≤ n) (h1 : n ≤ bS) (h2 : bS < w0.heap.size) (h3 : n ≤ bR) (h4 : bR < w0.heap.size) : CtOwn w6 B (labc n lab w0.heap.size w1.heap.size w2.heap.size w3.heap.size w4.heap.size) v0 v1 v2 v3 v4 x := by
 have s1 := f1.size
 have s2 := f2.size
 have s3 := f3.size
 have s4 := f4.size
 have s5 := f5.size
 refine ⟨fun k hk => ?_, ?_, ?_, ?_, ?_, ?_⟩
 ·by_cases h : k < n
  ·rw [labc_old h] at hk; exact low k hk
  ·omega
 ·refine o0.kept2 (fun k hk hl => ?_) (fun k hk hl => ?_)
  ·exact (hw k (by omega)).trans ((f5.block k (by omega) (by omega)).trans ((f4.block k (by omega) (by omega)).trans ((f3.block k (by omega) (by omega)).trans (f2.block k (by omega) (by omega)))))
  ·rcases hk with hk | hk
   ·rw [labc_old hk.2]; exact hk.1
   ·rw [labc_new (by omega)]
    unfold labs
    rw [if_neg (by omega)]
    rw [if_pos (by omega)]
 ·refine o1.kept2 (fun k hk hl => ?_) (fun k hk hl => ?_)
  ·exact (hw k (by omega)).trans ((f5.block k (by omega) (by omega)).trans ((f4.block k (by omega) (by omega)).trans (f3.block k (by omega) (by omega))))
  ·rcases hk with hk | hk
   ·rw [labc_old hk.2]; exact hk.1
   ·rw [labc_new (by omega)]
    unfold labs
    rw [if_neg (by omega)]
    rw [if_neg (by omega)]
    rw [if_pos (by omega)]
 ·refine o2.kept2 (fun k hk hl => ?_) (fun k hk hl => ?_)
  ·exact (hw k (by omega)).trans ((f5.block k (by omega) (by omega)).trans (f4.block k (by omega) (by omega)))
  ·rcases hk with hk | hk
   ·rw [labc_old hk.2]; exact hk.1
   ·rw [labc_new (by omega)]
    unfold labs
    rw [if_neg (by omega)]
    rw [if_neg (by omega)]
    rw [if_neg (by omega)]
    rw [if_pos (by omega)]
 ·refine o3.kept2 (fun k hk hl => ?_) (fun k hk hl => ?_)
  ·exact (hw k (by omega)).trans (f5.block k (by omega) (by omega))
  ·rcases hk with hk | hk
   ·rw [labc_old hk.2]; exact hk.1
   ·rw [labc_new (by omega)]
    unfold labs
    rw [if_neg (by omega)]
    rw [if_neg (by omega)]
    rw [if_neg (by omega)]
    rw [if_neg (by omega)]
    rw [if_pos (by omega)]
 ·refine o4.kept2 (fun k hk hl => ?_) (fun k hk hl => ?_)
  ·exact (hw k (by omega))
  ·rcases hk with hk | hk
   ·rw [labc_old hk.2]; exact hk.1
   ·rw [labc_new (by omega)]
    unfold labs
    rw [if_neg (by omega)]
    rw [if_neg (by omega)]
    rw [if_neg (by omega)]
    rw [if_neg (by omega)]
    rw [if_neg (by omega)]
theorem ix_0 (g0 g1 g2 g3 g4 : Nat) (w : World) : (Instr.index 125 (.agg #[.iface 139 (.pointer (some ⟨g0, 0, none⟩)), .iface 141 (.pointer (some ⟨g1, 0, none⟩)), .iface 143 (.pointer (some ⟨g2, 0, none⟩)), .iface 145 (.pointer (some ⟨g3, 0, none⟩)), .iface 147 (.pointer (some ⟨g4, 0, none⟩))]) (.int .i64 0)).run Tryz.prog w = .ok (.iface 139 (.pointer (some ⟨g0, 0, none⟩))) w := by kernel_rfl
theorem ix_1 (g0 g1 g2 g3 g4 : Nat) (w : World) : (Instr.index 125 (.agg #[.iface 139 (.pointer (some ⟨g0, 0, none⟩)), .iface 141 (.pointer (some ⟨g1, 0, none⟩)), .iface 143 (.pointer (some ⟨g2, 0, none⟩)), .iface 145 (.pointer (some ⟨g3, 0, none⟩)), .iface 147 (.pointer (some ⟨g4, 0, none⟩))]) (.int .i64 1)).run Tryz.prog w = .ok (.iface 141 (.pointer (some ⟨g1, 0, none⟩))) w := by kernel_rfl
theorem ix_2 (g0 g1 g2 g3 g4 : Nat) (w : World) : (Instr.index 125 (.agg #[.iface 139 (.pointer (some ⟨g0, 0, none⟩)), .iface 141 (.pointer (some ⟨g1, 0, none⟩)), .iface 143 (.pointer (some ⟨g2, 0, none⟩)), .iface 145 (.pointer (some ⟨g3, 0, none⟩)), .iface 147 (.pointer (some ⟨g4, 0, none⟩))]) (.int .i64 2)).run Tryz.prog w = .ok (.iface 143 (.pointer (some ⟨g2, 0, none⟩))) w := by kernel_rfl
theorem ix_3 (g0 g1 g2 g3 g4 : Nat) (w : World) : (Instr.index 125 (.agg #[.iface 139 (.pointer (some ⟨g0, 0, none⟩)), .iface 141 (.pointer (some ⟨g1, 0, none⟩)), .iface 143 (.pointer (some ⟨g2, 0, none⟩)), .iface 145 (.pointer (some ⟨g3, 0, none⟩)), .iface 147 (.pointer (some ⟨g4, 0, none⟩))]) (.int .i64 3)).run Tryz.prog w = .ok (.iface 145 (.pointer (some ⟨g3, 0, none⟩))) w := by kernel_rfl
theorem ix_4 (g0 g1 g2 g3 g4 : Nat) (w : World) : (Instr.index 125 (.agg #[.iface 139 (.pointer (some ⟨g0, 0, none⟩)), .iface 141 (.pointer (some ⟨g1, 0, none⟩)), .iface 143 (.pointer (some ⟨g2, 0, none⟩)), .iface 145 (.pointer (some ⟨g3, 0, none⟩)), .iface 147 (.pointer (some ⟨g4, 0, none⟩))]) (.int .i64 4)).run Tryz.prog w = .ok (.iface 147 (.pointer (some ⟨g4, 0, none⟩))) w := by kernel_rfl
set_option maxRecDepth 100000 in
set_option maxHeartbeats 8000000 in
theorem contents_any {W : World} {B : Nat} {lab : Nat → Nat} {g0 g1 g2 g3 g4 : Nat} {x : Ct} (hd : Wd W B lab g0 g1 g2 g3 g4 x) (hB : B ≤ W.heap.size) (hin : CtIn 225100000000000 x) :
  Calls Tryz.prog 77 #[wdV g0 g1 g2 g3 g4] W fun e w' => ∃ v0 v1 v2 v3 v4 lab', e = .returned (.agg #[v0, v1, v2, v3, v4]) ∧ CtOwn w' B lab' v0 v1 v2 v3 v4 x ∧ Below W.heap.size W w' := by
 obtain ⟨n, hn⟩ : ∃ n, n = W.heap.size := ⟨_, rfl⟩
 rw [← hn] at hB
 have P0 := fun (w' : World) (hW : Below W.heap.size W w') (s0 s1 s2 s3 s4 : Value) (hb : w'.heap[n + 2]? = some (ctO s0 s1 s2 s3 s4)) => put_cell (hd.cell.kept (T := fun k => lab k = 0 ∧ k < n) (fun k _ hl => hW.block k hl) (fun k hk hl => ⟨hk, by omega⟩)) hb (fun e => by omega) hin.cell
 have P1 := fun (w' : World) (hW : Below W.heap.size W w') (s0 s1 s2 s3 s4 : Value) (hb : w'.heap[n + 2]? = some (ctO s0 s1 s2 s3 s4)) => put_stack (hd.stack.kept (T := fun k => lab k = 1 ∧ k < n) (fun k _ hl => hW.block k hl) (fun k hk hl => ⟨hk, by omega⟩)) hb (fun e => by omega) hin.stack
 have P2 := fun (w' : World) (hW : Below W.heap.size W w') (s0 s1 s2 s3 s4 : Value) (hb : w'.heap[n + 2]? = some (ctO s0 s1 s2 s3 s4)) => put_queue (hd.queue.kept (T := fun k => lab k = 2 ∧ k < n) (fun k _ hl => hW.block k hl) (fun k hk hl => ⟨hk, by omega⟩)) hb (fun e => by omega) hin.queue
 have P3 := fun (w' : World) (hW : Below W.heap.size W w') (s0 s1 s2 s3 s4 : Value) (hb : w'.heap[n + 2]? = some (ctO s0 s1 s2 s3 s4)) => put_set (hd.set.kept (T := fun k => lab k = 3 ∧ k < n) (fun k _ hl => hW.block k hl) (fun k hk hl => ⟨hk, by omega⟩)) hb (fun e => by omega) hin.set
 have P4 := fun (w' : World) (hW : Below W.heap.size W w') (s0 s1 s2 s3 s4 : Value) (hb : w'.heap[n + 2]? = some (ctO s0 s1 s2 s3 s4)) => put_table (hd.table.kept (T := fun k => lab k = 4 ∧ k < n) (fun k _ hl => hW.block k hl) (fun k hk hl => ⟨hk, by omega⟩)) hb (fun e => by omega) hin.table
 have low := hd.low
 unfold ctO at P0 P1 P2 P3 P4
 have hA : ((W.alloc (.cells #[.iface 139 (.pointer (some ⟨g0, 0, none⟩)), .iface 141 (.pointer (some ⟨g1, 0, none⟩)), .iface 143 (.pointer (some ⟨g2, 0, none⟩)), .iface 145 (.pointer (some ⟨g3, 0, none⟩)), .iface 147 (.pointer (some ⟨g4, 0, none⟩))] 125 (0, 0))).alloc (.cells #[.slice none 0 0, .slice none 0 0, .slice none 0 0, .slice none 0 0, .slice none 0 0] 55 (0, 0))).alloc (.cells #[.slice none 0 0, .slice none 0 0, .slice none 0 0, .slice none 0 0, .slice none 0 0] 55 (0, 0)) = ((W.alloc (.cells #[.iface 139 (.pointer (some ⟨g0, 0, none⟩)), .iface 141 (.pointer (some ⟨g1, 0, none⟩)), .iface 143 (.pointer (some ⟨g2, 0, none⟩)), .iface 145 (.pointer (some ⟨g3, 0, none⟩)), .iface 147 (.pointer (some ⟨g4, 0, none⟩))] 125 (0, 0))).alloc (.cells #[.slice none 0 0, .slice none 0 0, .slice none 0 0, .slice none 0 0, .slice none 0 0] 55 (0, 0))).alloc (.cells #[.slice none 0 0, .slice none 0 0, .slice none 0 0, .slice none 0 0, .slice none 0 0] 55 (0, 0)) := rfl
 have e0 := old_at (old_at (new_at W (.cells #[.iface 139 (.pointer (some ⟨g0, 0, none⟩)), .iface 141 (.pointer (some ⟨g1, 0, none⟩)), .iface 143 (.pointer (some ⟨g2, 0, none⟩)), .iface 145 (.pointer (some ⟨g3, 0, none⟩)), .iface 147 (.pointer (some ⟨g4, 0, none⟩))] 125 (0, 0)) n hn) (.cells #[.slice none 0 0, .slice none 0 0, .slice none 0 0, .slice none 0 0, .slice none 0 0] 55 (0, 0))) (.cells #[.slice none 0 0, .slice none 0 0, .slice none 0 0, .slice none 0 0, .slice none 0 0] 55 (0, 0))
 have e1 := old_at (new_at (W.alloc (.cells #[.iface 139 (.pointer (some ⟨g0, 0, none⟩)), .iface 141 (.pointer (some ⟨g1, 0, none⟩)), .iface 143 (.pointer (some ⟨g2, 0, none⟩)), .iface 145 (.pointer (some ⟨g3, 0, none⟩)), .iface 147 (.pointer (some ⟨g4, 0, none⟩))] 125 (0, 0))) (.cells #[.slice none 0 0, .slice none 0 0, .slice none 0 0, .slice none 0 0, .slice none 0 0] 55 (0, 0)) (n + 1) (by simp [hn])) (.cells #[.slice none 0 0, .slice none 0 0, .slice none 0 0, .slice none 0 0, .slice none 0 0] 55 (0, 0))
 have e2 := new_at ((W.alloc (.cells #[.iface 139 (.pointer (some ⟨g0, 0, none⟩)), .iface 141 (.pointer (some ⟨g1, 0, none⟩)), .iface 143 (.pointer (some ⟨g2, 0, none⟩)), .iface 145 (.pointer (some ⟨g3, 0, none⟩)), .iface 147 (.pointer (some ⟨g4, 0, none⟩))] 125 (0, 0))).alloc (.cells #[.slice none 0 0, .slice none 0 0, .slice none 0 0, .slice none 0 0, .slice none 0 0] 55 (0, 0))) (.cells #[.slice none 0 0, .slice none 0 0, .slice none 0 0, .slice none 0 0, .slice none 0 0] 55 (0, 0)) (n + 2) (by simp [hn])
 have eB : Below W.heap.size W (((W.alloc (.cells #[.iface 139 (.pointer (some ⟨g0, 0, none⟩)), .iface 141 (.pointer (some ⟨g1, 0, none⟩)), .iface 143 (.pointer (some ⟨g2, 0, none⟩)), .iface 145 (.pointer (some ⟨g3, 0, none⟩)), .iface 147 (.pointer (some ⟨g4, 0, none⟩))] 125 (0, 0))).alloc (.cells #[.slice none 0 0, .slice none 0 0, .slice none 0 0, .slice none 0 0, .slice none 0 0] 55 (0, 0))).alloc (.cells #[.slice none 0 0, .slice none 0 0, .slice none 0 0, .slice none 0 0, .slice none 0 0] 55 (0, 0))) := (((Below.refl _ _).alloc (Nat.le_refl _) _).alloc (by simp) _).alloc (by simp; omega) _
 have eS : (((W.alloc (.cells #[.iface 139 (.pointer (some ⟨g0, 0, none⟩)), .iface 141 (.pointer (some ⟨g1, 0, none⟩)), .iface 143 (.pointer (some ⟨g2, 0, none⟩)), .iface 145 (.pointer (some ⟨g3, 0, none⟩)), .iface 147 (.pointer (some ⟨g4, 0, none⟩))] 125 (0, 0))).alloc (.cells #[.slice none 0 0, .slice none 0 0, .slice none 0 0, .slice none 0 0, .slice none 0 0] 55 (0, 0))).alloc (.cells #[.slice none 0 0, .slice none 0 0, .slice none 0 0, .slice none 0 0, .slice none 0 0] 55 (0, 0))).heap.size = n + 3 := by simp [hn]
 clear hA hd
 replace P0 := Mr.hid P0
 replace P1 := Mr.hid P1
 replace P2 := Mr.hid P2
 replace P3 := Mr.hid P3
 replace P4 := Mr.hid P4
 replace low := Mr.hid low
 replace hn := Mr.hid hn
 unfold wdV
 go_enter Tryz.func77, Tryz.ntmps77
 go_wp2
 obtain ⟨w0, hw0⟩ : ∃ w0, ((W.alloc (.cells #[.iface 139 (.pointer (some ⟨g0, 0, none⟩)), .iface 141 (.pointer (some ⟨g1, 0, none⟩)), .iface 143 (.pointer (some ⟨g2, 0, none⟩)), .iface 145 (.pointer (some ⟨g3, 0, none⟩)), .iface 147 (.pointer (some ⟨g4, 0, none⟩))] 125 (0, 0))).alloc (.cells #[.slice none 0 0, .slice none 0 0, .slice none 0 0, .slice none 0 0, .slice none 0 0] 55 (0, 0))).alloc (.cells #[.slice none 0 0, .slice none 0 0, .slice none 0 0, .slice none 0 0, .slice none 0 0] 55 (0, 0)) = w0 := ⟨_, rfl⟩
 rw [hw0] at e0 e1 e2 eB eS ⊢
 rw [show (⟨W.heap.size + 1 + 1, 0, none⟩ : Addr) = ⟨n + 2, 0, none⟩ from by rw [hn.out], show (⟨W.heap.size + 1, 0, none⟩ : Addr) = ⟨n + 1, 0, none⟩ from by rw [hn.out], show (⟨W.heap.size, 0, none⟩ : Addr) = ⟨n, 0, none⟩ from by rw [hn.out]]
 clear hw0 e0
 have TB0 := Mr.hid eB
 have HS0 := Mr.hid e2
 have HR0 := Mr.hid e1
 replace eS := Mr.hid eS
 clear e1 e2 eB
 have ix0 := ix_0 g0 g1 g2 g3 g4
 have ix1 := ix_1 g0 g1 g2 g3 g4
 have ix2 := ix_2 g0 g1 g2 g3 g4
 have ix3 := ix_3 g0 g1 g2 g3 g4
 have ix4 := ix_4 g0 g1 g2 g3 g4
 refine wp_loop_rounds 6 ?_
 rw [rounds_succ]
 go_wp2_with (first | (go_at_call 96; refine (P0.out _ TB0.out _ _ _ _ _ HS0.out).mono ?_; rintro e w1 ⟨rfl, v0, hO0, hS0, hF0⟩; obtain ⟨a0, c0, rfl, _, _⟩ := hO0.form))
 have HS1 := Mr.hid hS0
 have TB1 := Mr.hid (TB0.out.trans (hF0.below (n := W.heap.size) (fun k e => by have := hn.out; omega) TB0.out.size))
 have HR1 := Mr.hid ((hF0.block (n + 1) (Array.getElem?_eq_some_iff.1 HR0.out).1 (by omega)).trans HR0.out)
 replace hO0 := Mr.hid hO0
 replace hF0 := Mr.hid hF0
 clear hS0
 rw [rounds_succ]
 go_wp2_with (first | (go_at_call 96; refine (P1.out _ TB1.out _ _ _ _ _ HS1.out).mono ?_; rintro e w2 ⟨rfl, v1, hO1, hS1, hF1⟩; obtain ⟨a1, c1, rfl, _, _⟩ := hO1.form))
 have HS2 := Mr.hid hS1
 have TB2 := Mr.hid (TB1.out.trans (hF1.below (n := W.heap.size) (fun k e => by have := hn.out; omega) TB1.out.size))
 have HR2 := Mr.hid ((hF1.block (n + 1) (Array.getElem?_eq_some_iff.1 HR1.out).1 (by omega)).trans HR1.out)
 replace hO1 := Mr.hid hO1
 replace hF1 := Mr.hid hF1
 clear hS1
 rw [rounds_succ]
 go_wp2_with (first | (go_at_call 96; refine (P2.out _ TB2.out _ _ _ _ _ HS2.out).mono ?_; rintro e w3 ⟨rfl, v2, hO2, hS2, hF2⟩; obtain ⟨a2, c2, rfl, _, _⟩ := hO2.form))
 have HS3 := Mr.hid hS2
 have TB3 := Mr.hid (TB2.out.trans (hF2.below (n := W.heap.size) (fun k e => by have := hn.out; omega) TB2.out.size))
 have HR3 := Mr.hid ((hF2.block (n + 1) (Array.getElem?_eq_some_iff.1 HR2.out).1 (by omega)).trans HR2.out)
 replace hO2 := Mr.hid hO2
 replace hF2 := Mr.hid hF2
 clear hS2
 rw [rounds_succ]
 go_wp2_with (first | (go_at_call 96; refine (P3.out _ TB3.out _ _ _ _ _ HS3.out).mono ?_; rintro e w4 ⟨rfl, v3, hO3, hS3, hF3⟩; obtain ⟨a3, c3, rfl, _, _⟩ := hO3.form))
 have HS4 := Mr.hid hS3
 have TB4 := Mr.hid (TB3.out.trans (hF3.below (n := W.heap.size) (fun k e => by have := hn.out; omega) TB3.out.size))
 have HR4 := Mr.hid ((hF3.block (n + 1) (Array.getElem?_eq_some_iff.1 HR3.out).1 (by omega)).trans HR3.out)
 replace hO3 := Mr.hid hO3
 replace hF3 := Mr.hid hF3
 clear hS3
 rw [rounds_succ]
 go_wp2_with (first | (go_at_call 96; refine (P4.out _ TB4.out _ _ _ _ _ HS4.out).mono ?_; rintro e w5 ⟨rfl, v4, hO4, hS4, hF4⟩; obtain ⟨a4, c4, rfl, _, _⟩ := hO4.form))
 have HS5 := Mr.hid hS4
 have TB5 := Mr.hid (TB4.out.trans (hF4.below (n := W.heap.size) (fun k e => by have := hn.out; omega) TB4.out.size))
 have HR5 := Mr.hid ((hF4.block (n + 1) (Array.getElem?_eq_some_iff.1 HR4.out).1 (by omega)).trans HR4.out)
 replace hO4 := Mr.hid hO4
 replace hF4 := Mr.hid hF4
 clear hS4
 obtain ⟨y0, y1, y2, y3, y4, y5⟩ := ifs_cells HS5.out
 obtain ⟨z0, z1, z2, z3, z4, z5⟩ := ifs_cells HR5.out
 obtain ⟨f0, f1, f2, f3, f4⟩ := ifs_thaw HR5.out
 have hne : n + 1 ≠ n + 2 := by omega
 rw [rounds_succ]
 have hH := set5_five (.slice a0 x.cell.length c0) (.slice a1 x.stack.length c1) (.slice a2 x.queue.length c2) (.slice a3 x.set.length c3) (.slice a4 x.table.length c4) HR5.out
 obtain ⟨x0, x1, x2, x3, x4, x5⟩ := ifs_cells hH
 have hD := ct_made (w6 := set5 w5 (n + 1) (.slice a0 x.cell.length c0) (.slice a1 x.stack.length c1) (.slice a2 x.queue.length c2) (.slice a3 x.set.length c3) (.slice a4 x.table.length c4)) (B := B) (n := n) (bS := n + 2) (bR := n + 1) hO0.out hO1.out hO2.out hO3.out hO4.out hF0.out hF1.out hF2.out hF3.out hF4.out (fun k h => set5_far _ _ _ _ _ _ _ k h) low.out hB (by omega) (by have := eS.out; omega) (by omega) (by have := eS.out; omega)
 have hE := set5_below (b := n + 1) (.slice a0 x.cell.length c0) (.slice a1 x.stack.length c1) (.slice a2 x.queue.length c2) (.slice a3 x.set.length c3) (.slice a4 x.table.length c4) TB5.out (by have := hn.out; omega)
 unfold set5 at x0 x1 x2 x3 x4 x5 hD hE
 replace hD := Mr.hid hD
 replace hE := Mr.hid hE
 clear hH
 go_wp2
 refine bodyPost_ret (v := .agg #[.slice a0 x.cell.length c0, .slice a1 x.stack.length c1, .slice a2 x.queue.length c2, .slice a3 x.set.length c3, .slice a4 x.table.length c4]) (by simp [results, Tryz.results77, go_sem, x0, x1, x2, x3, x4]) rfl ⟨_, _, _, _, _, _, rfl, hD.out, hE.out⟩
end Go.Proofs.YtnbibkohgppjnaaGreat.Md
