import Derived.Test.YtnbibkohgppjnaaGreatJ09
import Derived.Deep.RegionHeld3
import Derived.Test.YtnbibkohgppjnaaGreatJ01
import Derived.Laws.CopyRow
import Derived.Lib.SliceRun
import Derived.Test.YtnbibkohgppjnaaGreatShelf
import Derived.Deep.LoopGhost
import Derived.BigQuiet
set_option linter.unusedVariables false
set_option linter.unusedSimpArgs false
set_option maxRecDepth 100000
namespace Go.Proofs.YtnbibkohgppjnaaGreat.Wt
open Go.RowKit Mr Md
theorem ret_bool {a b : Bool} (h : a = b) : Ending.returned (Value.bool a) = Ending.returned (Value.bool b) := by rw [h]
set_option maxHeartbeats 2000000 in
theorem ended_any (c : Cq) (w : World) : Calls Tryz.prog 27 #[c.val] w fun e w' => e = .returned (.bool (endB c)) ∧ Below w.heap.size w w' := by
 obtain ⟨th, op, arg, data, beg, fin, pt, ak, av⟩ := c
 unfold Cq.val
 go_enter Tryz.func27, Tryz.ntmps27
 go_wp2
 go_ret
 exact ⟨rfl, (Below.refl _ _).alloc (Nat.le_refl _) _⟩
set_option maxHeartbeats 2000000 in
theorem ahead_any (c d : Cq) (w : World) : Calls Tryz.prog 29 #[c.val, d.val] w fun e w' => e = .returned (.bool (ahB c d)) ∧ Below w.heap.size w w' := by
 obtain ⟨th, op, arg, data, beg, fin, pt, ak, av⟩ := c
 obtain ⟨th2, op2, arg2, data2, beg2, fin2, pt2, ak2, av2⟩ := d
 unfold Cq.val
 by_cases h : fin = -1
 ·have h2 : (fin != -1) = false := by simp [h]
  go_enter Tryz.func29, Tryz.ntmps29
  go_wp2
  go_ret
  refine ⟨ret_bool ?_, (((Below.refl _ _).alloc (Nat.le_refl _) _).alloc (by simp) _).alloc (by simp; omega) _⟩
  simp [ahB, h]
 ·have h2 : (fin != -1) = true := by simp [h]
  go_enter Tryz.func29, Tryz.ntmps29
  go_wp2
  go_ret
  refine ⟨ret_bool ?_, (((Below.refl _ _).alloc (Nat.le_refl _) _).alloc (by simp) _).alloc (by simp; omega) _⟩
  simp [ahB, h]
set_option maxHeartbeats 2000000 in
theorem counts_any (c : Cq) (w : World) : Calls Tryz.prog 23 #[c.val] w fun e w' => e = .returned (.bool (obj c.op != 0)) ∧ Below w.heap.size w w' := by
 obtain ⟨th, op, arg, data, beg, fin, pt, ak, av⟩ := c
 unfold Cq.val
 go_enter Tryz.func23, Tryz.ntmps23
 go_wp2_with (go_at_call 43; refine (mObj _ _).mono ?_; rintro e w' ⟨rfl, rfl⟩)
 go_ret
 exact ⟨rfl, (Below.refl _ _).alloc (Nat.le_refl _) _⟩
theorem box9 {W w1 : World} {c : Cq} (h : Below (W.alloc (cqO c)).heap.size (W.alloc (cqO c)) w1) : w1.heap[W.heap.size]? = some (cqO c) := (h.block _ (by simp)).trans (new_at _ _ _ rfl)
theorem below_a {n : Nat} {w w' : World} (h : Below n w w') (hn : n ≤ w'.heap.size) (o : Obj) : Below n w (w'.alloc o) := h.alloc hn o
set_option maxHeartbeats 4000000 in
theorem timely_any (c : Cq) (w : World) : Calls Tryz.prog 61 #[c.val] w fun e w' => e = .returned (.bool (decide (Tim c))) ∧ Below w.heap.size w w' := by
 obtain ⟨b, hb⟩ : ∃ b, b = decide (Tim c) := ⟨_, rfl⟩
 rw [← hb]
 replace hb : Hid (b = true ↔ Tim c) := by rw [hb]; exact decide_eq_true_iff
 obtain ⟨th, op, arg, data, beg, fin, pt, ak, av⟩ := c
 unfold Cq.val
 go_enter Tryz.func61, Tryz.ntmps61
 go_wp2
 all_goals
  go_ret
  refine ⟨ret_bool ?_, ?_⟩
  ·rw [Bool.eq_iff_iff, hb.out]
   clear hb
   simp only [Tim]
   simp at *
   omega
  ·repeat (first | exact Below.refl _ _ | refine below_a ?_ (by simp; try omega) _)
set_option maxHeartbeats 4000000 in
theorem answered_any (c : Cq) (w : World) : Calls Tryz.prog 62 #[c.val] w fun e w' => e = .returned (.bool (decide (Anw c))) ∧ Below w.heap.size w w' := by
 obtain ⟨b, hb⟩ : ∃ b, b = decide (Anw c) := ⟨_, rfl⟩
 rw [← hb]
 replace hb : Hid (b = true ↔ Anw c) := by rw [hb]; exact decide_eq_true_iff
 obtain ⟨th, op, arg, data, beg, fin, pt, ak, av⟩ := c
 unfold Cq.val
 go_enter Tryz.func62, Tryz.ntmps62
 go_wp2
 all_goals
  go_ret
  refine ⟨ret_bool ?_, ?_⟩
  ·rw [Bool.eq_iff_iff, hb.out]
   clear hb
   simp only [Anw]
   by_cases h1 : fin = -1 <;> by_cases h2 : ak = 0 <;> by_cases h3 : ak = 2 <;> first | omega | (simp_all; done) | (simp_all; omega) | (simp at *; omega) | (exfalso; have h4 := ‹((fin != -1) == (ak == 0)) = true›; rw [show (fin != -1) = true from by simpa using h1, show (ak == 0) = false from by simpa using h2] at h4; cases h4)
  ·repeat (first | exact Below.refl _ _ | refine below_a ?_ (by simp; try omega) _)
set_option maxHeartbeats 4000000 in
theorem mayAlone_any (c : Cq) (w : World) : Calls Tryz.prog 40 #[c.val] w fun e w' => e = .returned (.bool (decide (Fit c))) ∧ Below w.heap.size w w' := by
 obtain ⟨b, hb⟩ : ∃ b, b = decide (Fit c) := ⟨_, rfl⟩
 rw [← hb]
 replace hb : Hid (b = true ↔ Fit c) := by rw [hb]; exact decide_eq_true_iff
 obtain ⟨b1, hb1⟩ : ∃ b, b = decide (Tim c) := ⟨_, rfl⟩
 obtain ⟨b2, hb2⟩ : ∃ b, b = decide (Anw c) := ⟨_, rfl⟩
 have T := fun w => timely_any c w
 have A := fun w => answered_any c w
 rw [← hb1] at T
 rw [← hb2] at A
 replace hb1 : Hid (b1 = true ↔ Tim c) := by rw [hb1]; exact decide_eq_true_iff
 replace hb2 : Hid (b2 = true ↔ Anw c) := by rw [hb2]; exact decide_eq_true_iff
 replace hb : Hid (b = true ↔ 0 ≤ c.th ∧ c.th < 16 ∧ b1 = true ∧ b2 = true) := by rw [hb.out, hb1.out, hb2.out]; exact Iff.rfl
 clear hb1 hb2
 obtain ⟨th, op, arg, data, beg, fin, pt, ak, av⟩ := c
 unfold Cq.val at *
 replace T := Mr.hid T
 replace A := Mr.hid A
 go_enter Tryz.func40, Tryz.ntmps40
 go_wp2_with (first
  | (go_at_call 61; refine (T.out _).mono ?_; rintro e w1 ⟨rfl, hB1⟩; obtain ⟨k0, k1, k2, k3, k4, k5, k6, k7, k8, kl⟩ := cq_cells (box9 (c := ⟨th, op, arg, data, beg, fin, pt, ak, av⟩) hB1); replace hB1 := Mr.hid (((Below.refl _ w).alloc (Nat.le_refl _) _).trans (hB1.mono (by simp))))
  | (go_at_call 62; refine (A.out _).mono ?_; rintro e w2 ⟨rfl, hB2⟩; replace hB1 := Mr.hid (hB1.out.trans (hB2.mono (by have := hB1.out.size; omega)))))
 all_goals
  go_ret
  refine ⟨ret_bool ?_, ?_⟩
  ·rw [Bool.eq_iff_iff, hb.out]
   clear hb T A
   cases b1 <;> cases b2 <;> simp_all <;> omega
  ·first | exact hB1.out | exact (Below.refl _ _).alloc (Nat.le_refl _) _
end Go.Proofs.YtnbibkohgppjnaaGreat.Wt
namespace Go.Proofs.YtnbibkohgppjnaaGreat.Md
open Go.RowKit Mr
def Own (W : World) (S : Nat → Prop) (e : TypeId) (size : Nat) (v : Value) (n : Nat) (xs : List Value) : Prop :=
 xs.length = n * size ∧ ∃ a cap, v = .slice a n cap ∧ n ≤ cap ∧ cap ≤ maxLen ∧ (cap = 0 ∨ ∃ g o cur, a = some ⟨g, o, none⟩ ∧ S g ∧ W.heap[g]? = some (.cells cur e (0, 0)) ∧ o + cap * size ≤ cur.size ∧ (cur.toList.drop o).take (n * size) = xs)
section
variable {W W' : World} {S T : Nat → Prop} {e : TypeId} {size n : Nat} {v : Value} {xs : List Value}
theorem Own.kept (h : Own W S e size v n xs) (hb : ∀ k, S k → k < W.heap.size → W'.heap[k]? = W.heap[k]?) (hT : ∀ k, S k → T k) : Own W' T e size v n xs := by
 obtain ⟨h1, a, cap, hv, hc, hm, h2⟩ := h
 refine ⟨h1, a, cap, hv, hc, hm, h2.imp id ?_⟩
 rintro ⟨g, o, cur, ha, hS, hg, hs, hx⟩
 exact ⟨g, o, cur, ha, hT g hS, (hb g hS (Array.getElem?_eq_some_iff.1 hg).1).trans hg, hs, hx⟩
theorem Own.mono (h : Own W S e size v n xs) (hT : ∀ k, S k → T k) : Own W T e size v n xs := h.kept (fun _ _ _ => rfl) hT
theorem Own.fr (h : Own W S e size v n xs) (hf : Fr W W' T) (hd : ∀ k, S k → k < W.heap.size → ¬ T k) : Own W' S e size v n xs := h.kept (fun k hk hl => hf.block k hl (hd k hk hl)) (fun _ h => h)
theorem Own.below (h : Own W S e size v n xs) (hB : Below W.heap.size W W') : Own W' S e size v n xs := h.kept (fun k _ hl => hB.block k hl) (fun _ h => h)
theorem Own.of_has (h : Has W S e size v n xs) : Own W S e size v n xs := by
 refine ⟨h.1, ?_⟩
 rcases h.2 with ⟨rfl, rfl⟩ | ⟨g, cap, cur, rfl, hS, hg, hc, hm, hs, hx⟩
 ·exact ⟨none, 0, rfl, Nat.le_refl _, Nat.zero_le _, .inl rfl⟩
 ·exact ⟨_, cap, rfl, hc, hm, .inr ⟨g, 0, cur, rfl, hS, hg, by omega, by simpa using hx⟩⟩
theorem own_cells {W : World} {g o k : Nat} {cur : Array Value} {e : TypeId} {xs : List Value} (hg : W.heap[g]? = some (.cells cur e (0, 0))) (hx : (cur.toList.drop o).take k = xs) (j : Nat) (u : Value) (hu : xs[j]? = some u) : W.cell? ⟨g, o + j, none⟩ = some u := by
 rw [cell_of_row W g (o + j) cur e (0, 0) hg]
 rw [← hx, List.getElem?_take] at hu
 split at hu
 ·rw [List.getElem?_drop] at hu
  simpa using hu
 ·cases hu
theorem Own.sl (h : Own W S e size v n xs) : Sl W S size v n xs := by
 obtain ⟨h1, a, cap, hv, hc, hm, h2⟩ := h
 refine ⟨h1, a, cap, hv, hc, ?_⟩
 rcases h2 with rfl | ⟨g, o, cur, rfl, hS, hg, hs, hx⟩
 ·exact .inl (by omega)
 ·exact .inr ⟨g, o, rfl, hS, (Array.getElem?_eq_some_iff.1 hg).1, own_cells hg hx⟩
theorem Own.form (h : Own W S e size v n xs) : ∃ a cap, v = .slice a n cap ∧ n ≤ cap ∧ cap ≤ maxLen := by obtain ⟨_, a, cap, hv, hc, hm, _⟩ := h; exact ⟨a, cap, hv, hc, hm⟩
theorem Own.there (h : Own W S e size v n xs) (hn : 0 < n) : ∃ g o cap cur, v = .slice (some ⟨g, o, none⟩) n cap ∧ n ≤ cap ∧ cap ≤ maxLen ∧ S g ∧ W.heap[g]? = some (.cells cur e (0, 0)) ∧ o + cap * size ≤ cur.size ∧ (cur.toList.drop o).take (n * size) = xs := by
 obtain ⟨_, a, cap, hv, hc, hm, h2⟩ := h
 rcases h2 with rfl | ⟨g, o, cur, rfl, hS, hg, hs, hx⟩
 ·omega
 ·exact ⟨g, o, cap, cur, hv, hc, hm, hS, hg, hs, hx⟩
theorem Own.zero (W : World) (S : Nat → Prop) (e : TypeId) (size : Nat) (a : Option Addr) : Own W S e size (.slice a 0 0) 0 [] := ⟨by simp, a, 0, rfl, Nat.le_refl _, Nat.zero_le _, .inl rfl⟩
end
theorem seg_len (cur : List Value) (o k : Nat) (news : List Value) (h : o + k + news.length ≤ cur.length) : (cur.take (o + k) ++ news ++ cur.drop (o + k + news.length)).length = cur.length := by
 simp; omega
theorem seg_put (cur : List Value) (o k : Nat) (news xs : List Value) (hx : (cur.drop o).take k = xs) (hl : xs.length = k) (h : o + k + news.length ≤ cur.length) :
  ((cur.take (o + k) ++ news ++ cur.drop (o + k + news.length)).drop o).take (k + news.length) = xs ++ news := by
 have e1 : cur.take (o + k) = cur.take o ++ xs := by rw [List.take_add, hx]
 have lo : (cur.take o).length = o := by rw [List.length_take]; omega
 rw [e1, List.append_assoc, List.append_assoc, List.drop_append_of_le_length (by omega), List.drop_of_length_le (by omega), List.nil_append, ← List.append_assoc, List.take_append_of_le_length (by simp; omega), List.take_of_length_le (by simp; omega)]
section
variable {P : Program} (w : World)
theorem run_append_at (t ty e e' : TypeId) (i : TypeInfo) (ht : P.underlying t = some (.slice e)) (hi : P.info? e = some i) (g o n cap : Nat) (cur : Array Value) (hg : w.heap[g]? = some (.cells cur e' (0, 0)))
  (a : Addr) (m c : Nat) (news : List Value) (hl : news.length = m * i.size) (hnews : ∀ j u, news[j]? = some u → w.cell? (a.add j) = some u) (h1 : ∀ u ∈ news, u.oneCell' = true) (hroom : n + m ≤ cap) (hfit : o + n * i.size + news.length ≤ cur.size) :
  (Builtin.append_ #[t, t] ty #[.slice (some ⟨g, o, none⟩) n cap, .slice (some a) m c]).run P w = .ok (.slice (some ⟨g, o, none⟩) (n + m) cap) (w.setRow g (cur.toList.take (o + n * i.size) ++ news ++ cur.toList.drop (o + n * i.size + news.length)).toArray) := by
 have hfc := run_firstCells_some (P := P) w i.size m a m c news hl hnews
 have hst := run_storeCells_at P g (o + n * i.size) e' news 0 cur w hg (by simpa using hfit) h1
 simp only [Nat.add_zero] at hst
 simp [Builtin.append_, run_underlying ht, sizeOf, typeInfo, hi, Builtin.lenOf, hroom, hfc, Addr.add_lit, hst]
theorem setRow_fr {w : World} {S : Nat → Prop} {g : Nat} (hS : S g) (cs : Array Value) : Fr w (w.setRow g cs) S := ⟨rfl, rfl, rfl, by simp, fun k _ hk => setRow_other w g k _ (fun e => hk (e ▸ hS))⟩
theorem run_append_mine (S : Nat → Prop) (t ty e : TypeId) (i : TypeInfo) (z : Value) (size bytes : Nat) (ht : P.underlying t = some (.slice e)) (hi : P.info? e = some i) (hz : i.zero = some z)
  (hsize : i.size = size) (hby : i.bytes = bytes) (hzs : z.cells.size = size) (v : Value) (n : Nat) (xs : List Value) (hown : Own w S e size v n xs) (a0 : Option Addr) (m c : Nat) (news : List Value) (hl : news.length = m * size) (ha : a0 = none → m = 0) (hnews : ∀ ad, a0 = some ad → ∀ j u, news[j]? = some u → w.cell? (ad.add j) = some u)
  (h1 : ∀ u ∈ news, u.oneCell' = true) (h63 : n + m ≤ maxLen) (hbytes : ((n + m) + (n + m) / 4 + 192) * bytes ≤ 281474976710656) :
  ∃ b' cap' w', (Builtin.append_ #[t, t] ty #[v, .slice a0 m c]).run P w = .ok (.slice b' (n + m) cap') w' ∧ Own w' (fun k => S k ∨ k = w.heap.size) e size (.slice b' (n + m) cap') (n + m) (xs ++ news) ∧ Fr w w' S := by
 subst hsize
 subst hby
 have hsmall : n + m ≤ 9223372036854775807 := by simp only [maxLen] at h63; omega
 by_cases hm : m = 0
 ·subst hm
  have hn : news = [] := List.eq_nil_of_length_eq_zero (by simpa using hl)
  subst hn
  obtain ⟨b0, cap, rfl, hc, _⟩ := hown.form
  refine ⟨b0, cap, w, ?_, ?_, Fr.refl _ _⟩
  ·cases b0 <;> cases a0 <;> simp [Builtin.append_, run_underlying ht, sizeOf, typeInfo, hi, Builtin.lenOf, Builtin.firstCells, loadCells, loadCellsFrom, hc, storeCells]
  ·rw [List.append_nil]; exact hown.mono (fun _ => .inl)
 ·cases a0 with
  | none => exact absurd (ha rfl) hm
  | some a =>
   have hnews := hnews a rfl
   have hlen : (xs ++ news).length = (n + m) * i.size := by rw [List.length_append, hown.1, hl, Nat.add_mul]
   have hfr : ∀ o, Fr w (w.drew.alloc o) S := fun o => (Fr.refl w S).drew.alloc o
   obtain ⟨hx1, b0, cap, rfl, hc, hcm, h2⟩ := hown
   rcases h2 with rfl | ⟨g, o, cur, rfl, hS, hg, hs, hx⟩
   ·obtain rfl : n = 0 := by omega
    have hx : xs = [] := List.eq_nil_of_length_eq_zero (by simpa using hx1)
    subst hx
    have hgr := grown_has w e i.size z hzs (0 + m) 0 h63 (fun k => S k ∨ k = w.heap.size) (.inr rfl) ([] ++ news) hlen #[] news.toArray (by simp) none
    have hbz : Builtin.nextslicecap m 0 * i.bytes ≤ 281474976710656 := by rw [Nat.zero_add] at hbytes; exact growslice_fits_wide (by omega) hbytes
    cases b0 with
    | none =>
     have hr := run_append_nil (P := P) w t ty e i z ht hi hz a m c news hl hnews (by omega) (by omega) (by
      refine Nat.le_trans (Nat.mul_le_mul_right _ ?_) hbytes; omega)
     simp only [Nat.zero_add, List.nil_append, Array.empty_append] at hgr ⊢
     exact ⟨_, _, _, hr, Own.of_has hgr.1, hfr _⟩
    | some b =>
     have hr := run_append_grow (P := P) w t ty e i z ht hi hz b 0 0 [] (by simp) (fun j u hu => by simp at hu) a m c news hl hnews (by omega) (by omega) (by simpa using hbz)
     simp only [Nat.zero_add, List.nil_append] at hgr hr ⊢
     exact ⟨_, _, _, hr, Own.of_has hgr.1, hfr _⟩
   ·by_cases hroom : n + m ≤ cap
    ·have hmul : (n + m) * i.size ≤ cap * i.size := Nat.mul_le_mul_right _ hroom
     rw [Nat.add_mul] at hmul
     have hfit : o + n * i.size + news.length ≤ cur.size := by omega
     have hr := run_append_at (P := P) w t ty e e i ht hi g o n cap cur hg a m c news hl hnews h1 hroom hfit
     refine ⟨_, _, _, hr, ⟨hlen, _, cap, rfl, hroom, hcm, .inr ⟨g, o, _, rfl, .inl hS, setRow_heap w g cur _ e _ hg, ?_, ?_⟩⟩, setRow_fr hS _⟩
     ·have := seg_len cur.toList o (n * i.size) news (by simpa using hfit)
      simp only [List.size_toArray]
      rw [this]
      simpa using hs
     ·rw [Nat.add_mul, ← hl]
      exact seg_put cur.toList o (n * i.size) news xs hx hx1 (by simpa using hfit)
    ·have holds : ∀ j u, xs[j]? = some u → w.cell? ((⟨g, o, none⟩ : Addr).add j) = some u := fun j u hu => by
      rw [add1]; exact own_cells hg hx j u hu
     have hr := run_append_grow (P := P) w t ty e i z ht hi hz ⟨g, o, none⟩ n cap xs hx1 holds a m c news hl hnews (by omega) (by omega) (growslice_fits_wide (by omega) hbytes)
     have hgr := grown_has w e i.size z hzs (n + m) cap h63 (fun k => S k ∨ k = w.heap.size) (.inr rfl) (xs ++ news) hlen xs.toArray news.toArray (by simp) none
     exact ⟨_, _, _, hr, Own.of_has hgr.1, hfr _⟩
theorem wp_append_mine {o : Oper} {a : Act} {K : Act → World → Prop} {Q : Exit → Act → World → Prop} (s x : Operand) (t : TypeId)
  (ho : o.op = .call { callee := .builtin .append, args := #[s, x], argTypes := #[t, t] })
  (S : Nat → Prop) (e : TypeId) (i : TypeInfo) (z : Value) (size bytes : Nat) (ht : P.underlying t = some (.slice e)) (hi : P.info? e = some i) (hz : i.zero = some z)
  (hsize : i.size = size) (hby : i.bytes = bytes) (hzs : z.cells.size = size) (v : Value) (n : Nat) (xs : List Value) (hs : a.eval s = v) (hown : Own w S e size v n xs) (a0 : Option Addr) (m c : Nat) (news : List Value) (hx : a.eval x = .slice a0 m c) (hl : news.length = m * size) (ha : a0 = none → m = 0) (hnews : ∀ ad, a0 = some ad → ∀ j u, news[j]? = some u → w.cell? (ad.add j) = some u)
  (h1 : ∀ u ∈ news, u.oneCell' = true) (h63 : n + m ≤ maxLen) (hbytes : ((n + m) + (n + m) / 4 + 192) * bytes ≤ 281474976710656)
  (h : ∀ b' cap' w', Own w' (fun k => S k ∨ k = w.heap.size) e size (.slice b' (n + m) cap') (n + m) (xs ++ news) → Fr w w' S → K (a.put o.dst (.slice b' (n + m) cap')) w') : o.wp P a w K Q := by
 obtain ⟨b', cap', w', hr, h2, h3⟩ := run_append_mine (P := P) w S t o.type e i z size bytes ht hi hz hsize hby hzs v n xs hown a0 m c news hl ha hnews h1 h63 hbytes
 unfold Oper.wp execOp
 simp only [ho, resolve, invoke, builtin, Sem.run_bind, Sem.run_pure, Result.andThen_ok, List.map_toArray, List.map_cons, List.map_nil, hs, hx, hr]
 exact h b' cap' w' h2 h3
theorem wpList_append_mine {ops : Array Oper} {rest : List Oper} {o : Oper} {a : Act} {Q : Exit → Act → World → Prop} (hgd : o.guard = none) (s x : Operand) (t : TypeId)
  (ho : o.op = .call { callee := .builtin .append, args := #[s, x], argTypes := #[t, t] })
  (S : Nat → Prop) (e : TypeId) (i : TypeInfo) (z : Value) (size bytes : Nat) (ht : P.underlying t = some (.slice e)) (hi : P.info? e = some i) (hz : i.zero = some z)
  (hsize : i.size = size) (hby : i.bytes = bytes) (hzs : z.cells.size = size) (v : Value) (n : Nat) (xs : List Value) (hs : a.eval s = v) (hown : Own w S e size v n xs) (a0 : Option Addr) (m c : Nat) (news : List Value) (hx : a.eval x = .slice a0 m c) (hl : news.length = m * size) (ha : a0 = none → m = 0) (hnews : ∀ ad, a0 = some ad → ∀ j u, news[j]? = some u → w.cell? (ad.add j) = some u)
  (h1 : ∀ u ∈ news, u.oneCell' = true) (h63 : n + m ≤ maxLen) (hbytes : ((n + m) + (n + m) / 4 + 192) * bytes ≤ 281474976710656)
  (h : ∀ b' cap' w', Own w' (fun k => S k ∨ k = w.heap.size) e size (.slice b' (n + m) cap') (n + m) (xs ++ news) → Fr w w' S → wpList P ops Q rest (a.put o.dst (.slice b' (n + m) cap')) w') : wpList P ops Q (o :: rest) a w :=
 wpList_plain hgd fun _ hK => wp_append_mine w s x t ho S e i z size bytes ht hi hz hsize hby hzs v n xs hs hown a0 m c news hx hl ha hnews h1 h63 hbytes fun b' cap' w' h2 h3 => hK _ _ (h b' cap' w' h2 h3)
theorem step_append_mine {ops : Array Oper} {o : Oper} {a : Act} {K : Act → World → Prop} {Q : Exit → Act → World → Prop} {E : Prop} (hgd : o.guard = none) (s x : Operand) (t : TypeId)
  (ho : o.op = .call { callee := .builtin .append, args := #[s, x], argTypes := #[t, t] })
  (S : Nat → Prop) (e : TypeId) (i : TypeInfo) (z : Value) (size bytes : Nat) (ht : P.underlying t = some (.slice e)) (hi : P.info? e = some i) (hz : i.zero = some z)
  (hsize : i.size = size) (hby : i.bytes = bytes) (hzs : z.cells.size = size) (v : Value) (n : Nat) (xs : List Value) (hs : a.eval s = v) (hown : Own w S e size v n xs) (a0 : Option Addr) (m c : Nat) (news : List Value) (hx : a.eval x = .slice a0 m c) (hl : news.length = m * size) (ha : a0 = none → m = 0) (hnews : ∀ ad, a0 = some ad → ∀ j u, news[j]? = some u → w.cell? (ad.add j) = some u)
  (h1 : ∀ u ∈ news, u.oneCell' = true) (h63 : n + m ≤ maxLen) (hbytes : ((n + m) + (n + m) / 4 + 192) * bytes ≤ 281474976710656)
  (h : ∀ b' cap' w', Own w' (fun k => S k ∨ k = w.heap.size) e size (.slice b' (n + m) cap') (n + m) (xs ++ news) → Fr w w' S → K (a.put o.dst (.slice b' (n + m) cap')) w') :
  if Region.wanted o (yielded ops a.tmps) = true then Oper.wp P o a w K Q else E := by
 have hw : Region.wanted o (yielded ops a.tmps) = true := by simp [Region.wanted, hgd]
 rw [if_pos hw]
 exact wp_append_mine w s x t ho S e i z size bytes ht hi hz hsize hby hzs v n xs hs hown a0 m c news hx hl ha hnews h1 h63 hbytes h
theorem run_copy_at (dT sT ty e e' : TypeId) (i : TypeInfo) (hu : P.underlying dT = some (.slice e)) (hi : P.info? e = some i) (g o dLen dCap : Nat) (a : Addr) (sLen sCap : Nat) (cur : Array Value) (cs : List Value)
  (hg : w.heap[g]? = some (.cells cur e' (0, 0))) (hn : cs.length = Nat.min sLen dLen * i.size) (hsrc : ∀ j v, cs[j]? = some v → w.cell? (a.add j) = some v) (hfit : o + cs.length ≤ cur.size) (h1 : ∀ v ∈ cs, v.oneCell' = true) :
  (Builtin.copy_ #[dT, sT] ty #[.slice (some ⟨g, o, none⟩) dLen dCap, .slice (some a) sLen sCap]).run P w =
   .ok (goInt (Nat.min sLen dLen)) (w.setRow g (cur.toList.take o ++ cs ++ cur.toList.drop (o + cs.length)).toArray) := by
 have hl := run_loadCells_list (P := P) w a cs hsrc
 have hst := run_storeCells_at P g o e' cs 0 cur w hg (by simpa using hfit) h1
 simp [Builtin.copy_, run_underlying hu, Builtin.lenOf, Builtin.firstCells, sizeOf, typeInfo, hi, ← hn, hl, hst]
theorem run_clear_at (t e e' ty : TypeId) (z : Value) (ht : P.underlying t = some (.slice e)) (hv : ∀ w, (zeroValue e).run P w = .ok z w) (g o n c : Nat) (hn : 0 < n) (cur : Array Value) (zs : List Value) (hz : (Builtin.zeroCells z.cells n).toList = zs)
  (hg : w.heap[g]? = some (.cells cur e' (0, 0))) (hfit : o + zs.length ≤ cur.size) (h1 : ∀ v ∈ zs, v.oneCell' = true) :
  (Builtin.clear_ #[t] ty #[.slice (some ⟨g, o, none⟩) n c]).run P w = .ok (.tuple #[]) (w.setRow g (cur.toList.take o ++ zs ++ cur.toList.drop (o + zs.length)).toArray) := by
 have hst := run_storeCells_at P g o e' zs 0 cur w hg (by simpa using hfit) h1
 simp only [Nat.add_zero] at hst
 obtain ⟨m, rfl⟩ : ∃ m, n = m + 1 := ⟨n - 1, by omega⟩
 simp [Builtin.clear_, run_underlying ht, hv, hz, hst]
end
end Go.Proofs.YtnbibkohgppjnaaGreat.Md
namespace Go.Proofs.YtnbibkohgppjnaaGreat.Wt
open Go.RowKit Mr Md
theorem parts_of {a : Option TypeInfo} {z : Option Value} {n b : Nat} (h : a.map (fun i => (i.zero, i.size, i.bytes)) = some (z, n, b)) : ∃ i, a = some i ∧ i.zero = z ∧ i.size = n ∧ i.bytes = b := by
 cases a with
 | none => simp at h
 | some i => simp at h; exact ⟨i, rfl, h.1, h.2.1, h.2.2⟩
theorem i64x (x : Int) (h1 : -9223372036854775808 ≤ x) (h2 : x ≤ 9223372036854775807) : IntKind.i64.wrap x = x := by
 simp [IntKind.wrap, IntKind.signed, IntKind.bits]; omega
theorem wt_int : (Tryz.prog.info? 3).map (fun i => (i.zero, i.size, i.bytes)) = some (some (.int .i64 0), 1, 8) := by kernel_rfl
theorem new1 {w w1 : World} {x : Value} (h1 : w1 = w.alloc (.cells #[x] 3 (0, 0))) : ∀ ad, some (⟨w.heap.size, 0, none⟩ : Addr) = some ad → ∀ j u, ([x])[j]? = some u → w1.cell? (ad.add j) = some u := by
 rintro ad e j u hu
 cases e
 subst h1
 rw [add1, Nat.zero_add, cell_blk (new_at w _ _ rfl)]
 simpa using hu
structure At9 (w : World) (b o : Nat) (c : Cq) : Prop where
 lt : b < w.heap.size
 c0 : w.cell? ⟨b, o, none⟩ = some (.int .i64 c.th)
 c1 : w.cell? ⟨b, o + 1, none⟩ = some (.int .i64 c.op)
 c2 : w.cell? ⟨b, o + 2, none⟩ = some (.int .i64 c.arg)
 c3 : w.cell? ⟨b, o + 3, none⟩ = some (.int .i64 c.data)
 c4 : w.cell? ⟨b, o + 4, none⟩ = some (.int .i64 c.beg)
 c5 : w.cell? ⟨b, o + 5, none⟩ = some (.int .i64 c.fin)
 c6 : w.cell? ⟨b, o + 6, none⟩ = some (.int .i64 c.pt)
 c7 : w.cell? ⟨b, o + 7, none⟩ = some (.int .i64 c.ak)
 c8 : w.cell? ⟨b, o + 8, none⟩ = some (.int .i64 c.av)
theorem call_at {W : World} {T : Nat → Prop} {a : Option Addr} {cap : Nat} {cs : List Cq} (h : Sl W T 9 (.slice a cs.length cap) cs.length (cqs cs)) {i : Nat} {c : Cq} (hc : cs[i]? = some c) :
  ∃ b o, a = some ⟨b, o, none⟩ ∧ At9 W b (o + i * 9) c := by
 have hi := (List.getElem?_eq_some_iff.1 hc).1
 obtain ⟨b, o, cap', hv, _, _, hl, hr⟩ := h.there (by omega)
 cases hv
 have hg := fun j (hj : j < 9) => cqs_get cs i c hc j hj
 exact ⟨b, o, rfl, hl, hr (i * 9 + 0) _ (hg 0 (by omega)), hr (i * 9 + 1) _ (hg 1 (by omega)), hr (i * 9 + 2) _ (hg 2 (by omega)), hr (i * 9 + 3) _ (hg 3 (by omega)), hr (i * 9 + 4) _ (hg 4 (by omega)), hr (i * 9 + 5) _ (hg 5 (by omega)), hr (i * 9 + 6) _ (hg 6 (by omega)), hr (i * 9 + 7) _ (hg 7 (by omega)), hr (i * 9 + 8) _ (hg 8 (by omega))⟩
theorem At9.below {w w' : World} {b o : Nat} {c : Cq} (h : At9 w b o c) (hB : Below w.heap.size w w') : At9 w' b o c :=
 ⟨Nat.lt_of_lt_of_le h.lt hB.size, (hB.cell h.lt).trans h.c0, (hB.cell h.lt).trans h.c1, (hB.cell h.lt).trans h.c2, (hB.cell h.lt).trans h.c3, (hB.cell h.lt).trans h.c4, (hB.cell h.lt).trans h.c5, (hB.cell h.lt).trans h.c6, (hB.cell h.lt).trans h.c7, (hB.cell h.lt).trans h.c8⟩
structure Ap (W w : World) (b : Nat) (c : Cq) (u : Value) (l : List Int) : Prop where
 bel : Below W.heap.size W w
 up : W.heap.size ≤ b
 box : w.heap[b]? = some (cqO c)
 own : Md.Own w (fun k => W.heap.size ≤ k ∧ k ≠ b) 3 1 u l.length (ints l)
theorem own_kept {W W' : World} {S T : Nat → Prop} {e : TypeId} {size n : Nat} {v : Value} {xs : List Value} (h : Md.Own W S e size v n xs) (hb : ∀ k, S k → k < W.heap.size → W'.heap[k]? = W.heap[k]? ∧ T k) : Md.Own W' T e size v n xs := by
 obtain ⟨h1, a, cap, hv, hc, hm, h2⟩ := h
 refine ⟨h1, a, cap, hv, hc, hm, h2.imp id ?_⟩
 rintro ⟨g, o, cur, ha, hS, hg, hs, hx⟩
 have := hb g hS (Array.getElem?_eq_some_iff.1 hg).1
 exact ⟨g, o, cur, ha, this.2, this.1.trans hg, hs, hx⟩
theorem Ap.first {W w w1 : World} {u : Value} {l : List Int} (hB : Below W.heap.size W w) (ho : Md.Own w (fun k => W.heap.size ≤ k) 3 1 u l.length (ints l)) (c : Cq) (h1 : w1 = w.alloc (cqO c)) : Ap W w1 w.heap.size c u l := by
 subst h1
 exact ⟨hB.alloc hB.size _, hB.size, new_at _ _ _ rfl, own_kept ho (fun k hk hl => ⟨Below.heap_alloc _ _ _ hl, hk, by omega⟩)⟩
theorem Ap.below {W w w' : World} {b : Nat} {c : Cq} {u : Value} {l : List Int} (h : Ap W w b c u l) (hB : Below w.heap.size w w') : Ap W w' b c u l :=
 ⟨h.bel.trans (hB.mono h.bel.size), h.up, (hB.block _ (Array.getElem?_eq_some_iff.1 h.box).1).trans h.box, h.own.below hB⟩
theorem Ap.app {W w w1 w2 : World} {b : Nat} {c : Cq} {u u' : Value} {l : List Int} {x : Int} {o : Obj} (h : Ap W w b c u l) (h1 : w1 = w.alloc o) (ho : Md.Own w2 (fun k => (W.heap.size ≤ k ∧ k ≠ b) ∨ k = w1.heap.size) 3 1 u' (l.length + 1) (ints l ++ [.int .i64 x])) (hf : Fr w1 w2 (fun k => W.heap.size ≤ k ∧ k ≠ b)) : Ap W w2 b c u' (l ++ [x]) := by
 have hb := (Array.getElem?_eq_some_iff.1 h.box).1
 have hs := h.bel.size
 have B1 : Below W.heap.size W w1 := by subst h1; exact h.bel.alloc hs _
 have hb1 : w1.heap[b]? = some (cqO c) := by subst h1; exact old_at h.box _
 have hb1l := (Array.getElem?_eq_some_iff.1 hb1).1
 refine ⟨⟨hf.os.trans B1.os, hf.tape.trans B1.tape, hf.output.trans B1.output, Nat.le_trans B1.size hf.size, fun k hk => (hf.block k (Nat.lt_of_lt_of_le hk B1.size) (by omega)).trans (B1.block k hk)⟩, h.up, (hf.block b hb1l (by simp)).trans hb1, ?_⟩
 have e : ints l ++ [Value.int .i64 x] = ints (l ++ [x]) := by simp [ints]
 rw [e] at ho
 rw [List.length_append]
 exact ho.mono (fun k hk => by have := B1.size; omega)
theorem Ap.done {W w : World} {b : Nat} {c : Cq} {u : Value} {l : List Int} (h : Ap W w b c u l) : Md.Own w (fun k => W.heap.size ≤ k) 3 1 u l.length (ints l) := h.own.mono (fun k hk => hk.1)
end Go.Proofs.YtnbibkohgppjnaaGreat.Wt
namespace Go.Proofs.YtnbibkohgppjnaaGreat.Wt
open Go.RowKit Mr Md
def srt (zs : List Int) : List Int := zs.mergeSort fun x y => decide (x ≤ y)
theorem srt_perm (zs : List Int) : (srt zs).Perm zs := List.mergeSort_perm _ _
theorem srt_len (zs : List Int) : (srt zs).length = zs.length := (srt_perm zs).length_eq
theorem srt_up (zs : List Int) : (srt zs).Pairwise (· ≤ ·) := by
 have := List.pairwise_mergeSort (le := fun x y : Int => decide (x ≤ y)) (fun a b c h1 h2 => by simp at *; omega) (fun a b => by simp; omega) zs
 exact this.imp (fun h => of_decide_eq_true h)
theorem holds_at {W : World} {g o : Nat} {cur : Array Value} {e : TypeId} {zs : List Int} (hg : W.heap[g]? = some (.cells cur e (0, 0))) (hx : (cur.toList.drop o).take (zs.length * 1) = ints zs) : Sort.Holds (Value.int .i64) W g o zs.toArray := by
 intro j hj
 have hj' : j < zs.length := by simpa using hj
 refine ⟨?_, by simp [World.frozen?, hg]⟩
 have := own_cells hg hx j _ (ints_get zs j hj')
 rw [this]
 simp [hj']
theorem sort_any {W : World} {S : Nat → Prop} {u : Value} {zs : List Int} (hu : Md.Own W S 3 1 u zs.length (ints zs)) (hsz : zs.length < 4611686018427387904) :
  Calls Tryz.prog 63 #[u] W fun e w' => e = .returned (.tuple #[]) ∧ Fr W w' S ∧ Sl w' S 1 u zs.length (ints (srt zs)) := by
 by_cases h0 : zs.length = 0
 ·obtain ⟨a, cap, rfl, hc, _⟩ := hu.form
  have hz : zs = [] := List.eq_nil_of_length_eq_zero h0
  subst hz
  refine (Tryz.slices_Sort_int_none a cap W).mono ?_
  rintro e w' ⟨rfl, rfl⟩
  exact ⟨rfl, Fr.refl _ _, by simpa [srt] using hu.sl⟩
 ·obtain ⟨g, o, cap, cur, rfl, hc, hm, hS, hg, hs, hx⟩ := hu.there (by omega)
  have hH := holds_at hg hx
  have hl := (Array.getElem?_eq_some_iff.1 hg).1
  refine (Tryz.slices_Sort_int g o cap zs W hH hl hsz).mono ?_
  rintro e w' ⟨rfl, n, os, rfl⟩
  refine ⟨rfl, ⟨rfl, rfl, rfl, by simp, fun k hk hne => ?_⟩, by simp [ints, srt_len], _, cap, rfl, hc, .inr ⟨g, o, rfl, hS, by simp; omega, fun j u hu => ?_⟩⟩
  ·rw [Sort.heap_grow_old _ _ (by simpa using hk)]
   have : g ≠ k := fun e => hne (by rw [← e]; exact hS)
   simp [Sort.putRow, Sort.mapBlock, Sort.ahead, Array.getElem?_modify, this]
  ·have hj : j < (srt zs).length := by simpa [ints] using (List.getElem?_eq_some_iff.1 hu).1
   rw [Sort.cell?_grow _ _ _ (by simpa using hl)]
   have hsz2 : (srt zs).toArray.size = zs.toArray.size := by simp [srt_len]
   have := Sort.cell?_putRow (Value.int .i64) (Sort.ahead W n) g o zs.toArray (srt zs).toArray hH hsz2 j (by simpa using hj)
   unfold srt at this
   rw [this]
   simp [ints, srt] at hu
   obtain ⟨a, h1, h2⟩ := hu
   rw [← h2]
   simp [srt] at hj
   simp [h1]
end Go.Proofs.YtnbibkohgppjnaaGreat.Wt
namespace Go.Proofs.YtnbibkohgppjnaaGreat.Wt
open Go.RowKit Mr Md
set_option maxHeartbeats 8000000 in
theorem apart_any {W : World} {T : Nat → Prop} {v : Value} {cs : List Cq} (hv : Sl W T 9 v cs.length (cqs cs)) (hsm : cs.length * 72 ≤ 281474976710656) (b : Bool) (hb : b = true ↔ (mvl cs).Nodup) :
  Calls Tryz.prog 41 #[v] W fun e w' => e = .returned (.bool b) ∧ Below W.heap.size W w' := by
 obtain ⟨a, cap, rfl, hcap⟩ := hv.form
 obtain ⟨i0, hi0, hz0, hz1, hz2⟩ := parts_of wt_int
 obtain ⟨n, hn⟩ : ∃ n, n = cs.length := ⟨_, rfl⟩
 have hv' := hv
 rw [← hn] at hv hsm hcap ⊢
 rw [hn] at hv
 replace hn := Mr.hid hn
 replace hv := Mr.hid hv
 replace hb := Mr.hid hb
 clear hv'
 go_enter Tryz.func41, Tryz.ntmps41
 go_wp2
 go_loopg [3, 9] n (fun k s3 s9 wr => ∃ i : Nat, s9 = .int .i64 (i : Int) ∧ i + k = n ∧ Below W.heap.size W wr ∧ Md.Own wr (fun k => W.heap.size ≤ k) 3 1 s3 (mvl (cs.take i)).length (ints (mvl (cs.take i))))
 case atStart => exact ⟨0, rfl, by omega, Below.refl _ _, Md.Own.zero _ _ _ _ _⟩
 case round =>
  obtain ⟨i, rfl, hi, B, ho⟩ := hrel
  by_cases hlt : i < n
  ·obtain ⟨c, hci⟩ := get_of_lt (cs := cs) (i := i) (by have := hn.out; omega)
   obtain ⟨bc, oc, rfl, A9⟩ := call_at (hv.out.below B) hci
   obtain ⟨u, cu, rfl, hcu, hcm⟩ := ho.form
   obtain ⟨l, hl⟩ : ∃ l, l = mvl (cs.take i) := ⟨_, rfl⟩
   rw [← hl] at ho hcu ⊢
   have AF := fun w1 => Ap.first (w1 := w1) B ho c
   have hll : l.length ≤ 3 * i := by rw [hl]; exact Nat.le_trans (mvl_len _) (by simp; omega)
   have hnx := mvl_take cs i c hci
   rw [← hl] at hnx
   obtain ⟨hbl, g0, g1, g2, g3, g4, g5, g6, g7, g8⟩ := A9
   have hlI : (i : Int) < (n : Int) := by omega
   have ED := fun w => ended_any c w
   unfold Cq.val at ED
   clear ho hl
   replace AF := Mr.hid AF
   replace hnx := Mr.hid hnx
   replace hci := Mr.hid hci
   replace B := Mr.hid B
   replace ED := Mr.hid ED
   go_upto_region 5 with (fail)
   have hA := AF.out _ rfl
   unfold cqO at hA
   clear AF g0 g1 g2 g3 g4 g5 g6 g7 g8 hbl B
   generalize (wr.alloc (Obj.cells #[.int .i64 c.th, .int .i64 c.op, .int .i64 c.arg, .int .i64 c.data, .int .i64 c.beg, .int .i64 c.fin, .int .i64 c.pt, .int .i64 c.ak, .int .i64 c.av] 45 (0, 0))) = w5 at *
   generalize wr.heap.size = bx at *
   clear wr
   replace hA := Mr.hid hA
   obtain ⟨k0, k1, k2, k3, k4, k5, k6, k7, k8, kl⟩ := cq_cells hA.out.box
   go_upto_region 6 with (at_builtin; refine wpList_append_mine _ rfl (.tmp 13) (.tmp 16) 24 rfl (fun k => W.heap.size ≤ k ∧ k ≠ bx) 3 i0 _ 1 8 Tryz.underlying24 hi0 hz0 hz1 hz2 rfl _ (l).length (ints (l)) rfl (hA.out.own.below ((Below.refl _ _).alloc (Nat.le_refl _) _)) (some ⟨w5.heap.size, 0, none⟩) 1 1 [.int .i64 c.beg] rfl rfl (fun e => by cases e) (new1 rfl) (by simp [Value.oneCell']) (by unfold maxLen; omega) (by omega) ?_; intro b5 cap5 w6 hown hfr; have hX := hA.out.app rfl hown hfr; clear hown hfr; replace hX := Mr.hid hX)
   clear k0 k1 k2 k3 k4 k5 k6 k7 k8 kl
   replace hA := hX.out
   clear hX
   obtain ⟨l1, hl1⟩ : ∃ l1, l1 = l ++ [c.beg] := ⟨_, rfl⟩
   have ql1 : l.length + 1 = l1.length := by rw [hl1]; simp
   rw [← hl1, ql1] at hA
   rw [ql1]
   replace ql1 : l1.length ≤ 3 * i + 1 := by omega
   replace hl1 := Mr.hid hl1
   replace hA := Mr.hid hA
   obtain ⟨k0, k1, k2, k3, k4, k5, k6, k7, k8, kl⟩ := cq_cells hA.out.box
   by_cases e1 : c.fin = -1
   ·have hE : endB c = false := by simp [endB, e1]
    replace e1 := Mr.hid e1
    replace ED := ED.out
    rw [hE] at ED
    replace ED := Mr.hid ED
    go_upto_region 8 with (go_at_call 27; refine (ED.out _).mono ?_; clear ED; rintro e w7 ⟨rfl, hB7⟩; clear k0 k1 k2 k3 k4 k5 k6 k7 k8 kl; replace hA := Mr.hid (hA.out.below hB7); clear hB7; obtain ⟨k0, k1, k2, k3, k4, k5, k6, k7, k8, kl⟩ := cq_cells hA.out.box)
    by_cases e2 : c.pt = -1
    ·have e2' : (c.pt != -1) = false := by simp [e2]
     have e3 := Mr.hid trivial
     replace e2 := Mr.hid e2
     have hfin : Hid (mvl (cs.take (i + 1)) = l1) := by show mvl (cs.take (i + 1)) = l1; rw [hnx.out, hl1.out]; simp [mvc, e1.out, e2.out, e3.out]
     go_wp2
     go_roundg (gk - 1)
     case measure => omega
     case rel => exact ⟨i + 1, by simp, by omega, hA.out.bel, by rw [hfin.out]; exact hA.out.done⟩
    ·have e2' : (c.pt != -1) = true := by simp [e2]
     replace e2 := Mr.hid e2
     by_cases e3 : c.pt = c.fin
     ·exact absurd (e3.trans e1.out) e2.out
     ·have e3' : (c.pt != c.fin) = true := by simp [e3]
      replace e3 := Mr.hid e3
      have hfin : Hid (mvl (cs.take (i + 1)) = l1 ++ [c.pt]) := by show mvl (cs.take (i + 1)) = l1 ++ [c.pt]; rw [hnx.out, hl1.out]; simp [mvc, e1.out, e2.out, e3.out]
      go_wp2_with (at_builtin; refine wpList_append_mine _ rfl (.tmp 35) (.tmp 38) 24 rfl (fun k => W.heap.size ≤ k ∧ k ≠ bx) 3 i0 _ 1 8 Tryz.underlying24 hi0 hz0 hz1 hz2 rfl _ (l1).length (ints (l1)) rfl (hA.out.own.below ((Below.refl _ _).alloc (Nat.le_refl _) _)) (some ⟨w7.heap.size, 0, none⟩) 1 1 [.int .i64 c.pt] rfl rfl (fun e => by cases e) (new1 rfl) (by simp [Value.oneCell']) (by unfold maxLen; omega) (by omega) ?_; intro b9 cap9 w9 hown hfr; have hX := hA.out.app rfl hown hfr; clear hown hfr; replace hX := Mr.hid hX)
      go_roundg (gk - 1)
      case measure => omega
      case rel => exact ⟨i + 1, by simp, by omega, hX.out.bel, by rw [hfin.out]; exact hX.out.done⟩
   ·have hE : endB c = true := by simp [endB, e1]
    replace e1 := Mr.hid e1
    replace ED := ED.out
    rw [hE] at ED
    replace ED := Mr.hid ED
    go_upto_region 7 with (go_at_call 27; refine (ED.out _).mono ?_; clear ED; rintro e w7 ⟨rfl, hB7⟩; clear k0 k1 k2 k3 k4 k5 k6 k7 k8 kl; replace hA := Mr.hid (hA.out.below hB7); clear hB7; obtain ⟨k0, k1, k2, k3, k4, k5, k6, k7, k8, kl⟩ := cq_cells hA.out.box)
    go_upto_region 8 with (at_builtin; refine wpList_append_mine _ rfl (.tmp 20) (.tmp 23) 24 rfl (fun k => W.heap.size ≤ k ∧ k ≠ bx) 3 i0 _ 1 8 Tryz.underlying24 hi0 hz0 hz1 hz2 rfl _ (l1).length (ints (l1)) rfl (hA.out.own.below ((Below.refl _ _).alloc (Nat.le_refl _) _)) (some ⟨w7.heap.size, 0, none⟩) 1 1 [.int .i64 c.fin] rfl rfl (fun e => by cases e) (new1 rfl) (by simp [Value.oneCell']) (by unfold maxLen; omega) (by omega) ?_; intro b7 cap7 w8 hown hfr; have hX := hA.out.app rfl hown hfr; clear hown hfr; replace hX := Mr.hid hX)
    clear k0 k1 k2 k3 k4 k5 k6 k7 k8 kl
    replace hA := hX.out
    clear hX
    obtain ⟨l2, hl2⟩ : ∃ l2, l2 = l1 ++ [c.fin] := ⟨_, rfl⟩
    have ql2 : l1.length + 1 = l2.length := by rw [hl2]; simp
    rw [← hl2, ql2] at hA
    rw [ql2]
    replace ql2 : l2.length ≤ 3 * i + 2 := by omega
    replace hl2 := Mr.hid hl2
    replace hA := Mr.hid hA
    obtain ⟨k0, k1, k2, k3, k4, k5, k6, k7, k8, kl⟩ := cq_cells hA.out.box
    by_cases e2 : c.pt = -1
    ·have e2' : (c.pt != -1) = false := by simp [e2]
     have e3 := Mr.hid trivial
     replace e2 := Mr.hid e2
     have hfin : Hid (mvl (cs.take (i + 1)) = l2) := by show mvl (cs.take (i + 1)) = l2; rw [hnx.out, hl2.out, hl1.out]; simp [mvc, e1.out, e2.out, e3.out]
     go_wp2
     go_roundg (gk - 1)
     case measure => omega
     case rel => exact ⟨i + 1, by simp, by omega, hA.out.bel, by rw [hfin.out]; exact hA.out.done⟩
    ·have e2' : (c.pt != -1) = true := by simp [e2]
     replace e2 := Mr.hid e2
     by_cases e3 : c.pt = c.fin
     ·have e3' : (c.pt != c.fin) = false := by simp [e3]
      replace e3 := Mr.hid e3
      have hfin : Hid (mvl (cs.take (i + 1)) = l2) := by show mvl (cs.take (i + 1)) = l2; rw [hnx.out, hl2.out, hl1.out]; simp [mvc, e1.out, e2.out, e3.out]
      go_wp2
      go_roundg (gk - 1)
      case measure => omega
      case rel => exact ⟨i + 1, by simp, by omega, hA.out.bel, by rw [hfin.out]; exact hA.out.done⟩
     ·have e3' : (c.pt != c.fin) = true := by simp [e3]
      replace e3 := Mr.hid e3
      have hfin : Hid (mvl (cs.take (i + 1)) = l2 ++ [c.pt]) := by show mvl (cs.take (i + 1)) = l2 ++ [c.pt]; rw [hnx.out, hl2.out, hl1.out]; simp [mvc, e1.out, e2.out, e3.out]
      go_wp2_with (at_builtin; refine wpList_append_mine _ rfl (.tmp 35) (.tmp 38) 24 rfl (fun k => W.heap.size ≤ k ∧ k ≠ bx) 3 i0 _ 1 8 Tryz.underlying24 hi0 hz0 hz1 hz2 rfl _ (l2).length (ints (l2)) rfl (hA.out.own.below ((Below.refl _ _).alloc (Nat.le_refl _) _)) (some ⟨w8.heap.size, 0, none⟩) 1 1 [.int .i64 c.pt] rfl rfl (fun e => by cases e) (new1 rfl) (by simp [Value.oneCell']) (by unfold maxLen; omega) (by omega) ?_; intro b9 cap9 w9 hown hfr; have hX := hA.out.app rfl hown hfr; clear hown hfr; replace hX := Mr.hid hX)
      go_roundg (gk - 1)
      case measure => omega
      case rel => exact ⟨i + 1, by simp, by omega, hX.out.bel, by rw [hfin.out]; exact hX.out.done⟩
  ·have hin : i = cs.length := by have := hn.out; omega
   rw [hin, List.take_length] at ho
   obtain ⟨l, hl⟩ : ∃ l, l = mvl cs := ⟨_, rfl⟩
   rw [← hl] at ho
   have hb2 : b = true ↔ ∀ i x y, (srt l)[i]? = some x → (srt l)[i + 1]? = some y → y ≠ x := by rw [hb.out, ← hl, ← (srt_perm l).nodup_iff]; exact sorted_nodup (srt_up l)
   have hll : l.length ≤ 3 * n := by rw [hl, hn.out]; exact mvl_len _
   have SO := sort_any ho (by omega)
   obtain ⟨u, cu, rfl, hcu, hcm⟩ := ho.form
   have hsl := srt_len l
   obtain ⟨s, hs⟩ : ∃ s, s = srt l := ⟨_, rfl⟩
   rw [← hs] at hb2 SO hsl
   obtain ⟨m, hm⟩ : ∃ m, m = l.length := ⟨_, rfl⟩
   rw [← hm] at SO hcu hsl hll ⊢
   clear hb ho hl hs hin hm
   have dl : decide ((i : Int) < (n : Int)) = false := decide_eq_false (by omega)
   replace SO := Mr.hid SO
   replace hb2 := Mr.hid hb2
   replace B := Mr.hid B
   replace hsl := Mr.hid hsl
   go_wp2_with (go_at_call 63; refine SO.out.mono ?_; clear SO; rintro e w2 ⟨rfl, hf2, hS2⟩; have hB2 : Below W.heap.size W w2 := ⟨hf2.os.trans B.out.os, hf2.tape.trans B.out.tape, hf2.output.trans B.out.output, Nat.le_trans B.out.size hf2.size, fun k hk => (hf2.block k (Nat.lt_of_lt_of_le hk B.out.size) (by omega)).trans (B.out.block k hk)⟩; clear hf2 B; replace hB2 := Mr.hid hB2; replace hS2 := Mr.hid hS2)
   go_loopg [6] m (fun k s6 wr => ∃ i : Nat, s6 = .int .i64 ((i : Int) + 1) ∧ i + k = m ∧ Below W.heap.size W wr ∧ Below w2.heap.size w2 wr ∧ ∀ j x y, j < i → s[j]? = some x → s[j + 1]? = some y → y ≠ x)
   case atStart => exact ⟨0, rfl, by omega, hB2.out, Below.refl _ _, fun j x y hj => by omega⟩
   case round =>
    obtain ⟨i, rfl, hi, B, B2, ht⟩ := hrel
    by_cases hlt : i + 1 < m
    ·obtain ⟨gu, ou, cu', hgu, _, _, hul, ru⟩ := (hS2.out.below B2).there (by omega)
     cases hgu
     have hx1 : s[i + 1]? = some (s[i + 1]'(by have := hsl.out; omega)) := List.getElem?_eq_getElem _
     have hx0 : s[i]? = some (s[i]'(by have := hsl.out; omega)) := List.getElem?_eq_getElem _
     obtain ⟨y1, hy1⟩ : ∃ y, y = s[i + 1]'(by have := hsl.out; omega) := ⟨_, rfl⟩
     obtain ⟨y0, hy0⟩ : ∃ y, y = s[i]'(by have := hsl.out; omega) := ⟨_, rfl⟩
     rw [← hy1] at hx1
     rw [← hy0] at hx0
     clear hy0 hy1
     have k1 := ru (i + 1) _ (by rw [ints, List.getElem?_map, hx1]; rfl)
     have k0 := ru i _ (by rw [ints, List.getElem?_map, hx0]; rfl)
     have hli : ((i : Int) + 1) < (m : Int) := by omega
     have ewr : IntKind.i64.wrap ((i : Int) + 1 - 1) = (i : Int) := by rw [show (i : Int) + 1 - 1 = (i : Int) from by omega]; exact i64x _ (by omega) (by omega)
     have e1 : ((i : Int) + 1).toNat = i + 1 := by omega
     clear ru
     replace B := Mr.hid B
     replace B2 := Mr.hid B2
     replace ht := Mr.hid ht
     replace hx1 := Mr.hid hx1
     replace hx0 := Mr.hid hx0
     go_upto_region 15 with (fail)
     go_quiet (fail)
     have hBq := Bx.draws W.heap.size wr nq
     have hBq2 := Bx.draws w2.heap.size wr nq
     have hB := Mr.hid (B.out.trans hBq)
     have hC2 := Mr.hid (B2.out.trans hBq2)
     clear hBq hBq2 k1 k0 hul B B2
     generalize wr.drewN nq = W6 at *
     by_cases he : y1 = y0
     ·have hbf : b = false := by
       cases hbb : b with
       | false => rfl
       | true => exact absurd he (hb2.out.1 hbb i y0 y1 hx0.out hx1.out)
      have he2 : (y1 == y0) = true := by simp [he]
      subst hbf
      go_wp2
      go_ret
      exact ⟨rfl, hB.out⟩
     ·have he2 : (y1 == y0) = false := by simp [he]
      go_wp2
      go_roundg (gk - 1)
      case measure => omega
      case rel => exact ⟨i + 1, by simp, by omega, hB.out, hC2.out, fun j x y hj hx hy => by
       by_cases hji : j < i
       ·exact ht.out j x y hji hx hy
       ·have : j = i := by omega
        subst this
        rw [hx0.out] at hx; rw [hx1.out] at hy; cases hx; cases hy; exact he⟩
    ·have hbt : b = true := hb2.out.2 (fun j x y hx hy => ht j x y (by have := (List.getElem?_eq_some_iff.1 hy).1; have := hsl.out; omega) hx hy)
     subst hbt
     have dl2 : decide (((i : Int) + 1) < (m : Int)) = false := decide_eq_false (by omega)
     replace B := Mr.hid B
     clear ht
     go_wp2
     go_ret
     exact ⟨rfl, B.out⟩
end Go.Proofs.YtnbibkohgppjnaaGreat.Wt
namespace Go.Proofs.YtnbibkohgppjnaaGreat.Wt
open Go.RowKit Mr Md
def lastL (cs : List Cq) (i : Nat) : List Value := (List.range 16).map fun (t : Nat) => Value.int .i64 ((lastT cs (t : Int) i : Nat) : Int)
def lastA (cs : List Cq) (i : Nat) : Array Value := (lastL cs i).toArray
theorem lastA_get (cs : List Cq) (i : Nat) {t : Int} (h0 : 0 ≤ t) (h1 : t < 16) : (lastA cs i)[t.toNat]? = some (.int .i64 ((lastT cs t i : Nat) : Int)) := by
 have e : ((t.toNat : Nat) : Int) = t := by omega
 simp [lastA, lastL, show t.toNat < 16 by omega, e, show max t 0 = t by omega]
theorem lastA_zero (cs : List Cq) : lastA cs 0 = #[.int .i64 0, .int .i64 0, .int .i64 0, .int .i64 0, .int .i64 0, .int .i64 0, .int .i64 0, .int .i64 0, .int .i64 0, .int .i64 0, .int .i64 0, .int .i64 0, .int .i64 0, .int .i64 0, .int .i64 0, .int .i64 0] := by
 simp [lastA, lastL, lastT, List.range, List.range.loop]
theorem lastA_size (cs : List Cq) (i : Nat) : (lastA cs i).size = 16 := by simp [lastA, lastL]
theorem lastA_set {cs : List Cq} {i : Nat} {c : Cq} (hc : cs[i]? = some c) (h0 : 0 ≤ c.th) (h1 : c.th < 16) : (lastA cs i).setIfInBounds c.th.toNat (.int .i64 ((i : Int) + 1)) = lastA cs (i + 1) := by
 apply Array.ext
 ·simp [lastA_size]
 ·intro j hj1 hj2
  have hj : j < 16 := by simpa [lastA_size] using hj2
  rw [Array.getElem_setIfInBounds (by rw [lastA_size]; exact hj)]
  by_cases e : c.th.toNat = j
  ·rw [if_pos e]
   have e2 : ((j : Nat) : Int) = c.th := by omega
   simp [lastA, lastL, e2, lastT_hit hc]
  ·rw [if_neg e]
   have e2 : c.th ≠ ((j : Nat) : Int) := by omega
   simp [lastA, lastL, lastT_miss hc e2]
structure Tn (W w : World) (b : Nat) (ty : TypeId) (cs : List Cq) (i : Nat) : Prop where
 bel : Below W.heap.size W w
 up : W.heap.size ≤ b
 box : w.heap[b]? = some (.cells (lastA cs i) ty (0, 0))
theorem Tn.below {W w w' : World} {b : Nat} {ty : TypeId} {cs : List Cq} {i : Nat} (h : Tn W w b ty cs i) (hB : Below w.heap.size w w') : Tn W w' b ty cs i :=
 ⟨h.bel.trans (hB.mono h.bel.size), h.up, (hB.block _ (Array.getElem?_eq_some_iff.1 h.box).1).trans h.box⟩
theorem Tn.get {W w : World} {b : Nat} {ty : TypeId} {cs : List Cq} {i : Nat} (h : Tn W w b ty cs i) {t : Int} (h0 : 0 ≤ t) (h1 : t < 16) : w.cell? ⟨b, t.toNat, none⟩ = some (.int .i64 ((lastT cs t i : Nat) : Int)) ∧ w.frozen? ⟨b, t.toNat, none⟩ = false ∧ b < w.heap.size := by
 refine ⟨?_, by simp [World.frozen?, h.box], (Array.getElem?_eq_some_iff.1 h.box).1⟩
 rw [cell_blk h.box, lastA_get cs i h0 h1]
theorem Tn.next {W w : World} {b : Nat} {ty : TypeId} {cs : List Cq} {i : Nat} (h : Tn W w b ty cs i) {c : Cq} (hc : cs[i]? = some c) (h0 : 0 ≤ c.th) (h1 : c.th < 16) : Tn W (w.setCell ⟨b, c.th.toNat, none⟩ (.int .i64 ((i : Int) + 1))) b ty cs (i + 1) :=
 ⟨h.bel.setCell (p := ⟨b, _, none⟩) h.up _, h.up, by rw [setBlk h.box, lastA_set hc h0 h1]⟩
end Go.Proofs.YtnbibkohgppjnaaGreat.Wt
namespace Go.Proofs.YtnbibkohgppjnaaGreat.Wt
open Go.RowKit Mr Md
set_option maxHeartbeats 8000000 in
theorem inTurn_any {W : World} {T : Nat → Prop} {v : Value} {cs : List Cq} (hv : Sl W T 9 v cs.length (cqs cs)) (hsm : cs.length * 72 ≤ 281474976710656) (hU : Up cs cs.length) (b : Bool) (hb : b = true ↔ Turn AhP cs cs.length) :
  Calls Tryz.prog 42 #[v] W fun e w' => e = .returned (.bool b) ∧ Below W.heap.size W w' := by
 obtain ⟨a, cap, rfl, hcap⟩ := hv.form
 obtain ⟨n, hn⟩ : ∃ n, n = cs.length := ⟨_, rfl⟩
 rw [← hn] at hsm hcap hb
 replace hU := Mr.hid hU
 replace hv := Mr.hid hv
 replace hb := Mr.hid hb
 rw [← hn]
 replace hn := Mr.hid hn
 have hT0 : ∀ w1, w1 = W.alloc (.cells #[.int .i64 0, .int .i64 0, .int .i64 0, .int .i64 0, .int .i64 0, .int .i64 0, .int .i64 0, .int .i64 0, .int .i64 0, .int .i64 0, .int .i64 0, .int .i64 0, .int .i64 0, .int .i64 0, .int .i64 0, .int .i64 0] 109 (0, 0)) → Tn W w1 W.heap.size 109 cs 0 := by
  rintro w1 rfl
  exact ⟨(Below.refl _ _).alloc (Nat.le_refl _) _, Nat.le_refl _, by rw [lastA_zero]; exact new_at _ _ _ rfl⟩
 replace hT0 := Mr.hid hT0
 go_enter Tryz.func42, Tryz.ntmps42
 go_upto_region 2 with (fail)
 have hT := hT0.out _ rfl
 clear hT0
 generalize (W.alloc (.cells #[.int .i64 0, .int .i64 0, .int .i64 0, .int .i64 0, .int .i64 0, .int .i64 0, .int .i64 0, .int .i64 0, .int .i64 0, .int .i64 0, .int .i64 0, .int .i64 0, .int .i64 0, .int .i64 0, .int .i64 0, .int .i64 0] 109 (0, 0))) = w1 at *
 obtain ⟨ba, hba⟩ : ∃ ba, ba = W.heap.size := ⟨_, rfl⟩
 rw [← hba] at hT
 rw [← hba]
 clear hba
 replace hT := Mr.hid hT
 go_wp2
 go_loopg [9] n (fun k s9 wr => ∃ i : Nat, s9 = .int .i64 (i : Int) ∧ i + k = n ∧ Turn AhP cs i ∧ Tn W wr ba 109 cs i)
 case atStart => exact ⟨0, rfl, by omega, Turn.zero _ _, hT.out⟩
 case round =>
  clear hT
  obtain ⟨i, rfl, hi, hR, hT⟩ := hrel
  by_cases hlt : i < n
  ·obtain ⟨c, hci⟩ := get_of_lt (cs := cs) (i := i) (by have := hn.out; omega)
   obtain ⟨bc, oc, rfl, A9⟩ := call_at (hv.out.below hT.bel) hci
   obtain ⟨t0, t1, -, -⟩ := hU.out.fit (by have := hn.out; omega) hci
   have hTA := fun o => hT.below ((Below.refl wr.heap.size wr).alloc (Nat.le_refl _) o)
   have hbx : ∀ w1, w1 = wr.alloc (cqO c) → w1.heap[wr.heap.size]? = some (cqO c) := by rintro w1 rfl; exact new_at _ _ _ rfl
   obtain ⟨hbl, g0, g1, g2, g3, g4, g5, g6, g7, g8⟩ := A9
   obtain ⟨z1, z2, z3⟩ := (hTA (cqO c)).get t0 t1
   have hlI : (i : Int) < (n : Int) := by omega
   have hml := lastT_le cs c.th i
   unfold cqO at z1 z2
   replace hTA := Mr.hid hTA
   replace hbx := Mr.hid hbx
   replace hR := Mr.hid hR
   replace hci := Mr.hid hci
   clear hT
   obtain ⟨m0, hm0⟩ : ∃ m0, m0 = lastT cs c.th i := ⟨_, rfl⟩
   rw [← hm0] at z1 hml
   replace hm0 := Mr.hid hm0
   go_upto_region 6 with (fail)
   have hT := hTA.out (cqO c)
   have hB := hbx.out _ rfl
   unfold cqO at hT hB
   clear hTA hbx g0 g1 g2 g3 g4 g5 g6 g7 g8 hbl z1 z2 z3
   generalize (wr.alloc (Obj.cells #[.int .i64 c.th, .int .i64 c.op, .int .i64 c.arg, .int .i64 c.data, .int .i64 c.beg, .int .i64 c.fin, .int .i64 c.pt, .int .i64 c.ak, .int .i64 c.av] 45 (0, 0))) = w5 at *
   generalize wr.heap.size = bx at *
   clear wr
   have NX : ∀ w, Tn W w ba 109 cs i → Tn W (w.setCell ⟨ba, c.th.toNat, none⟩ (.int .i64 ((i : Int) + 1))) ba 109 cs (i + 1) := fun w h => h.next hci.out t0 t1
   have GT : ∀ w, Tn W w ba 109 cs i → w.cell? ⟨ba, c.th.toNat, none⟩ = some (.int .i64 (m0 : Int)) ∧ w.frozen? ⟨ba, c.th.toNat, none⟩ = false ∧ ba < w.heap.size := fun w h => by rw [hm0.out]; exact h.get t0 t1
   have hw : IntKind.i64.wrap ((i : Int) + 1) = (i : Int) + 1 := i64x _ (by omega) (by omega)
   replace NX := Mr.hid NX
   replace GT := Mr.hid GT
   by_cases hm : m0 = 0
   ·have hok : Turn AhP cs (i + 1) := hR.out.succ hci.out (fun d h0 => by rw [← hm0.out, hm] at h0; omega)
    subst hm
    obtain ⟨k0, k1, k2, k3, k4, k5, k6, k7, k8, kl⟩ := cq_cells (c := c) hB
    obtain ⟨z1, z2, z3⟩ := GT.out _ hT
    replace hT := Mr.hid hT
    replace hok := Mr.hid hok
    go_quiet (fail)
    go_wp2
    go_roundg (gk - 1)
    case measure => omega
    case rel => exact ⟨i + 1, by simp, by omega, hok.out, NX.out _ (hT.out.below (Bx.draws _ _ nq))⟩
   ·obtain ⟨m, rfl⟩ : ∃ m, m0 = m + 1 := ⟨m0 - 1, by omega⟩
    obtain ⟨d, hdm⟩ := get_of_lt (cs := cs) (i := m) (by have := hn.out; omega)
    obtain ⟨bc', oc', hbo, A9⟩ := call_at (hv.out.below hT.bel) hdm
    cases hbo
    obtain ⟨hbl, d0, d1, d2, d3, d4, d5, d6, d7, d8⟩ := A9
    obtain ⟨k0, k1, k2, k3, k4, k5, k6, k7, k8, kl⟩ := cq_cells (c := c) hB
    have hmw : IntKind.i64.wrap (((m + 1 : Nat) : Int) - 1) = (m : Int) := by rw [show ((m + 1 : Nat) : Int) - 1 = (m : Int) from by omega]; exact i64x _ (by omega) (by omega)
    have hmw2 : IntKind.i64.wrap (m : Int) = (m : Int) := i64x _ (by omega) (by omega)
    have hmw3 : IntKind.i64.wrap ((m : Int) + 1 - 1) = (m : Int) := by rw [show (m : Int) + 1 - 1 = (m : Int) from by omega]; exact i64x _ (by omega) (by omega)
    have hm3 : (0 : Int) < (m : Int) + 1 := by omega
    have hm0' : (0 : Int) < ((m + 1 : Nat) : Int) := by omega
    have hm1 : (0 : Int) ≤ (m : Int) := by omega
    have hm2 : (m : Int) < (n : Int) := by omega
    have AA := fun w => ahead_any d c w
    unfold Cq.val at AA
    obtain ⟨q, hq⟩ : ∃ q, q = ahB d c := ⟨_, rfl⟩
    rw [← hq] at AA
    have hok : q = true → Turn AhP cs (i + 1) := fun h => hR.out.succ hci.out (fun d' h0 hd' => by
     rw [← hm0.out, Nat.add_sub_cancel, hdm] at hd'; cases hd'
     rw [hq] at h; simp [ahB] at h; exact h)
    have hno : q = false → b = false := fun h => by
     cases hbb : b with
     | false => rfl
     | true =>
      have h2 := hb.out.1 hbb i hlt c d hci.out (by rw [← hm0.out]; omega) (by rw [← hm0.out, Nat.add_sub_cancel]; exact hdm)
      rw [hq] at h; simp [ahB, AhP] at h h2; omega
    replace AA := Mr.hid AA
    replace hq := Mr.hid hq
    replace hok := Mr.hid hok
    replace hno := Mr.hid hno
    replace hT := Mr.hid hT
    replace hdm := Mr.hid hdm
    have KK : Hid (∀ w', Below w5.heap.size w5 w' → w'.cell? ⟨bc, oc + m * 9, none⟩ = some (.int .i64 d.th) ∧ w'.cell? ⟨bc, oc + m * 9 + 1, none⟩ = some (.int .i64 d.op) ∧ w'.cell? ⟨bc, oc + m * 9 + 2, none⟩ = some (.int .i64 d.arg) ∧ w'.cell? ⟨bc, oc + m * 9 + 3, none⟩ = some (.int .i64 d.data) ∧ w'.cell? ⟨bc, oc + m * 9 + 4, none⟩ = some (.int .i64 d.beg) ∧ w'.cell? ⟨bc, oc + m * 9 + 5, none⟩ = some (.int .i64 d.fin) ∧ w'.cell? ⟨bc, oc + m * 9 + 6, none⟩ = some (.int .i64 d.pt) ∧ w'.cell? ⟨bc, oc + m * 9 + 7, none⟩ = some (.int .i64 d.ak) ∧ w'.cell? ⟨bc, oc + m * 9 + 8, none⟩ = some (.int .i64 d.av) ∧ w'.cell? ⟨bx, 0, none⟩ = some (.int .i64 c.th) ∧ w'.cell? ⟨bx, 1, none⟩ = some (.int .i64 c.op) ∧ w'.cell? ⟨bx, 2, none⟩ = some (.int .i64 c.arg) ∧ w'.cell? ⟨bx, 3, none⟩ = some (.int .i64 c.data) ∧ w'.cell? ⟨bx, 4, none⟩ = some (.int .i64 c.beg) ∧ w'.cell? ⟨bx, 5, none⟩ = some (.int .i64 c.fin) ∧ w'.cell? ⟨bx, 6, none⟩ = some (.int .i64 c.pt) ∧ w'.cell? ⟨bx, 7, none⟩ = some (.int .i64 c.ak) ∧ w'.cell? ⟨bx, 8, none⟩ = some (.int .i64 c.av)) := fun w' hB => ⟨(hB.cell (p := ⟨bc, _, none⟩) hbl).trans d0, (hB.cell (p := ⟨bc, _, none⟩) hbl).trans d1, (hB.cell (p := ⟨bc, _, none⟩) hbl).trans d2, (hB.cell (p := ⟨bc, _, none⟩) hbl).trans d3, (hB.cell (p := ⟨bc, _, none⟩) hbl).trans d4, (hB.cell (p := ⟨bc, _, none⟩) hbl).trans d5, (hB.cell (p := ⟨bc, _, none⟩) hbl).trans d6, (hB.cell (p := ⟨bc, _, none⟩) hbl).trans d7, (hB.cell (p := ⟨bc, _, none⟩) hbl).trans d8, (hB.cell (p := ⟨bx, _, none⟩) kl).trans k0, (hB.cell (p := ⟨bx, _, none⟩) kl).trans k1, (hB.cell (p := ⟨bx, _, none⟩) kl).trans k2, (hB.cell (p := ⟨bx, _, none⟩) kl).trans k3, (hB.cell (p := ⟨bx, _, none⟩) kl).trans k4, (hB.cell (p := ⟨bx, _, none⟩) kl).trans k5, (hB.cell (p := ⟨bx, _, none⟩) kl).trans k6, (hB.cell (p := ⟨bx, _, none⟩) kl).trans k7, (hB.cell (p := ⟨bx, _, none⟩) kl).trans k8⟩
    go_region_held3 (fun w' => w'.cell? ⟨bc, oc + m * 9, none⟩ = some (.int .i64 d.th) ∧ w'.cell? ⟨bc, oc + m * 9 + 1, none⟩ = some (.int .i64 d.op) ∧ w'.cell? ⟨bc, oc + m * 9 + 2, none⟩ = some (.int .i64 d.arg) ∧ w'.cell? ⟨bc, oc + m * 9 + 3, none⟩ = some (.int .i64 d.data) ∧ w'.cell? ⟨bc, oc + m * 9 + 4, none⟩ = some (.int .i64 d.beg) ∧ w'.cell? ⟨bc, oc + m * 9 + 5, none⟩ = some (.int .i64 d.fin) ∧ w'.cell? ⟨bc, oc + m * 9 + 6, none⟩ = some (.int .i64 d.pt) ∧ w'.cell? ⟨bc, oc + m * 9 + 7, none⟩ = some (.int .i64 d.ak) ∧ w'.cell? ⟨bc, oc + m * 9 + 8, none⟩ = some (.int .i64 d.av) ∧ w'.cell? ⟨bx, 0, none⟩ = some (.int .i64 c.th) ∧ w'.cell? ⟨bx, 1, none⟩ = some (.int .i64 c.op) ∧ w'.cell? ⟨bx, 2, none⟩ = some (.int .i64 c.arg) ∧ w'.cell? ⟨bx, 3, none⟩ = some (.int .i64 c.data) ∧ w'.cell? ⟨bx, 4, none⟩ = some (.int .i64 c.beg) ∧ w'.cell? ⟨bx, 5, none⟩ = some (.int .i64 c.fin) ∧ w'.cell? ⟨bx, 6, none⟩ = some (.int .i64 c.pt) ∧ w'.cell? ⟨bx, 7, none⟩ = some (.int .i64 c.ak) ∧ w'.cell? ⟨bx, 8, none⟩ = some (.int .i64 c.av)) (first | exact KK.out _ (by assumption) | go_keep) (first | (go_at_call 29; refine (AA.out _).mono ?_; rintro e w6 ⟨rfl, hB6⟩; replace hB6 : Below w5.heap.size w5 w6 := ⟨hB6.os, hB6.tape, hB6.output, hB6.size, hB6.block⟩))
    all_goals
     have hT6 := hT.out.below hB6
     clear hT KK AA d0 d1 d2 d3 d4 d5 d6 d7 d8 k0 k1 k2 k3 k4 k5 k6 k7 k8
     have hbx6 := (hB6.block _ kl).trans hB
     obtain ⟨k0, k1, k2, k3, k4, k5, k6, k7, k8, kl6⟩ := cq_cells (c := c) hbx6
     obtain ⟨z1, z2, z3⟩ := GT.out _ hT6
     replace hT6 := Mr.hid hT6
     cases q with
     | false =>
      have hbf := hno.out rfl
      subst hbf
      go_wp2
      go_ret
      exact ⟨rfl, hT6.out.bel⟩
     | true =>
      have hok2 := Mr.hid (hok.out rfl)
      go_wp2
      go_roundg (gk - 1)
      case measure => omega
      case rel => exact ⟨i + 1, by simp, by omega, hok2.out, NX.out _ hT6.out⟩
  ·have hbt : b = true := hb.out.2 (by rw [show n = i from by omega]; exact hR)
   subst hbt
   have dl : decide ((i : Int) < (n : Int)) = false := decide_eq_false (by omega)
   replace hT := Mr.hid hT
   clear hR
   go_wp2
   go_ret
   exact ⟨rfl, hT.out.bel⟩
end Go.Proofs.YtnbibkohgppjnaaGreat.Wt
