import Derived.Test.YtegbcocbopgghabJ28
import Derived.Test.YtegbcocbopgghabJ29
import Derived.Test.YtegbcocbopgghabJ30
import Derived.Test.YtegbcocbopgghabJ26
import Derived.Test.YtegbcocbopgghabJ09
/-
  Package model: admit of any call.
-/
namespace Go.Proofs.Ytegbcocbopgghab.Md
open Go.RowKit Mr
set_option linter.unusedVariables false
set_option linter.unusedSimpArgs false
theorem admit_any {W : World} {B : Nat} {lab : Nat → Nat} {g0 g1 g2 g3 g4 : Nat} {x : Ct} (hd0 : Wd W B lab g0 g1 g2 g3 g4 x) (hi : ∀ k, lab k < 5 → k < W.heap.size) (hBW : B ≤ W.heap.size) (hin : CtIn 225000000000000 x) (hm : May x) (c : Cq) (ho : obj c.op ≠ 0) :
    Calls Try.prog 39 #[.agg #[.iface 92 (.pointer (some ⟨g0, 0, none⟩)), .iface 94 (.pointer (some ⟨g1, 0, none⟩)), .iface 96 (.pointer (some ⟨g2, 0, none⟩)), .iface 98 (.pointer (some ⟨g3, 0, none⟩)), .iface 100 (.pointer (some ⟨g4, 0, none⟩))], .agg #[.int .i64 c.th, .int .i64 c.op, .int .i64 c.arg, .int .i64 c.data, .int .i64 c.beg, .int .i64 c.fin, .int .i64 c.pt, .int .i64 c.ak, .int .i64 c.av]] W fun e w' => e = .returned (.bool (alw x c).2) ∧ ∃ lab', Wd w' B lab' g0 g1 g2 g3 g4 (adm x c) ∧ (∀ k, lab' k < 5 → k < w'.heap.size ∧ (k < W.heap.size → lab k < 5)) ∧ Fr W w' (fun k => lab k < 5) := by
  obtain ⟨th, op, arg, data, beg, fin, pt, ak, av⟩ := c
  rcases obj_cases op with h | h | h | h | h | h
  · exact absurd h ho
  · exact admit_1 hd0 hi hBW hin hm th op arg data beg fin pt ak av h
  · exact admit_2 hd0 hi hBW hin hm th op arg data beg fin pt ak av h
  · exact admit_3 hd0 hi hBW hin hm th op arg data beg fin pt ak av h
  · exact admit_4 hd0 hi hBW hin hm th op arg data beg fin pt ak av h
  · exact admit_5 hd0 hi hBW hin hm th op arg data beg fin pt ak av h
end Go.Proofs.Ytegbcocbopgghab.Md
/-
  Package model: Allows.
-/
namespace Go.Proofs.Ytegbcocbopgghab.Md
open Go.RowKit Mr
set_option linter.unusedVariables false
set_option linter.unusedSimpArgs false
/-- Boxes at n (what was handed in), n + 1 (the call), n + 1 + 1 (the contents). -/
structure Dy (W w : World) (oU oC : Obj) : Prop where
  bel : Below W.heap.size W w
  u : w.heap[W.heap.size]? = some oU
  c : w.heap[W.heap.size + 1]? = some oC
  r : w.heap[W.heap.size + 1 + 1]? = some (.cells #[.slice none 0 0, .slice none 0 0, .slice none 0 0, .slice none 0 0, .slice none 0 0] 25 (0, 0))
theorem Dy.lt {W w : World} {oU oC : Obj} (h : Dy W w oU oC) : W.heap.size + 1 + 1 < w.heap.size := (Array.getElem?_eq_some_iff.1 h.r).1
theorem Dy.new (W : World) (oU oC : Obj) : Dy W (((W.alloc oU).alloc oC).alloc (.cells #[.slice none 0 0, .slice none 0 0, .slice none 0 0, .slice none 0 0, .slice none 0 0] 25 (0, 0))) oU oC :=
  ⟨(((Below.refl _ _).alloc (Nat.le_refl _) _).alloc (by simp) _).alloc (by simp; omega) _, old_at (old_at (new_at W _ _ rfl) _) _, old_at (new_at _ _ _ (by simp)) _, new_at _ _ _ (by simp)⟩
theorem Dy.below {W w w' : World} {oU oC : Obj} (h : Dy W w oU oC) (hB : Below w.heap.size w w') : Dy W w' oU oC := by
  have hl := h.lt
  exact ⟨h.bel.trans (hB.mono h.bel.size), (hB.block _ (by omega)).trans h.u, (hB.block _ (by omega)).trans h.c, (hB.block _ (by omega)).trans h.r⟩
theorem Dy.fr {W w w' : World} {oU oC : Obj} {S : Nat → Prop} (h : Dy W w oU oC) (hF : Fr w w' S) (hS : ∀ k, S k → W.heap.size + 1 + 1 < k) : Dy W w' oU oC := by
  have hl := h.lt
  have q : ∀ k, k ≤ W.heap.size + 1 + 1 → ¬ S k := fun k hk e => by have := hS k e; omega
  exact ⟨h.bel.trans (hF.below (n := W.heap.size) (fun k hk => by have := hS k hk; omega) h.bel.size), (hF.block _ (by omega) (q _ (by omega))).trans h.u, (hF.block _ (by omega) (q _ (by omega))).trans h.c, (hF.block _ (by omega) (q _ (by omega))).trans h.r⟩
theorem alw_ct0 {x : Ct} {c : Cq} (h : (alw x c).2 = false) : (alw x c).1 = ct0 := by
  unfold alw at h ⊢
  repeat' split at h
  all_goals first | cases h | skip
  all_goals simp_all
theorem adm_alw {x : Ct} {c : Cq} (h : (alw x c).2 = true) : adm x c = (alw x c).1 := if_pos h
set_option maxRecDepth 100000 in
set_option maxHeartbeats 8000000 in
theorem pAllows_state {W : World} {S : Nat → Prop} {u0 u1 u2 u3 u4 : Value} {x : Ct} (hu : CtAt W S u0 u1 u2 u3 u4 x) (hin : CtIn 225000000000000 x) (hm : ¬ May x) (c : Cq) :
    Calls Try.prog 17 #[.agg #[u0, u1, u2, u3, u4], .agg #[.int .i64 c.th, .int .i64 c.op, .int .i64 c.arg, .int .i64 c.data, .int .i64 c.beg, .int .i64 c.fin, .int .i64 c.pt, .int .i64 c.ak, .int .i64 c.av]] W fun e w' => ∃ v0 v1 v2 v3 v4 lab, e = .returned (.tuple #[.agg #[v0, v1, v2, v3, v4], .bool false, .int .i64 111]) ∧ CtOwn w' W.heap.size lab v0 v1 v2 v3 v4 ct0 ∧ Below W.heap.size W w' := by
  obtain ⟨a0, c0, rfl, _⟩ := hu.cell.form
  obtain ⟨a1, c1, rfl, _⟩ := hu.stack.form
  obtain ⟨a2, c2, rfl, _⟩ := hu.queue.form
  obtain ⟨a3, c3, rfl, _⟩ := hu.set.form
  obtain ⟨a4, c4, rfl, _⟩ := hu.table.form
  have CR := fun w' (hB : Below W.heap.size W w') (b : Nat) (hb : w'.heap[b]? = some (cqM c)) => refused_any (hu.below hB) (hin.sm (by decide)) (sl_call hb) (by show 1 * 72 ≤ 281474976710656; omega) false (by simp [hm]) 111 rfl
  have CW := fun w' (hB : Below W.heap.size W w') => worldOf_any (hu.below hB) (hin.mono (by decide))
  have hX0 := Dy.new W (.cells #[.slice a0 x.cell.length c0, .slice a1 x.stack.length c1, .slice a2 x.queue.length c2, .slice a3 x.set.length c3, .slice a4 x.table.length c4] 25 (0, 0)) (.cells #[.int .i64 c.th, .int .i64 c.op, .int .i64 c.arg, .int .i64 c.data, .int .i64 c.beg, .int .i64 c.fin, .int .i64 c.pt, .int .i64 c.ak, .int .i64 c.av] 50 (0, 0))
  obtain ⟨y0, y1, y2, y3, y4, y5⟩ := ifs_cells hX0.u
  obtain ⟨q0, q1, q2, q3, q4, q5, q6, q7, q8, q9⟩ := nines hX0.c
  have hn := new_at (((W.alloc (.cells #[.slice a0 x.cell.length c0, .slice a1 x.stack.length c1, .slice a2 x.queue.length c2, .slice a3 x.set.length c3, .slice a4 x.table.length c4] 25 (0, 0))).alloc (.cells #[.int .i64 c.th, .int .i64 c.op, .int .i64 c.arg, .int .i64 c.data, .int .i64 c.beg, .int .i64 c.fin, .int .i64 c.pt, .int .i64 c.ak, .int .i64 c.av] 50 (0, 0))).alloc (.cells #[.slice none 0 0, .slice none 0 0, .slice none 0 0, .slice none 0 0, .slice none 0 0] 25 (0, 0))) (.cells #[.int .i64 c.th, .int .i64 c.op, .int .i64 c.arg, .int .i64 c.data, .int .i64 c.beg, .int .i64 c.fin, .int .i64 c.pt, .int .i64 c.ak, .int .i64 c.av] 50 (0, 0)) (W.heap.size + 1 + 1 + 1) (by simp)
  have hY0 := hX0.below ((Below.refl _ (((W.alloc (.cells #[.slice a0 x.cell.length c0, .slice a1 x.stack.length c1, .slice a2 x.queue.length c2, .slice a3 x.set.length c3, .slice a4 x.table.length c4] 25 (0, 0))).alloc (.cells #[.int .i64 c.th, .int .i64 c.op, .int .i64 c.arg, .int .i64 c.data, .int .i64 c.beg, .int .i64 c.fin, .int .i64 c.pt, .int .i64 c.ak, .int .i64 c.av] 50 (0, 0))).alloc (.cells #[.slice none 0 0, .slice none 0 0, .slice none 0 0, .slice none 0 0, .slice none 0 0] 25 (0, 0)))).alloc (Nat.le_refl _) (.cells #[.int .i64 c.th, .int .i64 c.op, .int .i64 c.arg, .int .i64 c.data, .int .i64 c.beg, .int .i64 c.fin, .int .i64 c.pt, .int .i64 c.ak, .int .i64 c.av] 50 (0, 0)))
  have ez : (((W.alloc (.cells #[.slice a0 x.cell.length c0, .slice a1 x.stack.length c1, .slice a2 x.queue.length c2, .slice a3 x.set.length c3, .slice a4 x.table.length c4] 25 (0, 0))).alloc (.cells #[.int .i64 c.th, .int .i64 c.op, .int .i64 c.arg, .int .i64 c.data, .int .i64 c.beg, .int .i64 c.fin, .int .i64 c.pt, .int .i64 c.ak, .int .i64 c.av] 50 (0, 0))).alloc (.cells #[.slice none 0 0, .slice none 0 0, .slice none 0 0, .slice none 0 0, .slice none 0 0] 25 (0, 0))).heap.size = W.heap.size + 3 := by simp
  unfold cqM at CR
  clear hu
  replace CR := Mr.hid CR
  replace CW := Mr.hid CW
  replace hX0 := Mr.hid hX0
  replace hY0 := Mr.hid hY0
  replace hn := Mr.hid hn
  go_enter Try.func17, Try.ntmps17
  go_upto_region 3 with (first | (go_at_call 27; refine (CR.out _ hY0.out.bel _ hn.out).mono ?_; rintro e w1 ⟨rfl, hB1⟩; have hX1 := Mr.hid (hY0.out.below hB1); clear y0 y1 y2 y3 y4 y5 q0 q1 q2 q3 q4 q5 q6 q7 q8 q9; obtain ⟨y0, y1, y2, y3, y4, y5⟩ := ifs_cells hX1.out.u; obtain ⟨q0, q1, q2, q3, q4, q5, q6, q7, q8, q9⟩ := nines hX1.out.c))
  clear y0 y1 y2 y3 y4 y5 q0 q1 q2 q3 q4 q5 q6 q7 q8 q9
  obtain ⟨r0, r1, r2, r3, r4, r5⟩ := ifs_cells hX1.out.r
  obtain ⟨f0, f1, f2, f3, f4⟩ := ifs_thaw hX1.out.r
  have m2 := set5_five (.slice none 0 0) (.slice none 0 0) (.slice none 0 0) (.slice none 0 0) (.slice none 0 0) hX1.out.r
  have m1 := set5_below (b := W.heap.size + 1 + 1) (.slice none 0 0) (.slice none 0 0) (.slice none 0 0) (.slice none 0 0) (.slice none 0 0) hX1.out.bel (by omega)
  obtain ⟨x0, x1, x2, x3, x4, x5⟩ := ifs_cells m2
  unfold set5 at x0 x1 x2 x3 x4 x5 m1
  replace m1 := Mr.hid m1
  clear m2
  go_wp2
  refine bodyPost_ret (v := .tuple #[.agg #[.slice none 0 0, .slice none 0 0, .slice none 0 0, .slice none 0 0, .slice none 0 0], .bool false, .int .i64 111]) (by simp [results, Try.results17, go_sem, x0, x1, x2, x3, x4]) rfl ⟨_, _, _, _, _, _, rfl, ct0_own _ _, m1.out⟩
set_option maxRecDepth 100000 in
set_option maxHeartbeats 8000000 in
theorem pAllows_ill {W : World} {S : Nat → Prop} {u0 u1 u2 u3 u4 : Value} {x : Ct} (hu : CtAt W S u0 u1 u2 u3 u4 x) (hin : CtIn 225000000000000 x) (hm : May x) (c : Cq) (ho : obj c.op = 0) :
    Calls Try.prog 17 #[.agg #[u0, u1, u2, u3, u4], .agg #[.int .i64 c.th, .int .i64 c.op, .int .i64 c.arg, .int .i64 c.data, .int .i64 c.beg, .int .i64 c.fin, .int .i64 c.pt, .int .i64 c.ak, .int .i64 c.av]] W fun e w' => ∃ v0 v1 v2 v3 v4 lab, e = .returned (.tuple #[.agg #[v0, v1, v2, v3, v4], .bool false, .int .i64 110]) ∧ CtOwn w' W.heap.size lab v0 v1 v2 v3 v4 ct0 ∧ Below W.heap.size W w' := by
  obtain ⟨a0, c0, rfl, _⟩ := hu.cell.form
  obtain ⟨a1, c1, rfl, _⟩ := hu.stack.form
  obtain ⟨a2, c2, rfl, _⟩ := hu.queue.form
  obtain ⟨a3, c3, rfl, _⟩ := hu.set.form
  obtain ⟨a4, c4, rfl, _⟩ := hu.table.form
  have CR := fun w' (hB : Below W.heap.size W w') (b : Nat) (hb : w'.heap[b]? = some (cqM c)) => refused_any (hu.below hB) (hin.sm (by decide)) (sl_call hb) (by show 1 * 72 ≤ 281474976710656; omega) true (by simp [hm]) 110 (by simp [bads, ho])
  have CW := fun w' (hB : Below W.heap.size W w') => worldOf_any (hu.below hB) (hin.mono (by decide))
  have hX0 := Dy.new W (.cells #[.slice a0 x.cell.length c0, .slice a1 x.stack.length c1, .slice a2 x.queue.length c2, .slice a3 x.set.length c3, .slice a4 x.table.length c4] 25 (0, 0)) (.cells #[.int .i64 c.th, .int .i64 c.op, .int .i64 c.arg, .int .i64 c.data, .int .i64 c.beg, .int .i64 c.fin, .int .i64 c.pt, .int .i64 c.ak, .int .i64 c.av] 50 (0, 0))
  obtain ⟨y0, y1, y2, y3, y4, y5⟩ := ifs_cells hX0.u
  obtain ⟨q0, q1, q2, q3, q4, q5, q6, q7, q8, q9⟩ := nines hX0.c
  have hn := new_at (((W.alloc (.cells #[.slice a0 x.cell.length c0, .slice a1 x.stack.length c1, .slice a2 x.queue.length c2, .slice a3 x.set.length c3, .slice a4 x.table.length c4] 25 (0, 0))).alloc (.cells #[.int .i64 c.th, .int .i64 c.op, .int .i64 c.arg, .int .i64 c.data, .int .i64 c.beg, .int .i64 c.fin, .int .i64 c.pt, .int .i64 c.ak, .int .i64 c.av] 50 (0, 0))).alloc (.cells #[.slice none 0 0, .slice none 0 0, .slice none 0 0, .slice none 0 0, .slice none 0 0] 25 (0, 0))) (.cells #[.int .i64 c.th, .int .i64 c.op, .int .i64 c.arg, .int .i64 c.data, .int .i64 c.beg, .int .i64 c.fin, .int .i64 c.pt, .int .i64 c.ak, .int .i64 c.av] 50 (0, 0)) (W.heap.size + 1 + 1 + 1) (by simp)
  have hY0 := hX0.below ((Below.refl _ (((W.alloc (.cells #[.slice a0 x.cell.length c0, .slice a1 x.stack.length c1, .slice a2 x.queue.length c2, .slice a3 x.set.length c3, .slice a4 x.table.length c4] 25 (0, 0))).alloc (.cells #[.int .i64 c.th, .int .i64 c.op, .int .i64 c.arg, .int .i64 c.data, .int .i64 c.beg, .int .i64 c.fin, .int .i64 c.pt, .int .i64 c.ak, .int .i64 c.av] 50 (0, 0))).alloc (.cells #[.slice none 0 0, .slice none 0 0, .slice none 0 0, .slice none 0 0, .slice none 0 0] 25 (0, 0)))).alloc (Nat.le_refl _) (.cells #[.int .i64 c.th, .int .i64 c.op, .int .i64 c.arg, .int .i64 c.data, .int .i64 c.beg, .int .i64 c.fin, .int .i64 c.pt, .int .i64 c.ak, .int .i64 c.av] 50 (0, 0)))
  have ez : (((W.alloc (.cells #[.slice a0 x.cell.length c0, .slice a1 x.stack.length c1, .slice a2 x.queue.length c2, .slice a3 x.set.length c3, .slice a4 x.table.length c4] 25 (0, 0))).alloc (.cells #[.int .i64 c.th, .int .i64 c.op, .int .i64 c.arg, .int .i64 c.data, .int .i64 c.beg, .int .i64 c.fin, .int .i64 c.pt, .int .i64 c.ak, .int .i64 c.av] 50 (0, 0))).alloc (.cells #[.slice none 0 0, .slice none 0 0, .slice none 0 0, .slice none 0 0, .slice none 0 0] 25 (0, 0))).heap.size = W.heap.size + 3 := by simp
  unfold cqM at CR
  clear hu
  replace CR := Mr.hid CR
  replace CW := Mr.hid CW
  replace hX0 := Mr.hid hX0
  replace hY0 := Mr.hid hY0
  replace hn := Mr.hid hn
  go_enter Try.func17, Try.ntmps17
  go_upto_region 3 with (first | (go_at_call 27; refine (CR.out _ hY0.out.bel _ hn.out).mono ?_; rintro e w1 ⟨rfl, hB1⟩; have hX1 := Mr.hid (hY0.out.below hB1); clear y0 y1 y2 y3 y4 y5 q0 q1 q2 q3 q4 q5 q6 q7 q8 q9; obtain ⟨y0, y1, y2, y3, y4, y5⟩ := ifs_cells hX1.out.u; obtain ⟨q0, q1, q2, q3, q4, q5, q6, q7, q8, q9⟩ := nines hX1.out.c))
  clear y0 y1 y2 y3 y4 y5 q0 q1 q2 q3 q4 q5 q6 q7 q8 q9
  obtain ⟨r0, r1, r2, r3, r4, r5⟩ := ifs_cells hX1.out.r
  obtain ⟨f0, f1, f2, f3, f4⟩ := ifs_thaw hX1.out.r
  have m2 := set5_five (.slice none 0 0) (.slice none 0 0) (.slice none 0 0) (.slice none 0 0) (.slice none 0 0) hX1.out.r
  have m1 := set5_below (b := W.heap.size + 1 + 1) (.slice none 0 0) (.slice none 0 0) (.slice none 0 0) (.slice none 0 0) (.slice none 0 0) hX1.out.bel (by omega)
  obtain ⟨x0, x1, x2, x3, x4, x5⟩ := ifs_cells m2
  unfold set5 at x0 x1 x2 x3 x4 x5 m1
  replace m1 := Mr.hid m1
  clear m2
  go_wp2
  refine bodyPost_ret (v := .tuple #[.agg #[.slice none 0 0, .slice none 0 0, .slice none 0 0, .slice none 0 0, .slice none 0 0], .bool false, .int .i64 110]) (by simp [results, Try.results17, go_sem, x0, x1, x2, x3, x4]) rfl ⟨_, _, _, _, _, _, rfl, ct0_own _ _, m1.out⟩
set_option maxRecDepth 100000 in
set_option maxHeartbeats 8000000 in
theorem pAllows_any {W : World} {S : Nat → Prop} {u0 u1 u2 u3 u4 : Value} {x : Ct} (hu : CtAt W S u0 u1 u2 u3 u4 x) (hin : CtIn 225000000000000 x) (hm : May x) (c : Cq) (ho : obj c.op ≠ 0) :
    Calls Try.prog 17 #[.agg #[u0, u1, u2, u3, u4], .agg #[.int .i64 c.th, .int .i64 c.op, .int .i64 c.arg, .int .i64 c.data, .int .i64 c.beg, .int .i64 c.fin, .int .i64 c.pt, .int .i64 c.ak, .int .i64 c.av]] W fun e w' => ∃ v0 v1 v2 v3 v4 lab, e = .returned (.tuple #[.agg #[v0, v1, v2, v3, v4], .bool (alw x c).2, .int .i64 0]) ∧ CtOwn w' W.heap.size lab v0 v1 v2 v3 v4 (alw x c).1 ∧ Below W.heap.size W w' := by
  obtain ⟨a0, c0, rfl, _⟩ := hu.cell.form
  obtain ⟨a1, c1, rfl, _⟩ := hu.stack.form
  obtain ⟨a2, c2, rfl, _⟩ := hu.queue.form
  obtain ⟨a3, c3, rfl, _⟩ := hu.set.form
  obtain ⟨a4, c4, rfl, _⟩ := hu.table.form
  have CR := fun w' (hB : Below W.heap.size W w') (b : Nat) (hb : w'.heap[b]? = some (cqM c)) => refused_any (hu.below hB) (hin.sm (by decide)) (sl_call hb) (by show 1 * 72 ≤ 281474976710656; omega) true (by simp [hm]) 0 (by simp [bads, ho])
  have CW := fun w' (hB : Below W.heap.size W w') => worldOf_any (hu.below hB) (hin.mono (by decide))
  have hX0 := Dy.new W (.cells #[.slice a0 x.cell.length c0, .slice a1 x.stack.length c1, .slice a2 x.queue.length c2, .slice a3 x.set.length c3, .slice a4 x.table.length c4] 25 (0, 0)) (.cells #[.int .i64 c.th, .int .i64 c.op, .int .i64 c.arg, .int .i64 c.data, .int .i64 c.beg, .int .i64 c.fin, .int .i64 c.pt, .int .i64 c.ak, .int .i64 c.av] 50 (0, 0))
  obtain ⟨y0, y1, y2, y3, y4, y5⟩ := ifs_cells hX0.u
  obtain ⟨q0, q1, q2, q3, q4, q5, q6, q7, q8, q9⟩ := nines hX0.c
  have hn := new_at (((W.alloc (.cells #[.slice a0 x.cell.length c0, .slice a1 x.stack.length c1, .slice a2 x.queue.length c2, .slice a3 x.set.length c3, .slice a4 x.table.length c4] 25 (0, 0))).alloc (.cells #[.int .i64 c.th, .int .i64 c.op, .int .i64 c.arg, .int .i64 c.data, .int .i64 c.beg, .int .i64 c.fin, .int .i64 c.pt, .int .i64 c.ak, .int .i64 c.av] 50 (0, 0))).alloc (.cells #[.slice none 0 0, .slice none 0 0, .slice none 0 0, .slice none 0 0, .slice none 0 0] 25 (0, 0))) (.cells #[.int .i64 c.th, .int .i64 c.op, .int .i64 c.arg, .int .i64 c.data, .int .i64 c.beg, .int .i64 c.fin, .int .i64 c.pt, .int .i64 c.ak, .int .i64 c.av] 50 (0, 0)) (W.heap.size + 1 + 1 + 1) (by simp)
  have hY0 := hX0.below ((Below.refl _ (((W.alloc (.cells #[.slice a0 x.cell.length c0, .slice a1 x.stack.length c1, .slice a2 x.queue.length c2, .slice a3 x.set.length c3, .slice a4 x.table.length c4] 25 (0, 0))).alloc (.cells #[.int .i64 c.th, .int .i64 c.op, .int .i64 c.arg, .int .i64 c.data, .int .i64 c.beg, .int .i64 c.fin, .int .i64 c.pt, .int .i64 c.ak, .int .i64 c.av] 50 (0, 0))).alloc (.cells #[.slice none 0 0, .slice none 0 0, .slice none 0 0, .slice none 0 0, .slice none 0 0] 25 (0, 0)))).alloc (Nat.le_refl _) (.cells #[.int .i64 c.th, .int .i64 c.op, .int .i64 c.arg, .int .i64 c.data, .int .i64 c.beg, .int .i64 c.fin, .int .i64 c.pt, .int .i64 c.ak, .int .i64 c.av] 50 (0, 0)))
  have ez : (((W.alloc (.cells #[.slice a0 x.cell.length c0, .slice a1 x.stack.length c1, .slice a2 x.queue.length c2, .slice a3 x.set.length c3, .slice a4 x.table.length c4] 25 (0, 0))).alloc (.cells #[.int .i64 c.th, .int .i64 c.op, .int .i64 c.arg, .int .i64 c.data, .int .i64 c.beg, .int .i64 c.fin, .int .i64 c.pt, .int .i64 c.ak, .int .i64 c.av] 50 (0, 0))).alloc (.cells #[.slice none 0 0, .slice none 0 0, .slice none 0 0, .slice none 0 0, .slice none 0 0] 25 (0, 0))).heap.size = W.heap.size + 3 := by simp
  unfold cqM at CR
  clear hu
  replace CR := Mr.hid CR
  replace CW := Mr.hid CW
  replace hX0 := Mr.hid hX0
  replace hY0 := Mr.hid hY0
  replace hn := Mr.hid hn
  have CD := fun (w : World) (B : Nat) (lab : Nat → Nat) (g0 g1 g2 g3 g4 : Nat) (hd : Wd w B lab g0 g1 g2 g3 g4 x) (hi : ∀ k, lab k < 5 → k < w.heap.size) (hBW : B ≤ w.heap.size) => admit_any hd hi hBW hin hm c ho
  have hin2 : CtIn 225100000000000 (alw x c).1 := (alw_in hin c).mono (by decide)
  have h0 := alw_ct0 (x := x) (c := c)
  have h1 := adm_alw (x := x) (c := c)
  generalize (alw x c).1 = y at *
  generalize (alw x c).2 = bb at *
  replace CD := Mr.hid CD
  replace h0 := Mr.hid h0
  replace h1 := Mr.hid h1
  go_enter Try.func17, Try.ntmps17
  go_upto_region 4 with (first | (go_at_call 27; refine (CR.out _ hY0.out.bel _ hn.out).mono ?_; rintro e w1 ⟨rfl, hB1⟩; have hX1 := Mr.hid (hY0.out.below hB1); clear y0 y1 y2 y3 y4 y5 q0 q1 q2 q3 q4 q5 q6 q7 q8 q9; obtain ⟨y0, y1, y2, y3, y4, y5⟩ := ifs_cells hX1.out.u; obtain ⟨q0, q1, q2, q3, q4, q5, q6, q7, q8, q9⟩ := nines hX1.out.c))
  go_upto_region 5 with (first | (go_at_call 28; refine (CW.out _ hX1.out.bel).mono ?_; rintro e w2 ⟨g0, g1, g2, g3, g4, lab, rfl, hD, hB2⟩; unfold wdV))
  have hX2 := Mr.hid (hX1.out.below hB2)
  have hX3 := Mr.hid (hX2.out.below ((Below.refl _ w2).alloc (Nat.le_refl _) (.cells #[.iface 92 (.pointer (some ⟨g0, 0, none⟩)), .iface 94 (.pointer (some ⟨g1, 0, none⟩)), .iface 96 (.pointer (some ⟨g2, 0, none⟩)), .iface 98 (.pointer (some ⟨g3, 0, none⟩)), .iface 100 (.pointer (some ⟨g4, 0, none⟩))] 72 (0, 0))))
  have hP3 := heap_alloc_new w2 (.cells #[.iface 92 (.pointer (some ⟨g0, 0, none⟩)), .iface 94 (.pointer (some ⟨g1, 0, none⟩)), .iface 96 (.pointer (some ⟨g2, 0, none⟩)), .iface 98 (.pointer (some ⟨g3, 0, none⟩)), .iface 100 (.pointer (some ⟨g4, 0, none⟩))] 72 (0, 0))
  have hD3 := hD.cut ((Below.refl _ w2).alloc (Nat.le_refl _) (.cells #[.iface 92 (.pointer (some ⟨g0, 0, none⟩)), .iface 94 (.pointer (some ⟨g1, 0, none⟩)), .iface 96 (.pointer (some ⟨g2, 0, none⟩)), .iface 98 (.pointer (some ⟨g3, 0, none⟩)), .iface 100 (.pointer (some ⟨g4, 0, none⟩))] 72 (0, 0)))
  have hi3 : ∀ k, labr lab w2.heap.size k < 5 → k < w2.heap.size := fun k h => labr_hi h
  have hs3 : w2.heap.size < (w2.alloc (.cells #[.iface 92 (.pointer (some ⟨g0, 0, none⟩)), .iface 94 (.pointer (some ⟨g1, 0, none⟩)), .iface 96 (.pointer (some ⟨g2, 0, none⟩)), .iface 98 (.pointer (some ⟨g3, 0, none⟩)), .iface 100 (.pointer (some ⟨g4, 0, none⟩))] 72 (0, 0))).heap.size := by simp
  have hs2 := hB2.size
  generalize labr lab w2.heap.size = lab3 at *
  generalize w2.alloc (.cells #[.iface 92 (.pointer (some ⟨g0, 0, none⟩)), .iface 94 (.pointer (some ⟨g1, 0, none⟩)), .iface 96 (.pointer (some ⟨g2, 0, none⟩)), .iface 98 (.pointer (some ⟨g3, 0, none⟩)), .iface 100 (.pointer (some ⟨g4, 0, none⟩))] 72 (0, 0)) = w3 at *
  generalize w2.heap.size = bW at *
  obtain ⟨z0, z1, z2, z3, z4, z5⟩ := ifs_cells hP3
  clear y0 y1 y2 y3 y4 y5 q0 q1 q2 q3 q4 q5 q6 q7 q8 q9 hB2 hD hX2
  obtain ⟨q0, q1, q2, q3, q4, q5, q6, q7, q8, q9⟩ := nines hX3.out.c
  have hlt1 := Mr.hid hX1.out.lt
  replace hP3 := Mr.hid hP3
  have CD3 := Mr.hid (CD.out _ _ _ _ _ _ _ _ hD3 (fun k hk => by have := hi3 k hk; omega) (by omega))
  have hlow := Mr.hid hD3.low
  replace hD3 := Mr.hid hD3
  replace hi3 := Mr.hid hi3
  cases bb with
  | false =>
    have e0 := h0.out rfl
    subst e0
    go_upto_region 6 with (first | (go_at_call 39; refine CD3.out.mono ?_; rintro e w4 ⟨rfl, lab4, hD4, hi4, hF4⟩))
    have hX4 := Mr.hid (hX3.out.fr hF4 (fun k e => by have h8 := hlow.out k e; have h9 := hlt1.out; omega))
    clear z0 z1 z2 z3 z4 z5 q0 q1 q2 q3 q4 q5 q6 q7 q8 q9 hD4 hi4 hF4
    obtain ⟨r0, r1, r2, r3, r4, r5⟩ := ifs_cells hX4.out.r
    obtain ⟨f0, f1, f2, f3, f4⟩ := ifs_thaw hX4.out.r
    have m2 := set5_five (.slice none 0 0) (.slice none 0 0) (.slice none 0 0) (.slice none 0 0) (.slice none 0 0) hX4.out.r
    have m1 := set5_below (b := W.heap.size + 1 + 1) (.slice none 0 0) (.slice none 0 0) (.slice none 0 0) (.slice none 0 0) (.slice none 0 0) hX4.out.bel (by omega)
    obtain ⟨x0, x1, x2, x3, x4, x5⟩ := ifs_cells m2
    unfold set5 at x0 x1 x2 x3 x4 x5 m1
    replace m1 := Mr.hid m1
    clear m2
    go_wp2
    refine bodyPost_ret (v := .tuple #[.agg #[.slice none 0 0, .slice none 0 0, .slice none 0 0, .slice none 0 0, .slice none 0 0], .bool false, .int .i64 0]) (by simp [results, Try.results17, go_sem, x0, x1, x2, x3, x4]) rfl ⟨_, _, _, _, _, _, rfl, ct0_own _ _, m1.out⟩
  | true =>
    have e1 := h1.out rfl
    go_upto_region 7 with (first | (go_at_call 39; refine CD3.out.mono ?_; rintro e w4 ⟨rfl, lab4, hD4, hi4, hF4⟩))
    rw [e1] at hD4
    have hX4 := Mr.hid (hX3.out.fr hF4 (fun k e => by have h8 := hlow.out k e; have h9 := hlt1.out; omega))
    have hP4 := (hF4.block bW hs3 (fun e => by have := hi3.out bW e; omega)).trans hP3.out
    have hs4 : w1.heap.size ≤ w4.heap.size := by have := hF4.size; omega
    have CC := contents_any hD4 hs4 hin2
    clear z0 z1 z2 z3 z4 z5 q0 q1 q2 q3 q4 q5 q6 q7 q8 q9
    obtain ⟨z0, z1, z2, z3, z4, z5⟩ := ifs_cells hP4
    have KE := Mr.hid (fun w8 (hB : Below w4.heap.size w4 w8) (v0 v1 v2 v3 v4 : Value) => (⟨set5_five v0 v1 v2 v3 v4 (hX4.out.below hB).r, set5_below (b := W.heap.size + 1 + 1) v0 v1 v2 v3 v4 (hX4.out.below hB).bel (by omega), ifs_cells (hX4.out.below hB).r, ifs_thaw (hX4.out.below hB).r⟩ : _ ∧ _ ∧ _ ∧ _))
    unfold wdV at CC
    replace CC := Mr.hid CC
    clear hD4 hi4 hF4 hP4
    go_upto_region 9 with (first | (go_at_call 30; refine CC.out.mono ?_; rintro e w8 ⟨v0, v1, v2, v3, v4, lab8, rfl, hO8, hB8⟩; obtain ⟨m2, m1, ⟨r0, r1, r2, r3, r4, r5⟩, ⟨f0, f1, f2, f3, f4⟩⟩ := KE.out w8 hB8 v0 v1 v2 v3 v4; obtain ⟨d0, b0, rfl, _, _⟩ := hO8.cell.form; obtain ⟨d1, b1, rfl, _, _⟩ := hO8.stack.form; obtain ⟨d2, b2, rfl, _, _⟩ := hO8.queue.form; obtain ⟨d3, b3, rfl, _, _⟩ := hO8.set.form; obtain ⟨d4, b4, rfl, _, _⟩ := hO8.table.form; obtain ⟨x0, x1, x2, x3, x4, x5⟩ := ifs_cells m2; unfold set5 at x0 x1 x2 x3 x4 x5 m1; replace m1 := Mr.hid m1; replace hO8 := Mr.hid hO8; clear m2))
    have hO9 := hO8.out.kept (W' := set5 w8 (W.heap.size + 1 + 1) (.slice d0 y.cell.length b0) (.slice d1 y.stack.length b1) (.slice d2 y.queue.length b2) (.slice d3 y.set.length b3) (.slice d4 y.table.length b4)) (B' := W.heap.size) (fun k hk hl => set5_far w8 (W.heap.size + 1 + 1) _ _ _ _ _ k (by have := hlt1.out; omega)) (by have := hlt1.out; omega)
    unfold set5 at hO9
    refine bodyPost_ret (v := .tuple #[.agg #[.slice d0 y.cell.length b0, .slice d1 y.stack.length b1, .slice d2 y.queue.length b2, .slice d3 y.set.length b3, .slice d4 y.table.length b4], .bool true, .int .i64 0]) (by simp [results, Try.results17, go_sem, x0, x1, x2, x3, x4]) rfl ⟨_, _, _, _, _, _, rfl, hO9, m1.out⟩
theorem mAllows_any {W : World} {S : Nat → Prop} {u0 u1 u2 u3 u4 : Value} {x : Ct} (hu : CtAt W S u0 u1 u2 u3 u4 x) (hin : CtIn 225000000000000 x) (hm : May x) (c : Cq) (ho : obj c.op ≠ 0) :
    Calls Try.prog 17 #[.agg #[u0, u1, u2, u3, u4], .agg #[.int .i64 c.th, .int .i64 c.op, .int .i64 c.arg, .int .i64 c.data, .int .i64 c.beg, .int .i64 c.fin, .int .i64 c.pt, .int .i64 c.ak, .int .i64 c.av]] W fun e w' => ∃ v0 v1 v2 v3 v4, e = .returned (.tuple #[.agg #[v0, v1, v2, v3, v4], .bool (alw x c).2, .int .i64 0]) ∧ CtAt w' (fun k => W.heap.size ≤ k) v0 v1 v2 v3 v4 (alw x c).1 ∧ Below W.heap.size W w' :=
  (pAllows_any hu hin hm c ho).mono (by rintro e w' ⟨v0, v1, v2, v3, v4, lab, rfl, h, hB⟩; exact ⟨v0, v1, v2, v3, v4, rfl, h.at, hB⟩)
theorem mAllows_ill {W : World} {S : Nat → Prop} {u0 u1 u2 u3 u4 : Value} {x : Ct} (hu : CtAt W S u0 u1 u2 u3 u4 x) (hin : CtIn 225000000000000 x) (hm : May x) (c : Cq) (ho : obj c.op = 0) :
    Calls Try.prog 17 #[.agg #[u0, u1, u2, u3, u4], .agg #[.int .i64 c.th, .int .i64 c.op, .int .i64 c.arg, .int .i64 c.data, .int .i64 c.beg, .int .i64 c.fin, .int .i64 c.pt, .int .i64 c.ak, .int .i64 c.av]] W fun e w' => ∃ v0 v1 v2 v3 v4, e = .returned (.tuple #[.agg #[v0, v1, v2, v3, v4], .bool false, .int .i64 110]) ∧ CtAt w' (fun k => W.heap.size ≤ k) v0 v1 v2 v3 v4 ct0 ∧ Below W.heap.size W w' :=
  (pAllows_ill hu hin hm c ho).mono (by rintro e w' ⟨v0, v1, v2, v3, v4, lab, rfl, h, hB⟩; exact ⟨v0, v1, v2, v3, v4, rfl, h.at, hB⟩)
theorem mAllows_state {W : World} {S : Nat → Prop} {u0 u1 u2 u3 u4 : Value} {x : Ct} (hu : CtAt W S u0 u1 u2 u3 u4 x) (hin : CtIn 225000000000000 x) (hm : ¬ May x) (c : Cq) :
    Calls Try.prog 17 #[.agg #[u0, u1, u2, u3, u4], .agg #[.int .i64 c.th, .int .i64 c.op, .int .i64 c.arg, .int .i64 c.data, .int .i64 c.beg, .int .i64 c.fin, .int .i64 c.pt, .int .i64 c.ak, .int .i64 c.av]] W fun e w' => ∃ v0 v1 v2 v3 v4, e = .returned (.tuple #[.agg #[v0, v1, v2, v3, v4], .bool false, .int .i64 111]) ∧ CtAt w' (fun k => W.heap.size ≤ k) v0 v1 v2 v3 v4 ct0 ∧ Below W.heap.size W w' :=
  (pAllows_state hu hin hm c).mono (by rintro e w' ⟨v0, v1, v2, v3, v4, lab, rfl, h, hB⟩; exact ⟨v0, v1, v2, v3, v4, rfl, h.at, hB⟩)
end Go.Proofs.Ytegbcocbopgghab.Md
