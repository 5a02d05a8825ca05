/-
  ModelParts: the walk.
-/
import Derived.Test.YtegbcocbopgghaaMpAny
import Derived.Deep.RegionHeld3
namespace Go.Proofs.Ytegbcocbopgghaa.Md
open Go.RowKit Mr Me
set_option linter.unusedVariables false
set_option linter.unusedSimpArgs false
theorem sl_newP (w : World) (l : List Int) (n : Nat) (hn : n = w.heap.size) : Sl (w.alloc (.cells (ints l).toArray 3 (0, 0))) (fun _ => True) 1 (.slice (some ⟨n, 0, none⟩) l.length l.length) l.length (ints l) := by
  subst hn
  refine ⟨by simp [ints], _, _, rfl, Nat.le_refl _, .inr ⟨w.heap.size, 0, rfl, trivial, by simp, fun j u hu => ?_⟩⟩
  rw [Nat.zero_add, cell_blk (new_at w _ _ rfl) j]
  simpa using hu
theorem sl_nilP (w : World) (a : Option Addr) (size : Nat) : Sl w (fun _ => True) size (.slice a 0 0) 0 [] := ⟨by simp, a, 0, rfl, Nat.le_refl _, .inl rfl⟩
def xs12 : Ct := ⟨[], [1], [], [2], []⟩
def xs2 : Ct := ⟨[], [], [], [2], []⟩
theorem below2 {w w1 : World} {o o' : Obj} (hB : Below ((w.alloc o).alloc o').heap.size ((w.alloc o).alloc o') w1) : Below w.heap.size w w1 :=
  (((Below.refl w.heap.size w).alloc (Nat.le_refl _) o).alloc (by simp) o').trans (hB.mono (by simp; omega))
theorem mayS : May xs12 := ⟨by decide, fun j hj => by simp [xs12] at hj, fun j hj => by simp [xs12] at hj⟩
theorem ctB_sameP (x : Ct) : ctB x x = true := by unfold ctB; simp
/-- The contents' box, the part's. -/
structure Dq (W w : World) (b5 : Nat) (u0 u1 u2 u3 u4 l0 l1 l2 l3 l4 : Value) (x y : Ct) : Prop where
  bel : Below W.heap.size W w
  s : w.heap[W.heap.size]? = some (ctO u0 u1 u2 u3 u4)
  part : w.heap[b5]? = some (ctO l0 l1 l2 l3 l4)
  sat : CtAt w (fun k => k < W.heap.size) u0 u1 u2 u3 u4 x
  pat : CtAt w (fun _ => True) l0 l1 l2 l3 l4 y
theorem Dq.next {W w w' : World} {b5 : Nat} {u0 u1 u2 u3 u4 l0 l1 l2 l3 l4 : Value} {x y : Ct} (h : Dq W w b5 u0 u1 u2 u3 u4 l0 l1 l2 l3 l4 x y) (hB : Below w.heap.size w w') : Dq W w' b5 u0 u1 u2 u3 u4 l0 l1 l2 l3 l4 x y :=
  ⟨h.bel.trans (hB.mono h.bel.size), (hB.block _ (Array.getElem?_eq_some_iff.1 h.s).1).trans h.s, (hB.block _ (Array.getElem?_eq_some_iff.1 h.part).1).trans h.part, h.sat.below hB, h.pat.below hB⟩
theorem Dq.first {W w0 w1 : World} {u0 u1 u2 u3 u4 l0 l1 l2 l3 l4 : Value} {x y : Ct} {T : Nat → Prop} (hb : Below W.heap.size W w0) (hs : w0.heap[W.heap.size]? = some (ctO u0 u1 u2 u3 u4)) (hu : CtAt w0 (fun k => k < W.heap.size) u0 u1 u2 u3 u4 x) (hB : Below w0.heap.size w0 w1) (hl : CtAt w1 T l0 l1 l2 l3 l4 y) :
    Dq W (w1.alloc (ctO l0 l1 l2 l3 l4)) w1.heap.size u0 u1 u2 u3 u4 l0 l1 l2 l3 l4 x y ∧ W.heap.size < w1.heap.size := by
  have h1 := hb.trans (hB.mono hb.size)
  have Y := (Below.refl w1.heap.size w1).alloc (Nat.le_refl _) (ctO l0 l1 l2 l3 l4)
  have hs1 := (hB.block _ (Array.getElem?_eq_some_iff.1 hs).1).trans hs
  exact ⟨⟨h1.alloc h1.size _, old_at hs1 _, new_at _ _ _ rfl, (hu.below hB).below Y, (hl.mono (fun _ _ => trivial)).below Y⟩, (Array.getElem?_eq_some_iff.1 hs1).1⟩
theorem Dq.put {W w : World} {b5 : Nat} {u0 u1 u2 u3 u4 l0 l1 l2 l3 l4 m0 m1 m2 m3 m4 : Value} {x y z : Ct} {T : Nat → Prop} (h : Dq W w b5 u0 u1 u2 u3 u4 l0 l1 l2 l3 l4 x y) (hb : W.heap.size < b5) (hlt : ∀ k, T k → k ≠ b5) (hz : CtAt w T m0 m1 m2 m3 m4 z) :
    Dq W (set5 w b5 m0 m1 m2 m3 m4) b5 u0 u1 u2 u3 u4 m0 m1 m2 m3 m4 x z :=
  ⟨set5_below m0 m1 m2 m3 m4 h.bel (by omega), (set5_far w b5 m0 m1 m2 m3 m4 _ (by omega)).trans h.s, set5_at m0 m1 m2 m3 m4 h.part, h.sat.fr (set5_fr w b5 m0 m1 m2 m3 m4) (fun k hk _ e => by subst e; omega), (hz.fr (set5_fr w b5 m0 m1 m2 m3 m4) (fun k hk _ e => hlt k hk e)).mono (fun _ _ => trivial)⟩
theorem Sl.lt' {W W' : World} {T : Nat → Prop} {size n : Nat} {v : Value} {xs : List Value} (h : Sl W T size v n xs) (hB : Below W.heap.size W W') : Sl W' (fun k => k < W.heap.size) size v n xs := by
  obtain ⟨h1, a, cap, hv, hc, h2⟩ := h
  refine ⟨h1, a, cap, hv, hc, ?_⟩
  rcases h2 with h2 | ⟨b, o, ha, hb, hl, hr⟩
  · exact .inl h2
  · exact .inr ⟨b, o, ha, hl, Nat.lt_of_lt_of_le hl hB.size, fun j u hu => (hB.cell (p := ⟨b, o + j, none⟩) hl).trans (hr j u hu)⟩
theorem CtAt.lt' {W W' : World} {T : Nat → Prop} {v0 v1 v2 v3 v4 : Value} {x : Ct} (h : CtAt W T v0 v1 v2 v3 v4 x) (hB : Below W.heap.size W W') : CtAt W' (fun k => k < W.heap.size) v0 v1 v2 v3 v4 x :=
  ⟨h.cell.lt' hB, h.stack.lt' hB, h.queue.lt' hB, h.set.lt' hB, h.table.lt' hB⟩
theorem cells10 {a0 a1 a2 a3 a4 a5 b0 b1 b2 b3 b4 b5 : Prop} (h : (a0 ∧ a1 ∧ a2 ∧ a3 ∧ a4 ∧ a5) ∧ (b0 ∧ b1 ∧ b2 ∧ b3 ∧ b4 ∧ b5)) : a0 ∧ a1 ∧ a2 ∧ a3 ∧ a4 ∧ b0 ∧ b1 ∧ b2 ∧ b3 ∧ b4 := ⟨h.1.1, h.1.2.1, h.1.2.2.1, h.1.2.2.2.1, h.1.2.2.2.2.1, h.2.1, h.2.2.1, h.2.2.2.1, h.2.2.2.2.1, h.2.2.2.2.2.1⟩
theorem prt_in {B : Nat} {x : Ct} (h : CtIn B x) (o : Int) : CtIn B (prt x o) := by
  obtain ⟨h0, h1, h2, h3, h4⟩ := h
  refine ⟨?_, ?_, ?_, ?_, ?_⟩
  · show (if o = 1 then x.cell else []).length * 8 ≤ B; split; exact h0; simp
  · show (if o = 2 then x.stack else []).length * 8 ≤ B; split; exact h1; simp
  · show (if o = 3 then x.queue else []).length * 8 ≤ B; split; exact h2; simp
  · show (if o = 4 then x.set else []).length * 8 ≤ B; split; exact h3; simp
  · show (if o = 5 then x.table else []).length * 16 ≤ B; split; exact h4; simp
set_option maxRecDepth 100000 in
set_option maxHeartbeats 16000000 in
theorem parts_state (u0 u1 u2 u3 u4 : Value) (x : Ct) (o : Int) (W : World) (hu : CtAt W (fun _ => True) u0 u1 u2 u3 u4 x) (hx : CtIn 140737488351232 x) (hm : ¬ May x) :
    Calls Try.prog 5 #[.agg #[u0, u1, u2, u3, u4], .int .i64 o] W fun e w' => e = .returned (.bool true) ∧ Below W.heap.size W w' := by
  obtain ⟨a0, c0, rfl, _⟩ := hu.cell.form
  obtain ⟨a1, c1, rfl, _⟩ := hu.stack.form
  obtain ⟨a2, c2, rfl, _⟩ := hu.queue.form
  obtain ⟨a3, c3, rfl, _⟩ := hu.set.form
  obtain ⟨a4, c4, rfl, _⟩ := hu.table.form
  have hi := hx.mono (show 140737488351232 ≤ 225000000000000 by decide)
  have sx := hx.sm (by decide)
  obtain ⟨y, hy⟩ : ∃ y, y = ct0 := ⟨_, rfl⟩
  have CD := fun w' (h : CtAt w' (fun _ => True) (.slice a0 x.cell.length c0) (.slice a1 x.stack.length c1) (.slice a2 x.queue.length c2) (.slice a3 x.set.length c3) (.slice a4 x.table.length c4) x) => mPart_state h hi hm o
  have CM := fun w' (h : CtAt w' (fun _ => True) (.slice a0 x.cell.length c0) (.slice a1 x.stack.length c1) (.slice a2 x.queue.length c2) (.slice a3 x.set.length c3) (.slice a4 x.table.length c4) x) => rMay_any h sx false (by simp [hm])
  rw [← hy] at CD
  have Q1 := fun (w : World) (n : Nat) (hn : n = w.heap.size) (m : Nat) (hm' : m = w.heap.size + 1) => mPart_any (W := (w.alloc (.cells #[.int .i64 1] 3 (0, 0))).alloc (.cells #[.int .i64 2] 3 (0, 0))) (S := fun _ => True) (u1 := .slice (some ⟨n, 0, none⟩) 1 1) (u3 := .slice (some ⟨m, 0, none⟩) 1 1) (x := xs12) ⟨sl_nilP _ none 1, (sl_newP w [1] n hn).below ((Below.refl _ _).alloc (Nat.le_refl _) _), sl_nilP _ none 1, sl_newP (w.alloc (.cells #[.int .i64 1] 3 (0, 0))) [2] m (by rw [hm']; simp), sl_nilP _ none 2⟩ ⟨by decide, by decide, by decide, by decide, by decide⟩ mayS 4 (by decide) (by decide)
  rw [show prt xs12 4 = xs2 from rfl] at Q1
  have X0 := (Below.refl W.heap.size W).alloc (Nat.le_refl _) (ctO (.slice a0 x.cell.length c0) (.slice a1 x.stack.length c1) (.slice a2 x.queue.length c2) (.slice a3 x.set.length c3) (.slice a4 x.table.length c4))
  have G0 : (W.alloc (ctO (.slice a0 x.cell.length c0) (.slice a1 x.stack.length c1) (.slice a2 x.queue.length c2) (.slice a3 x.set.length c3) (.slice a4 x.table.length c4))).heap[W.heap.size]? = some (ctO (.slice a0 x.cell.length c0) (.slice a1 x.stack.length c1) (.slice a2 x.queue.length c2) (.slice a3 x.set.length c3) (.slice a4 x.table.length c4)) := new_at W _ _ rfl
  have U0 : CtAt (W.alloc (ctO (.slice a0 x.cell.length c0) (.slice a1 x.stack.length c1) (.slice a2 x.queue.length c2) (.slice a3 x.set.length c3) (.slice a4 x.table.length c4))) (fun k => k < W.heap.size) (.slice a0 x.cell.length c0) (.slice a1 x.stack.length c1) (.slice a2 x.queue.length c2) (.slice a3 x.set.length c3) (.slice a4 x.table.length c4) x := CtAt.lt' (hu) X0
  clear hu
  replace X0 := Mr.hid X0
  replace U0 := Mr.hid U0
  replace G0 := Mr.hid G0
  replace Q1 := Mr.hid Q1
  replace CD := Mr.hid CD
  replace CM := Mr.hid CM
  replace hm := Mr.hid hm
  replace hy := Mr.hid hy
  go_enter Try.func5, Try.ntmps5
  go_upto_region 2 with (first | (go_at_call 16; refine (Q1.out _ _ (by simp) _ (by simp)).mono ?_; clear Q1; rintro e w1 ⟨v0, v1, v2, v3, v4, rfl, hv, hB1⟩; have Z1 := below2 hB1; have DQ := Dq.first X0.out G0.out U0.out Z1 hv; clear X0 G0 U0 hB1 Z1; obtain ⟨f0, g0, rfl, _⟩ := hv.cell.form; obtain ⟨f1, g1, rfl, _⟩ := hv.stack.form; obtain ⟨f2, g2, rfl, _⟩ := hv.queue.form; obtain ⟨f3, g3, rfl, _⟩ := hv.set.form; obtain ⟨f4, g4, rfl, _⟩ := hv.table.form;  clear hv; simp only [show xs2.cell.length = 0 from rfl, show xs2.stack.length = 0 from rfl, show xs2.queue.length = 0 from rfl, show xs2.set.length = 1 from rfl, show xs2.table.length = 0 from rfl] at DQ ⊢; replace DQ := Mr.hid DQ))
  obtain ⟨b5, hb5⟩ : ∃ b, b = w1.heap.size := ⟨_, rfl⟩
  rw [← hb5] at DQ ⊢
  clear hb5
  replace DQ := DQ.out
  have hlo := DQ.2
  replace DQ := DQ.1
  conv at DQ => arg 2; unfold ctO
  generalize w1.alloc (.cells #[.slice f0 0 g0, .slice f1 0 g1, .slice f2 0 g2, .slice f3 1 g3, .slice f4 0 g4] 29 (0, 0)) = w2 at *
  obtain ⟨e0, e1, e2, e3, e4, el⟩ := ctO_cells DQ.s
  obtain ⟨k0, k1, k2, k3, k4, kl⟩ := ctO_cells DQ.part
  have CD1 := Mr.hid (CD.out _ (DQ.sat.mono (fun _ _ => trivial)))
  replace DQ := Mr.hid DQ
  clear CD
  go_upto_region 5 with (first | (go_at_call 16; refine CD1.out.mono ?_; clear CD1; rintro e w3 ⟨l0, l1, l2, l3, l4, rfl, hl, hB3⟩; have D3 := DQ.out.next hB3; have D4 := D3.put hlo (fun k (hk : w2.heap.size ≤ k) => by omega) hl; clear DQ hB3 k0 k1 k2 k3 k4 e0 e1 e2 e3 e4; obtain ⟨z0, m0, rfl, _⟩ := hl.cell.form; obtain ⟨z1, m1, rfl, _⟩ := hl.stack.form; obtain ⟨z2, m2, rfl, _⟩ := hl.queue.form; obtain ⟨z3, m3, rfl, _⟩ := hl.set.form; obtain ⟨z4, m4, rfl, _⟩ := hl.table.form;  clear hl; obtain ⟨k0, k1, k2, k3, k4, kl3⟩ := ctO_cells D3.part; obtain ⟨f0', f1', f2', f3', f4'⟩ := ctO_thaw D3.part; clear D3; replace D4 := Mr.hid D4))
  replace D4 := D4.out
  unfold set5 at D4
  clear k0 k1 k2 k3 k4 f0' f1' f2' f3' f4' kl3 kl el
  generalize (((((w3.setCell { block := b5, off := 0 } (.slice z0 y.cell.length m0)).setCell { block := b5, off := 1 } (.slice z1 y.stack.length m1)).setCell { block := b5, off := 2 } (.slice z2 y.queue.length m2)).setCell { block := b5, off := 3 } (.slice z3 y.set.length m3)).setCell { block := b5, off := 4 } (.slice z4 y.table.length m4)) = w4 at *
  have CM1 := fun w' (h : Dq W w' b5 (.slice a0 x.cell.length c0) (.slice a1 x.stack.length c1) (.slice a2 x.queue.length c2) (.slice a3 x.set.length c3) (.slice a4 x.table.length c4) (.slice z0 y.cell.length m0) (.slice z1 y.stack.length m1) (.slice z2 y.queue.length m2) (.slice z3 y.set.length m3) (.slice z4 y.table.length m4) x y) => CM.out w' (h.sat.mono (fun _ _ => trivial))
  have CL := fun w' (h : Dq W w' b5 (.slice a0 x.cell.length c0) (.slice a1 x.stack.length c1) (.slice a2 x.queue.length c2) (.slice a3 x.set.length c3) (.slice a4 x.table.length c4) (.slice z0 y.cell.length m0) (.slice z1 y.stack.length m1) (.slice z2 y.queue.length m2) (.slice z3 y.set.length m3) (.slice z4 y.table.length m4) x y) => (⟨ctO_cells h.s, ctO_cells h.part⟩ : _ ∧ _)
  obtain ⟨⟨e0, e1, e2, e3, e4, e5⟩, ⟨g0, g1, g2, g3, g4, g5⟩⟩ := CL _ D4
  replace CM1 := Mr.hid CM1
  replace CL := Mr.hid CL
  have DZ := Mr.hid D4
  clear CM D4
  have sy : CtSm y := by rw [hy.out]; exact ⟨by decide, by decide, by decide, by decide, by decide⟩
  have SF := fun w' (h : Dq W w' b5 (.slice a0 x.cell.length c0) (.slice a1 x.stack.length c1) (.slice a2 x.queue.length c2) (.slice a3 x.set.length c3) (.slice a4 x.table.length c4) (.slice z0 y.cell.length m0) (.slice z1 y.stack.length m1) (.slice z2 y.queue.length m2) (.slice z3 y.set.length m3) (.slice z4 y.table.length m4) x y) => rSame_any (T := fun _ => True) h.pat (ct0_at w' _) sy ⟨by decide, by decide, by decide, by decide, by decide⟩
  rw [show ctB y ct0 = true from by rw [hy.out]; decide] at SF
  replace SF := Mr.hid SF
  go_wp2_with (first | (go_at_call 13; refine (CM1.out _ DZ.out).mono ?_; clear CM1; rintro e w8 ⟨rfl, hB8⟩; have DZ := Mr.hid (DZ.out.next hB8); clear hB8; clear e0 e1 e2 e3 e4 e5 g0 g1 g2 g3 g4 g5; obtain ⟨⟨e0, e1, e2, e3, e4, e5⟩, ⟨g0, g1, g2, g3, g4, g5⟩⟩ := CL.out _ DZ.out) | (go_at_call 14; refine (SF.out _ DZ.out).mono ?_; clear SF; rintro e w10 ⟨rfl, hB10⟩; have hE := Mr.hid (DZ.out.next hB10).bel; clear hB10))
  go_ret
  exact ⟨rfl, hE.out⟩
set_option maxRecDepth 100000 in
set_option maxHeartbeats 16000000 in
theorem parts_low (u0 u1 u2 u3 u4 : Value) (x : Ct) (o : Int) (W : World) (hu : CtAt W (fun _ => True) u0 u1 u2 u3 u4 x) (hx : CtIn 140737488351232 x) (hm : May x) (ho : o < 1) :
    Calls Try.prog 5 #[.agg #[u0, u1, u2, u3, u4], .int .i64 o] W fun e w' => e = .returned (.bool true) ∧ Below W.heap.size W w' := by
  obtain ⟨a0, c0, rfl, _⟩ := hu.cell.form
  obtain ⟨a1, c1, rfl, _⟩ := hu.stack.form
  obtain ⟨a2, c2, rfl, _⟩ := hu.queue.form
  obtain ⟨a3, c3, rfl, _⟩ := hu.set.form
  obtain ⟨a4, c4, rfl, _⟩ := hu.table.form
  have hi := hx.mono (show 140737488351232 ≤ 225000000000000 by decide)
  have sx := hx.sm (by decide)
  obtain ⟨y, hy⟩ : ∃ y, y = ct0 := ⟨_, rfl⟩
  have CD := fun w' (h : CtAt w' (fun _ => True) (.slice a0 x.cell.length c0) (.slice a1 x.stack.length c1) (.slice a2 x.queue.length c2) (.slice a3 x.set.length c3) (.slice a4 x.table.length c4) x) => mPart_range h hi hm o (by omega)
  have CM := fun w' (h : CtAt w' (fun _ => True) (.slice a0 x.cell.length c0) (.slice a1 x.stack.length c1) (.slice a2 x.queue.length c2) (.slice a3 x.set.length c3) (.slice a4 x.table.length c4) x) => rMay_any h sx true (by simp [hm])
  rw [← hy] at CD
  have Q1 := fun (w : World) (n : Nat) (hn : n = w.heap.size) (m : Nat) (hm' : m = w.heap.size + 1) => mPart_any (W := (w.alloc (.cells #[.int .i64 1] 3 (0, 0))).alloc (.cells #[.int .i64 2] 3 (0, 0))) (S := fun _ => True) (u1 := .slice (some ⟨n, 0, none⟩) 1 1) (u3 := .slice (some ⟨m, 0, none⟩) 1 1) (x := xs12) ⟨sl_nilP _ none 1, (sl_newP w [1] n hn).below ((Below.refl _ _).alloc (Nat.le_refl _) _), sl_nilP _ none 1, sl_newP (w.alloc (.cells #[.int .i64 1] 3 (0, 0))) [2] m (by rw [hm']; simp), sl_nilP _ none 2⟩ ⟨by decide, by decide, by decide, by decide, by decide⟩ mayS 4 (by decide) (by decide)
  rw [show prt xs12 4 = xs2 from rfl] at Q1
  have X0 := (Below.refl W.heap.size W).alloc (Nat.le_refl _) (ctO (.slice a0 x.cell.length c0) (.slice a1 x.stack.length c1) (.slice a2 x.queue.length c2) (.slice a3 x.set.length c3) (.slice a4 x.table.length c4))
  have G0 : (W.alloc (ctO (.slice a0 x.cell.length c0) (.slice a1 x.stack.length c1) (.slice a2 x.queue.length c2) (.slice a3 x.set.length c3) (.slice a4 x.table.length c4))).heap[W.heap.size]? = some (ctO (.slice a0 x.cell.length c0) (.slice a1 x.stack.length c1) (.slice a2 x.queue.length c2) (.slice a3 x.set.length c3) (.slice a4 x.table.length c4)) := new_at W _ _ rfl
  have U0 : CtAt (W.alloc (ctO (.slice a0 x.cell.length c0) (.slice a1 x.stack.length c1) (.slice a2 x.queue.length c2) (.slice a3 x.set.length c3) (.slice a4 x.table.length c4))) (fun k => k < W.heap.size) (.slice a0 x.cell.length c0) (.slice a1 x.stack.length c1) (.slice a2 x.queue.length c2) (.slice a3 x.set.length c3) (.slice a4 x.table.length c4) x := CtAt.lt' (hu) X0
  clear hu
  replace X0 := Mr.hid X0
  replace U0 := Mr.hid U0
  replace G0 := Mr.hid G0
  replace Q1 := Mr.hid Q1
  replace CD := Mr.hid CD
  replace CM := Mr.hid CM
  replace hm := Mr.hid hm
  replace hy := Mr.hid hy
  go_enter Try.func5, Try.ntmps5
  go_upto_region 2 with (first | (go_at_call 16; refine (Q1.out _ _ (by simp) _ (by simp)).mono ?_; clear Q1; rintro e w1 ⟨v0, v1, v2, v3, v4, rfl, hv, hB1⟩; have Z1 := below2 hB1; have DQ := Dq.first X0.out G0.out U0.out Z1 hv; clear X0 G0 U0 hB1 Z1; obtain ⟨f0, g0, rfl, _⟩ := hv.cell.form; obtain ⟨f1, g1, rfl, _⟩ := hv.stack.form; obtain ⟨f2, g2, rfl, _⟩ := hv.queue.form; obtain ⟨f3, g3, rfl, _⟩ := hv.set.form; obtain ⟨f4, g4, rfl, _⟩ := hv.table.form;  clear hv; simp only [show xs2.cell.length = 0 from rfl, show xs2.stack.length = 0 from rfl, show xs2.queue.length = 0 from rfl, show xs2.set.length = 1 from rfl, show xs2.table.length = 0 from rfl] at DQ ⊢; replace DQ := Mr.hid DQ))
  obtain ⟨b5, hb5⟩ : ∃ b, b = w1.heap.size := ⟨_, rfl⟩
  rw [← hb5] at DQ ⊢
  clear hb5
  replace DQ := DQ.out
  have hlo := DQ.2
  replace DQ := DQ.1
  conv at DQ => arg 2; unfold ctO
  generalize w1.alloc (.cells #[.slice f0 0 g0, .slice f1 0 g1, .slice f2 0 g2, .slice f3 1 g3, .slice f4 0 g4] 29 (0, 0)) = w2 at *
  obtain ⟨e0, e1, e2, e3, e4, el⟩ := ctO_cells DQ.s
  obtain ⟨k0, k1, k2, k3, k4, kl⟩ := ctO_cells DQ.part
  have CD1 := Mr.hid (CD.out _ (DQ.sat.mono (fun _ _ => trivial)))
  replace DQ := Mr.hid DQ
  clear CD
  go_upto_region 5 with (first | (go_at_call 16; refine CD1.out.mono ?_; clear CD1; rintro e w3 ⟨l0, l1, l2, l3, l4, rfl, hl, hB3⟩; have D3 := DQ.out.next hB3; have D4 := D3.put hlo (fun k (hk : w2.heap.size ≤ k) => by omega) hl; clear DQ hB3 k0 k1 k2 k3 k4 e0 e1 e2 e3 e4; obtain ⟨z0, m0, rfl, _⟩ := hl.cell.form; obtain ⟨z1, m1, rfl, _⟩ := hl.stack.form; obtain ⟨z2, m2, rfl, _⟩ := hl.queue.form; obtain ⟨z3, m3, rfl, _⟩ := hl.set.form; obtain ⟨z4, m4, rfl, _⟩ := hl.table.form;  clear hl; obtain ⟨k0, k1, k2, k3, k4, kl3⟩ := ctO_cells D3.part; obtain ⟨f0', f1', f2', f3', f4'⟩ := ctO_thaw D3.part; clear D3; replace D4 := Mr.hid D4))
  replace D4 := D4.out
  unfold set5 at D4
  clear k0 k1 k2 k3 k4 f0' f1' f2' f3' f4' kl3 kl el
  generalize (((((w3.setCell { block := b5, off := 0 } (.slice z0 y.cell.length m0)).setCell { block := b5, off := 1 } (.slice z1 y.stack.length m1)).setCell { block := b5, off := 2 } (.slice z2 y.queue.length m2)).setCell { block := b5, off := 3 } (.slice z3 y.set.length m3)).setCell { block := b5, off := 4 } (.slice z4 y.table.length m4)) = w4 at *
  have CM1 := fun w' (h : Dq W w' b5 (.slice a0 x.cell.length c0) (.slice a1 x.stack.length c1) (.slice a2 x.queue.length c2) (.slice a3 x.set.length c3) (.slice a4 x.table.length c4) (.slice z0 y.cell.length m0) (.slice z1 y.stack.length m1) (.slice z2 y.queue.length m2) (.slice z3 y.set.length m3) (.slice z4 y.table.length m4) x y) => CM.out w' (h.sat.mono (fun _ _ => trivial))
  have CL := fun w' (h : Dq W w' b5 (.slice a0 x.cell.length c0) (.slice a1 x.stack.length c1) (.slice a2 x.queue.length c2) (.slice a3 x.set.length c3) (.slice a4 x.table.length c4) (.slice z0 y.cell.length m0) (.slice z1 y.stack.length m1) (.slice z2 y.queue.length m2) (.slice z3 y.set.length m3) (.slice z4 y.table.length m4) x y) => (⟨ctO_cells h.s, ctO_cells h.part⟩ : _ ∧ _)
  obtain ⟨⟨e0, e1, e2, e3, e4, e5⟩, ⟨g0, g1, g2, g3, g4, g5⟩⟩ := CL _ D4
  replace CM1 := Mr.hid CM1
  replace CL := Mr.hid CL
  have DZ := Mr.hid D4
  clear CM D4
  have sy : CtSm y := by rw [hy.out]; exact ⟨by decide, by decide, by decide, by decide, by decide⟩
  have SF := fun w' (h : Dq W w' b5 (.slice a0 x.cell.length c0) (.slice a1 x.stack.length c1) (.slice a2 x.queue.length c2) (.slice a3 x.set.length c3) (.slice a4 x.table.length c4) (.slice z0 y.cell.length m0) (.slice z1 y.stack.length m1) (.slice z2 y.queue.length m2) (.slice z3 y.set.length m3) (.slice z4 y.table.length m4) x y) => rSame_any (T := fun _ => True) h.pat (ct0_at w' _) sy ⟨by decide, by decide, by decide, by decide, by decide⟩
  rw [show ctB y ct0 = true from by rw [hy.out]; decide] at SF
  replace SF := Mr.hid SF
  have d1 : decide (o < 1) = true := decide_eq_true ho
  go_wp2_with (first | (go_at_call 13; refine (CM1.out _ DZ.out).mono ?_; clear CM1; rintro e w8 ⟨rfl, hB8⟩; have DZ := Mr.hid (DZ.out.next hB8); clear hB8; clear e0 e1 e2 e3 e4 e5 g0 g1 g2 g3 g4 g5; obtain ⟨⟨e0, e1, e2, e3, e4, e5⟩, ⟨g0, g1, g2, g3, g4, g5⟩⟩ := CL.out _ DZ.out) | (go_at_call 14; refine (SF.out _ DZ.out).mono ?_; clear SF; rintro e w10 ⟨rfl, hB10⟩; have hE := Mr.hid (DZ.out.next hB10).bel; clear hB10))
  go_ret
  exact ⟨rfl, hE.out⟩
set_option maxRecDepth 100000 in
set_option maxHeartbeats 16000000 in
theorem parts_high (u0 u1 u2 u3 u4 : Value) (x : Ct) (o : Int) (W : World) (hu : CtAt W (fun _ => True) u0 u1 u2 u3 u4 x) (hx : CtIn 140737488351232 x) (hm : May x) (ho : 5 < o) :
    Calls Try.prog 5 #[.agg #[u0, u1, u2, u3, u4], .int .i64 o] W fun e w' => e = .returned (.bool true) ∧ Below W.heap.size W w' := by
  obtain ⟨a0, c0, rfl, _⟩ := hu.cell.form
  obtain ⟨a1, c1, rfl, _⟩ := hu.stack.form
  obtain ⟨a2, c2, rfl, _⟩ := hu.queue.form
  obtain ⟨a3, c3, rfl, _⟩ := hu.set.form
  obtain ⟨a4, c4, rfl, _⟩ := hu.table.form
  have hi := hx.mono (show 140737488351232 ≤ 225000000000000 by decide)
  have sx := hx.sm (by decide)
  obtain ⟨y, hy⟩ : ∃ y, y = ct0 := ⟨_, rfl⟩
  have CD := fun w' (h : CtAt w' (fun _ => True) (.slice a0 x.cell.length c0) (.slice a1 x.stack.length c1) (.slice a2 x.queue.length c2) (.slice a3 x.set.length c3) (.slice a4 x.table.length c4) x) => mPart_range h hi hm o (by omega)
  have CM := fun w' (h : CtAt w' (fun _ => True) (.slice a0 x.cell.length c0) (.slice a1 x.stack.length c1) (.slice a2 x.queue.length c2) (.slice a3 x.set.length c3) (.slice a4 x.table.length c4) x) => rMay_any h sx true (by simp [hm])
  rw [← hy] at CD
  have Q1 := fun (w : World) (n : Nat) (hn : n = w.heap.size) (m : Nat) (hm' : m = w.heap.size + 1) => mPart_any (W := (w.alloc (.cells #[.int .i64 1] 3 (0, 0))).alloc (.cells #[.int .i64 2] 3 (0, 0))) (S := fun _ => True) (u1 := .slice (some ⟨n, 0, none⟩) 1 1) (u3 := .slice (some ⟨m, 0, none⟩) 1 1) (x := xs12) ⟨sl_nilP _ none 1, (sl_newP w [1] n hn).below ((Below.refl _ _).alloc (Nat.le_refl _) _), sl_nilP _ none 1, sl_newP (w.alloc (.cells #[.int .i64 1] 3 (0, 0))) [2] m (by rw [hm']; simp), sl_nilP _ none 2⟩ ⟨by decide, by decide, by decide, by decide, by decide⟩ mayS 4 (by decide) (by decide)
  rw [show prt xs12 4 = xs2 from rfl] at Q1
  have X0 := (Below.refl W.heap.size W).alloc (Nat.le_refl _) (ctO (.slice a0 x.cell.length c0) (.slice a1 x.stack.length c1) (.slice a2 x.queue.length c2) (.slice a3 x.set.length c3) (.slice a4 x.table.length c4))
  have G0 : (W.alloc (ctO (.slice a0 x.cell.length c0) (.slice a1 x.stack.length c1) (.slice a2 x.queue.length c2) (.slice a3 x.set.length c3) (.slice a4 x.table.length c4))).heap[W.heap.size]? = some (ctO (.slice a0 x.cell.length c0) (.slice a1 x.stack.length c1) (.slice a2 x.queue.length c2) (.slice a3 x.set.length c3) (.slice a4 x.table.length c4)) := new_at W _ _ rfl
  have U0 : CtAt (W.alloc (ctO (.slice a0 x.cell.length c0) (.slice a1 x.stack.length c1) (.slice a2 x.queue.length c2) (.slice a3 x.set.length c3) (.slice a4 x.table.length c4))) (fun k => k < W.heap.size) (.slice a0 x.cell.length c0) (.slice a1 x.stack.length c1) (.slice a2 x.queue.length c2) (.slice a3 x.set.length c3) (.slice a4 x.table.length c4) x := CtAt.lt' (hu) X0
  clear hu
  replace X0 := Mr.hid X0
  replace U0 := Mr.hid U0
  replace G0 := Mr.hid G0
  replace Q1 := Mr.hid Q1
  replace CD := Mr.hid CD
  replace CM := Mr.hid CM
  replace hm := Mr.hid hm
  replace hy := Mr.hid hy
  go_enter Try.func5, Try.ntmps5
  go_upto_region 2 with (first | (go_at_call 16; refine (Q1.out _ _ (by simp) _ (by simp)).mono ?_; clear Q1; rintro e w1 ⟨v0, v1, v2, v3, v4, rfl, hv, hB1⟩; have Z1 := below2 hB1; have DQ := Dq.first X0.out G0.out U0.out Z1 hv; clear X0 G0 U0 hB1 Z1; obtain ⟨f0, g0, rfl, _⟩ := hv.cell.form; obtain ⟨f1, g1, rfl, _⟩ := hv.stack.form; obtain ⟨f2, g2, rfl, _⟩ := hv.queue.form; obtain ⟨f3, g3, rfl, _⟩ := hv.set.form; obtain ⟨f4, g4, rfl, _⟩ := hv.table.form;  clear hv; simp only [show xs2.cell.length = 0 from rfl, show xs2.stack.length = 0 from rfl, show xs2.queue.length = 0 from rfl, show xs2.set.length = 1 from rfl, show xs2.table.length = 0 from rfl] at DQ ⊢; replace DQ := Mr.hid DQ))
  obtain ⟨b5, hb5⟩ : ∃ b, b = w1.heap.size := ⟨_, rfl⟩
  rw [← hb5] at DQ ⊢
  clear hb5
  replace DQ := DQ.out
  have hlo := DQ.2
  replace DQ := DQ.1
  conv at DQ => arg 2; unfold ctO
  generalize w1.alloc (.cells #[.slice f0 0 g0, .slice f1 0 g1, .slice f2 0 g2, .slice f3 1 g3, .slice f4 0 g4] 29 (0, 0)) = w2 at *
  obtain ⟨e0, e1, e2, e3, e4, el⟩ := ctO_cells DQ.s
  obtain ⟨k0, k1, k2, k3, k4, kl⟩ := ctO_cells DQ.part
  have CD1 := Mr.hid (CD.out _ (DQ.sat.mono (fun _ _ => trivial)))
  replace DQ := Mr.hid DQ
  clear CD
  go_upto_region 5 with (first | (go_at_call 16; refine CD1.out.mono ?_; clear CD1; rintro e w3 ⟨l0, l1, l2, l3, l4, rfl, hl, hB3⟩; have D3 := DQ.out.next hB3; have D4 := D3.put hlo (fun k (hk : w2.heap.size ≤ k) => by omega) hl; clear DQ hB3 k0 k1 k2 k3 k4 e0 e1 e2 e3 e4; obtain ⟨z0, m0, rfl, _⟩ := hl.cell.form; obtain ⟨z1, m1, rfl, _⟩ := hl.stack.form; obtain ⟨z2, m2, rfl, _⟩ := hl.queue.form; obtain ⟨z3, m3, rfl, _⟩ := hl.set.form; obtain ⟨z4, m4, rfl, _⟩ := hl.table.form;  clear hl; obtain ⟨k0, k1, k2, k3, k4, kl3⟩ := ctO_cells D3.part; obtain ⟨f0', f1', f2', f3', f4'⟩ := ctO_thaw D3.part; clear D3; replace D4 := Mr.hid D4))
  replace D4 := D4.out
  unfold set5 at D4
  clear k0 k1 k2 k3 k4 f0' f1' f2' f3' f4' kl3 kl el
  generalize (((((w3.setCell { block := b5, off := 0 } (.slice z0 y.cell.length m0)).setCell { block := b5, off := 1 } (.slice z1 y.stack.length m1)).setCell { block := b5, off := 2 } (.slice z2 y.queue.length m2)).setCell { block := b5, off := 3 } (.slice z3 y.set.length m3)).setCell { block := b5, off := 4 } (.slice z4 y.table.length m4)) = w4 at *
  have CM1 := fun w' (h : Dq W w' b5 (.slice a0 x.cell.length c0) (.slice a1 x.stack.length c1) (.slice a2 x.queue.length c2) (.slice a3 x.set.length c3) (.slice a4 x.table.length c4) (.slice z0 y.cell.length m0) (.slice z1 y.stack.length m1) (.slice z2 y.queue.length m2) (.slice z3 y.set.length m3) (.slice z4 y.table.length m4) x y) => CM.out w' (h.sat.mono (fun _ _ => trivial))
  have CL := fun w' (h : Dq W w' b5 (.slice a0 x.cell.length c0) (.slice a1 x.stack.length c1) (.slice a2 x.queue.length c2) (.slice a3 x.set.length c3) (.slice a4 x.table.length c4) (.slice z0 y.cell.length m0) (.slice z1 y.stack.length m1) (.slice z2 y.queue.length m2) (.slice z3 y.set.length m3) (.slice z4 y.table.length m4) x y) => (⟨ctO_cells h.s, ctO_cells h.part⟩ : _ ∧ _)
  obtain ⟨⟨e0, e1, e2, e3, e4, e5⟩, ⟨g0, g1, g2, g3, g4, g5⟩⟩ := CL _ D4
  replace CM1 := Mr.hid CM1
  replace CL := Mr.hid CL
  have DZ := Mr.hid D4
  clear CM D4
  have sy : CtSm y := by rw [hy.out]; exact ⟨by decide, by decide, by decide, by decide, by decide⟩
  have SF := fun w' (h : Dq W w' b5 (.slice a0 x.cell.length c0) (.slice a1 x.stack.length c1) (.slice a2 x.queue.length c2) (.slice a3 x.set.length c3) (.slice a4 x.table.length c4) (.slice z0 y.cell.length m0) (.slice z1 y.stack.length m1) (.slice z2 y.queue.length m2) (.slice z3 y.set.length m3) (.slice z4 y.table.length m4) x y) => rSame_any (T := fun _ => True) h.pat (ct0_at w' _) sy ⟨by decide, by decide, by decide, by decide, by decide⟩
  rw [show ctB y ct0 = true from by rw [hy.out]; decide] at SF
  replace SF := Mr.hid SF
  have d1 : decide (o < 1) = false := decide_eq_false (by omega)
  have d2 : decide (5 < o) = true := decide_eq_true ho
  go_wp2_with (first | (go_at_call 13; refine (CM1.out _ DZ.out).mono ?_; clear CM1; rintro e w8 ⟨rfl, hB8⟩; have DZ := Mr.hid (DZ.out.next hB8); clear hB8; clear e0 e1 e2 e3 e4 e5 g0 g1 g2 g3 g4 g5; obtain ⟨⟨e0, e1, e2, e3, e4, e5⟩, ⟨g0, g1, g2, g3, g4, g5⟩⟩ := CL.out _ DZ.out) | (go_at_call 14; refine (SF.out _ DZ.out).mono ?_; clear SF; rintro e w10 ⟨rfl, hB10⟩; have hE := Mr.hid (DZ.out.next hB10).bel; clear hB10))
  go_ret
  exact ⟨rfl, hE.out⟩
set_option maxRecDepth 100000 in
set_option maxHeartbeats 16000000 in
theorem parts_any (u0 u1 u2 u3 u4 : Value) (x : Ct) (o : Int) (W : World) (hu : CtAt W (fun _ => True) u0 u1 u2 u3 u4 x) (hx : CtIn 140737488351232 x) (hm : May x) (h1 : 1 ≤ o) (h5 : o ≤ 5) :
    Calls Try.prog 5 #[.agg #[u0, u1, u2, u3, u4], .int .i64 o] W fun e w' => e = .returned (.bool true) ∧ Below W.heap.size W w' := by
  obtain ⟨a0, c0, rfl, _⟩ := hu.cell.form
  obtain ⟨a1, c1, rfl, _⟩ := hu.stack.form
  obtain ⟨a2, c2, rfl, _⟩ := hu.queue.form
  obtain ⟨a3, c3, rfl, _⟩ := hu.set.form
  obtain ⟨a4, c4, rfl, _⟩ := hu.table.form
  have hi := hx.mono (show 140737488351232 ≤ 225000000000000 by decide)
  have sx := hx.sm (by decide)
  obtain ⟨y, hy⟩ : ∃ y, y = prt x o := ⟨_, rfl⟩
  have CD := fun w' (h : CtAt w' (fun _ => True) (.slice a0 x.cell.length c0) (.slice a1 x.stack.length c1) (.slice a2 x.queue.length c2) (.slice a3 x.set.length c3) (.slice a4 x.table.length c4) x) => mPart_any h hi hm o h1 h5
  have CM := fun w' (h : CtAt w' (fun _ => True) (.slice a0 x.cell.length c0) (.slice a1 x.stack.length c1) (.slice a2 x.queue.length c2) (.slice a3 x.set.length c3) (.slice a4 x.table.length c4) x) => rMay_any h sx true (by simp [hm])
  have RD := fun w' (h : CtAt w' (fun _ => True) (.slice a0 x.cell.length c0) (.slice a1 x.stack.length c1) (.slice a2 x.queue.length c2) (.slice a3 x.set.length c3) (.slice a4 x.table.length c4) x) => rPart_any h hi o
  rw [← hy] at CD RD
  have Q1 := fun (w : World) (n : Nat) (hn : n = w.heap.size) (m : Nat) (hm' : m = w.heap.size + 1) => mPart_any (W := (w.alloc (.cells #[.int .i64 1] 3 (0, 0))).alloc (.cells #[.int .i64 2] 3 (0, 0))) (S := fun _ => True) (u1 := .slice (some ⟨n, 0, none⟩) 1 1) (u3 := .slice (some ⟨m, 0, none⟩) 1 1) (x := xs12) ⟨sl_nilP _ none 1, (sl_newP w [1] n hn).below ((Below.refl _ _).alloc (Nat.le_refl _) _), sl_nilP _ none 1, sl_newP (w.alloc (.cells #[.int .i64 1] 3 (0, 0))) [2] m (by rw [hm']; simp), sl_nilP _ none 2⟩ ⟨by decide, by decide, by decide, by decide, by decide⟩ mayS 4 (by decide) (by decide)
  rw [show prt xs12 4 = xs2 from rfl] at Q1
  have X0 := (Below.refl W.heap.size W).alloc (Nat.le_refl _) (ctO (.slice a0 x.cell.length c0) (.slice a1 x.stack.length c1) (.slice a2 x.queue.length c2) (.slice a3 x.set.length c3) (.slice a4 x.table.length c4))
  have G0 : (W.alloc (ctO (.slice a0 x.cell.length c0) (.slice a1 x.stack.length c1) (.slice a2 x.queue.length c2) (.slice a3 x.set.length c3) (.slice a4 x.table.length c4))).heap[W.heap.size]? = some (ctO (.slice a0 x.cell.length c0) (.slice a1 x.stack.length c1) (.slice a2 x.queue.length c2) (.slice a3 x.set.length c3) (.slice a4 x.table.length c4)) := new_at W _ _ rfl
  have U0 : CtAt (W.alloc (ctO (.slice a0 x.cell.length c0) (.slice a1 x.stack.length c1) (.slice a2 x.queue.length c2) (.slice a3 x.set.length c3) (.slice a4 x.table.length c4))) (fun k => k < W.heap.size) (.slice a0 x.cell.length c0) (.slice a1 x.stack.length c1) (.slice a2 x.queue.length c2) (.slice a3 x.set.length c3) (.slice a4 x.table.length c4) x := CtAt.lt' (hu) X0
  clear hu
  replace X0 := Mr.hid X0
  replace U0 := Mr.hid U0
  replace G0 := Mr.hid G0
  replace Q1 := Mr.hid Q1
  replace CD := Mr.hid CD
  replace CM := Mr.hid CM
  replace hm := Mr.hid hm
  replace hy := Mr.hid hy
  replace RD := Mr.hid RD
  go_enter Try.func5, Try.ntmps5
  go_upto_region 2 with (first | (go_at_call 16; refine (Q1.out _ _ (by simp) _ (by simp)).mono ?_; clear Q1; rintro e w1 ⟨v0, v1, v2, v3, v4, rfl, hv, hB1⟩; have Z1 := below2 hB1; have DQ := Dq.first X0.out G0.out U0.out Z1 hv; clear X0 G0 U0 hB1 Z1; obtain ⟨f0, g0, rfl, _⟩ := hv.cell.form; obtain ⟨f1, g1, rfl, _⟩ := hv.stack.form; obtain ⟨f2, g2, rfl, _⟩ := hv.queue.form; obtain ⟨f3, g3, rfl, _⟩ := hv.set.form; obtain ⟨f4, g4, rfl, _⟩ := hv.table.form;  clear hv; simp only [show xs2.cell.length = 0 from rfl, show xs2.stack.length = 0 from rfl, show xs2.queue.length = 0 from rfl, show xs2.set.length = 1 from rfl, show xs2.table.length = 0 from rfl] at DQ ⊢; replace DQ := Mr.hid DQ))
  obtain ⟨b5, hb5⟩ : ∃ b, b = w1.heap.size := ⟨_, rfl⟩
  rw [← hb5] at DQ ⊢
  clear hb5
  replace DQ := DQ.out
  have hlo := DQ.2
  replace DQ := DQ.1
  conv at DQ => arg 2; unfold ctO
  generalize w1.alloc (.cells #[.slice f0 0 g0, .slice f1 0 g1, .slice f2 0 g2, .slice f3 1 g3, .slice f4 0 g4] 29 (0, 0)) = w2 at *
  obtain ⟨e0, e1, e2, e3, e4, el⟩ := ctO_cells DQ.s
  obtain ⟨k0, k1, k2, k3, k4, kl⟩ := ctO_cells DQ.part
  have CD1 := Mr.hid (CD.out _ (DQ.sat.mono (fun _ _ => trivial)))
  replace DQ := Mr.hid DQ
  clear CD
  go_upto_region 5 with (first | (go_at_call 16; refine CD1.out.mono ?_; clear CD1; rintro e w3 ⟨l0, l1, l2, l3, l4, rfl, hl, hB3⟩; have D3 := DQ.out.next hB3; have D4 := D3.put hlo (fun k (hk : w2.heap.size ≤ k) => by omega) hl; clear DQ hB3 k0 k1 k2 k3 k4 e0 e1 e2 e3 e4; obtain ⟨z0, m0, rfl, _⟩ := hl.cell.form; obtain ⟨z1, m1, rfl, _⟩ := hl.stack.form; obtain ⟨z2, m2, rfl, _⟩ := hl.queue.form; obtain ⟨z3, m3, rfl, _⟩ := hl.set.form; obtain ⟨z4, m4, rfl, _⟩ := hl.table.form;  clear hl; obtain ⟨k0, k1, k2, k3, k4, kl3⟩ := ctO_cells D3.part; obtain ⟨f0', f1', f2', f3', f4'⟩ := ctO_thaw D3.part; clear D3; replace D4 := Mr.hid D4))
  replace D4 := D4.out
  unfold set5 at D4
  clear k0 k1 k2 k3 k4 f0' f1' f2' f3' f4' kl3 kl el
  generalize (((((w3.setCell { block := b5, off := 0 } (.slice z0 y.cell.length m0)).setCell { block := b5, off := 1 } (.slice z1 y.stack.length m1)).setCell { block := b5, off := 2 } (.slice z2 y.queue.length m2)).setCell { block := b5, off := 3 } (.slice z3 y.set.length m3)).setCell { block := b5, off := 4 } (.slice z4 y.table.length m4)) = w4 at *
  have CM1 := fun w' (h : Dq W w' b5 (.slice a0 x.cell.length c0) (.slice a1 x.stack.length c1) (.slice a2 x.queue.length c2) (.slice a3 x.set.length c3) (.slice a4 x.table.length c4) (.slice z0 y.cell.length m0) (.slice z1 y.stack.length m1) (.slice z2 y.queue.length m2) (.slice z3 y.set.length m3) (.slice z4 y.table.length m4) x y) => CM.out w' (h.sat.mono (fun _ _ => trivial))
  have CL := fun w' (h : Dq W w' b5 (.slice a0 x.cell.length c0) (.slice a1 x.stack.length c1) (.slice a2 x.queue.length c2) (.slice a3 x.set.length c3) (.slice a4 x.table.length c4) (.slice z0 y.cell.length m0) (.slice z1 y.stack.length m1) (.slice z2 y.queue.length m2) (.slice z3 y.set.length m3) (.slice z4 y.table.length m4) x y) => (⟨ctO_cells h.s, ctO_cells h.part⟩ : _ ∧ _)
  obtain ⟨⟨e0, e1, e2, e3, e4, e5⟩, ⟨g0, g1, g2, g3, g4, g5⟩⟩ := CL _ D4
  replace CM1 := Mr.hid CM1
  replace CL := Mr.hid CL
  have DZ := Mr.hid D4
  clear CM D4
  have sy : CtSm y := by rw [hy.out]; exact (prt_in hx o).sm (by decide)
  have d1 : decide (o < 1) = false := decide_eq_false (by omega)
  have d2 : decide (5 < o) = false := decide_eq_false (by omega)
  have RD1 := fun w' (h : Dq W w' b5 (.slice a0 x.cell.length c0) (.slice a1 x.stack.length c1) (.slice a2 x.queue.length c2) (.slice a3 x.set.length c3) (.slice a4 x.table.length c4) (.slice z0 y.cell.length m0) (.slice z1 y.stack.length m1) (.slice z2 y.queue.length m2) (.slice z3 y.set.length m3) (.slice z4 y.table.length m4) x y) => RD.out w' (h.sat.mono (fun _ _ => trivial))
  have SG := fun w' v0 v1 v2 v3 v4 T (h : Dq W w' b5 (.slice a0 x.cell.length c0) (.slice a1 x.stack.length c1) (.slice a2 x.queue.length c2) (.slice a3 x.set.length c3) (.slice a4 x.table.length c4) (.slice z0 y.cell.length m0) (.slice z1 y.stack.length m1) (.slice z2 y.queue.length m2) (.slice z3 y.set.length m3) (.slice z4 y.table.length m4) x y) (hv : CtAt w' T v0 v1 v2 v3 v4 y) => rSame_any h.pat hv sy sy
  simp only [ctB_sameP] at SG
  replace RD1 := Mr.hid RD1
  replace SG := Mr.hid SG
  clear RD
  go_upto_region 9 with (first | (go_at_call 13; refine (CM1.out _ DZ.out).mono ?_; clear CM1; rintro e w8 ⟨rfl, hB8⟩; have DZ := Mr.hid (DZ.out.next hB8); clear hB8; clear e0 e1 e2 e3 e4 e5 g0 g1 g2 g3 g4 g5; obtain ⟨⟨e0, e1, e2, e3, e4, e5⟩, ⟨g0, g1, g2, g3, g4, g5⟩⟩ := CL.out _ DZ.out))
  replace DZ := Mr.hid (DZ.out.next (Below.refl _ _).drew)
  go_region_held3 (fun w' => w'.cell? ⟨W.heap.size, 0, none⟩ = some (.slice a0 x.cell.length c0) ∧ w'.cell? ⟨W.heap.size, 1, none⟩ = some (.slice a1 x.stack.length c1) ∧ w'.cell? ⟨W.heap.size, 2, none⟩ = some (.slice a2 x.queue.length c2) ∧ w'.cell? ⟨W.heap.size, 3, none⟩ = some (.slice a3 x.set.length c3) ∧ w'.cell? ⟨W.heap.size, 4, none⟩ = some (.slice a4 x.table.length c4) ∧ w'.cell? ⟨b5, 0, none⟩ = some (.slice z0 y.cell.length m0) ∧ w'.cell? ⟨b5, 1, none⟩ = some (.slice z1 y.stack.length m1) ∧ w'.cell? ⟨b5, 2, none⟩ = some (.slice z2 y.queue.length m2) ∧ w'.cell? ⟨b5, 3, none⟩ = some (.slice z3 y.set.length m3) ∧ w'.cell? ⟨b5, 4, none⟩ = some (.slice z4 y.table.length m4)) (first | with_reducible exact KS.out | go_keep) (first | (go_at_call 17; refine (RD1.out _ DZ.out).mono ?_; clear RD1; rintro e w9 ⟨d0, d1, d2, d3, d4, rfl, hw, hB9⟩; have DZ := Mr.hid (DZ.out.next hB9); have KS := Mr.hid (cells10 (CL.out _ DZ.out)); have SF := Mr.hid (SG.out _ _ _ _ _ _ _ DZ.out hw); clear hB9 SG hw) | (go_at_call 14; refine SF.out.mono ?_; clear SF; rintro e w10 ⟨rfl, hB10⟩; have DZ := Mr.hid (DZ.out.next hB10); have KS := Mr.hid (cells10 (CL.out _ DZ.out)); clear hB10))
  clear KS
  go_wp2
  go_ret
  exact ⟨rfl, DZ.out.bel⟩
/-- ModelParts, of any contents and number. -/
theorem walk_parts (u0 u1 u2 u3 u4 : Value) (x : Ct) (o : Int) (W : World) (hu : CtAt W (fun _ => True) u0 u1 u2 u3 u4 x) (hx : CtIn 140737488351232 x) (hwf : (Lit.int .i64 o).wf = true) :
    Calls Try.prog 5 #[.agg #[u0, u1, u2, u3, u4], .int .i64 o] W fun e w' => e = .returned (.bool true) ∧ Below W.heap.size W w' := by
  by_cases hm : May x
  · by_cases h1 : o < 1
    · exact parts_low u0 u1 u2 u3 u4 x o W hu hx hm h1
    · by_cases h5 : 5 < o
      · exact parts_high u0 u1 u2 u3 u4 x o W hu hx hm h5
      · exact parts_any u0 u1 u2 u3 u4 x o W hu hx hm (by omega) (by omega)
  · exact parts_state u0 u1 u2 u3 u4 x o W hu hx hm
end Go.Proofs.Ytegbcocbopgghaa.Md
