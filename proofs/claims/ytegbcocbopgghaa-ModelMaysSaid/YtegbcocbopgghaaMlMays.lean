import Derived.Test.YtegbcocbopgghaaMdRef
import Derived.Test.YtegbcocbopgghaaMpMay
import Derived.Test.YtegbcocbopgghaaMpSame
import Derived.Test.YtegbcocbopgghaaMpObj
import Derived.Deep.RegionHeld3
/-
  ModelMays: the walk.
-/
namespace Go.Proofs.Ytegbcocbopgghaa.Md
open Go.RowKit Mr Me
set_option linter.unusedVariables false
set_option linter.unusedSimpArgs false
theorem sl_new (w : World) (l : List Int) : Sl (w.alloc (.cells (ints l).toArray 3 (0, 0))) (fun _ => True) 1 (.slice (some ⟨w.heap.size, 0, none⟩) l.length l.length) l.length (ints l) := by
  refine ⟨by simp [ints], _, _, rfl, Nat.le_refl _, .inr ⟨w.heap.size, 0, rfl, trivial, by simp, fun j u hu => ?_⟩⟩
  rw [Nat.zero_add, cell_blk (new_at w _ _ rfl) j]
  simpa using hu
theorem sl_nil (w : World) (a : Option Addr) (size : Nat) : Sl w (fun _ => True) size (.slice a 0 0) 0 [] := ⟨by simp, a, 0, rfl, Nat.le_refl _, .inl rfl⟩
theorem ctB_refl (x : Ct) : ctB x x = true := by unfold ctB; simp
theorem ctB_comm (x y : Ct) : ctB y x = ctB x y := by
  unfold ctB
  rw [Bool.eq_iff_iff]
  simp only [Bool.and_eq_true, beq_iff_eq, decide_eq_true_eq]
  constructor <;> (rintro ⟨⟨⟨⟨h1, h2⟩, h3⟩, h4⟩, h5⟩; exact ⟨⟨⟨⟨h1.symm, h2.symm⟩, h3.symm⟩, h4.symm⟩, h5.symm⟩)
theorem mayB (x : Ct) : ∃ b : Bool, (b = true ↔ May x) := by
  by_cases h : May x
  · exact ⟨true, by simp [h]⟩
  · exact ⟨false, by simp [h]⟩
/-- Two contents' boxes. -/
structure Bx2 (W w : World) (u0 u1 u2 u3 u4 v0 v1 v2 v3 v4 : Value) : Prop where
  bel : Below W.heap.size W w
  one : w.heap[W.heap.size]? = some (ctO u0 u1 u2 u3 u4)
  two : w.heap[W.heap.size + 1]? = some (ctO v0 v1 v2 v3 v4)
theorem Bx2.next {W w w' : World} {u0 u1 u2 u3 u4 v0 v1 v2 v3 v4 : Value} (h : Bx2 W w u0 u1 u2 u3 u4 v0 v1 v2 v3 v4) (hB : Below w.heap.size w w') : Bx2 W w' u0 u1 u2 u3 u4 v0 v1 v2 v3 v4 :=
  ⟨h.bel.trans (hB.mono h.bel.size), (hB.block _ (Array.getElem?_eq_some_iff.1 h.one).1).trans h.one, (hB.block _ (Array.getElem?_eq_some_iff.1 h.two).1).trans h.two⟩
theorem Bx2.cells {W w : World} {u0 u1 u2 u3 u4 v0 v1 v2 v3 v4 : Value} (h : Bx2 W w u0 u1 u2 u3 u4 v0 v1 v2 v3 v4) : w.cell? ⟨W.heap.size, 0, none⟩ = some u0 ∧ w.cell? ⟨W.heap.size, 1, none⟩ = some u1 ∧ w.cell? ⟨W.heap.size, 2, none⟩ = some u2 ∧ w.cell? ⟨W.heap.size, 3, none⟩ = some u3 ∧ w.cell? ⟨W.heap.size, 4, none⟩ = some u4 ∧ w.cell? ⟨W.heap.size + 1, 0, none⟩ = some v0 ∧ w.cell? ⟨W.heap.size + 1, 1, none⟩ = some v1 ∧ w.cell? ⟨W.heap.size + 1, 2, none⟩ = some v2 ∧ w.cell? ⟨W.heap.size + 1, 3, none⟩ = some v3 ∧ w.cell? ⟨W.heap.size + 1, 4, none⟩ = some v4 := by
  obtain ⟨p0, p1, p2, p3, p4, _⟩ := ctO_cells h.one
  obtain ⟨q0, q1, q2, q3, q4, _⟩ := ctO_cells h.two
  exact ⟨p0, p1, p2, p3, p4, q0, q1, q2, q3, q4⟩
def x12 : Ct := ⟨[], [], [], [1, 2], []⟩
def x1c : Ct := ⟨[1], [], [], [], []⟩
theorem may12 : May x12 := ⟨by decide, fun j hj => by
  have : j = 0 := by simp [x12] at hj; omega
  subst this; decide, fun j hj => by simp [x12] at hj⟩
theorem sm12 : CtSm x12 := ⟨by decide, by decide, by decide, by decide, by decide⟩
theorem sm1c : CtSm x1c := ⟨by decide, by decide, by decide, by decide, by decide⟩
theorem sm0 : CtSm ct0 := ⟨by decide, by decide, by decide, by decide, by decide⟩
theorem ct0_any (w : World) : CtAt w (fun _ => True) (.slice none 0 0) (.slice none 0 0) (.slice none 0 0) (.slice none 0 0) (.slice none 0 0) ct0 := ct0_at w _
set_option maxRecDepth 100000 in
set_option maxHeartbeats 16000000 in
theorem walk_mays (u0 u1 u2 u3 u4 : Value) (x : Ct) (v0 v1 v2 v3 v4 : Value) (y : Ct) (W : World) (hu : CtAt W (fun _ => True) u0 u1 u2 u3 u4 x) (hx : CtIn 140737488351232 x) (hv : CtAt W (fun _ => True) v0 v1 v2 v3 v4 y) (hy : CtIn 140737488351232 y) :
    Calls Try.prog 4 #[.agg #[u0, u1, u2, u3, u4], .agg #[v0, v1, v2, v3, v4]] W fun e w' => e = .returned (.bool true) ∧ Below W.heap.size W w' := by
  obtain ⟨a0, c0, rfl, _⟩ := hu.cell.form
  obtain ⟨a1, c1, rfl, _⟩ := hu.stack.form
  obtain ⟨a2, c2, rfl, _⟩ := hu.queue.form
  obtain ⟨a3, c3, rfl, _⟩ := hu.set.form
  obtain ⟨a4, c4, rfl, _⟩ := hu.table.form
  obtain ⟨b0, d0, rfl, _⟩ := hv.cell.form
  obtain ⟨b1, d1, rfl, _⟩ := hv.stack.form
  obtain ⟨b2, d2, rfl, _⟩ := hv.queue.form
  obtain ⟨b3, d3, rfl, _⟩ := hv.set.form
  obtain ⟨b4, d4, rfl, _⟩ := hv.table.form
  obtain ⟨bx, hbx⟩ := mayB x
  obtain ⟨by', hby⟩ := mayB y
  have sx := hx.sm (by decide)
  have sy := hy.sm (by decide)
  obtain ⟨r, hr⟩ : ∃ r, r = ctB x y := ⟨_, rfl⟩
  have MA := fun w' (h : Bx2 W w' (.slice a0 x.cell.length c0) (.slice a1 x.stack.length c1) (.slice a2 x.queue.length c2) (.slice a3 x.set.length c3) (.slice a4 x.table.length c4) (.slice b0 y.cell.length d0) (.slice b1 y.stack.length d1) (.slice b2 y.queue.length d2) (.slice b3 y.set.length d3) (.slice b4 y.table.length d4)) => mMay_any (hu.below h.bel) sx bx hbx
  have MB := fun w' (h : Bx2 W w' (.slice a0 x.cell.length c0) (.slice a1 x.stack.length c1) (.slice a2 x.queue.length c2) (.slice a3 x.set.length c3) (.slice a4 x.table.length c4) (.slice b0 y.cell.length d0) (.slice b1 y.stack.length d1) (.slice b2 y.queue.length d2) (.slice b3 y.set.length d3) (.slice b4 y.table.length d4)) => mMay_any (hv.below h.bel) sy by' hby
  have RA := fun w' (h : Bx2 W w' (.slice a0 x.cell.length c0) (.slice a1 x.stack.length c1) (.slice a2 x.queue.length c2) (.slice a3 x.set.length c3) (.slice a4 x.table.length c4) (.slice b0 y.cell.length d0) (.slice b1 y.stack.length d1) (.slice b2 y.queue.length d2) (.slice b3 y.set.length d3) (.slice b4 y.table.length d4)) => rMay_any (hu.below h.bel) sx bx hbx
  have RB := fun w' (h : Bx2 W w' (.slice a0 x.cell.length c0) (.slice a1 x.stack.length c1) (.slice a2 x.queue.length c2) (.slice a3 x.set.length c3) (.slice a4 x.table.length c4) (.slice b0 y.cell.length d0) (.slice b1 y.stack.length d1) (.slice b2 y.queue.length d2) (.slice b3 y.set.length d3) (.slice b4 y.table.length d4)) => rMay_any (hv.below h.bel) sy by' hby
  have SM := fun w' (h : Bx2 W w' (.slice a0 x.cell.length c0) (.slice a1 x.stack.length c1) (.slice a2 x.queue.length c2) (.slice a3 x.set.length c3) (.slice a4 x.table.length c4) (.slice b0 y.cell.length d0) (.slice b1 y.stack.length d1) (.slice b2 y.queue.length d2) (.slice b3 y.set.length d3) (.slice b4 y.table.length d4)) => mSame_any (hu.below h.bel) (hv.below h.bel) sx sy
  have SN := fun w' (h : Bx2 W w' (.slice a0 x.cell.length c0) (.slice a1 x.stack.length c1) (.slice a2 x.queue.length c2) (.slice a3 x.set.length c3) (.slice a4 x.table.length c4) (.slice b0 y.cell.length d0) (.slice b1 y.stack.length d1) (.slice b2 y.queue.length d2) (.slice b3 y.set.length d3) (.slice b4 y.table.length d4)) => mSame_any (hv.below h.bel) (hu.below h.bel) sy sx
  have SR := fun w' (h : Bx2 W w' (.slice a0 x.cell.length c0) (.slice a1 x.stack.length c1) (.slice a2 x.queue.length c2) (.slice a3 x.set.length c3) (.slice a4 x.table.length c4) (.slice b0 y.cell.length d0) (.slice b1 y.stack.length d1) (.slice b2 y.queue.length d2) (.slice b3 y.set.length d3) (.slice b4 y.table.length d4)) => rSame_any (hu.below h.bel) (hv.below h.bel) sx sy
  have CR := fun w' (h : Bx2 W w' (.slice a0 x.cell.length c0) (.slice a1 x.stack.length c1) (.slice a2 x.queue.length c2) (.slice a3 x.set.length c3) (.slice a4 x.table.length c4) (.slice b0 y.cell.length d0) (.slice b1 y.stack.length d1) (.slice b2 y.queue.length d2) (.slice b3 y.set.length d3) (.slice b4 y.table.length d4)) => rCopy_any (hu.below h.bel) (hx.mono (by decide))
  have SC := fun w' (h : Bx2 W w' (.slice a0 x.cell.length c0) (.slice a1 x.stack.length c1) (.slice a2 x.queue.length c2) (.slice a3 x.set.length c3) (.slice a4 x.table.length c4) (.slice b0 y.cell.length d0) (.slice b1 y.stack.length d1) (.slice b2 y.queue.length d2) (.slice b3 y.set.length d3) (.slice b4 y.table.length d4)) q0 q1 q2 q3 q4 T (hq : CtAt w' T q0 q1 q2 q3 q4 x) => mSame_any (hu.below h.bel) hq sx sx
  rw [ctB_comm, ← hr] at SN
  rw [← hr] at SM SR
  simp only [ctB_refl] at SC
  have X0 : Bx2 W ((W.alloc (ctO (.slice a0 x.cell.length c0) (.slice a1 x.stack.length c1) (.slice a2 x.queue.length c2) (.slice a3 x.set.length c3) (.slice a4 x.table.length c4))).alloc (ctO (.slice b0 y.cell.length d0) (.slice b1 y.stack.length d1) (.slice b2 y.queue.length d2) (.slice b3 y.set.length d3) (.slice b4 y.table.length d4))) (.slice a0 x.cell.length c0) (.slice a1 x.stack.length c1) (.slice a2 x.queue.length c2) (.slice a3 x.set.length c3) (.slice a4 x.table.length c4) (.slice b0 y.cell.length d0) (.slice b1 y.stack.length d1) (.slice b2 y.queue.length d2) (.slice b3 y.set.length d3) (.slice b4 y.table.length d4) := ⟨((Below.refl W.heap.size W).alloc (Nat.le_refl _) _).alloc (by simp) _, old_at (new_at W _ _ rfl) _, new_at _ _ _ (by simp)⟩
  unfold ctO at X0
  clear hu hv hbx hby
  replace X0 := Mr.hid X0
  replace hr := Mr.hid hr
  replace MA := Mr.hid MA
  replace MB := Mr.hid MB
  replace RA := Mr.hid RA
  replace RB := Mr.hid RB
  replace SM := Mr.hid SM
  replace SN := Mr.hid SN
  replace SR := Mr.hid SR
  replace CR := Mr.hid CR
  replace SC := Mr.hid SC
  have Q1 := fun (w : World) (n : Nat) (hn : n = w.heap.size) => mMay_any (W := w.alloc (.cells #[.int .i64 1, .int .i64 2] 3 (0, 0))) (S := fun _ => True) (u3 := .slice (some ⟨n, 0, none⟩) 2 2) (x := x12) ⟨sl_nil _ none 1, sl_nil _ none 1, sl_nil _ none 1, by rw [hn]; exact sl_new w [1, 2], sl_nil _ none 2⟩ sm12 true (by simp [may12])
  have Q2 := fun (w : World) (n : Nat) (hn : n = w.heap.size) => mSame_any (W := w.alloc (.cells #[.int .i64 1] 3 (0, 0))) (S := fun _ => True) (T := fun _ => True) (x := ct0) (y := x1c) (v0 := .slice (some ⟨n, 0, none⟩) 1 1) (ct0_any _) ⟨by rw [hn]; exact sl_new w [1], sl_nil _ none 1, sl_nil _ none 1, sl_nil _ none 1, sl_nil _ none 2⟩ sm0 sm1c
  have Q3 := fun (w : World) (n : Option Addr) => mSame_any (W := w) (S := fun _ => True) (T := fun _ => True) (x := ct0) (y := ct0) ⟨sl_nil _ none 1, sl_nil _ none 1, sl_nil _ n 1, sl_nil _ none 1, sl_nil _ none 2⟩ (ct0_any _) sm0 sm0
  rw [show ctB ct0 x1c = false from by decide] at Q2
  rw [show ctB ct0 ct0 = true from by decide] at Q3
  replace Q1 := Mr.hid Q1
  replace Q2 := Mr.hid Q2
  replace Q3 := Mr.hid Q3
  go_enter Try.func4, Try.ntmps4
  go_upto_region 3 with (first | (go_at_call 11; refine (Q1.out _ _ (by simp)).mono ?_; clear Q1; rintro e w1 ⟨rfl, hB1⟩; have X1 := Mr.hid ((X0.out.next ((Below.refl _ _).alloc (Nat.le_refl _) _)).next hB1); clear hB1 X0) | (go_at_call 12; refine (Q2.out _ _ (by simp)).mono ?_; clear Q2; rintro e w2 ⟨rfl, hB2⟩; have X2 := Mr.hid ((X1.out.next ((Below.refl _ _).alloc (Nat.le_refl _) _)).next hB2); clear hB2 X1) | (go_at_call 12; refine (Q3.out _ _).mono ?_; clear Q3; rintro e w3 ⟨rfl, hB3⟩; have XX := Mr.hid ((X2.out.next ((Below.refl _ _).alloc (Nat.le_refl _) _)).next hB3); clear hB3 X2))
  replace XX := Mr.hid (XX.out.next (Below.refl _ _).drew)
  obtain ⟨e0, e1, e2, e3, e4, e5, e6, e7, e8, e9⟩ := XX.out.cells
  have n1 : (bx == bx) = true := by simp
  have n2 : (by' == by') = true := by simp
  have n3 : (r == r) = true := by simp
  go_region_held3 (fun w' => w'.cell? ⟨W.heap.size, 0, none⟩ = some (.slice a0 x.cell.length c0) ∧ w'.cell? ⟨W.heap.size, 1, none⟩ = some (.slice a1 x.stack.length c1) ∧ w'.cell? ⟨W.heap.size, 2, none⟩ = some (.slice a2 x.queue.length c2) ∧ w'.cell? ⟨W.heap.size, 3, none⟩ = some (.slice a3 x.set.length c3) ∧ w'.cell? ⟨W.heap.size, 4, none⟩ = some (.slice a4 x.table.length c4) ∧ w'.cell? ⟨W.heap.size + 1, 0, none⟩ = some (.slice b0 y.cell.length d0) ∧ w'.cell? ⟨W.heap.size + 1, 1, none⟩ = some (.slice b1 y.stack.length d1) ∧ w'.cell? ⟨W.heap.size + 1, 2, none⟩ = some (.slice b2 y.queue.length d2) ∧ w'.cell? ⟨W.heap.size + 1, 3, none⟩ = some (.slice b3 y.set.length d3) ∧ w'.cell? ⟨W.heap.size + 1, 4, none⟩ = some (.slice b4 y.table.length d4)) (first | with_reducible exact KS.out | go_keep) (first | (go_at_call 11; refine (MA.out _ XX.out).mono ?_; clear MA; rintro e w9 ⟨rfl, hB9⟩; have XX := Mr.hid (XX.out.next hB9); have KS := Mr.hid XX.out.cells; clear hB9) | (go_at_call 11; refine (MB.out _ XX.out).mono ?_; clear MB; rintro e w9 ⟨rfl, hB9⟩; have XX := Mr.hid (XX.out.next hB9); have KS := Mr.hid XX.out.cells; clear hB9) | (go_at_call 13; refine (RA.out _ XX.out).mono ?_; clear RA; rintro e w9 ⟨rfl, hB9⟩; have XX := Mr.hid (XX.out.next hB9); have KS := Mr.hid XX.out.cells; clear hB9) | (go_at_call 13; refine (RB.out _ XX.out).mono ?_; clear RB; rintro e w9 ⟨rfl, hB9⟩; have XX := Mr.hid (XX.out.next hB9); have KS := Mr.hid XX.out.cells; clear hB9) | (go_at_call 15; refine (CR.out _ XX.out).mono ?_; clear CR; rintro e w9 ⟨q0, q1, q2, q3, q4, rfl, hq, hB9⟩; have XX := Mr.hid (XX.out.next hB9); have KS := Mr.hid XX.out.cells; have SD := Mr.hid (SC.out _ XX.out _ _ _ _ _ _ hq); clear hB9 SC) | (go_at_call 12; refine (SM.out _ XX.out).mono ?_; clear SM; rintro e w9 ⟨rfl, hB9⟩; have XX := Mr.hid (XX.out.next hB9); have KS := Mr.hid XX.out.cells; clear hB9) | (go_at_call 12; refine SD.out.mono ?_; clear SD; rintro e w9 ⟨rfl, hB9⟩; have XX := Mr.hid (XX.out.next hB9); have KS := Mr.hid XX.out.cells; clear hB9) | (go_at_call 12; refine (SN.out _ XX.out).mono ?_; clear SN; rintro e w9 ⟨rfl, hB9⟩; have XX := Mr.hid (XX.out.next hB9); have KS := Mr.hid XX.out.cells; clear hB9) | (go_at_call 14; refine (SR.out _ XX.out).mono ?_; rintro e w9 ⟨rfl, hB9⟩; have XX := Mr.hid (XX.out.next hB9); have KS := Mr.hid XX.out.cells; clear hB9))
  clear KS
  go_wp2
  go_ret
  exact ⟨rfl, XX.out.bel⟩
end Go.Proofs.Ytegbcocbopgghaa.Md
