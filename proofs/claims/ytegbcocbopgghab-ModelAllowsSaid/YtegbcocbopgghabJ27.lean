import Derived.Test.YtegbcocbopgghabJ26
/-
  reclaimlaw11: awake, right.
-/
namespace Go.Proofs.Ytegbcocbopgghab.Md
open Go.RowKit Mr Me
set_option linter.unusedVariables false
set_option linter.unusedSimpArgs false
theorem sl_newA (w : World) (l : List Int) (n : Nat) (hn : n = w.heap.size) : Sl (w.alloc (.cells (ints l).toArray 3 (0, 0))) (fun _ => True) 1 (.slice (some ⟨n, 0, none⟩) l.length l.length) l.length (ints l) := by
  subst hn
  refine ⟨by simp [ints], _, _, rfl, Nat.le_refl _, .inr ⟨w.heap.size, 0, rfl, trivial, by simp, fun j u hu => ?_⟩⟩
  rw [Nat.zero_add, cell_blk (new_at w _ _ rfl) j]
  simpa using hu
theorem sl_nilA (w : World) (a : Option Addr) (size : Nat) : Sl w (fun _ => True) size (.slice a 0 0) 0 [] := ⟨by simp, a, 0, rfl, Nat.le_refl _, .inl rfl⟩
def x5 : Ct := ⟨[], [5], [], [], []⟩
def x65 : Ct := ⟨[], [6, 5], [], [], []⟩
theorem may_plain {x : Ct} (h1 : x.cell.length ≤ 1) (h2 : x.set = []) (h3 : x.table = []) : May x := ⟨h1, by rw [h2]; exact fun j hj => by simp at hj, by rw [h3]; exact fun j hj => by simp at hj⟩
theorem may5 : May x5 := may_plain (by decide) rfl rfl
theorem may65 : May x65 := may_plain (by decide) rfl rfl
theorem in5 : CtIn 225000000000000 x5 := ⟨by decide, by decide, by decide, by decide, by decide⟩
theorem in65 : CtIn 225000000000000 x65 := ⟨by decide, by decide, by decide, by decide, by decide⟩
theorem set7_below {n : Nat} {a w : World} {b c : Nat} (v0 v1 v2 v3 v4 : Value) (k v : Int) (h : Below n a w) (hb : n ≤ b) (hc : n ≤ c) : Below n a (set7 w b v0 v1 v2 v3 v4 c k v) := by
  unfold set7
  exact ((set5_below v0 v1 v2 v3 v4 h hb).setCell (p := ⟨c, 0, none⟩) hc _).setCell (p := ⟨c, 1, none⟩) hc _
set_option maxRecDepth 100000 in
set_option maxHeartbeats 16000000 in
theorem awake_any (w : World) : Calls Try.prog 11 #[] w fun e w' => e = .returned (.bool true) ∧ Below w.heap.size w w' := by
  have Q1 := mDo_any (W := w.alloc (.cells #[.int .i64 5] 3 (0, 0))) (S := fun _ => True) (u1 := .slice (some ⟨w.heap.size, 0, none⟩) 1 1) (x := x5) ⟨sl_nilA _ none 1, sl_newA w [5] _ rfl, sl_nilA _ none 1, sl_nilA _ none 1, sl_nilA _ none 2⟩ in5 may5 30 6 0 (by decide)
  have Q2 := fun w1 v0 v1 v2 v3 v4 T (h : CtAt w1 T v0 v1 v2 v3 v4 x65) => mDo_any h in65 may65 31 0 0 (by decide)
  rw [show dan x5 30 6 = (1, 0) from rfl, show dnx x5 30 6 0 = x65 from rfl] at Q1
  rw [show dan x65 31 0 = (2, 6) from rfl, show dnx x65 31 0 0 = x5 from rfl] at Q2
  have B0 := (Below.refl w.heap.size w).alloc (Nat.le_refl _) (.cells #[.int .i64 5] 3 (0, 0))
  replace Q1 := Mr.hid Q1
  replace Q2 := Mr.hid Q2
  replace B0 := Mr.hid B0
  go_enter Try.func11, Try.ntmps11
  go_upto_region 2 with (first | (go_at_call 10; refine Q1.out.mono ?_; clear Q1; rintro e w1 ⟨v0, v1, v2, v3, v4, rfl, hv, hB1⟩; unfold ans; have B1 := B0.out.trans (hB1.mono (by simp)); have Q3 := fun w' (hB : Below w1.heap.size w1 w') => Q2.out w' _ _ _ _ _ _ (hv.below hB); clear Q2 B0 hB1; obtain ⟨z0, q0, rfl, _⟩ := hv.cell.form; obtain ⟨z2, q2, rfl, _⟩ := hv.queue.form; obtain ⟨z3, q3, rfl, _⟩ := hv.set.form; obtain ⟨z4, q4, rfl, _⟩ := hv.table.form; obtain ⟨g, o, cap, hz, _, _, hl, hr⟩ := hv.stack.there (by decide); subst hz; have c0 := hr 0 (.int .i64 6) rfl; have c1 := hr 1 (.int .i64 5) rfl; clear hr hv; rw [Nat.add_zero] at c0; simp only [show x65.cell.length = 0 from rfl, show x65.stack.length = 2 from rfl, show x65.queue.length = 0 from rfl, show x65.set.length = 0 from rfl, show x65.table.length = 0 from rfl] at Q3 ⊢; replace Q3 := Mr.hid Q3; replace B1 := Mr.hid B1))
  have X2 := (B1.out.alloc B1.out.size (ctO (.slice z0 0 q0) (.slice (some ⟨g, o, none⟩) 2 cap) (.slice z2 0 q2) (.slice z3 0 q3) (.slice z4 0 q4))).alloc (by rw [World.size_alloc]; have := B1.out.size; omega) (ansO 1 0)
  have Y2 := ((Below.refl w1.heap.size w1).alloc (Nat.le_refl _) (ctO (.slice z0 0 q0) (.slice (some ⟨g, o, none⟩) 2 cap) (.slice z2 0 q2) (.slice z3 0 q3) (.slice z4 0 q4))).alloc (by simp) (ansO 1 0)
  have K1 : ((w1.alloc (ctO (.slice z0 0 q0) (.slice (some ⟨g, o, none⟩) 2 cap) (.slice z2 0 q2) (.slice z3 0 q3) (.slice z4 0 q4))).alloc (ansO 1 0)).heap[w1.heap.size]? = some (ctO (.slice z0 0 q0) (.slice (some ⟨g, o, none⟩) 2 cap) (.slice z2 0 q2) (.slice z3 0 q3) (.slice z4 0 q4)) := old_at (new_at _ _ _ rfl) _
  have K2 : ((w1.alloc (ctO (.slice z0 0 q0) (.slice (some ⟨g, o, none⟩) 2 cap) (.slice z2 0 q2) (.slice z3 0 q3) (.slice z4 0 q4))).alloc (ansO 1 0)).heap[w1.heap.size + 1]? = some (ansO 1 0) := new_at _ _ _ (by simp)
  have Q4 := Q3.out _ Y2
  have d0 := (Y2.cell (p := ⟨g, o, none⟩) hl).trans c0
  have d1 := (Y2.cell (p := ⟨g, o + 1, none⟩) hl).trans c1
  have hl2 := Y2.size
  unfold ctO ansO at X2 Y2 K1 K2 Q4 d0 d1 hl2
  clear Q3 c0 c1 Y2
  generalize hw2 : (w1.alloc (.cells #[.slice z0 0 q0, .slice (some ⟨g, o, none⟩) 2 cap, .slice z2 0 q2, .slice z3 0 q3, .slice z4 0 q4] 25 (0, 0))).alloc (.cells #[.int .i64 1, .int .i64 0] 31 (0, 0)) = w2 at *
  obtain ⟨b1, hb1⟩ : ∃ b, b = w1.heap.size := ⟨_, rfl⟩
  have hwb : w.heap.size ≤ b1 := by rw [hb1]; exact B1.out.size
  rw [← hb1] at K1 K2 ⊢
  have hl3 : g < w2.heap.size := Nat.lt_of_lt_of_le hl hl2
  clear hw2 B1 hl hl2 hb1 w1
  obtain ⟨k0, k1, k2, k3, k4, kl⟩ := ctO_cells K1
  obtain ⟨j0, j1, jl, j2, j3⟩ := ansO_cells K2
  obtain ⟨f0, f1, f2, f3, f4⟩ := ctO_thaw K1
  replace Q4 := Mr.hid Q4
  replace X2 := Mr.hid X2
  replace K1 := Mr.hid K1
  replace K2 := Mr.hid K2
  go_wp2_with (first | (go_at_call 10; refine Q4.out.mono ?_; clear Q4; rintro e w3 ⟨v0, v1, v2, v3, v4, rfl, hv, hB3⟩; unfold ans; have X3 := X2.out.trans (hB3.mono X2.out.size); have K3 := (hB3.block _ kl).trans K1.out; have K4 := (hB3.block _ jl).trans K2.out; obtain ⟨z0', q0', rfl, _⟩ := hv.cell.form; obtain ⟨z2', q2', rfl, _⟩ := hv.queue.form; obtain ⟨z3', q3', rfl, _⟩ := hv.set.form; obtain ⟨z4', q4', rfl, _⟩ := hv.table.form; obtain ⟨g', o', cap', hz, hg2, _, hl, hr⟩ := hv.stack.there (by decide); subst hz; have c0 := hr 0 (.int .i64 5) rfl; clear hr hv hB3; rw [Nat.add_zero] at c0; have hne1 : g' ≠ b1 := (by omega); have hne2 : g' ≠ b1 + 1 := (by omega); have hne3 : b1 ≠ g' := (by omega); have hne4 : b1 + 1 ≠ g' := (by omega); simp only [show x5.cell.length = 0 from rfl, show x5.stack.length = 1 from rfl, show x5.queue.length = 0 from rfl, show x5.set.length = 0 from rfl, show x5.table.length = 0 from rfl]; clear k0 k1 k2 k3 k4 j0 j1 j2 j3 f0 f1 f2 f3 f4; obtain ⟨k0, k1, k2, k3, k4, kl3⟩ := ctO_cells K3; obtain ⟨j0, j1, jl3, j2, j3⟩ := ansO_cells K4; obtain ⟨f0, f1, f2, f3, f4⟩ := ctO_thaw K3; replace X3 := Mr.hid X3; clear K3 K4))
  have E := set7_below (.slice z0' 0 q0') (.slice (some ⟨g', o', none⟩) 1 cap') (.slice z2' 0 q2') (.slice z3' 0 q3') (.slice z4' 0 q4') 2 6 X3.out hwb (Nat.le_succ_of_le hwb)
  unfold set7 set5 at E
  go_ret
  exact ⟨rfl, E⟩
end Go.Proofs.Ytegbcocbopgghab.Md
/-
  What the laws of Do, Allows, Play keep: the contents, their copy, what is left, each in its box.
-/
namespace Go.Proofs.Ytegbcocbopgghab.Md
open Go.RowKit Mr Me
set_option linter.unusedVariables false
set_option linter.unusedSimpArgs false
structure Dz (W w : World) (b1 bk bl : Nat) (u0 u1 u2 u3 u4 k0 k1 k2 k3 k4 l0 l1 l2 l3 l4 : Value) (x y : Ct) (ex : Option Obj) (fx : Nat → Option Obj) : Prop where
  bel : Below W.heap.size W w
  s : w.heap[b1]? = some (ctO u0 u1 u2 u3 u4)
  kept : w.heap[bk]? = some (ctO k0 k1 k2 k3 k4)
  left : w.heap[bl]? = some (ctO l0 l1 l2 l3 l4)
  more : ∀ o, ex = some o → w.heap[bl + 1]? = some o
  fix : ∀ b o, fx b = some o → w.heap[b]? = some o
  sat : CtAt w (fun _ => True) u0 u1 u2 u3 u4 x
  kat : CtAt w (fun _ => True) k0 k1 k2 k3 k4 x
  lat : CtAt w (fun _ => True) l0 l1 l2 l3 l4 y
theorem Dz.next {W w w' : World} {b1 bk bl : Nat} {u0 u1 u2 u3 u4 k0 k1 k2 k3 k4 l0 l1 l2 l3 l4 : Value} {x y : Ct} {ex : Option Obj} {fx : Nat → Option Obj} (h : Dz W w b1 bk bl u0 u1 u2 u3 u4 k0 k1 k2 k3 k4 l0 l1 l2 l3 l4 x y ex fx) (hB : Below w.heap.size w w') : Dz W w' b1 bk bl u0 u1 u2 u3 u4 k0 k1 k2 k3 k4 l0 l1 l2 l3 l4 x y ex fx :=
  ⟨h.bel.trans (hB.mono h.bel.size), (hB.block _ (Array.getElem?_eq_some_iff.1 h.s).1).trans h.s, (hB.block _ (Array.getElem?_eq_some_iff.1 h.kept).1).trans h.kept, (hB.block _ (Array.getElem?_eq_some_iff.1 h.left).1).trans h.left, fun o ho => (hB.block _ (Array.getElem?_eq_some_iff.1 (h.more o ho)).1).trans (h.more o ho), fun b o ho => (hB.block _ (Array.getElem?_eq_some_iff.1 (h.fix b o ho)).1).trans (h.fix b o ho), h.sat.below hB, h.kat.below hB, h.lat.below hB⟩
/-- Ahead of it: the contents and their copy. -/
structure Dk (W w : World) (b1 bk : Nat) (u0 u1 u2 u3 u4 k0 k1 k2 k3 k4 : Value) (x : Ct) (fx : Nat → Option Obj) : Prop where
  bel : Below W.heap.size W w
  s : w.heap[b1]? = some (ctO u0 u1 u2 u3 u4)
  kept : w.heap[bk]? = some (ctO k0 k1 k2 k3 k4)
  fix : ∀ b o, fx b = some o → w.heap[b]? = some o
  sat : CtAt w (fun _ => True) u0 u1 u2 u3 u4 x
  kat : CtAt w (fun _ => True) k0 k1 k2 k3 k4 x
theorem Dk.next {W w w' : World} {b1 bk : Nat} {u0 u1 u2 u3 u4 k0 k1 k2 k3 k4 : Value} {x : Ct} {fx : Nat → Option Obj} (h : Dk W w b1 bk u0 u1 u2 u3 u4 k0 k1 k2 k3 k4 x fx) (hB : Below w.heap.size w w') : Dk W w' b1 bk u0 u1 u2 u3 u4 k0 k1 k2 k3 k4 x fx :=
  ⟨h.bel.trans (hB.mono h.bel.size), (hB.block _ (Array.getElem?_eq_some_iff.1 h.s).1).trans h.s, (hB.block _ (Array.getElem?_eq_some_iff.1 h.kept).1).trans h.kept, fun b o ho => (hB.block _ (Array.getElem?_eq_some_iff.1 (h.fix b o ho)).1).trans (h.fix b o ho), h.sat.below hB, h.kat.below hB⟩
theorem Dk.first {W w0 w1 : World} {b1 : Nat} {u0 u1 u2 u3 u4 k0 k1 k2 k3 k4 : Value} {x : Ct} {T : Nat → Prop} {fx : Nat → Option Obj} (hf : ∀ b o, fx b = some o → w0.heap[b]? = some o) (hb : Below W.heap.size W w0) (hs : w0.heap[b1]? = some (ctO u0 u1 u2 u3 u4)) (hu : CtAt w0 (fun _ => True) u0 u1 u2 u3 u4 x) (hB : Below w0.heap.size w0 w1) (hk : CtAt w1 T k0 k1 k2 k3 k4 x) :
    Dk W (w1.alloc (ctO k0 k1 k2 k3 k4)) b1 w1.heap.size u0 u1 u2 u3 u4 k0 k1 k2 k3 k4 x fx := by
  have h1 := hb.trans (hB.mono hb.size)
  have Y := (Below.refl w1.heap.size w1).alloc (Nat.le_refl _) (ctO k0 k1 k2 k3 k4)
  exact ⟨h1.alloc h1.size _, old_at ((hB.block _ (Array.getElem?_eq_some_iff.1 hs).1).trans hs) _, new_at _ _ _ rfl, fun b o ho => old_at ((hB.block _ (Array.getElem?_eq_some_iff.1 (hf b o ho)).1).trans (hf b o ho)) _, (hu.below hB).below Y, (hk.mono (fun _ _ => trivial)).below Y⟩
theorem Dk.then1 {W w0 w1 : World} {b1 bk : Nat} {u0 u1 u2 u3 u4 k0 k1 k2 k3 k4 l0 l1 l2 l3 l4 : Value} {x y : Ct} {T : Nat → Prop} {fx : Nat → Option Obj} (h : Dk W w0 b1 bk u0 u1 u2 u3 u4 k0 k1 k2 k3 k4 x fx) (hB : Below w0.heap.size w0 w1) (hl : CtAt w1 T l0 l1 l2 l3 l4 y) :
    Dz W (w1.alloc (ctO l0 l1 l2 l3 l4)) b1 bk w1.heap.size u0 u1 u2 u3 u4 k0 k1 k2 k3 k4 l0 l1 l2 l3 l4 x y none fx := by
  have g := h.next hB
  have Y := (Below.refl w1.heap.size w1).alloc (Nat.le_refl _) (ctO l0 l1 l2 l3 l4)
  have g2 := g.next Y
  exact ⟨g2.bel, g2.s, g2.kept, new_at _ _ _ rfl, fun o ho => (by cases ho), g2.fix, g2.sat, g2.kat, (hl.mono (fun _ _ => trivial)).below Y⟩
theorem Dk.then2 {W w0 w1 : World} {b1 bk : Nat} {u0 u1 u2 u3 u4 k0 k1 k2 k3 k4 l0 l1 l2 l3 l4 : Value} {x y : Ct} {T : Nat → Prop} {fx : Nat → Option Obj} (o : Obj) (h : Dk W w0 b1 bk u0 u1 u2 u3 u4 k0 k1 k2 k3 k4 x fx) (hB : Below w0.heap.size w0 w1) (hl : CtAt w1 T l0 l1 l2 l3 l4 y) :
    Dz W ((w1.alloc (ctO l0 l1 l2 l3 l4)).alloc o) b1 bk w1.heap.size u0 u1 u2 u3 u4 k0 k1 k2 k3 k4 l0 l1 l2 l3 l4 x y (some o) fx := by
  have g := h.next hB
  have Y := ((Below.refl w1.heap.size w1).alloc (Nat.le_refl _) (ctO l0 l1 l2 l3 l4)).alloc (by simp) o
  have g2 := g.next Y
  exact ⟨g2.bel, g2.s, g2.kept, old_at (new_at _ _ _ rfl) _, fun o' ho => (by cases ho; exact new_at _ _ _ (by simp)), g2.fix, g2.sat, g2.kat, (hl.mono (fun _ _ => trivial)).below Y⟩
theorem ctB_same (x : Ct) : ctB x x = true := by unfold ctB; simp
end Go.Proofs.Ytegbcocbopgghab.Md
