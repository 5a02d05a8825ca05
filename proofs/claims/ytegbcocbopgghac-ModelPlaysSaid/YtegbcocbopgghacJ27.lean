import Derived.Test.YtegbcocbopgghacJ26
import Derived.Test.YtegbcocbopgghacJ22
import Derived.Test.YtegbcocbopgghacJ09
/-
  What the laws of Do, Allows, Play keep: the contents, their copy, what is left, each in its box.
-/
namespace Go.Proofs.Ytegbcocbopgghac.Md
open Go.RowKit Mr Me
set_option linter.unusedVariables false
set_option linter.unusedSimpArgs false
structure Dz (W w : World) (b1 bk bl : Nat) (u0 u1 u2 u3 u4 k0 k1 k2 k3 k4 l0 l1 l2 l3 l4 : Value) (x y : Ct) (ex : Option Obj) (fx : Nat → Option Obj) : Prop where
  bel : Below W.heap.size W w
  s : w.heap[b1]? = some (ctO u0 u1 u2 u3 u4)
  kept : w.heap[bk]? = some (ctO k0 k1 k2 k3 k4)
  left : w.heap[bl]? = some (ctO l0 l1 l2 l3 l4)
  more : ∀ o, ex = some o → w.heap[bl + 1]? = some o
  fix : ∀ b o, fx b = some o → w.heap[b]? = some o
  sat : CtAt w (fun _ => True) u0 u1 u2 u3 u4 x
  kat : CtAt w (fun _ => True) k0 k1 k2 k3 k4 x
  lat : CtAt w (fun _ => True) l0 l1 l2 l3 l4 y
theorem Dz.next {W w w' : World} {b1 bk bl : Nat} {u0 u1 u2 u3 u4 k0 k1 k2 k3 k4 l0 l1 l2 l3 l4 : Value} {x y : Ct} {ex : Option Obj} {fx : Nat → Option Obj} (h : Dz W w b1 bk bl u0 u1 u2 u3 u4 k0 k1 k2 k3 k4 l0 l1 l2 l3 l4 x y ex fx) (hB : Below w.heap.size w w') : Dz W w' b1 bk bl u0 u1 u2 u3 u4 k0 k1 k2 k3 k4 l0 l1 l2 l3 l4 x y ex fx :=
  ⟨h.bel.trans (hB.mono h.bel.size), (hB.block _ (Array.getElem?_eq_some_iff.1 h.s).1).trans h.s, (hB.block _ (Array.getElem?_eq_some_iff.1 h.kept).1).trans h.kept, (hB.block _ (Array.getElem?_eq_some_iff.1 h.left).1).trans h.left, fun o ho => (hB.block _ (Array.getElem?_eq_some_iff.1 (h.more o ho)).1).trans (h.more o ho), fun b o ho => (hB.block _ (Array.getElem?_eq_some_iff.1 (h.fix b o ho)).1).trans (h.fix b o ho), h.sat.below hB, h.kat.below hB, h.lat.below hB⟩
/-- Ahead of it: the contents and their copy. -/
structure Dk (W w : World) (b1 bk : Nat) (u0 u1 u2 u3 u4 k0 k1 k2 k3 k4 : Value) (x : Ct) (fx : Nat → Option Obj) : Prop where
  bel : Below W.heap.size W w
  s : w.heap[b1]? = some (ctO u0 u1 u2 u3 u4)
  kept : w.heap[bk]? = some (ctO k0 k1 k2 k3 k4)
  fix : ∀ b o, fx b = some o → w.heap[b]? = some o
  sat : CtAt w (fun _ => True) u0 u1 u2 u3 u4 x
  kat : CtAt w (fun _ => True) k0 k1 k2 k3 k4 x
theorem Dk.next {W w w' : World} {b1 bk : Nat} {u0 u1 u2 u3 u4 k0 k1 k2 k3 k4 : Value} {x : Ct} {fx : Nat → Option Obj} (h : Dk W w b1 bk u0 u1 u2 u3 u4 k0 k1 k2 k3 k4 x fx) (hB : Below w.heap.size w w') : Dk W w' b1 bk u0 u1 u2 u3 u4 k0 k1 k2 k3 k4 x fx :=
  ⟨h.bel.trans (hB.mono h.bel.size), (hB.block _ (Array.getElem?_eq_some_iff.1 h.s).1).trans h.s, (hB.block _ (Array.getElem?_eq_some_iff.1 h.kept).1).trans h.kept, fun b o ho => (hB.block _ (Array.getElem?_eq_some_iff.1 (h.fix b o ho)).1).trans (h.fix b o ho), h.sat.below hB, h.kat.below hB⟩
theorem Dk.first {W w0 w1 : World} {b1 : Nat} {u0 u1 u2 u3 u4 k0 k1 k2 k3 k4 : Value} {x : Ct} {T : Nat → Prop} {fx : Nat → Option Obj} (hf : ∀ b o, fx b = some o → w0.heap[b]? = some o) (hb : Below W.heap.size W w0) (hs : w0.heap[b1]? = some (ctO u0 u1 u2 u3 u4)) (hu : CtAt w0 (fun _ => True) u0 u1 u2 u3 u4 x) (hB : Below w0.heap.size w0 w1) (hk : CtAt w1 T k0 k1 k2 k3 k4 x) :
    Dk W (w1.alloc (ctO k0 k1 k2 k3 k4)) b1 w1.heap.size u0 u1 u2 u3 u4 k0 k1 k2 k3 k4 x fx := by
  have h1 := hb.trans (hB.mono hb.size)
  have Y := (Below.refl w1.heap.size w1).alloc (Nat.le_refl _) (ctO k0 k1 k2 k3 k4)
  exact ⟨h1.alloc h1.size _, old_at ((hB.block _ (Array.getElem?_eq_some_iff.1 hs).1).trans hs) _, new_at _ _ _ rfl, fun b o ho => old_at ((hB.block _ (Array.getElem?_eq_some_iff.1 (hf b o ho)).1).trans (hf b o ho)) _, (hu.below hB).below Y, (hk.mono (fun _ _ => trivial)).below Y⟩
theorem Dk.then1 {W w0 w1 : World} {b1 bk : Nat} {u0 u1 u2 u3 u4 k0 k1 k2 k3 k4 l0 l1 l2 l3 l4 : Value} {x y : Ct} {T : Nat → Prop} {fx : Nat → Option Obj} (h : Dk W w0 b1 bk u0 u1 u2 u3 u4 k0 k1 k2 k3 k4 x fx) (hB : Below w0.heap.size w0 w1) (hl : CtAt w1 T l0 l1 l2 l3 l4 y) :
    Dz W (w1.alloc (ctO l0 l1 l2 l3 l4)) b1 bk w1.heap.size u0 u1 u2 u3 u4 k0 k1 k2 k3 k4 l0 l1 l2 l3 l4 x y none fx := by
  have g := h.next hB
  have Y := (Below.refl w1.heap.size w1).alloc (Nat.le_refl _) (ctO l0 l1 l2 l3 l4)
  have g2 := g.next Y
  exact ⟨g2.bel, g2.s, g2.kept, new_at _ _ _ rfl, fun o ho => (by cases ho), g2.fix, g2.sat, g2.kat, (hl.mono (fun _ _ => trivial)).below Y⟩
theorem Dk.then2 {W w0 w1 : World} {b1 bk : Nat} {u0 u1 u2 u3 u4 k0 k1 k2 k3 k4 l0 l1 l2 l3 l4 : Value} {x y : Ct} {T : Nat → Prop} {fx : Nat → Option Obj} (o : Obj) (h : Dk W w0 b1 bk u0 u1 u2 u3 u4 k0 k1 k2 k3 k4 x fx) (hB : Below w0.heap.size w0 w1) (hl : CtAt w1 T l0 l1 l2 l3 l4 y) :
    Dz W ((w1.alloc (ctO l0 l1 l2 l3 l4)).alloc o) b1 bk w1.heap.size u0 u1 u2 u3 u4 k0 k1 k2 k3 k4 l0 l1 l2 l3 l4 x y (some o) fx := by
  have g := h.next hB
  have Y := ((Below.refl w1.heap.size w1).alloc (Nat.le_refl _) (ctO l0 l1 l2 l3 l4)).alloc (by simp) o
  have g2 := g.next Y
  exact ⟨g2.bel, g2.s, g2.kept, old_at (new_at _ _ _ rfl) _, fun o' ho => (by cases ho; exact new_at _ _ _ (by simp)), g2.fix, g2.sat, g2.kat, (hl.mono (fun _ _ => trivial)).below Y⟩
theorem ctB_same (x : Ct) : ctB x x = true := by unfold ctB; simp
end Go.Proofs.Ytegbcocbopgghac.Md
/-
  Package model: puts; what admit leaves, purely.
-/
namespace Go.Proofs.Ytegbcocbopgghac.Md
open Go.RowKit Mr
set_option linter.unusedVariables false
set_option linter.unusedSimpArgs false
theorem labrp_old {lab : Nat → Nat} {s s' i k : Nat} (h : labr (labp lab s i) s' k < 5) (hk : k < s) : lab k < 5 := by
  rw [labr_in (labr_hi h), labp_old hk] at h
  exact h
/-- What is left behind a call that was asked for: as it was, if it may not answer so. -/
def adm (x : Ct) (c : Cq) : Ct := if (alw x c).2 = true then (alw x c).1 else x
theorem adm_none {x : Ct} {c : Cq} (h : c.ak = 0) : (alw x c).2 = true ∧ adm x c = dnx x c.op c.arg c.data := by
  have e : alw x c = (dnx x c.op c.arg c.data, true) := if_pos h
  unfold adm
  rw [e]
  exact ⟨rfl, rfl⟩
theorem adm_full {x : Ct} {c : Cq} (h0 : c.ak ≠ 0) (h : c.ak = 4) (b : Bool) (hb : b = decide (fullOp c.op)) : (alw x c).2 = b ∧ adm x c = x := by
  have e : alw x c = (if fullOp c.op then (x, true) else (ct0, false)) := by unfold alw; rw [if_neg h0, if_pos h]
  unfold adm
  rw [e]
  by_cases f : fullOp c.op
  · rw [if_pos f, hb, decide_eq_true f]; exact ⟨rfl, rfl⟩
  · rw [if_neg f, hb, decide_eq_false f]; exact ⟨rfl, rfl⟩
theorem adm_yes {x : Ct} {c : Cq} (h0 : c.ak ≠ 0) (h4 : c.ak ≠ 4) (h : dan x c.op c.arg = (c.ak, c.av)) : (alw x c).2 = true ∧ adm x c = dnx x c.op c.arg c.data := by
  have e : alw x c = (dnx x c.op c.arg c.data, true) := by unfold alw; rw [if_neg h0, if_neg h4, if_pos h]
  unfold adm
  rw [e]
  exact ⟨rfl, rfl⟩
theorem adm_no {x : Ct} {c : Cq} (h0 : c.ak ≠ 0) (h4 : c.ak ≠ 4) (h : dan x c.op c.arg ≠ (c.ak, c.av)) : (alw x c).2 = false ∧ adm x c = x := by
  have e : alw x c = (ct0, false) := by unfold alw; rw [if_neg h0, if_neg h4, if_neg h]
  unfold adm
  rw [e]
  exact ⟨rfl, rfl⟩
set_option maxHeartbeats 4000000 in
theorem puts_any (op : Int) (w : World) : Calls Try.prog 29 #[.int .i64 op] w fun e w' => e = .returned (.bool (decide (fullOp op))) ∧ w' = w := by
  by_cases h : op = 22 ∨ op = 30 ∨ op = 40 ∨ op = 50 ∨ op = 60
  · rw [decide_eq_true (show fullOp op from h)]
    rcases h with rfl | rfl | rfl | rfl | rfl
    all_goals
      go_enter Try.func29, Try.ntmps29
      go_wp2
      go_ret
      exact ⟨rfl, rfl⟩
  · rw [decide_eq_false (show ¬ fullOp op from h)]
    have d : ∀ k : Int, (k = 22 ∨ k = 30 ∨ k = 40 ∨ k = 50 ∨ k = 60) → (op == k) = false := fun k hk => by
      rw [beq_eq_false_iff_ne]; rintro rfl; exact h hk
    have d0 := d 22 (by simp)
    have d1 := d 30 (by simp)
    have d2 := d 40 (by simp)
    have d3 := d 50 (by simp)
    have d4 := d 60 (by simp)
    clear d h
    go_enter Try.func29, Try.ntmps29
    go_wp2
    go_ret
    exact ⟨rfl, rfl⟩
end Go.Proofs.Ytegbcocbopgghac.Md
