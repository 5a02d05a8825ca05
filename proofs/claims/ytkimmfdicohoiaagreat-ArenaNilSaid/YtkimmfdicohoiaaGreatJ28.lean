import Derived.Test.YtkimmfdicohoiaaGreatJ22
/-
  PUTTING's run, place by place (made by gengive.py).
-/
namespace Go.Proofs.YtkimmfdicohoiaaGreat.Ar
open Go.RowKit Mr Me Ma Wc Wm
section
variable {q : Pl} {N : Nat} {T : Nat → Prop} {vs : List Value} {sp : Bool} {s : Ss} {A : Ao} {k : Pk} {dn : Int} {xs : Array Value} {l : Int} {W w : World}
set_option maxRecDepth 100000 in
set_option maxHeartbeats 1000000 in
theorem pick_none (h : Rn q sp s A (gvA q k dn) W) (hk : k.nx = 3) (hi : q.i < A.ca.length) (hl : A.last q.i = -1) :
    Calls Tryz.prog 74 #[.pointer (some ⟨q.bt, 0, none⟩), .agg #[.pointer (some ⟨q.p.bd, 0, none⟩), .int .i64 0]] W fun e w' => e = .returned (.bool true) ∧ Rn q sp s A (gvA q { k with nx := 0, sl := -1 } dn) w' := by
  obtain ⟨T, vs, i0⟩ := h.start 0
  obtain ⟨⟨c0, c1, c2, c3, c4, c5⟩, cz, x0, x1, xz⟩ := i0.gv
  rw [hk] at c3
  have ne := i0.ne
  have ne' : W.heap.size ≠ q.bt := fun e => ne e.symm
  have cellW := fun (sp' : Bool) (s' : Ss) (k' : Pk) (A' : Ao) (vs' : List Value) (l' : Int) (w1 : World) (T' : Nat → Prop) (h1 : In q W.heap.size T' vs' sp' s' A' (gvA q k' dn) l' w1) => h1.gv
  have j1 := i0.setT 3 (.int .i64 5)
  have LS := In.last j1 hi
  rw [hl] at LS
  have j2 : In q W.heap.size T vs sp s A (gvA q { k with nx := 5, sl := (-1) } dn) 0 _ := j1.setT 2 (.int .i64 (-1))
  have j9 : In q W.heap.size T vs sp s A (gvA q { k with nx := 0, sl := -1 } dn) 0 _ := j2.setT 3 (.int .i64 0)
  have c9 : World.cell? _ ⟨q.bt, 3, none⟩ = some (.int .i64 0) := j9.at 3 _ rfl
  clear h hi hl j1 j2
  replace LS := Mr.hid LS
  replace j9 := Mr.hid j9
  replace cellW := Mr.hid cellW
  replace i0 := Mr.hid i0
  go_enter Tryz.func74, Tryz.ntmps74
  go_wp2
  go_step3
  go_wp2
  go_step3
  go_wp2
  generalize W.alloc (.cells #[.pointer (some ⟨q.p.bd, 0, none⟩), .int .i64 0] 158) = V at *
  generalize W.heap.size = N at *
  refine wp_loop_rounds 2 ?_
  rw [rounds_succ]
  go_wp2_with (first | (go_at_call 97; refine LS.out.mono ?_; clear LS; rintro e w' ⟨rfl, hw⟩; obtain rfl := hw.symm))
  rw [rounds_succ]
  go_wp2
  dsimp only [Exit.noGoto]
  go_ret
  exact ⟨rfl, j9.out.done⟩
end
end Go.Proofs.YtkimmfdicohoiaaGreat.Ar
/-
  PUTTING's run, place by place (made by gengive.py).
-/
namespace Go.Proofs.YtkimmfdicohoiaaGreat.Ar
open Go.RowKit Mr Me Ma Wc Wm
section
variable {q : Pl} {N : Nat} {T : Nat → Prop} {vs : List Value} {sp : Bool} {s : Ss} {A : Ao} {k : Pk} {dn : Int} {xs : Array Value} {l : Int} {W w : World}
set_option maxRecDepth 100000 in
set_option maxHeartbeats 1000000 in
theorem pick_some (h : Rn q sp s A (gvA q k dn) W) (hk : k.nx = 3) (hi : q.i < A.ca.length) (x : Int) (hx : x ≠ -1) (hl : A.last q.i = x) :
    Calls Tryz.prog 74 #[.pointer (some ⟨q.bt, 0, none⟩), .agg #[.pointer (some ⟨q.p.bd, 0, none⟩), .int .i64 0]] W fun e w' => e = .returned (.bool false) ∧ Rn q sp s A (gvA q { k with nx := 5, sl := x } dn) w' := by
  obtain ⟨T, vs, i0⟩ := h.start 0
  obtain ⟨⟨c0, c1, c2, c3, c4, c5⟩, cz, x0, x1, xz⟩ := i0.gv
  rw [hk] at c3
  have ne := i0.ne
  have ne' : W.heap.size ≠ q.bt := fun e => ne e.symm
  have cellW := fun (sp' : Bool) (s' : Ss) (k' : Pk) (A' : Ao) (vs' : List Value) (l' : Int) (w1 : World) (T' : Nat → Prop) (h1 : In q W.heap.size T' vs' sp' s' A' (gvA q k' dn) l' w1) => h1.gv
  have j1 := i0.setT 3 (.int .i64 5)
  have LS := In.last j1 hi
  rw [hl] at LS
  have j2 : In q W.heap.size T vs sp s A (gvA q { k with nx := 5, sl := x } dn) 0 _ := j1.setT 2 (.int .i64 x)
  have AC3 := j2.acc0
  have nx1 : (x == -1) = false := by simp; omega
  clear h hi hl j1 j2
  replace LS := Mr.hid LS
  replace AC3 := Mr.hid AC3
  replace cellW := Mr.hid cellW
  replace i0 := Mr.hid i0
  go_enter Tryz.func74, Tryz.ntmps74
  go_wp2
  go_step3
  go_wp2
  go_step3
  go_wp2
  generalize W.alloc (.cells #[.pointer (some ⟨q.p.bd, 0, none⟩), .int .i64 0] 158) = V at *
  generalize W.heap.size = N at *
  refine wp_loop_rounds 2 ?_
  rw [rounds_succ]
  go_wp2_with (first | (go_at_call 97; refine LS.out.mono ?_; clear LS; rintro e w' ⟨rfl, hw⟩; obtain rfl := hw.symm))
  rw [rounds_succ]
  go_wp2_with (first | (go_at_call 100; refine AC3.out.mono ?_; clear AC3; rintro e w9 ⟨rfl, j9⟩; have c9 : w9.cell? ⟨q.bt, 3, none⟩ = some (.int .i64 5) := j9.at 3 _ rfl; replace j9 := Mr.hid j9))
  dsimp only [Exit.noGoto]
  go_ret
  exact ⟨rfl, j9.out.done⟩
end
end Go.Proofs.YtkimmfdicohoiaaGreat.Ar
