import Derived.Test.YtkimmfdicohoiaaGreatJ22
import Derived.Test.YtkimmfdicohoiaaGreatJ24
/-
  TAKING's run, place by place (made by gentake.py).
-/
namespace Go.Proofs.YtkimmfdicohoiaaGreat.Ar
open Go.RowKit Mr Me Ma Wc Wm
section
variable {q : Pl} {N : Nat} {T : Nat → Prop} {vs : List Value} {sp : Bool} {s : Ss} {A : Ao} {k : Pk} {xs : Array Value} {l : Int} {W w : World}
set_option maxRecDepth 100000 in
set_option maxHeartbeats 1000000 in
theorem take_none (h : Rn q sp s A (tkA q k) W) (hk : k.nx = 1) (hi : q.i < A.ca.length) (hl : A.last q.i = -1) :
    Calls Tryz.prog 71 #[.pointer (some ⟨q.bt, 0, none⟩), .agg #[.pointer (some ⟨q.p.bd, 0, none⟩), .int .i64 0]] W fun e w' => e = .returned (.bool false) ∧ Rn q sp s A (tkA q { k with nx := 5, sl := -1 }) w' := by
  obtain ⟨T, vs, i0⟩ := h.start 0
  obtain ⟨⟨c0, c1, c2, c3, c4, c5, c6⟩, cz, x0, x1, xz⟩ := i0.tk
  rw [hk] at c3
  have ne := i0.ne
  have ne' : W.heap.size ≠ q.bt := fun e => ne e.symm
  have cellW := fun (sp' : Bool) (s' : Ss) (k' : Pk) (A' : Ao) (vs' : List Value) (l' : Int) (w1 : World) (h1 : In q W.heap.size T vs' sp' s' A' (tkA q k') l' w1) => h1.tk
  have j1 := i0.setT 3 (.int .i64 5)
  have LS := In.last j1 hi
  rw [hl] at LS
  have j2 : In q W.heap.size T vs sp s A (tkA q { k with nx := 5, sl := -1 }) 0 _ := j1.setT 2 (.int .i64 (-1))
  have AC3 := j2.acc0
  clear h hi hl j1 j2
  replace LS := Mr.hid LS
  replace AC3 := Mr.hid AC3
  replace cellW := Mr.hid cellW
  replace i0 := Mr.hid i0
  go_enter Tryz.func71, Tryz.ntmps71
  go_wp2
  go_step3
  go_wp2
  go_step3
  go_wp2
  generalize W.alloc (.cells #[.pointer (some ⟨q.p.bd, 0, none⟩), .int .i64 0] 158) = V at *
  generalize W.heap.size = N at *
  refine wp_loop_rounds 2 ?_
  rw [rounds_succ]
  go_wp2_with (first | (go_at_call 97; refine LS.out.mono ?_; clear LS; rintro e w' ⟨rfl, hw⟩; obtain rfl := hw.symm))
  rw [rounds_succ]
  go_wp2_with (first | (go_at_call 100; refine AC3.out.mono ?_; clear AC3; rintro e w9 ⟨rfl, j9⟩; have c9 : w9.cell? ⟨q.bt, 3, none⟩ = some (.int .i64 5) := j9.at 3 _ rfl; replace j9 := Mr.hid j9))
  dsimp only [Exit.noGoto]
  go_ret
  exact ⟨rfl, j9.out.done⟩
end
end Go.Proofs.YtkimmfdicohoiaaGreat.Ar
/-
  TAKING's run, place by place (made by gentake.py).
-/
namespace Go.Proofs.YtkimmfdicohoiaaGreat.Ar
open Go.RowKit Mr Me Ma Wc Wm
section
variable {q : Pl} {N : Nat} {T : Nat → Prop} {vs : List Value} {sp : Bool} {s : Ss} {A : Ao} {k : Pk} {xs : Array Value} {l : Int} {W w : World}
set_option maxRecDepth 100000 in
set_option maxHeartbeats 1000000 in
theorem take_some (h : Rn q sp s A (tkA q k) W) (hk : k.nx = 1) (hr : s.shs.length ≤ 100000) (hi : q.i < A.ca.length) (m : List Int) (x : Int) (hc : A.cache q.i = m ++ [x]) (hm : x ∉ m) (hx : A.has x) :
    Calls Tryz.prog 71 #[.pointer (some ⟨q.bt, 0, none⟩), .agg #[.pointer (some ⟨q.p.bd, 0, none⟩), .int .i64 0]] W fun e w' => e = .returned (.bool true) ∧ Rn q sp (s.shifts q.i q.now x (A.st x).1 2) ((A.keep q.i m).put x 2 q.i) (tkA q { k with nx := 0, sl := x, tk := true }) w' := by
  obtain ⟨T, vs, i0⟩ := h.start 0
  obtain ⟨⟨c0, c1, c2, c3, c4, c5, c6⟩, cz, x0, x1, xz⟩ := i0.tk
  rw [hk] at c3
  have ne := i0.ne
  have ne' : W.heap.size ≠ q.bt := fun e => ne e.symm
  have cellW := fun (sp' : Bool) (s' : Ss) (k' : Pk) (A' : Ao) (vs' : List Value) (l' : Int) (w1 : World) (h1 : In q W.heap.size T vs' sp' s' A' (tkA q k') l' w1) => h1.tk
  have hl : A.last q.i = x := by simp [Ao.last, hc]
  have j1 := i0.setT 3 (.int .i64 5)
  have LS := In.last j1 hi
  rw [hl] at LS
  have j2 : In q W.heap.size T vs sp s A (tkA q { k with nx := 5, sl := x }) 0 _ := j1.setT 2 (.int .i64 x)
  have DR := j2.drew.drop hi m x hc hm
  obtain ⟨⟨_, d1, d2, _⟩, _⟩ := j2.tk
  simp only at d1 d2
  have OW := fun (vs' : List Value) (w1 : World) (h1 : In q W.heap.size T vs' sp s (A.keep q.i m) (tkA q { k with nx := 5, sl := x }) 0 w1) => (show Calls Tryz.prog 99 #[.pointer (some ⟨q.bt, 0, none⟩), .pointer (some ⟨q.p.bd, 0, none⟩)] w1 fun e w' => e = .returned (.tuple #[]) ∧ In q W.heap.size T vs' sp (s.shifts q.i q.now x (A.st x).1 2) ((A.keep q.i m).put x 2 q.i) (tkA q { k with nx := 0, sl := x, tk := true }) 0 w' from h1.own hr hx)
  have nx1 : (x != -1) = true := by have := hx.1; simp; omega
  have nx2 : ¬ x = -1 := by have := hx.1; omega
  clear h hi hl hr hc hm hx j1 j2
  generalize s.shifts q.i q.now x (A.st x).1 2 = s1 at *
  generalize (A.keep q.i m).put x 2 q.i = A2 at *
  generalize A.keep q.i m = A1 at *
  replace LS := Mr.hid LS
  replace DR := Mr.hid DR
  replace OW := Mr.hid OW
  replace cellW := Mr.hid cellW
  replace i0 := Mr.hid i0
  go_enter Tryz.func71, Tryz.ntmps71
  go_wp2
  go_step3
  go_wp2
  go_step3
  go_wp2
  generalize W.alloc (.cells #[.pointer (some ⟨q.p.bd, 0, none⟩), .int .i64 0] 158) = V at *
  generalize W.heap.size = N at *
  refine wp_loop_rounds 2 ?_
  rw [rounds_succ]
  go_wp2_with (first | (go_at_call 97; refine LS.out.mono ?_; clear LS; rintro e w' ⟨rfl, hw⟩; obtain rfl := hw.symm))
  go_region_held3 (fun w' => w'.cell? ⟨q.bt, 1, none⟩ = some (.int .i64 (q.i : Int)) ∧ w'.cell? ⟨q.bt, 2, none⟩ = some (.int .i64 x)) (simp [*])
    (first | (go_at_call 98; refine DR.out.mono ?_; clear DR; rintro e w1 ⟨rfl, vs', j3⟩; clear c0 c1 c2 c3 c4 c5 c6 cz x0 x1 xz; obtain ⟨⟨c0, c1, c2, c3, c4, c5, c6⟩, cz, x0, x1, xz⟩ := cellW.out _ _ _ _ _ _ w1 j3; have OW1 := OW.out vs' w1 j3; clear OW; replace OW1 := Mr.hid OW1; replace j3 := Mr.hid j3))
  go_wp2_with (first | (go_at_call 99; refine OW1.out.mono ?_; clear OW1; rintro e w9 ⟨rfl, j9⟩; have c9 : w9.cell? ⟨q.bt, 3, none⟩ = some (.int .i64 0) := j9.at 3 _ rfl; replace j9 := Mr.hid j9))
  rw [rounds_succ]
  go_wp2
  dsimp only [Exit.noGoto]
  go_ret
  exact ⟨rfl, j9.out.done⟩
end
end Go.Proofs.YtkimmfdicohoiaaGreat.Ar
