import Derived.Test.YtmejblmeaipahaaDoorJ02
/-
  TSO: a store of a state's array.
-/
namespace Go.Proofs.YtmejblmeaipahaaDoor.Ts
open Go.RowKit Mr
set_option linter.unusedVariables false
set_option linter.unusedSimpArgs false
set_option maxRecDepth 100000
theorem Ar.below {W W' : World} {b : Nat} {cs : Array Value} (h : Ar W b cs) (hB : Below W.heap.size W W') : Ar W' b cs := ⟨(hB.block _ (Array.getElem?_eq_some_iff.1 h.1).1).trans h.1, h.2⟩
set_option maxHeartbeats 8000000 in
theorem store_any (b t n : Nat) (x y : Int) (cs : Array Value) (w : World) (h : Ar w b cs) (ht : t < 4) (hn : n < 11) (hx : cs[30 + t * 22 + 2 * n]? = some (.int .i64 x)) (hy : cs[30 + t * 22 + 2 * n + 1]? = some (.int .i64 y)) :
    Calls Tryd.prog 42 #[.pointer (some ⟨b, 0, none⟩), .int .i64 (t : Int), .int .i64 (n : Int)] w fun e w' => e = .returned (.agg #[.int .i64 x, .int .i64 y]) ∧ Below w.heap.size w w' := by
  have B0 : Below w.heap.size w (w.alloc (.cells #[.int .i64 0, .int .i64 0] 70)) := (Below.refl _ _).alloc (Nat.le_refl _) _
  have hbx : (w.alloc (.cells #[.int .i64 0, .int .i64 0] 70)).heap[w.heap.size]? = some (.cells #[.int .i64 0, .int .i64 0] 70 (0, 0)) := new_at _ _ _ rfl
  have hA := h.below B0
  have lb := (Array.getElem?_eq_some_iff.1 h.1).1
  have hne : b ≠ w.heap.size := by omega
  have BU := Mr.hid (buffer_any b t cs _ hA ht)
  have k0 : (w.alloc (.cells #[.int .i64 0, .int .i64 0] 70)).cell? ⟨b, 30 + t * 22 + 2 * n, none⟩ = some (.int .i64 x) := (cell_blk hA.1 _).trans hx
  have k1 : (w.alloc (.cells #[.int .i64 0, .int .i64 0] 70)).cell? ⟨b, 30 + t * 22 + (2 * n + 1), none⟩ = some (.int .i64 y) := (cell_blk hA.1 _).trans hy
  have la : b < (w.alloc (.cells #[.int .i64 0, .int .i64 0] 70)).heap.size := by simp; omega
  have lc : w.heap.size < (w.alloc (.cells #[.int .i64 0, .int .i64 0] 70)).heap.size := by simp
  obtain ⟨m, hm⟩ : ∃ m : Nat, m = 2 * n := ⟨_, rfl⟩
  obtain ⟨m1, hm1⟩ : ∃ m1 : Nat, m1 = 2 * n + 1 := ⟨_, rfl⟩
  have hw1 : IntKind.i64.wrap (2 * (n : Int)) = (m : Int) := (i64x _ (by omega) (by omega)).trans (by omega)
  have hw2 : IntKind.i64.wrap ((m : Int) + 1) = (m1 : Int) := (i64x _ (by omega) (by omega)).trans (by omega)
  have l1 : (m : Int) < 22 := by omega
  have l2 : (m1 : Int) < 22 := by omega
  rw [← hm] at k0
  rw [← hm1] at k1
  generalize 30 + t * 22 = q at *
  have y0 := cell_blk hbx 0
  have y1 := cell_blk hbx 1
  have hfz : ∀ k, (w.alloc (.cells #[.int .i64 0, .int .i64 0] 70)).frozen? ⟨w.heap.size, k, none⟩ = false := fun k => by unfold World.frozen?; rw [hbx]; rfl
  replace hm := Mr.hid hm
  replace hm1 := Mr.hid hm1
  replace B0 := Mr.hid B0
  clear h hA hx hy hbx
  go_enter Tryd.func42, Tryd.ntmps42
  go_upto_region 2 with (go_at_call 55; refine BU.out.mono ?_; clear BU; rintro e w9 ⟨rfl, hw9⟩; obtain rfl := hw9.symm)
  generalize w.alloc (.cells #[.int .i64 0, .int .i64 0] 70) = w1 at *
  go_region_held3 (fun W => W.cell? ⟨b, q + m, none⟩ = some (.int .i64 x) ∧ W.cell? ⟨b, q + m1, none⟩ = some (.int .i64 y)) (simp [*, go_sem]) (fail)
  have hB1 : Hid (Below w.heap.size w ((w1.setCell ⟨w.heap.size, 0, none⟩ (.int .i64 x)).setCell ⟨w.heap.size, 1, none⟩ (.int .i64 y)).drew) := ((B0.out.setCell (p := ⟨w.heap.size, 0, none⟩) (Nat.le_refl _) _).setCell (p := ⟨w.heap.size, 1, none⟩) (Nat.le_refl _) _).drew
  go_wp2
  refine bodyPost_ret (v := .agg #[.int .i64 x, .int .i64 y]) (by simp [results, Tryd.results42, go_sem, *]) rfl ⟨rfl, hB1.out⟩
end Go.Proofs.YtmejblmeaipahaaDoor.Ts
/-
  TSO: a party's register, whether it waits.
-/
namespace Go.Proofs.YtmejblmeaipahaaDoor.Ts
open Go.RowKit Mr
set_option linter.unusedVariables false
set_option linter.unusedSimpArgs false
set_option maxRecDepth 100000
/-- The thread whose turn it is. -/
def ptV (b t : Nat) (o : Int) : Value := .agg #[.pointer (some ⟨b, 0, none⟩), .int .i64 (t : Int), .int .i64 o]
set_option maxHeartbeats 4000000 in
theorem reg_any (b t n : Nat) (o : Int) (cs : Array Value) (w : World) (h : Ar w b cs) (ht : t < 4) (hn : n < 4) : Calls Tryd.prog 58 #[ptV b t o, .int .i64 (n : Int)] w fun e w' => e = .returned (.pointer (some ⟨b, 6 + t * 4 + n, none⟩)) ∧ Below w.heap.size w w' := by
  have B0 : Below w.heap.size w (w.alloc (.cells #[.pointer (some ⟨b, 0, none⟩), .int .i64 (t : Int), .int .i64 o] 88)) := (Below.refl _ _).alloc (Nat.le_refl _) _
  have RG := Mr.hid (regs_any b t cs _ (h.below B0) ht)
  have l1 : (n : Int) < 4 := by omega
  replace B0 := Mr.hid B0
  unfold ptV
  generalize 6 + t * 4 = q at *
  clear h
  go_enter Tryd.func58, Tryd.ntmps58
  go_wp2_with (go_at_call 45; refine RG.out.mono ?_; clear RG; rintro e w9 ⟨rfl, hw9⟩; obtain rfl := hw9.symm)
  go_ret
  exact ⟨rfl, B0.out⟩
set_option maxHeartbeats 4000000 in
theorem isWaiting_any (b t k : Nat) (o : Int) (cs : Array Value) (w : World) (h : Ar w b cs) (ht : t < 4) (hk : cs[26 + t]? = some (.int .i64 (k : Int))) : Calls Tryd.prog 59 #[ptV b t o] w fun e w' => e = .returned (.bool (decide (0 < k))) ∧ Below w.heap.size w w' := by
  have B0 : Below w.heap.size w (w.alloc (.cells #[.pointer (some ⟨b, 0, none⟩), .int .i64 (t : Int), .int .i64 o] 88)) := (Below.refl _ _).alloc (Nat.le_refl _) _
  have hA := h.below B0
  have WT := Mr.hid (waits_any b t cs _ hA ht)
  have c0 := (cell_blk hA.1 (26 + t)).trans hk
  have la : b < (w.alloc (.cells #[.pointer (some ⟨b, 0, none⟩), .int .i64 (t : Int), .int .i64 o] 88)).heap.size := (Array.getElem?_eq_some_iff.1 hA.1).1
  replace B0 := Mr.hid B0
  unfold ptV
  generalize 26 + t = q at *
  clear h hA hk
  by_cases hp : 0 < k
  · have d1 : decide ((0 : Int) < (k : Int)) = true := decide_eq_true (by omega)
    rw [decide_eq_true hp]
    go_enter Tryd.func59, Tryd.ntmps59
    go_wp2_with (go_at_call 41; refine WT.out.mono ?_; clear WT; rintro e w9 ⟨rfl, hw9⟩; obtain rfl := hw9.symm)
    go_ret
    exact ⟨by simp [*], B0.out⟩
  · have d1 : decide ((0 : Int) < (k : Int)) = false := decide_eq_false (by omega)
    rw [decide_eq_false hp]
    go_enter Tryd.func59, Tryd.ntmps59
    go_wp2_with (go_at_call 41; refine WT.out.mono ?_; clear WT; rintro e w9 ⟨rfl, hw9⟩; obtain rfl := hw9.symm)
    go_ret
    exact ⟨by simp [*], B0.out⟩
end Go.Proofs.YtmejblmeaipahaaDoor.Ts
