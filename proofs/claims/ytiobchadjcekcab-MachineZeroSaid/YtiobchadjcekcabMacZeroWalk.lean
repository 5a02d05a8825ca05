/-
  MachineZero: a machine that New didn't make, a desk that no machine handed out.
-/
import Derived.Test.YtiobchadjcekcabMacAwake
import Derived.BigQuiet
import Derived.Deep.DeepCutAuto
import Derived.Deep.LoopGhost
namespace Go.Proofs.Ytiobchadjcekcab.Ma
open Go.RowKit Go.Shelf Mr Me
section
variable {W : World} {b : Nat}
theorem made_zero (h : W.cell? ⟨b, 3, none⟩ = some (.pointer none)) : Calls Try.prog 43 #[.pointer (some ⟨b, 0, none⟩)] W fun e w' => e = .returned (.bool false) ∧ w' = W := by
  go_enter Try.func43, Try.ntmps43
  go_wp2
  go_ret
  exact ⟨rfl, rfl⟩
theorem has_zero (h : W.cell? ⟨b, 3, none⟩ = some (.pointer none)) (x : Int) : Calls Try.prog 44 #[.pointer (some ⟨b, 0, none⟩), .int .i64 x] W fun e w' => e = .returned (.bool false) ∧ w' = W := by
  have C := made_zero h
  go_enter Try.func44, Try.ntmps44
  go_wp2_with (go_at_call 43; refine C.mono ?_; clear C; rintro e w' ⟨rfl, hw⟩; obtain rfl := hw.symm)
  go_ret
  exact ⟨rfl, rfl⟩
theorem busy_zero (h : W.cell? ⟨b, 3, none⟩ = some (.pointer none)) (x : Int) : Calls Try.prog 12 #[.pointer (some ⟨b, 0, none⟩), .int .i64 x] W fun e w' => e = .returned (.bool false) ∧ w' = W := by
  have C := has_zero h x
  go_enter Try.func12, Try.ntmps12
  go_wp2_with (go_at_call 44; refine C.mono ?_; clear C; rintro e w' ⟨rfl, hw⟩; obtain rfl := hw.symm)
  go_ret
  exact ⟨rfl, rfl⟩
theorem moves_zero (h : W.cell? ⟨b, 2, none⟩ = some (.int .i64 0)) : Calls Try.prog 13 #[.pointer (some ⟨b, 0, none⟩)] W fun e w' => e = .returned (.int .i64 0) ∧ w' = W := by
  go_enter Try.func13, Try.ntmps13
  go_wp2
  go_ret
  exact ⟨rfl, rfl⟩
theorem move_zero (h : W.cell? ⟨b, 3, none⟩ = some (.pointer none)) (hb : b < W.heap.size) (x0 x1 x2 x3 : Int) : Calls Try.prog 11 #[.pointer (some ⟨b, 0, none⟩), .agg #[.int .i64 x0, .int .i64 x1, .int .i64 x2, .int .i64 x3]] W fun e w' => e = .returned (.bool false) ∧ Below W.heap.size W w' := by
  have C := fun (o : Obj) => made_zero (W := W.alloc o) (b := b) ((((Below.refl W.heap.size W).alloc (Nat.le_refl _) o).cell (p := ⟨b, 3, none⟩) hb).trans h)
  have hB := fun (o : Obj) => (Below.refl W.heap.size W).alloc (Nat.le_refl _) o
  replace hB := Mr.hid hB
  go_enter Try.func11, Try.ntmps11
  go_wp2_with (go_at_call 43; refine (C _).mono ?_; clear C; rintro e w' ⟨rfl, hw⟩; obtain rfl := hw.symm)
  go_ret
  exact ⟨rfl, hB.out _⟩
theorem run_zero (h : W.cell? ⟨b, 3, none⟩ = some (.pointer none)) (hb : b < W.heap.size) : Calls Try.prog 15 #[.pointer (some ⟨b, 0, none⟩)] W fun e w' => e = .returned (.agg #[.slice none 0 0, .slice none 0 0, .slice none 0 0, .slice none 0 0]) ∧ Below W.heap.size W w' := by
  have C := fun (o : Obj) => made_zero (W := W.alloc o) (b := b) ((((Below.refl W.heap.size W).alloc (Nat.le_refl _) o).cell (p := ⟨b, 3, none⟩) hb).trans h)
  have C0 := made_zero h
  have hB := fun (o : Obj) => (Below.refl W.heap.size W).alloc (Nat.le_refl _) o
  replace hB := Mr.hid hB
  go_enter Try.func15, Try.ntmps15
  go_wp2_with (go_at_call 43; first | (refine (C _).mono ?_; clear C; rintro e w' ⟨rfl, hw⟩; obtain rfl := hw.symm) | (refine C0.mono ?_; clear C0; rintro e w' ⟨rfl, hw⟩; obtain rfl := hw.symm))
  obtain ⟨W5, hW5⟩ : ∃ W5, W.alloc (.cells #[.slice none 0 0, .slice none 0 0, .slice none 0 0, .slice none 0 0] 30) = W5 := ⟨_, rfl⟩
  have hn : W5.heap[W.heap.size]? = some (.cells #[.slice none 0 0, .slice none 0 0, .slice none 0 0, .slice none 0 0] 30 (0, 0)) := by rw [← hW5]; exact heap_alloc_new W _
  have hB5 := hB.out (.cells #[.slice none 0 0, .slice none 0 0, .slice none 0 0, .slice none 0 0] 30)
  have d0 : W5.cell? ⟨W.heap.size, 0, none⟩ = some (.slice none 0 0) := by simp [World.cell?, hn]
  have d1 : W5.cell? ⟨W.heap.size, 1, none⟩ = some (.slice none 0 0) := by simp [World.cell?, hn]
  have d2 : W5.cell? ⟨W.heap.size, 2, none⟩ = some (.slice none 0 0) := by simp [World.cell?, hn]
  have d3 : W5.cell? ⟨W.heap.size, 3, none⟩ = some (.slice none 0 0) := by simp [World.cell?, hn]
  rw [hW5] at hB5 ⊢
  refine bodyPost_ret (v := .agg #[.slice none 0 0, .slice none 0 0, .slice none 0 0, .slice none 0 0]) (by simp [results, Try.f15, go_sem, d0, d1, d2, d3]) rfl ⟨rfl, hB5⟩
theorem empty_zero (W : World) : Calls Try.prog 14 #[.agg #[.slice none 0 0, .slice none 0 0, .slice none 0 0, .slice none 0 0]] W fun e w' => e = .returned (.bool true) ∧ Below W.heap.size W w' := by
  have hB := fun (o : Obj) => (Below.refl W.heap.size W).alloc (Nat.le_refl _) o
  replace hB := Mr.hid hB
  go_enter Try.func14, Try.ntmps14
  go_wp2
  go_ret
  exact ⟨rfl, hB.out _⟩
theorem call_zero (h : W.cell? ⟨b, 3, none⟩ = some (.pointer none)) (hb : b < W.heap.size) (x : Int) : Calls Try.prog 16 #[.pointer (some ⟨b, 0, none⟩), .int .i64 x] W fun e w' => e = .returned (.tuple #[.agg #[.int .i64 0, .int .i64 0, .int .i64 0, .int .i64 0, .int .i64 0, .int .i64 0, .int .i64 0, .int .i64 0, .int .i64 0], .bool false]) ∧ Below W.heap.size W w' := by
  have C := fun (o : Obj) => has_zero (W := W.alloc o) (b := b) ((((Below.refl W.heap.size W).alloc (Nat.le_refl _) o).cell (p := ⟨b, 3, none⟩) hb).trans h) x
  have C0 := has_zero h x
  have hB := fun (o : Obj) => (Below.refl W.heap.size W).alloc (Nat.le_refl _) o
  replace hB := Mr.hid hB
  go_enter Try.func16, Try.ntmps16
  go_wp2_with (go_at_call 44; first | (refine (C _).mono ?_; clear C; rintro e w' ⟨rfl, hw⟩; obtain rfl := hw.symm) | (refine C0.mono ?_; clear C0; rintro e w' ⟨rfl, hw⟩; obtain rfl := hw.symm))
  obtain ⟨W5, hW5⟩ : ∃ W5, W.alloc (.cells #[.int .i64 0, .int .i64 0, .int .i64 0, .int .i64 0, .int .i64 0, .int .i64 0, .int .i64 0, .int .i64 0, .int .i64 0] 57) = W5 := ⟨_, rfl⟩
  have hn : W5.heap[W.heap.size]? = some (.cells #[.int .i64 0, .int .i64 0, .int .i64 0, .int .i64 0, .int .i64 0, .int .i64 0, .int .i64 0, .int .i64 0, .int .i64 0] 57 (0, 0)) := by rw [← hW5]; exact heap_alloc_new W _
  have hB5 := hB.out (.cells #[.int .i64 0, .int .i64 0, .int .i64 0, .int .i64 0, .int .i64 0, .int .i64 0, .int .i64 0, .int .i64 0, .int .i64 0] 57)
  have d0 : W5.cell? ⟨W.heap.size, 0, none⟩ = some (.int .i64 0) := by simp [World.cell?, hn]
  have d1 : W5.cell? ⟨W.heap.size, 1, none⟩ = some (.int .i64 0) := by simp [World.cell?, hn]
  have d2 : W5.cell? ⟨W.heap.size, 2, none⟩ = some (.int .i64 0) := by simp [World.cell?, hn]
  have d3 : W5.cell? ⟨W.heap.size, 3, none⟩ = some (.int .i64 0) := by simp [World.cell?, hn]
  have d4 : W5.cell? ⟨W.heap.size, 4, none⟩ = some (.int .i64 0) := by simp [World.cell?, hn]
  have d5 : W5.cell? ⟨W.heap.size, 5, none⟩ = some (.int .i64 0) := by simp [World.cell?, hn]
  have d6 : W5.cell? ⟨W.heap.size, 6, none⟩ = some (.int .i64 0) := by simp [World.cell?, hn]
  have d7 : W5.cell? ⟨W.heap.size, 7, none⟩ = some (.int .i64 0) := by simp [World.cell?, hn]
  have d8 : W5.cell? ⟨W.heap.size, 8, none⟩ = some (.int .i64 0) := by simp [World.cell?, hn]
  rw [hW5] at hB5 ⊢
  refine bodyPost_ret (v := .tuple #[.agg #[.int .i64 0, .int .i64 0, .int .i64 0, .int .i64 0, .int .i64 0, .int .i64 0, .int .i64 0, .int .i64 0, .int .i64 0], .bool false]) (by simp [results, Try.f16, go_sem, d0, d1, d2, d3, d4, d5, d6, d7, d8]) rfl ⟨rfl, hB5⟩
theorem open_zero (h : W.cell? ⟨b, 0, none⟩ = some (.pointer none)) : Calls Try.prog 50 #[.pointer (some ⟨b, 0, none⟩)] W fun e w' => e = .returned (.bool false) ∧ w' = W := by
  go_enter Try.func50, Try.ntmps50
  go_wp2
  go_ret
  exact ⟨rfl, rfl⟩
theorem access_zero (h : W.cell? ⟨b, 0, none⟩ = some (.pointer none)) : Calls Try.prog 48 #[.pointer (some ⟨b, 0, none⟩)] W fun e w' => e = .returned (.bool false) ∧ w' = W := by
  have C := open_zero h
  go_enter Try.func48, Try.ntmps48
  go_wp2_with (go_at_call 50; refine C.mono ?_; clear C; rintro e w' ⟨rfl, hw⟩; obtain rfl := hw.symm)
  go_ret
  exact ⟨rfl, rfl⟩
theorem thread_zero (h : W.cell? ⟨b, 0, none⟩ = some (.pointer none)) : Calls Try.prog 21 #[.pointer (some ⟨b, 0, none⟩)] W fun e w' => e = .returned (.int .i64 0) ∧ w' = W := by
  have C := open_zero h
  go_enter Try.func21, Try.ntmps21
  go_wp2_with (go_at_call 50; refine C.mono ?_; clear C; rintro e w' ⟨rfl, hw⟩; obtain rfl := hw.symm)
  go_ret
  exact ⟨rfl, rfl⟩
theorem now_zero (h : W.cell? ⟨b, 0, none⟩ = some (.pointer none)) : Calls Try.prog 22 #[.pointer (some ⟨b, 0, none⟩)] W fun e w' => e = .returned (.int .i64 0) ∧ w' = W := by
  have C := open_zero h
  go_enter Try.func22, Try.ntmps22
  go_wp2_with (go_at_call 50; refine C.mono ?_; clear C; rintro e w' ⟨rfl, hw⟩; obtain rfl := hw.symm)
  go_ret
  exact ⟨rfl, rfl⟩
theorem load_zero (h : W.cell? ⟨b, 0, none⟩ = some (.pointer none)) (x : Int) : Calls Try.prog 23 #[.pointer (some ⟨b, 0, none⟩), .int .i64 x] W fun e w' => e = .returned (.int .u64 0) ∧ w' = W := by
  have C := access_zero h
  go_enter Try.func23, Try.ntmps23
  go_wp2_with (go_at_call 48; refine C.mono ?_; clear C; rintro e w' ⟨rfl, hw⟩; obtain rfl := hw.symm)
  go_ret
  exact ⟨rfl, rfl⟩
theorem store_zero (h : W.cell? ⟨b, 0, none⟩ = some (.pointer none)) (x y : Int) : Calls Try.prog 17 #[.pointer (some ⟨b, 0, none⟩), .int .i64 x, .int .u64 y] W fun e w' => e = .returned (.tuple #[]) ∧ w' = W := by
  have C := access_zero h
  go_enter Try.func17, Try.ntmps17
  go_wp2_with (go_at_call 48; refine C.mono ?_; clear C; rintro e w' ⟨rfl, hw⟩; obtain rfl := hw.symm)
  refine bodyPost_ret (v := .tuple #[]) (results_none rfl _ _ _) rfl ⟨rfl, rfl⟩
theorem swap_zero (h : W.cell? ⟨b, 0, none⟩ = some (.pointer none)) (x y z : Int) : Calls Try.prog 24 #[.pointer (some ⟨b, 0, none⟩), .int .i64 x, .int .u64 y, .int .u64 z] W fun e w' => e = .returned (.bool false) ∧ w' = W := by
  have C := access_zero h
  go_enter Try.func24, Try.ntmps24
  go_wp2_with (go_at_call 48; refine C.mono ?_; clear C; rintro e w' ⟨rfl, hw⟩; obtain rfl := hw.symm)
  go_ret
  exact ⟨rfl, rfl⟩
theorem shift_zero (h : W.cell? ⟨b, 0, none⟩ = some (.pointer none)) (x y z : Int) : Calls Try.prog 18 #[.pointer (some ⟨b, 0, none⟩), .int .i64 x, .int .i64 y, .int .i64 z] W fun e w' => e = .returned (.tuple #[]) ∧ w' = W := by
  have C := open_zero h
  go_enter Try.func18, Try.ntmps18
  go_wp2_with (go_at_call 50; refine C.mono ?_; clear C; rintro e w' ⟨rfl, hw⟩; obtain rfl := hw.symm)
  refine bodyPost_ret (v := .tuple #[]) (results_none rfl _ _ _) rfl ⟨rfl, rfl⟩
theorem point_zero (h : W.cell? ⟨b, 0, none⟩ = some (.pointer none)) (x : Int) : Calls Try.prog 19 #[.pointer (some ⟨b, 0, none⟩), .int .i64 x] W fun e w' => e = .returned (.tuple #[]) ∧ w' = W := by
  have C := open_zero h
  go_enter Try.func19, Try.ntmps19
  go_wp2_with (go_at_call 50; refine C.mono ?_; clear C; rintro e w' ⟨rfl, hw⟩; obtain rfl := hw.symm)
  go_end0
  exact ⟨rfl, rfl⟩
theorem answer_zero (h : W.cell? ⟨b, 0, none⟩ = some (.pointer none)) (hb : b < W.heap.size) (x y : Int) : Calls Try.prog 20 #[.pointer (some ⟨b, 0, none⟩), .agg #[.int .i64 x, .int .i64 y]] W fun e w' => e = .returned (.tuple #[]) ∧ Below W.heap.size W w' := by
  have C := fun (o : Obj) => open_zero (W := W.alloc o) (b := b) ((((Below.refl W.heap.size W).alloc (Nat.le_refl _) o).cell (p := ⟨b, 0, none⟩) hb).trans h)
  have hB := fun (o : Obj) => (Below.refl W.heap.size W).alloc (Nat.le_refl _) o
  replace hB := Mr.hid hB
  go_enter Try.func20, Try.ntmps20
  go_wp2_with (go_at_call 50; refine (C _).mono ?_; clear C; rintro e w' ⟨rfl, hw⟩; obtain rfl := hw.symm)
  go_end0
  exact ⟨rfl, hB.out _⟩
end
/-- The move's box and a zero machine. -/
structure Zb (w W : World) (x0 x1 x2 x3 : Int) : Prop where
  bel : Below w.heap.size w W
  m0 : W.heap[w.heap.size]? = some (.cells #[.int .i64 x0, .int .i64 x1, .int .i64 x2, .int .i64 x3] 39 (0, 0))
  m1 : W.heap[w.heap.size + 1]? = some (.cells #[.map none, .slice none 0 0, .int .i64 0, .pointer none] 47 (0, 0))
theorem Zb.below {w W W' : World} {x0 x1 x2 x3 : Int} (h : Zb w W x0 x1 x2 x3) (hB : Below W.heap.size W W') : Zb w W' x0 x1 x2 x3 :=
  have g : ∀ k o, W.heap[k]? = some o → W'.heap[k]? = some o := fun k _ hk => (hB.block k (Array.getElem?_eq_some_iff.1 hk).1).trans hk
  ⟨h.bel.trans (hB.mono h.bel.size), g _ _ h.m0, g _ _ h.m1⟩
theorem Zb.c {w W : World} {x0 x1 x2 x3 : Int} (h : Zb w W x0 x1 x2 x3) : (W.cell? ⟨w.heap.size, 0, none⟩ = some (.int .i64 x0) ∧ W.cell? ⟨w.heap.size, 1, none⟩ = some (.int .i64 x1) ∧ W.cell? ⟨w.heap.size, 2, none⟩ = some (.int .i64 x2) ∧ W.cell? ⟨w.heap.size, 3, none⟩ = some (.int .i64 x3)) ∧ W.cell? ⟨w.heap.size + 1, 2, none⟩ = some (.int .i64 0) ∧ W.cell? ⟨w.heap.size + 1, 3, none⟩ = some (.pointer none) ∧ w.heap.size + 1 < W.heap.size := by
  refine ⟨⟨?_, ?_, ?_, ?_⟩, ?_, ?_, (Array.getElem?_eq_some_iff.1 h.m1).1⟩ <;> simp [World.cell?, h.m0, h.m1]
/-- A zero desk at b. -/
structure Zd (w W : World) (b : Nat) : Prop where
  bel : Below w.heap.size w W
  d0 : W.heap[b]? = some (.cells #[.pointer none] 62 (0, 0))
theorem Zd.below {w W W' : World} {b : Nat} (h : Zd w W b) (hB : Below W.heap.size W W') : Zd w W' b :=
  ⟨h.bel.trans (hB.mono h.bel.size), (hB.block b (Array.getElem?_eq_some_iff.1 h.d0).1).trans h.d0⟩
theorem Zd.c {w W : World} {b : Nat} (h : Zd w W b) : W.cell? ⟨b, 0, none⟩ = some (.pointer none) ∧ b < W.heap.size := ⟨by simp [World.cell?, h.d0], (Array.getElem?_eq_some_iff.1 h.d0).1⟩
set_option maxRecDepth 100000 in
set_option maxHeartbeats 2000000 in
theorem zero_walk (w : World) (x0 x1 x2 x3 ad y : Int) :
    Calls Try.prog 4 #[.agg #[.int .i64 x0, .int .i64 x1, .int .i64 x2, .int .i64 x3], .int .i64 ad, .int .u64 y] w fun e w' => e = .returned (.bool true) ∧ Below w.heap.size w w' := by
  have Z0 : Zb w ((w.alloc (.cells #[.int .i64 x0, .int .i64 x1, .int .i64 x2, .int .i64 x3] 39)).alloc (.cells #[.map none, .slice none 0 0, .int .i64 0, .pointer none] 47)) x0 x1 x2 x3 := by
    refine ⟨((Below.refl w.heap.size w).alloc (Nat.le_refl _) _).alloc (by simp) _, ?_, ?_⟩
    · rw [((Below.refl _ _).alloc (Nat.le_refl _) _).block _ (by simp)]
      exact heap_alloc_new w _
    · have := heap_alloc_new (w.alloc (.cells #[.int .i64 x0, .int .i64 x1, .int .i64 x2, .int .i64 x3] 39)) (.cells #[.map none, .slice none 0 0, .int .i64 0, .pointer none] 47)
      simpa using this
  replace Z0 := Mr.hid Z0
  go_enter Try.func4, Try.ntmps4
  go_upto_region 7 with (first
    | (go_at_call 11; refine (move_zero Z0.out.c.2.2.1 Z0.out.c.2.2.2 x0 x1 x2 x3).mono ?_; rintro e w1 ⟨rfl, hB1⟩; have Z1 := Z0.out.below hB1; clear Z0 hB1; obtain ⟨⟨c0, c1, c2, c3⟩, c4, c5, c6⟩ := Z1.c; replace Z1 := Mr.hid Z1)
    | (go_at_call 12; refine (busy_zero c5 x0).mono ?_; rintro e w' ⟨rfl, hw⟩; obtain rfl := hw.symm)
    | (go_at_call 13; refine (moves_zero c4).mono ?_; rintro e w' ⟨rfl, hw⟩; obtain rfl := hw.symm)
    | (go_at_call 15; refine (run_zero c5 c6).mono ?_; rintro e w2 ⟨rfl, hB2⟩; have Z2 := Z1.out.below hB2; clear Z1 hB2 c0 c1 c2 c3 c4 c5 c6; replace Z2 := Mr.hid Z2)
    | (go_at_call 14; refine (empty_zero _).mono ?_; rintro e w3 ⟨rfl, hB3⟩; have Z3 := Z2.out.below hB3; clear Z2 hB3; obtain ⟨⟨c0, c1, c2, c3⟩, c4, c5, c6⟩ := Z3.c; replace Z3 := Mr.hid Z3)
    | (go_at_call 16; refine (call_zero c5 c6 x0).mono ?_; rintro e w4 ⟨rfl, hB4⟩; have Z4 := Z3.out.below hB4; clear Z3 hB4 c0 c1 c2 c3 c4 c5 c6; replace Z4 := Mr.hid Z4))
  have D0 : Zd w ((w4.alloc (.cells #[.int .i64 0, .int .i64 0, .int .i64 0, .int .i64 0, .int .i64 0, .int .i64 0, .int .i64 0, .int .i64 0, .int .i64 0] 57)).alloc (.cells #[.pointer none] 62)) (w4.heap.size + 1) := by
    refine ⟨(Z4.out.bel.trans ((Below.refl w4.heap.size w4).mono Z4.out.bel.size)).alloc Z4.out.bel.size _ |>.alloc (by simp; have := Z4.out.bel.size; omega) _, ?_⟩
    have := heap_alloc_new (w4.alloc (.cells #[.int .i64 0, .int .i64 0, .int .i64 0, .int .i64 0, .int .i64 0, .int .i64 0, .int .i64 0, .int .i64 0, .int .i64 0] 57)) (.cells #[.pointer none] 62)
    simpa using this
  obtain ⟨d0, d1⟩ := D0.c
  replace D0 := Mr.hid D0
  obtain ⟨W7, hW7⟩ : ∃ W7, (w4.alloc (.cells #[.int .i64 0, .int .i64 0, .int .i64 0, .int .i64 0, .int .i64 0, .int .i64 0, .int .i64 0, .int .i64 0, .int .i64 0] 57)).alloc (.cells #[.pointer none] 62) = W7 := ⟨_, rfl⟩
  rw [hW7] at D0 d0 d1
  go_upto_region 8 with fail
  clear hW7 Z4
  generalize w4.heap.size + 1 = bd at *
  go_wp2_with (first
    | (go_at_call 17; refine (store_zero d0 ad y).mono ?_; rintro e w' ⟨rfl, hw⟩; obtain rfl := hw.symm)
    | (go_at_call 18; refine (shift_zero d0 ad 0 2).mono ?_; rintro e w' ⟨rfl, hw⟩; obtain rfl := hw.symm)
    | (go_at_call 19; refine (point_zero d0 ad).mono ?_; rintro e w' ⟨rfl, hw⟩; obtain rfl := hw.symm)
    | (go_at_call 20; refine (answer_zero d0 d1 1 0).mono ?_; rintro e w8 ⟨rfl, hB8⟩; have D8 := D0.out.below hB8; clear D0 hB8 d0 d1; obtain ⟨d0, d1⟩ := D8.c; replace D8 := Mr.hid D8)
    | (go_at_call 21; refine (thread_zero d0).mono ?_; rintro e w' ⟨rfl, hw⟩; obtain rfl := hw.symm)
    | (go_at_call 22; refine (now_zero d0).mono ?_; rintro e w' ⟨rfl, hw⟩; obtain rfl := hw.symm)
    | (go_at_call 23; refine (load_zero d0 ad).mono ?_; rintro e w' ⟨rfl, hw⟩; obtain rfl := hw.symm)
    | (go_at_call 24; refine (swap_zero d0 ad 0 y).mono ?_; rintro e w' ⟨rfl, hw⟩; obtain rfl := hw.symm)
    | (go_at_call 25; refine (awake_any _).mono ?_; rintro e w9 ⟨rfl, hB9⟩; have D9 := D8.out.below hB9; clear D8 hB9 d0 d1; replace D9 := Mr.hid D9))
  go_ret
  exact ⟨rfl, D9.out.bel⟩
theorem zero_law (x0 x1 x2 x3 ad y : Int) (w : World) {p q : Prop} (_ : p) (_ : q) : Calls Try.prog 4 #[.agg #[.int .i64 x0, .int .i64 x1, .int .i64 x2, .int .i64 x3], .int .i64 ad, .int .u64 y] w fun e w' => e = .returned (.bool true) ∧ Below w.heap.size w w' := zero_walk w x0 x1 x2 x3 ad y
end Go.Proofs.Ytiobchadjcekcab.Ma
