import Derived.Test.YtkimmfdicohoiaaGreatJ38
import Derived.Test.YtkimmfdicohoiaaGreatJ39
import Derived.Deep.LoopGhost
import Derived.LoopN
import Derived.BigQuiet
import Derived.Deep.RegionHeld3
import Derived.Test.YtkimmfdicohoiaaGreatJ44
/-
  AN ARENA THAT IS NOT THERE, and one that New did not make.
-/
namespace Go.Proofs.YtkimmfdicohoiaaGreat.Ar
open Go.RowKit Go.Shelf Mr Me Ma Wc Wm Wr
set_option linter.unusedVariables false
def zaO : Obj := .cells #[.int .i64 0, .int .i64 0, .int .i64 0, .int .i64 0, .int .i64 0, .int .i64 0, .int .i64 0, .slice none 0 0, .slice none 0 0] 62
/-- No arena, or a zero one. -/
def Za (W : World) (v : Value) : Prop := v = .pointer none ∨ ∃ b, v = .pointer (some ⟨b, 0, none⟩) ∧ W.heap[b]? = some zaO
theorem Za.below {W W' : World} {v : Value} (h : Za W v) (hB : Below W.heap.size W W') : Za W' v := by
  rcases h with h | ⟨b, h1, h2⟩
  · exact .inl h
  · exact .inr ⟨b, h1, (hB.block b (Array.getElem?_eq_some_iff.1 h2).1).trans h2⟩
theorem za_cells {W : World} {b : Nat} (h : W.heap[b]? = some zaO) : W.cell? ⟨b, 0, none⟩ = some (.int .i64 0) ∧ W.cell? ⟨b, 1, none⟩ = some (.int .i64 0) ∧ W.cell? ⟨b, 2, none⟩ = some (.int .i64 0) ∧ W.cell? ⟨b, 3, none⟩ = some (.int .i64 0) ∧ W.cell? ⟨b, 4, none⟩ = some (.int .i64 0) ∧ W.cell? ⟨b, 5, none⟩ = some (.int .i64 0) ∧ W.cell? ⟨b, 6, none⟩ = some (.int .i64 0) ∧ W.cell? ⟨b, 7, none⟩ = some (.slice none 0 0) ∧ W.cell? ⟨b, 8, none⟩ = some (.slice none 0 0) := by
  unfold zaO at h
  simp [World.cell?, h]
theorem hasSlot_z {W : World} {v : Value} (h : Za W v) (s : Int) : Calls Tryz.prog 66 #[v, .int .i64 s] W fun e w' => e = .returned (.bool false) ∧ w' = W := by
  rcases h with rfl | ⟨b, rfl, hb⟩
  · go_enter Tryz.func66, Tryz.ntmps66
    go_wp2
    go_ret
    exact ⟨rfl, rfl⟩
  · obtain ⟨_, _, _, _, _, _, _, x7, x8⟩ := za_cells hb
    by_cases h0 : 0 ≤ s
    · have d0 : decide (s < 0) = false := by simp; omega
      have d1 : decide ((0 : Int) ≤ s) = true := by simp; omega
      go_enter Tryz.func66, Tryz.ntmps66
      go_wp2
      go_ret
      exact ⟨rfl, rfl⟩
    · have d1 : decide ((0 : Int) ≤ s) = false := by simp; omega
      go_enter Tryz.func66, Tryz.ntmps66
      go_wp2
      go_ret
      exact ⟨rfl, rfl⟩
theorem hasThread_z {W : World} {v : Value} (h : Za W v) (s : Int) : Calls Tryz.prog 69 #[v, .int .i64 s] W fun e w' => e = .returned (.bool false) ∧ w' = W := by
  rcases h with rfl | ⟨b, rfl, hb⟩
  · go_enter Tryz.func69, Tryz.ntmps69
    go_wp2
    go_ret
    exact ⟨rfl, rfl⟩
  · obtain ⟨_, _, _, _, _, _, _, x7, x8⟩ := za_cells hb
    by_cases h0 : 0 ≤ s
    · have d0 : decide (s < 0) = false := by simp; omega
      have d1 : decide ((0 : Int) ≤ s) = true := by simp; omega
      go_enter Tryz.func69, Tryz.ntmps69
      go_wp2
      go_ret
      exact ⟨rfl, rfl⟩
    · have d1 : decide ((0 : Int) ≤ s) = false := by simp; omega
      go_enter Tryz.func69, Tryz.ntmps69
      go_wp2
      go_ret
      exact ⟨rfl, rfl⟩
theorem made_z {W : World} {v : Value} (h : Za W v) : Calls Tryz.prog 48 #[v] W fun e w' => e = .returned (.bool false) ∧ w' = W := by
  rcases h with rfl | ⟨b, rfl, hb⟩
  · go_enter Tryz.func48, Tryz.ntmps48
    go_wp2
    go_ret
    exact ⟨rfl, rfl⟩
  · obtain ⟨_, _, _, _, _, _, _, x7, x8⟩ := za_cells hb
    go_enter Tryz.func48, Tryz.ntmps48
    go_wp2
    go_ret
    exact ⟨rfl, rfl⟩
theorem shift_z {W : World} {v : Value} (h : Za W v) (s k : Int) : Calls Tryz.prog 22 #[v, .pointer none, .int .i64 s, .int .i64 k] W fun e w' => e = .returned (.tuple #[]) ∧ w' = W := by
  have H := hasSlot_z h s
  go_enter Tryz.func22, Tryz.ntmps22
  go_wp2_with (go_at_call 66; refine H.mono ?_; clear H; rintro e w1 ⟨rfl, rfl⟩)
  refine bodyPost_ret (results_none rfl _ _ _) rfl ?_
  exact ⟨rfl, rfl⟩
theorem state_z {W : World} {v : Value} (h : Za W v) (s : Int) : Calls Tryz.prog 23 #[v, .int .i64 s] W fun e w' => e = .returned (.tuple #[.int .i64 0, .int .i64 0, .int .i64 2]) ∧ w' = W := by
  have H := hasSlot_z h s
  go_enter Tryz.func23, Tryz.ntmps23
  go_wp2_with (go_at_call 66; refine H.mono ?_; clear H; rintro e w1 ⟨rfl, rfl⟩)
  go_ret3
  exact ⟨rfl, rfl⟩
theorem cached_z {W : World} {v : Value} (h : Za W v) (s : Int) : Calls Tryz.prog 25 #[v, .int .i64 s] W fun e w' => e = .returned (.slice none 0 0) ∧ w' = W := by
  have H := hasThread_z h s
  go_enter Tryz.func25, Tryz.ntmps25
  go_wp2_with (go_at_call 69; refine H.mono ?_; clear H; rintro e w1 ⟨rfl, rfl⟩)
  go_ret
  exact ⟨rfl, rfl⟩
theorem config_z {W : World} {v : Value} (h : Za W v) : Calls Tryz.prog 24 #[v] W fun e w' => e = .returned (.agg #[.int .i64 0, .int .i64 0, .int .i64 0, .int .i64 0, .int .i64 0, .int .i64 0, .int .i64 0]) ∧ Below W.heap.size W w' := by
  rcases h with rfl | ⟨b, rfl, hb⟩
  · go_enter Tryz.func24, Tryz.ntmps24
    go_wp2
    refine bodyPost_ret (v := .agg #[.int .i64 0, .int .i64 0, .int .i64 0, .int .i64 0, .int .i64 0, .int .i64 0, .int .i64 0]) (by simp [results, Tryz.results24, go_sem]) rfl ⟨rfl, ?_⟩
    exact (Below.refl _ _).alloc (Nat.le_refl _) _
  · obtain ⟨x0, x1, x2, x3, x4, x5, x6, x7, x8⟩ := za_cells hb
    have hl := (Array.getElem?_eq_some_iff.1 hb).1
    go_enter Tryz.func24, Tryz.ntmps24
    go_wp2
    refine bodyPost_ret (v := .agg #[.int .i64 0, .int .i64 0, .int .i64 0, .int .i64 0, .int .i64 0, .int .i64 0, .int .i64 0]) (by simp [results, Tryz.results24, go_sem]) rfl ⟨rfl, ?_⟩
    exact (Below.refl _ _).alloc (Nat.le_refl _) _
theorem count_z {W : World} {v : Value} (h : Za W v) (k : Int) : Calls Tryz.prog 26 #[v, .int .i64 k] W fun e w' => e = .returned (.int .i64 0) ∧ w' = W := by
  rcases h with rfl | ⟨b, rfl, hb⟩
  · go_enter Tryz.func26, Tryz.ntmps26
    go_wp2
    go_ret
    exact ⟨rfl, rfl⟩
  · obtain ⟨x0, x1, x2, x3, x4, x5, x6, x7, x8⟩ := za_cells hb
    go_enter Tryz.func26, Tryz.ntmps26
    go_wp2
    refine wp_loop_rounds 1 ?_
    rw [rounds_succ]
    go_wp2
    go_ret
    exact ⟨rfl, rfl⟩
set_option maxRecDepth 100000 in
set_option maxHeartbeats 1000000 in
theorem kit_z {W : World} {v : Value} (h : Za W v) : Calls Tryz.prog 15 #[v] W fun e w' => ∃ m, e = .returned (.map (some m)) ∧ w'.heap[m]? = some (.map #[] 0) ∧ Below W.heap.size W w' := by
  have H := fun o => made_z (h.below ((Below.refl W.heap.size W).alloc (Nat.le_refl _) o))
  have hB : ∀ o p, Below W.heap.size W ((W.alloc o).alloc p) ∧ ((W.alloc o).alloc p).heap[W.heap.size + 1]? = some p := fun o p => ⟨((Below.refl _ _).alloc (Nat.le_refl _) _).alloc (by simp) _, by have := heap_alloc_new (W.alloc o) p; rwa [World.size_alloc] at this⟩
  have m0 := fun o => run_makeMap (W.alloc o)
  rcases h with rfl | ⟨b, rfl, hb⟩
  all_goals
    go_enter Tryz.func15, Tryz.ntmps15
    go_wp2_with (go_at_call 48; refine (H _).mono ?_; clear H; rintro e w1 ⟨rfl, rfl⟩)
    go_ret
    exact ⟨_, rfl, (hB _ _).2, (hB _ _).1⟩
theorem take_z {W : World} {v : Value} (h : Za W v) (i : Int) : Calls Tryz.prog 27 #[v, .int .i64 i] W fun e w' => e = .returned (.pointer (some ⟨W.heap.size, 0, none⟩)) ∧ w' = W.alloc (.cells #[.pointer none, .int .i64 0, .int .i64 0, .int .i64 0, .int .u64 0, .int .u64 0, .bool false] 150) := by
  have H := made_z h
  go_enter Tryz.func27, Tryz.ntmps27
  go_wp2_with (go_at_call 48; refine H.mono ?_; clear H; rintro e w1 ⟨rfl, rfl⟩)
  go_ret
  exact ⟨rfl, rfl⟩
theorem give_z {W : World} {v : Value} (h : Za W v) (i s : Int) : Calls Tryz.prog 28 #[v, .int .i64 i, .int .i64 s] W fun e w' => e = .returned (.pointer (some ⟨W.heap.size, 0, none⟩)) ∧ w' = W.alloc (.cells #[.pointer none, .int .i64 0, .int .i64 0, .int .i64 0, .int .u64 0, .int .i64 0] 154) := by
  have H := hasSlot_z h s
  go_enter Tryz.func28, Tryz.ntmps28
  go_wp2_with (go_at_call 66; refine H.mono ?_; clear H; rintro e w1 ⟨rfl, rfl⟩)
  go_ret
  exact ⟨rfl, rfl⟩
theorem flush_z {W : World} {v : Value} (h : Za W v) (i : Int) : Calls Tryz.prog 29 #[v, .int .i64 i] W fun e w' => ∃ b, e = .returned (.pointer (some ⟨b, 0, none⟩)) ∧ W.heap.size ≤ b ∧ Below W.heap.size W w' ∧ w'.heap[b]? = some (.cells #[v, .int .i64 i, .int .i64 0, .int .i64 3, .int .u64 0, .int .i64 4] 155 (0, 0)) := by
  have hB : ∀ o p, Below W.heap.size W ((W.alloc o).alloc p) ∧ ((W.alloc o).alloc p).heap[W.heap.size + 1]? = some p := fun o p => ⟨((Below.refl _ _).alloc (Nat.le_refl _) _).alloc (by simp) _, by have := heap_alloc_new (W.alloc o) p; rwa [World.size_alloc] at this⟩
  rcases h with rfl | ⟨b, rfl, hb⟩
  all_goals
    go_enter Tryz.func29, Tryz.ntmps29
    go_wp2
    go_ret
    exact ⟨_, rfl, Nat.le_succ _, (hB _ _).1, (hB _ _).2⟩
theorem last_z {W : World} {v : Value} (h : Za W v) (i : Int) : Calls Tryz.prog 97 #[v, .int .i64 i] W fun e w' => e = .returned (.int .i64 (-1)) ∧ w' = W := by
  have H := hasThread_z h i
  go_enter Tryz.func97, Tryz.ntmps97
  go_wp2_with (go_at_call 69; refine H.mono ?_; clear H; rintro e w1 ⟨rfl, rfl⟩)
  go_ret
  exact ⟨rfl, rfl⟩
theorem readying_z (W : World) : Calls Tryz.prog 72 #[.pointer none] W fun e w' => e = .returned (.agg #[.pointer none, .int .i64 0]) ∧ Below W.heap.size W w' := by
  go_enter Tryz.func72, Tryz.ntmps72
  go_wp2
  refine bodyPost_ret (v := .agg #[.pointer none, .int .i64 0]) (by simp [results, Tryz.results72, go_sem]) rfl ⟨rfl, ?_⟩
  exact (Below.refl _ _).alloc (Nat.le_refl _) _
theorem stepping_z (W : World) : Calls Tryz.prog 73 #[.pointer none] W fun e w' => e = .returned (.agg #[.pointer none, .int .i64 1]) ∧ Below W.heap.size W w' := by
  go_enter Tryz.func73, Tryz.ntmps73
  go_wp2
  refine bodyPost_ret (v := .agg #[.pointer none, .int .i64 1]) (by simp [results, Tryz.results73, go_sem]) rfl ⟨rfl, ?_⟩
  exact (Below.refl _ _).alloc (Nat.le_refl _) _
def tkZ : Obj := .cells #[.pointer none, .int .i64 0, .int .i64 0, .int .i64 0, .int .u64 0, .int .u64 0, .bool false] 150
set_option maxRecDepth 100000 in
set_option maxHeartbeats 1000000 in
theorem trun_z {W : World} {bt : Nat} {a : Value} (x : Int) (ha : a = .pointer none ∨ ∃ b, a = .pointer (some ⟨b, 0, none⟩)) (h0 : W.cell? ⟨bt, 0, none⟩ = some a) (h3 : W.cell? ⟨bt, 3, none⟩ = some (.int .i64 0)) (hl : bt < W.heap.size) : Calls Tryz.prog 71 #[.pointer (some ⟨bt, 0, none⟩), .agg #[.pointer none, .int .i64 x]] W fun e w' => e = .returned (.bool true) ∧ Below W.heap.size W w' := by
  have c0 : ∀ o, (W.alloc o).cell? ⟨bt, 0, none⟩ = some a := fun o => by rw [World.cell?_alloc_past _ _ _ hl]; exact h0
  have c3 : ∀ o, (W.alloc o).cell? ⟨bt, 3, none⟩ = some (.int .i64 0) := fun o => by rw [World.cell?_alloc_past _ _ _ hl]; exact h3
  rcases ha with rfl | ⟨b, rfl⟩
  all_goals
    go_enter Tryz.func71, Tryz.ntmps71
    go_wp2
    go_step3
    go_wp2
    go_step3
    go_wp2
    refine wp_loop_rounds 1 ?_
    rw [rounds_succ]
    go_wp2
    dsimp only [Exit.noGoto]
    go_ret
    exact ⟨rfl, (Below.refl _ _).alloc (Nat.le_refl _) _⟩
set_option maxRecDepth 100000 in
set_option maxHeartbeats 1000000 in
theorem prun_z {W : World} {bt : Nat} {a : Value} (x : Int) (ha : a = .pointer none ∨ ∃ b, a = .pointer (some ⟨b, 0, none⟩)) (h0 : W.cell? ⟨bt, 0, none⟩ = some a) (h3 : W.cell? ⟨bt, 3, none⟩ = some (.int .i64 0)) (hl : bt < W.heap.size) : Calls Tryz.prog 74 #[.pointer (some ⟨bt, 0, none⟩), .agg #[.pointer none, .int .i64 x]] W fun e w' => e = .returned (.bool true) ∧ Below W.heap.size W w' := by
  have c0 : ∀ o, (W.alloc o).cell? ⟨bt, 0, none⟩ = some a := fun o => by rw [World.cell?_alloc_past _ _ _ hl]; exact h0
  have c3 : ∀ o, (W.alloc o).cell? ⟨bt, 3, none⟩ = some (.int .i64 0) := fun o => by rw [World.cell?_alloc_past _ _ _ hl]; exact h3
  rcases ha with rfl | ⟨b, rfl⟩
  all_goals
    go_enter Tryz.func74, Tryz.ntmps74
    go_wp2
    go_step3
    go_wp2
    go_step3
    go_wp2
    refine wp_loop_rounds 1 ?_
    rw [rounds_succ]
    go_wp2
    dsimp only [Exit.noGoto]
    go_ret
    exact ⟨rfl, (Below.refl _ _).alloc (Nat.le_refl _) _⟩
set_option maxRecDepth 100000 in
set_option maxHeartbeats 1000000 in
theorem frun_z {W : World} {bt : Nat} {v : Value} {i : Int} (h : Za W v) (hb : W.heap[bt]? = some (.cells #[v, .int .i64 i, .int .i64 0, .int .i64 3, .int .u64 0, .int .i64 4] 155 (0, 0))) : Calls Tryz.prog 74 #[.pointer (some ⟨bt, 0, none⟩), .agg #[.pointer none, .int .i64 0]] W fun e w' => e = .returned (.bool true) ∧ Fr W w' (fun k => k = bt) ∧ w'.heap[bt]? = some (.cells #[v, .int .i64 i, .int .i64 (-1), .int .i64 0, .int .u64 0, .int .i64 4] 155 (0, 0)) := by
  have hl := (Array.getElem?_eq_some_iff.1 hb).1
  have ne : bt ≠ W.heap.size := by omega
  have ne' := ne.symm
  obtain ⟨V, hV⟩ : ∃ V, W.alloc (.cells #[.pointer none, .int .i64 0] 158) = V := ⟨_, rfl⟩
  have hBV : Below W.heap.size W V := by rw [← hV]; exact (Below.refl _ _).alloc (Nat.le_refl _) _
  have hbV : V.heap[bt]? = some (.cells #[v, .int .i64 i, .int .i64 0, .int .i64 3, .int .u64 0, .int .i64 4] 155 (0, 0)) := (hBV.block bt hl).trans hb
  have x0 : V.cell? ⟨bt, 0, none⟩ = some v := by simp [World.cell?, hbV]
  have x1 : V.cell? ⟨bt, 1, none⟩ = some (.int .i64 i) := by simp [World.cell?, hbV]
  have x2 : V.cell? ⟨bt, 2, none⟩ = some (.int .i64 0) := by simp [World.cell?, hbV]
  have x3 : V.cell? ⟨bt, 3, none⟩ = some (.int .i64 3) := by simp [World.cell?, hbV]
  have xf : ∀ j, V.frozen? ⟨bt, j, none⟩ = false := fun j => by simp [World.frozen?, hbV]
  have hzV := h.below hBV
  have hz1 : Za (V.setCell ⟨bt, 3, none⟩ (.int .i64 5)) v := by
    rcases hzV with hz | ⟨b, hz1, hz2⟩
    · exact .inl hz
    · refine .inr ⟨b, hz1, (Below.heap_setCell _ _ _ b (fun e => ?_)).trans hz2⟩
      have e' : b = bt := e
      rw [e', hbV] at hz2
      unfold zaO at hz2
      simp at hz2
  have L := last_z hz1 i
  have fin : ∀ w', w' = (((V.setCell ⟨bt, 3, none⟩ (.int .i64 5)).setCell ⟨bt, 2, none⟩ (.int .i64 (-1))).setCell ⟨bt, 3, none⟩ (.int .i64 0)) → Fr W w' (fun k => k = bt) ∧ w'.heap[bt]? = some (.cells #[v, .int .i64 i, .int .i64 (-1), .int .i64 0, .int .u64 0, .int .i64 4] 155 (0, 0)) := fun w' e => by
    subst e
    refine ⟨(((Fr.of_below (S := fun k => k = bt) hBV).setCell ⟨bt, 3, none⟩ (.int .i64 5) (.inl rfl)).setCell ⟨bt, 2, none⟩ (.int .i64 (-1)) (.inl rfl)).setCell ⟨bt, 3, none⟩ (.int .i64 0) (.inl rfl), ?_⟩
    rw [setBlk (setBlk (setBlk hbV 3 _) 2 _) 3 _]
    rfl
  have hv : v = .pointer none ∨ ∃ b, v = .pointer (some ⟨b, 0, none⟩) := by rcases h with h | ⟨b, h, _⟩; exact .inl h; exact .inr ⟨b, h⟩
  replace L := Mr.hid L
  replace fin := Mr.hid fin
  clear h hb hBV hbV hzV hz1
  rcases hv with rfl | ⟨b, rfl⟩
  all_goals
    go_enter Tryz.func74, Tryz.ntmps74
    go_wp2
    go_step3
    go_wp2
    go_step3
    go_wp2
    refine wp_loop_rounds 2 ?_
    rw [rounds_succ]
    go_wp2_with (go_at_call 97; refine L.out.mono ?_; clear L; rintro e w1 ⟨rfl, hw⟩; obtain rfl := hw.symm)
    rw [rounds_succ]
    go_wp2
    dsimp only [Exit.noGoto]
    go_ret
    exact ⟨rfl, fin.out _ rfl⟩
theorem tready_z {W : World} {bt : Nat} {Q : World → Prop} (C : ∀ w, Below W.heap.size W w → Calls Tryz.prog 71 #[.pointer (some ⟨bt, 0, none⟩), .agg #[.pointer none, .int .i64 0]] w fun e w' => e = .returned (.bool true) ∧ Q w') :
    Calls Tryz.prog 30 #[.pointer (some ⟨bt, 0, none⟩), .pointer none] W fun e w' => e = .returned (.bool true) ∧ Q w' := by
  have R := readying_z W
  replace C := Mr.hid C
  go_enter Tryz.func30, Tryz.ntmps30
  go_wp2_with (first | (go_at_call 72; refine R.mono ?_; clear R; rintro e w1 ⟨rfl, hB⟩; have C1 := C.out w1 hB; clear C) | (go_at_call 71; refine C1.mono ?_; clear C1; rintro e w2 ⟨rfl, h2⟩))
  go_ret
  exact ⟨rfl, h2⟩
theorem tstep_z {W : World} {bt : Nat} {Q : World → Prop} (C : ∀ w, Below W.heap.size W w → Calls Tryz.prog 71 #[.pointer (some ⟨bt, 0, none⟩), .agg #[.pointer none, .int .i64 1]] w fun e w' => e = .returned (.bool true) ∧ Q w') :
    Calls Tryz.prog 31 #[.pointer (some ⟨bt, 0, none⟩), .pointer none] W fun e w' => e = .returned (.bool true) ∧ Q w' := by
  have R := stepping_z W
  replace C := Mr.hid C
  go_enter Tryz.func31, Tryz.ntmps31
  go_wp2_with (first | (go_at_call 73; refine R.mono ?_; clear R; rintro e w1 ⟨rfl, hB⟩; have C1 := C.out w1 hB; clear C) | (go_at_call 71; refine C1.mono ?_; clear C1; rintro e w2 ⟨rfl, h2⟩))
  go_ret
  exact ⟨rfl, h2⟩
theorem gready_z {W : World} {bt : Nat} {Q : World → Prop} (C : ∀ w, Below W.heap.size W w → Calls Tryz.prog 74 #[.pointer (some ⟨bt, 0, none⟩), .agg #[.pointer none, .int .i64 0]] w fun e w' => e = .returned (.bool true) ∧ Q w') :
    Calls Tryz.prog 33 #[.pointer (some ⟨bt, 0, none⟩), .pointer none] W fun e w' => e = .returned (.bool true) ∧ Q w' := by
  have R := readying_z W.drew
  replace C := Mr.hid C
  replace R := Mr.hid R
  go_enter Tryz.func33, Tryz.ntmps33
  go_wp2
  go_region_held3 (fun _ => True) (trivial)
    (first | (go_at_call 72; refine R.out.mono ?_; clear R; rintro e w1 ⟨rfl, hB⟩; have C1 := C.out w1 ((Below.refl _ _).drew.trans (hB.mono (by simp))); replace C1 := Mr.hid C1) | (go_at_call 74; refine C1.out.mono ?_; clear C1; rintro e w2 ⟨rfl, h2⟩))
  go_wp2
  go_ret
  exact ⟨rfl, h2⟩
theorem gstep_z {W : World} {bt : Nat} {Q : World → Prop} (C : ∀ w, Below W.heap.size W w → Calls Tryz.prog 74 #[.pointer (some ⟨bt, 0, none⟩), .agg #[.pointer none, .int .i64 1]] w fun e w' => e = .returned (.bool true) ∧ Q w') :
    Calls Tryz.prog 34 #[.pointer (some ⟨bt, 0, none⟩), .pointer none] W fun e w' => e = .returned (.bool true) ∧ Q w' := by
  have R := stepping_z W.drew
  replace C := Mr.hid C
  replace R := Mr.hid R
  go_enter Tryz.func34, Tryz.ntmps34
  go_wp2
  go_region_held3 (fun _ => True) (trivial)
    (first | (go_at_call 73; refine R.out.mono ?_; clear R; rintro e w1 ⟨rfl, hB⟩; have C1 := C.out w1 ((Below.refl _ _).drew.trans (hB.mono (by simp))); replace C1 := Mr.hid C1) | (go_at_call 74; refine C1.out.mono ?_; clear C1; rintro e w2 ⟨rfl, h2⟩))
  go_wp2
  go_ret
  exact ⟨rfl, h2⟩
theorem fready_z {W : World} {bt : Nat} {Q : World → Prop} (C : ∀ w, Below W.heap.size W w → Calls Tryz.prog 74 #[.pointer (some ⟨bt, 0, none⟩), .agg #[.pointer none, .int .i64 0]] w fun e w' => e = .returned (.bool true) ∧ Q w') :
    Calls Tryz.prog 35 #[.pointer (some ⟨bt, 0, none⟩), .pointer none] W fun e w' => e = .returned (.bool true) ∧ Q w' := by
  have R := readying_z W.drew
  replace C := Mr.hid C
  replace R := Mr.hid R
  go_enter Tryz.func35, Tryz.ntmps35
  go_wp2
  go_region_held3 (fun _ => True) (trivial)
    (first | (go_at_call 72; refine R.out.mono ?_; clear R; rintro e w1 ⟨rfl, hB⟩; have C1 := C.out w1 ((Below.refl _ _).drew.trans (hB.mono (by simp))); replace C1 := Mr.hid C1) | (go_at_call 74; refine C1.out.mono ?_; clear C1; rintro e w2 ⟨rfl, h2⟩))
  go_wp2
  go_ret
  exact ⟨rfl, h2⟩
theorem fstep_z {W : World} {bt : Nat} {Q : World → Prop} (C : ∀ w, Below W.heap.size W w → Calls Tryz.prog 74 #[.pointer (some ⟨bt, 0, none⟩), .agg #[.pointer none, .int .i64 1]] w fun e w' => e = .returned (.bool true) ∧ Q w') :
    Calls Tryz.prog 36 #[.pointer (some ⟨bt, 0, none⟩), .pointer none] W fun e w' => e = .returned (.bool true) ∧ Q w' := by
  have R := stepping_z W.drew
  replace C := Mr.hid C
  replace R := Mr.hid R
  go_enter Tryz.func36, Tryz.ntmps36
  go_wp2
  go_region_held3 (fun _ => True) (trivial)
    (first | (go_at_call 73; refine R.out.mono ?_; clear R; rintro e w1 ⟨rfl, hB⟩; have C1 := C.out w1 ((Below.refl _ _).drew.trans (hB.mono (by simp))); replace C1 := Mr.hid C1) | (go_at_call 74; refine C1.out.mono ?_; clear C1; rintro e w2 ⟨rfl, h2⟩))
  go_wp2
  go_ret
  exact ⟨rfl, h2⟩
theorem tready_n (W : World) : Calls Tryz.prog 30 #[.pointer none, .pointer none] W fun e w' => e = .returned (.bool true) ∧ Below W.heap.size W w' := by
  go_enter Tryz.func30, Tryz.ntmps30
  go_wp2
  first
    | (go_ret; exact ⟨rfl, Below.refl _ _⟩)
    | (go_quiet (fail); go_wp2; go_ret; exact ⟨rfl, Bx.draws _ _ _⟩)
theorem tstep_n (W : World) : Calls Tryz.prog 31 #[.pointer none, .pointer none] W fun e w' => e = .returned (.bool true) ∧ Below W.heap.size W w' := by
  go_enter Tryz.func31, Tryz.ntmps31
  go_wp2
  first
    | (go_ret; exact ⟨rfl, Below.refl _ _⟩)
    | (go_quiet (fail); go_wp2; go_ret; exact ⟨rfl, Bx.draws _ _ _⟩)
theorem gready_n (W : World) : Calls Tryz.prog 33 #[.pointer none, .pointer none] W fun e w' => e = .returned (.bool true) ∧ Below W.heap.size W w' := by
  go_enter Tryz.func33, Tryz.ntmps33
  go_wp2
  first
    | (go_ret; exact ⟨rfl, Below.refl _ _⟩)
    | (go_quiet (fail); go_wp2; go_ret; exact ⟨rfl, Bx.draws _ _ _⟩)
theorem gstep_n (W : World) : Calls Tryz.prog 34 #[.pointer none, .pointer none] W fun e w' => e = .returned (.bool true) ∧ Below W.heap.size W w' := by
  go_enter Tryz.func34, Tryz.ntmps34
  go_wp2
  first
    | (go_ret; exact ⟨rfl, Below.refl _ _⟩)
    | (go_quiet (fail); go_wp2; go_ret; exact ⟨rfl, Bx.draws _ _ _⟩)
theorem fready_n (W : World) : Calls Tryz.prog 35 #[.pointer none, .pointer none] W fun e w' => e = .returned (.bool true) ∧ Below W.heap.size W w' := by
  go_enter Tryz.func35, Tryz.ntmps35
  go_wp2
  first
    | (go_ret; exact ⟨rfl, Below.refl _ _⟩)
    | (go_quiet (fail); go_wp2; go_ret; exact ⟨rfl, Bx.draws _ _ _⟩)
theorem fstep_n (W : World) : Calls Tryz.prog 36 #[.pointer none, .pointer none] W fun e w' => e = .returned (.bool true) ∧ Below W.heap.size W w' := by
  go_enter Tryz.func36, Tryz.ntmps36
  go_wp2
  first
    | (go_ret; exact ⟨rfl, Below.refl _ _⟩)
    | (go_quiet (fail); go_wp2; go_ret; exact ⟨rfl, Bx.draws _ _ _⟩)
theorem tslot_n (W : World) : Calls Tryz.prog 32 #[.pointer none] W fun e w' => e = .returned (.int .i64 (-1)) ∧ w' = W := by
  go_enter Tryz.func32, Tryz.ntmps32
  go_wp2
  go_ret
  exact ⟨rfl, rfl⟩
end Go.Proofs.YtkimmfdicohoiaaGreat.Ar
/-
  SameRun of two runs that are alike; sameInts of two rows that are alike.
-/
namespace Go.Proofs.YtkimmfdicohoiaaGreat.Ar
open Go.RowKit Go.Shelf Mr Me Ma Wc Wm Wr
theorem sh_cells {W : World} {S : Nat → Prop} {g n cap : Nat} {l : List Sh} (h : Has W S 96 5 (.slice (some ⟨g, 0, none⟩) n cap) n (shc l)) {j : Nat} {a : Sh} (ha : l[j]? = some a) :
    W.cell? ⟨g, j * 5, none⟩ = some (.int .i64 a.mv) ∧ W.cell? ⟨g, j * 5 + 1, none⟩ = some (.int .i64 a.th) ∧ W.cell? ⟨g, j * 5 + 2, none⟩ = some (.int .i64 a.slot) ∧ W.cell? ⟨g, j * 5 + 3, none⟩ = some (.int .i64 a.fr) ∧ W.cell? ⟨g, j * 5 + 4, none⟩ = some (.int .i64 a.to) := by
  have hce : ∀ t (_ : t < 5) u, a.cells[t]? = some u → W.cell? ⟨g, j * 5 + t, none⟩ = some u := fun t ht u hu => h.cells (g := g) rfl (j * 5 + t) u (by rw [shc, flat_get (f := Sh.cells) (m := 5) (fun _ => rfl) l j t a ha ht]; exact hu)
  exact ⟨hce 0 (by decide) _ rfl, hce 1 (by decide) _ rfl, hce 2 (by decide) _ rfl, hce 3 (by decide) _ rfl, hce 4 (by decide) _ rfl⟩
set_option maxRecDepth 100000 in
set_option maxHeartbeats 4000000 in
theorem same_eq {W : World} {S1 S2 : Nat → Prop} {Q : Pa} {v1 v2 v3 v4 u1 u2 u3 u4 : Value}
    (a1 : Has W S1 90 9 v1 Q.cls.length (clc Q.cls)) (a2 : Has W S1 94 7 v2 Q.lg.length (lgc Q.lg)) (a3 : Has W S1 96 5 v3 Q.shs.length (shc Q.shs)) (a4 : Has W S1 92 1 v4 Q.ws.length (wrd Q.ws))
    (b1 : Has W S2 90 9 u1 Q.cls.length (clc Q.cls)) (b2 : Has W S2 94 7 u2 Q.lg.length (lgc Q.lg)) (b3 : Has W S2 96 5 u3 Q.shs.length (shc Q.shs)) (b4 : Has W S2 92 1 u4 Q.ws.length (wrd Q.ws)) (n1 : Q.cls.length ≤ 100000) (n2 : Q.lg.length ≤ 100000) (n3 : Q.shs.length ≤ 100000) (n4 : Q.ws.length ≤ 100000) :
    Calls Tryz.prog 10 #[runV v1 v2 v3 v4, runV u1 u2 u3 u4] W fun e w' => e = .returned (.bool true) ∧ Below W.heap.size W w' := by
  obtain ⟨p1, q1, rfl, _⟩ := a1.form
  obtain ⟨p2, q2, rfl, _⟩ := a2.form
  obtain ⟨p3, q3, rfl, _⟩ := a3.form
  obtain ⟨p4, q4, rfl, _⟩ := a4.form
  obtain ⟨r1, s1, rfl, _⟩ := b1.form
  obtain ⟨r2, s2, rfl, _⟩ := b2.form
  obtain ⟨r3, s3, rfl, _⟩ := b3.form
  obtain ⟨r4, s4, rfl, _⟩ := b4.form
  unfold runV
  obtain ⟨W2, hW2⟩ : ∃ W2, (W.alloc (.cells #[.slice p1 Q.cls.length q1, .slice p2 Q.lg.length q2, .slice p3 Q.shs.length q3, .slice p4 Q.ws.length q4] 30)).alloc (.cells #[.slice r1 Q.cls.length s1, .slice r2 Q.lg.length s2, .slice r3 Q.shs.length s3, .slice r4 Q.ws.length s4] 30) = W2 := ⟨_, rfl⟩
  have H0 : Below W.heap.size W W2 := by rw [← hW2]; exact ((Below.refl _ _).alloc (Nat.le_refl _) _).alloc (by simp) _
  have x0 : W2.heap[W.heap.size]? = some (.cells #[.slice p1 Q.cls.length q1, .slice p2 Q.lg.length q2, .slice p3 Q.shs.length q3, .slice p4 Q.ws.length q4] 30 (0, 0)) := by rw [← hW2]; exact (Below.heap_alloc _ _ _ (by simp)).trans (heap_alloc_new W _)
  have x1 : W2.heap[W.heap.size + 1]? = some (.cells #[.slice r1 Q.cls.length s1, .slice r2 Q.lg.length s2, .slice r3 Q.shs.length s3, .slice r4 Q.ws.length s4] 30 (0, 0)) := by
    have := heap_alloc_new (W.alloc (.cells #[.slice p1 Q.cls.length q1, .slice p2 Q.lg.length q2, .slice p3 Q.shs.length q3, .slice p4 Q.ws.length q4] 30)) (.cells #[.slice r1 Q.cls.length s1, .slice r2 Q.lg.length s2, .slice r3 Q.shs.length s3, .slice r4 Q.ws.length s4] 30)
    rw [World.size_alloc] at this
    rw [← hW2]
    exact this
  have s20 : W2.heap.size = W.heap.size + 1 + 1 := by rw [← hW2]; simp
  have hs2 : W.heap.size ≤ W2.heap.size := by omega
  have KB := fun (wr : World) (hB : Below W2.heap.size W2 wr) => (show wr.cell? ⟨W.heap.size, 0, none⟩ = some (.slice p1 Q.cls.length q1) ∧ wr.cell? ⟨W.heap.size, 1, none⟩ = some (.slice p2 Q.lg.length q2) ∧ wr.cell? ⟨W.heap.size, 2, none⟩ = some (.slice p3 Q.shs.length q3) ∧ wr.cell? ⟨W.heap.size, 3, none⟩ = some (.slice p4 Q.ws.length q4) ∧ wr.cell? ⟨W.heap.size + 1, 0, none⟩ = some (.slice r1 Q.cls.length s1) ∧ wr.cell? ⟨W.heap.size + 1, 1, none⟩ = some (.slice r2 Q.lg.length s2) ∧ wr.cell? ⟨W.heap.size + 1, 2, none⟩ = some (.slice r3 Q.shs.length s3) ∧ wr.cell? ⟨W.heap.size + 1, 3, none⟩ = some (.slice r4 Q.ws.length s4) from by
    have y0 := (hB.block W.heap.size (by omega)).trans x0
    have y1 := (hB.block (W.heap.size + 1) (by omega)).trans x1
    simp [World.cell?, y0, y1])
  replace a1 := a1.below H0
  replace a2 := a2.below H0
  replace a3 := a3.below H0
  replace a4 := a4.below H0
  replace b1 := b1.below H0
  replace b2 := b2.below H0
  replace b3 := b3.below H0
  replace b4 := b4.below H0
  obtain ⟨c0, c1, c2, c3, d0, d1, d2, d3⟩ := KB W2 (Below.refl _ _)
  clear x0 x1
  replace H0 := Mr.hid H0
  replace hs2 := Mr.hid hs2
  replace KB := Mr.hid KB
  replace a1 := Mr.hid a1
  replace a2 := Mr.hid a2
  replace a3 := Mr.hid a3
  replace a4 := Mr.hid a4
  replace b1 := Mr.hid b1
  replace b2 := Mr.hid b2
  replace b3 := Mr.hid b3
  replace b4 := Mr.hid b4
  go_enter Tryz.func10, Tryz.ntmps10
  go_wp2
  clear c0 c1 c2 c3 d0 d1 d2 d3 hW2
  go_loopg [5] Q.cls.length (fun k s wy => ∃ j : Nat, s = .int .i64 (j : Int) ∧ j + k = Q.cls.length ∧ Below W2.heap.size W2 wy)
  case atStart => exact ⟨0, rfl, by omega, Below.refl _ _⟩
  case round =>
    obtain ⟨j, rfl, hj, hB⟩ := hrel
    obtain ⟨c0, c1, c2, c3, d0, d1, d2, d3⟩ := KB.out wr hB
    have l1 := hB.size
    by_cases hjl : j < Q.cls.length
    · obtain ⟨x, hx⟩ : ∃ x, Q.cls[j]? = some x := ⟨_, List.getElem?_eq_getElem hjl⟩
      have ha' := a1.out
      have hb' := b1.out
      obtain ⟨ga, qa, hga, _, hga2, hga3, hga4⟩ := ha'.there (by omega)
      obtain ⟨gb, qb, hgb, _, hgb2, hgb3, hgb4⟩ := hb'.there (by omega)
      cases hga
      cases hgb
      unfold maxLen at hga4 hgb4
      have fa := cl_cells ha' hx
      have fb := cl_cells hb' hx
      have f0 := (hB.cell (p := ⟨ga, j * 9, none⟩) hga2).trans fa.1
      have g0 := (hB.cell (p := ⟨gb, j * 9, none⟩) hgb2).trans fb.1
      have f1 := (hB.cell (p := ⟨ga, j * 9 + 1, none⟩) hga2).trans fa.2.1
      have g1 := (hB.cell (p := ⟨gb, j * 9 + 1, none⟩) hgb2).trans fb.2.1
      have f2 := (hB.cell (p := ⟨ga, j * 9 + 2, none⟩) hga2).trans fa.2.2.1
      have g2 := (hB.cell (p := ⟨gb, j * 9 + 2, none⟩) hgb2).trans fb.2.2.1
      have f3 := (hB.cell (p := ⟨ga, j * 9 + 3, none⟩) hga2).trans fa.2.2.2.1
      have g3 := (hB.cell (p := ⟨gb, j * 9 + 3, none⟩) hgb2).trans fb.2.2.2.1
      have f4 := (hB.cell (p := ⟨ga, j * 9 + 4, none⟩) hga2).trans fa.2.2.2.2.1
      have g4 := (hB.cell (p := ⟨gb, j * 9 + 4, none⟩) hgb2).trans fb.2.2.2.2.1
      have f5 := (hB.cell (p := ⟨ga, j * 9 + 5, none⟩) hga2).trans fa.2.2.2.2.2.1
      have g5 := (hB.cell (p := ⟨gb, j * 9 + 5, none⟩) hgb2).trans fb.2.2.2.2.2.1
      have f6 := (hB.cell (p := ⟨ga, j * 9 + 6, none⟩) hga2).trans fa.2.2.2.2.2.2.1
      have g6 := (hB.cell (p := ⟨gb, j * 9 + 6, none⟩) hgb2).trans fb.2.2.2.2.2.2.1
      have f7 := (hB.cell (p := ⟨ga, j * 9 + 7, none⟩) hga2).trans fa.2.2.2.2.2.2.2.1
      have g7 := (hB.cell (p := ⟨gb, j * 9 + 7, none⟩) hgb2).trans fb.2.2.2.2.2.2.2.1
      have f8 := (hB.cell (p := ⟨ga, j * 9 + 8, none⟩) hga2).trans fa.2.2.2.2.2.2.2.2
      have g8 := (hB.cell (p := ⟨gb, j * 9 + 8, none⟩) hgb2).trans fb.2.2.2.2.2.2.2.2
      clear fa fb
      have hji : (j : Int) < (Q.cls.length : Int) := by omega
      clear ha' hb'
      replace hx := Mr.hid hx
      have fin := fun nq => hB.trans ((Bx.draws W2.heap.size wr nq))
      replace fin := Mr.hid fin
      replace hB := Mr.hid hB
      go_wp2
      go_quiet (fail)
      go_wp2
      go_roundg (gk - 1)
      case measure => omega
      case rel => exact ⟨j + 1, by simp, by omega, fin.out _⟩
    · replace hB := Mr.hid hB
      go_wp2
      go_loopg [6] Q.lg.length (fun k s wy => ∃ j : Nat, s = .int .i64 (j : Int) ∧ j + k = Q.lg.length ∧ Below W2.heap.size W2 wy)
      case atStart => exact ⟨0, rfl, by omega, hB.out⟩
      case round =>
        obtain ⟨j, rfl, hj, hB⟩ := hrel
        obtain ⟨c0, c1, c2, c3, d0, d1, d2, d3⟩ := KB.out wr hB
        have l1 := hB.size
        by_cases hjl : j < Q.lg.length
        · obtain ⟨x, hx⟩ : ∃ x, Q.lg[j]? = some x := ⟨_, List.getElem?_eq_getElem hjl⟩
          have ha' := a2.out
          have hb' := b2.out
          obtain ⟨ga, qa, hga, _, hga2, hga3, hga4⟩ := ha'.there (by omega)
          obtain ⟨gb, qb, hgb, _, hgb2, hgb3, hgb4⟩ := hb'.there (by omega)
          cases hga
          cases hgb
          unfold maxLen at hga4 hgb4
          have fa := ac_cells ha' hx
          have fb := ac_cells hb' hx
          have f0 := (hB.cell (p := ⟨ga, j * 7, none⟩) hga2).trans fa.1
          have g0 := (hB.cell (p := ⟨gb, j * 7, none⟩) hgb2).trans fb.1
          have f1 := (hB.cell (p := ⟨ga, j * 7 + 1, none⟩) hga2).trans fa.2.1
          have g1 := (hB.cell (p := ⟨gb, j * 7 + 1, none⟩) hgb2).trans fb.2.1
          have f2 := (hB.cell (p := ⟨ga, j * 7 + 2, none⟩) hga2).trans fa.2.2.1
          have g2 := (hB.cell (p := ⟨gb, j * 7 + 2, none⟩) hgb2).trans fb.2.2.1
          have f3 := (hB.cell (p := ⟨ga, j * 7 + 3, none⟩) hga2).trans fa.2.2.2.1
          have g3 := (hB.cell (p := ⟨gb, j * 7 + 3, none⟩) hgb2).trans fb.2.2.2.1
          have f4 := (hB.cell (p := ⟨ga, j * 7 + 4, none⟩) hga2).trans fa.2.2.2.2.1
          have g4 := (hB.cell (p := ⟨gb, j * 7 + 4, none⟩) hgb2).trans fb.2.2.2.2.1
          have f5 := (hB.cell (p := ⟨ga, j * 7 + 5, none⟩) hga2).trans fa.2.2.2.2.2.1
          have g5 := (hB.cell (p := ⟨gb, j * 7 + 5, none⟩) hgb2).trans fb.2.2.2.2.2.1
          have f6 := (hB.cell (p := ⟨ga, j * 7 + 6, none⟩) hga2).trans fa.2.2.2.2.2.2
          have g6 := (hB.cell (p := ⟨gb, j * 7 + 6, none⟩) hgb2).trans fb.2.2.2.2.2.2
          clear fa fb
          have hji : (j : Int) < (Q.lg.length : Int) := by omega
          clear ha' hb'
          replace hx := Mr.hid hx
          have fin := fun nq => hB.trans ((Bx.draws W2.heap.size wr nq))
          replace fin := Mr.hid fin
          replace hB := Mr.hid hB
          go_wp2
          go_quiet (fail)
          go_wp2
          go_roundg (gk - 1)
          case measure => omega
          case rel => exact ⟨j + 1, by simp, by omega, fin.out _⟩
        · replace hB := Mr.hid hB
          go_wp2
          go_loopg [7] Q.shs.length (fun k s wy => ∃ j : Nat, s = .int .i64 (j : Int) ∧ j + k = Q.shs.length ∧ Below W2.heap.size W2 wy)
          case atStart => exact ⟨0, rfl, by omega, hB.out⟩
          case round =>
            obtain ⟨j, rfl, hj, hB⟩ := hrel
            obtain ⟨c0, c1, c2, c3, d0, d1, d2, d3⟩ := KB.out wr hB
            have l1 := hB.size
            by_cases hjl : j < Q.shs.length
            · obtain ⟨x, hx⟩ : ∃ x, Q.shs[j]? = some x := ⟨_, List.getElem?_eq_getElem hjl⟩
              have ha' := a3.out
              have hb' := b3.out
              obtain ⟨ga, qa, hga, _, hga2, hga3, hga4⟩ := ha'.there (by omega)
              obtain ⟨gb, qb, hgb, _, hgb2, hgb3, hgb4⟩ := hb'.there (by omega)
              cases hga
              cases hgb
              unfold maxLen at hga4 hgb4
              have fa := sh_cells ha' hx
              have fb := sh_cells hb' hx
              have f0 := (hB.cell (p := ⟨ga, j * 5, none⟩) hga2).trans fa.1
              have g0 := (hB.cell (p := ⟨gb, j * 5, none⟩) hgb2).trans fb.1
              have f1 := (hB.cell (p := ⟨ga, j * 5 + 1, none⟩) hga2).trans fa.2.1
              have g1 := (hB.cell (p := ⟨gb, j * 5 + 1, none⟩) hgb2).trans fb.2.1
              have f2 := (hB.cell (p := ⟨ga, j * 5 + 2, none⟩) hga2).trans fa.2.2.1
              have g2 := (hB.cell (p := ⟨gb, j * 5 + 2, none⟩) hgb2).trans fb.2.2.1
              have f3 := (hB.cell (p := ⟨ga, j * 5 + 3, none⟩) hga2).trans fa.2.2.2.1
              have g3 := (hB.cell (p := ⟨gb, j * 5 + 3, none⟩) hgb2).trans fb.2.2.2.1
              have f4 := (hB.cell (p := ⟨ga, j * 5 + 4, none⟩) hga2).trans fa.2.2.2.2
              have g4 := (hB.cell (p := ⟨gb, j * 5 + 4, none⟩) hgb2).trans fb.2.2.2.2
              clear fa fb
              have hji : (j : Int) < (Q.shs.length : Int) := by omega
              clear ha' hb'
              replace hx := Mr.hid hx
              have fin := fun nq => hB.trans ((Bx.draws W2.heap.size wr nq))
              replace fin := Mr.hid fin
              replace hB := Mr.hid hB
              go_wp2
              go_quiet (fail)
              go_wp2
              go_roundg (gk - 1)
              case measure => omega
              case rel => exact ⟨j + 1, by simp, by omega, fin.out _⟩
            · replace hB := Mr.hid hB
              go_wp2
              go_loopg [8] Q.ws.length (fun k s wy => ∃ j : Nat, s = .int .i64 (j : Int) ∧ j + k = Q.ws.length ∧ Below W2.heap.size W2 wy)
              case atStart => exact ⟨0, rfl, by omega, hB.out⟩
              case round =>
                obtain ⟨j, rfl, hj, hB⟩ := hrel
                obtain ⟨c0, c1, c2, c3, d0, d1, d2, d3⟩ := KB.out wr hB
                have l1 := hB.size
                by_cases hjl : j < Q.ws.length
                · obtain ⟨x, hx⟩ : ∃ x, Q.ws[j]? = some x := ⟨_, List.getElem?_eq_getElem hjl⟩
                  have ha' := a4.out
                  have hb' := b4.out
                  obtain ⟨ga, qa, hga, _, hga2, hga3, hga4⟩ := ha'.there (by omega)
                  obtain ⟨gb, qb, hgb, _, hgb2, hgb3, hgb4⟩ := hb'.there (by omega)
                  cases hga
                  cases hgb
                  unfold maxLen at hga4 hgb4
                  have f0 := (hB.cell (p := ⟨ga, j, none⟩) hga2).trans (a4.out.cells (g := ga) rfl j (.int .u64 x) (by simp [wrd, hx]))
                  have g0 := (hB.cell (p := ⟨gb, j, none⟩) hgb2).trans (b4.out.cells (g := gb) rfl j (.int .u64 x) (by simp [wrd, hx]))
                  have hji : (j : Int) < (Q.ws.length : Int) := by omega
                  clear ha' hb'
                  replace hx := Mr.hid hx
                  have fin := fun nq => hB.trans ((Bx.draws W2.heap.size wr nq))
                  replace fin := Mr.hid fin
                  replace hB := Mr.hid hB
                  go_wp2
                  go_quiet (fail)
                  go_wp2
                  go_roundg (gk - 1)
                  case measure => omega
                  case rel => exact ⟨j + 1, by simp, by omega, fin.out _⟩
                · replace hB := Mr.hid hB
                  go_wp2
                  go_ret
                  exact ⟨rfl, (H0.out).trans (hB.out.mono hs2.out)⟩
end Go.Proofs.YtkimmfdicohoiaaGreat.Ar
/-
  THE LAW ArenaNil.
-/
namespace Go.Proofs.YtkimmfdicohoiaaGreat.Ar
open Go.RowKit Go.Shelf Mr Me Ma Wc Wm Wr Rf
set_option linter.unusedVariables false
set_option maxRecDepth 100000 in
set_option maxHeartbeats 4000000 in
theorem play_bad (W : World) (c : Cf) (hc : c.ok = false) (am : Option Addr) (nm cm : Nat) :
    Calls Tryz.prog 7 #[c.val, .slice am nm cm] W fun e w' => e = .returned (.tuple #[runV (.slice none 0 0) (.slice none 0 0) (.slice none 0 0) (.slice none 0 0), .int .i64 1]) ∧ Below W.heap.size W w' := by
  have CF := fun w => new_bad c hc 0 w
  obtain ⟨O, hO⟩ : ∃ O : Obj, O = .cells #[.int .i64 c.a0, .int .i64 c.a1, .int .i64 c.a2, .int .i64 c.a3, .int .i64 c.a4, .int .i64 c.a5, .int .i64 c.a6] 23 := ⟨_, rfl⟩
  have hb2 : ((W.alloc O).alloc (.cells #[.slice none 0 0, .slice none 0 0, .slice none 0 0, .slice none 0 0] 30)).heap[W.heap.size + 1]? = some rn0 := by have := heap_alloc_new (W.alloc O) rn0; rwa [World.size_alloc] at this
  have hB2 : Below W.heap.size W ((W.alloc O).alloc (.cells #[.slice none 0 0, .slice none 0 0, .slice none 0 0, .slice none 0 0] 30)) := ((Below.refl _ _).alloc (Nat.le_refl _) _).alloc (by simp) _
  have hs2 : ((W.alloc O).alloc (.cells #[.slice none 0 0, .slice none 0 0, .slice none 0 0, .slice none 0 0] 30)).heap.size = W.heap.size + 1 + 1 := by simp
  rw [hO] at hb2 hB2 hs2
  have hcv : c.val = .agg #[.int .i64 c.a0, .int .i64 c.a1, .int .i64 c.a2, .int .i64 c.a3, .int .i64 c.a4, .int .i64 c.a5, .int .i64 c.a6] := rfl
  rw [hcv]
  simp only [hcv] at CF
  replace CF := Mr.hid CF
  replace hb2 := Mr.hid hb2
  replace hB2 := Mr.hid hB2
  replace hs2 := Mr.hid hs2
  clear hc hO O hcv
  go_enter Tryz.func7, Tryz.ntmps7
  go_wp2_with (go_at_call 11; refine (CF.out _).mono ?_; clear CF; rintro e w1 ⟨rfl, hB1⟩; have hb1 : w1.heap[W.heap.size + 1]? = some rn0 := (hB1.block _ (by rw [hs2.out]; omega)).trans hb2.out; obtain ⟨x0, x1, x2, x3, xf⟩ := rn0_cells hb1; replace hB1 := Mr.hid hB1; replace hb1 := Mr.hid hb1)
  obtain ⟨W5, hW5⟩ : ∃ W5, (((w1.setCell ⟨W.heap.size + 1, 0, none⟩ (.slice none 0 0)).setCell ⟨W.heap.size + 1, 1, none⟩ (.slice none 0 0)).setCell ⟨W.heap.size + 1, 2, none⟩ (.slice none 0 0)).setCell ⟨W.heap.size + 1, 3, none⟩ (.slice none 0 0) = W5 := ⟨_, rfl⟩
  rw [hW5]
  obtain ⟨r1, r2, r3⟩ := run_stored hb1.out _ _ _ _ W5 hW5
  have c0 : W5.cell? ⟨W.heap.size + 1, 0, none⟩ = some (.slice none 0 0) := by simp [World.cell?, r1]
  have c1 : W5.cell? ⟨W.heap.size + 1, 1, none⟩ = some (.slice none 0 0) := by simp [World.cell?, r1]
  have c2 : W5.cell? ⟨W.heap.size + 1, 2, none⟩ = some (.slice none 0 0) := by simp [World.cell?, r1]
  have c3 : W5.cell? ⟨W.heap.size + 1, 3, none⟩ = some (.slice none 0 0) := by simp [World.cell?, r1]
  refine bodyPost_ret (v := .tuple #[runV (.slice none 0 0) (.slice none 0 0) (.slice none 0 0) (.slice none 0 0), .int .i64 1]) (by simp [runV, results, Tryz.results7, go_sem, c0, c1, c2, c3]) rfl ?_
  exact ⟨rfl, r3 W (hB2.out.trans (hB1.out.mono (by rw [hs2.out]; omega))) (Nat.le_succ _)⟩
/-- A run of no moves, with these words. -/
def Rn0 (W w' : World) (cd : Int) (ws : List Int) (e : Ending) : Prop := ∃ v1 v2 v3 v4, e = .returned (.tuple #[runV v1 v2 v3 v4, .int .i64 cd]) ∧ Has w' (fun k => W.heap.size ≤ k) 90 9 v1 0 [] ∧ Has w' (fun k => W.heap.size ≤ k) 94 7 v2 0 [] ∧ Has w' (fun k => W.heap.size ≤ k) 96 5 v3 0 [] ∧ Has w' (fun k => W.heap.size ≤ k) 92 1 v4 ws.length (wrd ws) ∧ Below W.heap.size W w'
/-- Both sides at no moves answer the same. -/
theorem both_none (c : Cf) : ∃ (cd : Int) (ws : List Int), ws.length ≤ 100000 ∧ (∀ W, Calls Tryz.prog 7 #[c.val, .slice none 0 0] W fun e w' => Rn0 W w' cd ws e) ∧ (∀ W, Calls Tryz.prog 8 #[c.val, .slice none 0 0] W fun e w' => Rn0 W w' cd ws e) := by
  cases hc : c.ok with
  | false =>
    refine ⟨1, [], by simp, fun W => (play_bad W c hc none 0 0).mono ?_, fun W => (Play4_bad W c hc none 0 0).mono ?_⟩
    all_goals
      rintro e w' ⟨rfl, hB⟩
      exact ⟨_, _, _, _, rfl, Has.nil _ _ _ _, Has.nil _ _ _ _, Has.nil _ _ _ _, Has.nil _ _ _ _, hB⟩
  | true =>
    have hc' : cfgB c.a0 c.a1 c.a2 c.a3 c.a4 c.a5 c.a6 = true := hc
    obtain ⟨N, m, hN, hm, g1, g2, g3, g4⟩ := sizes (ok_of hc')
    obtain ⟨p1, p2, p3, p4, p5, p6, p7, p8⟩ := ok_of hc'
    have hq : inB c.a0 1 16 = true ∧ inB c.a4 0 64 = true := by
      simp only [cfgB, Bool.and_eq_true] at hc'
      exact ⟨hc'.1.1.1.1.1.1, hc'.1.1.2⟩
    have q0 := inB_iff hq.1
    have q4 := inB_iff hq.2
    have hN8 : N ≤ 8192 := by
      have hb : base c.a1 c.a2 c.a5 c.a6 14 = 6 + c.a6 + c.a1 + c.a1 * c.a2 + 4 * c.a5 := base14 _ _ _ _
      have : c.a1 * c.a2 ≤ 16 * 8 := Int.mul_le_mul p2 p4 (by omega) (by omega)
      omega
    obtain ⟨nt, h0⟩ : ∃ nt : Nat, c.a0 = nt := ⟨c.a0.toNat, by omega⟩
    obtain ⟨nr, h1⟩ : ∃ nr : Nat, c.a1 = nr := ⟨c.a1.toNat, by omega⟩
    obtain ⟨ns, h5⟩ : ∃ ns : Nat, c.a5 = ns := ⟨c.a5.toNat, by omega⟩
    obtain ⟨Kc, h4⟩ : ∃ Kc : Nat, c.a4 = Kc := ⟨c.a4.toNat, by omega⟩
    refine ⟨0, fws c N, by rw [fws_len]; omega, fun W => (play_ok W c hc ns nt N m Kc h5 h0 h4 hN hm (by omega) none 0 0 [] ⟨rfl, .inl rfl⟩ (by omega)).mono ?_, fun W => (Play4_none W c hc nt nr ns N h0 h1 h5 hN hN8).mono ?_⟩
    · rintro e w' ⟨v1, v2, v3, v4, rfl, k1, k2, k3, k4, k5⟩
      exact ⟨v1, v2, v3, v4, rfl, k1, k2, k3, k4, k5⟩
    · rintro e w' ⟨v1, v2, v4, rfl, k1, k2, k4, k5⟩
      exact ⟨v1, v2, _, v4, rfl, k1, k2, Has.nil _ _ _ _, by rw [fws_len]; exact k4, k5⟩
theorem same_none {W : World} {S1 S2 : Nat → Prop} {ws : List Int} {v1 v2 v3 v4 u1 u2 u3 u4 : Value} (hl : ws.length ≤ 100000)
    (a1 : Has W S1 90 9 v1 0 []) (a2 : Has W S1 94 7 v2 0 []) (a3 : Has W S1 96 5 v3 0 []) (a4 : Has W S1 92 1 v4 ws.length (wrd ws))
    (b1 : Has W S2 90 9 u1 0 []) (b2 : Has W S2 94 7 u2 0 []) (b3 : Has W S2 96 5 u3 0 []) (b4 : Has W S2 92 1 u4 ws.length (wrd ws)) :
    Calls Tryz.prog 10 #[runV v1 v2 v3 v4, runV u1 u2 u3 u4] W fun e w' => e = .returned (.bool true) ∧ Below W.heap.size W w' :=
  same_eq (Q := Pa.new 0 0 (Ao.new 0 0) 0 ws) a1 a2 a3 a4 b1 b2 b3 b4 (by simp [Pa.new]) (by simp [Pa.new]) (by simp [Pa.new]) hl
end Go.Proofs.YtkimmfdicohoiaaGreat.Ar
