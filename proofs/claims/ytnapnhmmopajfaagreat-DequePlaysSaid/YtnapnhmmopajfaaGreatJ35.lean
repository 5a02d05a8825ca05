import Derived.Test.YtnapnhmmopajfaaGreatJ34
/-
  THE DEQUE: what may not be: both Plays, and New.
-/
namespace Go.Proofs.YtnapnhmmopajfaaGreat.Rd
open Go.RowKit Go.Shelf Mr Me Ma Gm Dm Dq
set_option linter.unusedVariables false
set_option linter.unusedSimpArgs false
set_option maxRecDepth 100000
def nilR : Value := runV (.slice none 0 0) (.slice none 0 0) (.slice none 0 0) (.slice none 0 0)
def dB (th rm : Int) : Obj := .cells #[.int .i64 th, .int .i64 rm] 23 (0, 0)
/-- Play's two boxes. -/
theorem bp2 (w : World) (th rm : Int) : ((w.alloc (dB th rm)).alloc rnO).heap[w.heap.size]? = some (dB th rm) ∧ ((w.alloc (dB th rm)).alloc rnO).heap[w.heap.size + 1]? = some rnO ∧ Below w.heap.size w ((w.alloc (dB th rm)).alloc rnO) ∧ ((w.alloc (dB th rm)).alloc rnO).heap.size = w.heap.size + 1 + 1 := by
  refine ⟨(Below.heap_alloc _ _ _ (by simp)).trans (heap_alloc_new w _), ?_, ((Below.refl _ _).alloc (Nat.le_refl _) _).alloc (by simp) _, by simp⟩
  have := heap_alloc_new (w.alloc (dB th rm)) rnO
  rw [World.size_alloc] at this
  exact this
set_option maxHeartbeats 2000000 in
theorem rPlay_no (w : World) (th rm : Int) (am : Option Addr) (nm cm : Nat) (c : Int) (h : (dqB th rm = false ∧ c = 210) ∨ (dqB th rm = true ∧ 65536 < nm ∧ c = 3)) :
    Calls Tryz.prog 5 #[.agg #[.int .i64 th, .int .i64 rm], .slice am nm cm] w fun e w' => e = .returned (.tuple #[nilR, .int .i64 c]) ∧ Below w.heap.size w w' := by
  have CK := fun w => rCheck_any th rm w
  obtain ⟨g0, g1, hB, hs⟩ := bp2 w th rm
  generalize hW0 : (w.alloc (dB th rm)).alloc rnO = W0 at *
  have y0 : W0.cell? ⟨w.heap.size, 0, none⟩ = some (.int .i64 th) := cell_at g0 0
  have y1 : W0.cell? ⟨w.heap.size, 1, none⟩ = some (.int .i64 rm) := cell_at g0 1
  have KK : Hid (∀ w1, Below W0.heap.size W0 w1 → Below w.heap.size w w1 ∧ w1.heap[w.heap.size + 1]? = some rnO) := Mr.hid (fun w1 h1 => ⟨hB.trans (h1.mono (by omega)), (h1.block _ (by omega)).trans g1⟩)
  unfold dV at CK
  unfold dB rnO at hW0
  have fin : Hid (∀ w1, Below W0.heap.size W0 w1 → Below w.heap.size w ((((w1.setCell ⟨w.heap.size + 1, 0, none⟩ (.slice none 0 0)).setCell ⟨w.heap.size + 1, 1, none⟩ (.slice none 0 0)).setCell ⟨w.heap.size + 1, 2, none⟩ (.slice none 0 0)).setCell ⟨w.heap.size + 1, 3, none⟩ (.slice none 0 0)) ∧ ((((w1.setCell ⟨w.heap.size + 1, 0, none⟩ (.slice none 0 0)).setCell ⟨w.heap.size + 1, 1, none⟩ (.slice none 0 0)).setCell ⟨w.heap.size + 1, 2, none⟩ (.slice none 0 0)).setCell ⟨w.heap.size + 1, 3, none⟩ (.slice none 0 0)).heap[w.heap.size + 1]? = some rnO) := Mr.hid (fun w1 h1 => by
    obtain ⟨k1, k2⟩ := KK.out w1 h1
    refine ⟨(((k1.setCell (p := ⟨w.heap.size + 1, 0, none⟩) (Nat.le_succ _) _).setCell (p := ⟨w.heap.size + 1, 1, none⟩) (Nat.le_succ _) _).setCell (p := ⟨w.heap.size + 1, 2, none⟩) (Nat.le_succ _) _).setCell (p := ⟨w.heap.size + 1, 3, none⟩) (Nat.le_succ _) _, ?_⟩
    unfold rnO at k2 ⊢
    rw [setBlk (setBlk (setBlk (setBlk k2 0 _) 1 _) 2 _) 3 _]
    rfl)
  clear g0 g1 hB hs
  rcases h with ⟨hd, rfl⟩ | ⟨hd, hn, rfl⟩
  · rw [hd] at CK
    replace CK := Mr.hid CK
    go_enter Tryz.func5, Tryz.ntmps5
    go_wp2_with (go_at_call 9; refine (CK.out _).mono ?_; clear CK; rintro e w1 ⟨rfl, hB1⟩; obtain ⟨k1, k2⟩ := KK.out w1 hB1; have F1 := fin.out w1 hB1; clear fin KK y0 y1 hW0 hB1 k1; have x0 := cell_at k2 0; have x1 := cell_at k2 1; have x2 := cell_at k2 2; have x3 := cell_at k2 3; have xf := froz_at k2; clear k2; replace F1 := Mr.hid F1)
    obtain ⟨W5, hW5⟩ : ∃ W5, (((w1.setCell ⟨w.heap.size + 1, 0, none⟩ (.slice none 0 0)).setCell ⟨w.heap.size + 1, 1, none⟩ (.slice none 0 0)).setCell ⟨w.heap.size + 1, 2, none⟩ (.slice none 0 0)).setCell ⟨w.heap.size + 1, 3, none⟩ (.slice none 0 0) = W5 := ⟨_, rfl⟩
    have F2 := F1.out
    rw [hW5] at F2 ⊢
    have d0 := cell_at F2.2 0
    have d1 := cell_at F2.2 1
    have d2 := cell_at F2.2 2
    have d3 := cell_at F2.2 3
    refine bodyPost_ret (v := .tuple #[nilR, .int .i64 210]) (by simp [results, Tryz.results5, go_sem, d0, d1, d2, d3, nilR, runV]) rfl ⟨rfl, F2.1⟩
  · have d9 : decide (65536 < (nm : Int)) = true := by simp; omega
    rw [hd] at CK
    replace CK := Mr.hid CK
    replace hn := Mr.hid hn
    go_enter Tryz.func5, Tryz.ntmps5
    go_wp2_with (go_at_call 9; refine (CK.out _).mono ?_; clear CK; rintro e w1 ⟨rfl, hB1⟩; obtain ⟨k1, k2⟩ := KK.out w1 hB1; have F1 := fin.out w1 hB1; clear fin KK y0 y1 hW0 hB1 k1; have x0 := cell_at k2 0; have x1 := cell_at k2 1; have x2 := cell_at k2 2; have x3 := cell_at k2 3; have xf := froz_at k2; clear k2; replace F1 := Mr.hid F1)
    obtain ⟨W5, hW5⟩ : ∃ W5, (((w1.setCell ⟨w.heap.size + 1, 0, none⟩ (.slice none 0 0)).setCell ⟨w.heap.size + 1, 1, none⟩ (.slice none 0 0)).setCell ⟨w.heap.size + 1, 2, none⟩ (.slice none 0 0)).setCell ⟨w.heap.size + 1, 3, none⟩ (.slice none 0 0) = W5 := ⟨_, rfl⟩
    have F2 := F1.out
    rw [hW5] at F2 ⊢
    have d0 := cell_at F2.2 0
    have d1 := cell_at F2.2 1
    have d2 := cell_at F2.2 2
    have d3 := cell_at F2.2 3
    refine bodyPost_ret (v := .tuple #[nilR, .int .i64 3]) (by simp [results, Tryz.results5, go_sem, d0, d1, d2, d3, nilR, runV]) rfl ⟨rfl, F2.1⟩
end Go.Proofs.YtnapnhmmopajfaaGreat.Rd
/-
  THE DEQUE: what may not be: the program's New and Play.
-/
namespace Go.Proofs.YtnapnhmmopajfaaGreat.Rd
open Go.RowKit Go.Shelf Mr Me Ma Gm Dm Dq
set_option linter.unusedVariables false
set_option linter.unusedSimpArgs false
set_option maxRecDepth 100000
set_option maxHeartbeats 2000000 in
theorem dNew_no (w : World) (th rm : Int) (h : dqB th rm = false) : Calls Tryz.prog 8 #[.agg #[.int .i64 th, .int .i64 rm]] w fun e w' => e = .returned (.tuple #[.pointer none, .int .i64 210]) ∧ Below w.heap.size w w' := by
  have CK := fun w => check_any th rm w
  rw [if_neg (by rw [h]; decide)] at CK
  unfold dV at CK
  replace CK := Mr.hid CK
  have B0 := Mr.hid ((Below.refl w.heap.size w).alloc (Nat.le_refl _) (.cells #[.int .i64 th, .int .i64 rm] 23 (0, 0)))
  clear h
  go_enter Tryz.func8, Tryz.ntmps8
  go_wp2_with (go_at_call 16; refine (CK.out _).mono ?_; clear CK; rintro e w1 ⟨rfl, hB1⟩; have F1 := Mr.hid (B0.out.trans (hB1.mono B0.out.size)); clear hB1 B0)
  go_ret2
  exact ⟨rfl, F1.out⟩
/-- What New leaves, for Play: its answer's code and the world. -/
def NwQ (th rm : Int) (w : World) (e : Ending) (w' : World) : Prop := ∃ v : Value, e = .returned (.tuple #[v, .int .i64 (if dqB th rm = true then 0 else 210)]) ∧ Below w.heap.size w w'
theorem dNew_q (w : World) (th rm : Int) : Calls Tryz.prog 8 #[.agg #[.int .i64 th, .int .i64 rm]] w (NwQ th rm w) := by
  by_cases h : dqB th rm = true
  · have h' := h
    simp only [dqB, Bool.and_eq_true, decide_eq_true_eq] at h'
    obtain ⟨nt, rfl⟩ := Int.eq_ofNat_of_zero_le (show 0 ≤ th by omega)
    obtain ⟨r, rfl⟩ := Int.eq_ofNat_of_zero_le (show 0 ≤ rm by omega)
    refine (newD_ok w nt r (by omega) (by omega) (by omega) (by omega)).mono ?_
    rintro e w' ⟨q, U, K, km, bc, cs, c1, c2, rfl, _, _, _, hB⟩
    exact ⟨_, by rw [if_pos h], hB⟩
  · refine (dNew_no w th rm (by simpa using h)).mono ?_
    rintro e w' ⟨rfl, hB⟩
    exact ⟨_, by rw [if_neg h], hB⟩
set_option maxHeartbeats 2000000 in
theorem dPlay_no (w : World) (th rm : Int) (am : Option Addr) (nm cm : Nat) (c : Int) (h : (dqB th rm = false ∧ c = 210) ∨ (dqB th rm = true ∧ 65536 < nm ∧ c = 3)) :
    Calls Tryz.prog 4 #[.agg #[.int .i64 th, .int .i64 rm], .slice am nm cm] w fun e w' => e = .returned (.tuple #[nilR, .int .i64 c]) ∧ Below w.heap.size w w' := by
  have CK := fun w => dNew_q w th rm
  obtain ⟨g0, g1, hB, hs⟩ := bp2 w th rm
  generalize hW0 : (w.alloc (dB th rm)).alloc rnO = W0 at *
  have y0 : W0.cell? ⟨w.heap.size, 0, none⟩ = some (.int .i64 th) := cell_at g0 0
  have y1 : W0.cell? ⟨w.heap.size, 1, none⟩ = some (.int .i64 rm) := cell_at g0 1
  have KK : Hid (∀ w1, Below W0.heap.size W0 w1 → Below w.heap.size w w1 ∧ w1.heap[w.heap.size + 1]? = some rnO) := Mr.hid (fun w1 h1 => ⟨hB.trans (h1.mono (by omega)), (h1.block _ (by omega)).trans g1⟩)
  unfold dB rnO at hW0
  have fin : Hid (∀ w1, Below W0.heap.size W0 w1 → Below w.heap.size w ((((w1.setCell ⟨w.heap.size + 1, 0, none⟩ (.slice none 0 0)).setCell ⟨w.heap.size + 1, 1, none⟩ (.slice none 0 0)).setCell ⟨w.heap.size + 1, 2, none⟩ (.slice none 0 0)).setCell ⟨w.heap.size + 1, 3, none⟩ (.slice none 0 0)) ∧ ((((w1.setCell ⟨w.heap.size + 1, 0, none⟩ (.slice none 0 0)).setCell ⟨w.heap.size + 1, 1, none⟩ (.slice none 0 0)).setCell ⟨w.heap.size + 1, 2, none⟩ (.slice none 0 0)).setCell ⟨w.heap.size + 1, 3, none⟩ (.slice none 0 0)).heap[w.heap.size + 1]? = some rnO) := Mr.hid (fun w1 h1 => by
    obtain ⟨k1, k2⟩ := KK.out w1 h1
    refine ⟨(((k1.setCell (p := ⟨w.heap.size + 1, 0, none⟩) (Nat.le_succ _) _).setCell (p := ⟨w.heap.size + 1, 1, none⟩) (Nat.le_succ _) _).setCell (p := ⟨w.heap.size + 1, 2, none⟩) (Nat.le_succ _) _).setCell (p := ⟨w.heap.size + 1, 3, none⟩) (Nat.le_succ _) _, ?_⟩
    unfold rnO at k2 ⊢
    rw [setBlk (setBlk (setBlk (setBlk k2 0 _) 1 _) 2 _) 3 _]
    rfl)
  clear g0 g1 hB hs
  unfold NwQ at CK
  rcases h with ⟨hd, rfl⟩ | ⟨hd, hn, rfl⟩
  · simp only [hd, Bool.false_eq_true, if_false] at CK
    replace CK := Mr.hid CK
    go_enter Tryz.func4, Tryz.ntmps4
    go_wp2_with (go_at_call 8; refine (CK.out _).mono ?_; clear CK; rintro e w1 ⟨v1, rfl, hB1⟩; obtain ⟨k1, k2⟩ := KK.out w1 hB1; have F1 := fin.out w1 hB1; clear fin KK y0 y1 hW0 hB1 k1; have x0 := cell_at k2 0; have x1 := cell_at k2 1; have x2 := cell_at k2 2; have x3 := cell_at k2 3; have xf := froz_at k2; clear k2; replace F1 := Mr.hid F1)
    obtain ⟨W5, hW5⟩ : ∃ W5, (((w1.setCell ⟨w.heap.size + 1, 0, none⟩ (.slice none 0 0)).setCell ⟨w.heap.size + 1, 1, none⟩ (.slice none 0 0)).setCell ⟨w.heap.size + 1, 2, none⟩ (.slice none 0 0)).setCell ⟨w.heap.size + 1, 3, none⟩ (.slice none 0 0) = W5 := ⟨_, rfl⟩
    have F2 := F1.out
    rw [hW5] at F2 ⊢
    have d0 := cell_at F2.2 0
    have d1 := cell_at F2.2 1
    have d2 := cell_at F2.2 2
    have d3 := cell_at F2.2 3
    refine bodyPost_ret (v := .tuple #[nilR, .int .i64 210]) (by simp [results, Tryz.results4, go_sem, d0, d1, d2, d3, nilR, runV]) rfl ⟨rfl, F2.1⟩
  · have d9 : decide (65536 < (nm : Int)) = true := by simp; omega
    simp only [hd, if_true] at CK
    replace CK := Mr.hid CK
    replace hn := Mr.hid hn
    go_enter Tryz.func4, Tryz.ntmps4
    go_wp2_with (go_at_call 8; refine (CK.out _).mono ?_; clear CK; rintro e w1 ⟨v1, rfl, hB1⟩; obtain ⟨k1, k2⟩ := KK.out w1 hB1; have F1 := fin.out w1 hB1; clear fin KK y0 y1 hW0 hB1 k1; have x0 := cell_at k2 0; have x1 := cell_at k2 1; have x2 := cell_at k2 2; have x3 := cell_at k2 3; have xf := froz_at k2; clear k2; replace F1 := Mr.hid F1)
    obtain ⟨W5, hW5⟩ : ∃ W5, (((w1.setCell ⟨w.heap.size + 1, 0, none⟩ (.slice none 0 0)).setCell ⟨w.heap.size + 1, 1, none⟩ (.slice none 0 0)).setCell ⟨w.heap.size + 1, 2, none⟩ (.slice none 0 0)).setCell ⟨w.heap.size + 1, 3, none⟩ (.slice none 0 0) = W5 := ⟨_, rfl⟩
    have F2 := F1.out
    rw [hW5] at F2 ⊢
    have d0 := cell_at F2.2 0
    have d1 := cell_at F2.2 1
    have d2 := cell_at F2.2 2
    have d3 := cell_at F2.2 3
    refine bodyPost_ret (v := .tuple #[nilR, .int .i64 3]) (by simp [results, Tryz.results4, go_sem, d0, d1, d2, d3, nilR, runV]) rfl ⟨rfl, F2.1⟩
end Go.Proofs.YtnapnhmmopajfaaGreat.Rd
