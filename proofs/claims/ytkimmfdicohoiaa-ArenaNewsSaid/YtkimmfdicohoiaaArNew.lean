import Derived.Test.YtkimmfdicohoiaaArRepeat
import Derived.Test.YtkimmfdicohoiaaArKit
import Derived.Shelf.Abstract
/-
  arena.New (nothing used) and Kit by their contracts.
-/
namespace Go.Proofs.Ytkimmfdicohoiaa.Ar
open Go.RowKit Go.Shelf Mr Me Ma Wc Wm
theorem info_ints : (Try.prog.info? 51).map (fun i => (i.zero, i.size, i.bytes)) = some (some (.slice none 0 0), 1, 24) := by kernel_rfl
/-- A new arena. -/
def Ao.new (n t : Nat) : Ao := ⟨List.replicate n (0, -1), List.replicate t []⟩
theorem new_bad (c : Cf) (hc : c.ok = false) (u : Int) (w : World) : Calls Try.prog 4 #[c.val, .int .i64 u] w fun e w' => e = .returned (.tuple #[.pointer none, .int .i64 1]) ∧ Below w.heap.size w w' := by
  have hc' : cfgB c.a0 c.a1 c.a2 c.a3 c.a4 c.a5 c.a6 = false := hc
  have C := fun w => check_any c.a0 c.a1 c.a2 c.a3 c.a4 c.a5 c.a6 w
  rw [hc', chk_f] at C
  clear hc hc'
  unfold Cf.val
  go_enter Try.func4, Try.ntmps4
  go_wp2_with (go_at_call 10; refine (C _).mono ?_; clear C; rintro e w1 ⟨rfl, hB⟩)
  go_ret2
  exact ⟨rfl, ((Below.refl _ _).alloc (Nat.le_refl _) _).trans (hB.mono (by simp))⟩
set_option maxRecDepth 100000 in
set_option maxHeartbeats 1000000 in
theorem new_ok (c : Cf) (hc : c.ok = true) (n nt : Nat) (h5 : c.a5 = n) (h0 : c.a0 = nt) (w : World) : Calls Try.prog 4 #[c.val, .int .i64 0] w fun e w' => ∃ ba gs cs vca vs, e = .returned (.tuple #[.pointer (some ⟨ba, 0, none⟩), .int .i64 0]) ∧ Ar w' (fun k => w.heap.size ≤ k ∧ k < w'.heap.size) ba gs cs c vca vs (Ao.new n nt) ∧ Below w.heap.size w w' := by
  have hc' : cfgB c.a0 c.a1 c.a2 c.a3 c.a4 c.a5 c.a6 = true := hc
  obtain ⟨_, _, _, _, q5, q6, _⟩ := ok_of hc'
  have q0 : 1 ≤ nt ∧ nt ≤ 16 := by
    have : inB c.a0 1 16 = true := by simp [cfgB] at hc'; simp [hc'.1.1.1.1.1.1]
    have := inB_iff this
    omega
  have C := fun w => check_any c.a0 c.a1 c.a2 c.a3 c.a4 c.a5 c.a6 w
  rw [hc', chk_t] at C
  have RP := fun (w1 : World) => repeat_any (w1.alloc (.cells #[.int .i64 0, .int .i64 (-1)] 40)) w1.heap.size n (by omega) (by omega) (heap_alloc_new w1 _)
  simp only [World.size_alloc] at RP
  obtain ⟨i0, hi, hz0, hz1, hz2⟩ := info_parts info_ints
  have hmk : ∀ u : World, (Instr.makeSlice 41 (.int .i64 (nt : Int)) (.int .i64 (nt : Int))).run Try.prog u = .ok (.slice (some ⟨u.heap.size, 0, none⟩) nt nt) (u.alloc (.cells (madeCells #[.slice none 0 0] nt) 51)) := fun u => by
    have h := run_make (P := Try.prog) u 41 51 i0 (.slice none 0 0) Try.underlying41 hi hz0 .i64 .i64 (nt : Int) (nt : Int) (by omega) (Int.le_refl _) (by rw [hz2]; omega) (by omega)
    have e : ((nt : Int)).toNat = nt := by omega
    rw [e] at h
    rw [hz1] at h
    simpa [Value.cells] using h
  have box : ∀ w1 : World, Below (w.heap.size + 1) (w.alloc (.cells #[.int .i64 c.a0, .int .i64 c.a1, .int .i64 c.a2, .int .i64 c.a3, .int .i64 c.a4, .int .i64 c.a5, .int .i64 c.a6] 23)) w1 → w1.cell? ⟨w.heap.size, 0, none⟩ = some (.int .i64 c.a0) ∧ w1.cell? ⟨w.heap.size, 1, none⟩ = some (.int .i64 c.a1) ∧ w1.cell? ⟨w.heap.size, 2, none⟩ = some (.int .i64 c.a2) ∧ w1.cell? ⟨w.heap.size, 3, none⟩ = some (.int .i64 c.a3) ∧ w1.cell? ⟨w.heap.size, 4, none⟩ = some (.int .i64 c.a4) ∧ w1.cell? ⟨w.heap.size, 5, none⟩ = some (.int .i64 c.a5) ∧ w1.cell? ⟨w.heap.size, 6, none⟩ = some (.int .i64 c.a6) ∧ w.heap.size < w1.heap.size := fun w1 hB => by
    have hs := hB.size
    have hb : w1.heap[w.heap.size]? = some (.cells #[.int .i64 c.a0, .int .i64 c.a1, .int .i64 c.a2, .int .i64 c.a3, .int .i64 c.a4, .int .i64 c.a5, .int .i64 c.a6] 23 (0, 0)) := (hB.block w.heap.size (by omega)).trans (heap_alloc_new w _)
    simp at hs
    simp [World.cell?, hb]
    omega
  clear hc'
  unfold Cf.val
  obtain ⟨a0, a1, a2, a3, a4, a5, a6⟩ := c
  simp only at h5 h0 q5 q6
  subst h5 h0
  simp only at C box ⊢
  have d5 : decide ((n : Int) < 0) = false := by simp
  replace C := Mr.hid C
  replace RP := Mr.hid RP
  replace box := Mr.hid box
  go_enter Try.func4, Try.ntmps4
  go_wp2_with (first | (go_at_call 10; refine (C.out _).mono ?_; clear C; rintro e w1 ⟨rfl, hB⟩; simp only [World.size_alloc] at hB; obtain ⟨y0, y1, y2, y3, y4, y5, y6, y7⟩ := box.out w1 hB; have z5 : ∀ o, (w1.alloc o).cell? ⟨w.heap.size, 5, none⟩ = some (.int .i64 (n : Int)) := (fun o => by rw [World.cell?_alloc_past _ _ _ y7]; exact y5); have RP1 := RP.out w1; clear RP; replace RP1 := Mr.hid RP1; replace hB := Mr.hid hB) | (go_at_call 11; refine RP1.out.mono ?_; clear RP1; rintro e w2 ⟨rfl, hT, hB2⟩; clear y0 y1 y2 y3 y4 y5 y6 z5; replace hT := Mr.hid hT; replace hB2 := Mr.hid hB2))
  have hB3 : Below (w.heap.size + 1) (w.alloc (.cells #[.int .i64 (nt : Int), .int .i64 a1, .int .i64 a2, .int .i64 a3, .int .i64 a4, .int .i64 (n : Int), .int .i64 a6] 23)) w2 := (hB.out.alloc (by omega) _).trans (hB2.out.mono (by omega))
  obtain ⟨y0, y1, y2, y3, y4, y5, y6, y8⟩ := box.out w2 hB3
  have hmk2 := hmk w2.drew
  clear box hmk
  replace hB3 := Mr.hid hB3
  refine wp_loop_rounds 1 ?_
  rw [rounds_succ]
  go_wp2
  go_region_held3 (fun w' => w'.cell? ⟨w.heap.size, 0, none⟩ = some (.int .i64 (nt : Int)) ∧ w'.cell? ⟨w.heap.size, 1, none⟩ = some (.int .i64 a1) ∧ w'.cell? ⟨w.heap.size, 2, none⟩ = some (.int .i64 a2) ∧ w'.cell? ⟨w.heap.size, 3, none⟩ = some (.int .i64 a3) ∧ w'.cell? ⟨w.heap.size, 4, none⟩ = some (.int .i64 a4) ∧ w'.cell? ⟨w.heap.size, 5, none⟩ = some (.int .i64 (n : Int)) ∧ w'.cell? ⟨w.heap.size, 6, none⟩ = some (.int .i64 a6)) (go_keep) (fail)
  go_wp2
  go_ret2
  obtain ⟨W5, hW5⟩ : ∃ W5, ((w2.alloc (.cells (madeCells #[.slice none 0 0] nt) 51)).alloc (.cells #[.int .i64 (nt : Int), .int .i64 a1, .int .i64 a2, .int .i64 a3, .int .i64 a4, .int .i64 (n : Int), .int .i64 a6, .slice (some ⟨w1.heap.size + 1, 0, none⟩) n n, .slice (some ⟨w2.heap.size, 0, none⟩) nt nt] 43)).drew = W5 := ⟨_, rfl⟩
  rw [hW5]
  have s2 := hB2.out.size
  have s5 : W5.heap.size = w2.heap.size + 1 + 1 := by rw [← hW5]; simp
  have k5 : ∀ k, k < w2.heap.size → W5.heap[k]? = w2.heap[k]? := fun k hk => by rw [← hW5]; exact (Below.heap_alloc _ _ _ (by simp; omega)).trans (Below.heap_alloc _ _ _ hk)
  have kc : W5.heap[w2.heap.size]? = some (.cells (madeCells #[.slice none 0 0] nt) 51 (0, 0)) := by rw [← hW5]; exact (Below.heap_alloc _ _ _ (by simp)).trans (heap_alloc_new w2 _)
  have ka : W5.heap[w2.heap.size + 1]? = some (.cells #[.int .i64 (nt : Int), .int .i64 a1, .int .i64 a2, .int .i64 a3, .int .i64 a4, .int .i64 (n : Int), .int .i64 a6, .slice (some ⟨w1.heap.size + 1, 0, none⟩) n n, .slice (some ⟨w2.heap.size, 0, none⟩) nt nt] 43 (0, 0)) := by
    rw [← hW5]
    have := heap_alloc_new (w2.alloc (.cells (madeCells #[.slice none 0 0] nt) 51)) (.cells #[.int .i64 (nt : Int), .int .i64 a1, .int .i64 a2, .int .i64 a3, .int .i64 a4, .int .i64 (n : Int), .int .i64 a6, .slice (some ⟨w1.heap.size + 1, 0, none⟩) n n, .slice (some ⟨w2.heap.size, 0, none⟩) nt nt] 43)
    rw [World.size_alloc] at this
    exact this
  have B5 : Below w.heap.size w W5 := by
    have b1 : Below w.heap.size w w2 := ((Below.refl _ _).alloc (Nat.le_refl _) _).trans (hB3.out.mono (by omega))
    rw [← hW5]
    exact ((b1.alloc (by omega) _).alloc (by simp; omega) _).drew
  have hmc : (madeCells #[Value.slice none 0 0] nt).toList = List.replicate nt (.slice none 0 0) := by
    apply List.ext_getElem
    · simp [size_madeCells]
    · intro j h1 h2
      simp [madeCells, Nat.mod_one]
  refine ⟨w2.heap.size + 1, w1.heap.size + 1, n, .slice (some ⟨w2.heap.size, 0, none⟩) nt nt, List.replicate nt (.slice none 0 0), rfl, ⟨?_, ?_, ?_, ?_, ?_, ?_, hc, ?_⟩, B5⟩
  · simpa [Ao.new] using ka
  · have e1 : (Ao.new n nt).sl.length = n := by simp [Ao.new]
    rw [e1]
    have hT' := hT.out
    exact hT'.kept (fun k hk => k5 k (hT'.lt k hk).2) (fun k hk => by have := hT'.lt k hk; exact ⟨by omega, by omega⟩)
  · have e1 : (Ao.new n nt).ca.length = nt := by simp [Ao.new]
    rw [e1]
    refine ⟨by simp, .inr ⟨w2.heap.size, nt, _, rfl, ⟨by omega, by omega⟩, kc, Nat.le_refl _, by unfold maxLen; omega, by simp [size_madeCells], ?_⟩⟩
    rw [hmc]
    simp
  · intro i v l hv hl
    have e1 : v = .slice none 0 0 := (List.mem_replicate.1 (List.mem_of_getElem? hv)).2
    have e2 : l = [] := by
      have hl' : (List.replicate nt ([] : List Int))[i]? = some l := hl
      exact (List.mem_replicate.1 (List.mem_of_getElem? hl')).2
    subst e1 e2
    exact Has.nil _ _ _ _
  · intro i j v v' k hv _ e1
    have e2 : v = .slice none 0 0 := (List.mem_replicate.1 (List.mem_of_getElem? hv)).2
    subst e2
    simp [Value.ownBlock] at e1
  · exact ⟨by omega, by omega⟩
  · simp [Ao.new]
end Go.Proofs.Ytkimmfdicohoiaa.Ar
