/-
  arena.New, so many slots used.
-/
import Derived.Test.YtkimmfdicohoiaaArNew
import Derived.Test.YtkimmfdicohoiaaArRep2
import Derived.Deep.LoopGhost
namespace Go.Proofs.Ytkimmfdicohoiaa.Ar
open Go.RowKit Go.Shelf Mr Me Ma Wc Wm
set_option linter.unusedVariables false
set_option linter.unusedSimpArgs false
/-- The first j of n slots are linked. -/
def lnk (j n : Nat) : List (Int × Int) := (List.range n).map (fun s => (if s < j then 3 else 0, -1))
theorem lnk_len (j n : Nat) : (lnk j n).length = n := by simp [lnk]
theorem lnk_get (j n s : Nat) (h : s < n) : (lnk j n)[s]? = some (if s < j then 3 else 0, -1) := by simp [lnk, h]
theorem lnk_zero (n : Nat) : lnk 0 n = List.replicate n freeS := by
  apply List.ext_getElem?
  intro s
  by_cases h : s < n
  · rw [lnk_get _ _ _ h, List.getElem?_replicate, if_pos h]; rfl
  · rw [List.getElem?_eq_none (by rw [lnk_len]; omega), List.getElem?_eq_none (by simp; omega)]
theorem lnk_next (j n : Nat) (h : j < n) : lnk (j + 1) n = (lnk j n).set j (3, -1) := by
  apply List.ext_getElem?
  intro s
  by_cases h1 : s < n
  · by_cases h2 : s = j
    · subst h2
      rw [lnk_get _ _ _ h1, List.getElem?_set_self (by rw [lnk_len]; exact h1), if_pos (by omega)]
    · rw [lnk_get _ _ _ h1, List.getElem?_set_ne (by omega), lnk_get _ _ _ h1]
      by_cases h3 : s < j
      · rw [if_pos h3, if_pos (by omega)]
      · rw [if_neg h3, if_neg (by omega)]
  · rw [List.getElem?_eq_none (by rw [lnk_len]; omega), List.getElem?_eq_none (by simp [lnk_len]; omega)]
def Ao.newU (n t u : Nat) : Ao := ⟨lnk u n, List.replicate t []⟩
theorem new_range (c : Cf) (hc : c.ok = true) (u : Int) (hu : u < 0 ∨ c.a5 < u) (w : World) : Calls Try.prog 4 #[c.val, .int .i64 u] w fun e w' => e = .returned (.tuple #[.pointer none, .int .i64 2]) ∧ Below w.heap.size w w' := by
  have hc' : cfgB c.a0 c.a1 c.a2 c.a3 c.a4 c.a5 c.a6 = true := hc
  have C := fun w => check_any c.a0 c.a1 c.a2 c.a3 c.a4 c.a5 c.a6 w
  rw [hc', chk_t] at C
  have box : ∀ w1 : World, Below (w.heap.size + 1) (w.alloc (.cells #[.int .i64 c.a0, .int .i64 c.a1, .int .i64 c.a2, .int .i64 c.a3, .int .i64 c.a4, .int .i64 c.a5, .int .i64 c.a6] 23)) w1 → w1.cell? ⟨w.heap.size, 5, none⟩ = some (.int .i64 c.a5) := fun w1 hB => by
    have hs := hB.size
    have hb : w1.heap[w.heap.size]? = some (.cells #[.int .i64 c.a0, .int .i64 c.a1, .int .i64 c.a2, .int .i64 c.a3, .int .i64 c.a4, .int .i64 c.a5, .int .i64 c.a6] 23 (0, 0)) := (hB.block w.heap.size (by omega)).trans (heap_alloc_new w _)
    simp [World.cell?, hb]
  clear hc hc'
  unfold Cf.val
  by_cases h0 : u < 0
  · have d0 : decide (u < 0) = true := decide_eq_true h0
    clear hu
    go_enter Try.func4, Try.ntmps4
    go_wp2_with (go_at_call 10; refine (C _).mono ?_; clear C; rintro e w1 ⟨rfl, hB⟩; simp only [World.size_alloc] at hB; have y5 := box w1 hB; clear box; replace hB := Mr.hid hB)
    go_ret2
    exact ⟨rfl, ((Below.refl _ _).alloc (Nat.le_refl _) _).trans (hB.out.mono (by simp))⟩
  · have d0 : decide (u < 0) = false := decide_eq_false h0
    have d1 : decide (c.a5 < u) = true := decide_eq_true (by omega)
    clear hu
    go_enter Try.func4, Try.ntmps4
    go_wp2_with (go_at_call 10; refine (C _).mono ?_; clear C; rintro e w1 ⟨rfl, hB⟩; simp only [World.size_alloc] at hB; have y5 := box w1 hB; clear box; replace hB := Mr.hid hB)
    go_ret2
    exact ⟨rfl, ((Below.refl _ _).alloc (Nat.le_refl _) _).trans (hB.out.mono (by simp))⟩
set_option maxRecDepth 100000 in
set_option maxHeartbeats 1000000 in
theorem new_used (c : Cf) (hc : c.ok = true) (n nt u : Nat) (h5 : c.a5 = n) (h0 : c.a0 = nt) (hu : u ≤ n) (w : World) : Calls Try.prog 4 #[c.val, .int .i64 (u : Int)] w fun e w' => ∃ ba gs cs vca vs, e = .returned (.tuple #[.pointer (some ⟨ba, 0, none⟩), .int .i64 0]) ∧ Ar w' (fun k => w.heap.size ≤ k ∧ k < w'.heap.size) ba gs cs c vca vs (Ao.newU n nt u) ∧ Below w.heap.size w w' := by
  have hc' : cfgB c.a0 c.a1 c.a2 c.a3 c.a4 c.a5 c.a6 = true := hc
  obtain ⟨_, _, _, _, q5, q6, _⟩ := ok_of hc'
  have q0 : 1 ≤ nt ∧ nt ≤ 16 := by
    have : inB c.a0 1 16 = true := by simp [cfgB] at hc'; simp [hc'.1.1.1.1.1.1]
    have := inB_iff this
    omega
  have C := fun w => check_any c.a0 c.a1 c.a2 c.a3 c.a4 c.a5 c.a6 w
  rw [hc', chk_t] at C
  have RP := fun (w1 : World) => repeat_any (w1.alloc (.cells #[.int .i64 0, .int .i64 (-1)] 40)) w1.heap.size n (by omega) (by omega) (heap_alloc_new w1 _)
  simp only [World.size_alloc] at RP
  obtain ⟨i0, hi, hz0, hz1, hz2⟩ := info_parts info_ints
  have hmk : ∀ u0 : World, (Instr.makeSlice 41 (.int .i64 (nt : Int)) (.int .i64 (nt : Int))).run Try.prog u0 = .ok (.slice (some ⟨u0.heap.size, 0, none⟩) nt nt) (u0.alloc (.cells (madeCells #[.slice none 0 0] nt) 51)) := fun u0 => by
    have h := run_make (P := Try.prog) u0 41 51 i0 (.slice none 0 0) Try.underlying41 hi hz0 .i64 .i64 (nt : Int) (nt : Int) (by omega) (Int.le_refl _) (by rw [hz2]; omega) (by omega)
    have e : ((nt : Int)).toNat = nt := by omega
    rw [e] at h
    rw [hz1] at h
    simpa [Value.cells] using h
  have box : ∀ w1 : World, Below (w.heap.size + 1) (w.alloc (.cells #[.int .i64 c.a0, .int .i64 c.a1, .int .i64 c.a2, .int .i64 c.a3, .int .i64 c.a4, .int .i64 c.a5, .int .i64 c.a6] 23)) w1 → w1.cell? ⟨w.heap.size, 0, none⟩ = some (.int .i64 c.a0) ∧ w1.cell? ⟨w.heap.size, 1, none⟩ = some (.int .i64 c.a1) ∧ w1.cell? ⟨w.heap.size, 2, none⟩ = some (.int .i64 c.a2) ∧ w1.cell? ⟨w.heap.size, 3, none⟩ = some (.int .i64 c.a3) ∧ w1.cell? ⟨w.heap.size, 4, none⟩ = some (.int .i64 c.a4) ∧ w1.cell? ⟨w.heap.size, 5, none⟩ = some (.int .i64 c.a5) ∧ w1.cell? ⟨w.heap.size, 6, none⟩ = some (.int .i64 c.a6) ∧ w.heap.size < w1.heap.size := fun w1 hB => by
    have hs := hB.size
    have hb : w1.heap[w.heap.size]? = some (.cells #[.int .i64 c.a0, .int .i64 c.a1, .int .i64 c.a2, .int .i64 c.a3, .int .i64 c.a4, .int .i64 c.a5, .int .i64 c.a6] 23 (0, 0)) := (hB.block w.heap.size (by omega)).trans (heap_alloc_new w _)
    simp at hs
    simp [World.cell?, hb]
    omega
  clear hc'
  unfold Cf.val
  obtain ⟨a0, a1, a2, a3, a4, a5, a6⟩ := c
  simp only at h5 h0 q5 q6
  subst h5 h0
  simp only at C box ⊢
  have d5 : decide ((u : Int) < 0) = false := by simp
  have d6 : decide ((n : Int) < (u : Int)) = false := by simp; omega
  replace C := Mr.hid C
  replace RP := Mr.hid RP
  replace box := Mr.hid box
  go_enter Try.func4, Try.ntmps4
  go_wp2_with (first | (go_at_call 10; refine (C.out _).mono ?_; clear C; rintro e w1 ⟨rfl, hB⟩; simp only [World.size_alloc] at hB; obtain ⟨y0, y1, y2, y3, y4, y5, y6, y7⟩ := box.out w1 hB; have z5 : ∀ o, (w1.alloc o).cell? ⟨w.heap.size, 5, none⟩ = some (.int .i64 (n : Int)) := (fun o => by rw [World.cell?_alloc_past _ _ _ y7]; exact y5); have RP1 := RP.out w1; clear RP; replace RP1 := Mr.hid RP1; replace hB := Mr.hid hB) | (go_at_call 11; refine RP1.out.mono ?_; clear RP1; rintro e w2 ⟨rfl, hT, hB2⟩; clear y0 y1 y2 y3 y4 y5 y6 z5; replace hT := Mr.hid hT; replace hB2 := Mr.hid hB2))
  have hB3 : Below (w.heap.size + 1) (w.alloc (.cells #[.int .i64 (nt : Int), .int .i64 a1, .int .i64 a2, .int .i64 a3, .int .i64 a4, .int .i64 (n : Int), .int .i64 a6] 23)) w2 := (hB.out.alloc (by omega) _).trans (hB2.out.mono (by omega))
  have hmk2 := fun w3 : World => hmk w3.drew
  clear hmk
  replace hB3 := Mr.hid hB3
  replace hmk2 := Mr.hid hmk2
  go_loopg [28] u (fun k z wy => ∃ j : Nat, z = .int .i64 (j : Int) ∧ j + k = u ∧ Has wy (fun k => w1.heap.size + 1 ≤ k) 40 2 (.slice (some ⟨w1.heap.size + 1, 0, none⟩) n n) n (slc (lnk j n)) ∧ Below (w1.heap.size + 1) w2 wy)
  case atStart => exact ⟨0, rfl, by omega, by rw [lnk_zero]; exact hT.out.mono (fun k hk => hk), Below.refl _ _⟩
  case round =>
    obtain ⟨j, rfl, hj, hR, hBr⟩ := hrel
    by_cases hju : j < u
    · have dj : decide ((j : Int) < (u : Int)) = true := decide_eq_true (by omega)
      have hjn : (j : Int) < (n : Int) := by omega
      have e0 : wr.cell? ⟨w1.heap.size + 1, j * 2, none⟩ = some (.int .i64 0) := hR.cells (g := w1.heap.size + 1) rfl (j * 2 + 0) (.int .i64 0) (by unfold slc; rw [flat_get sla_len _ _ _ _ (lnk_get j n j (by omega)) (by decide), if_neg (by omega)]; rfl)
      have f0 := hR.frozen (g := w1.heap.size + 1) rfl (j * 2)
      have nx : Has (wr.setCell ⟨w1.heap.size + 1, j * 2, none⟩ (.int .i64 3)) (fun k => w1.heap.size + 1 ≤ k) 40 2 (.slice (some ⟨w1.heap.size + 1, 0, none⟩) n n) n (slc (lnk (j + 1) n)) ∧ Below (w1.heap.size + 1) w2 (wr.setCell ⟨w1.heap.size + 1, j * 2, none⟩ (.int .i64 3)) := by
        refine ⟨?_, hBr.setCell (p := ⟨w1.heap.size + 1, j * 2, none⟩) (Nat.le_refl _) _⟩
        have h1 := has_put hR (j * 2) (.int .i64 3)
        rw [lnk_next j n (by omega)]
        unfold slc at h1 ⊢
        have h2 := flat_set sla_len (lnk j n) j 0 _ (3, -1) (.int .i64 3) (lnk_get j n j (by omega)) (by decide) rfl
        rw [Nat.add_zero] at h2
        rw [← h2]
        exact h1
      replace nx := Mr.hid nx
      replace hBr := Mr.hid hBr
      replace hR := Mr.hid hR
      clear hB3 hT hB2 hmk2 box
      go_wp2
      go_roundg (gk - 1)
      case measure => omega
      case rel => exact ⟨j + 1, by simp, by omega, nx.out.1, nx.out.2⟩
    · obtain rfl : j = u := by omega
      have dj : decide ((j : Int) < (j : Int)) = false := by simp
      have hB4 : Below (w.heap.size + 1) (w.alloc (.cells #[.int .i64 (nt : Int), .int .i64 a1, .int .i64 a2, .int .i64 a3, .int .i64 a4, .int .i64 (n : Int), .int .i64 a6] 23)) wr := hB3.out.trans (hBr.mono (by omega))
      have hB24 : Below (w1.heap.size + 1) (w1.alloc (.cells #[.int .i64 0, .int .i64 (-1)] 40)) wr := hB2.out.trans hBr
      clear hB3 hT hB2 hBr
      have s24 := hB24.size
      obtain ⟨y0, y1, y2, y3, y4, y5, y6, y8⟩ := box.out wr hB4
      have hmk3 := hmk2.out wr
      clear box hmk2
      replace hB4 := Mr.hid hB4
      replace hB24 := Mr.hid hB24
      replace hR := Mr.hid hR
      clear s24
      go_wp2
      go_region_held3 (fun w' => w'.cell? ⟨w.heap.size, 0, none⟩ = some (.int .i64 (nt : Int)) ∧ w'.cell? ⟨w.heap.size, 1, none⟩ = some (.int .i64 a1) ∧ w'.cell? ⟨w.heap.size, 2, none⟩ = some (.int .i64 a2) ∧ w'.cell? ⟨w.heap.size, 3, none⟩ = some (.int .i64 a3) ∧ w'.cell? ⟨w.heap.size, 4, none⟩ = some (.int .i64 a4) ∧ w'.cell? ⟨w.heap.size, 5, none⟩ = some (.int .i64 (n : Int)) ∧ w'.cell? ⟨w.heap.size, 6, none⟩ = some (.int .i64 a6)) (go_keep) (fail)
      go_wp2
      go_ret2
      obtain ⟨W5, hW5⟩ : ∃ W5, ((wr.alloc (.cells (madeCells #[.slice none 0 0] nt) 51)).alloc (.cells #[.int .i64 (nt : Int), .int .i64 a1, .int .i64 a2, .int .i64 a3, .int .i64 a4, .int .i64 (n : Int), .int .i64 a6, .slice (some ⟨w1.heap.size + 1, 0, none⟩) n n, .slice (some ⟨wr.heap.size, 0, none⟩) nt nt] 43)).drew = W5 := ⟨_, rfl⟩
      rw [hW5]
      have s2 := hB24.out.size
      have s5 : W5.heap.size = wr.heap.size + 1 + 1 := by rw [← hW5]; simp
      have k5 : ∀ k, k < wr.heap.size → W5.heap[k]? = wr.heap[k]? := fun k hk => by rw [← hW5]; exact (Below.heap_alloc _ _ _ (by simp; omega)).trans (Below.heap_alloc _ _ _ hk)
      have kc : W5.heap[wr.heap.size]? = some (.cells (madeCells #[.slice none 0 0] nt) 51 (0, 0)) := by rw [← hW5]; exact (Below.heap_alloc _ _ _ (by simp)).trans (heap_alloc_new wr _)
      have ka : W5.heap[wr.heap.size + 1]? = some (.cells #[.int .i64 (nt : Int), .int .i64 a1, .int .i64 a2, .int .i64 a3, .int .i64 a4, .int .i64 (n : Int), .int .i64 a6, .slice (some ⟨w1.heap.size + 1, 0, none⟩) n n, .slice (some ⟨wr.heap.size, 0, none⟩) nt nt] 43 (0, 0)) := by
        rw [← hW5]
        have := heap_alloc_new (wr.alloc (.cells (madeCells #[.slice none 0 0] nt) 51)) (.cells #[.int .i64 (nt : Int), .int .i64 a1, .int .i64 a2, .int .i64 a3, .int .i64 a4, .int .i64 (n : Int), .int .i64 a6, .slice (some ⟨w1.heap.size + 1, 0, none⟩) n n, .slice (some ⟨wr.heap.size, 0, none⟩) nt nt] 43)
        rw [World.size_alloc] at this
        exact this
      have B5 : Below w.heap.size w W5 := by
        have b1 : Below w.heap.size w wr := ((Below.refl _ _).alloc (Nat.le_refl _) _).trans (hB4.out.mono (by omega))
        rw [← hW5]
        exact ((b1.alloc (by omega) _).alloc (by simp; omega) _).drew
      have hmc : (madeCells #[Value.slice none 0 0] nt).toList = List.replicate nt (.slice none 0 0) := by
        apply List.ext_getElem
        · simp [size_madeCells]
        · intro j h1 h2
          simp [madeCells, Nat.mod_one]
      refine ⟨wr.heap.size + 1, w1.heap.size + 1, n, .slice (some ⟨wr.heap.size, 0, none⟩) nt nt, List.replicate nt (.slice none 0 0), rfl, ⟨?_, ?_, ?_, ?_, ?_, ?_, hc, ?_⟩, B5⟩
      · simpa [Ao.newU, lnk_len] using ka
      · have e1 : (Ao.newU n nt j).sl.length = n := by simp [Ao.newU, lnk_len]
        rw [e1]
        have hT' := hR.out
        exact hT'.kept (fun k hk => k5 k (hT'.lt k hk).2) (fun k hk => by have := hT'.lt k hk; exact ⟨by omega, by omega⟩)
      · have e1 : (Ao.newU n nt j).ca.length = nt := by simp [Ao.newU, lnk_len]
        rw [e1]
        refine ⟨by simp, .inr ⟨wr.heap.size, nt, _, rfl, ⟨by omega, by omega⟩, kc, Nat.le_refl _, by unfold maxLen; omega, by simp [size_madeCells], ?_⟩⟩
        rw [hmc]
        simp
      · intro i v l hv hl
        have e1 : v = .slice none 0 0 := (List.mem_replicate.1 (List.mem_of_getElem? hv)).2
        have e2 : l = [] := by
          have hl' : (List.replicate nt ([] : List Int))[i]? = some l := hl
          exact (List.mem_replicate.1 (List.mem_of_getElem? hl')).2
        subst e1 e2
        exact Has.nil _ _ _ _
      · intro i j v v' k hv _ e1
        have e2 : v = .slice none 0 0 := (List.mem_replicate.1 (List.mem_of_getElem? hv)).2
        subst e2
        simp [Value.ownBlock] at e1
      · exact ⟨by omega, by omega⟩
      · simp [Ao.newU, lnk_len]
end Go.Proofs.Ytkimmfdicohoiaa.Ar
