/-
  DEQUE: the document's Plain (a push).
-/
import Derived.Test.YtaojggnflblgnaaHdPlainP
import Derived.Test.YtaojggnflblgnaaHdExpl
namespace Go.Proofs.Ytaojggnflblgnaa.Hd
open Go.RowKit Mr Md
set_option linter.unusedVariables false
set_option linter.unusedSimpArgs false
set_option maxRecDepth 100000
set_option maxHeartbeats 32000000 in
theorem plain_done_same (rm : Int) (vs : List Int) (c : Cq) (hn : vs.length ≤ 100000) (h1 : c.op = 90) (h2 : ¬ rm ≤ (vs.length : Int)) (h5 : c.fin ≠ -1) (h7 : c.ak = 1) (h8 : c.av = 0) : PlO rm vs c := by
  intro T a cap w hv
  have e1 : atO rm vs c = (vs ++ [c.arg], 1, 0) := by unfold atO; rw [if_neg (fun h => h2 h.2), if_pos h1]
  rw [e1]
  clear e1
  obtain ⟨i0, hi0, hz0, hz1, hz2⟩ := Dq.info_i
  have hsrc := sl_src hv
  obtain ⟨c0, hc0⟩ : ∃ x, x = c := ⟨_, rfl⟩
  have hok : ∀ k x : Int, okA c (k, x) = (decide (c.fin = -1) || (decide (c.ak = k) && decide (c.av = x))) := fun _ _ => rfl
  rw [hok]
  clear hok hc0 c0
  obtain ⟨ob, hob⟩ : ∃ b8 : Bool, b8 = (decide (c.fin = -1) || (decide (c.ak = 1) && decide (c.av = 0))) := ⟨_, rfl⟩
  rw [← hob]
  have CQ := cqO_cells (new_at w (cqO c) w.heap.size rfl)
  have BQ := b1b (w := w) (cqO c)
  obtain ⟨a0, a1, a2, a3, a4, a5, a6, a7, a8⟩ := c
  unfold cqO at CQ BQ
  unfold Cq.val
  simp only at *
  have e5 : (a5 == -1) = false := by simp [h5]
  have e7 : (a7 == 1) = true := by simp [h7]
  (try rw [hxd] at h8)
  have e8 : (a8 == 0) = true := by simp [h8]
  have hr : Hid (ob = true) := Mr.hid (by rw [hob]; simp [h5, h7, h8])
  clear h5 h7 h8
  have q1 : (a1 == 90) = true := by simp [h1]
  have q2 : decide (rm ≤ (vs.length : Int)) = false := by simp; omega
  clear h1 h2
  replace hob := Mr.hid hob
  have hlw := CQ.lt
  have hS0 := Mr.hid (fun ad e j u hu => (BQ.cell (p := Addr.add ad j) (by
    obtain ⟨b8, o8, c8, e8, _, _, h8, _⟩ := hv.there (by have := (List.getElem?_eq_some_iff.1 hu).1; rw [ints_len] at this; omega)
    cases e8; cases e; rw [add1]; exact h8)).trans (hsrc.2 ad e j u hu))
  obtain ⟨n, hnn⟩ : ∃ n, n = vs.length := ⟨_, rfl⟩
  have hsrc1 := Mr.hid hsrc.1
  replace hnn := Mr.hid hnn
  replace hv := Mr.hid hv
  clear hsrc
  go_enter Try.func18, Try.ntmps18
  go_upto_region 1 with (fail)
  generalize World.alloc _ _ = wb at *
  obtain ⟨_, x0, x1, x2, x3, x4, x5, x6, x7, x8⟩ := CQ
  simp only [Nat.zero_add] at x1 x2 x3 x4 x5 x6 x7 x8
  have BQ' := Mr.hid BQ
  clear BQ
  go_upto_region 4 with (at_builtin; refine wpList_append_mine _ rfl (.tmp 13) (.tmp 14) 37 rfl (fun k => wb.heap.size ≤ k) 3 i0 _ 1 8 Try.underlying37 hi0 hz0 hz1 hz2 rfl _ 0 [] rfl (Own.zero _ _ _ _ _) a vs.length cap (ints vs) rfl (by rw [ints_len, Nat.mul_one]) hsrc1.out hS0.out (ints_one vs) (by unfold maxLen; omega) (by omega) ?_; intro b9 cap9 w9 hown hfr; rw [Nat.zero_add, List.nil_append] at hown; rw [Nat.zero_add]; have hX := Mr.hid hown; have hF := Mr.hid hfr; clear hown hfr)
  have B9 : Below wb.heap.size wb w9 := hF.out.below (fun k hk => hk) (Nat.le_refl _)
  have y1 := (B9.cell (p := ⟨w.heap.size, _, none⟩) hlw).trans x1
  have y2 := (B9.cell (p := ⟨w.heap.size, _, none⟩) hlw).trans x2
  have y5 := (B9.cell (p := ⟨w.heap.size, _, none⟩) hlw).trans x5
  have y7 := (B9.cell (p := ⟨w.heap.size, _, none⟩) hlw).trans x7
  have y8 := (B9.cell (p := ⟨w.heap.size, _, none⟩) hlw).trans x8
  have B0 : Hid (Below w.heap.size w w9) := Mr.hid (BQ'.out.trans (B9.mono BQ'.out.size))
  have hX' : Hid (Own w9 (fun k => w.heap.size ≤ k) 3 1 (.slice b9 vs.length cap9) vs.length (ints vs)) := Mr.hid (hX.out.mono (fun k hk => by
    have hk' : wb.heap.size ≤ k := by rcases hk with hk | hk <;> omega
    exact Nat.le_trans BQ'.out.size hk'))
  have hXb : Hid (Own w9 (fun k => wb.heap.size ≤ k) 3 1 (.slice b9 vs.length cap9) vs.length (ints vs)) := Mr.hid (hX.out.mono (fun k hk => by rcases hk with hk | hk <;> omega))
  have H9 := hF
  clear x0 x1 x2 x3 x4 x5 x6 x7 x8 B9 hX hF hS0 hsrc1
  have lw9 : wb.heap.size ≤ w9.heap.size := H9.out.size
  have OW : Hid (∀ o, Own (w9.drew.alloc o) (fun k => wb.heap.size ≤ k) 3 1 (.slice b9 vs.length cap9) vs.length (ints vs)) := Mr.hid (fun o => (hXb.out).below (((Below.refl _ _).drew).alloc (Nat.le_refl _) o))
  have NW := Mr.hid (new1 (W := w9.drew) (b := w9.drew.heap.size) (x := .int .i64 a2) (t := 3) rfl)
  have hl0 : Hid (w.heap.size < (w9.drew.alloc (.cells #[.int .i64 a2] 3 (0, 0))).heap.size) := by show _ < _; simp; omega
  have hS0 : Hid (¬ wb.heap.size ≤ w.heap.size) := by show ¬ _; omega
  have y7d : Hid (∀ o, (w9.drew.alloc o).cell? ⟨w.heap.size, 7, none⟩ = some (.int .i64 a7)) := Mr.hid (fun o => ((((Below.refl _ _).drew).alloc (Nat.le_refl _) o).cell (p := ⟨w.heap.size, 7, none⟩) (by show w.heap.size < w9.heap.size; omega)).trans y7)
  have y8d : Hid (∀ o, (w9.drew.alloc o).cell? ⟨w.heap.size, 8, none⟩ = some (.int .i64 a8)) := Mr.hid (fun o => ((((Below.refl _ _).drew).alloc (Nat.le_refl _) o).cell (p := ⟨w.heap.size, 8, none⟩) (by show w.heap.size < w9.heap.size; omega)).trans y8)
  have FIN : Hid (∀ (b3 : Option Addr) (c3 : Nat) (w3 : World), Own w3 (fun k => wb.heap.size ≤ k ∨ k = (w9.drew.alloc (.cells #[.int .i64 a2] 3 (0, 0))).heap.size) 3 1 (.slice b3 (vs.length + 1) c3) (vs.length + 1) (ints vs ++ [.int .i64 a2]) → Fr (w9.drew.alloc (.cells #[.int .i64 a2] 3 (0, 0))) w3 (fun k => wb.heap.size ≤ k) → Own w3 (fun k => w.heap.size ≤ k) 3 1 (.slice b3 (vs.length + 1) c3) (vs ++ [a2]).length (ints (vs ++ [a2])) ∧ Below w.heap.size w w3) := Mr.hid (fun b3 c3 w3 h1 h2 => by
    have e : ints (vs ++ [a2]) = ints vs ++ [.int .i64 a2] := by simp [ints]
    rw [e, List.length_append]
    refine ⟨h1.mono (fun k hk => ?_), ?_⟩
    · rcases hk with hk | hk
      · omega
      · rw [hk]; simp; omega
    · have hb : Below w.heap.size w (w9.drew.alloc (.cells #[.int .i64 a2] 3 (0, 0))) := B0.out.drew.alloc B0.out.size _
      exact hb.trans (h2.below (fun k hk => by omega) hb.size))
  go_upto_region 7 with (fail)
  go_region_law (first | (refine step_append_mine _ rfl (.tmp 38) (.tmp 41) 37 rfl (fun k => wb.heap.size ≤ k) 3 i0 _ 1 8 Try.underlying37 hi0 hz0 hz1 hz2 rfl (.slice b9 vs.length cap9) vs.length (ints vs) (by first | rfl | simp [Act.eval]) (OW.out _) (some ⟨w9.drew.heap.size, 0, none⟩) 1 1 [.int .i64 a2] (by first | rfl | simp [Act.eval]) rfl (fun e => by cases e) NW.out (by simp [Value.oneCell']) (by unfold maxLen; omega) (by omega) ?_; intro b3 c3 w3 hown3 hfr3; have z7 := (fr_cell (j := 7) hfr3 hl0.out hS0.out).trans (y7d.out _); have z8 := (fr_cell (j := 8) hfr3 hl0.out hS0.out).trans (y8d.out _)))
  all_goals
    have hO4 := Mr.hid (FIN.out _ _ _ hown3 hfr3)
    go_wp2
    go_ret2
    exact ⟨.slice b3 (vs.length + 1) c3, by rw [hr.out]; rfl, hO4.out.1, hO4.out.2⟩
set_option maxHeartbeats 32000000 in
theorem plain_done_kind (rm : Int) (vs : List Int) (c : Cq) (hn : vs.length ≤ 100000) (h1 : c.op = 90) (h2 : ¬ rm ≤ (vs.length : Int)) (h5 : c.fin ≠ -1) (h7 : c.ak ≠ 1) : PlO rm vs c := by
  intro T a cap w hv
  have e1 : atO rm vs c = (vs ++ [c.arg], 1, 0) := by unfold atO; rw [if_neg (fun h => h2 h.2), if_pos h1]
  rw [e1]
  clear e1
  obtain ⟨i0, hi0, hz0, hz1, hz2⟩ := Dq.info_i
  have hsrc := sl_src hv
  obtain ⟨c0, hc0⟩ : ∃ x, x = c := ⟨_, rfl⟩
  have hok : ∀ k x : Int, okA c (k, x) = (decide (c.fin = -1) || (decide (c.ak = k) && decide (c.av = x))) := fun _ _ => rfl
  rw [hok]
  clear hok hc0 c0
  obtain ⟨ob, hob⟩ : ∃ b8 : Bool, b8 = (decide (c.fin = -1) || (decide (c.ak = 1) && decide (c.av = 0))) := ⟨_, rfl⟩
  rw [← hob]
  have CQ := cqO_cells (new_at w (cqO c) w.heap.size rfl)
  have BQ := b1b (w := w) (cqO c)
  obtain ⟨a0, a1, a2, a3, a4, a5, a6, a7, a8⟩ := c
  unfold cqO at CQ BQ
  unfold Cq.val
  simp only at *
  have e5 : (a5 == -1) = false := by simp [h5]
  have e7 : (a7 == 1) = false := by simp [h7]
  have hr : Hid (ob = false) := Mr.hid (by rw [hob]; simp [h5, h7])
  clear h5 h7
  have q1 : (a1 == 90) = true := by simp [h1]
  have q2 : decide (rm ≤ (vs.length : Int)) = false := by simp; omega
  clear h1 h2
  replace hob := Mr.hid hob
  have hlw := CQ.lt
  have hS0 := Mr.hid (fun ad e j u hu => (BQ.cell (p := Addr.add ad j) (by
    obtain ⟨b8, o8, c8, e8, _, _, h8, _⟩ := hv.there (by have := (List.getElem?_eq_some_iff.1 hu).1; rw [ints_len] at this; omega)
    cases e8; cases e; rw [add1]; exact h8)).trans (hsrc.2 ad e j u hu))
  obtain ⟨n, hnn⟩ : ∃ n, n = vs.length := ⟨_, rfl⟩
  have hsrc1 := Mr.hid hsrc.1
  replace hnn := Mr.hid hnn
  replace hv := Mr.hid hv
  clear hsrc
  go_enter Try.func18, Try.ntmps18
  go_upto_region 1 with (fail)
  generalize World.alloc _ _ = wb at *
  obtain ⟨_, x0, x1, x2, x3, x4, x5, x6, x7, x8⟩ := CQ
  simp only [Nat.zero_add] at x1 x2 x3 x4 x5 x6 x7 x8
  have BQ' := Mr.hid BQ
  clear BQ
  go_upto_region 4 with (at_builtin; refine wpList_append_mine _ rfl (.tmp 13) (.tmp 14) 37 rfl (fun k => wb.heap.size ≤ k) 3 i0 _ 1 8 Try.underlying37 hi0 hz0 hz1 hz2 rfl _ 0 [] rfl (Own.zero _ _ _ _ _) a vs.length cap (ints vs) rfl (by rw [ints_len, Nat.mul_one]) hsrc1.out hS0.out (ints_one vs) (by unfold maxLen; omega) (by omega) ?_; intro b9 cap9 w9 hown hfr; rw [Nat.zero_add, List.nil_append] at hown; rw [Nat.zero_add]; have hX := Mr.hid hown; have hF := Mr.hid hfr; clear hown hfr)
  have B9 : Below wb.heap.size wb w9 := hF.out.below (fun k hk => hk) (Nat.le_refl _)
  have y1 := (B9.cell (p := ⟨w.heap.size, _, none⟩) hlw).trans x1
  have y2 := (B9.cell (p := ⟨w.heap.size, _, none⟩) hlw).trans x2
  have y5 := (B9.cell (p := ⟨w.heap.size, _, none⟩) hlw).trans x5
  have y7 := (B9.cell (p := ⟨w.heap.size, _, none⟩) hlw).trans x7
  have y8 := (B9.cell (p := ⟨w.heap.size, _, none⟩) hlw).trans x8
  have B0 : Hid (Below w.heap.size w w9) := Mr.hid (BQ'.out.trans (B9.mono BQ'.out.size))
  have hX' : Hid (Own w9 (fun k => w.heap.size ≤ k) 3 1 (.slice b9 vs.length cap9) vs.length (ints vs)) := Mr.hid (hX.out.mono (fun k hk => by
    have hk' : wb.heap.size ≤ k := by rcases hk with hk | hk <;> omega
    exact Nat.le_trans BQ'.out.size hk'))
  have hXb : Hid (Own w9 (fun k => wb.heap.size ≤ k) 3 1 (.slice b9 vs.length cap9) vs.length (ints vs)) := Mr.hid (hX.out.mono (fun k hk => by rcases hk with hk | hk <;> omega))
  have H9 := hF
  clear x0 x1 x2 x3 x4 x5 x6 x7 x8 B9 hX hF hS0 hsrc1
  have lw9 : wb.heap.size ≤ w9.heap.size := H9.out.size
  have OW : Hid (∀ o, Own (w9.drew.alloc o) (fun k => wb.heap.size ≤ k) 3 1 (.slice b9 vs.length cap9) vs.length (ints vs)) := Mr.hid (fun o => (hXb.out).below (((Below.refl _ _).drew).alloc (Nat.le_refl _) o))
  have NW := Mr.hid (new1 (W := w9.drew) (b := w9.drew.heap.size) (x := .int .i64 a2) (t := 3) rfl)
  have hl0 : Hid (w.heap.size < (w9.drew.alloc (.cells #[.int .i64 a2] 3 (0, 0))).heap.size) := by show _ < _; simp; omega
  have hS0 : Hid (¬ wb.heap.size ≤ w.heap.size) := by show ¬ _; omega
  have y7d : Hid (∀ o, (w9.drew.alloc o).cell? ⟨w.heap.size, 7, none⟩ = some (.int .i64 a7)) := Mr.hid (fun o => ((((Below.refl _ _).drew).alloc (Nat.le_refl _) o).cell (p := ⟨w.heap.size, 7, none⟩) (by show w.heap.size < w9.heap.size; omega)).trans y7)
  have y8d : Hid (∀ o, (w9.drew.alloc o).cell? ⟨w.heap.size, 8, none⟩ = some (.int .i64 a8)) := Mr.hid (fun o => ((((Below.refl _ _).drew).alloc (Nat.le_refl _) o).cell (p := ⟨w.heap.size, 8, none⟩) (by show w.heap.size < w9.heap.size; omega)).trans y8)
  have FIN : Hid (∀ (b3 : Option Addr) (c3 : Nat) (w3 : World), Own w3 (fun k => wb.heap.size ≤ k ∨ k = (w9.drew.alloc (.cells #[.int .i64 a2] 3 (0, 0))).heap.size) 3 1 (.slice b3 (vs.length + 1) c3) (vs.length + 1) (ints vs ++ [.int .i64 a2]) → Fr (w9.drew.alloc (.cells #[.int .i64 a2] 3 (0, 0))) w3 (fun k => wb.heap.size ≤ k) → Own w3 (fun k => w.heap.size ≤ k) 3 1 (.slice b3 (vs.length + 1) c3) (vs ++ [a2]).length (ints (vs ++ [a2])) ∧ Below w.heap.size w w3) := Mr.hid (fun b3 c3 w3 h1 h2 => by
    have e : ints (vs ++ [a2]) = ints vs ++ [.int .i64 a2] := by simp [ints]
    rw [e, List.length_append]
    refine ⟨h1.mono (fun k hk => ?_), ?_⟩
    · rcases hk with hk | hk
      · omega
      · rw [hk]; simp; omega
    · have hb : Below w.heap.size w (w9.drew.alloc (.cells #[.int .i64 a2] 3 (0, 0))) := B0.out.drew.alloc B0.out.size _
      exact hb.trans (h2.below (fun k hk => by omega) hb.size))
  go_upto_region 7 with (fail)
  go_region_law (first | (refine step_append_mine _ rfl (.tmp 38) (.tmp 41) 37 rfl (fun k => wb.heap.size ≤ k) 3 i0 _ 1 8 Try.underlying37 hi0 hz0 hz1 hz2 rfl (.slice b9 vs.length cap9) vs.length (ints vs) (by first | rfl | simp [Act.eval]) (OW.out _) (some ⟨w9.drew.heap.size, 0, none⟩) 1 1 [.int .i64 a2] (by first | rfl | simp [Act.eval]) rfl (fun e => by cases e) NW.out (by simp [Value.oneCell']) (by unfold maxLen; omega) (by omega) ?_; intro b3 c3 w3 hown3 hfr3; have z7 := (fr_cell (j := 7) hfr3 hl0.out hS0.out).trans (y7d.out _); have z8 := (fr_cell (j := 8) hfr3 hl0.out hS0.out).trans (y8d.out _)))
  all_goals
    have hO4 := Mr.hid (FIN.out _ _ _ hown3 hfr3)
    go_wp2
    go_ret2
    exact ⟨.slice b3 (vs.length + 1) c3, by rw [hr.out]; rfl, hO4.out.1, hO4.out.2⟩
set_option maxHeartbeats 32000000 in
theorem plain_done_value (rm : Int) (vs : List Int) (c : Cq) (hn : vs.length ≤ 100000) (h1 : c.op = 90) (h2 : ¬ rm ≤ (vs.length : Int)) (h5 : c.fin ≠ -1) (h7 : c.ak = 1) (h8 : c.av ≠ 0) : PlO rm vs c := by
  intro T a cap w hv
  have e1 : atO rm vs c = (vs ++ [c.arg], 1, 0) := by unfold atO; rw [if_neg (fun h => h2 h.2), if_pos h1]
  rw [e1]
  clear e1
  obtain ⟨i0, hi0, hz0, hz1, hz2⟩ := Dq.info_i
  have hsrc := sl_src hv
  obtain ⟨c0, hc0⟩ : ∃ x, x = c := ⟨_, rfl⟩
  have hok : ∀ k x : Int, okA c (k, x) = (decide (c.fin = -1) || (decide (c.ak = k) && decide (c.av = x))) := fun _ _ => rfl
  rw [hok]
  clear hok hc0 c0
  obtain ⟨ob, hob⟩ : ∃ b8 : Bool, b8 = (decide (c.fin = -1) || (decide (c.ak = 1) && decide (c.av = 0))) := ⟨_, rfl⟩
  rw [← hob]
  have CQ := cqO_cells (new_at w (cqO c) w.heap.size rfl)
  have BQ := b1b (w := w) (cqO c)
  obtain ⟨a0, a1, a2, a3, a4, a5, a6, a7, a8⟩ := c
  unfold cqO at CQ BQ
  unfold Cq.val
  simp only at *
  have e5 : (a5 == -1) = false := by simp [h5]
  have e7 : (a7 == 1) = true := by simp [h7]
  (try rw [hxd] at h8)
  have e8 : (a8 == 0) = false := by simp [h8]
  have hr : Hid (ob = false) := Mr.hid (by rw [hob]; simp [h5, h7, h8])
  clear h5 h7 h8
  have q1 : (a1 == 90) = true := by simp [h1]
  have q2 : decide (rm ≤ (vs.length : Int)) = false := by simp; omega
  clear h1 h2
  replace hob := Mr.hid hob
  have hlw := CQ.lt
  have hS0 := Mr.hid (fun ad e j u hu => (BQ.cell (p := Addr.add ad j) (by
    obtain ⟨b8, o8, c8, e8, _, _, h8, _⟩ := hv.there (by have := (List.getElem?_eq_some_iff.1 hu).1; rw [ints_len] at this; omega)
    cases e8; cases e; rw [add1]; exact h8)).trans (hsrc.2 ad e j u hu))
  obtain ⟨n, hnn⟩ : ∃ n, n = vs.length := ⟨_, rfl⟩
  have hsrc1 := Mr.hid hsrc.1
  replace hnn := Mr.hid hnn
  replace hv := Mr.hid hv
  clear hsrc
  go_enter Try.func18, Try.ntmps18
  go_upto_region 1 with (fail)
  generalize World.alloc _ _ = wb at *
  obtain ⟨_, x0, x1, x2, x3, x4, x5, x6, x7, x8⟩ := CQ
  simp only [Nat.zero_add] at x1 x2 x3 x4 x5 x6 x7 x8
  have BQ' := Mr.hid BQ
  clear BQ
  go_upto_region 4 with (at_builtin; refine wpList_append_mine _ rfl (.tmp 13) (.tmp 14) 37 rfl (fun k => wb.heap.size ≤ k) 3 i0 _ 1 8 Try.underlying37 hi0 hz0 hz1 hz2 rfl _ 0 [] rfl (Own.zero _ _ _ _ _) a vs.length cap (ints vs) rfl (by rw [ints_len, Nat.mul_one]) hsrc1.out hS0.out (ints_one vs) (by unfold maxLen; omega) (by omega) ?_; intro b9 cap9 w9 hown hfr; rw [Nat.zero_add, List.nil_append] at hown; rw [Nat.zero_add]; have hX := Mr.hid hown; have hF := Mr.hid hfr; clear hown hfr)
  have B9 : Below wb.heap.size wb w9 := hF.out.below (fun k hk => hk) (Nat.le_refl _)
  have y1 := (B9.cell (p := ⟨w.heap.size, _, none⟩) hlw).trans x1
  have y2 := (B9.cell (p := ⟨w.heap.size, _, none⟩) hlw).trans x2
  have y5 := (B9.cell (p := ⟨w.heap.size, _, none⟩) hlw).trans x5
  have y7 := (B9.cell (p := ⟨w.heap.size, _, none⟩) hlw).trans x7
  have y8 := (B9.cell (p := ⟨w.heap.size, _, none⟩) hlw).trans x8
  have B0 : Hid (Below w.heap.size w w9) := Mr.hid (BQ'.out.trans (B9.mono BQ'.out.size))
  have hX' : Hid (Own w9 (fun k => w.heap.size ≤ k) 3 1 (.slice b9 vs.length cap9) vs.length (ints vs)) := Mr.hid (hX.out.mono (fun k hk => by
    have hk' : wb.heap.size ≤ k := by rcases hk with hk | hk <;> omega
    exact Nat.le_trans BQ'.out.size hk'))
  have hXb : Hid (Own w9 (fun k => wb.heap.size ≤ k) 3 1 (.slice b9 vs.length cap9) vs.length (ints vs)) := Mr.hid (hX.out.mono (fun k hk => by rcases hk with hk | hk <;> omega))
  have H9 := hF
  clear x0 x1 x2 x3 x4 x5 x6 x7 x8 B9 hX hF hS0 hsrc1
  have lw9 : wb.heap.size ≤ w9.heap.size := H9.out.size
  have OW : Hid (∀ o, Own (w9.drew.alloc o) (fun k => wb.heap.size ≤ k) 3 1 (.slice b9 vs.length cap9) vs.length (ints vs)) := Mr.hid (fun o => (hXb.out).below (((Below.refl _ _).drew).alloc (Nat.le_refl _) o))
  have NW := Mr.hid (new1 (W := w9.drew) (b := w9.drew.heap.size) (x := .int .i64 a2) (t := 3) rfl)
  have hl0 : Hid (w.heap.size < (w9.drew.alloc (.cells #[.int .i64 a2] 3 (0, 0))).heap.size) := by show _ < _; simp; omega
  have hS0 : Hid (¬ wb.heap.size ≤ w.heap.size) := by show ¬ _; omega
  have y7d : Hid (∀ o, (w9.drew.alloc o).cell? ⟨w.heap.size, 7, none⟩ = some (.int .i64 a7)) := Mr.hid (fun o => ((((Below.refl _ _).drew).alloc (Nat.le_refl _) o).cell (p := ⟨w.heap.size, 7, none⟩) (by show w.heap.size < w9.heap.size; omega)).trans y7)
  have y8d : Hid (∀ o, (w9.drew.alloc o).cell? ⟨w.heap.size, 8, none⟩ = some (.int .i64 a8)) := Mr.hid (fun o => ((((Below.refl _ _).drew).alloc (Nat.le_refl _) o).cell (p := ⟨w.heap.size, 8, none⟩) (by show w.heap.size < w9.heap.size; omega)).trans y8)
  have FIN : Hid (∀ (b3 : Option Addr) (c3 : Nat) (w3 : World), Own w3 (fun k => wb.heap.size ≤ k ∨ k = (w9.drew.alloc (.cells #[.int .i64 a2] 3 (0, 0))).heap.size) 3 1 (.slice b3 (vs.length + 1) c3) (vs.length + 1) (ints vs ++ [.int .i64 a2]) → Fr (w9.drew.alloc (.cells #[.int .i64 a2] 3 (0, 0))) w3 (fun k => wb.heap.size ≤ k) → Own w3 (fun k => w.heap.size ≤ k) 3 1 (.slice b3 (vs.length + 1) c3) (vs ++ [a2]).length (ints (vs ++ [a2])) ∧ Below w.heap.size w w3) := Mr.hid (fun b3 c3 w3 h1 h2 => by
    have e : ints (vs ++ [a2]) = ints vs ++ [.int .i64 a2] := by simp [ints]
    rw [e, List.length_append]
    refine ⟨h1.mono (fun k hk => ?_), ?_⟩
    · rcases hk with hk | hk
      · omega
      · rw [hk]; simp; omega
    · have hb : Below w.heap.size w (w9.drew.alloc (.cells #[.int .i64 a2] 3 (0, 0))) := B0.out.drew.alloc B0.out.size _
      exact hb.trans (h2.below (fun k hk => by omega) hb.size))
  go_upto_region 7 with (fail)
  go_region_law (first | (refine step_append_mine _ rfl (.tmp 38) (.tmp 41) 37 rfl (fun k => wb.heap.size ≤ k) 3 i0 _ 1 8 Try.underlying37 hi0 hz0 hz1 hz2 rfl (.slice b9 vs.length cap9) vs.length (ints vs) (by first | rfl | simp [Act.eval]) (OW.out _) (some ⟨w9.drew.heap.size, 0, none⟩) 1 1 [.int .i64 a2] (by first | rfl | simp [Act.eval]) rfl (fun e => by cases e) NW.out (by simp [Value.oneCell']) (by unfold maxLen; omega) (by omega) ?_; intro b3 c3 w3 hown3 hfr3; have z7 := (fr_cell (j := 7) hfr3 hl0.out hS0.out).trans (y7d.out _); have z8 := (fr_cell (j := 8) hfr3 hl0.out hS0.out).trans (y8d.out _)))
  all_goals
    have hO4 := Mr.hid (FIN.out _ _ _ hown3 hfr3)
    go_wp2
    go_ret2
    exact ⟨.slice b3 (vs.length + 1) c3, by rw [hr.out]; rfl, hO4.out.1, hO4.out.2⟩
end Go.Proofs.Ytaojggnflblgnaa.Hd
