/-
  DEQUE: the document's Plain (the first).
-/
import Derived.Test.YtaojggnflblgnaaHdPlainP
namespace Go.Proofs.Ytaojggnflblgnaa.Hd
open Go.RowKit Mr Md
set_option linter.unusedVariables false
set_option linter.unusedSimpArgs false
set_option maxRecDepth 100000
set_option maxHeartbeats 32000000 in
theorem plain_tail_open (rm : Int) (vs : List Int) (c : Cq) (hn : vs.length ≤ 100000) (h1 : c.op ≠ 90) (h0 : c.op ≠ 91) (h2 : vs.length ≠ 0) (h5 : c.fin = -1) : PlO rm vs c := by
  intro T a cap w hv
  have e1 : atO rm vs c = (vs.drop 1, 2, (vs[0]?).getD 0) := by unfold atO; rw [if_neg (fun h => h1 h.1), if_neg h1, if_neg h2, if_neg h0]
  rw [e1]
  clear e1
  obtain ⟨i0, hi0, hz0, hz1, hz2⟩ := Dq.info_i
  have hsrc := sl_src hv
  obtain ⟨c0, hc0⟩ : ∃ x, x = c := ⟨_, rfl⟩
  have hok : ∀ k x : Int, okA c (k, x) = (decide (c.fin = -1) || (decide (c.ak = k) && decide (c.av = x))) := fun _ _ => rfl
  rw [hok]
  clear hok hc0 c0
  obtain ⟨x, hx⟩ : ∃ x, vs[0]? = some x := ⟨_, List.getElem?_eq_getElem (by omega)⟩
  have hxd : (vs[0]?).getD 0 = x := by rw [hx]; rfl
  rw [hxd]
  obtain ⟨ob, hob⟩ : ∃ b8 : Bool, b8 = (decide (c.fin = -1) || (decide (c.ak = 2) && decide (c.av = x))) := ⟨_, rfl⟩
  rw [← hob]
  have CQ := cqO_cells (new_at w (cqO c) w.heap.size rfl)
  have BQ := b1b (w := w) (cqO c)
  obtain ⟨a0, a1, a2, a3, a4, a5, a6, a7, a8⟩ := c
  unfold cqO at CQ BQ
  unfold Cq.val
  simp only at *
  have e5 : (a5 == -1) = true := by simp [h5]
  have hr : Hid (ob = true) := Mr.hid (by rw [hob]; simp [h5])
  clear h5
  have q1 : (a1 == 90) = false := by simp [h1]
  have q2 : (a1 == 91) = false := by simp [h0]
  have q3 : ((vs.length : Int) == 0) = false := by simp; intro h; exact h2 (by simp [h])
  replace hx := Mr.hid hx
  have q4 : 1 ≤ vs.length := by omega
  have q5 : (1 : Int) ≤ (vs.length : Int) := by omega
  have q5' : (0 : Int) < (vs.length : Int) := by omega
  have q5'' : 0 < vs.length := by omega
  have hlm : Hid ((vs.drop 1).length = vs.length - 1) := Mr.hid (by rw [List.length_drop])
  clear h1 h2 h0
  replace hob := Mr.hid hob
  have hlw := CQ.lt
  have hS0 := Mr.hid (fun ad e j u hu => (BQ.cell (p := Addr.add ad j) (by
    obtain ⟨b8, o8, c8, e8, _, _, h8, _⟩ := hv.there (by have := (List.getElem?_eq_some_iff.1 hu).1; rw [ints_len] at this; omega)
    cases e8; cases e; rw [add1]; exact h8)).trans (hsrc.2 ad e j u hu))
  obtain ⟨n, hnn⟩ : ∃ n, n = vs.length := ⟨_, rfl⟩
  have hsrc1 := Mr.hid hsrc.1
  replace hnn := Mr.hid hnn
  replace hv := Mr.hid hv
  clear hsrc
  go_enter Try.func18, Try.ntmps18
  go_upto_region 1 with (fail)
  generalize World.alloc _ _ = wb at *
  obtain ⟨_, x0, x1, x2, x3, x4, x5, x6, x7, x8⟩ := CQ
  simp only [Nat.zero_add] at x1 x2 x3 x4 x5 x6 x7 x8
  have BQ' := Mr.hid BQ
  clear BQ
  go_upto_region 4 with (at_builtin; refine wpList_append_mine _ rfl (.tmp 13) (.tmp 14) 37 rfl (fun k => wb.heap.size ≤ k) 3 i0 _ 1 8 Try.underlying37 hi0 hz0 hz1 hz2 rfl _ 0 [] rfl (Own.zero _ _ _ _ _) a vs.length cap (ints vs) rfl (by rw [ints_len, Nat.mul_one]) hsrc1.out hS0.out (ints_one vs) (by unfold maxLen; omega) (by omega) ?_; intro b9 cap9 w9 hown hfr; rw [Nat.zero_add, List.nil_append] at hown; rw [Nat.zero_add]; have hX := Mr.hid hown; have hF := Mr.hid hfr; clear hown hfr)
  have B9 : Below wb.heap.size wb w9 := hF.out.below (fun k hk => hk) (Nat.le_refl _)
  have y1 := (B9.cell (p := ⟨w.heap.size, _, none⟩) hlw).trans x1
  have y2 := (B9.cell (p := ⟨w.heap.size, _, none⟩) hlw).trans x2
  have y5 := (B9.cell (p := ⟨w.heap.size, _, none⟩) hlw).trans x5
  have y7 := (B9.cell (p := ⟨w.heap.size, _, none⟩) hlw).trans x7
  have y8 := (B9.cell (p := ⟨w.heap.size, _, none⟩) hlw).trans x8
  have B0 : Hid (Below w.heap.size w w9) := Mr.hid (BQ'.out.trans (B9.mono BQ'.out.size))
  have hX' : Hid (Own w9 (fun k => w.heap.size ≤ k) 3 1 (.slice b9 vs.length cap9) vs.length (ints vs)) := Mr.hid (hX.out.mono (fun k hk => by
    have hk' : wb.heap.size ≤ k := by rcases hk with hk | hk <;> omega
    exact Nat.le_trans BQ'.out.size hk'))
  have hXb : Hid (Own w9 (fun k => wb.heap.size ≤ k) 3 1 (.slice b9 vs.length cap9) vs.length (ints vs)) := Mr.hid (hX.out.mono (fun k hk => by rcases hk with hk | hk <;> omega))
  have H9 := hF
  clear x0 x1 x2 x3 x4 x5 x6 x7 x8 B9 hX hF hS0 hsrc1
  obtain ⟨g, o, cap', hv', hnc, _, hgl, hcell⟩ := (hv.out.below B0.out).there (by omega)
  cases hv'
  have cx := hcell 0 (.int .i64 x) (by simp [ints, hx.out])
  rw [Nat.add_zero] at cx
  obtain ⟨gb, og, cb, cur, e9, hcb, _, _, _, _, _⟩ := hX'.out.there (by omega)
  cases e9
  have q8 : (vs.length : Int) ≤ (cap9 : Int) := by omega
  clear hcell
  by_cases hc9 : cap9 = 1
  · have hv1 : vs.length = 1 := by omega
    subst hc9
    go_upto_region 12 with (fail)
    go_quiet (fail)
    generalize hw8 : w9.drewN nq = w8 at *
    go_wp2
    go_ret2
    subst hw8
    refine ⟨.slice (some ⟨gb, og, none⟩) 0 0, by rw [hr.out]; rfl, ?_, Dq.draws' B0.out nq⟩
    have h9 := Own.tail (hX'.out.below (Dq.draws' (Below.refl _ _) nq)) (by omega) (some ⟨gb, og, none⟩) (by simp)
    rw [hlm.out]
    rw [hv1] at h9 ⊢
    simpa [ints, List.map_drop] using h9
  · skip
    go_upto_region 12 with (fail)
    go_quiet (fail)
    generalize hw8 : w9.drewN nq = w8 at *
    go_wp2
    go_ret2
    subst hw8
    refine ⟨.slice (some ⟨gb, og + 1, none⟩) (vs.length - 1) (cap9 - 1), by rw [hr.out]; rfl, ?_, Dq.draws' B0.out nq⟩
    have h9 := Own.tail (hX'.out.below (Dq.draws' (Below.refl _ _) nq)) (by omega) (some ⟨gb, og + 1, none⟩) (by rw [if_neg hc9])
    rw [hlm.out]
    simpa [ints, List.map_drop] using h9
set_option maxHeartbeats 32000000 in
theorem plain_tail_same (rm : Int) (vs : List Int) (c : Cq) (hn : vs.length ≤ 100000) (h1 : c.op ≠ 90) (h0 : c.op ≠ 91) (h2 : vs.length ≠ 0) (h5 : c.fin ≠ -1) (h7 : c.ak = 2) (h8 : c.av = (vs[0]?).getD 0) : PlO rm vs c := by
  intro T a cap w hv
  have e1 : atO rm vs c = (vs.drop 1, 2, (vs[0]?).getD 0) := by unfold atO; rw [if_neg (fun h => h1 h.1), if_neg h1, if_neg h2, if_neg h0]
  rw [e1]
  clear e1
  obtain ⟨i0, hi0, hz0, hz1, hz2⟩ := Dq.info_i
  have hsrc := sl_src hv
  obtain ⟨c0, hc0⟩ : ∃ x, x = c := ⟨_, rfl⟩
  have hok : ∀ k x : Int, okA c (k, x) = (decide (c.fin = -1) || (decide (c.ak = k) && decide (c.av = x))) := fun _ _ => rfl
  rw [hok]
  clear hok hc0 c0
  obtain ⟨x, hx⟩ : ∃ x, vs[0]? = some x := ⟨_, List.getElem?_eq_getElem (by omega)⟩
  have hxd : (vs[0]?).getD 0 = x := by rw [hx]; rfl
  rw [hxd]
  obtain ⟨ob, hob⟩ : ∃ b8 : Bool, b8 = (decide (c.fin = -1) || (decide (c.ak = 2) && decide (c.av = x))) := ⟨_, rfl⟩
  rw [← hob]
  have CQ := cqO_cells (new_at w (cqO c) w.heap.size rfl)
  have BQ := b1b (w := w) (cqO c)
  obtain ⟨a0, a1, a2, a3, a4, a5, a6, a7, a8⟩ := c
  unfold cqO at CQ BQ
  unfold Cq.val
  simp only at *
  have e5 : (a5 == -1) = false := by simp [h5]
  have e7 : (a7 == 2) = true := by simp [h7]
  (try rw [hxd] at h8)
  have e8 : (a8 == x) = true := by simp [h8]
  have hr : Hid (ob = true) := Mr.hid (by rw [hob]; simp [h5, h7, h8])
  clear h5 h7 h8
  have q1 : (a1 == 90) = false := by simp [h1]
  have q2 : (a1 == 91) = false := by simp [h0]
  have q3 : ((vs.length : Int) == 0) = false := by simp; intro h; exact h2 (by simp [h])
  replace hx := Mr.hid hx
  have q4 : 1 ≤ vs.length := by omega
  have q5 : (1 : Int) ≤ (vs.length : Int) := by omega
  have q5' : (0 : Int) < (vs.length : Int) := by omega
  have q5'' : 0 < vs.length := by omega
  have hlm : Hid ((vs.drop 1).length = vs.length - 1) := Mr.hid (by rw [List.length_drop])
  clear h1 h2 h0
  replace hob := Mr.hid hob
  have hlw := CQ.lt
  have hS0 := Mr.hid (fun ad e j u hu => (BQ.cell (p := Addr.add ad j) (by
    obtain ⟨b8, o8, c8, e8, _, _, h8, _⟩ := hv.there (by have := (List.getElem?_eq_some_iff.1 hu).1; rw [ints_len] at this; omega)
    cases e8; cases e; rw [add1]; exact h8)).trans (hsrc.2 ad e j u hu))
  obtain ⟨n, hnn⟩ : ∃ n, n = vs.length := ⟨_, rfl⟩
  have hsrc1 := Mr.hid hsrc.1
  replace hnn := Mr.hid hnn
  replace hv := Mr.hid hv
  clear hsrc
  go_enter Try.func18, Try.ntmps18
  go_upto_region 1 with (fail)
  generalize World.alloc _ _ = wb at *
  obtain ⟨_, x0, x1, x2, x3, x4, x5, x6, x7, x8⟩ := CQ
  simp only [Nat.zero_add] at x1 x2 x3 x4 x5 x6 x7 x8
  have BQ' := Mr.hid BQ
  clear BQ
  go_upto_region 4 with (at_builtin; refine wpList_append_mine _ rfl (.tmp 13) (.tmp 14) 37 rfl (fun k => wb.heap.size ≤ k) 3 i0 _ 1 8 Try.underlying37 hi0 hz0 hz1 hz2 rfl _ 0 [] rfl (Own.zero _ _ _ _ _) a vs.length cap (ints vs) rfl (by rw [ints_len, Nat.mul_one]) hsrc1.out hS0.out (ints_one vs) (by unfold maxLen; omega) (by omega) ?_; intro b9 cap9 w9 hown hfr; rw [Nat.zero_add, List.nil_append] at hown; rw [Nat.zero_add]; have hX := Mr.hid hown; have hF := Mr.hid hfr; clear hown hfr)
  have B9 : Below wb.heap.size wb w9 := hF.out.below (fun k hk => hk) (Nat.le_refl _)
  have y1 := (B9.cell (p := ⟨w.heap.size, _, none⟩) hlw).trans x1
  have y2 := (B9.cell (p := ⟨w.heap.size, _, none⟩) hlw).trans x2
  have y5 := (B9.cell (p := ⟨w.heap.size, _, none⟩) hlw).trans x5
  have y7 := (B9.cell (p := ⟨w.heap.size, _, none⟩) hlw).trans x7
  have y8 := (B9.cell (p := ⟨w.heap.size, _, none⟩) hlw).trans x8
  have B0 : Hid (Below w.heap.size w w9) := Mr.hid (BQ'.out.trans (B9.mono BQ'.out.size))
  have hX' : Hid (Own w9 (fun k => w.heap.size ≤ k) 3 1 (.slice b9 vs.length cap9) vs.length (ints vs)) := Mr.hid (hX.out.mono (fun k hk => by
    have hk' : wb.heap.size ≤ k := by rcases hk with hk | hk <;> omega
    exact Nat.le_trans BQ'.out.size hk'))
  have hXb : Hid (Own w9 (fun k => wb.heap.size ≤ k) 3 1 (.slice b9 vs.length cap9) vs.length (ints vs)) := Mr.hid (hX.out.mono (fun k hk => by rcases hk with hk | hk <;> omega))
  have H9 := hF
  clear x0 x1 x2 x3 x4 x5 x6 x7 x8 B9 hX hF hS0 hsrc1
  obtain ⟨g, o, cap', hv', hnc, _, hgl, hcell⟩ := (hv.out.below B0.out).there (by omega)
  cases hv'
  have cx := hcell 0 (.int .i64 x) (by simp [ints, hx.out])
  rw [Nat.add_zero] at cx
  obtain ⟨gb, og, cb, cur, e9, hcb, _, _, _, _, _⟩ := hX'.out.there (by omega)
  cases e9
  have q8 : (vs.length : Int) ≤ (cap9 : Int) := by omega
  clear hcell
  by_cases hc9 : cap9 = 1
  · have hv1 : vs.length = 1 := by omega
    subst hc9
    go_upto_region 12 with (fail)
    go_region_held3 (fun w' => w'.cell? ⟨g, o, none⟩ = some (.int .i64 x) ∧ w'.cell? ⟨w.heap.size, 7, none⟩ = some (.int .i64 a7) ∧ w'.cell? ⟨w.heap.size, 8, none⟩ = some (.int .i64 a8)) (first | exact ⟨cx, y7, y8⟩ | go_keep) (fail)
    have hD : Below w9.heap.size w9 w9.drew := (Below.refl _ _).drew
    go_wp2
    go_ret2
    refine ⟨.slice (some ⟨gb, og, none⟩) 0 0, by rw [hr.out]; rfl, ?_, B0.out.drew⟩
    have h9 := Own.tail (hX'.out.below hD) (by omega) (some ⟨gb, og, none⟩) (by simp)
    rw [hlm.out]
    rw [hv1] at h9 ⊢
    simpa [ints, List.map_drop] using h9
  · skip
    go_upto_region 12 with (fail)
    go_region_held3 (fun w' => w'.cell? ⟨g, o, none⟩ = some (.int .i64 x) ∧ w'.cell? ⟨w.heap.size, 7, none⟩ = some (.int .i64 a7) ∧ w'.cell? ⟨w.heap.size, 8, none⟩ = some (.int .i64 a8)) (first | exact ⟨cx, y7, y8⟩ | go_keep) (fail)
    have hD : Below w9.heap.size w9 w9.drew := (Below.refl _ _).drew
    go_wp2
    go_ret2
    refine ⟨.slice (some ⟨gb, og + 1, none⟩) (vs.length - 1) (cap9 - 1), by rw [hr.out]; rfl, ?_, B0.out.drew⟩
    have h9 := Own.tail (hX'.out.below hD) (by omega) (some ⟨gb, og + 1, none⟩) (by rw [if_neg hc9])
    rw [hlm.out]
    simpa [ints, List.map_drop] using h9
set_option maxHeartbeats 32000000 in
theorem plain_tail_kind (rm : Int) (vs : List Int) (c : Cq) (hn : vs.length ≤ 100000) (h1 : c.op ≠ 90) (h0 : c.op ≠ 91) (h2 : vs.length ≠ 0) (h5 : c.fin ≠ -1) (h7 : c.ak ≠ 2) : PlO rm vs c := by
  intro T a cap w hv
  have e1 : atO rm vs c = (vs.drop 1, 2, (vs[0]?).getD 0) := by unfold atO; rw [if_neg (fun h => h1 h.1), if_neg h1, if_neg h2, if_neg h0]
  rw [e1]
  clear e1
  obtain ⟨i0, hi0, hz0, hz1, hz2⟩ := Dq.info_i
  have hsrc := sl_src hv
  obtain ⟨c0, hc0⟩ : ∃ x, x = c := ⟨_, rfl⟩
  have hok : ∀ k x : Int, okA c (k, x) = (decide (c.fin = -1) || (decide (c.ak = k) && decide (c.av = x))) := fun _ _ => rfl
  rw [hok]
  clear hok hc0 c0
  obtain ⟨x, hx⟩ : ∃ x, vs[0]? = some x := ⟨_, List.getElem?_eq_getElem (by omega)⟩
  have hxd : (vs[0]?).getD 0 = x := by rw [hx]; rfl
  rw [hxd]
  obtain ⟨ob, hob⟩ : ∃ b8 : Bool, b8 = (decide (c.fin = -1) || (decide (c.ak = 2) && decide (c.av = x))) := ⟨_, rfl⟩
  rw [← hob]
  have CQ := cqO_cells (new_at w (cqO c) w.heap.size rfl)
  have BQ := b1b (w := w) (cqO c)
  obtain ⟨a0, a1, a2, a3, a4, a5, a6, a7, a8⟩ := c
  unfold cqO at CQ BQ
  unfold Cq.val
  simp only at *
  have e5 : (a5 == -1) = false := by simp [h5]
  have e7 : (a7 == 2) = false := by simp [h7]
  have hr : Hid (ob = false) := Mr.hid (by rw [hob]; simp [h5, h7])
  clear h5 h7
  have q1 : (a1 == 90) = false := by simp [h1]
  have q2 : (a1 == 91) = false := by simp [h0]
  have q3 : ((vs.length : Int) == 0) = false := by simp; intro h; exact h2 (by simp [h])
  replace hx := Mr.hid hx
  have q4 : 1 ≤ vs.length := by omega
  have q5 : (1 : Int) ≤ (vs.length : Int) := by omega
  have q5' : (0 : Int) < (vs.length : Int) := by omega
  have q5'' : 0 < vs.length := by omega
  have hlm : Hid ((vs.drop 1).length = vs.length - 1) := Mr.hid (by rw [List.length_drop])
  clear h1 h2 h0
  replace hob := Mr.hid hob
  have hlw := CQ.lt
  have hS0 := Mr.hid (fun ad e j u hu => (BQ.cell (p := Addr.add ad j) (by
    obtain ⟨b8, o8, c8, e8, _, _, h8, _⟩ := hv.there (by have := (List.getElem?_eq_some_iff.1 hu).1; rw [ints_len] at this; omega)
    cases e8; cases e; rw [add1]; exact h8)).trans (hsrc.2 ad e j u hu))
  obtain ⟨n, hnn⟩ : ∃ n, n = vs.length := ⟨_, rfl⟩
  have hsrc1 := Mr.hid hsrc.1
  replace hnn := Mr.hid hnn
  replace hv := Mr.hid hv
  clear hsrc
  go_enter Try.func18, Try.ntmps18
  go_upto_region 1 with (fail)
  generalize World.alloc _ _ = wb at *
  obtain ⟨_, x0, x1, x2, x3, x4, x5, x6, x7, x8⟩ := CQ
  simp only [Nat.zero_add] at x1 x2 x3 x4 x5 x6 x7 x8
  have BQ' := Mr.hid BQ
  clear BQ
  go_upto_region 4 with (at_builtin; refine wpList_append_mine _ rfl (.tmp 13) (.tmp 14) 37 rfl (fun k => wb.heap.size ≤ k) 3 i0 _ 1 8 Try.underlying37 hi0 hz0 hz1 hz2 rfl _ 0 [] rfl (Own.zero _ _ _ _ _) a vs.length cap (ints vs) rfl (by rw [ints_len, Nat.mul_one]) hsrc1.out hS0.out (ints_one vs) (by unfold maxLen; omega) (by omega) ?_; intro b9 cap9 w9 hown hfr; rw [Nat.zero_add, List.nil_append] at hown; rw [Nat.zero_add]; have hX := Mr.hid hown; have hF := Mr.hid hfr; clear hown hfr)
  have B9 : Below wb.heap.size wb w9 := hF.out.below (fun k hk => hk) (Nat.le_refl _)
  have y1 := (B9.cell (p := ⟨w.heap.size, _, none⟩) hlw).trans x1
  have y2 := (B9.cell (p := ⟨w.heap.size, _, none⟩) hlw).trans x2
  have y5 := (B9.cell (p := ⟨w.heap.size, _, none⟩) hlw).trans x5
  have y7 := (B9.cell (p := ⟨w.heap.size, _, none⟩) hlw).trans x7
  have y8 := (B9.cell (p := ⟨w.heap.size, _, none⟩) hlw).trans x8
  have B0 : Hid (Below w.heap.size w w9) := Mr.hid (BQ'.out.trans (B9.mono BQ'.out.size))
  have hX' : Hid (Own w9 (fun k => w.heap.size ≤ k) 3 1 (.slice b9 vs.length cap9) vs.length (ints vs)) := Mr.hid (hX.out.mono (fun k hk => by
    have hk' : wb.heap.size ≤ k := by rcases hk with hk | hk <;> omega
    exact Nat.le_trans BQ'.out.size hk'))
  have hXb : Hid (Own w9 (fun k => wb.heap.size ≤ k) 3 1 (.slice b9 vs.length cap9) vs.length (ints vs)) := Mr.hid (hX.out.mono (fun k hk => by rcases hk with hk | hk <;> omega))
  have H9 := hF
  clear x0 x1 x2 x3 x4 x5 x6 x7 x8 B9 hX hF hS0 hsrc1
  obtain ⟨g, o, cap', hv', hnc, _, hgl, hcell⟩ := (hv.out.below B0.out).there (by omega)
  cases hv'
  have cx := hcell 0 (.int .i64 x) (by simp [ints, hx.out])
  rw [Nat.add_zero] at cx
  obtain ⟨gb, og, cb, cur, e9, hcb, _, _, _, _, _⟩ := hX'.out.there (by omega)
  cases e9
  have q8 : (vs.length : Int) ≤ (cap9 : Int) := by omega
  clear hcell
  by_cases hc9 : cap9 = 1
  · have hv1 : vs.length = 1 := by omega
    subst hc9
    go_upto_region 12 with (fail)
    go_region_held3 (fun w' => w'.cell? ⟨g, o, none⟩ = some (.int .i64 x) ∧ w'.cell? ⟨w.heap.size, 7, none⟩ = some (.int .i64 a7) ∧ w'.cell? ⟨w.heap.size, 8, none⟩ = some (.int .i64 a8)) (first | exact ⟨cx, y7, y8⟩ | go_keep) (fail)
    have hD : Below w9.heap.size w9 w9.drew := (Below.refl _ _).drew
    go_wp2
    go_ret2
    refine ⟨.slice (some ⟨gb, og, none⟩) 0 0, by rw [hr.out]; rfl, ?_, B0.out.drew⟩
    have h9 := Own.tail (hX'.out.below hD) (by omega) (some ⟨gb, og, none⟩) (by simp)
    rw [hlm.out]
    rw [hv1] at h9 ⊢
    simpa [ints, List.map_drop] using h9
  · skip
    go_upto_region 12 with (fail)
    go_region_held3 (fun w' => w'.cell? ⟨g, o, none⟩ = some (.int .i64 x) ∧ w'.cell? ⟨w.heap.size, 7, none⟩ = some (.int .i64 a7) ∧ w'.cell? ⟨w.heap.size, 8, none⟩ = some (.int .i64 a8)) (first | exact ⟨cx, y7, y8⟩ | go_keep) (fail)
    have hD : Below w9.heap.size w9 w9.drew := (Below.refl _ _).drew
    go_wp2
    go_ret2
    refine ⟨.slice (some ⟨gb, og + 1, none⟩) (vs.length - 1) (cap9 - 1), by rw [hr.out]; rfl, ?_, B0.out.drew⟩
    have h9 := Own.tail (hX'.out.below hD) (by omega) (some ⟨gb, og + 1, none⟩) (by rw [if_neg hc9])
    rw [hlm.out]
    simpa [ints, List.map_drop] using h9
set_option maxHeartbeats 32000000 in
theorem plain_tail_value (rm : Int) (vs : List Int) (c : Cq) (hn : vs.length ≤ 100000) (h1 : c.op ≠ 90) (h0 : c.op ≠ 91) (h2 : vs.length ≠ 0) (h5 : c.fin ≠ -1) (h7 : c.ak = 2) (h8 : c.av ≠ (vs[0]?).getD 0) : PlO rm vs c := by
  intro T a cap w hv
  have e1 : atO rm vs c = (vs.drop 1, 2, (vs[0]?).getD 0) := by unfold atO; rw [if_neg (fun h => h1 h.1), if_neg h1, if_neg h2, if_neg h0]
  rw [e1]
  clear e1
  obtain ⟨i0, hi0, hz0, hz1, hz2⟩ := Dq.info_i
  have hsrc := sl_src hv
  obtain ⟨c0, hc0⟩ : ∃ x, x = c := ⟨_, rfl⟩
  have hok : ∀ k x : Int, okA c (k, x) = (decide (c.fin = -1) || (decide (c.ak = k) && decide (c.av = x))) := fun _ _ => rfl
  rw [hok]
  clear hok hc0 c0
  obtain ⟨x, hx⟩ : ∃ x, vs[0]? = some x := ⟨_, List.getElem?_eq_getElem (by omega)⟩
  have hxd : (vs[0]?).getD 0 = x := by rw [hx]; rfl
  rw [hxd]
  obtain ⟨ob, hob⟩ : ∃ b8 : Bool, b8 = (decide (c.fin = -1) || (decide (c.ak = 2) && decide (c.av = x))) := ⟨_, rfl⟩
  rw [← hob]
  have CQ := cqO_cells (new_at w (cqO c) w.heap.size rfl)
  have BQ := b1b (w := w) (cqO c)
  obtain ⟨a0, a1, a2, a3, a4, a5, a6, a7, a8⟩ := c
  unfold cqO at CQ BQ
  unfold Cq.val
  simp only at *
  have e5 : (a5 == -1) = false := by simp [h5]
  have e7 : (a7 == 2) = true := by simp [h7]
  (try rw [hxd] at h8)
  have e8 : (a8 == x) = false := by simp [h8]
  have hr : Hid (ob = false) := Mr.hid (by rw [hob]; simp [h5, h7, h8])
  clear h5 h7 h8
  have q1 : (a1 == 90) = false := by simp [h1]
  have q2 : (a1 == 91) = false := by simp [h0]
  have q3 : ((vs.length : Int) == 0) = false := by simp; intro h; exact h2 (by simp [h])
  replace hx := Mr.hid hx
  have q4 : 1 ≤ vs.length := by omega
  have q5 : (1 : Int) ≤ (vs.length : Int) := by omega
  have q5' : (0 : Int) < (vs.length : Int) := by omega
  have q5'' : 0 < vs.length := by omega
  have hlm : Hid ((vs.drop 1).length = vs.length - 1) := Mr.hid (by rw [List.length_drop])
  clear h1 h2 h0
  replace hob := Mr.hid hob
  have hlw := CQ.lt
  have hS0 := Mr.hid (fun ad e j u hu => (BQ.cell (p := Addr.add ad j) (by
    obtain ⟨b8, o8, c8, e8, _, _, h8, _⟩ := hv.there (by have := (List.getElem?_eq_some_iff.1 hu).1; rw [ints_len] at this; omega)
    cases e8; cases e; rw [add1]; exact h8)).trans (hsrc.2 ad e j u hu))
  obtain ⟨n, hnn⟩ : ∃ n, n = vs.length := ⟨_, rfl⟩
  have hsrc1 := Mr.hid hsrc.1
  replace hnn := Mr.hid hnn
  replace hv := Mr.hid hv
  clear hsrc
  go_enter Try.func18, Try.ntmps18
  go_upto_region 1 with (fail)
  generalize World.alloc _ _ = wb at *
  obtain ⟨_, x0, x1, x2, x3, x4, x5, x6, x7, x8⟩ := CQ
  simp only [Nat.zero_add] at x1 x2 x3 x4 x5 x6 x7 x8
  have BQ' := Mr.hid BQ
  clear BQ
  go_upto_region 4 with (at_builtin; refine wpList_append_mine _ rfl (.tmp 13) (.tmp 14) 37 rfl (fun k => wb.heap.size ≤ k) 3 i0 _ 1 8 Try.underlying37 hi0 hz0 hz1 hz2 rfl _ 0 [] rfl (Own.zero _ _ _ _ _) a vs.length cap (ints vs) rfl (by rw [ints_len, Nat.mul_one]) hsrc1.out hS0.out (ints_one vs) (by unfold maxLen; omega) (by omega) ?_; intro b9 cap9 w9 hown hfr; rw [Nat.zero_add, List.nil_append] at hown; rw [Nat.zero_add]; have hX := Mr.hid hown; have hF := Mr.hid hfr; clear hown hfr)
  have B9 : Below wb.heap.size wb w9 := hF.out.below (fun k hk => hk) (Nat.le_refl _)
  have y1 := (B9.cell (p := ⟨w.heap.size, _, none⟩) hlw).trans x1
  have y2 := (B9.cell (p := ⟨w.heap.size, _, none⟩) hlw).trans x2
  have y5 := (B9.cell (p := ⟨w.heap.size, _, none⟩) hlw).trans x5
  have y7 := (B9.cell (p := ⟨w.heap.size, _, none⟩) hlw).trans x7
  have y8 := (B9.cell (p := ⟨w.heap.size, _, none⟩) hlw).trans x8
  have B0 : Hid (Below w.heap.size w w9) := Mr.hid (BQ'.out.trans (B9.mono BQ'.out.size))
  have hX' : Hid (Own w9 (fun k => w.heap.size ≤ k) 3 1 (.slice b9 vs.length cap9) vs.length (ints vs)) := Mr.hid (hX.out.mono (fun k hk => by
    have hk' : wb.heap.size ≤ k := by rcases hk with hk | hk <;> omega
    exact Nat.le_trans BQ'.out.size hk'))
  have hXb : Hid (Own w9 (fun k => wb.heap.size ≤ k) 3 1 (.slice b9 vs.length cap9) vs.length (ints vs)) := Mr.hid (hX.out.mono (fun k hk => by rcases hk with hk | hk <;> omega))
  have H9 := hF
  clear x0 x1 x2 x3 x4 x5 x6 x7 x8 B9 hX hF hS0 hsrc1
  obtain ⟨g, o, cap', hv', hnc, _, hgl, hcell⟩ := (hv.out.below B0.out).there (by omega)
  cases hv'
  have cx := hcell 0 (.int .i64 x) (by simp [ints, hx.out])
  rw [Nat.add_zero] at cx
  obtain ⟨gb, og, cb, cur, e9, hcb, _, _, _, _, _⟩ := hX'.out.there (by omega)
  cases e9
  have q8 : (vs.length : Int) ≤ (cap9 : Int) := by omega
  clear hcell
  by_cases hc9 : cap9 = 1
  · have hv1 : vs.length = 1 := by omega
    subst hc9
    go_upto_region 12 with (fail)
    go_region_held3 (fun w' => w'.cell? ⟨g, o, none⟩ = some (.int .i64 x) ∧ w'.cell? ⟨w.heap.size, 7, none⟩ = some (.int .i64 a7) ∧ w'.cell? ⟨w.heap.size, 8, none⟩ = some (.int .i64 a8)) (first | exact ⟨cx, y7, y8⟩ | go_keep) (fail)
    have hD : Below w9.heap.size w9 w9.drew := (Below.refl _ _).drew
    go_wp2
    go_ret2
    refine ⟨.slice (some ⟨gb, og, none⟩) 0 0, by rw [hr.out]; rfl, ?_, B0.out.drew⟩
    have h9 := Own.tail (hX'.out.below hD) (by omega) (some ⟨gb, og, none⟩) (by simp)
    rw [hlm.out]
    rw [hv1] at h9 ⊢
    simpa [ints, List.map_drop] using h9
  · skip
    go_upto_region 12 with (fail)
    go_region_held3 (fun w' => w'.cell? ⟨g, o, none⟩ = some (.int .i64 x) ∧ w'.cell? ⟨w.heap.size, 7, none⟩ = some (.int .i64 a7) ∧ w'.cell? ⟨w.heap.size, 8, none⟩ = some (.int .i64 a8)) (first | exact ⟨cx, y7, y8⟩ | go_keep) (fail)
    have hD : Below w9.heap.size w9 w9.drew := (Below.refl _ _).drew
    go_wp2
    go_ret2
    refine ⟨.slice (some ⟨gb, og + 1, none⟩) (vs.length - 1) (cap9 - 1), by rw [hr.out]; rfl, ?_, B0.out.drew⟩
    have h9 := Own.tail (hX'.out.below hD) (by omega) (some ⟨gb, og + 1, none⟩) (by rw [if_neg hc9])
    rw [hlm.out]
    simpa [ints, List.map_drop] using h9
end Go.Proofs.Ytaojggnflblgnaa.Hd
