/-
  DEQUE: the document's Plain (full).
-/
import Derived.Test.YtaojggnflblgnaaHdPlainP
namespace Go.Proofs.Ytaojggnflblgnaa.Hd
open Go.RowKit Mr Md
set_option linter.unusedVariables false
set_option linter.unusedSimpArgs false
set_option maxRecDepth 100000
set_option maxHeartbeats 32000000 in
theorem plain_full (rm : Int) (vs : List Int) (c : Cq) (hn : vs.length ≤ 100000) (h1 : c.op = 90) (h2 : rm ≤ (vs.length : Int)) : PlO rm vs c := by
  intro T a cap w hv
  have e1 : atO rm vs c = (vs, 4, 0) := by exact if_pos ⟨h1, h2⟩
  rw [e1]
  clear e1
  obtain ⟨i0, hi0, hz0, hz1, hz2⟩ := Dq.info_i
  have hsrc := sl_src hv
  obtain ⟨c0, hc0⟩ : ∃ x, x = c := ⟨_, rfl⟩
  have hok : ∀ k x : Int, okA c (k, x) = (decide (c.fin = -1) || (decide (c.ak = k) && decide (c.av = x))) := fun _ _ => rfl
  rw [hok]
  clear hok hc0 c0
  obtain ⟨ob, hob⟩ : ∃ b8 : Bool, b8 = (decide (c.fin = -1) || (decide (c.ak = 4) && decide (c.av = 0))) := ⟨_, rfl⟩
  rw [← hob]
  have CQ := cqO_cells (new_at w (cqO c) w.heap.size rfl)
  have BQ := b1b (w := w) (cqO c)
  obtain ⟨a0, a1, a2, a3, a4, a5, a6, a7, a8⟩ := c
  unfold cqO at CQ BQ
  unfold Cq.val
  simp only at *
  have q1 : (a1 == 90) = true := by simp [h1]
  have q2 : decide (rm ≤ (vs.length : Int)) = true := by simp [h2]
  clear h1 h2
  replace hob := Mr.hid hob
  have hlw := CQ.lt
  have hS0 := Mr.hid (fun ad e j u hu => (BQ.cell (p := Addr.add ad j) (by
    obtain ⟨b8, o8, c8, e8, _, _, h8, _⟩ := hv.there (by have := (List.getElem?_eq_some_iff.1 hu).1; rw [ints_len] at this; omega)
    cases e8; cases e; rw [add1]; exact h8)).trans (hsrc.2 ad e j u hu))
  obtain ⟨n, hnn⟩ : ∃ n, n = vs.length := ⟨_, rfl⟩
  have hsrc1 := Mr.hid hsrc.1
  replace hnn := Mr.hid hnn
  replace hv := Mr.hid hv
  clear hsrc
  go_enter Try.func18, Try.ntmps18
  go_upto_region 1 with (fail)
  generalize World.alloc _ _ = wb at *
  obtain ⟨_, x0, x1, x2, x3, x4, x5, x6, x7, x8⟩ := CQ
  simp only [Nat.zero_add] at x1 x2 x3 x4 x5 x6 x7 x8
  have BQ' := Mr.hid BQ
  clear BQ
  go_upto_region 4 with (at_builtin; refine wpList_append_mine _ rfl (.tmp 13) (.tmp 14) 37 rfl (fun k => wb.heap.size ≤ k) 3 i0 _ 1 8 Try.underlying37 hi0 hz0 hz1 hz2 rfl _ 0 [] rfl (Own.zero _ _ _ _ _) a vs.length cap (ints vs) rfl (by rw [ints_len, Nat.mul_one]) hsrc1.out hS0.out (ints_one vs) (by unfold maxLen; omega) (by omega) ?_; intro b9 cap9 w9 hown hfr; rw [Nat.zero_add, List.nil_append] at hown; rw [Nat.zero_add]; have hX := Mr.hid hown; have hF := Mr.hid hfr; clear hown hfr)
  have B9 : Below wb.heap.size wb w9 := hF.out.below (fun k hk => hk) (Nat.le_refl _)
  have y1 := (B9.cell (p := ⟨w.heap.size, _, none⟩) hlw).trans x1
  have y2 := (B9.cell (p := ⟨w.heap.size, _, none⟩) hlw).trans x2
  have y5 := (B9.cell (p := ⟨w.heap.size, _, none⟩) hlw).trans x5
  have y7 := (B9.cell (p := ⟨w.heap.size, _, none⟩) hlw).trans x7
  have y8 := (B9.cell (p := ⟨w.heap.size, _, none⟩) hlw).trans x8
  have B0 : Hid (Below w.heap.size w w9) := Mr.hid (BQ'.out.trans (B9.mono BQ'.out.size))
  have hX' : Hid (Own w9 (fun k => w.heap.size ≤ k) 3 1 (.slice b9 vs.length cap9) vs.length (ints vs)) := Mr.hid (hX.out.mono (fun k hk => by
    have hk' : wb.heap.size ≤ k := by rcases hk with hk | hk <;> omega
    exact Nat.le_trans BQ'.out.size hk'))
  have hXb : Hid (Own w9 (fun k => wb.heap.size ≤ k) 3 1 (.slice b9 vs.length cap9) vs.length (ints vs)) := Mr.hid (hX.out.mono (fun k hk => by rcases hk with hk | hk <;> omega))
  have H9 := hF
  clear x0 x1 x2 x3 x4 x5 x6 x7 x8 B9 hX hF hS0 hsrc1
  by_cases h5 : a5 = -1
  · have e5 : (a5 == -1) = true := by simp [h5]
    have hr : Hid (ob = true) := Mr.hid (by rw [hob.out]; simp [h5])
    clear h5
    go_upto_region 5 with (fail)
    go_quiet (fail)
    generalize hw8 : w9.drewN nq = w8 at *
    go_wp2
    go_ret2
    subst hw8
    refine ⟨.slice b9 vs.length cap9, by rw [hr.out]; rfl, ?_, Dq.draws' B0.out nq⟩
    exact hX'.out.below (Dq.draws' (Below.refl _ _) nq)
  · have e5 : (a5 == -1) = false := by simp [h5]
    by_cases h7 : a7 = 4
    · have e7 : (a7 == 4) = true := by simp [h7]
      by_cases h8 : a8 = 0
      · have e8 : (a8 == 0) = true := by simp [h8]
        have hr : Hid (ob = true) := Mr.hid (by rw [hob.out]; simp [h5, h7, h8])
        clear h5 h7 h8
        go_upto_region 5 with (fail)
        go_quiet (fail)
        generalize hw8 : w9.drewN nq = w8 at *
        go_wp2
        go_ret2
        subst hw8
        refine ⟨.slice b9 vs.length cap9, by rw [hr.out]; rfl, ?_, Dq.draws' B0.out nq⟩
        exact hX'.out.below (Dq.draws' (Below.refl _ _) nq)
      · have e8 : (a8 == 0) = false := by simp [h8]
        have hr : Hid (ob = false) := Mr.hid (by rw [hob.out]; simp [h5, h7, h8])
        clear h5 h7 h8
        go_upto_region 5 with (fail)
        go_quiet (fail)
        generalize hw8 : w9.drewN nq = w8 at *
        go_wp2
        go_ret2
        subst hw8
        refine ⟨.slice b9 vs.length cap9, by rw [hr.out]; rfl, ?_, Dq.draws' B0.out nq⟩
        exact hX'.out.below (Dq.draws' (Below.refl _ _) nq)
    · have e7 : (a7 == 4) = false := by simp [h7]
      have hr : Hid (ob = false) := Mr.hid (by rw [hob.out]; simp [h5, h7])
      clear h5 h7
      go_upto_region 5 with (fail)
      go_quiet (fail)
      generalize hw8 : w9.drewN nq = w8 at *
      go_wp2
      go_ret2
      subst hw8
      refine ⟨.slice b9 vs.length cap9, by rw [hr.out]; rfl, ?_, Dq.draws' B0.out nq⟩
      exact hX'.out.below (Dq.draws' (Below.refl _ _) nq)
end Go.Proofs.Ytaojggnflblgnaa.Hd
