import Derived.Test.YtegbcocbopgghabJ14
import Derived.LoopN
import Derived.Test.YtegbcocbopgghabJ09
/-
  Package model: contents.
-/
namespace Go.Proofs.Ytegbcocbopgghab.Md
open Go.RowKit Mr
set_option linter.unusedVariables false
set_option linter.unusedSimpArgs false
theorem ct_made {w0 w1 w2 w3 w4 w5 w6 : World} {B n bS bR : Nat} {lab : Nat → Nat} {v0 v1 v2 v3 v4 : Value} {x : Ct} (o0 : Own w1 (fun k => (lab k = 0 ∧ k < n) ∨ (w0.heap.size ≤ k ∧ k < w1.heap.size)) 3 1 v0 x.cell.length (ints x.cell)) (o1 : Own w2 (fun k => (lab k = 1 ∧ k < n) ∨ (w1.heap.size ≤ k ∧ k < w2.heap.size)) 3 1 v1 x.stack.length (ints x.stack)) (o2 : Own w3 (fun k => (lab k = 2 ∧ k < n) ∨ (w2.heap.size ≤ k ∧ k < w3.heap.size)) 3 1 v2 x.queue.length (ints x.queue)) (o3 : Own w4 (fun k => (lab k = 3 ∧ k < n) ∨ (w3.heap.size ≤ k ∧ k < w4.heap.size)) 3 1 v3 x.set.length (ints x.set)) (o4 : Own w5 (fun k => (lab k = 4 ∧ k < n) ∨ (w4.heap.size ≤ k ∧ k < w5.heap.size)) 81 2 v4 x.table.length (prs x.table)) (f1 : Fr w0 w1 (fun k => k = bS)) (f2 : Fr w1 w2 (fun k => k = bS)) (f3 : Fr w2 w3 (fun k => k = bS)) (f4 : Fr w3 w4 (fun k => k = bS)) (f5 : Fr w4 w5 (fun k => k = bS)) (hw : ∀ k, k ≠ bR → w6.heap[k]? = w5.heap[k]?) (low : ∀ k, lab k < 5 → B ≤ k) (hB : B ≤ n) (h1 : n ≤ bS) (h2 : bS < w0.heap.size) (h3 : n ≤ bR) (h4 : bR < w0.heap.size) : CtOwn w6 B (labc n lab w0.heap.size w1.heap.size w2.heap.size w3.heap.size w4.heap.size) v0 v1 v2 v3 v4 x := by
  have s1 := f1.size
  have s2 := f2.size
  have s3 := f3.size
  have s4 := f4.size
  have s5 := f5.size
  refine ⟨fun k hk => ?_, ?_, ?_, ?_, ?_, ?_⟩
  · by_cases h : k < n
    · rw [labc_old h] at hk; exact low k hk
    · omega
  · refine o0.kept2 (fun k hk hl => ?_) (fun k hk hl => ?_)
    · exact (hw k (by omega)).trans ((f5.block k (by omega) (by omega)).trans ((f4.block k (by omega) (by omega)).trans ((f3.block k (by omega) (by omega)).trans (f2.block k (by omega) (by omega)))))
    · rcases hk with hk | hk
      · rw [labc_old hk.2]; exact hk.1
      · rw [labc_new (by omega)]
        unfold labs
        rw [if_neg (by omega)]
        rw [if_pos (by omega)]
  · refine o1.kept2 (fun k hk hl => ?_) (fun k hk hl => ?_)
    · exact (hw k (by omega)).trans ((f5.block k (by omega) (by omega)).trans ((f4.block k (by omega) (by omega)).trans (f3.block k (by omega) (by omega))))
    · rcases hk with hk | hk
      · rw [labc_old hk.2]; exact hk.1
      · rw [labc_new (by omega)]
        unfold labs
        rw [if_neg (by omega)]
        rw [if_neg (by omega)]
        rw [if_pos (by omega)]
  · refine o2.kept2 (fun k hk hl => ?_) (fun k hk hl => ?_)
    · exact (hw k (by omega)).trans ((f5.block k (by omega) (by omega)).trans (f4.block k (by omega) (by omega)))
    · rcases hk with hk | hk
      · rw [labc_old hk.2]; exact hk.1
      · rw [labc_new (by omega)]
        unfold labs
        rw [if_neg (by omega)]
        rw [if_neg (by omega)]
        rw [if_neg (by omega)]
        rw [if_pos (by omega)]
  · refine o3.kept2 (fun k hk hl => ?_) (fun k hk hl => ?_)
    · exact (hw k (by omega)).trans (f5.block k (by omega) (by omega))
    · rcases hk with hk | hk
      · rw [labc_old hk.2]; exact hk.1
      · rw [labc_new (by omega)]
        unfold labs
        rw [if_neg (by omega)]
        rw [if_neg (by omega)]
        rw [if_neg (by omega)]
        rw [if_neg (by omega)]
        rw [if_pos (by omega)]
  · refine o4.kept2 (fun k hk hl => ?_) (fun k hk hl => ?_)
    · exact (hw k (by omega))
    · rcases hk with hk | hk
      · rw [labc_old hk.2]; exact hk.1
      · rw [labc_new (by omega)]
        unfold labs
        rw [if_neg (by omega)]
        rw [if_neg (by omega)]
        rw [if_neg (by omega)]
        rw [if_neg (by omega)]
        rw [if_neg (by omega)]
theorem ix_0 (g0 g1 g2 g3 g4 : Nat) (w : World) : (Instr.index 72 (.agg #[.iface 92 (.pointer (some ⟨g0, 0, none⟩)), .iface 94 (.pointer (some ⟨g1, 0, none⟩)), .iface 96 (.pointer (some ⟨g2, 0, none⟩)), .iface 98 (.pointer (some ⟨g3, 0, none⟩)), .iface 100 (.pointer (some ⟨g4, 0, none⟩))]) (.int .i64 0)).run Try.prog w = .ok (.iface 92 (.pointer (some ⟨g0, 0, none⟩))) w := by kernel_rfl
theorem ix_1 (g0 g1 g2 g3 g4 : Nat) (w : World) : (Instr.index 72 (.agg #[.iface 92 (.pointer (some ⟨g0, 0, none⟩)), .iface 94 (.pointer (some ⟨g1, 0, none⟩)), .iface 96 (.pointer (some ⟨g2, 0, none⟩)), .iface 98 (.pointer (some ⟨g3, 0, none⟩)), .iface 100 (.pointer (some ⟨g4, 0, none⟩))]) (.int .i64 1)).run Try.prog w = .ok (.iface 94 (.pointer (some ⟨g1, 0, none⟩))) w := by kernel_rfl
theorem ix_2 (g0 g1 g2 g3 g4 : Nat) (w : World) : (Instr.index 72 (.agg #[.iface 92 (.pointer (some ⟨g0, 0, none⟩)), .iface 94 (.pointer (some ⟨g1, 0, none⟩)), .iface 96 (.pointer (some ⟨g2, 0, none⟩)), .iface 98 (.pointer (some ⟨g3, 0, none⟩)), .iface 100 (.pointer (some ⟨g4, 0, none⟩))]) (.int .i64 2)).run Try.prog w = .ok (.iface 96 (.pointer (some ⟨g2, 0, none⟩))) w := by kernel_rfl
theorem ix_3 (g0 g1 g2 g3 g4 : Nat) (w : World) : (Instr.index 72 (.agg #[.iface 92 (.pointer (some ⟨g0, 0, none⟩)), .iface 94 (.pointer (some ⟨g1, 0, none⟩)), .iface 96 (.pointer (some ⟨g2, 0, none⟩)), .iface 98 (.pointer (some ⟨g3, 0, none⟩)), .iface 100 (.pointer (some ⟨g4, 0, none⟩))]) (.int .i64 3)).run Try.prog w = .ok (.iface 98 (.pointer (some ⟨g3, 0, none⟩))) w := by kernel_rfl
theorem ix_4 (g0 g1 g2 g3 g4 : Nat) (w : World) : (Instr.index 72 (.agg #[.iface 92 (.pointer (some ⟨g0, 0, none⟩)), .iface 94 (.pointer (some ⟨g1, 0, none⟩)), .iface 96 (.pointer (some ⟨g2, 0, none⟩)), .iface 98 (.pointer (some ⟨g3, 0, none⟩)), .iface 100 (.pointer (some ⟨g4, 0, none⟩))]) (.int .i64 4)).run Try.prog w = .ok (.iface 100 (.pointer (some ⟨g4, 0, none⟩))) w := by kernel_rfl
set_option maxRecDepth 100000 in
set_option maxHeartbeats 8000000 in
theorem contents_any {W : World} {B : Nat} {lab : Nat → Nat} {g0 g1 g2 g3 g4 : Nat} {x : Ct} (hd : Wd W B lab g0 g1 g2 g3 g4 x) (hB : B ≤ W.heap.size) (hin : CtIn 225100000000000 x) :
    Calls Try.prog 30 #[wdV g0 g1 g2 g3 g4] W fun e w' => ∃ v0 v1 v2 v3 v4 lab', e = .returned (.agg #[v0, v1, v2, v3, v4]) ∧ CtOwn w' B lab' v0 v1 v2 v3 v4 x ∧ Below W.heap.size W w' := by
  obtain ⟨n, hn⟩ : ∃ n, n = W.heap.size := ⟨_, rfl⟩
  rw [← hn] at hB
  have P0 := fun (w' : World) (hW : Below W.heap.size W w') (s0 s1 s2 s3 s4 : Value) (hb : w'.heap[n + 2]? = some (ctO s0 s1 s2 s3 s4)) => put_cell (hd.cell.kept (T := fun k => lab k = 0 ∧ k < n) (fun k _ hl => hW.block k hl) (fun k hk hl => ⟨hk, by omega⟩)) hb (fun e => by omega) hin.cell
  have P1 := fun (w' : World) (hW : Below W.heap.size W w') (s0 s1 s2 s3 s4 : Value) (hb : w'.heap[n + 2]? = some (ctO s0 s1 s2 s3 s4)) => put_stack (hd.stack.kept (T := fun k => lab k = 1 ∧ k < n) (fun k _ hl => hW.block k hl) (fun k hk hl => ⟨hk, by omega⟩)) hb (fun e => by omega) hin.stack
  have P2 := fun (w' : World) (hW : Below W.heap.size W w') (s0 s1 s2 s3 s4 : Value) (hb : w'.heap[n + 2]? = some (ctO s0 s1 s2 s3 s4)) => put_queue (hd.queue.kept (T := fun k => lab k = 2 ∧ k < n) (fun k _ hl => hW.block k hl) (fun k hk hl => ⟨hk, by omega⟩)) hb (fun e => by omega) hin.queue
  have P3 := fun (w' : World) (hW : Below W.heap.size W w') (s0 s1 s2 s3 s4 : Value) (hb : w'.heap[n + 2]? = some (ctO s0 s1 s2 s3 s4)) => put_set (hd.set.kept (T := fun k => lab k = 3 ∧ k < n) (fun k _ hl => hW.block k hl) (fun k hk hl => ⟨hk, by omega⟩)) hb (fun e => by omega) hin.set
  have P4 := fun (w' : World) (hW : Below W.heap.size W w') (s0 s1 s2 s3 s4 : Value) (hb : w'.heap[n + 2]? = some (ctO s0 s1 s2 s3 s4)) => put_table (hd.table.kept (T := fun k => lab k = 4 ∧ k < n) (fun k _ hl => hW.block k hl) (fun k hk hl => ⟨hk, by omega⟩)) hb (fun e => by omega) hin.table
  have low := hd.low
  unfold ctO at P0 P1 P2 P3 P4
  have hA : ((W.alloc (.cells #[.iface 92 (.pointer (some ⟨g0, 0, none⟩)), .iface 94 (.pointer (some ⟨g1, 0, none⟩)), .iface 96 (.pointer (some ⟨g2, 0, none⟩)), .iface 98 (.pointer (some ⟨g3, 0, none⟩)), .iface 100 (.pointer (some ⟨g4, 0, none⟩))] 72 (0, 0))).alloc (.cells #[.slice none 0 0, .slice none 0 0, .slice none 0 0, .slice none 0 0, .slice none 0 0] 25 (0, 0))).alloc (.cells #[.slice none 0 0, .slice none 0 0, .slice none 0 0, .slice none 0 0, .slice none 0 0] 25 (0, 0)) = ((W.alloc (.cells #[.iface 92 (.pointer (some ⟨g0, 0, none⟩)), .iface 94 (.pointer (some ⟨g1, 0, none⟩)), .iface 96 (.pointer (some ⟨g2, 0, none⟩)), .iface 98 (.pointer (some ⟨g3, 0, none⟩)), .iface 100 (.pointer (some ⟨g4, 0, none⟩))] 72 (0, 0))).alloc (.cells #[.slice none 0 0, .slice none 0 0, .slice none 0 0, .slice none 0 0, .slice none 0 0] 25 (0, 0))).alloc (.cells #[.slice none 0 0, .slice none 0 0, .slice none 0 0, .slice none 0 0, .slice none 0 0] 25 (0, 0)) := rfl
  have e0 := old_at (old_at (new_at W (.cells #[.iface 92 (.pointer (some ⟨g0, 0, none⟩)), .iface 94 (.pointer (some ⟨g1, 0, none⟩)), .iface 96 (.pointer (some ⟨g2, 0, none⟩)), .iface 98 (.pointer (some ⟨g3, 0, none⟩)), .iface 100 (.pointer (some ⟨g4, 0, none⟩))] 72 (0, 0)) n hn) (.cells #[.slice none 0 0, .slice none 0 0, .slice none 0 0, .slice none 0 0, .slice none 0 0] 25 (0, 0))) (.cells #[.slice none 0 0, .slice none 0 0, .slice none 0 0, .slice none 0 0, .slice none 0 0] 25 (0, 0))
  have e1 := old_at (new_at (W.alloc (.cells #[.iface 92 (.pointer (some ⟨g0, 0, none⟩)), .iface 94 (.pointer (some ⟨g1, 0, none⟩)), .iface 96 (.pointer (some ⟨g2, 0, none⟩)), .iface 98 (.pointer (some ⟨g3, 0, none⟩)), .iface 100 (.pointer (some ⟨g4, 0, none⟩))] 72 (0, 0))) (.cells #[.slice none 0 0, .slice none 0 0, .slice none 0 0, .slice none 0 0, .slice none 0 0] 25 (0, 0)) (n + 1) (by simp [hn])) (.cells #[.slice none 0 0, .slice none 0 0, .slice none 0 0, .slice none 0 0, .slice none 0 0] 25 (0, 0))
  have e2 := new_at ((W.alloc (.cells #[.iface 92 (.pointer (some ⟨g0, 0, none⟩)), .iface 94 (.pointer (some ⟨g1, 0, none⟩)), .iface 96 (.pointer (some ⟨g2, 0, none⟩)), .iface 98 (.pointer (some ⟨g3, 0, none⟩)), .iface 100 (.pointer (some ⟨g4, 0, none⟩))] 72 (0, 0))).alloc (.cells #[.slice none 0 0, .slice none 0 0, .slice none 0 0, .slice none 0 0, .slice none 0 0] 25 (0, 0))) (.cells #[.slice none 0 0, .slice none 0 0, .slice none 0 0, .slice none 0 0, .slice none 0 0] 25 (0, 0)) (n + 2) (by simp [hn])
  have eB : Below W.heap.size W (((W.alloc (.cells #[.iface 92 (.pointer (some ⟨g0, 0, none⟩)), .iface 94 (.pointer (some ⟨g1, 0, none⟩)), .iface 96 (.pointer (some ⟨g2, 0, none⟩)), .iface 98 (.pointer (some ⟨g3, 0, none⟩)), .iface 100 (.pointer (some ⟨g4, 0, none⟩))] 72 (0, 0))).alloc (.cells #[.slice none 0 0, .slice none 0 0, .slice none 0 0, .slice none 0 0, .slice none 0 0] 25 (0, 0))).alloc (.cells #[.slice none 0 0, .slice none 0 0, .slice none 0 0, .slice none 0 0, .slice none 0 0] 25 (0, 0))) := (((Below.refl _ _).alloc (Nat.le_refl _) _).alloc (by simp) _).alloc (by simp; omega) _
  have eS : (((W.alloc (.cells #[.iface 92 (.pointer (some ⟨g0, 0, none⟩)), .iface 94 (.pointer (some ⟨g1, 0, none⟩)), .iface 96 (.pointer (some ⟨g2, 0, none⟩)), .iface 98 (.pointer (some ⟨g3, 0, none⟩)), .iface 100 (.pointer (some ⟨g4, 0, none⟩))] 72 (0, 0))).alloc (.cells #[.slice none 0 0, .slice none 0 0, .slice none 0 0, .slice none 0 0, .slice none 0 0] 25 (0, 0))).alloc (.cells #[.slice none 0 0, .slice none 0 0, .slice none 0 0, .slice none 0 0, .slice none 0 0] 25 (0, 0))).heap.size = n + 3 := by simp [hn]
  clear hA hd
  replace P0 := Mr.hid P0
  replace P1 := Mr.hid P1
  replace P2 := Mr.hid P2
  replace P3 := Mr.hid P3
  replace P4 := Mr.hid P4
  replace low := Mr.hid low
  replace hn := Mr.hid hn
  unfold wdV
  go_enter Try.func30, Try.ntmps30
  go_wp2
  obtain ⟨w0, hw0⟩ : ∃ w0, ((W.alloc (.cells #[.iface 92 (.pointer (some ⟨g0, 0, none⟩)), .iface 94 (.pointer (some ⟨g1, 0, none⟩)), .iface 96 (.pointer (some ⟨g2, 0, none⟩)), .iface 98 (.pointer (some ⟨g3, 0, none⟩)), .iface 100 (.pointer (some ⟨g4, 0, none⟩))] 72 (0, 0))).alloc (.cells #[.slice none 0 0, .slice none 0 0, .slice none 0 0, .slice none 0 0, .slice none 0 0] 25 (0, 0))).alloc (.cells #[.slice none 0 0, .slice none 0 0, .slice none 0 0, .slice none 0 0, .slice none 0 0] 25 (0, 0)) = w0 := ⟨_, rfl⟩
  rw [hw0] at e0 e1 e2 eB eS ⊢
  rw [show (⟨W.heap.size + 1 + 1, 0, none⟩ : Addr) = ⟨n + 2, 0, none⟩ from by rw [hn.out], show (⟨W.heap.size + 1, 0, none⟩ : Addr) = ⟨n + 1, 0, none⟩ from by rw [hn.out], show (⟨W.heap.size, 0, none⟩ : Addr) = ⟨n, 0, none⟩ from by rw [hn.out]]
  clear hw0 e0
  have TB0 := Mr.hid eB
  have HS0 := Mr.hid e2
  have HR0 := Mr.hid e1
  replace eS := Mr.hid eS
  clear e1 e2 eB
  have ix0 := ix_0 g0 g1 g2 g3 g4
  have ix1 := ix_1 g0 g1 g2 g3 g4
  have ix2 := ix_2 g0 g1 g2 g3 g4
  have ix3 := ix_3 g0 g1 g2 g3 g4
  have ix4 := ix_4 g0 g1 g2 g3 g4
  refine wp_loop_rounds 6 ?_
  rw [rounds_succ]
  go_wp2_with (first | (go_at_call 38; refine (P0.out _ TB0.out _ _ _ _ _ HS0.out).mono ?_; rintro e w1 ⟨rfl, v0, hO0, hS0, hF0⟩; obtain ⟨a0, c0, rfl, _, _⟩ := hO0.form))
  have HS1 := Mr.hid hS0
  have TB1 := Mr.hid (TB0.out.trans (hF0.below (n := W.heap.size) (fun k e => by have := hn.out; omega) TB0.out.size))
  have HR1 := Mr.hid ((hF0.block (n + 1) (Array.getElem?_eq_some_iff.1 HR0.out).1 (by omega)).trans HR0.out)
  replace hO0 := Mr.hid hO0
  replace hF0 := Mr.hid hF0
  clear hS0
  rw [rounds_succ]
  go_wp2_with (first | (go_at_call 38; refine (P1.out _ TB1.out _ _ _ _ _ HS1.out).mono ?_; rintro e w2 ⟨rfl, v1, hO1, hS1, hF1⟩; obtain ⟨a1, c1, rfl, _, _⟩ := hO1.form))
  have HS2 := Mr.hid hS1
  have TB2 := Mr.hid (TB1.out.trans (hF1.below (n := W.heap.size) (fun k e => by have := hn.out; omega) TB1.out.size))
  have HR2 := Mr.hid ((hF1.block (n + 1) (Array.getElem?_eq_some_iff.1 HR1.out).1 (by omega)).trans HR1.out)
  replace hO1 := Mr.hid hO1
  replace hF1 := Mr.hid hF1
  clear hS1
  rw [rounds_succ]
  go_wp2_with (first | (go_at_call 38; refine (P2.out _ TB2.out _ _ _ _ _ HS2.out).mono ?_; rintro e w3 ⟨rfl, v2, hO2, hS2, hF2⟩; obtain ⟨a2, c2, rfl, _, _⟩ := hO2.form))
  have HS3 := Mr.hid hS2
  have TB3 := Mr.hid (TB2.out.trans (hF2.below (n := W.heap.size) (fun k e => by have := hn.out; omega) TB2.out.size))
  have HR3 := Mr.hid ((hF2.block (n + 1) (Array.getElem?_eq_some_iff.1 HR2.out).1 (by omega)).trans HR2.out)
  replace hO2 := Mr.hid hO2
  replace hF2 := Mr.hid hF2
  clear hS2
  rw [rounds_succ]
  go_wp2_with (first | (go_at_call 38; refine (P3.out _ TB3.out _ _ _ _ _ HS3.out).mono ?_; rintro e w4 ⟨rfl, v3, hO3, hS3, hF3⟩; obtain ⟨a3, c3, rfl, _, _⟩ := hO3.form))
  have HS4 := Mr.hid hS3
  have TB4 := Mr.hid (TB3.out.trans (hF3.below (n := W.heap.size) (fun k e => by have := hn.out; omega) TB3.out.size))
  have HR4 := Mr.hid ((hF3.block (n + 1) (Array.getElem?_eq_some_iff.1 HR3.out).1 (by omega)).trans HR3.out)
  replace hO3 := Mr.hid hO3
  replace hF3 := Mr.hid hF3
  clear hS3
  rw [rounds_succ]
  go_wp2_with (first | (go_at_call 38; refine (P4.out _ TB4.out _ _ _ _ _ HS4.out).mono ?_; rintro e w5 ⟨rfl, v4, hO4, hS4, hF4⟩; obtain ⟨a4, c4, rfl, _, _⟩ := hO4.form))
  have HS5 := Mr.hid hS4
  have TB5 := Mr.hid (TB4.out.trans (hF4.below (n := W.heap.size) (fun k e => by have := hn.out; omega) TB4.out.size))
  have HR5 := Mr.hid ((hF4.block (n + 1) (Array.getElem?_eq_some_iff.1 HR4.out).1 (by omega)).trans HR4.out)
  replace hO4 := Mr.hid hO4
  replace hF4 := Mr.hid hF4
  clear hS4
  obtain ⟨y0, y1, y2, y3, y4, y5⟩ := ifs_cells HS5.out
  obtain ⟨z0, z1, z2, z3, z4, z5⟩ := ifs_cells HR5.out
  obtain ⟨f0, f1, f2, f3, f4⟩ := ifs_thaw HR5.out
  have hne : n + 1 ≠ n + 2 := by omega
  rw [rounds_succ]
  have hH := set5_five (.slice a0 x.cell.length c0) (.slice a1 x.stack.length c1) (.slice a2 x.queue.length c2) (.slice a3 x.set.length c3) (.slice a4 x.table.length c4) HR5.out
  obtain ⟨x0, x1, x2, x3, x4, x5⟩ := ifs_cells hH
  have hD := ct_made (w6 := set5 w5 (n + 1) (.slice a0 x.cell.length c0) (.slice a1 x.stack.length c1) (.slice a2 x.queue.length c2) (.slice a3 x.set.length c3) (.slice a4 x.table.length c4)) (B := B) (n := n) (bS := n + 2) (bR := n + 1) hO0.out hO1.out hO2.out hO3.out hO4.out hF0.out hF1.out hF2.out hF3.out hF4.out (fun k h => set5_far _ _ _ _ _ _ _ k h) low.out hB (by omega) (by have := eS.out; omega) (by omega) (by have := eS.out; omega)
  have hE := set5_below (b := n + 1) (.slice a0 x.cell.length c0) (.slice a1 x.stack.length c1) (.slice a2 x.queue.length c2) (.slice a3 x.set.length c3) (.slice a4 x.table.length c4) TB5.out (by have := hn.out; omega)
  unfold set5 at x0 x1 x2 x3 x4 x5 hD hE
  replace hD := Mr.hid hD
  replace hE := Mr.hid hE
  clear hH
  go_wp2
  refine bodyPost_ret (v := .agg #[.slice a0 x.cell.length c0, .slice a1 x.stack.length c1, .slice a2 x.queue.length c2, .slice a3 x.set.length c3, .slice a4 x.table.length c4]) (by simp [results, Try.results30, go_sem, x0, x1, x2, x3, x4]) rfl ⟨_, _, _, _, _, _, rfl, hD.out, hE.out⟩
end Go.Proofs.Ytegbcocbopgghab.Md
/-
  Package model: no contents; labels of one object.
-/
namespace Go.Proofs.Ytegbcocbopgghab.Md
open Go.RowKit Mr
set_option linter.unusedVariables false
def labx (lab : Nat → Nat) (s i k : Nat) : Nat := if lab k = i ∨ s ≤ k then i else 5
theorem labx_in {lab : Nat → Nat} {s i k : Nat} (h : lab k = i ∨ s ≤ k) : labx lab s i k = i := if_pos h
theorem labx_lt {lab : Nat → Nat} {s i k : Nat} (h : labx lab s i k < 5) : lab k = i ∨ s ≤ k := by
  by_cases c : lab k = i ∨ s ≤ k
  · exact c
  · unfold labx at h; rw [if_neg c] at h; omega
theorem ct0_own (w : World) (B : Nat) : CtOwn w B (fun _ => 5) (.slice none 0 0) (.slice none 0 0) (.slice none 0 0) (.slice none 0 0) (.slice none 0 0) ct0 := ⟨fun k h => absurd h (by decide), Own.zero _ _ _ _ _, Own.zero _ _ _ _ _, Own.zero _ _ _ _ _, Own.zero _ _ _ _ _, Own.zero _ _ _ _ _⟩
theorem Tq.res {W w w' : World} {n : Nat} {o r : Obj} {T : Nat → Prop} (h : Tq W w n (n + 1) o r) (hF : Fr w w' T) (hT : ¬ T (n + 1)) : w'.heap[n + 1]? = some r := (hF.block _ h.2.2.2.1 hT).trans h.2.2.1
end Go.Proofs.Ytegbcocbopgghab.Md
