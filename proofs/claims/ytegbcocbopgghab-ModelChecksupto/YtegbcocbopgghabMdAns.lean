import Derived.Test.YtegbcocbopgghabMdObj
/-
  reclaimmodel's answers: kind, value, yes.
-/
namespace Go.Proofs.Ytegbcocbopgghab.Md
open Go.RowKit Mr
set_option linter.unusedVariables false
set_option linter.unusedSimpArgs false
def ans (k v : Int) : Value := .agg #[.int .i64 k, .int .i64 v]
set_option maxHeartbeats 2000000 in
theorem kind_any (k : Int) (w : World) : Calls Try.prog 55 #[.int .i64 k] w fun e w' => e = .returned (ans k 0) ∧ Below w.heap.size w w' := by
  go_enter Try.func55, Try.ntmps55
  go_wp2
  refine bodyPost_ret (v := ans k 0) (by simp [results, Try.results55, go_sem, ans]) rfl ?_
  exact ⟨rfl, (Below.refl _ _).alloc (Nat.le_refl _) _⟩
set_option maxHeartbeats 2000000 in
theorem value_any (k : Int) (w : World) : Calls Try.prog 56 #[.int .i64 k] w fun e w' => e = .returned (ans 2 k) ∧ Below w.heap.size w w' := by
  go_enter Try.func56, Try.ntmps56
  go_wp2
  refine bodyPost_ret (v := ans 2 k) (by simp [results, Try.results56, go_sem, ans]) rfl ?_
  exact ⟨rfl, (Below.refl _ _).alloc (Nat.le_refl _) _⟩
set_option maxHeartbeats 2000000 in
theorem yes_any (b : Bool) (w : World) : Calls Try.prog 63 #[.bool b] w fun e w' => e = .returned (ans (if b then 5 else 6) 0) ∧ Below w.heap.size w w' := by
  have bx := heap_alloc_new w (.cells #[.int .i64 0, .int .i64 0] 31 (0, 0))
  have B0 := (Below.refl w.heap.size w).alloc (Nat.le_refl _) (.cells #[.int .i64 0, .int .i64 0] 31 (0, 0))
  have K := fun (w1 : World) (k : Int) (hB : Below (w.heap.size + 1) (w.alloc (.cells #[.int .i64 0, .int .i64 0] 31 (0, 0))) w1) => (show (w1.cell? ⟨w.heap.size, 0, none⟩ = some (.int .i64 0) ∧ w1.cell? ⟨w.heap.size, 1, none⟩ = some (.int .i64 0) ∧ w1.frozen? ⟨w.heap.size, 0, none⟩ = false ∧ w1.frozen? ⟨w.heap.size, 1, none⟩ = false ∧ w.heap.size < w1.heap.size) ∧ ((w1.setCell ⟨w.heap.size, 0, none⟩ (.int .i64 k)).setCell ⟨w.heap.size, 1, none⟩ (.int .i64 0)).cell? ⟨w.heap.size, 0, none⟩ = some (.int .i64 k) ∧ ((w1.setCell ⟨w.heap.size, 0, none⟩ (.int .i64 k)).setCell ⟨w.heap.size, 1, none⟩ (.int .i64 0)).cell? ⟨w.heap.size, 1, none⟩ = some (.int .i64 0) ∧ Below w.heap.size w ((w1.setCell ⟨w.heap.size, 0, none⟩ (.int .i64 k)).setCell ⟨w.heap.size, 1, none⟩ (.int .i64 0)) from by
    have h1 := (hB.block _ (by omega)).trans bx
    have h2 := setBlk (setBlk h1 0 (.int .i64 k)) 1 (.int .i64 0)
    have h3 : Below w.heap.size w w1 := B0.trans (hB.mono (by omega))
    refine ⟨⟨cell_blk h1 0, cell_blk h1 1, ?_, ?_, (Array.getElem?_eq_some_iff.1 h1).1⟩, cell_blk h2 0, cell_blk h2 1, (h3.setCell (p := ⟨w.heap.size, 0, none⟩) (Nat.le_refl _) _).setCell (p := ⟨w.heap.size, 1, none⟩) (Nat.le_refl _) _⟩ <;> simp [World.frozen?, h1])
  clear bx B0
  replace K := Mr.hid K
  cases b with
  | false =>
    go_enter Try.func63, Try.ntmps63
    go_wp2_with (go_at_call 55; refine (kind_any 6 _).mono ?_; rintro e w1 ⟨rfl, hB⟩; unfold ans; simp only [World.size_alloc] at hB; obtain ⟨⟨c0, c1, f0, f1, l1⟩, d0, d1, hE⟩ := K.out w1 6 hB; clear K hB; replace hE := Mr.hid hE)
    refine bodyPost_ret (v := ans 6 0) (by simp [results, Try.results63, go_sem, ans, d0, d1]) rfl ?_
    exact ⟨rfl, hE.out⟩
  | true =>
    go_enter Try.func63, Try.ntmps63
    go_wp2_with (go_at_call 55; refine (kind_any 5 _).mono ?_; rintro e w1 ⟨rfl, hB⟩; unfold ans; simp only [World.size_alloc] at hB; obtain ⟨⟨c0, c1, f0, f1, l1⟩, d0, d1, hE⟩ := K.out w1 5 hB; clear K hB; replace hE := Mr.hid hE)
    refine bodyPost_ret (v := ans 5 0) (by simp [results, Try.results63, go_sem, ans, d0, d1]) rfl ?_
    exact ⟨rfl, hE.out⟩
end Go.Proofs.Ytegbcocbopgghab.Md
