/-
  reclaimlaw11: ops, pick.
-/
import Derived.Test.YtegbcocbopgghabMdApart
namespace Go.Proofs.Ytegbcocbopgghab.Md
open Go.RowKit Mr Me
set_option linter.unusedVariables false
set_option linter.unusedSimpArgs false
def opsL : List Int := [22, 23, 30, 31, 40, 41, 50, 51, 52, 60, 61, 62]
set_option maxRecDepth 100000 in
set_option maxHeartbeats 4000000 in
theorem ops_any (w : World) : Calls Try.prog 37 #[] w fun e w' => e = .returned (.slice (some ⟨w.heap.size, 0, none⟩) 12 12) ∧ w'.heap[w.heap.size]? = some (.cells (ints opsL).toArray 3 (0, 0)) ∧ Below w.heap.size w w' := by
  go_enter Try.func37, Try.ntmps37
  go_wp2
  go_ret
  exact ⟨rfl, new_at w _ _ rfl, (Below.refl _ _).alloc (Nat.le_refl _) _⟩
theorem ops_obj (j : Nat) (h : j < 12) : ∃ a, opsL[j]? = some a ∧ obj a ≠ 0 := by
  have : ∀ j : Fin 12, ∃ a, opsL[j.val]? = some a ∧ obj a ≠ 0 := by
    intro j
    refine ⟨opsL[j.val]'(by show j.val < 12; exact j.isLt), List.getElem?_eq_getElem _, ?_⟩
    revert j; decide
  exact this ⟨j, h⟩
set_option maxRecDepth 100000 in
set_option maxHeartbeats 4000000 in
theorem pick_any (n : Int) : ∃ a, obj a ≠ 0 ∧ ∀ w : World, Calls Try.prog 14 #[.int .i64 n] w fun e w' => e = .returned (.int .i64 a) ∧ Below w.heap.size w w' := by
  obtain ⟨m, hm, hr⟩ : ∃ m : Nat, m < 12 ∧ wrap64 ((IntKind.u64.wrap n).tmod 12) = (m : Int) := by
    have h0 : 0 ≤ IntKind.u64.wrap n := by simp [IntKind.wrap, IntKind.signed, IntKind.bits]; omega
    have h1 : (IntKind.u64.wrap n).tmod 12 = IntKind.u64.wrap n % 12 := Int.tmod_eq_emod_of_nonneg h0
    have h2 : 0 ≤ IntKind.u64.wrap n % 12 := Int.emod_nonneg _ (by decide)
    have h3 : IntKind.u64.wrap n % 12 < 12 := Int.emod_lt_of_pos _ (by decide)
    refine ⟨(IntKind.u64.wrap n % 12).toNat, by omega, ?_⟩
    rw [h1]
    generalize IntKind.u64.wrap n % 12 = z at *
    unfold wrap64
    omega
  obtain ⟨a, ha, ho⟩ := ops_obj m hm
  refine ⟨a, ho, fun w => ?_⟩
  have C := Mr.hid (ops_any w)
  have hlt : (m : Int) < 12 := by omega
  have hge : (0 : Int) ≤ (m : Int) := by omega
  go_enter Try.func14, Try.ntmps14
  go_wp2_with (first | (go_at_call 37; refine C.out.mono ?_; clear C; rintro e w1 ⟨rfl, hb, hB⟩; have hc : w1.cell? ⟨w.heap.size, m, none⟩ = some (.int .i64 a) := (by rw [cell_blk hb m]; simp [ints, ha]); have hl := (Array.getElem?_eq_some_iff.1 hb).1; clear hb; replace hB := Mr.hid hB))
  go_ret
  exact ⟨rfl, hB.out⟩
end Go.Proofs.Ytegbcocbopgghab.Md
