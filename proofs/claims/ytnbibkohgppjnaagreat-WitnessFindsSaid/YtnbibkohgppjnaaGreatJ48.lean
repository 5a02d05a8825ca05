import Derived.Test.YtnbibkohgppjnaaGreatJ13
set_option linter.unusedVariables false
set_option linter.unusedSimpArgs false
set_option maxRecDepth 100000
namespace Go.Proofs.YtnbibkohgppjnaaGreat.Wt
open Go.RowKit Mr Md
set_option maxHeartbeats 8000000 in
theorem rFits_any (c : Cq) (w : World) : Calls Tryz.prog 33 #[c.val] w fun e w' => e = .returned (.bool (decide (Fit c))) ∧ Below w.heap.size w w' := by
 obtain ⟨b, hb⟩ : ∃ b, b = decide (Fit c) := ⟨_, rfl⟩
 rw [← hb]
 replace hb : Hid (b = true ↔ Fit c) := by rw [hb]; exact decide_eq_true_iff
 obtain ⟨th, op, arg, data, beg, fin, pt, ak, av⟩ := c
 unfold Cq.val
 go_enter Tryz.func33, Tryz.ntmps33
 go_wp2
 all_goals
  go_ret
  refine ⟨ret_bool ?_, ?_⟩
  ·rw [Bool.eq_iff_iff, hb.out]
   clear hb
   simp only [Fit, Tim, Anw]
   by_cases h1 : fin = -1 <;> by_cases h2 : ak = 0 <;> by_cases h3 : ak = 2 <;> by_cases h4 : pt = -1 <;> by_cases h5 : av = 0 <;> first | omega | (simp_all; done) | (simp_all; omega) | (simp at *; omega) | (exfalso; exact ‹¬(ak == 0) = (fin == -1)› (by rw [show (ak == 0) = false from by simpa using h2, show (fin == -1) = false from by simpa using h1]))
  ·repeat (first | exact Below.refl _ _ | refine below_a ?_ (by simp; try omega) _)
end Go.Proofs.YtnbibkohgppjnaaGreat.Wt
