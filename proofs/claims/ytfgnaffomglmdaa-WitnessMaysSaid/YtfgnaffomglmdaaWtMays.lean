/-
  WitnessMays: the walk.
-/
import Derived.Test.YtfgnaffomglmdaaWtMay
import Derived.Test.YtfgnaffomglmdaaWtRmay
import Derived.Test.YtfgnaffomglmdaaWtTwin
namespace Go.Proofs.Ytfgnaffomglmdaa.Wt
open Go.RowKit Mr Md
set_option linter.unusedVariables false
set_option linter.unusedSimpArgs false
set_option maxRecDepth 100000
set_option maxHeartbeats 8000000 in
theorem walk_mays (v : Value) (cs : List Cq) (W : World) (hv : Sl W (fun _ => True) 9 v cs.length (cqs cs)) (hsm : cs.length * 72 ≤ 140737488351232) :
    Calls Try.prog 3 #[v] W fun e w' => e = .returned (.bool true) ∧ Below W.heap.size W w' := by
  have TW := twin_any hv hsm
  have RM := fun w' (hB : Below W.heap.size W w') => rMay_any (hv.below hB) (Nat.le_trans hsm (by decide))
  have PM := fun w' a cap (h : Sl w' (fun k => W.heap.size ≤ k) 9 (.slice a cs.length cap) cs.length (cqs cs)) => may_any h (Nat.le_trans hsm (by decide))
  have US := fun w' (hB : Below W.heap.size W w') a cap (h : Sl w' (fun k => W.heap.size ≤ k) 9 (.slice a (cs.length + 1) cap) (cs.length + 1) (cqs (cs ++ [mk77]))) => unspoilt_any h (hv.below hB) hsm
  obtain ⟨av, cv, rfl, hcv⟩ := hv.form
  generalize mayB cs = q at *
  replace TW := Mr.hid TW
  replace RM := Mr.hid RM
  replace PM := Mr.hid PM
  replace US := Mr.hid US
  clear hv
  go_enter Try.func3, Try.ntmps3
  have qq : (q == q) = true := by simp
  go_wp2_with (first
    | (go_at_call 6; refine TW.out.mono ?_; clear TW; rintro e w1 ⟨a, cap, rfl, hown, hB1⟩; have hS1 := Mr.hid hown.sl; replace hB1 := Mr.hid hB1; clear hown)
    | (go_at_call 7; refine (PM.out _ _ _ (sl_cut hS1.out)).mono ?_; clear PM; rintro e w2 ⟨rfl, hB2⟩; replace hS1 := Mr.hid (hS1.out.below hB2); replace hB1 := Mr.hid (hB1.out.trans (hB2.mono hB1.out.size)); clear hB2)
    | (go_at_call 8; refine (RM.out _ hB1.out).mono ?_; clear RM; rintro e w3 ⟨rfl, hB3⟩; replace hS1 := Mr.hid (hS1.out.below hB3); replace hB1 := Mr.hid (hB1.out.trans (hB3.mono hB1.out.size)); clear hB3)
    | (go_at_call 9; refine (US.out _ hB1.out _ _ hS1.out).mono ?_; clear US; rintro e w4 ⟨rfl, hB4⟩; replace hB1 := Mr.hid (hB1.out.trans (hB4.mono hB1.out.size)); clear hB4))
  go_ret
  exact ⟨rfl, hB1.out⟩
end Go.Proofs.Ytfgnaffomglmdaa.Wt
