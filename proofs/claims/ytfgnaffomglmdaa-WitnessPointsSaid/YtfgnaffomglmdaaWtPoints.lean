/-
  WitnessPoints: the walk.
-/
import Derived.Test.YtfgnaffomglmdaaWtPts
import Derived.Test.YtfgnaffomglmdaaWtRmay
import Derived.Test.YtfgnaffomglmdaaWtTwin
import Derived.Test.YtfgnaffomglmdaaWtSame
import Derived.Test.YtfgnaffomglmdaaWtBefore
namespace Go.Proofs.Ytfgnaffomglmdaa.Wt
open Go.RowKit Mr Md
set_option linter.unusedVariables false
set_option linter.unusedSimpArgs false
set_option maxRecDepth 100000
set_option maxHeartbeats 16000000 in
theorem walk_points (v : Value) (cs : List Cq) (W : World) (hv : Sl W (fun _ => True) 9 v cs.length (cqs cs)) (hsm : cs.length * 72 ≤ 140737488351232) :
    Calls Try.prog 5 #[v] W fun e w' => e = .returned (.bool true) ∧ Below W.heap.size W w' := by
  have hsm2 : cs.length * 72 ≤ 281474976710656 := by omega
  have TW := twin_any hv hsm
  have RM := fun w' (hB : Below W.heap.size W w') => rMay_any (hv.below hB) hsm2
  have RP := fun w' (hB : Below W.heap.size W w') => rPoints_any (hv.below hB) hsm2
  have PN := fun w' a cap hm (h : Sl w' (fun k => W.heap.size ≤ k) 9 (.slice a cs.length cap) cs.length (cqs cs)) => points_no h hsm2 hm
  have PA := fun w' a cap hm (h : Sl w' (fun k => W.heap.size ≤ k) 9 (.slice a cs.length cap) cs.length (cqs cs)) => points_any h hsm2 hm
  have US := fun w' (hB : Below W.heap.size W w') a cap (h : Sl w' (fun k => W.heap.size ≤ k) 9 (.slice a (cs.length + 1) cap) (cs.length + 1) (cqs (cs ++ [mk77]))) => unspoilt_any h (hv.below hB) hsm
  have hpl := pix_len cs 0
  have NN := fun e w => num_any e w
  obtain ⟨av, cv, rfl, hcv⟩ := hv.form
  replace TW := Mr.hid TW
  replace RP := Mr.hid RP
  replace US := Mr.hid US
  replace NN := Mr.hid NN
  clear hv
  by_cases hm : MayC cs
  · rw [mayB_true hm] at RM
    have PP := Mr.hid (fun w' a cap h => PA w' a cap hm h)
    have hone : ∀ l l' : List Int, l.Perm (pix cs 0) → l.Pairwise (fun a b => ptAt cs a ≤ ptAt cs b) → l'.Perm (pix cs 0) → l'.Pairwise (fun a b => ptAt cs a ≤ ptAt cs b) → l' = l := fun l l' h1 h2 h3 h4 =>
      sorted_one (ptAt cs) (h3.trans h1.symm) h4 h2 (fun x y hx hy e => pt_inj hm.2.1 x y (h3.mem_iff.1 hx) (h3.mem_iff.1 hy) e)
    replace hone := Mr.hid hone
    replace RM := Mr.hid RM
    clear PN PA hm
    go_enter Try.func5, Try.ntmps5
    go_wp2_with (first
      | (go_at_call 6; refine TW.out.mono ?_; clear TW; rintro e w1 ⟨a, cap, rfl, hown, hB1⟩; have hS1 := Mr.hid hown.sl; replace hB1 := Mr.hid hB1; clear hown)
      | (go_at_call 14; refine (PP.out _ _ _ (sl_cut hS1.out)).mono ?_; clear PP; rintro e w2 ⟨u, l, rfl, hSu, hPu, hUu, hB2⟩; obtain ⟨au, cu, rfl, hcu⟩ := hSu.form; have hll := Mr.hid hPu.length_eq; replace hSu := Mr.hid hSu; replace hPu := Mr.hid hPu; replace hUu := Mr.hid hUu; replace hS1 := Mr.hid (hS1.out.below hB2); replace hB1 := Mr.hid (hB1.out.trans (hB2.mono hB1.out.size)); clear hB2)
      | (go_at_call 8; refine (RM.out _ hB1.out).mono ?_; clear RM; rintro e w3 ⟨rfl, hB3⟩; replace hSu := Mr.hid (hSu.out.below hB3); replace hS1 := Mr.hid (hS1.out.below hB3); replace hB1 := Mr.hid (hB1.out.trans (hB3.mono hB1.out.size)); clear hB3)
      | (go_at_call 16; refine (RP.out _ hB1.out).mono ?_; clear RP; rintro e w4 ⟨u2, l2, rfl, hN, hP2, hU2⟩; have e2 := hone.out _ _ hPu.out hUu.out hP2 hU2; subst e2; replace hS1 := Mr.hid (hS1.out.below hN.bel); replace hSu := Mr.hid (hSu.out.below hN.bel); replace hB1 := Mr.hid (hB1.out.trans (hN.bel.mono hB1.out.size)); obtain ⟨a2, c2, rfl, hc2, _⟩ := hN.own.form; have hS2 := Mr.hid hN.own.sl; clear hN hP2 hU2)
      | (go_at_call 15; refine (sameInts_eq hSu.out hS2.out (by have := hll.out; omega)).mono ?_; rintro e w5 ⟨rfl, hB5⟩; replace hS1 := Mr.hid (hS1.out.below hB5); replace hB1 := Mr.hid (hB1.out.trans (hB5.mono hB1.out.size)); clear hB5)
      | (go_at_call 13; refine (NN.out _ _).mono ?_; rintro e w6 ⟨rfl, rfl⟩)
      | (go_at_call 9; refine (US.out _ hB1.out _ _ hS1.out).mono ?_; clear US; rintro e w7 ⟨rfl, hB7⟩; replace hB1 := Mr.hid (hB1.out.trans (hB7.mono hB1.out.size)); clear hB7))
    go_ret
    exact ⟨rfl, hB1.out⟩
  · rw [mayB_false hm] at RM
    have PP := Mr.hid (fun w' a cap h => PN w' a cap hm h)
    replace RM := Mr.hid RM
    clear PN PA hm RP
    go_enter Try.func5, Try.ntmps5
    go_wp2_with (first
      | (go_at_call 6; refine TW.out.mono ?_; clear TW; rintro e w1 ⟨a, cap, rfl, hown, hB1⟩; have hS1 := Mr.hid hown.sl; replace hB1 := Mr.hid hB1; clear hown)
      | (go_at_call 14; refine (PP.out _ _ _ (sl_cut hS1.out)).mono ?_; clear PP; rintro e w2 ⟨rfl, hB2⟩; replace hS1 := Mr.hid (hS1.out.below hB2); replace hB1 := Mr.hid (hB1.out.trans (hB2.mono hB1.out.size)); clear hB2)
      | (go_at_call 8; refine (RM.out _ hB1.out).mono ?_; clear RM; rintro e w3 ⟨rfl, hB3⟩; replace hS1 := Mr.hid (hS1.out.below hB3); replace hB1 := Mr.hid (hB1.out.trans (hB3.mono hB1.out.size)); clear hB3)
      | (go_at_call 13; refine (NN.out _ _).mono ?_; rintro e w6 ⟨rfl, rfl⟩)
      | (go_at_call 9; refine (US.out _ hB1.out _ _ hS1.out).mono ?_; clear US; rintro e w7 ⟨rfl, hB7⟩; replace hB1 := Mr.hid (hB1.out.trans (hB7.mono hB1.out.size)); clear hB7))
    go_ret
    exact ⟨rfl, hB1.out⟩
end Go.Proofs.Ytfgnaffomglmdaa.Wt
