/-
  SCRIPT: ScriptWords.
-/
import Derived.Test.YtfffmljgmfiaaaaScRefW
import Derived.Deep.RegionHeld3
namespace Go.Proofs.Ytfffmljgmfiaaaa.Sc
open Go.RowKit
set_option linter.unusedVariables false
set_option linter.unusedSimpArgs false
theorem op_push : opA 11 = 30 ∧ wdA 11 = ⟨#[112, 117, 115, 104]⟩ := ⟨rfl, rfl⟩
theorem op_pop : wdOf 31 = ⟨#[112, 111, 112]⟩ := rfl
set_option maxHeartbeats 16000000 in
set_option maxRecDepth 100000 in
theorem walk_words (op : Int) (s : ByteArray) (w : World) {P Q : Prop} (_h1 : P) (_h2 : Q) :
    Calls Try.prog 3 #[.int .i64 op, .string s] w fun e w' => e = .returned (.bool true) ∧ Below w.heap.size w w' := by
  clear _h1 _h2
  have hW : Hid (∀ w, Calls Try.prog 6 #[.int .i64 op] w fun e w' => e = .returned (.string (wdOf op)) ∧ Below w.heap.size w w') := fun w => Word_any op w
  have hR : Hid (∀ w, Calls Try.prog 7 #[.int .i64 op] w fun e w' => e = .returned (.string (wdOf op)) ∧ w' = w) := fun w => refWord_any op w
  have hO : Hid (∀ w, Calls Try.prog 6 #[.int .i64 31] w fun e w' => e = .returned (.string ⟨#[112, 111, 112]⟩) ∧ Below w.heap.size w w') := fun w => Word_any 31 w
  have hH : Hid (∀ w, Calls Try.prog 4 #[.string ⟨#[112, 117, 115, 104]⟩] w fun e w' => e = .returned (.tuple #[.int .i64 30, .bool true]) ∧ Below w.heap.size w w') := fun w => Op_some 11 w (by decide)
  generalize wdOf op = y at *
  rcases wd_cases s with ⟨k, hk, rfl⟩ | h
  · have C1 := Mr.hid (Op_some k w hk)
    have C2 := Mr.hid (fun w => refOp_some k w hk)
    have hq := Mr.hid (ref_nil k hk).2
    generalize wdA k = xs at *
    generalize opA k = xo at *
    have d0 : decide (xo < 0) = false := decide_eq_false (by have := hq.out; omega)
    have d1 : (xo != xo) = false := by simp
    go_enter Try.func3, Try.ntmps3
    go_upto_region 2 with (go_at_call 4; refine C1.out.mono ?_; clear C1; rintro e w1 ⟨rfl, B1⟩)
    replace B1 := Mr.hid B1
    go_upto_region 8 with (go_at_call 5; refine (C2.out w1).mono ?_; clear C2; rintro e w2 ⟨rfl, hw⟩; obtain rfl := hw.symm)
    go_upto_region 9 with (go_at_call 4; refine (hH.out w1).mono ?_; clear hH; rintro e w3 ⟨rfl, B3⟩)
    have B : Hid (Below w.heap.size w w3) := B1.out.trans (B3.mono B1.out.size)
    clear B1 B3
    have ey : (y.toList == y.toList) = true := by simp
    go_wp2_with (first | (go_at_call 6; refine (hW.out _).mono ?_; clear hW; rintro e w4 ⟨rfl, B4⟩; replace B := Mr.hid (B.out.trans (B4.mono B.out.size)); clear B4) | (go_at_call 7; refine (hR.out _).mono ?_; clear hR; rintro e w5 ⟨rfl, hw5⟩; obtain rfl := hw5.symm) | (go_at_call 6; refine (hO.out _).mono ?_; clear hO; rintro e w6 ⟨rfl, B6⟩; replace B := Mr.hid (B.out.trans (B6.mono B.out.size)); clear B6))
    go_ret
    exact ⟨rfl, B.out⟩
  · have C1 := Mr.hid (Op_none s w h)
    have C2 := Mr.hid (fun w => refOp_none s w h)
    clear h
    go_enter Try.func3, Try.ntmps3
    go_upto_region 2 with (go_at_call 4; refine C1.out.mono ?_; clear C1; rintro e w1 ⟨rfl, B1⟩)
    replace B1 := Mr.hid B1
    go_upto_region 8 with (go_at_call 5; refine (C2.out w1).mono ?_; clear C2; rintro e w2 ⟨rfl, hw⟩; obtain rfl := hw.symm)
    go_upto_region 9 with (go_at_call 4; refine (hH.out w1).mono ?_; clear hH; rintro e w3 ⟨rfl, B3⟩)
    have B : Hid (Below w.heap.size w w3) := B1.out.trans (B3.mono B1.out.size)
    clear B1 B3
    have ey : (y.toList == y.toList) = true := by simp
    go_wp2_with (first | (go_at_call 6; refine (hW.out _).mono ?_; clear hW; rintro e w4 ⟨rfl, B4⟩; replace B := Mr.hid (B.out.trans (B4.mono B.out.size)); clear B4) | (go_at_call 7; refine (hR.out _).mono ?_; clear hR; rintro e w5 ⟨rfl, hw5⟩; obtain rfl := hw5.symm) | (go_at_call 6; refine (hO.out _).mono ?_; clear hO; rintro e w6 ⟨rfl, B6⟩; replace B := Mr.hid (B.out.trans (B6.mono B.out.size)); clear B6))
    go_ret
    exact ⟨rfl, B.out⟩
end Go.Proofs.Ytfffmljgmfiaaaa.Sc
