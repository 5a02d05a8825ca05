import Derived.Test.YtegbcocbopgghaaMdRef
import Derived.Test.YtegbcocbopgghaaMpMay
import Derived.Test.YtegbcocbopgghaaMpSame
import Derived.Test.YtegbcocbopgghaaMpObj
/-
  ModelObjects: the walk.
-/
namespace Go.Proofs.Ytegbcocbopgghaa.Md
open Go.RowKit Mr Me
set_option linter.unusedVariables false
set_option linter.unusedSimpArgs false
set_option maxRecDepth 100000 in
set_option maxHeartbeats 8000000 in
theorem walk_objects (op : Int) (W : World) (hwf : (Lit.int .i64 op).wf = true) : Calls Try.prog 3 #[.int .i64 op] W fun e w' => e = .returned (.bool true) ∧ Below W.heap.size W w' := by
  obtain ⟨ob, hob⟩ : ∃ b, b = obj op := ⟨_, rfl⟩
  have C0 := mObject_any op W
  have CR := rObject_any op
  have C1 := mObject_any 31
  have C2 := mObject_any 62
  have C3 := mObject_any 25
  rw [show obj 31 = 2 from rfl] at C1
  rw [show obj 62 = 5 from rfl] at C2
  rw [show obj 25 = 0 from rfl] at C3
  rw [← hob] at C0 CR
  have n0 : (ob == ob) = true := by simp
  replace hob := Mr.hid hob
  replace C0 := Mr.hid C0
  replace CR := Mr.hid CR
  replace C1 := Mr.hid C1
  replace C2 := Mr.hid C2
  replace C3 := Mr.hid C3
  go_enter Try.func3, Try.ntmps3
  go_wp2_with (first | (go_at_call 9; refine C0.out.mono ?_; clear C0; rintro e w1 ⟨rfl, hB⟩; have BB := Mr.hid hB; clear hB) | (go_at_call 10; refine (CR.out _).mono ?_; clear CR; rintro e w' ⟨rfl, hw'⟩; obtain rfl := hw'.symm; clear hw') | (go_at_call 9; refine (C1.out _).mono ?_; clear C1; rintro e w2 ⟨rfl, hB⟩; have BB := Mr.hid (BB.out.trans (hB.mono BB.out.size)); clear hB) | (go_at_call 9; refine (C2.out _).mono ?_; clear C2; rintro e w2 ⟨rfl, hB⟩; have BB := Mr.hid (BB.out.trans (hB.mono BB.out.size)); clear hB) | (go_at_call 9; refine (C3.out _).mono ?_; clear C3; rintro e w2 ⟨rfl, hB⟩; have BB := Mr.hid (BB.out.trans (hB.mono BB.out.size)); clear hB))
  go_ret
  exact ⟨rfl, BB.out⟩
end Go.Proofs.Ytegbcocbopgghaa.Md
