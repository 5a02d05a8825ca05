/-
  work: a task's step through its interface, whatever the task's Step does; a task that does not panic.
-/
import Derived.Test.YtiobchadjcekcaaMacTask
import Derived.Defers
import Derived.Recover
namespace Go.Proofs.Ytiobchadjcekcaa.Ma
open Go.RowKit Mr Me
theorem work_idle (w : World) : CallsD Try.prog 42 #[] .returning w fun e u' w' => e = .returned (.tuple #[]) ∧ u' = .returning ∧ w' = w := by
  refine callsD_of_wpS Try.func42 rfl fun c₀ cs hu => ?_
  apply wpS_region
  simp [wpOpsS, go_sem, recoverD, hu, Try.ntmps42, bodyPostS, results, Try.results42]
  cases c₀
  simp_all
theorem meth_look (n : Nat) (a : Addr) (w : World) : (method (n + 1) 79 (.pointer (some a)) "Step").run Try.prog w = .ok (63, .pointer (some a)) w := by kernel_rfl
theorem meth_look0 (n : Nat) (a : Addr) (w : World) : (method (n + 1) 79 (.pointer (some a)) "Ready").run Try.prog w = .ok (62, .pointer (some a)) w := by kernel_rfl
theorem meth_bump (n : Nat) (a : Addr) (w : World) : (method (n + 1) 83 (.pointer (some a)) "Step").run Try.prog w = .ok (77, .pointer (some a)) w := by kernel_rfl
theorem meth_bump0 (n : Nat) (a : Addr) (w : World) : (method (n + 1) 83 (.pointer (some a)) "Ready").run Try.prog w = .ok (76, .pointer (some a)) w := by kernel_rfl
set_option maxRecDepth 100000 in
theorem work_look {bt bd : Nat} {W : World} {r : Bool} {Q : World → Prop} (C : Calls Try.prog 63 #[.pointer (some ⟨bt, 0, none⟩), .pointer (some ⟨bd, 0, none⟩)] W fun e w' => e = .returned (.bool r) ∧ Q w') (first : Bool) :
    Calls Try.prog 32 #[.iface 79 (.pointer (some ⟨bt, 0, none⟩)), .bool first, .pointer (some ⟨bd, 0, none⟩)] W fun e w' => e = .returned (.bool r) ∧ Q w' := by
  have hm := fun n => meth_look n ⟨bt, 0, none⟩
  have hm0 := fun n => meth_look0 n ⟨bt, 0, none⟩
  cases first
  · go_enter_defers Try.func32, Try.ntmps32
    go_wp2_with (go_at_call 63; refine C.mono ?_; clear C; rintro e w1 ⟨rfl, h1⟩)
    refine leaves_cons (f := 42) (args := #[]) (by simp) (by simp [go_sem]) ?_
    refine (work_idle _).mono ?_
    rintro e u' w2 ⟨rfl, rfl, hw⟩
    obtain rfl := hw.symm
    simp [Leaves, settle, results, Try.results32, go_sem, h1]
  · go_enter_defers Try.func32, Try.ntmps32
    go_wp2_with (first | (go_at_call 62; refine (look_ready _ _ _).mono ?_; rintro e w' ⟨rfl, hw⟩; obtain rfl := hw.symm) | (go_at_call 63; refine C.mono ?_; clear C; rintro e w1 ⟨rfl, h1⟩))
    refine leaves_cons (f := 42) (args := #[]) (by simp) (by simp [go_sem]) ?_
    refine (work_idle _).mono ?_
    rintro e u' w2 ⟨rfl, rfl, hw⟩
    obtain rfl := hw.symm
    simp [Leaves, settle, results, Try.results32, go_sem, h1]
set_option maxRecDepth 100000 in
theorem work_bump {bt bd : Nat} {W : World} {r : Bool} {Q : World → Prop} (C : Calls Try.prog 77 #[.pointer (some ⟨bt, 0, none⟩), .pointer (some ⟨bd, 0, none⟩)] W fun e w' => e = .returned (.bool r) ∧ Q w') (first : Bool) :
    Calls Try.prog 32 #[.iface 83 (.pointer (some ⟨bt, 0, none⟩)), .bool first, .pointer (some ⟨bd, 0, none⟩)] W fun e w' => e = .returned (.bool r) ∧ Q w' := by
  have hm := fun n => meth_bump n ⟨bt, 0, none⟩
  have hm0 := fun n => meth_bump0 n ⟨bt, 0, none⟩
  cases first
  · go_enter_defers Try.func32, Try.ntmps32
    go_wp2_with (go_at_call 77; refine C.mono ?_; clear C; rintro e w1 ⟨rfl, h1⟩)
    refine leaves_cons (f := 42) (args := #[]) (by simp) (by simp [go_sem]) ?_
    refine (work_idle _).mono ?_
    rintro e u' w2 ⟨rfl, rfl, hw⟩
    obtain rfl := hw.symm
    simp [Leaves, settle, results, Try.results32, go_sem, h1]
  · go_enter_defers Try.func32, Try.ntmps32
    go_wp2_with (first | (go_at_call 76; refine (bump_ready _ _ _).mono ?_; rintro e w' ⟨rfl, hw⟩; obtain rfl := hw.symm) | (go_at_call 77; refine C.mono ?_; clear C; rintro e w1 ⟨rfl, h1⟩))
    refine leaves_cons (f := 42) (args := #[]) (by simp) (by simp [go_sem]) ?_
    refine (work_idle _).mono ?_
    rintro e u' w2 ⟨rfl, rfl, hw⟩
    obtain rfl := hw.symm
    simp [Leaves, settle, results, Try.results32, go_sem, h1]
end Go.Proofs.Ytiobchadjcekcaa.Ma
