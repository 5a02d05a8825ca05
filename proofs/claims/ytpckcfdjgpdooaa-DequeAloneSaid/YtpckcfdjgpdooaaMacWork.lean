/-
  work: a task's step through its interface, whatever the task's Step does; a task that does not panic.
-/
import Derived.Test.YtpckcfdjgpdooaaMacDesk2
import Derived.Defers
import Derived.Recover
namespace Go.Proofs.Ytpckcfdjgpdooaa.Ma
open Go.RowKit Mr Me
theorem work_idle (w : World) : CallsD Try.prog 54 #[] .returning w fun e u' w' => e = .returned (.tuple #[]) ∧ u' = .returning ∧ w' = w := by
  refine callsD_of_wpS Try.func54 rfl fun c₀ cs hu => ?_
  apply wpS_region
  simp [wpOpsS, go_sem, recoverD, hu, Try.ntmps54, bodyPostS, results, Try.results54]
  cases c₀
  simp_all
set_option maxRecDepth 100000 in
/-- A step that is not the first. -/
theorem work_step {ty : TypeId} {v vd : Value} {fs : Nat} {W : World} {r : Bool} {Q : World → Prop} (hm : ∀ n w, (method (n + 1) ty v "Step").run Try.prog w = .ok (fs, v) w) (es : ∀ args w, (callFunc fs args).run Try.prog w = .ok (.enter fs args) w) (C : Calls Try.prog fs #[v, vd] W fun e w' => e = .returned (.bool r) ∧ Q w') :
    Calls Try.prog 40 #[.iface ty v, .bool false, vd] W fun e w' => e = .returned (.bool r) ∧ Q w' := by
  go_enter_defers Try.func40, Try.ntmps40
  go_wp2
  refine C.mono ?_
  clear C
  rintro e w1 ⟨rfl, h1⟩
  go_wp2
  refine leaves_cons (f := 54) (args := #[]) (by simp) (by simp [go_sem]) ?_
  refine (work_idle _).mono ?_
  rintro e u' w2 ⟨rfl, rfl, hw⟩
  obtain rfl := hw.symm
  simp [Leaves, settle, results, Try.results40, go_sem, h1]
set_option maxRecDepth 100000 in
/-- A first step whose Ready ends the task. -/
theorem work_yes {ty : TypeId} {v vd : Value} {fr : Nat} {W : World} {Q : World → Prop} (hm : ∀ n w, (method (n + 1) ty v "Ready").run Try.prog w = .ok (fr, v) w) (es : ∀ args w, (callFunc fr args).run Try.prog w = .ok (.enter fr args) w) (C : Calls Try.prog fr #[v, vd] W fun e w' => e = .returned (.bool true) ∧ Q w') :
    Calls Try.prog 40 #[.iface ty v, .bool true, vd] W fun e w' => e = .returned (.bool true) ∧ Q w' := by
  go_enter_defers Try.func40, Try.ntmps40
  go_wp2
  refine C.mono ?_
  clear C
  rintro e w1 ⟨rfl, h1⟩
  go_wp2
  refine leaves_cons (f := 54) (args := #[]) (by simp) (by simp [go_sem]) ?_
  refine (work_idle _).mono ?_
  rintro e u' w2 ⟨rfl, rfl, hw⟩
  obtain rfl := hw.symm
  simp [Leaves, settle, results, Try.results40, go_sem, h1]
set_option maxRecDepth 100000 in
/-- A first step whose Ready does not. -/
theorem work_no {ty : TypeId} {v vd : Value} {fr fs : Nat} {W : World} {r : Bool} {Q1 Q : World → Prop} (hm0 : ∀ n w, (method (n + 1) ty v "Ready").run Try.prog w = .ok (fr, v) w) (er : ∀ args w, (callFunc fr args).run Try.prog w = .ok (.enter fr args) w) (hm : ∀ n w, (method (n + 1) ty v "Step").run Try.prog w = .ok (fs, v) w) (es : ∀ args w, (callFunc fs args).run Try.prog w = .ok (.enter fs args) w)
    (C1 : Calls Try.prog fr #[v, vd] W fun e w' => e = .returned (.bool false) ∧ Q1 w') (C2 : ∀ w1, Q1 w1 → Calls Try.prog fs #[v, vd] w1 fun e w' => e = .returned (.bool r) ∧ Q w') :
    Calls Try.prog 40 #[.iface ty v, .bool true, vd] W fun e w' => e = .returned (.bool r) ∧ Q w' := by
  go_enter_defers Try.func40, Try.ntmps40
  go_wp2
  refine C1.mono ?_
  clear C1
  rintro e w1 ⟨rfl, h1⟩
  have C := C2 w1 h1
  clear C2 h1
  go_wp2
  refine C.mono ?_
  clear C
  rintro e w2 ⟨rfl, h2⟩
  go_wp2
  refine leaves_cons (f := 54) (args := #[]) (by simp) (by simp [go_sem]) ?_
  refine (work_idle _).mono ?_
  rintro e u' w3 ⟨rfl, rfl, hw⟩
  obtain rfl := hw.symm
  simp [Leaves, settle, results, Try.results40, go_sem, h2]
end Go.Proofs.Ytpckcfdjgpdooaa.Ma
