/-
  KIT.begin by its contract, whatever the map's maker makes.
-/
import Derived.Test.YtpckcfdjgpdooaaMacStep2
namespace Go.Proofs.Ytpckcfdjgpdooaa.Ma
open Go.RowKit Mr Me
def mvO (th op arg data : Int) : Obj := .cells #[.int .i64 th, .int .i64 op, .int .i64 arg, .int .i64 data] 27 (0, 0)
theorem begin_idle (w : World) : CallsD Try.prog 55 #[] .returning w fun e u' w' => e = .returned (.tuple #[]) ∧ u' = .returning ∧ w' = w := by
  refine callsD_of_wpS Try.func55 rfl fun c₀ cs hu => ?_
  apply wpS_region
  simp [wpOpsS, go_sem, recoverD, hu, Try.ntmps55, bodyPostS, results, Try.results55]
  cases c₀
  simp_all
theorem nil_nil (w : World) : (binOp .eql 94 .nilFunc .nilFunc).run Try.prog w = .ok (.bool true) w := by kernel_rfl
theorem nil_func (f : Fn) (a b : Array Value) (w : World) : (binOp .eql 94 (.func f a b) .nilFunc).run Try.prog w = .ok (.bool false) w := by kernel_rfl
section
variable {W : World} {km : Nat}
set_option maxRecDepth 100000 in
theorem kit_none (th op arg data : Int) (L : ∀ o, (Instr.lookup 68 (.map (some km)) (.int .i64 op) false).run Try.prog (W.alloc o) = .ok .nilFunc (W.alloc o)) :
    Calls Try.prog 42 #[.map (some km), .agg #[.int .i64 th, .int .i64 op, .int .i64 arg, .int .i64 data]] W fun e w' => e = .returned .nilIface ∧ w' = W.alloc (mvO th op arg data) := by
  have qn := nil_nil
  go_enter_defers Try.func42, Try.ntmps42
  go_wp2
  refine leaves_cons (f := 55) (args := #[]) (by simp) (by simp [go_sem]) ?_
  refine (begin_idle _).mono ?_
  rintro e u' w2 ⟨rfl, rfl, hw⟩
  obtain rfl := hw.symm
  simp [Leaves, settle, results, Try.results42, go_sem, mvO]
set_option maxRecDepth 100000 in
set_option maxHeartbeats 1000000 in
theorem kit_call (th op arg data : Int) {g ca : Nat} {r : Value} {Q : World → Prop} (L : ∀ o, (Instr.lookup 68 (.map (some km)) (.int .i64 op) false).run Try.prog (W.alloc o) = .ok (.func (.func g) #[] #[.pointer (some ⟨ca, 0, none⟩)]) (W.alloc o)) (eg : ∀ args w, (callFunc g args).run Try.prog w = .ok (.enter g args) w)
    (C : Calls Try.prog g #[.int .i64 th, .agg #[.int .i64 th, .int .i64 op, .int .i64 arg, .int .i64 data], .pointer (some ⟨ca, 0, none⟩)] (W.alloc (mvO th op arg data)) fun e w' => e = .returned r ∧ Q w') :
    Calls Try.prog 42 #[.map (some km), .agg #[.int .i64 th, .int .i64 op, .int .i64 arg, .int .i64 data]] W fun e w' => e = .returned r ∧ Q w' := by
  have qn := nil_func
  unfold mvO at C
  go_enter_defers Try.func42, Try.ntmps42
  go_wp2
  refine C.mono ?_
  clear C
  rintro e w1 ⟨rfl, h1⟩
  go_wp2
  refine leaves_cons (f := 55) (args := #[]) (by simp) (by simp [go_sem]) ?_
  refine (begin_idle _).mono ?_
  rintro e u' w2 ⟨rfl, rfl, hw⟩
  obtain rfl := hw.symm
  simp [Leaves, settle, results, Try.results42, go_sem, h1]
end
end Go.Proofs.Ytpckcfdjgpdooaa.Ma
