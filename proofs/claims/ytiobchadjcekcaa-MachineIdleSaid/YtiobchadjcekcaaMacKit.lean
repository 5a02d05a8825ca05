/-
  THE MACHINE's OWN KIT: the map's look-up, the makers, Kit.begin by their contracts.
-/
import Derived.Test.YtiobchadjcekcaaMacStep2
namespace Go.Proofs.Ytiobchadjcekcaa.Ma
open Go.RowKit Mr Me
theorem own1_any (ad : Nat) (w : World) : Calls Try.prog 19 #[.int .i64 (ad : Int)] w fun e w' => e = .returned (.iface 79 (.pointer (some ⟨w.heap.size, 0, none⟩))) ∧ w' = w.alloc (lookO ad) := by
  go_enter Try.func19, Try.ntmps19
  go_wp2
  go_ret
  exact ⟨rfl, rfl⟩
theorem own2_any (ad : Nat) (w : World) : Calls Try.prog 20 #[.int .i64 (ad : Int)] w fun e w' => e = .returned (.iface 83 (.pointer (some ⟨w.heap.size, 0, none⟩))) ∧ w' = w.alloc (bumpO ad 0 false) := by
  go_enter Try.func20, Try.ntmps20
  go_wp2
  go_ret
  exact ⟨rfl, rfl⟩
/-- What a maker's closure captures: the size, the function that makes the task. -/
structure Clo (W : World) (sb ab : Nat) (size : Nat) (g : Nat) : Prop where
  s0 : W.cell? ⟨sb, 0, none⟩ = some (.int .i64 (size : Int))
  a0 : W.cell? ⟨ab, 0, none⟩ = some (.func (.func g) #[] #[])
section
variable {W : World} {sb ab size g : Nat}
theorem Clo.lts (h : Clo W sb ab size g) : sb < W.heap.size := World.block_lt_of_cell? W ⟨sb, 0, none⟩ h.s0
theorem Clo.lta (h : Clo W sb ab size g) : ab < W.heap.size := World.block_lt_of_cell? W ⟨ab, 0, none⟩ h.a0
theorem Clo.alloc (h : Clo W sb ab size g) (o : Obj) : Clo (W.alloc o) sb ab size g :=
  ⟨by rw [World.cell?_alloc_past _ _ _ h.lts]; exact h.s0, by rw [World.cell?_alloc_past _ _ _ h.lta]; exact h.a0⟩
def mvO (th op arg data : Int) : Obj := .cells #[.int .i64 th, .int .i64 op, .int .i64 arg, .int .i64 data] 34 (0, 0)
theorem within_no (h : Clo W sb ab size g) (x th op arg data : Int) (hout : arg < 0 ∨ (size : Int) ≤ arg) :
    Calls Try.prog 31 #[.int .i64 x, .agg #[.int .i64 th, .int .i64 op, .int .i64 arg, .int .i64 data], .pointer (some ⟨sb, 0, none⟩), .pointer (some ⟨ab, 0, none⟩)] W fun e w' => e = .returned .nilIface ∧ w' = W.alloc (mvO th op arg data) := by
  have c1 := fun o => (h.alloc o).s0
  by_cases h0 : arg < 0
  · clear hout
    go_enter Try.func31, Try.ntmps31
    go_wp2
    go_ret
    exact ⟨rfl, rfl⟩
  · have d0 : decide (arg < 0) = false := by simp; omega
    have d1 : decide ((size : Int) ≤ arg) = true := by simp; omega
    clear hout
    go_enter Try.func31, Try.ntmps31
    go_wp2
    go_ret
    exact ⟨rfl, rfl⟩
theorem within_yes (h : Clo W sb ab size g) (x th op data : Int) (ad : Nat) (hin : ad < size) (ty : TypeId) (o : Obj) (G : ∀ w, Calls Try.prog g #[.int .i64 (ad : Int)] w fun e w' => e = .returned (.iface ty (.pointer (some ⟨w.heap.size, 0, none⟩))) ∧ w' = w.alloc o) (eg : ∀ args w, (callFunc g args).run Try.prog w = .ok (.enter g args) w) :
    Calls Try.prog 31 #[.int .i64 x, .agg #[.int .i64 th, .int .i64 op, .int .i64 (ad : Int), .int .i64 data], .pointer (some ⟨sb, 0, none⟩), .pointer (some ⟨ab, 0, none⟩)] W fun e w' => e = .returned (.iface ty (.pointer (some ⟨W.heap.size + 1, 0, none⟩))) ∧ w' = (W.alloc (mvO th op ad data)).alloc o := by
  have c1 := fun o => (h.alloc o).s0
  have c2 := fun o => (h.alloc o).a0
  have d0 : decide ((ad : Int) < 0) = false := by simp
  have d1 : decide ((size : Int) ≤ (ad : Int)) = false := by simp; omega
  have d2 : decide (size ≤ ad) = false := by simp; omega
  go_enter Try.func31, Try.ntmps31
  go_wp2
  refine (G _).mono ?_
  rintro e w1 ⟨rfl, rfl⟩
  go_wp2
  go_ret
  exact ⟨by simp, rfl⟩
end
/-- The map of the machine's own calls, and what its makers capture; K: its blocks. -/
structure Kt (W : World) (K : Nat → Prop) (km size s1 a1 s2 a2 : Nat) : Prop where
  m : W.heap[km]? = some (.map #[⟨.int .i64 1, .func (.func 31) #[] #[.pointer (some ⟨s1, 0, none⟩), .pointer (some ⟨a1, 0, none⟩)], 0⟩, ⟨.int .i64 2, .func (.func 31) #[] #[.pointer (some ⟨s2, 0, none⟩), .pointer (some ⟨a2, 0, none⟩)], 1⟩] 2)
  c1 : Clo W s1 a1 size 19
  c2 : Clo W s2 a2 size 20
  k0 : K km ∧ K s1 ∧ K a1 ∧ K s2 ∧ K a2
theorem Clo.kept {W W' : World} {sb ab size g : Nat} (h : Clo W sb ab size g) (h1 : W'.heap[sb]? = W.heap[sb]?) (h2 : W'.heap[ab]? = W.heap[ab]?) : Clo W' sb ab size g :=
  ⟨(World.cell?_of_block h1).trans h.s0, (World.cell?_of_block h2).trans h.a0⟩
theorem Kt.kept {W W' : World} {K : Nat → Prop} {km size s1 a1 s2 a2 : Nat} (h : Kt W K km size s1 a1 s2 a2) (hk : ∀ k, K k → W'.heap[k]? = W.heap[k]?) : Kt W' K km size s1 a1 s2 a2 :=
  ⟨(hk _ h.k0.1).trans h.m, h.c1.kept (hk _ h.k0.2.1) (hk _ h.k0.2.2.1), h.c2.kept (hk _ h.k0.2.2.2.1) (hk _ h.k0.2.2.2.2), h.k0⟩
section
variable {W : World} {K : Nat → Prop} {km size s1 a1 s2 a2 : Nat}
theorem Kt.ltm (h : Kt W K km size s1 a1 s2 a2) : km < W.heap.size := (Array.getElem?_eq_some_iff.1 h.m).1
theorem Kt.lt (h : Kt W K km size s1 a1 s2 a2) : km < W.heap.size ∧ s1 < W.heap.size ∧ a1 < W.heap.size ∧ s2 < W.heap.size ∧ a2 < W.heap.size := ⟨h.ltm, h.c1.lts, h.c1.lta, h.c2.lts, h.c2.lta⟩
theorem Kt.alloc (h : Kt W K km size s1 a1 s2 a2) (o : Obj) : Kt (W.alloc o) K km size s1 a1 s2 a2 :=
  ⟨(Below.heap_alloc W o km h.ltm).trans h.m, h.c1.alloc o, h.c2.alloc o, h.k0⟩
theorem Kt.look (h : Kt W K km size s1 a1 s2 a2) (op : Int) : (Instr.lookup 30 (.map (some km)) (.int .i64 op) false).run Try.prog W = .ok (if op = 1 then .func (.func 31) #[] #[.pointer (some ⟨s1, 0, none⟩), .pointer (some ⟨a1, 0, none⟩)] else if op = 2 then .func (.func 31) #[] #[.pointer (some ⟨s2, 0, none⟩), .pointer (some ⟨a2, 0, none⟩)] else .nilFunc) W := by
  have hm := h.m
  have hch : ∀ b, (Instr.checkKey b 10000 32 (.int .i64 op)).run Try.prog W = .ok () W := fun b => by cases b <;> kernel_rfl
  have hget : (getObj km).run Try.prog W = .ok (.map #[⟨.int .i64 1, .func (.func 31) #[] #[.pointer (some ⟨s1, 0, none⟩), .pointer (some ⟨a1, 0, none⟩)], 0⟩, ⟨.int .i64 2, .func (.func 31) #[] #[.pointer (some ⟨s2, 0, none⟩), .pointer (some ⟨a2, 0, none⟩)], 1⟩] 2) W := by simp [getObj, Sem.run, hm]
  by_cases h1 : op = 1
  · subst h1
    simp [Instr.lookup, run_underlying Try.underlying30, hget, hch, Instr.findKey, run_underlying Try.underlying32, Instr.findNow, Instr.sameNow]
  · by_cases h2 : op = 2
    · subst h2
      simp [Instr.lookup, run_underlying Try.underlying30, hget, hch, Instr.findKey, run_underlying Try.underlying32, Instr.findNow, Instr.sameNow]
    · have b1 : (op == 1) = false := by simpa using h1
      have b2 : (op == 2) = false := by simpa using h2
      simp [Instr.lookup, run_underlying Try.underlying30, hget, hch, Instr.findKey, run_underlying Try.underlying32, Instr.findNow, Instr.sameNow, b1, b2, h1, h2]
theorem begin_idle (w : World) : CallsD Try.prog 43 #[] .returning w fun e u' w' => e = .returned (.tuple #[]) ∧ u' = .returning ∧ w' = w := by
  refine callsD_of_wpS Try.func43 rfl fun c₀ cs hu => ?_
  apply wpS_region
  simp [wpOpsS, go_sem, recoverD, hu, Try.ntmps43, bodyPostS, results, Try.results43]
  cases c₀
  simp_all
theorem nil_nil (w : World) : (binOp .eql 77 .nilFunc .nilFunc).run Try.prog w = .ok (.bool true) w := by kernel_rfl
theorem nil_func (f : Fn) (a b : Array Value) (w : World) : (binOp .eql 77 (.func f a b) .nilFunc).run Try.prog w = .ok (.bool false) w := by kernel_rfl
set_option maxRecDepth 100000 in
theorem kit_none (h : Kt W K km size s1 a1 s2 a2) (th op arg data : Int) (h1 : op ≠ 1) (h2 : op ≠ 2) :
    Calls Try.prog 34 #[.map (some km), .agg #[.int .i64 th, .int .i64 op, .int .i64 arg, .int .i64 data]] W fun e w' => e = .returned .nilIface ∧ w' = W.alloc (mvO th op arg data) := by
  have L := fun o => (h.alloc o).look op
  simp only [if_neg h1, if_neg h2] at L
  have qn := nil_nil
  clear h
  go_enter_defers Try.func34, Try.ntmps34
  go_wp2
  refine leaves_cons (f := 43) (args := #[]) (by simp) (by simp [go_sem]) ?_
  refine (begin_idle _).mono ?_
  rintro e u' w2 ⟨rfl, rfl, hw⟩
  obtain rfl := hw.symm
  simp [Leaves, settle, results, Try.results34, go_sem, mvO]
set_option maxRecDepth 100000 in
set_option maxHeartbeats 1000000 in
theorem kit_some (h : Kt W K km size s1 a1 s2 a2) {sb ab g : Nat} (hc : Clo W sb ab size g) (th op data : Int) (ad : Nat) (hin : ad < size) (ty : TypeId) (o : Obj) (G : ∀ w, Calls Try.prog g #[.int .i64 (ad : Int)] w fun e w' => e = .returned (.iface ty (.pointer (some ⟨w.heap.size, 0, none⟩))) ∧ w' = w.alloc o) (eg : ∀ args w, (callFunc g args).run Try.prog w = .ok (.enter g args) w)
    (hv : (if op = 1 then Value.func (.func 31) #[] #[.pointer (some ⟨s1, 0, none⟩), .pointer (some ⟨a1, 0, none⟩)] else if op = 2 then .func (.func 31) #[] #[.pointer (some ⟨s2, 0, none⟩), .pointer (some ⟨a2, 0, none⟩)] else .nilFunc) = .func (.func 31) #[] #[.pointer (some ⟨sb, 0, none⟩), .pointer (some ⟨ab, 0, none⟩)]) :
    Calls Try.prog 34 #[.map (some km), .agg #[.int .i64 th, .int .i64 op, .int .i64 (ad : Int), .int .i64 data]] W fun e w' => e = .returned (.iface ty (.pointer (some ⟨W.heap.size + 1 + 1, 0, none⟩))) ∧ w' = ((W.alloc (mvO th op ad data)).alloc (mvO th op ad data)).alloc o := by
  have L := fun o => (h.alloc o).look op
  simp only [hv] at L
  have C := fun o' => within_yes (hc.alloc o') th th op data ad hin ty o G eg
  have qn := nil_func
  clear h hv G eg hc
  go_enter_defers Try.func34, Try.ntmps34
  go_wp2_with (go_at_call 31; refine (C _).mono ?_; clear C; rintro e w1 ⟨rfl, rfl⟩)
  refine leaves_cons (f := 43) (args := #[]) (by simp) (by simp [go_sem]) ?_
  refine (begin_idle _).mono ?_
  rintro e u' w2 ⟨rfl, rfl, hw⟩
  obtain rfl := hw.symm
  simp [Leaves, settle, results, Try.results34, go_sem, mvO]
set_option maxRecDepth 100000 in
set_option maxHeartbeats 1000000 in
theorem kit_out (h : Kt W K km size s1 a1 s2 a2) {sb ab g : Nat} (hc : Clo W sb ab size g) (th op arg data : Int) (hout : arg < 0 ∨ (size : Int) ≤ arg)
    (hv : (if op = 1 then Value.func (.func 31) #[] #[.pointer (some ⟨s1, 0, none⟩), .pointer (some ⟨a1, 0, none⟩)] else if op = 2 then .func (.func 31) #[] #[.pointer (some ⟨s2, 0, none⟩), .pointer (some ⟨a2, 0, none⟩)] else .nilFunc) = .func (.func 31) #[] #[.pointer (some ⟨sb, 0, none⟩), .pointer (some ⟨ab, 0, none⟩)]) :
    Calls Try.prog 34 #[.map (some km), .agg #[.int .i64 th, .int .i64 op, .int .i64 arg, .int .i64 data]] W fun e w' => e = .returned .nilIface ∧ w' = (W.alloc (mvO th op arg data)).alloc (mvO th op arg data) := by
  have L := fun o => (h.alloc o).look op
  simp only [hv] at L
  have C := fun o' => within_no (hc.alloc o') th th op arg data hout
  have qn := nil_func
  clear h hv hc hout
  go_enter_defers Try.func34, Try.ntmps34
  go_wp2_with (go_at_call 31; refine (C _).mono ?_; clear C; rintro e w1 ⟨rfl, rfl⟩)
  refine leaves_cons (f := 43) (args := #[]) (by simp) (by simp [go_sem]) ?_
  refine (begin_idle _).mono ?_
  rintro e u' w2 ⟨rfl, rfl, hw⟩
  obtain rfl := hw.symm
  simp [Leaves, settle, results, Try.results34, go_sem, mvO]
end
end Go.Proofs.Ytiobchadjcekcaa.Ma
