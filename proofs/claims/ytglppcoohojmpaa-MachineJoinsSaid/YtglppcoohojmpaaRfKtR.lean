import Derived.Test.YtglppcoohojmpaaRfCopyA
/-
  The map of the machine's own calls in the other order.
-/
namespace Go.Proofs.Ytglppcoohojmpaa.Rf
open Go.RowKit Go.Shelf Mr Me Ma
set_option linter.unusedVariables false
/-- The map of the machine's own calls, and what its makers capture; K: its blocks. -/
structure KtR (W : World) (K : Nat → Prop) (km size s1 a1 s2 a2 : Nat) : Prop where
  m : W.heap[km]? = some (.map #[⟨.int .i64 2, .func (.func 48) #[] #[.pointer (some ⟨s2, 0, none⟩), .pointer (some ⟨a2, 0, none⟩)], 0⟩, ⟨.int .i64 1, .func (.func 48) #[] #[.pointer (some ⟨s1, 0, none⟩), .pointer (some ⟨a1, 0, none⟩)], 1⟩] 2)
  c1 : Clo W s1 a1 size 34
  c2 : Clo W s2 a2 size 35
  k0 : K km ∧ K s1 ∧ K a1 ∧ K s2 ∧ K a2
theorem KtR.kept {W W' : World} {K : Nat → Prop} {km size s1 a1 s2 a2 : Nat} (h : KtR W K km size s1 a1 s2 a2) (hk : ∀ k, K k → W'.heap[k]? = W.heap[k]?) : KtR W' K km size s1 a1 s2 a2 :=
  ⟨(hk _ h.k0.1).trans h.m, h.c1.kept (hk _ h.k0.2.1) (hk _ h.k0.2.2.1), h.c2.kept (hk _ h.k0.2.2.2.1) (hk _ h.k0.2.2.2.2), h.k0⟩
section
variable {W : World} {K : Nat → Prop} {km size s1 a1 s2 a2 : Nat}
theorem KtR.ltm (h : KtR W K km size s1 a1 s2 a2) : km < W.heap.size := (Array.getElem?_eq_some_iff.1 h.m).1
theorem KtR.lt (h : KtR W K km size s1 a1 s2 a2) : km < W.heap.size ∧ s1 < W.heap.size ∧ a1 < W.heap.size ∧ s2 < W.heap.size ∧ a2 < W.heap.size := ⟨h.ltm, h.c1.lts, h.c1.lta, h.c2.lts, h.c2.lta⟩
theorem KtR.alloc (h : KtR W K km size s1 a1 s2 a2) (o : Obj) : KtR (W.alloc o) K km size s1 a1 s2 a2 :=
  ⟨(Below.heap_alloc W o km h.ltm).trans h.m, h.c1.alloc o, h.c2.alloc o, h.k0⟩
theorem KtR.look (h : KtR W K km size s1 a1 s2 a2) (op : Int) : (Instr.lookup 32 (.map (some km)) (.int .i64 op) false).run Try.prog W = .ok (if op = 1 then .func (.func 48) #[] #[.pointer (some ⟨s1, 0, none⟩), .pointer (some ⟨a1, 0, none⟩)] else if op = 2 then .func (.func 48) #[] #[.pointer (some ⟨s2, 0, none⟩), .pointer (some ⟨a2, 0, none⟩)] else .nilFunc) W := by
  have hm := h.m
  have hch : ∀ b, (Instr.checkKey b 10000 44 (.int .i64 op)).run Try.prog W = .ok () W := fun b => by cases b <;> kernel_rfl
  have hget : (getObj km).run Try.prog W = .ok (.map #[⟨.int .i64 2, .func (.func 48) #[] #[.pointer (some ⟨s2, 0, none⟩), .pointer (some ⟨a2, 0, none⟩)], 0⟩, ⟨.int .i64 1, .func (.func 48) #[] #[.pointer (some ⟨s1, 0, none⟩), .pointer (some ⟨a1, 0, none⟩)], 1⟩] 2) W := by simp [getObj, Sem.run, hm]
  by_cases h1 : op = 1
  · subst h1
    simp [Instr.lookup, run_underlying Try.underlying32, hget, hch, Instr.findKey, run_underlying Try.underlying44, Instr.findNow, Instr.sameNow]
  · by_cases h2 : op = 2
    · subst h2
      simp [Instr.lookup, run_underlying Try.underlying32, hget, hch, Instr.findKey, run_underlying Try.underlying44, Instr.findNow, Instr.sameNow]
    · have b1 : (op == 1) = false := by simpa using h1
      have b2 : (op == 2) = false := by simpa using h2
      simp [Instr.lookup, run_underlying Try.underlying32, hget, hch, Instr.findKey, run_underlying Try.underlying44, Instr.findNow, Instr.sameNow, b1, b2, h1, h2]
set_option maxRecDepth 100000 in
theorem kit_noneR (h : KtR W K km size s1 a1 s2 a2) (th op arg data : Int) (h1 : op ≠ 1) (h2 : op ≠ 2) :
    Calls Try.prog 51 #[.map (some km), .agg #[.int .i64 th, .int .i64 op, .int .i64 arg, .int .i64 data]] W fun e w' => e = .returned .nilIface ∧ w' = W.alloc (mvO th op arg data) := by
  have L := fun o => (h.alloc o).look op
  simp only [if_neg h1, if_neg h2] at L
  have qn := nil_nil
  clear h
  go_enter_defers Try.func51, Try.ntmps51
  go_wp2
  refine leaves_cons (f := 62) (args := #[]) (by simp) (by simp [go_sem]) ?_
  refine (begin_idle _).mono ?_
  rintro e u' w2 ⟨rfl, rfl, hw⟩
  obtain rfl := hw.symm
  simp [Leaves, settle, results, Try.results51, go_sem, mvO]
set_option maxRecDepth 100000 in
set_option maxHeartbeats 1000000 in
theorem kit_someR (h : KtR W K km size s1 a1 s2 a2) {sb ab g : Nat} (hc : Clo W sb ab size g) (th op data : Int) (ad : Nat) (hin : ad < size) (ty : TypeId) (o : Obj) (G : ∀ w, Calls Try.prog g #[.int .i64 (ad : Int)] w fun e w' => e = .returned (.iface ty (.pointer (some ⟨w.heap.size, 0, none⟩))) ∧ w' = w.alloc o) (eg : ∀ args w, (callFunc g args).run Try.prog w = .ok (.enter g args) w)
    (hv : (if op = 1 then Value.func (.func 48) #[] #[.pointer (some ⟨s1, 0, none⟩), .pointer (some ⟨a1, 0, none⟩)] else if op = 2 then .func (.func 48) #[] #[.pointer (some ⟨s2, 0, none⟩), .pointer (some ⟨a2, 0, none⟩)] else .nilFunc) = .func (.func 48) #[] #[.pointer (some ⟨sb, 0, none⟩), .pointer (some ⟨ab, 0, none⟩)]) :
    Calls Try.prog 51 #[.map (some km), .agg #[.int .i64 th, .int .i64 op, .int .i64 (ad : Int), .int .i64 data]] W fun e w' => e = .returned (.iface ty (.pointer (some ⟨W.heap.size + 1 + 1, 0, none⟩))) ∧ w' = ((W.alloc (mvO th op ad data)).alloc (mvO th op ad data)).alloc o := by
  have L := fun o => (h.alloc o).look op
  simp only [hv] at L
  have C := fun o' => within_yes (hc.alloc o') th th op data ad hin ty o G eg
  have qn := nil_func
  clear h hv G eg hc
  go_enter_defers Try.func51, Try.ntmps51
  go_wp2_with (go_at_call 48; refine (C _).mono ?_; clear C; rintro e w1 ⟨rfl, rfl⟩)
  refine leaves_cons (f := 62) (args := #[]) (by simp) (by simp [go_sem]) ?_
  refine (begin_idle _).mono ?_
  rintro e u' w2 ⟨rfl, rfl, hw⟩
  obtain rfl := hw.symm
  simp [Leaves, settle, results, Try.results51, go_sem, mvO]
set_option maxRecDepth 100000 in
set_option maxHeartbeats 1000000 in
theorem kit_outR (h : KtR W K km size s1 a1 s2 a2) {sb ab g : Nat} (hc : Clo W sb ab size g) (th op arg data : Int) (hout : arg < 0 ∨ (size : Int) ≤ arg)
    (hv : (if op = 1 then Value.func (.func 48) #[] #[.pointer (some ⟨s1, 0, none⟩), .pointer (some ⟨a1, 0, none⟩)] else if op = 2 then .func (.func 48) #[] #[.pointer (some ⟨s2, 0, none⟩), .pointer (some ⟨a2, 0, none⟩)] else .nilFunc) = .func (.func 48) #[] #[.pointer (some ⟨sb, 0, none⟩), .pointer (some ⟨ab, 0, none⟩)]) :
    Calls Try.prog 51 #[.map (some km), .agg #[.int .i64 th, .int .i64 op, .int .i64 arg, .int .i64 data]] W fun e w' => e = .returned .nilIface ∧ w' = (W.alloc (mvO th op arg data)).alloc (mvO th op arg data) := by
  have L := fun o => (h.alloc o).look op
  simp only [hv] at L
  have C := fun o' => within_no (hc.alloc o') th th op arg data hout
  have qn := nil_func
  clear h hv hc hout
  go_enter_defers Try.func51, Try.ntmps51
  go_wp2_with (go_at_call 48; refine (C _).mono ?_; clear C; rintro e w1 ⟨rfl, rfl⟩)
  refine leaves_cons (f := 62) (args := #[]) (by simp) (by simp [go_sem]) ?_
  refine (begin_idle _).mono ?_
  rintro e u' w2 ⟨rfl, rfl, hw⟩
  obtain rfl := hw.symm
  simp [Leaves, settle, results, Try.results51, go_sem, mvO]
end
end Go.Proofs.Ytglppcoohojmpaa.Rf
