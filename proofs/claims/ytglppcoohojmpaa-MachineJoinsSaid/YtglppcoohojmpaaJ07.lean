import Derived.Test.YtglppcoohojmpaaJ06
/-
  THE MACHINE's OWN KIT: the map's look-up, the makers, Kit.begin by their contracts.
-/
namespace Go.Proofs.Ytglppcoohojmpaa.Ma
open Go.RowKit Mr Me
theorem own1_any (ad : Nat) (w : World) : Calls Try.prog 34 #[.int .i64 (ad : Int)] w fun e w' => e = .returned (.iface 104 (.pointer (some ⟨w.heap.size, 0, none⟩))) ∧ w' = w.alloc (lookO ad) := by
  go_enter Try.func34, Try.ntmps34
  go_wp2
  go_ret
  exact ⟨rfl, rfl⟩
theorem own2_any (ad : Nat) (w : World) : Calls Try.prog 35 #[.int .i64 (ad : Int)] w fun e w' => e = .returned (.iface 108 (.pointer (some ⟨w.heap.size, 0, none⟩))) ∧ w' = w.alloc (bumpO ad 0 false) := by
  go_enter Try.func35, Try.ntmps35
  go_wp2
  go_ret
  exact ⟨rfl, rfl⟩
/-- What a maker's closure captures: the size, the function that makes the task. -/
structure Clo (W : World) (sb ab : Nat) (size : Nat) (g : Nat) : Prop where
  s0 : W.cell? ⟨sb, 0, none⟩ = some (.int .i64 (size : Int))
  a0 : W.cell? ⟨ab, 0, none⟩ = some (.func (.func g) #[] #[])
section
variable {W : World} {sb ab size g : Nat}
theorem Clo.lts (h : Clo W sb ab size g) : sb < W.heap.size := World.block_lt_of_cell? W ⟨sb, 0, none⟩ h.s0
theorem Clo.lta (h : Clo W sb ab size g) : ab < W.heap.size := World.block_lt_of_cell? W ⟨ab, 0, none⟩ h.a0
theorem Clo.alloc (h : Clo W sb ab size g) (o : Obj) : Clo (W.alloc o) sb ab size g :=
  ⟨by rw [World.cell?_alloc_past _ _ _ h.lts]; exact h.s0, by rw [World.cell?_alloc_past _ _ _ h.lta]; exact h.a0⟩
def mvO (th op arg data : Int) : Obj := .cells #[.int .i64 th, .int .i64 op, .int .i64 arg, .int .i64 data] 46 (0, 0)
theorem within_no (h : Clo W sb ab size g) (x th op arg data : Int) (hout : arg < 0 ∨ (size : Int) ≤ arg) :
    Calls Try.prog 48 #[.int .i64 x, .agg #[.int .i64 th, .int .i64 op, .int .i64 arg, .int .i64 data], .pointer (some ⟨sb, 0, none⟩), .pointer (some ⟨ab, 0, none⟩)] W fun e w' => e = .returned .nilIface ∧ w' = W.alloc (mvO th op arg data) := by
  have c1 := fun o => (h.alloc o).s0
  by_cases h0 : arg < 0
  · clear hout
    go_enter Try.func48, Try.ntmps48
    go_wp2
    go_ret
    exact ⟨rfl, rfl⟩
  · have d0 : decide (arg < 0) = false := by simp; omega
    have d1 : decide ((size : Int) ≤ arg) = true := by simp; omega
    clear hout
    go_enter Try.func48, Try.ntmps48
    go_wp2
    go_ret
    exact ⟨rfl, rfl⟩
theorem within_yes (h : Clo W sb ab size g) (x th op data : Int) (ad : Nat) (hin : ad < size) (ty : TypeId) (o : Obj) (G : ∀ w, Calls Try.prog g #[.int .i64 (ad : Int)] w fun e w' => e = .returned (.iface ty (.pointer (some ⟨w.heap.size, 0, none⟩))) ∧ w' = w.alloc o) (eg : ∀ args w, (callFunc g args).run Try.prog w = .ok (.enter g args) w) :
    Calls Try.prog 48 #[.int .i64 x, .agg #[.int .i64 th, .int .i64 op, .int .i64 (ad : Int), .int .i64 data], .pointer (some ⟨sb, 0, none⟩), .pointer (some ⟨ab, 0, none⟩)] W fun e w' => e = .returned (.iface ty (.pointer (some ⟨W.heap.size + 1, 0, none⟩))) ∧ w' = (W.alloc (mvO th op ad data)).alloc o := by
  have c1 := fun o => (h.alloc o).s0
  have c2 := fun o => (h.alloc o).a0
  have d0 : decide ((ad : Int) < 0) = false := by simp
  have d1 : decide ((size : Int) ≤ (ad : Int)) = false := by simp; omega
  have d2 : decide (size ≤ ad) = false := by simp; omega
  go_enter Try.func48, Try.ntmps48
  go_wp2
  refine (G _).mono ?_
  rintro e w1 ⟨rfl, rfl⟩
  go_wp2
  go_ret
  exact ⟨by simp, rfl⟩
end
/-- The map of the machine's own calls, and what its makers capture; K: its blocks. -/
structure Kt (W : World) (K : Nat → Prop) (km size s1 a1 s2 a2 : Nat) : Prop where
  m : W.heap[km]? = some (.map #[⟨.int .i64 1, .func (.func 48) #[] #[.pointer (some ⟨s1, 0, none⟩), .pointer (some ⟨a1, 0, none⟩)], 0⟩, ⟨.int .i64 2, .func (.func 48) #[] #[.pointer (some ⟨s2, 0, none⟩), .pointer (some ⟨a2, 0, none⟩)], 1⟩] 2)
  c1 : Clo W s1 a1 size 34
  c2 : Clo W s2 a2 size 35
  k0 : K km ∧ K s1 ∧ K a1 ∧ K s2 ∧ K a2
theorem Clo.kept {W W' : World} {sb ab size g : Nat} (h : Clo W sb ab size g) (h1 : W'.heap[sb]? = W.heap[sb]?) (h2 : W'.heap[ab]? = W.heap[ab]?) : Clo W' sb ab size g :=
  ⟨(World.cell?_of_block h1).trans h.s0, (World.cell?_of_block h2).trans h.a0⟩
theorem Kt.kept {W W' : World} {K : Nat → Prop} {km size s1 a1 s2 a2 : Nat} (h : Kt W K km size s1 a1 s2 a2) (hk : ∀ k, K k → W'.heap[k]? = W.heap[k]?) : Kt W' K km size s1 a1 s2 a2 :=
  ⟨(hk _ h.k0.1).trans h.m, h.c1.kept (hk _ h.k0.2.1) (hk _ h.k0.2.2.1), h.c2.kept (hk _ h.k0.2.2.2.1) (hk _ h.k0.2.2.2.2), h.k0⟩
section
variable {W : World} {K : Nat → Prop} {km size s1 a1 s2 a2 : Nat}
theorem Kt.ltm (h : Kt W K km size s1 a1 s2 a2) : km < W.heap.size := (Array.getElem?_eq_some_iff.1 h.m).1
theorem Kt.lt (h : Kt W K km size s1 a1 s2 a2) : km < W.heap.size ∧ s1 < W.heap.size ∧ a1 < W.heap.size ∧ s2 < W.heap.size ∧ a2 < W.heap.size := ⟨h.ltm, h.c1.lts, h.c1.lta, h.c2.lts, h.c2.lta⟩
theorem Kt.alloc (h : Kt W K km size s1 a1 s2 a2) (o : Obj) : Kt (W.alloc o) K km size s1 a1 s2 a2 :=
  ⟨(Below.heap_alloc W o km h.ltm).trans h.m, h.c1.alloc o, h.c2.alloc o, h.k0⟩
theorem Kt.look (h : Kt W K km size s1 a1 s2 a2) (op : Int) : (Instr.lookup 32 (.map (some km)) (.int .i64 op) false).run Try.prog W = .ok (if op = 1 then .func (.func 48) #[] #[.pointer (some ⟨s1, 0, none⟩), .pointer (some ⟨a1, 0, none⟩)] else if op = 2 then .func (.func 48) #[] #[.pointer (some ⟨s2, 0, none⟩), .pointer (some ⟨a2, 0, none⟩)] else .nilFunc) W := by
  have hm := h.m
  have hch : ∀ b, (Instr.checkKey b 10000 44 (.int .i64 op)).run Try.prog W = .ok () W := fun b => by cases b <;> kernel_rfl
  have hget : (getObj km).run Try.prog W = .ok (.map #[⟨.int .i64 1, .func (.func 48) #[] #[.pointer (some ⟨s1, 0, none⟩), .pointer (some ⟨a1, 0, none⟩)], 0⟩, ⟨.int .i64 2, .func (.func 48) #[] #[.pointer (some ⟨s2, 0, none⟩), .pointer (some ⟨a2, 0, none⟩)], 1⟩] 2) W := by simp [getObj, Sem.run, hm]
  by_cases h1 : op = 1
  · subst h1
    simp [Instr.lookup, run_underlying Try.underlying32, hget, hch, Instr.findKey, run_underlying Try.underlying44, Instr.findNow, Instr.sameNow]
  · by_cases h2 : op = 2
    · subst h2
      simp [Instr.lookup, run_underlying Try.underlying32, hget, hch, Instr.findKey, run_underlying Try.underlying44, Instr.findNow, Instr.sameNow]
    · have b1 : (op == 1) = false := by simpa using h1
      have b2 : (op == 2) = false := by simpa using h2
      simp [Instr.lookup, run_underlying Try.underlying32, hget, hch, Instr.findKey, run_underlying Try.underlying44, Instr.findNow, Instr.sameNow, b1, b2, h1, h2]
theorem begin_idle (w : World) : CallsD Try.prog 62 #[] .returning w fun e u' w' => e = .returned (.tuple #[]) ∧ u' = .returning ∧ w' = w := by
  refine callsD_of_wpS Try.func62 rfl fun c₀ cs hu => ?_
  apply wpS_region
  simp [wpOpsS, go_sem, recoverD, hu, Try.ntmps62, bodyPostS, results, Try.results62]
  cases c₀
  simp_all
theorem nil_nil (w : World) : (binOp .eql 102 .nilFunc .nilFunc).run Try.prog w = .ok (.bool true) w := by kernel_rfl
theorem nil_func (f : Fn) (a b : Array Value) (w : World) : (binOp .eql 102 (.func f a b) .nilFunc).run Try.prog w = .ok (.bool false) w := by kernel_rfl
set_option maxRecDepth 100000 in
theorem kit_none (h : Kt W K km size s1 a1 s2 a2) (th op arg data : Int) (h1 : op ≠ 1) (h2 : op ≠ 2) :
    Calls Try.prog 51 #[.map (some km), .agg #[.int .i64 th, .int .i64 op, .int .i64 arg, .int .i64 data]] W fun e w' => e = .returned .nilIface ∧ w' = W.alloc (mvO th op arg data) := by
  have L := fun o => (h.alloc o).look op
  simp only [if_neg h1, if_neg h2] at L
  have qn := nil_nil
  clear h
  go_enter_defers Try.func51, Try.ntmps51
  go_wp2
  refine leaves_cons (f := 62) (args := #[]) (by simp) (by simp [go_sem]) ?_
  refine (begin_idle _).mono ?_
  rintro e u' w2 ⟨rfl, rfl, hw⟩
  obtain rfl := hw.symm
  simp [Leaves, settle, results, Try.results51, go_sem, mvO]
set_option maxRecDepth 100000 in
set_option maxHeartbeats 1000000 in
theorem kit_some (h : Kt W K km size s1 a1 s2 a2) {sb ab g : Nat} (hc : Clo W sb ab size g) (th op data : Int) (ad : Nat) (hin : ad < size) (ty : TypeId) (o : Obj) (G : ∀ w, Calls Try.prog g #[.int .i64 (ad : Int)] w fun e w' => e = .returned (.iface ty (.pointer (some ⟨w.heap.size, 0, none⟩))) ∧ w' = w.alloc o) (eg : ∀ args w, (callFunc g args).run Try.prog w = .ok (.enter g args) w)
    (hv : (if op = 1 then Value.func (.func 48) #[] #[.pointer (some ⟨s1, 0, none⟩), .pointer (some ⟨a1, 0, none⟩)] else if op = 2 then .func (.func 48) #[] #[.pointer (some ⟨s2, 0, none⟩), .pointer (some ⟨a2, 0, none⟩)] else .nilFunc) = .func (.func 48) #[] #[.pointer (some ⟨sb, 0, none⟩), .pointer (some ⟨ab, 0, none⟩)]) :
    Calls Try.prog 51 #[.map (some km), .agg #[.int .i64 th, .int .i64 op, .int .i64 (ad : Int), .int .i64 data]] W fun e w' => e = .returned (.iface ty (.pointer (some ⟨W.heap.size + 1 + 1, 0, none⟩))) ∧ w' = ((W.alloc (mvO th op ad data)).alloc (mvO th op ad data)).alloc o := by
  have L := fun o => (h.alloc o).look op
  simp only [hv] at L
  have C := fun o' => within_yes (hc.alloc o') th th op data ad hin ty o G eg
  have qn := nil_func
  clear h hv G eg hc
  go_enter_defers Try.func51, Try.ntmps51
  go_wp2_with (go_at_call 48; refine (C _).mono ?_; clear C; rintro e w1 ⟨rfl, rfl⟩)
  refine leaves_cons (f := 62) (args := #[]) (by simp) (by simp [go_sem]) ?_
  refine (begin_idle _).mono ?_
  rintro e u' w2 ⟨rfl, rfl, hw⟩
  obtain rfl := hw.symm
  simp [Leaves, settle, results, Try.results51, go_sem, mvO]
set_option maxRecDepth 100000 in
set_option maxHeartbeats 1000000 in
theorem kit_out (h : Kt W K km size s1 a1 s2 a2) {sb ab g : Nat} (hc : Clo W sb ab size g) (th op arg data : Int) (hout : arg < 0 ∨ (size : Int) ≤ arg)
    (hv : (if op = 1 then Value.func (.func 48) #[] #[.pointer (some ⟨s1, 0, none⟩), .pointer (some ⟨a1, 0, none⟩)] else if op = 2 then .func (.func 48) #[] #[.pointer (some ⟨s2, 0, none⟩), .pointer (some ⟨a2, 0, none⟩)] else .nilFunc) = .func (.func 48) #[] #[.pointer (some ⟨sb, 0, none⟩), .pointer (some ⟨ab, 0, none⟩)]) :
    Calls Try.prog 51 #[.map (some km), .agg #[.int .i64 th, .int .i64 op, .int .i64 arg, .int .i64 data]] W fun e w' => e = .returned .nilIface ∧ w' = (W.alloc (mvO th op arg data)).alloc (mvO th op arg data) := by
  have L := fun o => (h.alloc o).look op
  simp only [hv] at L
  have C := fun o' => within_no (hc.alloc o') th th op arg data hout
  have qn := nil_func
  clear h hv hc hout
  go_enter_defers Try.func51, Try.ntmps51
  go_wp2_with (go_at_call 48; refine (C _).mono ?_; clear C; rintro e w1 ⟨rfl, rfl⟩)
  refine leaves_cons (f := 62) (args := #[]) (by simp) (by simp [go_sem]) ?_
  refine (begin_idle _).mono ?_
  rintro e u' w2 ⟨rfl, rfl, hw⟩
  obtain rfl := hw.symm
  simp [Leaves, settle, results, Try.results51, go_sem, mvO]
end
end Go.Proofs.Ytglppcoohojmpaa.Ma
/-
  A call's BEGINNING: book.begin by its contract (made by genbegin.py).
-/
namespace Go.Proofs.Ytglppcoohojmpaa.Ma
open Go.RowKit Mr Me
theorem info_call : (Try.prog.info? 78).map (fun i => (i.zero, i.size, i.bytes)) = some (some (.agg #[.int .i64 0, .int .i64 0, .int .i64 0, .int .i64 0, .int .i64 0, .int .i64 0, .int .i64 0, .int .i64 0, .int .i64 0]), 9, 72) := by kernel_rfl
section
variable {W : World} {U S : Nat → Prop} {b bb bm : Nat} {vk vt vc vs vw vl va : Value} {ths : List Th} {n : Int} {cls : List Cl} {shs : List Sh} {ws : List Int} {mv : Int} {lg : List Acc} {ah : List Int}
/-- A call more. -/
theorem Mac.begun (h : Mac W U S b bb bm vk vt vc vs vw vl va ths n cls shs ws mv lg ah) {w0 w1 : World} (hB : Below W.heap.size W w0) {v' : Value} {cl : Cl} {m : Nat} (hm : m = cls.length + 1)
    (hown : Has w1 (fun k => (U k ∧ ¬ S k) ∨ W.heap.size ≤ k) 78 9 v' m (clc cls ++ cl.cells)) (hgrow : w0.grownBy w1 vc.ownBlock) :
    Mac (w1.setCell ⟨bb, 1, none⟩ v') (fun k => (U k ∨ W.heap.size ≤ k) ∧ k < w1.heap.size) S b bb bm vk vt v' vs vw vl va ths n (cls ++ [cl]) shs ws mv lg ah ∧ Fr W (w1.setCell ⟨bb, 1, none⟩ v') (fun k => k = bb ∨ vc.ownBlock = some k) := by
  subst hm
  have hs := hB.size
  have hs1 := hgrow.size
  have hk : ∀ k, U k → vc.ownBlock ≠ some k → w1.heap[k]? = W.heap[k]? := fun k hU hne => (hgrow.block k (Nat.lt_of_lt_of_le (h.ul k hU) hs) (fun e => hne e.symm)).trans (hB.block k (h.ul k hU))
  have nb : vc.ownBlock ≠ some b := not_row h.blk h.cal (by decide)
  have nbb : vc.ownBlock ≠ some bb := not_row h.bk h.cal (by decide)
  have hbb : w1.heap[bb]? = some (.cells #[.pointer (some ⟨bm, 0, none⟩), vc, vs] 96 (0, 0)) := (hk bb h.ubb.1 nbb).trans h.bk
  have hv' : v'.ownBlock ≠ some bb := not_row hbb hown (by decide)
  have ho : ∀ k, k ≠ bb → (w1.setCell ⟨bb, 1, none⟩ v').heap[k]? = w1.heap[k]? := fun k hne => Below.heap_setCell _ _ _ k hne
  have nS : ∀ k, S k → vc.ownBlock ≠ some k := fun k hk e => (h.cal.lt k e).1.2 hk
  have up : ∀ k, U k ∧ ¬ S k → ((U k ∨ W.heap.size ≤ k) ∧ k < w1.heap.size) ∧ ¬ S k := fun k hk => ⟨⟨.inl hk.1, by have := h.ul k hk.1; omega⟩, hk.2⟩
  refine ⟨⟨(ho b h.bne).trans ((hk b h.ub.1 nb).trans h.blk), by rw [setBlk hbb]; rfl, h.mem.kept (fun k hs' _ => (ho k (fun e => h.ubb.2 (e ▸ hs'))).trans (hk k (h.su k hs') (nS k hs'))), ?_, ?_, ?_, up b h.ub, up bb h.ubb, fun k hk => ⟨.inl (h.su k hk), by have := h.ul k (h.su k hk); omega⟩, fun k hk => by simpa using hk.2⟩, ?_⟩
  · refine (h.thr.kept (fun k e => hk k (h.thr.lt k e).1.1 (fun e' => has_ne h.thr h.cal (by decide) k e e')) (fun k e => up k (h.thr.lt k e).1)).setCell _ _ (not_row h.bk h.thr (by decide))
  · have hl : (cls ++ [cl]).length = cls.length + 1 := by simp
    have e2 : clc (cls ++ [cl]) = clc cls ++ cl.cells := by simp [clc]
    rw [hl, e2]
    refine (hown.kept (fun _ _ => rfl) (fun k e => ?_)).setCell _ _ hv'
    obtain ⟨h1, h2⟩ := hown.lt k e
    rcases h1 with h1 | h1
    · exact up k h1
    · exact ⟨⟨.inr h1, h2⟩, fun hS => by have := h.ul k (h.su k hS); omega⟩
  · refine (h.shf.kept (fun k e => hk k (h.shf.lt k e).1.1 (fun e' => has_ne h.shf h.cal (by decide) k e e')) (fun k e => up k (h.shf.lt k e).1)).setCell _ _ (not_row h.bk h.shf (by decide))
  · exact ((Fr.of_below hB).grown hgrow (fun k hk => .inl (.inr hk))).setCell _ _ (.inl (.inl rfl))
set_option maxRecDepth 100000 in
set_option maxHeartbeats 2000000 in
theorem bookBegin_any (h : Mac W U S b bb bm vk vt vc vs vw vl va ths n cls shs ws mv lg ah) (hr : cls.length ≤ 100000) (th op arg data now : Int) :
    Calls Try.prog 52 #[.pointer (some ⟨bb, 0, none⟩), .agg #[.int .i64 th, .int .i64 op, .int .i64 arg, .int .i64 data], .int .i64 now] W fun e w' => e = .returned (.int .i64 (cls.length : Int)) ∧
      ∃ vc', Mac w' (fun k => (U k ∨ W.heap.size ≤ k) ∧ k < w'.heap.size) S b bb bm vk vt vc' vs vw vl va ths n (cls ++ [⟨th, op, arg, data, now, -1, -1, 0, 0⟩]) shs ws mv lg ah ∧ Fr W w' (fun k => k = bb ∨ vc.ownBlock = some k) ∧ (∀ k, vc'.ownBlock = some k → vc.ownBlock = some k ∨ W.heap.size ≤ k) := by
  obtain ⟨i0, hi, hz0, hz1, hz2⟩ := info_parts info_call
  have hlt := h.ltb
  obtain ⟨a, cap, hv, hle⟩ := h.cal.form
  subst hv
  have b1 : ∀ o, (W.alloc o).cell? ⟨bb, 1, none⟩ = some (.slice a cls.length cap) := fun o => by rw [World.cell?_alloc_past _ _ _ hlt]; exact h.b1
  have b2 : ∀ o p, ((W.alloc o).alloc p).cell? ⟨bb, 1, none⟩ = some (.slice a cls.length cap) := fun o p => by rw [World.cell?_alloc_past _ _ _ (by simp; omega)]; exact b1 o
  have hne : W.heap.size ≠ bb := by omega
  have law : ∀ (w0 : World), Below W.heap.size W w0 → Has w0 (fun k => (U k ∧ ¬ S k) ∨ W.heap.size ≤ k) 78 9 (.slice a cls.length cap) cls.length (clc cls) := fun w0 B => (h.cal.below B).mono (fun _ => .inl)
  have x0 : ∀ j u, #[Value.int .i64 th, .int .i64 op, .int .i64 arg, .int .i64 data].toList[j]? = some u → (W.alloc (mvO th op arg data)).cell? ((⟨W.heap.size, 0, none⟩ : Addr).add j) = some u := newsAt W _ #[.int .i64 th, .int .i64 op, .int .i64 arg, .int .i64 data] 46 _ rfl rfl
  have y0 : (W.alloc (mvO th op arg data)).cell? ⟨W.heap.size, 0, none⟩ = some (.int .i64 th) := x0 0 _ rfl
  have y1 : (W.alloc (mvO th op arg data)).cell? ⟨W.heap.size, 1, none⟩ = some (.int .i64 op) := x0 1 _ rfl
  have y2 : (W.alloc (mvO th op arg data)).cell? ⟨W.heap.size, 2, none⟩ = some (.int .i64 arg) := x0 2 _ rfl
  have y3 : (W.alloc (mvO th op arg data)).cell? ⟨W.heap.size, 3, none⟩ = some (.int .i64 data) := x0 3 _ rfl
  have b1m := b1 (mvO th op arg data)
  clear x0
  go_enter Try.func52, Try.ntmps52
  go_wp2
  refine wp_region_held_drew (S := fun w' => w'.cell? ⟨W.heap.size, 0, none⟩ = some (.int .i64 th) ∧ w'.cell? ⟨W.heap.size, 1, none⟩ = some (.int .i64 op) ∧ w'.cell? ⟨W.heap.size, 2, none⟩ = some (.int .i64 arg) ∧ w'.cell? ⟨W.heap.size, 3, none⟩ = some (.int .i64 data)) (by kernel_rfl) ⟨y0, y1, y2, y3⟩ (fun hS => ?_)
  refine wpAnyH_take (i := 0) (v := .pointer (some ⟨bb, 0, none⟩)) rfl (by kernel_rfl) (by kernel_rfl) (by kernel_rfl) (fun _ _ _ h => h) (Or.inl ⟨by rfl, fun w' hw => ?y0⟩) hS ?_
  case y0 =>
    obtain ⟨s1, s2, s3, s4⟩ := hw
    clear hS
    go_simp
  refine wpAnyH_take (i := 1) (v := .pointer (some ⟨bb, 0, none⟩)) rfl (by kernel_rfl) (by kernel_rfl) (by kernel_rfl) (fun _ _ _ h => h) (Or.inl ⟨by rfl, fun w' hw => ?y1⟩) hS ?_
  case y1 =>
    obtain ⟨s1, s2, s3, s4⟩ := hw
    clear hS
    go_simp
  refine wpAnyH_take (i := 2) (v := .pointer (some ⟨bb, 0, none⟩)) rfl (by kernel_rfl) (by kernel_rfl) (by kernel_rfl) (fun _ _ _ h => h) (Or.inl ⟨by rfl, fun w' hw => ?y2⟩) hS ?_
  case y2 =>
    obtain ⟨s1, s2, s3, s4⟩ := hw
    clear hS
    go_simp
  refine wpAnyH_take (i := 3) (v := .pointer (some ⟨bb, 1, none⟩)) rfl (by kernel_rfl) (by kernel_rfl) (by kernel_rfl) (fun _ _ _ h => h) (Or.inl ⟨by rfl, fun w' hw => ?y3⟩) hS ?_
  case y3 =>
    obtain ⟨s1, s2, s3, s4⟩ := hw
    clear hS
    go_simp
  refine wpAnyH_take (i := 5) (v := .pointer (some ⟨W.heap.size, 0, none⟩)) rfl (by kernel_rfl) (by kernel_rfl) (by kernel_rfl) (fun _ _ _ h => h) (Or.inl ⟨by rfl, fun w' hw => ?y5⟩) hS ?_
  case y5 =>
    obtain ⟨s1, s2, s3, s4⟩ := hw
    clear hS
    go_simp
  refine wpAnyH_take (i := 6) (v := .int .i64 th) rfl (by kernel_rfl) (by kernel_rfl) (by kernel_rfl) (fun _ _ _ h => h) (Or.inl ⟨by rfl, fun w' hw => ?y6⟩) hS ?_
  case y6 =>
    obtain ⟨s1, s2, s3, s4⟩ := hw
    clear hS
    go_simp
  refine wpAnyH_take (i := 7) (v := .pointer (some ⟨W.heap.size, 1, none⟩)) rfl (by kernel_rfl) (by kernel_rfl) (by kernel_rfl) (fun _ _ _ h => h) (Or.inl ⟨by rfl, fun w' hw => ?y7⟩) hS ?_
  case y7 =>
    obtain ⟨s1, s2, s3, s4⟩ := hw
    clear hS
    go_simp
  refine wpAnyH_take (i := 8) (v := .int .i64 op) rfl (by kernel_rfl) (by kernel_rfl) (by kernel_rfl) (fun _ _ _ h => h) (Or.inl ⟨by rfl, fun w' hw => ?y8⟩) hS ?_
  case y8 =>
    obtain ⟨s1, s2, s3, s4⟩ := hw
    clear hS
    go_simp
  refine wpAnyH_take (i := 9) (v := .pointer (some ⟨W.heap.size, 2, none⟩)) rfl (by kernel_rfl) (by kernel_rfl) (by kernel_rfl) (fun _ _ _ h => h) (Or.inl ⟨by rfl, fun w' hw => ?y9⟩) hS ?_
  case y9 =>
    obtain ⟨s1, s2, s3, s4⟩ := hw
    clear hS
    go_simp
  refine wpAnyH_take (i := 10) (v := .int .i64 arg) rfl (by kernel_rfl) (by kernel_rfl) (by kernel_rfl) (fun _ _ _ h => h) (Or.inl ⟨by rfl, fun w' hw => ?y10⟩) hS ?_
  case y10 =>
    obtain ⟨s1, s2, s3, s4⟩ := hw
    clear hS
    go_simp
  refine wpAnyH_take (i := 11) (v := .pointer (some ⟨W.heap.size, 3, none⟩)) rfl (by kernel_rfl) (by kernel_rfl) (by kernel_rfl) (fun _ _ _ h => h) (Or.inl ⟨by rfl, fun w' hw => ?y11⟩) hS ?_
  case y11 =>
    obtain ⟨s1, s2, s3, s4⟩ := hw
    clear hS
    go_simp
  refine wpAnyH_take (i := 12) (v := .int .i64 data) rfl (by kernel_rfl) (by kernel_rfl) (by kernel_rfl) (fun _ _ _ h => h) (Or.inl ⟨by rfl, fun w' hw => ?y12⟩) hS ?_
  case y12 =>
    obtain ⟨s1, s2, s3, s4⟩ := hw
    clear hS
    go_simp
  refine wpAnyH_take (i := 13) (v := .int .i64 now) rfl (by kernel_rfl) (by kernel_rfl) (by kernel_rfl) (fun _ _ _ h => h) (Or.inl ⟨by rfl, fun w' hw => ?y13⟩) hS ?_
  case y13 =>
    obtain ⟨s1, s2, s3, s4⟩ := hw
    clear hS
    go_simp
  refine wpAnyH_take (i := 14) (v := .agg #[.int .i64 th, .int .i64 op, .int .i64 arg, .int .i64 data, .int .i64 now, .int .i64 (-1), .int .i64 (-1), .int .i64 0, .int .i64 0]) rfl (by kernel_rfl) (by kernel_rfl) (by kernel_rfl) (fun _ _ _ h => h) (Or.inl ⟨by rfl, fun w' hw => ?y14⟩) hS ?_
  case y14 =>
    obtain ⟨s1, s2, s3, s4⟩ := hw
    clear hS
    go_simp
  have nbb : (Value.slice a cls.length cap).ownBlock ≠ some bb := not_row h.bk h.cal (by decide)
  have nB : (Value.slice a cls.length cap).ownBlock ≠ some W.heap.size := fun e => by have := (h.cal.lt _ e).2; omega
  have hB2 : Below W.heap.size W ((W.alloc (mvO th op arg data)).drew.alloc (.cells #[.int .i64 th, .int .i64 op, .int .i64 arg, .int .i64 data, .int .i64 now, .int .i64 (-1), .int .i64 (-1), .int .i64 0, .int .i64 0] 78)) := (Below.drew ((Below.refl _ _).alloc (Nat.le_refl _) (mvO th op arg data))).alloc (by simp) _
  have news := newsAt (W.alloc (mvO th op arg data)).drew ((W.alloc (mvO th op arg data)).drew.alloc (.cells #[.int .i64 th, .int .i64 op, .int .i64 arg, .int .i64 data, .int .i64 now, .int .i64 (-1), .int .i64 (-1), .int .i64 0, .int .i64 0] 78)) #[.int .i64 th, .int .i64 op, .int .i64 arg, .int .i64 data, .int .i64 now, .int .i64 (-1), .int .i64 (-1), .int .i64 0, .int .i64 0] 78 (W.heap.size + 1) (by simp) rfl
  have b1d : (W.alloc (mvO th op arg data)).drew.cell? ⟨bb, 1, none⟩ = some (.slice a cls.length cap) := b1m
  have b2d : ((W.alloc (mvO th op arg data)).drew.alloc (.cells #[.int .i64 th, .int .i64 op, .int .i64 arg, .int .i64 data, .int .i64 now, .int .i64 (-1), .int .i64 (-1), .int .i64 0, .int .i64 0] 78)).cell? ⟨bb, 1, none⟩ = some (.slice a cls.length cap) := (World.cell?_alloc_past _ _ _ (by simp; omega)).trans b1m
  have hS2 : ((W.alloc (mvO th op arg data)).drew.alloc (.cells #[.int .i64 th, .int .i64 op, .int .i64 arg, .int .i64 data, .int .i64 now, .int .i64 (-1), .int .i64 (-1), .int .i64 0, .int .i64 0] 78)).cell? ⟨W.heap.size, 0, none⟩ = some (.int .i64 th) ∧ ((W.alloc (mvO th op arg data)).drew.alloc (.cells #[.int .i64 th, .int .i64 op, .int .i64 arg, .int .i64 data, .int .i64 now, .int .i64 (-1), .int .i64 (-1), .int .i64 0, .int .i64 0] 78)).cell? ⟨W.heap.size, 1, none⟩ = some (.int .i64 op) ∧ ((W.alloc (mvO th op arg data)).drew.alloc (.cells #[.int .i64 th, .int .i64 op, .int .i64 arg, .int .i64 data, .int .i64 now, .int .i64 (-1), .int .i64 (-1), .int .i64 0, .int .i64 0] 78)).cell? ⟨W.heap.size, 2, none⟩ = some (.int .i64 arg) ∧ ((W.alloc (mvO th op arg data)).drew.alloc (.cells #[.int .i64 th, .int .i64 op, .int .i64 arg, .int .i64 data, .int .i64 now, .int .i64 (-1), .int .i64 (-1), .int .i64 0, .int .i64 0] 78)).cell? ⟨W.heap.size, 3, none⟩ = some (.int .i64 data) :=
    ⟨(World.cell?_alloc_past _ _ _ (by simp)).trans y0, (World.cell?_alloc_past _ _ _ (by simp)).trans y1, (World.cell?_alloc_past _ _ _ (by simp)).trans y2, (World.cell?_alloc_past _ _ _ (by simp)).trans y3⟩
  refine wpAnyH_ready (rs := [4, 15]) (by kernel_rfl) (by simp) (AllReadyH.cons rfl (fun K hK => ?a4) (AllReadyH.cons rfl (fun K hK => ?a15) AllReadyH.nil))
  case a4 =>
    go_simp
    refine hK.out _ _ hS (fun hS => ?_)
    clear hK K
    refine wpAnyH_ready (rs := [15]) (by kernel_rfl) (by simp) (AllReadyH.cons rfl (fun K hK => ?_) AllReadyH.nil)
    go_simp
    refine hK.out _ _ hS2 (fun hS => ?_)
    clear hK K
    refine wpAnyH_ready (rs := [16]) (by kernel_rfl) (by simp) (AllReadyH.cons rfl (fun K hK => ?_) AllReadyH.nil)
    refine step_append_has _ rfl (.tmp 11) (.tmp 22) 49 rfl (fun k => (U k ∧ ¬ S k) ∨ W.heap.size ≤ k) 78 i0 _ 9 72 Try.underlying49 hi hz0 hz1 hz2 rfl (.slice a cls.length cap) cls.length (clc cls) (by simp [Act.eval]) (law _ hB2) ⟨W.heap.size + 1, 0, none⟩ 1 1 [.int .i64 th, .int .i64 op, .int .i64 arg, .int .i64 data, .int .i64 now, .int .i64 (-1), .int .i64 (-1), .int .i64 0, .int .i64 0] (by simp [Act.eval]) rfl news (by simp [Value.oneCell']) (by omega) (by unfold maxLen; omega) (by omega) (.inr (by simp; omega)) ?_
    intro g cap' w1 hown hgrow hat
    have hb1 : w1.heap[bb]? = some (.cells #[.pointer (some ⟨bm, 0, none⟩), .slice a cls.length cap, vs] 96 (0, 0)) := (hgrow.block bb (by simp; omega) (fun e => nbb e.symm)).trans ((hB2.block bb hlt).trans h.bk)
    have kS : ∀ j, w1.cell? ⟨W.heap.size, j, none⟩ = (W.alloc (mvO th op arg data)).drew.cell? ⟨W.heap.size, j, none⟩ := fun j => (World.cell?_of_block (hgrow.block W.heap.size (by simp; omega) (fun e => nB e.symm))).trans (World.cell?_alloc_past _ _ _ (by simp))
    have hS1 : w1.cell? ⟨W.heap.size, 0, none⟩ = some (.int .i64 th) ∧ w1.cell? ⟨W.heap.size, 1, none⟩ = some (.int .i64 op) ∧ w1.cell? ⟨W.heap.size, 2, none⟩ = some (.int .i64 arg) ∧ w1.cell? ⟨W.heap.size, 3, none⟩ = some (.int .i64 data) := ⟨(kS 0).trans y0, (kS 1).trans y1, (kS 2).trans y2, (kS 3).trans y3⟩
    have kc : w1.cell? ⟨bb, 1, none⟩ = some (.slice a cls.length cap) := by simp [World.cell?, hb1]
    have kf : w1.frozen? ⟨bb, 1, none⟩ = false := by simp [World.frozen?, hb1]
    refine hK.out _ _ hS1 (fun hS => ?_)
    clear hK K
    refine wpAnyH_take (i := 17) (v := .pointer (some ⟨bb, 0, none⟩)) rfl (by kernel_rfl) (by kernel_rfl) (by kernel_rfl) (fun _ _ _ h => h) (Or.inl ⟨by rfl, fun w' hw => ?y17⟩) hS ?_
    case y17 =>
      obtain ⟨s1, s2, s3, s4⟩ := hw
      clear hS
      go_simp
    refine wpAnyH_take (i := 18) (v := .pointer (some ⟨bb, 1, none⟩)) rfl (by kernel_rfl) (by kernel_rfl) (by kernel_rfl) (fun _ _ _ h => h) (Or.inl ⟨by rfl, fun w' hw => ?y18⟩) hS ?_
    case y18 =>
      obtain ⟨s1, s2, s3, s4⟩ := hw
      clear hS
      go_simp
    refine wpAnyH_ready (rs := [19]) (by kernel_rfl) (by simp) (AllReadyH.cons rfl (fun K hK => ?_) AllReadyH.nil)
    go_simp
    refine hK.out _ _ ⟨(World.cell?_setCell_far w1 ⟨bb, 1, none⟩ ⟨W.heap.size, 0, none⟩ _ hne.symm).trans hS1.1, (World.cell?_setCell_far w1 ⟨bb, 1, none⟩ ⟨W.heap.size, 1, none⟩ _ hne.symm).trans hS1.2.1, (World.cell?_setCell_far w1 ⟨bb, 1, none⟩ ⟨W.heap.size, 2, none⟩ _ hne.symm).trans hS1.2.2.1, (World.cell?_setCell_far w1 ⟨bb, 1, none⟩ ⟨W.heap.size, 3, none⟩ _ hne.symm).trans hS1.2.2.2⟩ (fun _ => wpAnyH_done (by kernel_rfl) ?_ _)
    clear hK K
    have kl : (w1.setCell ⟨bb, 1, none⟩ (.slice (some ⟨g, 0, none⟩) (cls.length + 1) cap')).cell? ⟨bb, 1, none⟩ = some (.slice (some ⟨g, 0, none⟩) (cls.length + 1) cap') := World.cell?_setCell_same _ _ _ kc
    obtain ⟨hm, hf⟩ := h.begun (cl := ⟨th, op, arg, data, now, -1, -1, 0, 0⟩) hB2 rfl hown hgrow
    have hgk : ∀ k, (Value.slice (some ⟨g, 0, none⟩) (cls.length + 1) cap').ownBlock = some k → (Value.slice a cls.length cap).ownBlock = some k ∨ W.heap.size ≤ k := fun k hk => by
      simp only [Value.ownBlock, Option.some.injEq] at hk
      subst hk
      rcases hat with e | e
      · exact .inl e
      · exact .inr (by rw [e]; simp; omega)
    replace hm := Mr.hid hm
    replace hf := Mr.hid hf
    replace h := Mr.hid h
    have hl1 : (cls.length : Int) ≤ 100000 := by omega
    clear law b1 b2 hown hgrow hat kc kf hb1 kS hS1 hS news
    go_wp2
    go_ret
    refine ⟨by simp, _, ?_, hf.out, hgk⟩
    simpa using hm.out
  case a15 =>
    go_simp
    refine hK.out _ _ hS2 (fun hS => ?_)
    clear hK K
    refine wpAnyH_ready (rs := [4]) (by kernel_rfl) (by simp) (AllReadyH.cons rfl (fun K hK => ?_) AllReadyH.nil)
    go_simp
    refine hK.out _ _ hS2 (fun hS => ?_)
    clear hK K
    refine wpAnyH_ready (rs := [16]) (by kernel_rfl) (by simp) (AllReadyH.cons rfl (fun K hK => ?_) AllReadyH.nil)
    refine step_append_has _ rfl (.tmp 11) (.tmp 22) 49 rfl (fun k => (U k ∧ ¬ S k) ∨ W.heap.size ≤ k) 78 i0 _ 9 72 Try.underlying49 hi hz0 hz1 hz2 rfl (.slice a cls.length cap) cls.length (clc cls) (by simp [Act.eval]) (law _ hB2) ⟨W.heap.size + 1, 0, none⟩ 1 1 [.int .i64 th, .int .i64 op, .int .i64 arg, .int .i64 data, .int .i64 now, .int .i64 (-1), .int .i64 (-1), .int .i64 0, .int .i64 0] (by simp [Act.eval]) rfl news (by simp [Value.oneCell']) (by omega) (by unfold maxLen; omega) (by omega) (.inr (by simp; omega)) ?_
    intro g cap' w1 hown hgrow hat
    have hb1 : w1.heap[bb]? = some (.cells #[.pointer (some ⟨bm, 0, none⟩), .slice a cls.length cap, vs] 96 (0, 0)) := (hgrow.block bb (by simp; omega) (fun e => nbb e.symm)).trans ((hB2.block bb hlt).trans h.bk)
    have kS : ∀ j, w1.cell? ⟨W.heap.size, j, none⟩ = (W.alloc (mvO th op arg data)).drew.cell? ⟨W.heap.size, j, none⟩ := fun j => (World.cell?_of_block (hgrow.block W.heap.size (by simp; omega) (fun e => nB e.symm))).trans (World.cell?_alloc_past _ _ _ (by simp))
    have hS1 : w1.cell? ⟨W.heap.size, 0, none⟩ = some (.int .i64 th) ∧ w1.cell? ⟨W.heap.size, 1, none⟩ = some (.int .i64 op) ∧ w1.cell? ⟨W.heap.size, 2, none⟩ = some (.int .i64 arg) ∧ w1.cell? ⟨W.heap.size, 3, none⟩ = some (.int .i64 data) := ⟨(kS 0).trans y0, (kS 1).trans y1, (kS 2).trans y2, (kS 3).trans y3⟩
    have kc : w1.cell? ⟨bb, 1, none⟩ = some (.slice a cls.length cap) := by simp [World.cell?, hb1]
    have kf : w1.frozen? ⟨bb, 1, none⟩ = false := by simp [World.frozen?, hb1]
    refine hK.out _ _ hS1 (fun hS => ?_)
    clear hK K
    refine wpAnyH_take (i := 17) (v := .pointer (some ⟨bb, 0, none⟩)) rfl (by kernel_rfl) (by kernel_rfl) (by kernel_rfl) (fun _ _ _ h => h) (Or.inl ⟨by rfl, fun w' hw => ?y17⟩) hS ?_
    case y17 =>
      obtain ⟨s1, s2, s3, s4⟩ := hw
      clear hS
      go_simp
    refine wpAnyH_take (i := 18) (v := .pointer (some ⟨bb, 1, none⟩)) rfl (by kernel_rfl) (by kernel_rfl) (by kernel_rfl) (fun _ _ _ h => h) (Or.inl ⟨by rfl, fun w' hw => ?y18⟩) hS ?_
    case y18 =>
      obtain ⟨s1, s2, s3, s4⟩ := hw
      clear hS
      go_simp
    refine wpAnyH_ready (rs := [19]) (by kernel_rfl) (by simp) (AllReadyH.cons rfl (fun K hK => ?_) AllReadyH.nil)
    go_simp
    refine hK.out _ _ ⟨(World.cell?_setCell_far w1 ⟨bb, 1, none⟩ ⟨W.heap.size, 0, none⟩ _ hne.symm).trans hS1.1, (World.cell?_setCell_far w1 ⟨bb, 1, none⟩ ⟨W.heap.size, 1, none⟩ _ hne.symm).trans hS1.2.1, (World.cell?_setCell_far w1 ⟨bb, 1, none⟩ ⟨W.heap.size, 2, none⟩ _ hne.symm).trans hS1.2.2.1, (World.cell?_setCell_far w1 ⟨bb, 1, none⟩ ⟨W.heap.size, 3, none⟩ _ hne.symm).trans hS1.2.2.2⟩ (fun _ => wpAnyH_done (by kernel_rfl) ?_ _)
    clear hK K
    have kl : (w1.setCell ⟨bb, 1, none⟩ (.slice (some ⟨g, 0, none⟩) (cls.length + 1) cap')).cell? ⟨bb, 1, none⟩ = some (.slice (some ⟨g, 0, none⟩) (cls.length + 1) cap') := World.cell?_setCell_same _ _ _ kc
    obtain ⟨hm, hf⟩ := h.begun (cl := ⟨th, op, arg, data, now, -1, -1, 0, 0⟩) hB2 rfl hown hgrow
    have hgk : ∀ k, (Value.slice (some ⟨g, 0, none⟩) (cls.length + 1) cap').ownBlock = some k → (Value.slice a cls.length cap).ownBlock = some k ∨ W.heap.size ≤ k := fun k hk => by
      simp only [Value.ownBlock, Option.some.injEq] at hk
      subst hk
      rcases hat with e | e
      · exact .inl e
      · exact .inr (by rw [e]; simp; omega)
    replace hm := Mr.hid hm
    replace hf := Mr.hid hf
    replace h := Mr.hid h
    have hl1 : (cls.length : Int) ≤ 100000 := by omega
    clear law b1 b2 hown hgrow hat kc kf hb1 kS hS1 hS news
    go_wp2
    go_ret
    refine ⟨by simp, _, ?_, hf.out, hgk⟩
    simpa using hm.out
end
end Go.Proofs.Ytglppcoohojmpaa.Ma
