import Derived.Test.YtnapnhmmopajfaaGreatJ08
/-
  KIT.begin by its contract, whatever the map's maker makes.
-/
namespace Go.Proofs.YtnapnhmmopajfaaGreat.Ma
open Go.RowKit Mr Me
def mvO (th op arg data : Int) : Obj := .cells #[.int .i64 th, .int .i64 op, .int .i64 arg, .int .i64 data] 27 (0, 0)
theorem begin_idle (w : World) : CallsD Tryz.prog 52 #[] .returning w fun e u' w' => e = .returned (.tuple #[]) ∧ u' = .returning ∧ w' = w := by
  refine callsD_of_wpS Tryz.func52 rfl fun c₀ cs hu => ?_
  apply wpS_region
  simp [wpOpsS, go_sem, recoverD, hu, Tryz.ntmps52, bodyPostS, results, Tryz.results52]
  cases c₀
  simp_all
theorem nil_nil (w : World) : (binOp .eql 98 .nilFunc .nilFunc).run Tryz.prog w = .ok (.bool true) w := by kernel_rfl
theorem nil_func (f : Fn) (a b : Array Value) (w : World) : (binOp .eql 98 (.func f a b) .nilFunc).run Tryz.prog w = .ok (.bool false) w := by kernel_rfl
section
variable {W : World} {km : Nat}
set_option maxRecDepth 100000 in
theorem kit_none (th op arg data : Int) (L : ∀ o, (Instr.lookup 73 (.map (some km)) (.int .i64 op) false).run Tryz.prog (W.alloc o) = .ok .nilFunc (W.alloc o)) :
    Calls Tryz.prog 38 #[.map (some km), .agg #[.int .i64 th, .int .i64 op, .int .i64 arg, .int .i64 data]] W fun e w' => e = .returned .nilIface ∧ w' = W.alloc (mvO th op arg data) := by
  have qn := nil_nil
  go_enter_defers Tryz.func38, Tryz.ntmps38
  go_wp2
  refine leaves_cons (f := 52) (args := #[]) (by simp) (by simp [go_sem]) ?_
  refine (begin_idle _).mono ?_
  rintro e u' w2 ⟨rfl, rfl, hw⟩
  obtain rfl := hw.symm
  simp [Leaves, settle, results, Tryz.results38, go_sem, mvO]
set_option maxRecDepth 100000 in
set_option maxHeartbeats 1000000 in
theorem kit_call (th op arg data : Int) {g ca : Nat} {r : Value} {Q : World → Prop} (L : ∀ o, (Instr.lookup 73 (.map (some km)) (.int .i64 op) false).run Tryz.prog (W.alloc o) = .ok (.func (.func g) #[] #[.pointer (some ⟨ca, 0, none⟩)]) (W.alloc o)) (eg : ∀ args w, (callFunc g args).run Tryz.prog w = .ok (.enter g args) w)
    (C : Calls Tryz.prog g #[.int .i64 th, .agg #[.int .i64 th, .int .i64 op, .int .i64 arg, .int .i64 data], .pointer (some ⟨ca, 0, none⟩)] (W.alloc (mvO th op arg data)) fun e w' => e = .returned r ∧ Q w') :
    Calls Tryz.prog 38 #[.map (some km), .agg #[.int .i64 th, .int .i64 op, .int .i64 arg, .int .i64 data]] W fun e w' => e = .returned r ∧ Q w' := by
  have qn := nil_func
  unfold mvO at C
  go_enter_defers Tryz.func38, Tryz.ntmps38
  go_wp2
  refine C.mono ?_
  clear C
  rintro e w1 ⟨rfl, h1⟩
  go_wp2
  refine leaves_cons (f := 52) (args := #[]) (by simp) (by simp [go_sem]) ?_
  refine (begin_idle _).mono ?_
  rintro e u' w2 ⟨rfl, rfl, hw⟩
  obtain rfl := hw.symm
  simp [Leaves, settle, results, Tryz.results38, go_sem, h1]
end
end Go.Proofs.YtnapnhmmopajfaaGreat.Ma
/-
  A call's BEGINNING: book.begin by its contract (made by genbegin.py).
-/
namespace Go.Proofs.YtnapnhmmopajfaaGreat.Ma
open Go.RowKit Mr Me
theorem info_call : (Tryz.prog.info? 61).map (fun i => (i.zero, i.size, i.bytes)) = some (some (.agg #[.int .i64 0, .int .i64 0, .int .i64 0, .int .i64 0, .int .i64 0, .int .i64 0, .int .i64 0, .int .i64 0, .int .i64 0]), 9, 72) := by kernel_rfl
section
variable {W : World} {U S : Nat → Prop} {b bb bm : Nat} {vk vt vc vs vw vl va : Value} {ths : List Th} {n : Int} {cls : List Cl} {shs : List Sh} {ws : List Int} {mv : Int} {lg : List Acc} {ah : List Int}
/-- A call more. -/
theorem Mac.begun (h : Mac W U S b bb bm vk vt vc vs vw vl va ths n cls shs ws mv lg ah) {w0 w1 : World} (hB : Below W.heap.size W w0) {v' : Value} {cl : Cl} {m : Nat} (hm : m = cls.length + 1)
    (hown : Has w1 (fun k => (U k ∧ ¬ S k) ∨ W.heap.size ≤ k) 61 9 v' m (clc cls ++ cl.cells)) (hgrow : w0.grownBy w1 vc.ownBlock) :
    Mac (w1.setCell ⟨bb, 1, none⟩ v') (fun k => (U k ∨ W.heap.size ≤ k) ∧ k < w1.heap.size) S b bb bm vk vt v' vs vw vl va ths n (cls ++ [cl]) shs ws mv lg ah ∧ Fr W (w1.setCell ⟨bb, 1, none⟩ v') (fun k => k = bb ∨ vc.ownBlock = some k) := by
  subst hm
  have hs := hB.size
  have hs1 := hgrow.size
  have hk : ∀ k, U k → vc.ownBlock ≠ some k → w1.heap[k]? = W.heap[k]? := fun k hU hne => (hgrow.block k (Nat.lt_of_lt_of_le (h.ul k hU) hs) (fun e => hne e.symm)).trans (hB.block k (h.ul k hU))
  have nb : vc.ownBlock ≠ some b := not_row h.blk h.cal (by decide)
  have nbb : vc.ownBlock ≠ some bb := not_row h.bk h.cal (by decide)
  have hbb : w1.heap[bb]? = some (.cells #[.pointer (some ⟨bm, 0, none⟩), vc, vs] 93 (0, 0)) := (hk bb h.ubb.1 nbb).trans h.bk
  have hv' : v'.ownBlock ≠ some bb := not_row hbb hown (by decide)
  have ho : ∀ k, k ≠ bb → (w1.setCell ⟨bb, 1, none⟩ v').heap[k]? = w1.heap[k]? := fun k hne => Below.heap_setCell _ _ _ k hne
  have nS : ∀ k, S k → vc.ownBlock ≠ some k := fun k hk e => (h.cal.lt k e).1.2 hk
  have up : ∀ k, U k ∧ ¬ S k → ((U k ∨ W.heap.size ≤ k) ∧ k < w1.heap.size) ∧ ¬ S k := fun k hk => ⟨⟨.inl hk.1, by have := h.ul k hk.1; omega⟩, hk.2⟩
  refine ⟨⟨(ho b h.bne).trans ((hk b h.ub.1 nb).trans h.blk), by rw [setBlk hbb]; rfl, h.mem.kept (fun k hs' _ => (ho k (fun e => h.ubb.2 (e ▸ hs'))).trans (hk k (h.su k hs') (nS k hs'))), ?_, ?_, ?_, up b h.ub, up bb h.ubb, fun k hk => ⟨.inl (h.su k hk), by have := h.ul k (h.su k hk); omega⟩, fun k hk => by simpa using hk.2⟩, ?_⟩
  · refine (h.thr.kept (fun k e => hk k (h.thr.lt k e).1.1 (fun e' => has_ne h.thr h.cal (by decide) k e e')) (fun k e => up k (h.thr.lt k e).1)).setCell _ _ (not_row h.bk h.thr (by decide))
  · have hl : (cls ++ [cl]).length = cls.length + 1 := by simp
    have e2 : clc (cls ++ [cl]) = clc cls ++ cl.cells := by simp [clc]
    rw [hl, e2]
    refine (hown.kept (fun _ _ => rfl) (fun k e => ?_)).setCell _ _ hv'
    obtain ⟨h1, h2⟩ := hown.lt k e
    rcases h1 with h1 | h1
    · exact up k h1
    · exact ⟨⟨.inr h1, h2⟩, fun hS => by have := h.ul k (h.su k hS); omega⟩
  · refine (h.shf.kept (fun k e => hk k (h.shf.lt k e).1.1 (fun e' => has_ne h.shf h.cal (by decide) k e e')) (fun k e => up k (h.shf.lt k e).1)).setCell _ _ (not_row h.bk h.shf (by decide))
  · exact ((Fr.of_below hB).grown hgrow (fun k hk => .inl (.inr hk))).setCell _ _ (.inl (.inl rfl))
set_option maxRecDepth 100000 in
set_option maxHeartbeats 2000000 in
theorem bookBegin_any (h : Mac W U S b bb bm vk vt vc vs vw vl va ths n cls shs ws mv lg ah) (hr : cls.length ≤ 100000) (th op arg data now : Int) :
    Calls Tryz.prog 39 #[.pointer (some ⟨bb, 0, none⟩), .agg #[.int .i64 th, .int .i64 op, .int .i64 arg, .int .i64 data], .int .i64 now] W fun e w' => e = .returned (.int .i64 (cls.length : Int)) ∧
      ∃ vc', Mac w' (fun k => (U k ∨ W.heap.size ≤ k) ∧ k < w'.heap.size) S b bb bm vk vt vc' vs vw vl va ths n (cls ++ [⟨th, op, arg, data, now, -1, -1, 0, 0⟩]) shs ws mv lg ah ∧ Fr W w' (fun k => k = bb ∨ vc.ownBlock = some k) ∧ (∀ k, vc'.ownBlock = some k → vc.ownBlock = some k ∨ W.heap.size ≤ k) := by
  obtain ⟨i0, hi, hz0, hz1, hz2⟩ := info_parts info_call
  have hlt := h.ltb
  obtain ⟨a, cap, hv, hle⟩ := h.cal.form
  subst hv
  have b1 : ∀ o, (W.alloc o).cell? ⟨bb, 1, none⟩ = some (.slice a cls.length cap) := fun o => by rw [World.cell?_alloc_past _ _ _ hlt]; exact h.b1
  have b2 : ∀ o p, ((W.alloc o).alloc p).cell? ⟨bb, 1, none⟩ = some (.slice a cls.length cap) := fun o p => by rw [World.cell?_alloc_past _ _ _ (by simp; omega)]; exact b1 o
  have hne : W.heap.size ≠ bb := by omega
  have law : ∀ (w0 : World), Below W.heap.size W w0 → Has w0 (fun k => (U k ∧ ¬ S k) ∨ W.heap.size ≤ k) 61 9 (.slice a cls.length cap) cls.length (clc cls) := fun w0 B => (h.cal.below B).mono (fun _ => .inl)
  have x0 : ∀ j u, #[Value.int .i64 th, .int .i64 op, .int .i64 arg, .int .i64 data].toList[j]? = some u → (W.alloc (mvO th op arg data)).cell? ((⟨W.heap.size, 0, none⟩ : Addr).add j) = some u := newsAt W _ #[.int .i64 th, .int .i64 op, .int .i64 arg, .int .i64 data] 27 _ rfl rfl
  have y0 : (W.alloc (mvO th op arg data)).cell? ⟨W.heap.size, 0, none⟩ = some (.int .i64 th) := x0 0 _ rfl
  have y1 : (W.alloc (mvO th op arg data)).cell? ⟨W.heap.size, 1, none⟩ = some (.int .i64 op) := x0 1 _ rfl
  have y2 : (W.alloc (mvO th op arg data)).cell? ⟨W.heap.size, 2, none⟩ = some (.int .i64 arg) := x0 2 _ rfl
  have y3 : (W.alloc (mvO th op arg data)).cell? ⟨W.heap.size, 3, none⟩ = some (.int .i64 data) := x0 3 _ rfl
  have b1m := b1 (mvO th op arg data)
  clear x0
  go_enter Tryz.func39, Tryz.ntmps39
  go_wp2
  refine wp_region_held_drew (S := fun w' => w'.cell? ⟨W.heap.size, 0, none⟩ = some (.int .i64 th) ∧ w'.cell? ⟨W.heap.size, 1, none⟩ = some (.int .i64 op) ∧ w'.cell? ⟨W.heap.size, 2, none⟩ = some (.int .i64 arg) ∧ w'.cell? ⟨W.heap.size, 3, none⟩ = some (.int .i64 data)) (by kernel_rfl) ⟨y0, y1, y2, y3⟩ (fun hS => ?_)
  refine wpAnyH_take (i := 0) (v := .pointer (some ⟨bb, 0, none⟩)) rfl (by kernel_rfl) (by kernel_rfl) (by kernel_rfl) (fun _ _ _ h => h) (Or.inl ⟨by rfl, fun w' hw => ?y0⟩) hS ?_
  case y0 =>
    obtain ⟨s1, s2, s3, s4⟩ := hw
    clear hS
    go_simp
  refine wpAnyH_take (i := 1) (v := .pointer (some ⟨bb, 0, none⟩)) rfl (by kernel_rfl) (by kernel_rfl) (by kernel_rfl) (fun _ _ _ h => h) (Or.inl ⟨by rfl, fun w' hw => ?y1⟩) hS ?_
  case y1 =>
    obtain ⟨s1, s2, s3, s4⟩ := hw
    clear hS
    go_simp
  refine wpAnyH_take (i := 2) (v := .pointer (some ⟨bb, 0, none⟩)) rfl (by kernel_rfl) (by kernel_rfl) (by kernel_rfl) (fun _ _ _ h => h) (Or.inl ⟨by rfl, fun w' hw => ?y2⟩) hS ?_
  case y2 =>
    obtain ⟨s1, s2, s3, s4⟩ := hw
    clear hS
    go_simp
  refine wpAnyH_take (i := 3) (v := .pointer (some ⟨bb, 1, none⟩)) rfl (by kernel_rfl) (by kernel_rfl) (by kernel_rfl) (fun _ _ _ h => h) (Or.inl ⟨by rfl, fun w' hw => ?y3⟩) hS ?_
  case y3 =>
    obtain ⟨s1, s2, s3, s4⟩ := hw
    clear hS
    go_simp
  refine wpAnyH_take (i := 5) (v := .pointer (some ⟨W.heap.size, 0, none⟩)) rfl (by kernel_rfl) (by kernel_rfl) (by kernel_rfl) (fun _ _ _ h => h) (Or.inl ⟨by rfl, fun w' hw => ?y5⟩) hS ?_
  case y5 =>
    obtain ⟨s1, s2, s3, s4⟩ := hw
    clear hS
    go_simp
  refine wpAnyH_take (i := 6) (v := .int .i64 th) rfl (by kernel_rfl) (by kernel_rfl) (by kernel_rfl) (fun _ _ _ h => h) (Or.inl ⟨by rfl, fun w' hw => ?y6⟩) hS ?_
  case y6 =>
    obtain ⟨s1, s2, s3, s4⟩ := hw
    clear hS
    go_simp
  refine wpAnyH_take (i := 7) (v := .pointer (some ⟨W.heap.size, 1, none⟩)) rfl (by kernel_rfl) (by kernel_rfl) (by kernel_rfl) (fun _ _ _ h => h) (Or.inl ⟨by rfl, fun w' hw => ?y7⟩) hS ?_
  case y7 =>
    obtain ⟨s1, s2, s3, s4⟩ := hw
    clear hS
    go_simp
  refine wpAnyH_take (i := 8) (v := .int .i64 op) rfl (by kernel_rfl) (by kernel_rfl) (by kernel_rfl) (fun _ _ _ h => h) (Or.inl ⟨by rfl, fun w' hw => ?y8⟩) hS ?_
  case y8 =>
    obtain ⟨s1, s2, s3, s4⟩ := hw
    clear hS
    go_simp
  refine wpAnyH_take (i := 9) (v := .pointer (some ⟨W.heap.size, 2, none⟩)) rfl (by kernel_rfl) (by kernel_rfl) (by kernel_rfl) (fun _ _ _ h => h) (Or.inl ⟨by rfl, fun w' hw => ?y9⟩) hS ?_
  case y9 =>
    obtain ⟨s1, s2, s3, s4⟩ := hw
    clear hS
    go_simp
  refine wpAnyH_take (i := 10) (v := .int .i64 arg) rfl (by kernel_rfl) (by kernel_rfl) (by kernel_rfl) (fun _ _ _ h => h) (Or.inl ⟨by rfl, fun w' hw => ?y10⟩) hS ?_
  case y10 =>
    obtain ⟨s1, s2, s3, s4⟩ := hw
    clear hS
    go_simp
  refine wpAnyH_take (i := 11) (v := .pointer (some ⟨W.heap.size, 3, none⟩)) rfl (by kernel_rfl) (by kernel_rfl) (by kernel_rfl) (fun _ _ _ h => h) (Or.inl ⟨by rfl, fun w' hw => ?y11⟩) hS ?_
  case y11 =>
    obtain ⟨s1, s2, s3, s4⟩ := hw
    clear hS
    go_simp
  refine wpAnyH_take (i := 12) (v := .int .i64 data) rfl (by kernel_rfl) (by kernel_rfl) (by kernel_rfl) (fun _ _ _ h => h) (Or.inl ⟨by rfl, fun w' hw => ?y12⟩) hS ?_
  case y12 =>
    obtain ⟨s1, s2, s3, s4⟩ := hw
    clear hS
    go_simp
  refine wpAnyH_take (i := 13) (v := .int .i64 now) rfl (by kernel_rfl) (by kernel_rfl) (by kernel_rfl) (fun _ _ _ h => h) (Or.inl ⟨by rfl, fun w' hw => ?y13⟩) hS ?_
  case y13 =>
    obtain ⟨s1, s2, s3, s4⟩ := hw
    clear hS
    go_simp
  refine wpAnyH_take (i := 14) (v := .agg #[.int .i64 th, .int .i64 op, .int .i64 arg, .int .i64 data, .int .i64 now, .int .i64 (-1), .int .i64 (-1), .int .i64 0, .int .i64 0]) rfl (by kernel_rfl) (by kernel_rfl) (by kernel_rfl) (fun _ _ _ h => h) (Or.inl ⟨by rfl, fun w' hw => ?y14⟩) hS ?_
  case y14 =>
    obtain ⟨s1, s2, s3, s4⟩ := hw
    clear hS
    go_simp
  have nbb : (Value.slice a cls.length cap).ownBlock ≠ some bb := not_row h.bk h.cal (by decide)
  have nB : (Value.slice a cls.length cap).ownBlock ≠ some W.heap.size := fun e => by have := (h.cal.lt _ e).2; omega
  have hB2 : Below W.heap.size W ((W.alloc (mvO th op arg data)).drew.alloc (.cells #[.int .i64 th, .int .i64 op, .int .i64 arg, .int .i64 data, .int .i64 now, .int .i64 (-1), .int .i64 (-1), .int .i64 0, .int .i64 0] 61)) := (Below.drew ((Below.refl _ _).alloc (Nat.le_refl _) (mvO th op arg data))).alloc (by simp) _
  have news := newsAt (W.alloc (mvO th op arg data)).drew ((W.alloc (mvO th op arg data)).drew.alloc (.cells #[.int .i64 th, .int .i64 op, .int .i64 arg, .int .i64 data, .int .i64 now, .int .i64 (-1), .int .i64 (-1), .int .i64 0, .int .i64 0] 61)) #[.int .i64 th, .int .i64 op, .int .i64 arg, .int .i64 data, .int .i64 now, .int .i64 (-1), .int .i64 (-1), .int .i64 0, .int .i64 0] 61 (W.heap.size + 1) (by simp) rfl
  have b1d : (W.alloc (mvO th op arg data)).drew.cell? ⟨bb, 1, none⟩ = some (.slice a cls.length cap) := b1m
  have b2d : ((W.alloc (mvO th op arg data)).drew.alloc (.cells #[.int .i64 th, .int .i64 op, .int .i64 arg, .int .i64 data, .int .i64 now, .int .i64 (-1), .int .i64 (-1), .int .i64 0, .int .i64 0] 61)).cell? ⟨bb, 1, none⟩ = some (.slice a cls.length cap) := (World.cell?_alloc_past _ _ _ (by simp; omega)).trans b1m
  have hS2 : ((W.alloc (mvO th op arg data)).drew.alloc (.cells #[.int .i64 th, .int .i64 op, .int .i64 arg, .int .i64 data, .int .i64 now, .int .i64 (-1), .int .i64 (-1), .int .i64 0, .int .i64 0] 61)).cell? ⟨W.heap.size, 0, none⟩ = some (.int .i64 th) ∧ ((W.alloc (mvO th op arg data)).drew.alloc (.cells #[.int .i64 th, .int .i64 op, .int .i64 arg, .int .i64 data, .int .i64 now, .int .i64 (-1), .int .i64 (-1), .int .i64 0, .int .i64 0] 61)).cell? ⟨W.heap.size, 1, none⟩ = some (.int .i64 op) ∧ ((W.alloc (mvO th op arg data)).drew.alloc (.cells #[.int .i64 th, .int .i64 op, .int .i64 arg, .int .i64 data, .int .i64 now, .int .i64 (-1), .int .i64 (-1), .int .i64 0, .int .i64 0] 61)).cell? ⟨W.heap.size, 2, none⟩ = some (.int .i64 arg) ∧ ((W.alloc (mvO th op arg data)).drew.alloc (.cells #[.int .i64 th, .int .i64 op, .int .i64 arg, .int .i64 data, .int .i64 now, .int .i64 (-1), .int .i64 (-1), .int .i64 0, .int .i64 0] 61)).cell? ⟨W.heap.size, 3, none⟩ = some (.int .i64 data) :=
    ⟨(World.cell?_alloc_past _ _ _ (by simp)).trans y0, (World.cell?_alloc_past _ _ _ (by simp)).trans y1, (World.cell?_alloc_past _ _ _ (by simp)).trans y2, (World.cell?_alloc_past _ _ _ (by simp)).trans y3⟩
  refine wpAnyH_ready (rs := [4, 15]) (by kernel_rfl) (by simp) (AllReadyH.cons rfl (fun K hK => ?a4) (AllReadyH.cons rfl (fun K hK => ?a15) AllReadyH.nil))
  case a4 =>
    go_simp
    refine hK.out _ _ hS (fun hS => ?_)
    clear hK K
    refine wpAnyH_ready (rs := [15]) (by kernel_rfl) (by simp) (AllReadyH.cons rfl (fun K hK => ?_) AllReadyH.nil)
    go_simp
    refine hK.out _ _ hS2 (fun hS => ?_)
    clear hK K
    refine wpAnyH_ready (rs := [16]) (by kernel_rfl) (by simp) (AllReadyH.cons rfl (fun K hK => ?_) AllReadyH.nil)
    refine step_append_has _ rfl (.tmp 11) (.tmp 22) 28 rfl (fun k => (U k ∧ ¬ S k) ∨ W.heap.size ≤ k) 61 i0 _ 9 72 Tryz.underlying28 hi hz0 hz1 hz2 rfl (.slice a cls.length cap) cls.length (clc cls) (by simp [Act.eval]) (law _ hB2) ⟨W.heap.size + 1, 0, none⟩ 1 1 [.int .i64 th, .int .i64 op, .int .i64 arg, .int .i64 data, .int .i64 now, .int .i64 (-1), .int .i64 (-1), .int .i64 0, .int .i64 0] (by simp [Act.eval]) rfl news (by simp [Value.oneCell']) (by omega) (by unfold maxLen; omega) (by omega) (.inr (by simp; omega)) ?_
    intro g cap' w1 hown hgrow hat
    have hb1 : w1.heap[bb]? = some (.cells #[.pointer (some ⟨bm, 0, none⟩), .slice a cls.length cap, vs] 93 (0, 0)) := (hgrow.block bb (by simp; omega) (fun e => nbb e.symm)).trans ((hB2.block bb hlt).trans h.bk)
    have kS : ∀ j, w1.cell? ⟨W.heap.size, j, none⟩ = (W.alloc (mvO th op arg data)).drew.cell? ⟨W.heap.size, j, none⟩ := fun j => (World.cell?_of_block (hgrow.block W.heap.size (by simp; omega) (fun e => nB e.symm))).trans (World.cell?_alloc_past _ _ _ (by simp))
    have hS1 : w1.cell? ⟨W.heap.size, 0, none⟩ = some (.int .i64 th) ∧ w1.cell? ⟨W.heap.size, 1, none⟩ = some (.int .i64 op) ∧ w1.cell? ⟨W.heap.size, 2, none⟩ = some (.int .i64 arg) ∧ w1.cell? ⟨W.heap.size, 3, none⟩ = some (.int .i64 data) := ⟨(kS 0).trans y0, (kS 1).trans y1, (kS 2).trans y2, (kS 3).trans y3⟩
    have kc : w1.cell? ⟨bb, 1, none⟩ = some (.slice a cls.length cap) := by simp [World.cell?, hb1]
    have kf : w1.frozen? ⟨bb, 1, none⟩ = false := by simp [World.frozen?, hb1]
    refine hK.out _ _ hS1 (fun hS => ?_)
    clear hK K
    refine wpAnyH_take (i := 17) (v := .pointer (some ⟨bb, 0, none⟩)) rfl (by kernel_rfl) (by kernel_rfl) (by kernel_rfl) (fun _ _ _ h => h) (Or.inl ⟨by rfl, fun w' hw => ?y17⟩) hS ?_
    case y17 =>
      obtain ⟨s1, s2, s3, s4⟩ := hw
      clear hS
      go_simp
    refine wpAnyH_take (i := 18) (v := .pointer (some ⟨bb, 1, none⟩)) rfl (by kernel_rfl) (by kernel_rfl) (by kernel_rfl) (fun _ _ _ h => h) (Or.inl ⟨by rfl, fun w' hw => ?y18⟩) hS ?_
    case y18 =>
      obtain ⟨s1, s2, s3, s4⟩ := hw
      clear hS
      go_simp
    refine wpAnyH_ready (rs := [19]) (by kernel_rfl) (by simp) (AllReadyH.cons rfl (fun K hK => ?_) AllReadyH.nil)
    go_simp
    refine hK.out _ _ ⟨(World.cell?_setCell_far w1 ⟨bb, 1, none⟩ ⟨W.heap.size, 0, none⟩ _ hne.symm).trans hS1.1, (World.cell?_setCell_far w1 ⟨bb, 1, none⟩ ⟨W.heap.size, 1, none⟩ _ hne.symm).trans hS1.2.1, (World.cell?_setCell_far w1 ⟨bb, 1, none⟩ ⟨W.heap.size, 2, none⟩ _ hne.symm).trans hS1.2.2.1, (World.cell?_setCell_far w1 ⟨bb, 1, none⟩ ⟨W.heap.size, 3, none⟩ _ hne.symm).trans hS1.2.2.2⟩ (fun _ => wpAnyH_done (by kernel_rfl) ?_ _)
    clear hK K
    have kl : (w1.setCell ⟨bb, 1, none⟩ (.slice (some ⟨g, 0, none⟩) (cls.length + 1) cap')).cell? ⟨bb, 1, none⟩ = some (.slice (some ⟨g, 0, none⟩) (cls.length + 1) cap') := World.cell?_setCell_same _ _ _ kc
    obtain ⟨hm, hf⟩ := h.begun (cl := ⟨th, op, arg, data, now, -1, -1, 0, 0⟩) hB2 rfl hown hgrow
    have hgk : ∀ k, (Value.slice (some ⟨g, 0, none⟩) (cls.length + 1) cap').ownBlock = some k → (Value.slice a cls.length cap).ownBlock = some k ∨ W.heap.size ≤ k := fun k hk => by
      simp only [Value.ownBlock, Option.some.injEq] at hk
      subst hk
      rcases hat with e | e
      · exact .inl e
      · exact .inr (by rw [e]; simp; omega)
    replace hm := Mr.hid hm
    replace hf := Mr.hid hf
    replace h := Mr.hid h
    have hl1 : (cls.length : Int) ≤ 100000 := by omega
    clear law b1 b2 hown hgrow hat kc kf hb1 kS hS1 hS news
    go_wp2
    go_ret
    refine ⟨by simp, _, ?_, hf.out, hgk⟩
    simpa using hm.out
  case a15 =>
    go_simp
    refine hK.out _ _ hS2 (fun hS => ?_)
    clear hK K
    refine wpAnyH_ready (rs := [4]) (by kernel_rfl) (by simp) (AllReadyH.cons rfl (fun K hK => ?_) AllReadyH.nil)
    go_simp
    refine hK.out _ _ hS2 (fun hS => ?_)
    clear hK K
    refine wpAnyH_ready (rs := [16]) (by kernel_rfl) (by simp) (AllReadyH.cons rfl (fun K hK => ?_) AllReadyH.nil)
    refine step_append_has _ rfl (.tmp 11) (.tmp 22) 28 rfl (fun k => (U k ∧ ¬ S k) ∨ W.heap.size ≤ k) 61 i0 _ 9 72 Tryz.underlying28 hi hz0 hz1 hz2 rfl (.slice a cls.length cap) cls.length (clc cls) (by simp [Act.eval]) (law _ hB2) ⟨W.heap.size + 1, 0, none⟩ 1 1 [.int .i64 th, .int .i64 op, .int .i64 arg, .int .i64 data, .int .i64 now, .int .i64 (-1), .int .i64 (-1), .int .i64 0, .int .i64 0] (by simp [Act.eval]) rfl news (by simp [Value.oneCell']) (by omega) (by unfold maxLen; omega) (by omega) (.inr (by simp; omega)) ?_
    intro g cap' w1 hown hgrow hat
    have hb1 : w1.heap[bb]? = some (.cells #[.pointer (some ⟨bm, 0, none⟩), .slice a cls.length cap, vs] 93 (0, 0)) := (hgrow.block bb (by simp; omega) (fun e => nbb e.symm)).trans ((hB2.block bb hlt).trans h.bk)
    have kS : ∀ j, w1.cell? ⟨W.heap.size, j, none⟩ = (W.alloc (mvO th op arg data)).drew.cell? ⟨W.heap.size, j, none⟩ := fun j => (World.cell?_of_block (hgrow.block W.heap.size (by simp; omega) (fun e => nB e.symm))).trans (World.cell?_alloc_past _ _ _ (by simp))
    have hS1 : w1.cell? ⟨W.heap.size, 0, none⟩ = some (.int .i64 th) ∧ w1.cell? ⟨W.heap.size, 1, none⟩ = some (.int .i64 op) ∧ w1.cell? ⟨W.heap.size, 2, none⟩ = some (.int .i64 arg) ∧ w1.cell? ⟨W.heap.size, 3, none⟩ = some (.int .i64 data) := ⟨(kS 0).trans y0, (kS 1).trans y1, (kS 2).trans y2, (kS 3).trans y3⟩
    have kc : w1.cell? ⟨bb, 1, none⟩ = some (.slice a cls.length cap) := by simp [World.cell?, hb1]
    have kf : w1.frozen? ⟨bb, 1, none⟩ = false := by simp [World.frozen?, hb1]
    refine hK.out _ _ hS1 (fun hS => ?_)
    clear hK K
    refine wpAnyH_take (i := 17) (v := .pointer (some ⟨bb, 0, none⟩)) rfl (by kernel_rfl) (by kernel_rfl) (by kernel_rfl) (fun _ _ _ h => h) (Or.inl ⟨by rfl, fun w' hw => ?y17⟩) hS ?_
    case y17 =>
      obtain ⟨s1, s2, s3, s4⟩ := hw
      clear hS
      go_simp
    refine wpAnyH_take (i := 18) (v := .pointer (some ⟨bb, 1, none⟩)) rfl (by kernel_rfl) (by kernel_rfl) (by kernel_rfl) (fun _ _ _ h => h) (Or.inl ⟨by rfl, fun w' hw => ?y18⟩) hS ?_
    case y18 =>
      obtain ⟨s1, s2, s3, s4⟩ := hw
      clear hS
      go_simp
    refine wpAnyH_ready (rs := [19]) (by kernel_rfl) (by simp) (AllReadyH.cons rfl (fun K hK => ?_) AllReadyH.nil)
    go_simp
    refine hK.out _ _ ⟨(World.cell?_setCell_far w1 ⟨bb, 1, none⟩ ⟨W.heap.size, 0, none⟩ _ hne.symm).trans hS1.1, (World.cell?_setCell_far w1 ⟨bb, 1, none⟩ ⟨W.heap.size, 1, none⟩ _ hne.symm).trans hS1.2.1, (World.cell?_setCell_far w1 ⟨bb, 1, none⟩ ⟨W.heap.size, 2, none⟩ _ hne.symm).trans hS1.2.2.1, (World.cell?_setCell_far w1 ⟨bb, 1, none⟩ ⟨W.heap.size, 3, none⟩ _ hne.symm).trans hS1.2.2.2⟩ (fun _ => wpAnyH_done (by kernel_rfl) ?_ _)
    clear hK K
    have kl : (w1.setCell ⟨bb, 1, none⟩ (.slice (some ⟨g, 0, none⟩) (cls.length + 1) cap')).cell? ⟨bb, 1, none⟩ = some (.slice (some ⟨g, 0, none⟩) (cls.length + 1) cap') := World.cell?_setCell_same _ _ _ kc
    obtain ⟨hm, hf⟩ := h.begun (cl := ⟨th, op, arg, data, now, -1, -1, 0, 0⟩) hB2 rfl hown hgrow
    have hgk : ∀ k, (Value.slice (some ⟨g, 0, none⟩) (cls.length + 1) cap').ownBlock = some k → (Value.slice a cls.length cap).ownBlock = some k ∨ W.heap.size ≤ k := fun k hk => by
      simp only [Value.ownBlock, Option.some.injEq] at hk
      subst hk
      rcases hat with e | e
      · exact .inl e
      · exact .inr (by rw [e]; simp; omega)
    replace hm := Mr.hid hm
    replace hf := Mr.hid hf
    replace h := Mr.hid h
    have hl1 : (cls.length : Int) ≤ 100000 := by omega
    clear law b1 b2 hown hgrow hat kc kf hb1 kS hS1 hS news
    go_wp2
    go_ret
    refine ⟨by simp, _, ?_, hf.out, hgk⟩
    simpa using hm.out
end
end Go.Proofs.YtnapnhmmopajfaaGreat.Ma
