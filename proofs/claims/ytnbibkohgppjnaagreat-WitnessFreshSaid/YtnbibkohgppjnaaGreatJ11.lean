import Derived.Test.YtnbibkohgppjnaaGreatJ10
import Derived.Deep.RegionWith
import Derived.Test.YtnbibkohgppjnaaGreatJ09
set_option linter.unusedVariables false
set_option linter.unusedSimpArgs false
set_option maxRecDepth 100000
namespace Go.Proofs.YtnbibkohgppjnaaGreat.Wt
open Go.RowKit Mr Md
theorem not_may_up {cs : List Cq} {i : Nat} {c : Cq} (hc : cs[i]? = some c) (h : ¬ Fit c) : ¬ MayC cs := fun hm => h (hm.1.fit (List.getElem?_eq_some_iff.1 hc).1 hc)
theorem not_may_rise {cs : List Cq} {m : Nat} {c d : Cq} (hc : cs[m + 1]? = some c) (hd : cs[m]? = some d) (h : ¬ d.beg < c.beg) : ¬ MayC cs := fun hm => h ((hm.1 (m + 1) (List.getElem?_eq_some_iff.1 hc).1).2 d c (by omega) (by simpa using hd) hc)
set_option maxHeartbeats 8000000 in
theorem may_any {W : World} {T : Nat → Prop} {v : Value} {cs : List Cq} (hv : Sl W T 9 v cs.length (cqs cs)) (hsm : cs.length * 72 ≤ 281474976710656) :
  Calls Tryz.prog 22 #[v] W fun e w' => e = .returned (.bool (mayB cs)) ∧ Below W.heap.size W w' := by
 obtain ⟨b, hb⟩ : ∃ b, b = mayB cs := ⟨_, rfl⟩
 rw [← hb]
 have AP := fun w' (hB : Below W.heap.size W w') (b : Bool) (hb : b = true ↔ (mvl cs).Nodup) => apart_any (hv.below hB) hsm b hb
 have IT := fun w' (hB : Below W.heap.size W w') hU (b : Bool) (hb : b = true ↔ Turn AhP cs cs.length) => inTurn_any (hv.below hB) hsm hU b hb
 obtain ⟨a, cap, rfl, hcap⟩ := hv.form
 obtain ⟨n, hn⟩ : ∃ n, n = cs.length := ⟨_, rfl⟩
 rw [← hn] at hsm hcap AP ⊢
 replace IT : Hid (∀ w', Below W.heap.size W w' → Up cs cs.length → ∀ b : Bool, (b = true ↔ Turn AhP cs cs.length) → Calls Tryz.prog 42 #[.slice a n cap] w' fun e w'' => e = .returned (.bool b) ∧ Below w'.heap.size w' w'') := by rw [hn]; exact IT
 replace hv := Mr.hid hv
 replace hb := Mr.hid hb
 replace hn := Mr.hid hn
 replace AP := Mr.hid AP
 go_enter Tryz.func22, Tryz.ntmps22
 go_wp2
 go_loopg [7] n (fun k s7 wr => ∃ i : Nat, s7 = .int .i64 (i : Int) ∧ i + k = n ∧ Below W.heap.size W wr ∧ Up cs i)
 case atStart => exact ⟨0, rfl, by omega, Below.refl _ _, Up.zero _⟩
 case round =>
  obtain ⟨i, rfl, hi, hB, hU⟩ := hrel
  by_cases hlt : i < n
  ·clear AP IT
   obtain ⟨c, hci⟩ := get_of_lt (cs := cs) (i := i) (by have := hn.out; omega)
   obtain ⟨bc, oc, rfl, A9⟩ := call_at (hv.out.below hB) hci
   have hBA := fun o => hB.alloc hB.size o
   have hbx : ∀ w1, w1 = wr.alloc (cqO c) → w1.heap[wr.heap.size]? = some (cqO c) := by rintro w1 rfl; exact new_at _ _ _ rfl
   obtain ⟨hbl, g0, g1, g2, g3, g4, g5, g6, g7, g8⟩ := A9
   have hlI : (i : Int) < (n : Int) := by omega
   replace hBA := Mr.hid hBA
   replace hbx := Mr.hid hbx
   replace hU := Mr.hid hU
   replace hci := Mr.hid hci
   clear hB
   go_upto_region 4 with (fail)
   have hB5 := hBA.out (cqO c)
   have hX := hbx.out _ rfl
   unfold cqO at hB5 hX
   clear hBA hbx g0 g1 g2 g3 g4 g5 g6 g7 g8 hbl
   generalize (wr.alloc (Obj.cells #[.int .i64 c.th, .int .i64 c.op, .int .i64 c.arg, .int .i64 c.data, .int .i64 c.beg, .int .i64 c.fin, .int .i64 c.pt, .int .i64 c.ak, .int .i64 c.av] 45 (0, 0))) = w5 at *
   generalize wr.heap.size = bx at *
   clear wr
   obtain ⟨k0, k1, k2, k3, k4, k5, k6, k7, k8, kl⟩ := cq_cells (c := c) hX
   have MA := fun w => mayAlone_any c w
   unfold Cq.val at MA
   have hw : IntKind.i64.wrap ((i : Int) + 1) = (i : Int) + 1 := i64x _ (by omega) (by omega)
   clear hX
   by_cases hf : Fit c
   ·rw [decide_eq_true hf] at MA
    replace MA := Mr.hid MA
    by_cases h0 : i = 0
    ·have hok := hU.out.succ hci.out hf (fun d h => by omega)
     subst h0
     have hz : decide ((0 : Int) < ((0 : Nat) : Int)) = false := by decide
     replace hok := Mr.hid hok
     replace hf := Mr.hid hf
     replace hB5 := Mr.hid hB5
     have KK : Hid (∀ w', Below w5.heap.size w5 w' → w'.cell? ⟨bx, 0, none⟩ = some (.int .i64 c.th) ∧ w'.cell? ⟨bx, 1, none⟩ = some (.int .i64 c.op) ∧ w'.cell? ⟨bx, 2, none⟩ = some (.int .i64 c.arg) ∧ w'.cell? ⟨bx, 3, none⟩ = some (.int .i64 c.data) ∧ w'.cell? ⟨bx, 4, none⟩ = some (.int .i64 c.beg) ∧ w'.cell? ⟨bx, 5, none⟩ = some (.int .i64 c.fin) ∧ w'.cell? ⟨bx, 6, none⟩ = some (.int .i64 c.pt) ∧ w'.cell? ⟨bx, 7, none⟩ = some (.int .i64 c.ak) ∧ w'.cell? ⟨bx, 8, none⟩ = some (.int .i64 c.av)) := fun w' hB => ⟨(hB.cell (p := ⟨bx, _, none⟩) kl).trans k0, (hB.cell (p := ⟨bx, _, none⟩) kl).trans k1, (hB.cell (p := ⟨bx, _, none⟩) kl).trans k2, (hB.cell (p := ⟨bx, _, none⟩) kl).trans k3, (hB.cell (p := ⟨bx, _, none⟩) kl).trans k4, (hB.cell (p := ⟨bx, _, none⟩) kl).trans k5, (hB.cell (p := ⟨bx, _, none⟩) kl).trans k6, (hB.cell (p := ⟨bx, _, none⟩) kl).trans k7, (hB.cell (p := ⟨bx, _, none⟩) kl).trans k8⟩
     refine wp_region_held_drew (S := (fun w' => w'.cell? ⟨bx, 0, none⟩ = some (.int .i64 c.th) ∧ w'.cell? ⟨bx, 1, none⟩ = some (.int .i64 c.op) ∧ w'.cell? ⟨bx, 2, none⟩ = some (.int .i64 c.arg) ∧ w'.cell? ⟨bx, 3, none⟩ = some (.int .i64 c.data) ∧ w'.cell? ⟨bx, 4, none⟩ = some (.int .i64 c.beg) ∧ w'.cell? ⟨bx, 5, none⟩ = some (.int .i64 c.fin) ∧ w'.cell? ⟨bx, 6, none⟩ = some (.int .i64 c.pt) ∧ w'.cell? ⟨bx, 7, none⟩ = some (.int .i64 c.ak) ∧ w'.cell? ⟨bx, 8, none⟩ = some (.int .i64 c.av))) (by kernel_rfl) (KK.out _ ((Below.refl _ _).drew)) (fun hS => ?_)
     try simp only [Act.put, LA, LB, LC, LD, LE, LF]
     refine wpAnyH_take (i := 0) (v := Value.agg #[.int .i64 c.th, .int .i64 c.op, .int .i64 c.arg, .int .i64 c.data, .int .i64 c.beg, .int .i64 c.fin, .int .i64 c.pt, .int .i64 c.ak, .int .i64 c.av]) rfl (by kernel_rfl) (by kernel_rfl) (by kernel_rfl) (fun _ _ _ h => h) (Or.inl ⟨by kernel_rfl, fun w' hw => ?y0⟩) hS ?_
     case y0 =>
      clear hS
      obtain ⟨hw0, hw1, hw2, hw3, hw4, hw5, hw6, hw7, hw8⟩ := hw
      go_simp
     try simp only [Act.put, LA, LB, LC, LD, LE, LF]
     refine wpAnyH_ready (rs := [1]) (by kernel_rfl) (by simp) ?_
     refine AllReadyH.cons rfl (fun K hK => ?_) AllReadyH.nil
     try simp only [Act.put, LA, LB, LC, LD, LE, LF]
     go_simp
     (go_at_call 40; refine (MA.out _).mono ?_; rintro e w6 ⟨rfl, hB6⟩; replace hB6 : Below w5.heap.size w5 w6 := ⟨hB6.os, hB6.tape, hB6.output, hB6.size, hB6.block⟩)
     try (go_wp2_with fail)
     refine hK.out _ _ (KK.out _ hB6) (fun hS => ?_)
     clear hK K
     try simp only [Act.put, LA, LB, LC, LD, LE, LF]
     refine wpAnyH_take (i := 2) (v := .bool false) rfl (by kernel_rfl) (by kernel_rfl) (by kernel_rfl) (fun _ _ _ h => h) (Or.inl ⟨by kernel_rfl, fun w' hw => ?y2⟩) hS ?_
     case y2 =>
      clear hS
      have hw2 := hw
      go_simp
     try simp only [Act.put, LA, LB, LC, LD, LE, LF]
     refine wpAnyH_take (i := 3) (v := .bool false) rfl (by kernel_rfl) (by kernel_rfl) (by kernel_rfl) (fun _ _ _ h => h) (Or.inl ⟨by kernel_rfl, fun w' hw => ?y3⟩) hS ?_
     case y3 =>
      clear hS
      have hw2 := hw
      go_simp
     try simp only [Act.put, LA, LB, LC, LD, LE, LF]
     refine wpAnyH_take (i := 4) (v := .int .i64 ((0 : Nat) : Int)) rfl (by kernel_rfl) (by kernel_rfl) (by kernel_rfl) (fun _ _ _ h => h) (Or.inl ⟨by kernel_rfl, fun w' hw => ?y4⟩) hS ?_
     case y4 =>
      clear hS
      have hw2 := hw
      go_simp
     try simp only [Act.put, LA, LB, LC, LD, LE, LF]
     refine wpAnyH_take (i := 5) (v := .bool false) rfl (by kernel_rfl) (by kernel_rfl) (by kernel_rfl) (fun _ _ _ h => h) (Or.inl ⟨by kernel_rfl, fun w' hw => ?y5⟩) hS ?_
     case y5 =>
      clear hS
      have hw2 := hw
      go_simp
     try simp only [Act.put, LA, LB, LC, LD, LE, LF]
     refine wpAnyH_take (i := 6) (v := .bool false) rfl (by kernel_rfl) (by kernel_rfl) (by kernel_rfl) (fun _ _ _ h => h) (Or.inl ⟨by kernel_rfl, fun w' hw => ?y6⟩) hS ?_
     case y6 =>
      clear hS
      have hw2 := hw
      go_simp
     try simp only [Act.put, LA, LB, LC, LD, LE, LF]
     refine wpAnyH_take (i := 7) (v := undef) rfl (by kernel_rfl) (by kernel_rfl) (by kernel_rfl) (fun _ _ _ h => h) (Or.inr ⟨by kernel_rfl, rfl⟩) hS ?_
     try simp only [Act.put, LA, LB, LC, LD, LE, LF]
     refine wpAnyH_take (i := 8) (v := undef) rfl (by kernel_rfl) (by kernel_rfl) (by kernel_rfl) (fun _ _ _ h => h) (Or.inr ⟨by kernel_rfl, rfl⟩) hS ?_
     try simp only [Act.put, LA, LB, LC, LD, LE, LF]
     refine wpAnyH_take (i := 9) (v := undef) rfl (by kernel_rfl) (by kernel_rfl) (by kernel_rfl) (fun _ _ _ h => h) (Or.inr ⟨by kernel_rfl, rfl⟩) hS ?_
     try simp only [Act.put, LA, LB, LC, LD, LE, LF]
     refine wpAnyH_take (i := 10) (v := undef) rfl (by kernel_rfl) (by kernel_rfl) (by kernel_rfl) (fun _ _ _ h => h) (Or.inr ⟨by kernel_rfl, rfl⟩) hS ?_
     try simp only [Act.put, LA, LB, LC, LD, LE, LF]
     refine wpAnyH_take (i := 11) (v := undef) rfl (by kernel_rfl) (by kernel_rfl) (by kernel_rfl) (fun _ _ _ h => h) (Or.inr ⟨by kernel_rfl, rfl⟩) hS ?_
     try simp only [Act.put, LA, LB, LC, LD, LE, LF]
     refine wpAnyH_take (i := 12) (v := undef) rfl (by kernel_rfl) (by kernel_rfl) (by kernel_rfl) (fun _ _ _ h => h) (Or.inr ⟨by kernel_rfl, rfl⟩) hS ?_
     try simp only [Act.put, LA, LB, LC, LD, LE, LF]
     refine wpAnyH_take (i := 13) (v := undef) rfl (by kernel_rfl) (by kernel_rfl) (by kernel_rfl) (fun _ _ _ h => h) (Or.inr ⟨by kernel_rfl, rfl⟩) hS ?_
     try simp only [Act.put, LA, LB, LC, LD, LE, LF]
     refine wpAnyH_take (i := 14) (v := undef) rfl (by kernel_rfl) (by kernel_rfl) (by kernel_rfl) (fun _ _ _ h => h) (Or.inr ⟨by kernel_rfl, rfl⟩) hS ?_
     try simp only [Act.put, LA, LB, LC, LD, LE, LF]
     refine wpAnyH_take (i := 15) (v := undef) rfl (by kernel_rfl) (by kernel_rfl) (by kernel_rfl) (fun _ _ _ h => h) (Or.inr ⟨by kernel_rfl, rfl⟩) hS ?_
     try simp only [Act.put, LA, LB, LC, LD, LE, LF]
     refine wpAnyH_take (i := 16) (v := .bool false) rfl (by kernel_rfl) (by kernel_rfl) (by kernel_rfl) (fun _ _ _ h => h) (Or.inl ⟨by kernel_rfl, fun w' hw => ?y16⟩) hS ?_
     case y16 =>
      clear hS
      have hw2 := hw
      go_simp
     try simp only [Act.put, LA, LB, LC, LD, LE, LF]
     refine wpAnyH_take (i := 17) (v := .bool false) rfl (by kernel_rfl) (by kernel_rfl) (by kernel_rfl) (fun _ _ _ h => h) (Or.inl ⟨by kernel_rfl, fun w' hw => ?y17⟩) hS ?_
     case y17 =>
      clear hS
      have hw2 := hw
      go_simp
     try simp only [Act.put, LA, LB, LC, LD, LE, LF]
     refine wpAnyH_done (by kernel_rfl) ?_ _
     all_goals
      have hB7 := Mr.hid (hB5.out.trans (hB6.mono hB5.out.size))
      clear KK MA k0 k1 k2 k3 k4 k5 k6 k7 k8
      go_wp2
      go_roundg (gk - 1)
      case measure => omega
      case rel => exact ⟨0 + 1, by simp, by omega, hB7.out, hok.out⟩
    ·obtain ⟨m, rfl⟩ : ∃ m, i = m + 1 := ⟨i - 1, by omega⟩
     obtain ⟨d, hdm⟩ := get_of_lt (cs := cs) (i := m) (by have := hn.out; omega)
     obtain ⟨bc', oc', hbo, A9⟩ := call_at (hv.out.below hB5) hdm
     cases hbo
     obtain ⟨hbl, -, -, -, -, d4, -, -, -, -⟩ := A9
     have hmw2 : IntKind.i64.wrap (m : Int) = (m : Int) := i64x _ (by omega) (by omega)
     have hmw3 : IntKind.i64.wrap ((m : Int) + 1 - 1) = (m : Int) := by rw [show (m : Int) + 1 - 1 = (m : Int) from by omega]; exact i64x _ (by omega) (by omega)
     have hm3 : (0 : Int) < (m : Int) + 1 := by omega
     have hm1 : (0 : Int) ≤ (m : Int) := by omega
     have hm2 : (m : Int) < (n : Int) := by omega
     have hm4 : (0 : Int) < ((m + 1 : Nat) : Int) := by omega
     replace hB5 := Mr.hid hB5
     by_cases hr : d.beg < c.beg
     ·have hok := hU.out.succ hci.out hf (fun d' h hd' => by rw [Nat.add_sub_cancel, hdm] at hd'; cases hd'; exact hr)
      have hz : decide (c.beg ≤ d.beg) = false := decide_eq_false (by omega)
      replace hok := Mr.hid hok
      replace hf := Mr.hid hf
      replace hr := Mr.hid hr
      replace hdm := Mr.hid hdm
      have KK : Hid (∀ w', Below w5.heap.size w5 w' → w'.cell? ⟨bx, 0, none⟩ = some (.int .i64 c.th) ∧ w'.cell? ⟨bx, 1, none⟩ = some (.int .i64 c.op) ∧ w'.cell? ⟨bx, 2, none⟩ = some (.int .i64 c.arg) ∧ w'.cell? ⟨bx, 3, none⟩ = some (.int .i64 c.data) ∧ w'.cell? ⟨bx, 4, none⟩ = some (.int .i64 c.beg) ∧ w'.cell? ⟨bx, 5, none⟩ = some (.int .i64 c.fin) ∧ w'.cell? ⟨bx, 6, none⟩ = some (.int .i64 c.pt) ∧ w'.cell? ⟨bx, 7, none⟩ = some (.int .i64 c.ak) ∧ w'.cell? ⟨bx, 8, none⟩ = some (.int .i64 c.av) ∧ w'.cell? ⟨bc, oc + m * 9 + 4, none⟩ = some (.int .i64 d.beg)) := fun w' hB => ⟨(hB.cell (p := ⟨bx, _, none⟩) kl).trans k0, (hB.cell (p := ⟨bx, _, none⟩) kl).trans k1, (hB.cell (p := ⟨bx, _, none⟩) kl).trans k2, (hB.cell (p := ⟨bx, _, none⟩) kl).trans k3, (hB.cell (p := ⟨bx, _, none⟩) kl).trans k4, (hB.cell (p := ⟨bx, _, none⟩) kl).trans k5, (hB.cell (p := ⟨bx, _, none⟩) kl).trans k6, (hB.cell (p := ⟨bx, _, none⟩) kl).trans k7, (hB.cell (p := ⟨bx, _, none⟩) kl).trans k8, (hB.cell (p := ⟨bc, _, none⟩) hbl).trans d4⟩
      go_region_held3 (fun w' => w'.cell? ⟨bx, 0, none⟩ = some (.int .i64 c.th) ∧ w'.cell? ⟨bx, 1, none⟩ = some (.int .i64 c.op) ∧ w'.cell? ⟨bx, 2, none⟩ = some (.int .i64 c.arg) ∧ w'.cell? ⟨bx, 3, none⟩ = some (.int .i64 c.data) ∧ w'.cell? ⟨bx, 4, none⟩ = some (.int .i64 c.beg) ∧ w'.cell? ⟨bx, 5, none⟩ = some (.int .i64 c.fin) ∧ w'.cell? ⟨bx, 6, none⟩ = some (.int .i64 c.pt) ∧ w'.cell? ⟨bx, 7, none⟩ = some (.int .i64 c.ak) ∧ w'.cell? ⟨bx, 8, none⟩ = some (.int .i64 c.av) ∧ w'.cell? ⟨bc, oc + m * 9 + 4, none⟩ = some (.int .i64 d.beg)) (first | exact KK.out _ (by assumption) | go_keep) (first | (go_at_call 40; refine (MA.out _).mono ?_; rintro e w6 ⟨rfl, hB6⟩; replace hB6 : Below w5.heap.size w5 w6 := ⟨hB6.os, hB6.tape, hB6.output, hB6.size, hB6.block⟩))
      all_goals
       have hB7 := Mr.hid (hB5.out.trans (hB6.mono hB5.out.size))
       clear KK MA k0 k1 k2 k3 k4 k5 k6 k7 k8
       go_wp2
       go_roundg (gk - 1)
       case measure => omega
       case rel => exact ⟨m + 1 + 1, by simp, by omega, hB7.out, hok.out⟩
     ·have hbf : b = false := by rw [hb.out]; exact mayB_false (not_may_rise hci.out hdm hr)
      have hz : decide (c.beg ≤ d.beg) = true := decide_eq_true (by omega)
      subst hbf
      replace hf := Mr.hid hf
      replace hr := Mr.hid hr
      replace hdm := Mr.hid hdm
      have KK : Hid (∀ w', Below w5.heap.size w5 w' → w'.cell? ⟨bx, 0, none⟩ = some (.int .i64 c.th) ∧ w'.cell? ⟨bx, 1, none⟩ = some (.int .i64 c.op) ∧ w'.cell? ⟨bx, 2, none⟩ = some (.int .i64 c.arg) ∧ w'.cell? ⟨bx, 3, none⟩ = some (.int .i64 c.data) ∧ w'.cell? ⟨bx, 4, none⟩ = some (.int .i64 c.beg) ∧ w'.cell? ⟨bx, 5, none⟩ = some (.int .i64 c.fin) ∧ w'.cell? ⟨bx, 6, none⟩ = some (.int .i64 c.pt) ∧ w'.cell? ⟨bx, 7, none⟩ = some (.int .i64 c.ak) ∧ w'.cell? ⟨bx, 8, none⟩ = some (.int .i64 c.av) ∧ w'.cell? ⟨bc, oc + m * 9 + 4, none⟩ = some (.int .i64 d.beg)) := fun w' hB => ⟨(hB.cell (p := ⟨bx, _, none⟩) kl).trans k0, (hB.cell (p := ⟨bx, _, none⟩) kl).trans k1, (hB.cell (p := ⟨bx, _, none⟩) kl).trans k2, (hB.cell (p := ⟨bx, _, none⟩) kl).trans k3, (hB.cell (p := ⟨bx, _, none⟩) kl).trans k4, (hB.cell (p := ⟨bx, _, none⟩) kl).trans k5, (hB.cell (p := ⟨bx, _, none⟩) kl).trans k6, (hB.cell (p := ⟨bx, _, none⟩) kl).trans k7, (hB.cell (p := ⟨bx, _, none⟩) kl).trans k8, (hB.cell (p := ⟨bc, _, none⟩) hbl).trans d4⟩
      go_region_held3 (fun w' => w'.cell? ⟨bx, 0, none⟩ = some (.int .i64 c.th) ∧ w'.cell? ⟨bx, 1, none⟩ = some (.int .i64 c.op) ∧ w'.cell? ⟨bx, 2, none⟩ = some (.int .i64 c.arg) ∧ w'.cell? ⟨bx, 3, none⟩ = some (.int .i64 c.data) ∧ w'.cell? ⟨bx, 4, none⟩ = some (.int .i64 c.beg) ∧ w'.cell? ⟨bx, 5, none⟩ = some (.int .i64 c.fin) ∧ w'.cell? ⟨bx, 6, none⟩ = some (.int .i64 c.pt) ∧ w'.cell? ⟨bx, 7, none⟩ = some (.int .i64 c.ak) ∧ w'.cell? ⟨bx, 8, none⟩ = some (.int .i64 c.av) ∧ w'.cell? ⟨bc, oc + m * 9 + 4, none⟩ = some (.int .i64 d.beg)) (first | exact KK.out _ (by assumption) | go_keep) (first | (go_at_call 40; refine (MA.out _).mono ?_; rintro e w6 ⟨rfl, hB6⟩; replace hB6 : Below w5.heap.size w5 w6 := ⟨hB6.os, hB6.tape, hB6.output, hB6.size, hB6.block⟩))
      all_goals
       have hB7 := Mr.hid (hB5.out.trans (hB6.mono hB5.out.size))
       clear KK MA k0 k1 k2 k3 k4 k5 k6 k7 k8
       go_wp2
       go_ret
       exact ⟨rfl, hB7.out⟩
   ·rw [decide_eq_false hf] at MA
    have hbf : b = false := by rw [hb.out]; exact mayB_false (not_may_up hci.out hf)
    subst hbf
    replace MA := Mr.hid MA
    replace hf := Mr.hid hf
    replace hB5 := Mr.hid hB5
    have KK : Hid (∀ w', Below w5.heap.size w5 w' → w'.cell? ⟨bx, 0, none⟩ = some (.int .i64 c.th) ∧ w'.cell? ⟨bx, 1, none⟩ = some (.int .i64 c.op) ∧ w'.cell? ⟨bx, 2, none⟩ = some (.int .i64 c.arg) ∧ w'.cell? ⟨bx, 3, none⟩ = some (.int .i64 c.data) ∧ w'.cell? ⟨bx, 4, none⟩ = some (.int .i64 c.beg) ∧ w'.cell? ⟨bx, 5, none⟩ = some (.int .i64 c.fin) ∧ w'.cell? ⟨bx, 6, none⟩ = some (.int .i64 c.pt) ∧ w'.cell? ⟨bx, 7, none⟩ = some (.int .i64 c.ak) ∧ w'.cell? ⟨bx, 8, none⟩ = some (.int .i64 c.av)) := fun w' hB => ⟨(hB.cell (p := ⟨bx, _, none⟩) kl).trans k0, (hB.cell (p := ⟨bx, _, none⟩) kl).trans k1, (hB.cell (p := ⟨bx, _, none⟩) kl).trans k2, (hB.cell (p := ⟨bx, _, none⟩) kl).trans k3, (hB.cell (p := ⟨bx, _, none⟩) kl).trans k4, (hB.cell (p := ⟨bx, _, none⟩) kl).trans k5, (hB.cell (p := ⟨bx, _, none⟩) kl).trans k6, (hB.cell (p := ⟨bx, _, none⟩) kl).trans k7, (hB.cell (p := ⟨bx, _, none⟩) kl).trans k8⟩
    refine wp_region_held_drew (S := (fun w' => w'.cell? ⟨bx, 0, none⟩ = some (.int .i64 c.th) ∧ w'.cell? ⟨bx, 1, none⟩ = some (.int .i64 c.op) ∧ w'.cell? ⟨bx, 2, none⟩ = some (.int .i64 c.arg) ∧ w'.cell? ⟨bx, 3, none⟩ = some (.int .i64 c.data) ∧ w'.cell? ⟨bx, 4, none⟩ = some (.int .i64 c.beg) ∧ w'.cell? ⟨bx, 5, none⟩ = some (.int .i64 c.fin) ∧ w'.cell? ⟨bx, 6, none⟩ = some (.int .i64 c.pt) ∧ w'.cell? ⟨bx, 7, none⟩ = some (.int .i64 c.ak) ∧ w'.cell? ⟨bx, 8, none⟩ = some (.int .i64 c.av))) (by kernel_rfl) (KK.out _ ((Below.refl _ _).drew)) (fun hS => ?_)
    try simp only [Act.put, LA, LB, LC, LD, LE, LF]
    refine wpAnyH_take (i := 0) (v := Value.agg #[.int .i64 c.th, .int .i64 c.op, .int .i64 c.arg, .int .i64 c.data, .int .i64 c.beg, .int .i64 c.fin, .int .i64 c.pt, .int .i64 c.ak, .int .i64 c.av]) rfl (by kernel_rfl) (by kernel_rfl) (by kernel_rfl) (fun _ _ _ h => h) (Or.inl ⟨by kernel_rfl, fun w' hw => ?y0⟩) hS ?_
    case y0 =>
     clear hS
     obtain ⟨hw0, hw1, hw2, hw3, hw4, hw5, hw6, hw7, hw8⟩ := hw
     go_simp
    try simp only [Act.put, LA, LB, LC, LD, LE, LF]
    refine wpAnyH_ready (rs := [1]) (by kernel_rfl) (by simp) ?_
    refine AllReadyH.cons rfl (fun K hK => ?_) AllReadyH.nil
    try simp only [Act.put, LA, LB, LC, LD, LE, LF]
    go_simp
    (go_at_call 40; refine (MA.out _).mono ?_; rintro e w6 ⟨rfl, hB6⟩; replace hB6 : Below w5.heap.size w5 w6 := ⟨hB6.os, hB6.tape, hB6.output, hB6.size, hB6.block⟩)
    try (go_wp2_with fail)
    refine hK.out _ _ (KK.out _ hB6) (fun hS => ?_)
    clear hK K
    try simp only [Act.put, LA, LB, LC, LD, LE, LF]
    refine wpAnyH_take (i := 2) (v := .bool true) rfl (by kernel_rfl) (by kernel_rfl) (by kernel_rfl) (fun _ _ _ h => h) (Or.inl ⟨by kernel_rfl, fun w' hw => ?y2⟩) hS ?_
    case y2 =>
     clear hS
     have hw2 := hw
     go_simp
    try simp only [Act.put, LA, LB, LC, LD, LE, LF]
    refine wpAnyH_take (i := 3) (v := .bool true) rfl (by kernel_rfl) (by kernel_rfl) (by kernel_rfl) (fun _ _ _ h => h) (Or.inl ⟨by kernel_rfl, fun w' hw => ?y3⟩) hS ?_
    case y3 =>
     clear hS
     have hw2 := hw
     go_simp
    try simp only [Act.put, LA, LB, LC, LD, LE, LF]
    refine wpAnyH_take (i := 4) (v := undef) rfl (by kernel_rfl) (by kernel_rfl) (by kernel_rfl) (fun _ _ _ h => h) (Or.inr ⟨by kernel_rfl, rfl⟩) hS ?_
    try simp only [Act.put, LA, LB, LC, LD, LE, LF]
    refine wpAnyH_take (i := 5) (v := undef) rfl (by kernel_rfl) (by kernel_rfl) (by kernel_rfl) (fun _ _ _ h => h) (Or.inr ⟨by kernel_rfl, rfl⟩) hS ?_
    try simp only [Act.put, LA, LB, LC, LD, LE, LF]
    refine wpAnyH_take (i := 6) (v := undef) rfl (by kernel_rfl) (by kernel_rfl) (by kernel_rfl) (fun _ _ _ h => h) (Or.inr ⟨by kernel_rfl, rfl⟩) hS ?_
    try simp only [Act.put, LA, LB, LC, LD, LE, LF]
    refine wpAnyH_take (i := 7) (v := undef) rfl (by kernel_rfl) (by kernel_rfl) (by kernel_rfl) (fun _ _ _ h => h) (Or.inr ⟨by kernel_rfl, rfl⟩) hS ?_
    try simp only [Act.put, LA, LB, LC, LD, LE, LF]
    refine wpAnyH_take (i := 8) (v := undef) rfl (by kernel_rfl) (by kernel_rfl) (by kernel_rfl) (fun _ _ _ h => h) (Or.inr ⟨by kernel_rfl, rfl⟩) hS ?_
    try simp only [Act.put, LA, LB, LC, LD, LE, LF]
    refine wpAnyH_take (i := 9) (v := undef) rfl (by kernel_rfl) (by kernel_rfl) (by kernel_rfl) (fun _ _ _ h => h) (Or.inr ⟨by kernel_rfl, rfl⟩) hS ?_
    try simp only [Act.put, LA, LB, LC, LD, LE, LF]
    refine wpAnyH_take (i := 10) (v := undef) rfl (by kernel_rfl) (by kernel_rfl) (by kernel_rfl) (fun _ _ _ h => h) (Or.inr ⟨by kernel_rfl, rfl⟩) hS ?_
    try simp only [Act.put, LA, LB, LC, LD, LE, LF]
    refine wpAnyH_take (i := 11) (v := undef) rfl (by kernel_rfl) (by kernel_rfl) (by kernel_rfl) (fun _ _ _ h => h) (Or.inr ⟨by kernel_rfl, rfl⟩) hS ?_
    try simp only [Act.put, LA, LB, LC, LD, LE, LF]
    refine wpAnyH_take (i := 12) (v := undef) rfl (by kernel_rfl) (by kernel_rfl) (by kernel_rfl) (fun _ _ _ h => h) (Or.inr ⟨by kernel_rfl, rfl⟩) hS ?_
    try simp only [Act.put, LA, LB, LC, LD, LE, LF]
    refine wpAnyH_take (i := 13) (v := undef) rfl (by kernel_rfl) (by kernel_rfl) (by kernel_rfl) (fun _ _ _ h => h) (Or.inr ⟨by kernel_rfl, rfl⟩) hS ?_
    try simp only [Act.put, LA, LB, LC, LD, LE, LF]
    refine wpAnyH_take (i := 14) (v := undef) rfl (by kernel_rfl) (by kernel_rfl) (by kernel_rfl) (fun _ _ _ h => h) (Or.inr ⟨by kernel_rfl, rfl⟩) hS ?_
    try simp only [Act.put, LA, LB, LC, LD, LE, LF]
    refine wpAnyH_take (i := 15) (v := undef) rfl (by kernel_rfl) (by kernel_rfl) (by kernel_rfl) (fun _ _ _ h => h) (Or.inr ⟨by kernel_rfl, rfl⟩) hS ?_
    try simp only [Act.put, LA, LB, LC, LD, LE, LF]
    refine wpAnyH_take (i := 16) (v := undef) rfl (by kernel_rfl) (by kernel_rfl) (by kernel_rfl) (fun _ _ _ h => h) (Or.inr ⟨by kernel_rfl, rfl⟩) hS ?_
    try simp only [Act.put, LA, LB, LC, LD, LE, LF]
    refine wpAnyH_take (i := 17) (v := .bool true) rfl (by kernel_rfl) (by kernel_rfl) (by kernel_rfl) (fun _ _ _ h => h) (Or.inl ⟨by kernel_rfl, fun w' hw => ?y17⟩) hS ?_
    case y17 =>
     clear hS
     have hw2 := hw
     go_simp
    try simp only [Act.put, LA, LB, LC, LD, LE, LF]
    refine wpAnyH_done (by kernel_rfl) ?_ _
    all_goals
     have hB7 := Mr.hid (hB5.out.trans (hB6.mono hB5.out.size))
     clear KK MA k0 k1 k2 k3 k4 k5 k6 k7 k8
     go_wp2
     go_ret
     exact ⟨rfl, hB7.out⟩
  ·have hin : i = cs.length := by have := hn.out; omega
   rw [hin] at hU
   have dl : decide ((i : Int) < (n : Int)) = false := decide_eq_false (by omega)
   replace hB := Mr.hid hB
   by_cases hA : (mvl cs).Nodup
   ·have A1 := fun w' hB => AP.out w' hB true (by simp [hA])
    by_cases hT : Turn AhP cs cs.length
    ·have hbt : b = true := by rw [hb.out]; exact mayB_true ⟨hU, (apart_mvl hU).1 hA, hT⟩
     have I1 := fun w' hB => IT.out w' hB hU true (by simp [hT])
     subst hbt
     clear AP IT
     replace A1 := Mr.hid A1
     replace I1 := Mr.hid I1
     replace hA := Mr.hid hA
     replace hT := Mr.hid hT
     replace hU := Mr.hid hU
     go_wp2_with (first
      | (go_at_call 41; refine (A1.out _ hB.out).mono ?_; clear A1; rintro e w2 ⟨rfl, hB2⟩; replace hB2 := Mr.hid (hB.out.trans (hB2.mono hB.out.size)))
      | (go_at_call 42; refine (I1.out _ hB2.out).mono ?_; clear I1; rintro e w3 ⟨rfl, hB3⟩; replace hB3 := Mr.hid (hB2.out.trans (hB3.mono hB2.out.size))))
     go_ret
     exact ⟨rfl, hB3.out⟩
    ·have hbt : b = false := by rw [hb.out]; exact mayB_false (fun h => hT h.2.2)
     have I1 := fun w' hB => IT.out w' hB hU false (by simp [hT])
     subst hbt
     clear AP IT
     replace A1 := Mr.hid A1
     replace I1 := Mr.hid I1
     replace hA := Mr.hid hA
     replace hT := Mr.hid hT
     replace hU := Mr.hid hU
     go_wp2_with (first
      | (go_at_call 41; refine (A1.out _ hB.out).mono ?_; clear A1; rintro e w2 ⟨rfl, hB2⟩; replace hB2 := Mr.hid (hB.out.trans (hB2.mono hB.out.size)))
      | (go_at_call 42; refine (I1.out _ hB2.out).mono ?_; clear I1; rintro e w3 ⟨rfl, hB3⟩; replace hB3 := Mr.hid (hB2.out.trans (hB3.mono hB2.out.size))))
     go_ret
     exact ⟨rfl, hB3.out⟩
   ·have A1 := fun w' hB => AP.out w' hB false (by simp [hA])
    have hbt : b = false := by rw [hb.out]; exact mayB_false (fun h => hA ((apart_mvl hU).2 h.2.1))
    subst hbt
    clear AP IT
    replace A1 := Mr.hid A1
    replace hA := Mr.hid hA
    replace hU := Mr.hid hU
    go_wp2_with (first
     | (go_at_call 41; refine (A1.out _ hB.out).mono ?_; clear A1; rintro e w2 ⟨rfl, hB2⟩; replace hB2 := Mr.hid (hB.out.trans (hB2.mono hB.out.size))))
    go_ret
    exact ⟨rfl, hB2.out⟩
end Go.Proofs.YtnbibkohgppjnaaGreat.Wt
namespace Go.Proofs.YtnbibkohgppjnaaGreat.Wt
open Md
def pix : List Cq → Nat → List Int
 | [], _ => []
 | c :: cs, i => (if obj c.op ≠ 0 ∧ c.pt ≠ -1 then [(i : Int)] else []) ++ pix cs (i + 1)
theorem pix_app (cs ds : List Cq) : ∀ i, pix (cs ++ ds) i = pix cs i ++ pix ds (i + cs.length) := by
 induction cs with
 | nil => simp [pix]
 | cons c cs ih => intro i; simp only [List.cons_append, pix, ih, List.append_assoc, List.length_cons]; congr 3; omega
theorem pix_take (cs : List Cq) (i : Nat) (c : Cq) (h : cs[i]? = some c) : pix (cs.take (i + 1)) 0 = pix (cs.take i) 0 ++ (if obj c.op ≠ 0 ∧ c.pt ≠ -1 then [(i : Int)] else []) := by
 have hl := (List.getElem?_eq_some_iff.1 h).1
 rw [List.take_add_one, h, pix_app]; simp [pix, List.length_take]
 rw [Nat.min_eq_left (by omega)]
theorem pix_len (cs : List Cq) : ∀ i, (pix cs i).length ≤ cs.length := by
 induction cs with
 | nil => simp [pix]
 | cons c cs ih => intro i; have := ih (i + 1); simp only [pix, List.length_append, List.length_cons]; split <;> simp only [List.length_nil, List.length_cons] <;> omega
theorem mem_pix (cs : List Cq) : ∀ (n : Nat) (x : Int), x ∈ pix cs n ↔ ∃ (i : Nat) (c : Cq), cs[i]? = some c ∧ x = ((n + i : Nat) : Int) ∧ obj c.op ≠ 0 ∧ c.pt ≠ -1 := by
 induction cs with
 | nil => simp [pix]
 | cons d cs ih =>
  intro n x
  simp only [pix, List.mem_append, ih]
  constructor
  ·rintro (h | ⟨i, c, hc, h, h2⟩)
   ·split at h
    ·rename_i h2
     simp at h
     exact ⟨0, d, by simp, by simpa using h, h2⟩
    ·simp at h
   ·exact ⟨i + 1, c, by simpa using hc, by rw [h]; omega, h2⟩
  ·rintro ⟨i, c, hc, h, h2⟩
   cases i with
   | zero => simp at hc; subst hc; left; rw [if_pos h2]; simpa using h
   | succ i => exact .inr ⟨i, c, by simpa using hc, by rw [h]; omega, h2⟩
def ptAt (cs : List Cq) (x : Int) : Int := (cs[x.toNat]?.map Cq.pt).getD 0
theorem ptAt_get {cs : List Cq} {i : Nat} {c : Cq} (h : cs[i]? = some c) : ptAt cs (i : Int) = c.pt := by simp [ptAt, h]
theorem pt_mem {c : Cq} (h : c.pt ≠ -1) : c.pt ∈ mvc c := by
 unfold mvc
 by_cases e : c.pt = c.fin
 ·rw [if_neg (by omega)]; simp [e]
 ·rw [if_neg (show ¬ (c.pt = -1 ∨ c.pt = c.fin) by omega)]; simp
theorem pt_inj {cs : List Cq} (hA : Apart cs) : ∀ x y, x ∈ pix cs 0 → y ∈ pix cs 0 → ptAt cs x = ptAt cs y → x = y := by
 intro x y hx hy e
 obtain ⟨i, c, hc, h1, _, h2⟩ := (mem_pix cs 0 x).1 hx
 obtain ⟨j, d, hd, h3, _, h4⟩ := (mem_pix cs 0 y).1 hy
 rw [Nat.zero_add] at h1 h3
 subst h1; subst h3
 rw [ptAt_get hc, ptAt_get hd] at e
 have := hA i j c d c.pt hc hd (pt_mem h2) (by rw [e]; exact pt_mem h4)
 rw [this]
theorem sorted_one (f : Int → Int) : ∀ {l m : List Int}, l.Perm m → l.Pairwise (fun a b => f a ≤ f b) → m.Pairwise (fun a b => f a ≤ f b) → (∀ x y, x ∈ l → y ∈ l → f x = f y → x = y) → l = m := by
 intro l
 induction l with
 | nil => intro m p _ _ _; exact (List.Perm.nil_eq p)
 | cons a l ih =>
  intro m p hl hm hi
  cases m with
  | nil => exact absurd p.length_eq (by simp)
  | cons b m =>
   have hb : b ∈ a :: l := p.mem_iff.2 (by simp)
   have ha : a ∈ b :: m := p.mem_iff.1 (by simp)
   have h1 : f a ≤ f b := by
    rcases List.mem_cons.1 hb with e | e
    ·rw [e]; exact Int.le_refl _
    ·exact (List.pairwise_cons.1 hl).1 b e
   have h2 : f b ≤ f a := by
    rcases List.mem_cons.1 ha with e | e
    ·rw [e]; exact Int.le_refl _
    ·exact (List.pairwise_cons.1 hm).1 a e
   have e := hi a b (by simp) hb (by omega)
   subst e
   rw [ih (List.Perm.cons_inv p) (List.pairwise_cons.1 hl).2 (List.pairwise_cons.1 hm).2 (fun x y hx hy => hi x y (List.mem_cons_of_mem _ hx) (List.mem_cons_of_mem _ hy))]
def cAt (cs : List Cq) (x : Int) : List Cq := if 0 ≤ x then (cs[x.toNat]?).toList else []
def calls (cs : List Cq) (o : List Int) : List Cq := o.flatMap (cAt cs)
def Some1 (cs : List Cq) (o : List Int) (n : Nat) : Prop := (∀ j x, j < n → o[j]? = some x → 0 ≤ x ∧ ∃ c, cs[x.toNat]? = some c ∧ obj c.op ≠ 0) ∧ (o.take n).Nodup
def Full1 (cs : List Cq) (o : List Int) (n : Nat) : Prop := ∀ (i : Nat) c, i < n → cs[i]? = some c → obj c.op ≠ 0 → c.fin ≠ -1 → (i : Int) ∈ o
def IsOrd (cs : List Cq) (o : List Int) : Prop := Some1 cs o o.length ∧ Full1 cs o cs.length
theorem Some1.zero (cs : List Cq) (o : List Int) : Some1 cs o 0 := ⟨fun j x h => absurd h (Nat.not_lt_zero j), by simp⟩
theorem Some1.succ {cs : List Cq} {o : List Int} {n : Nat} {x : Int} {c : Cq} (h : Some1 cs o n) (hx : o[n]? = some x) (h0 : 0 ≤ x) (hc : cs[x.toNat]? = some c) (ho : obj c.op ≠ 0) (hn : x ∉ o.take n) : Some1 cs o (n + 1) := by
 refine ⟨fun j y hj hy => ?_, ?_⟩
 ·by_cases e : j < n
  ·exact h.1 j y e hy
  ·have : j = n := by omega
   subst this; rw [hx] at hy; cases hy; exact ⟨h0, c, hc, ho⟩
 ·rw [List.take_add_one, hx]
  show (o.take n ++ [x]).Nodup
  unfold List.Nodup
  rw [List.pairwise_append]
  refine ⟨h.2, by simp, fun a ha b hb e => ?_⟩
  simp at hb; subst hb; subst e; exact hn ha
theorem Some1.not {cs : List Cq} {o : List Int} {n : Nat} {x : Int} (hn : n < o.length) (hx : o[n]? = some x) (h : ¬ (0 ≤ x ∧ (∃ c, cs[x.toNat]? = some c ∧ obj c.op ≠ 0) ∧ x ∉ o.take n)) : ¬ IsOrd cs o := by
 rintro ⟨⟨h1, h2⟩, -⟩
 obtain ⟨h3, h4⟩ := h1 n x hn hx
 refine h ⟨h3, h4, fun hm => ?_⟩
 rw [List.take_length] at h2
 obtain ⟨k, hk⟩ := List.getElem?_of_mem hm
 rw [List.getElem?_take] at hk
 split at hk
 ·rename_i hkn
  obtain ⟨a1, a2⟩ := List.getElem?_eq_some_iff.1 hk
  obtain ⟨b1, b2⟩ := List.getElem?_eq_some_iff.1 hx
  exact (List.pairwise_iff_getElem.1 h2) k n a1 b1 hkn (by rw [a2, b2])
 ·cases hk
end Go.Proofs.YtnbibkohgppjnaaGreat.Wt
namespace Go.Proofs.YtnbibkohgppjnaaGreat.Wt
open Md
end Go.Proofs.YtnbibkohgppjnaaGreat.Wt
