import Derived.Test.YtnbibkohgppjnaaGreatJ47
import Derived.Test.YtnbibkohgppjnaaGreatJ38
import Derived.Test.YtnbibkohgppjnaaGreatJ48
set_option linter.unusedVariables false
set_option linter.unusedSimpArgs false
set_option maxRecDepth 100000
namespace Go.Proofs.YtnbibkohgppjnaaGreat.Wt
open Go.RowKit Mr Md
theorem no_fit {cs : List Cq} {i : Nat} {c : Cq} (hc : cs[i]? = some c) (h : ¬ Fit c) : ¬ MayC cs := fun hm => h (hm.1.fit (List.getElem?_eq_some_iff.1 hc).1 hc)
theorem no_rise {cs : List Cq} {m : Nat} {c d : Cq} (hc : cs[m + 1]? = some c) (hd : cs[m]? = some d) (h : ¬ d.beg < c.beg) : ¬ MayC cs := fun hm => h ((hm.1 (m + 1) (List.getElem?_eq_some_iff.1 hc).1).2 d c (by omega) (by simpa using hd) hc)
theorem no_turn {cs : List Cq} {i : Nat} {c d : Cq} (hc : cs[i]? = some c) (h0 : 0 < lastT cs c.th i) (hd : cs[lastT cs c.th i - 1]? = some d) (h : ¬ AhR d c) : ¬ MayC cs := fun hm => h (((may_doc cs).1 hm).2.1 i (List.getElem?_eq_some_iff.1 hc).1 c d hc h0 hd)
set_option maxHeartbeats 16000000 in
theorem rMay_any {W : World} {T : Nat → Prop} {v : Value} {cs : List Cq} (hv : Sl W T 9 v cs.length (cqs cs)) (hsm : cs.length * 72 ≤ 281474976710656) :
  Calls Tryz.prog 17 #[v] W fun e w' => e = .returned (.bool (mayB cs)) ∧ Below W.heap.size W w' := by
 obtain ⟨b, hb⟩ : ∃ b, b = mayB cs := ⟨_, rfl⟩
 rw [← hb]
 have AP := fun w' (hB : Below W.heap.size W w') (b : Bool) (hb : b = true ↔ Apart cs) => rApart_any (hv.below hB) hsm b hb
 obtain ⟨a, cap, rfl, hcap⟩ := hv.form
 obtain ⟨n, hn⟩ : ∃ n, n = cs.length := ⟨_, rfl⟩
 rw [← hn] at hsm hcap AP ⊢
 have hT0 : ∀ w1, w1 = W.alloc (.cells #[.int .i64 0, .int .i64 0, .int .i64 0, .int .i64 0, .int .i64 0, .int .i64 0, .int .i64 0, .int .i64 0, .int .i64 0, .int .i64 0, .int .i64 0, .int .i64 0, .int .i64 0, .int .i64 0, .int .i64 0, .int .i64 0] 3 (0, 0)) → Tn W w1 W.heap.size 3 cs 0 := by
  rintro w1 rfl
  exact ⟨(Below.refl _ _).alloc (Nat.le_refl _) _, Nat.le_refl _, by rw [lastA_zero]; exact new_at _ _ _ rfl⟩
 replace hT0 := Mr.hid hT0
 replace hv := Mr.hid hv
 replace hb := Mr.hid hb
 replace hn := Mr.hid hn
 replace AP := Mr.hid AP
 have hmk := make16 W
 go_enter Tryz.func17, Tryz.ntmps17
 go_upto_region 2 with (fail)
 have hT := hT0.out _ rfl
 clear hT0 hmk
 generalize (W.alloc (.cells #[.int .i64 0, .int .i64 0, .int .i64 0, .int .i64 0, .int .i64 0, .int .i64 0, .int .i64 0, .int .i64 0, .int .i64 0, .int .i64 0, .int .i64 0, .int .i64 0, .int .i64 0, .int .i64 0, .int .i64 0, .int .i64 0] 3 (0, 0))) = w1 at *
 obtain ⟨ba, hba⟩ : ∃ ba, ba = W.heap.size := ⟨_, rfl⟩
 rw [← hba] at hT
 rw [← hba]
 clear hba
 replace hT := Mr.hid hT
 go_wp2
 go_loopg [4] n (fun k s4 wr => ∃ i : Nat, s4 = .int .i64 (i : Int) ∧ i + k = n ∧ Up cs i ∧ Turn AhR cs i ∧ Tn W wr ba 3 cs i)
 case atStart => exact ⟨0, rfl, by omega, Up.zero _, Turn.zero _ _, hT.out⟩
 case round =>
  clear hT
  obtain ⟨i, rfl, hi, hU, hR, hT⟩ := hrel
  by_cases hlt : i < n
  ·clear AP
   obtain ⟨c, hci⟩ := get_of_lt (cs := cs) (i := i) (by have := hn.out; omega)
   obtain ⟨bc, oc, rfl, A9⟩ := call_at (hv.out.below hT.bel) hci
   have RC : ∀ w, Below W.heap.size W w → At9 w bc (oc + i * 9) c := fun w hB => by
    obtain ⟨b', o', e, h⟩ := call_at (hv.out.below hB) hci
    cases e; exact h
   obtain ⟨hbl, g0, g1, g2, g3, g4, g5, g6, g7, g8⟩ := A9
   have hlI : (i : Int) < (n : Int) := by omega
   have hw : IntKind.i64.wrap ((i : Int) + 1) = (i : Int) + 1 := i64x _ (by omega) (by omega)
   have MA := fun w => rFits_any c w
   unfold Cq.val at MA
   replace hU := Mr.hid hU
   replace hci := Mr.hid hci
   replace hR := Mr.hid hR
   replace RC := Mr.hid RC
   by_cases hf : Fit c
   ·rw [decide_eq_true hf] at MA
    have t0 : 0 ≤ c.th := hf.1
    have t1 : c.th < 16 := hf.2.1
    replace MA := Mr.hid MA
    have NX : ∀ w, Tn W w ba 3 cs i → Tn W (w.setCell ⟨ba, c.th.toNat, none⟩ (.int .i64 ((i : Int) + 1))) ba 3 cs (i + 1) := fun w h => h.next hci.out t0 t1
    obtain ⟨m0, hm0⟩ : ∃ m0, m0 = lastT cs c.th i := ⟨_, rfl⟩
    have GT : ∀ w, Tn W w ba 3 cs i → w.cell? ⟨ba, c.th.toNat, none⟩ = some (.int .i64 (m0 : Int)) ∧ w.frozen? ⟨ba, c.th.toNat, none⟩ = false ∧ ba < w.heap.size := fun w h => by rw [hm0]; exact h.get t0 t1
    have hml := lastT_le cs c.th i
    rw [← hm0] at hml
    replace NX := Mr.hid NX
    replace GT := Mr.hid GT
    replace hT := Mr.hid hT
    by_cases h0 : i = 0
    ·subst h0
     have hm00 : m0 = 0 := by omega
     have hUn := Mr.hid (hU.out.succ hci.out hf (fun d h => by omega))
     have hok := Mr.hid (hR.out.succ hci.out (fun d h => by rw [← hm0, hm00] at h; omega))
     subst hm00
     replace hm0 := Mr.hid hm0
     have hz : decide ((0 : Int) < ((0 : Nat) : Int)) = false := by decide
     replace RC : Hid (∀ w, Below W.heap.size W w → At9 w bc oc c) := fun w hB => by have := RC.out w hB; rwa [Nat.zero_mul, Nat.add_zero] at this
     rw [Nat.zero_mul, Nat.add_zero] at g0 g1 g2 g3 g4 g5 g6 g7 g8
     replace hf := Mr.hid hf
     go_upto_region 5 with (fail)
     have KK : Hid (∀ w', Below wr.heap.size wr w' → w'.cell? ⟨bc, oc, none⟩ = some (.int .i64 c.th) ∧ w'.cell? ⟨bc, oc + 1, none⟩ = some (.int .i64 c.op) ∧ w'.cell? ⟨bc, oc + 2, none⟩ = some (.int .i64 c.arg) ∧ w'.cell? ⟨bc, oc + 3, none⟩ = some (.int .i64 c.data) ∧ w'.cell? ⟨bc, oc + 4, none⟩ = some (.int .i64 c.beg) ∧ w'.cell? ⟨bc, oc + 5, none⟩ = some (.int .i64 c.fin) ∧ w'.cell? ⟨bc, oc + 6, none⟩ = some (.int .i64 c.pt) ∧ w'.cell? ⟨bc, oc + 7, none⟩ = some (.int .i64 c.ak) ∧ w'.cell? ⟨bc, oc + 8, none⟩ = some (.int .i64 c.av)) := fun w' hB => ⟨(hB.cell (p := ⟨bc, _, none⟩) hbl).trans g0, (hB.cell (p := ⟨bc, _, none⟩) hbl).trans g1, (hB.cell (p := ⟨bc, _, none⟩) hbl).trans g2, (hB.cell (p := ⟨bc, _, none⟩) hbl).trans g3, (hB.cell (p := ⟨bc, _, none⟩) hbl).trans g4, (hB.cell (p := ⟨bc, _, none⟩) hbl).trans g5, (hB.cell (p := ⟨bc, _, none⟩) hbl).trans g6, (hB.cell (p := ⟨bc, _, none⟩) hbl).trans g7, (hB.cell (p := ⟨bc, _, none⟩) hbl).trans g8⟩
     refine wp_region_held_drew (S := (fun w' => w'.cell? ⟨bc, oc, none⟩ = some (.int .i64 c.th) ∧ w'.cell? ⟨bc, oc + 1, none⟩ = some (.int .i64 c.op) ∧ w'.cell? ⟨bc, oc + 2, none⟩ = some (.int .i64 c.arg) ∧ w'.cell? ⟨bc, oc + 3, none⟩ = some (.int .i64 c.data) ∧ w'.cell? ⟨bc, oc + 4, none⟩ = some (.int .i64 c.beg) ∧ w'.cell? ⟨bc, oc + 5, none⟩ = some (.int .i64 c.fin) ∧ w'.cell? ⟨bc, oc + 6, none⟩ = some (.int .i64 c.pt) ∧ w'.cell? ⟨bc, oc + 7, none⟩ = some (.int .i64 c.ak) ∧ w'.cell? ⟨bc, oc + 8, none⟩ = some (.int .i64 c.av))) (by kernel_rfl) (KK.out _ ((Below.refl _ _).drew)) (fun hS => ?_)
     try simp only [Act.put, LA, LB, LC, LD, LE, LF]
     refine wpAnyH_take (i := 0) (v := .slice (some ⟨bc, oc, none⟩) n cap) rfl (by kernel_rfl) (by kernel_rfl) (by kernel_rfl) (fun _ _ _ h => h) (Or.inl ⟨by kernel_rfl, fun w' hw => ?y0⟩) hS ?_
     case y0 =>
      clear hS
      have hw2 := hw
      go_simp
     try simp only [Act.put, LA, LB, LC, LD, LE, LF]
     refine wpAnyH_take (i := 1) (v := .int .i64 ((0 : Nat) : Int)) rfl (by kernel_rfl) (by kernel_rfl) (by kernel_rfl) (fun _ _ _ h => h) (Or.inl ⟨by kernel_rfl, fun w' hw => ?y1⟩) hS ?_
     case y1 =>
      clear hS
      have hw2 := hw
      go_simp
     try simp only [Act.put, LA, LB, LC, LD, LE, LF]
     refine wpAnyH_take (i := 2) (v := .pointer (some ⟨bc, oc, none⟩)) rfl (by kernel_rfl) (by kernel_rfl) (by kernel_rfl) (fun _ _ _ h => h) (Or.inl ⟨by kernel_rfl, fun w' hw => ?y2⟩) hS ?_
     case y2 =>
      clear hS
      have hw2 := hw
      go_simp
     try simp only [Act.put, LA, LB, LC, LD, LE, LF]
     refine wpAnyH_take (i := 3) (v := Value.agg #[.int .i64 c.th, .int .i64 c.op, .int .i64 c.arg, .int .i64 c.data, .int .i64 c.beg, .int .i64 c.fin, .int .i64 c.pt, .int .i64 c.ak, .int .i64 c.av]) rfl (by kernel_rfl) (by kernel_rfl) (by kernel_rfl) (fun _ _ _ h => h) (Or.inl ⟨by kernel_rfl, fun w' hw => ?y3⟩) hS ?_
     case y3 =>
      clear hS
      obtain ⟨hw0, hw1, hw2, hw3, hw4, hw5, hw6, hw7, hw8⟩ := hw
      go_simp
     try simp only [Act.put, LA, LB, LC, LD, LE, LF]
     refine wpAnyH_ready (rs := [4]) (by kernel_rfl) (by simp) ?_
     refine AllReadyH.cons rfl (fun K hK => ?_) AllReadyH.nil
     try simp only [Act.put, LA, LB, LC, LD, LE, LF]
     go_simp
     (go_at_call 33; refine (MA.out _).mono ?_; rintro e w6 ⟨rfl, hB6⟩; replace hB6 : Below wr.heap.size wr w6 := ⟨hB6.os, hB6.tape, hB6.output, hB6.size, hB6.block⟩)
     try (go_wp2_with fail)
     refine hK.out _ _ (KK.out _ hB6) (fun hS => ?_)
     clear hK K
     try simp only [Act.put, LA, LB, LC, LD, LE, LF]
     refine wpAnyH_take (i := 5) (v := .bool false) rfl (by kernel_rfl) (by kernel_rfl) (by kernel_rfl) (fun _ _ _ h => h) (Or.inl ⟨by kernel_rfl, fun w' hw => ?y5⟩) hS ?_
     case y5 =>
      clear hS
      have hw2 := hw
      go_simp
     try simp only [Act.put, LA, LB, LC, LD, LE, LF]
     refine wpAnyH_take (i := 6) (v := .bool false) rfl (by kernel_rfl) (by kernel_rfl) (by kernel_rfl) (fun _ _ _ h => h) (Or.inl ⟨by kernel_rfl, fun w' hw => ?y6⟩) hS ?_
     case y6 =>
      clear hS
      have hw2 := hw
      go_simp
     try simp only [Act.put, LA, LB, LC, LD, LE, LF]
     refine wpAnyH_take (i := 7) (v := .int .i64 ((0 : Nat) : Int)) rfl (by kernel_rfl) (by kernel_rfl) (by kernel_rfl) (fun _ _ _ h => h) (Or.inl ⟨by kernel_rfl, fun w' hw => ?y7⟩) hS ?_
     case y7 =>
      clear hS
      have hw2 := hw
      go_simp
     try simp only [Act.put, LA, LB, LC, LD, LE, LF]
     refine wpAnyH_take (i := 8) (v := .bool false) rfl (by kernel_rfl) (by kernel_rfl) (by kernel_rfl) (fun _ _ _ h => h) (Or.inl ⟨by kernel_rfl, fun w' hw => ?y8⟩) hS ?_
     case y8 =>
      clear hS
      have hw2 := hw
      go_simp
     try simp only [Act.put, LA, LB, LC, LD, LE, LF]
     refine wpAnyH_take (i := 9) (v := .bool false) rfl (by kernel_rfl) (by kernel_rfl) (by kernel_rfl) (fun _ _ _ h => h) (Or.inl ⟨by kernel_rfl, fun w' hw => ?y9⟩) hS ?_
     case y9 =>
      clear hS
      have hw2 := hw
      go_simp
     try simp only [Act.put, LA, LB, LC, LD, LE, LF]
     refine wpAnyH_take (i := 10) (v := undef) rfl (by kernel_rfl) (by kernel_rfl) (by kernel_rfl) (fun _ _ _ h => h) (Or.inr ⟨by kernel_rfl, rfl⟩) hS ?_
     try simp only [Act.put, LA, LB, LC, LD, LE, LF]
     refine wpAnyH_take (i := 11) (v := undef) rfl (by kernel_rfl) (by kernel_rfl) (by kernel_rfl) (fun _ _ _ h => h) (Or.inr ⟨by kernel_rfl, rfl⟩) hS ?_
     try simp only [Act.put, LA, LB, LC, LD, LE, LF]
     refine wpAnyH_take (i := 12) (v := undef) rfl (by kernel_rfl) (by kernel_rfl) (by kernel_rfl) (fun _ _ _ h => h) (Or.inr ⟨by kernel_rfl, rfl⟩) hS ?_
     try simp only [Act.put, LA, LB, LC, LD, LE, LF]
     refine wpAnyH_take (i := 13) (v := undef) rfl (by kernel_rfl) (by kernel_rfl) (by kernel_rfl) (fun _ _ _ h => h) (Or.inr ⟨by kernel_rfl, rfl⟩) hS ?_
     try simp only [Act.put, LA, LB, LC, LD, LE, LF]
     refine wpAnyH_take (i := 14) (v := undef) rfl (by kernel_rfl) (by kernel_rfl) (by kernel_rfl) (fun _ _ _ h => h) (Or.inr ⟨by kernel_rfl, rfl⟩) hS ?_
     try simp only [Act.put, LA, LB, LC, LD, LE, LF]
     refine wpAnyH_take (i := 15) (v := undef) rfl (by kernel_rfl) (by kernel_rfl) (by kernel_rfl) (fun _ _ _ h => h) (Or.inr ⟨by kernel_rfl, rfl⟩) hS ?_
     try simp only [Act.put, LA, LB, LC, LD, LE, LF]
     refine wpAnyH_take (i := 16) (v := undef) rfl (by kernel_rfl) (by kernel_rfl) (by kernel_rfl) (fun _ _ _ h => h) (Or.inr ⟨by kernel_rfl, rfl⟩) hS ?_
     try simp only [Act.put, LA, LB, LC, LD, LE, LF]
     refine wpAnyH_take (i := 17) (v := undef) rfl (by kernel_rfl) (by kernel_rfl) (by kernel_rfl) (fun _ _ _ h => h) (Or.inr ⟨by kernel_rfl, rfl⟩) hS ?_
     try simp only [Act.put, LA, LB, LC, LD, LE, LF]
     refine wpAnyH_take (i := 18) (v := undef) rfl (by kernel_rfl) (by kernel_rfl) (by kernel_rfl) (fun _ _ _ h => h) (Or.inr ⟨by kernel_rfl, rfl⟩) hS ?_
     try simp only [Act.put, LA, LB, LC, LD, LE, LF]
     refine wpAnyH_take (i := 19) (v := undef) rfl (by kernel_rfl) (by kernel_rfl) (by kernel_rfl) (fun _ _ _ h => h) (Or.inr ⟨by kernel_rfl, rfl⟩) hS ?_
     try simp only [Act.put, LA, LB, LC, LD, LE, LF]
     refine wpAnyH_take (i := 20) (v := undef) rfl (by kernel_rfl) (by kernel_rfl) (by kernel_rfl) (fun _ _ _ h => h) (Or.inr ⟨by kernel_rfl, rfl⟩) hS ?_
     try simp only [Act.put, LA, LB, LC, LD, LE, LF]
     refine wpAnyH_take (i := 21) (v := undef) rfl (by kernel_rfl) (by kernel_rfl) (by kernel_rfl) (fun _ _ _ h => h) (Or.inr ⟨by kernel_rfl, rfl⟩) hS ?_
     try simp only [Act.put, LA, LB, LC, LD, LE, LF]
     refine wpAnyH_take (i := 22) (v := .bool false) rfl (by kernel_rfl) (by kernel_rfl) (by kernel_rfl) (fun _ _ _ h => h) (Or.inl ⟨by kernel_rfl, fun w' hw => ?y22⟩) hS ?_
     case y22 =>
      clear hS
      have hw2 := hw
      go_simp
     try simp only [Act.put, LA, LB, LC, LD, LE, LF]
     refine wpAnyH_take (i := 23) (v := .bool false) rfl (by kernel_rfl) (by kernel_rfl) (by kernel_rfl) (fun _ _ _ h => h) (Or.inl ⟨by kernel_rfl, fun w' hw => ?y23⟩) hS ?_
     case y23 =>
      clear hS
      have hw2 := hw
      go_simp
     try simp only [Act.put, LA, LB, LC, LD, LE, LF]
     refine wpAnyH_done (by kernel_rfl) ?_ _
     have hT6 := hT.out.below hB6
     have g9 := RC.out _ hT6.bel
     clear KK MA g0 g1 g2 g3 g4 g5 g6 g7 g8 hbl hT hB6
     obtain ⟨hbl, g0, g1, g2, g3, g4, g5, g6, g7, g8⟩ := g9
     obtain ⟨z1, z2, z3⟩ := GT.out _ hT6
     replace hT6 := Mr.hid hT6
     go_wp2
     go_roundg (gk - 1)
     case measure => omega
     case rel => exact ⟨0 + 1, by simp, by omega, hUn.out, hok.out, NX.out _ hT6.out⟩
    ·obtain ⟨m, rfl⟩ : ∃ m, i = m + 1 := ⟨i - 1, by omega⟩
     obtain ⟨d, hdm⟩ := get_of_lt (cs := cs) (i := m) (by have := hn.out; omega)
     obtain ⟨bc', oc', hbo, A9⟩ := call_at (hv.out.below hT.out.bel) hdm
     cases hbo
     obtain ⟨-, -, -, -, -, d4, -, -, -, -⟩ := A9
     have hmw2 : IntKind.i64.wrap (m : Int) = (m : Int) := i64x _ (by omega) (by omega)
     have hmw3 : IntKind.i64.wrap ((m : Int) + 1 - 1) = (m : Int) := by rw [show (m : Int) + 1 - 1 = (m : Int) from by omega]; exact i64x _ (by omega) (by omega)
     have hm3 : (0 : Int) < (m : Int) + 1 := by omega
     have hm1 : (0 : Int) ≤ (m : Int) := by omega
     have hm2 : (m : Int) < (n : Int) := by omega
     have hm4 : (0 : Int) < ((m + 1 : Nat) : Int) := by omega
     have hlJ : (m : Int) + 1 < (n : Int) := by omega
     have hlK : (0 : Int) ≤ (m : Int) + 1 := by omega
     have hlN : ((m : Int) + 1).toNat = m + 1 := by omega
     have hw3 : IntKind.i64.wrap ((m : Int) + 1 + 1) = (m : Int) + 1 + 1 := i64x _ (by omega) (by omega)
     by_cases hr : d.beg < c.beg
     ·have hUn := Mr.hid (hU.out.succ hci.out hf (fun d' h hd' => by rw [Nat.add_sub_cancel, hdm] at hd'; cases hd'; exact hr))
      have hz : decide (c.beg ≤ d.beg) = false := decide_eq_false (by omega)
      replace hf := Mr.hid hf
      replace hr := Mr.hid hr
      replace hdm := Mr.hid hdm
      go_upto_region 5 with (fail)
      have KK : Hid (∀ w', Below wr.heap.size wr w' → w'.cell? ⟨bc, oc + (m + 1) * 9, none⟩ = some (.int .i64 c.th) ∧ w'.cell? ⟨bc, oc + (m + 1) * 9 + 1, none⟩ = some (.int .i64 c.op) ∧ w'.cell? ⟨bc, oc + (m + 1) * 9 + 2, none⟩ = some (.int .i64 c.arg) ∧ w'.cell? ⟨bc, oc + (m + 1) * 9 + 3, none⟩ = some (.int .i64 c.data) ∧ w'.cell? ⟨bc, oc + (m + 1) * 9 + 4, none⟩ = some (.int .i64 c.beg) ∧ w'.cell? ⟨bc, oc + (m + 1) * 9 + 5, none⟩ = some (.int .i64 c.fin) ∧ w'.cell? ⟨bc, oc + (m + 1) * 9 + 6, none⟩ = some (.int .i64 c.pt) ∧ w'.cell? ⟨bc, oc + (m + 1) * 9 + 7, none⟩ = some (.int .i64 c.ak) ∧ w'.cell? ⟨bc, oc + (m + 1) * 9 + 8, none⟩ = some (.int .i64 c.av) ∧ w'.cell? ⟨bc, oc + m * 9 + 4, none⟩ = some (.int .i64 d.beg)) := fun w' hB => ⟨(hB.cell (p := ⟨bc, _, none⟩) hbl).trans g0, (hB.cell (p := ⟨bc, _, none⟩) hbl).trans g1, (hB.cell (p := ⟨bc, _, none⟩) hbl).trans g2, (hB.cell (p := ⟨bc, _, none⟩) hbl).trans g3, (hB.cell (p := ⟨bc, _, none⟩) hbl).trans g4, (hB.cell (p := ⟨bc, _, none⟩) hbl).trans g5, (hB.cell (p := ⟨bc, _, none⟩) hbl).trans g6, (hB.cell (p := ⟨bc, _, none⟩) hbl).trans g7, (hB.cell (p := ⟨bc, _, none⟩) hbl).trans g8, (hB.cell (p := ⟨bc, _, none⟩) hbl).trans d4⟩
      go_region_held3 (fun w' => w'.cell? ⟨bc, oc + (m + 1) * 9, none⟩ = some (.int .i64 c.th) ∧ w'.cell? ⟨bc, oc + (m + 1) * 9 + 1, none⟩ = some (.int .i64 c.op) ∧ w'.cell? ⟨bc, oc + (m + 1) * 9 + 2, none⟩ = some (.int .i64 c.arg) ∧ w'.cell? ⟨bc, oc + (m + 1) * 9 + 3, none⟩ = some (.int .i64 c.data) ∧ w'.cell? ⟨bc, oc + (m + 1) * 9 + 4, none⟩ = some (.int .i64 c.beg) ∧ w'.cell? ⟨bc, oc + (m + 1) * 9 + 5, none⟩ = some (.int .i64 c.fin) ∧ w'.cell? ⟨bc, oc + (m + 1) * 9 + 6, none⟩ = some (.int .i64 c.pt) ∧ w'.cell? ⟨bc, oc + (m + 1) * 9 + 7, none⟩ = some (.int .i64 c.ak) ∧ w'.cell? ⟨bc, oc + (m + 1) * 9 + 8, none⟩ = some (.int .i64 c.av) ∧ w'.cell? ⟨bc, oc + m * 9 + 4, none⟩ = some (.int .i64 d.beg)) (first | exact KK.out _ (by assumption) | go_keep) (first | (go_at_call 33; refine (MA.out _).mono ?_; rintro e w6 ⟨rfl, hB6⟩; replace hB6 : Below wr.heap.size wr w6 := ⟨hB6.os, hB6.tape, hB6.output, hB6.size, hB6.block⟩))
      all_goals
       clear d4 hz
      by_cases hm00 : m0 = 0
      ·have hok := Mr.hid (hR.out.succ hci.out (fun d h => by rw [← hm0, hm00] at h; omega))
       subst hm00
       replace hm0 := Mr.hid hm0
       have hT6 := hT.out.below hB6
       have g9 := RC.out _ hT6.bel
       clear KK MA g0 g1 g2 g3 g4 g5 g6 g7 g8 hbl hT hB6
       obtain ⟨hbl, g0, g1, g2, g3, g4, g5, g6, g7, g8⟩ := g9
       obtain ⟨z1, z2, z3⟩ := GT.out _ hT6
       replace hT6 := Mr.hid hT6
       go_wp2
       go_roundg (gk - 1)
       case measure => omega
       case rel => exact ⟨m + 1 + 1, by simp, by omega, hUn.out, hok.out, NX.out _ hT6.out⟩
      ·obtain ⟨q, rfl⟩ : ∃ q, m0 = q + 1 := ⟨m0 - 1, by omega⟩
       obtain ⟨p, hdq⟩ := get_of_lt (cs := cs) (i := q) (by have := hn.out; omega)
       have RD : ∀ w, Below W.heap.size W w → At9 w bc (oc + q * 9) p := fun w hB => by
        obtain ⟨b', o', e, h⟩ := call_at (hv.out.below hB) hdq
        cases e; exact h
       have hyes : AhR p c → Turn AhR cs (m + 1 + 1) := fun h => hR.out.succ hci.out (fun d' _ hd' => by rw [← hm0, Nat.add_sub_cancel, hdq] at hd'; cases hd'; exact h)
       have hno : ¬ AhR p c → b = false := fun h => by rw [hb.out]; exact mayB_false (no_turn hci.out (by rw [← hm0]; omega) (by rw [← hm0, Nat.add_sub_cancel]; exact hdq) h)
       have hqw2 : IntKind.i64.wrap (q : Int) = (q : Int) := i64x _ (by omega) (by omega)
       have hqw3 : IntKind.i64.wrap ((q : Int) + 1 - 1) = (q : Int) := by rw [show (q : Int) + 1 - 1 = (q : Int) from by omega]; exact i64x _ (by omega) (by omega)
       have hq3 : (0 : Int) < (q : Int) + 1 := by omega
       have hq1 : (0 : Int) ≤ (q : Int) := by omega
       have hq2 : (q : Int) < (n : Int) := by omega
       replace RD := Mr.hid RD
       replace hyes := Mr.hid hyes
       replace hno := Mr.hid hno
       replace hm0 := Mr.hid hm0
       replace hdq := Mr.hid hdq
       have hT6 := hT.out.below hB6
       have g9 := RC.out _ hT6.bel
       clear KK MA g0 g1 g2 g3 g4 g5 g6 g7 g8 hbl hT hB6
       obtain ⟨hbl, g0, g1, g2, g3, g4, g5, g6, g7, g8⟩ := g9
       obtain ⟨z1, z2, z3⟩ := GT.out _ hT6
       replace hT6 := Mr.hid hT6
       obtain ⟨hbd, d0, d1, d2, d3, d4, d5, d6, d7, d8⟩ := RD.out _ hT6.out.bel
       have hTA := Mr.hid (fun o => hT6.out.below ((Below.refl w6.heap.size w6).alloc (Nat.le_refl _) o))
       have hbx : ∀ w1, w1 = w6.alloc (cqO p) → w1.heap[w6.heap.size]? = some (cqO p) := by rintro w1 rfl; exact new_at _ _ _ rfl
       replace hbx := Mr.hid hbx
       go_upto_region 10 with (fail)
       have hT10 := hTA.out (cqO p)
       have hX := hbx.out _ rfl
       unfold cqO at hT10 hX
       clear hTA hbx g0 g1 g2 g3 g4 g5 g6 g7 g8 hbl d0 d1 d2 d3 d4 d5 d6 d7 d8 hbd z1 z2 z3
       generalize (w6.alloc (Obj.cells #[.int .i64 p.th, .int .i64 p.op, .int .i64 p.arg, .int .i64 p.data, .int .i64 p.beg, .int .i64 p.fin, .int .i64 p.pt, .int .i64 p.ak, .int .i64 p.av] 45 (0, 0))) = w10 at *
       generalize w6.heap.size = bx at *
       obtain ⟨k0, k1, k2, k3, k4, k5, k6, k7, k8, kl⟩ := cq_cells (c := p) hX
       obtain ⟨hbl, g0, g1, g2, g3, g4, g5, g6, g7, g8⟩ := RC.out _ hT10.bel
       replace hT10 := Mr.hid hT10
       by_cases e1 : p.fin = -1
       ·have hbf : b = false := hno.out (fun h => h.1 e1)
        have e1' : (p.fin == -1) = true := by simp [e1]
        replace e1 := Mr.hid e1
        go_quiet (fail)
        have hT11 := Mr.hid (hT10.out.below (Bx.draws _ _ nq))
        clear g0 g1 g2 g3 g4 g5 g6 g7 g8 hbl k0 k1 k2 k3 k4 k5 k6 k7 k8 hT10
        generalize w10.drewN nq = w11 at *
        subst hbf
        go_wp2
        go_ret
        exact ⟨rfl, hT11.out.bel⟩
       ·have e1' : (p.fin == -1) = false := by simp [e1]
        by_cases e2 : p.fin ≤ c.beg
        ·have hok := Mr.hid (hyes.out ⟨e1, e2⟩)
         have e2' : decide (c.beg < p.fin) = false := decide_eq_false (by omega)
         replace e1 := Mr.hid e1
         replace e2 := Mr.hid e2
         go_quiet (fail)
         have hT11 := Mr.hid (hT10.out.below (Bx.draws _ _ nq))
         clear g0 g1 g2 g3 g4 g5 g6 g7 g8 hbl k0 k1 k2 k3 k4 k5 k6 k7 k8 hT10
         generalize w10.drewN nq = w11 at *
         obtain ⟨z1, z2, z3⟩ := GT.out _ hT11.out
         obtain ⟨hbl, g0, g1, g2, g3, g4, g5, g6, g7, g8⟩ := RC.out _ hT11.out.bel
         go_wp2
         go_roundg (gk - 1)
         case measure => omega
         case rel => exact ⟨m + 1 + 1, by simp, by omega, hUn.out, hok.out, NX.out _ hT11.out⟩
        ·have hbf : b = false := hno.out (fun h => e2 h.2)
         have e2' : decide (c.beg < p.fin) = true := decide_eq_true (by omega)
         replace e1 := Mr.hid e1
         replace e2 := Mr.hid e2
         go_quiet (fail)
         have hT11 := Mr.hid (hT10.out.below (Bx.draws _ _ nq))
         clear g0 g1 g2 g3 g4 g5 g6 g7 g8 hbl k0 k1 k2 k3 k4 k5 k6 k7 k8 hT10
         generalize w10.drewN nq = w11 at *
         subst hbf
         go_wp2
         go_ret
         exact ⟨rfl, hT11.out.bel⟩
     ·have hbf : b = false := by rw [hb.out]; exact mayB_false (no_rise hci.out hdm hr)
      have hz : decide (c.beg ≤ d.beg) = true := decide_eq_true (by omega)
      subst hbf
      replace hf := Mr.hid hf
      replace hr := Mr.hid hr
      replace hdm := Mr.hid hdm
      go_upto_region 5 with (fail)
      have KK : Hid (∀ w', Below wr.heap.size wr w' → w'.cell? ⟨bc, oc + (m + 1) * 9, none⟩ = some (.int .i64 c.th) ∧ w'.cell? ⟨bc, oc + (m + 1) * 9 + 1, none⟩ = some (.int .i64 c.op) ∧ w'.cell? ⟨bc, oc + (m + 1) * 9 + 2, none⟩ = some (.int .i64 c.arg) ∧ w'.cell? ⟨bc, oc + (m + 1) * 9 + 3, none⟩ = some (.int .i64 c.data) ∧ w'.cell? ⟨bc, oc + (m + 1) * 9 + 4, none⟩ = some (.int .i64 c.beg) ∧ w'.cell? ⟨bc, oc + (m + 1) * 9 + 5, none⟩ = some (.int .i64 c.fin) ∧ w'.cell? ⟨bc, oc + (m + 1) * 9 + 6, none⟩ = some (.int .i64 c.pt) ∧ w'.cell? ⟨bc, oc + (m + 1) * 9 + 7, none⟩ = some (.int .i64 c.ak) ∧ w'.cell? ⟨bc, oc + (m + 1) * 9 + 8, none⟩ = some (.int .i64 c.av) ∧ w'.cell? ⟨bc, oc + m * 9 + 4, none⟩ = some (.int .i64 d.beg)) := fun w' hB => ⟨(hB.cell (p := ⟨bc, _, none⟩) hbl).trans g0, (hB.cell (p := ⟨bc, _, none⟩) hbl).trans g1, (hB.cell (p := ⟨bc, _, none⟩) hbl).trans g2, (hB.cell (p := ⟨bc, _, none⟩) hbl).trans g3, (hB.cell (p := ⟨bc, _, none⟩) hbl).trans g4, (hB.cell (p := ⟨bc, _, none⟩) hbl).trans g5, (hB.cell (p := ⟨bc, _, none⟩) hbl).trans g6, (hB.cell (p := ⟨bc, _, none⟩) hbl).trans g7, (hB.cell (p := ⟨bc, _, none⟩) hbl).trans g8, (hB.cell (p := ⟨bc, _, none⟩) hbl).trans d4⟩
      go_region_held3 (fun w' => w'.cell? ⟨bc, oc + (m + 1) * 9, none⟩ = some (.int .i64 c.th) ∧ w'.cell? ⟨bc, oc + (m + 1) * 9 + 1, none⟩ = some (.int .i64 c.op) ∧ w'.cell? ⟨bc, oc + (m + 1) * 9 + 2, none⟩ = some (.int .i64 c.arg) ∧ w'.cell? ⟨bc, oc + (m + 1) * 9 + 3, none⟩ = some (.int .i64 c.data) ∧ w'.cell? ⟨bc, oc + (m + 1) * 9 + 4, none⟩ = some (.int .i64 c.beg) ∧ w'.cell? ⟨bc, oc + (m + 1) * 9 + 5, none⟩ = some (.int .i64 c.fin) ∧ w'.cell? ⟨bc, oc + (m + 1) * 9 + 6, none⟩ = some (.int .i64 c.pt) ∧ w'.cell? ⟨bc, oc + (m + 1) * 9 + 7, none⟩ = some (.int .i64 c.ak) ∧ w'.cell? ⟨bc, oc + (m + 1) * 9 + 8, none⟩ = some (.int .i64 c.av) ∧ w'.cell? ⟨bc, oc + m * 9 + 4, none⟩ = some (.int .i64 d.beg)) (first | exact KK.out _ (by assumption) | go_keep) (first | (go_at_call 33; refine (MA.out _).mono ?_; rintro e w6 ⟨rfl, hB6⟩; replace hB6 : Below wr.heap.size wr w6 := ⟨hB6.os, hB6.tape, hB6.output, hB6.size, hB6.block⟩))
      all_goals
       have hB7 := Mr.hid (hT.out.bel.trans (hB6.mono hT.out.bel.size))
       clear KK MA g0 g1 g2 g3 g4 g5 g6 g7 g8
       go_wp2
       go_ret
       exact ⟨rfl, hB7.out⟩
   ·rw [decide_eq_false hf] at MA
    have hbf : b = false := by rw [hb.out]; exact mayB_false (no_fit hci.out hf)
    subst hbf
    replace MA := Mr.hid MA
    replace hf := Mr.hid hf
    replace hT := Mr.hid hT
    go_upto_region 5 with (fail)
    have KK : Hid (∀ w', Below wr.heap.size wr w' → w'.cell? ⟨bc, oc + i * 9, none⟩ = some (.int .i64 c.th) ∧ w'.cell? ⟨bc, oc + i * 9 + 1, none⟩ = some (.int .i64 c.op) ∧ w'.cell? ⟨bc, oc + i * 9 + 2, none⟩ = some (.int .i64 c.arg) ∧ w'.cell? ⟨bc, oc + i * 9 + 3, none⟩ = some (.int .i64 c.data) ∧ w'.cell? ⟨bc, oc + i * 9 + 4, none⟩ = some (.int .i64 c.beg) ∧ w'.cell? ⟨bc, oc + i * 9 + 5, none⟩ = some (.int .i64 c.fin) ∧ w'.cell? ⟨bc, oc + i * 9 + 6, none⟩ = some (.int .i64 c.pt) ∧ w'.cell? ⟨bc, oc + i * 9 + 7, none⟩ = some (.int .i64 c.ak) ∧ w'.cell? ⟨bc, oc + i * 9 + 8, none⟩ = some (.int .i64 c.av)) := fun w' hB => ⟨(hB.cell (p := ⟨bc, _, none⟩) hbl).trans g0, (hB.cell (p := ⟨bc, _, none⟩) hbl).trans g1, (hB.cell (p := ⟨bc, _, none⟩) hbl).trans g2, (hB.cell (p := ⟨bc, _, none⟩) hbl).trans g3, (hB.cell (p := ⟨bc, _, none⟩) hbl).trans g4, (hB.cell (p := ⟨bc, _, none⟩) hbl).trans g5, (hB.cell (p := ⟨bc, _, none⟩) hbl).trans g6, (hB.cell (p := ⟨bc, _, none⟩) hbl).trans g7, (hB.cell (p := ⟨bc, _, none⟩) hbl).trans g8⟩
    refine wp_region_held_drew (S := (fun w' => w'.cell? ⟨bc, oc + i * 9, none⟩ = some (.int .i64 c.th) ∧ w'.cell? ⟨bc, oc + i * 9 + 1, none⟩ = some (.int .i64 c.op) ∧ w'.cell? ⟨bc, oc + i * 9 + 2, none⟩ = some (.int .i64 c.arg) ∧ w'.cell? ⟨bc, oc + i * 9 + 3, none⟩ = some (.int .i64 c.data) ∧ w'.cell? ⟨bc, oc + i * 9 + 4, none⟩ = some (.int .i64 c.beg) ∧ w'.cell? ⟨bc, oc + i * 9 + 5, none⟩ = some (.int .i64 c.fin) ∧ w'.cell? ⟨bc, oc + i * 9 + 6, none⟩ = some (.int .i64 c.pt) ∧ w'.cell? ⟨bc, oc + i * 9 + 7, none⟩ = some (.int .i64 c.ak) ∧ w'.cell? ⟨bc, oc + i * 9 + 8, none⟩ = some (.int .i64 c.av))) (by kernel_rfl) (KK.out _ ((Below.refl _ _).drew)) (fun hS => ?_)
    try simp only [Act.put, LA, LB, LC, LD, LE, LF]
    refine wpAnyH_take (i := 0) (v := .slice (some ⟨bc, oc, none⟩) n cap) rfl (by kernel_rfl) (by kernel_rfl) (by kernel_rfl) (fun _ _ _ h => h) (Or.inl ⟨by kernel_rfl, fun w' hw => ?y0⟩) hS ?_
    case y0 =>
     clear hS
     have hw2 := hw
     go_simp
    try simp only [Act.put, LA, LB, LC, LD, LE, LF]
    refine wpAnyH_take (i := 1) (v := .int .i64 (i : Int)) rfl (by kernel_rfl) (by kernel_rfl) (by kernel_rfl) (fun _ _ _ h => h) (Or.inl ⟨by kernel_rfl, fun w' hw => ?y1⟩) hS ?_
    case y1 =>
     clear hS
     have hw2 := hw
     go_simp
    try simp only [Act.put, LA, LB, LC, LD, LE, LF]
    refine wpAnyH_take (i := 2) (v := .pointer (some ⟨bc, oc + i * 9, none⟩)) rfl (by kernel_rfl) (by kernel_rfl) (by kernel_rfl) (fun _ _ _ h => h) (Or.inl ⟨by kernel_rfl, fun w' hw => ?y2⟩) hS ?_
    case y2 =>
     clear hS
     have hw2 := hw
     go_simp
    try simp only [Act.put, LA, LB, LC, LD, LE, LF]
    refine wpAnyH_take (i := 3) (v := Value.agg #[.int .i64 c.th, .int .i64 c.op, .int .i64 c.arg, .int .i64 c.data, .int .i64 c.beg, .int .i64 c.fin, .int .i64 c.pt, .int .i64 c.ak, .int .i64 c.av]) rfl (by kernel_rfl) (by kernel_rfl) (by kernel_rfl) (fun _ _ _ h => h) (Or.inl ⟨by kernel_rfl, fun w' hw => ?y3⟩) hS ?_
    case y3 =>
     clear hS
     obtain ⟨hw0, hw1, hw2, hw3, hw4, hw5, hw6, hw7, hw8⟩ := hw
     go_simp
    try simp only [Act.put, LA, LB, LC, LD, LE, LF]
    refine wpAnyH_ready (rs := [4]) (by kernel_rfl) (by simp) ?_
    refine AllReadyH.cons rfl (fun K hK => ?_) AllReadyH.nil
    try simp only [Act.put, LA, LB, LC, LD, LE, LF]
    go_simp
    (go_at_call 33; refine (MA.out _).mono ?_; rintro e w6 ⟨rfl, hB6⟩; replace hB6 : Below wr.heap.size wr w6 := ⟨hB6.os, hB6.tape, hB6.output, hB6.size, hB6.block⟩)
    try (go_wp2_with fail)
    refine hK.out _ _ (KK.out _ hB6) (fun hS => ?_)
    clear hK K
    try simp only [Act.put, LA, LB, LC, LD, LE, LF]
    refine wpAnyH_take (i := 5) (v := .bool true) rfl (by kernel_rfl) (by kernel_rfl) (by kernel_rfl) (fun _ _ _ h => h) (Or.inl ⟨by kernel_rfl, fun w' hw => ?y5⟩) hS ?_
    case y5 =>
     clear hS
     have hw2 := hw
     go_simp
    try simp only [Act.put, LA, LB, LC, LD, LE, LF]
    refine wpAnyH_take (i := 6) (v := .bool true) rfl (by kernel_rfl) (by kernel_rfl) (by kernel_rfl) (fun _ _ _ h => h) (Or.inl ⟨by kernel_rfl, fun w' hw => ?y6⟩) hS ?_
    case y6 =>
     clear hS
     have hw2 := hw
     go_simp
    try simp only [Act.put, LA, LB, LC, LD, LE, LF]
    refine wpAnyH_take (i := 7) (v := undef) rfl (by kernel_rfl) (by kernel_rfl) (by kernel_rfl) (fun _ _ _ h => h) (Or.inr ⟨by kernel_rfl, rfl⟩) hS ?_
    try simp only [Act.put, LA, LB, LC, LD, LE, LF]
    refine wpAnyH_take (i := 8) (v := undef) rfl (by kernel_rfl) (by kernel_rfl) (by kernel_rfl) (fun _ _ _ h => h) (Or.inr ⟨by kernel_rfl, rfl⟩) hS ?_
    try simp only [Act.put, LA, LB, LC, LD, LE, LF]
    refine wpAnyH_take (i := 9) (v := undef) rfl (by kernel_rfl) (by kernel_rfl) (by kernel_rfl) (fun _ _ _ h => h) (Or.inr ⟨by kernel_rfl, rfl⟩) hS ?_
    try simp only [Act.put, LA, LB, LC, LD, LE, LF]
    refine wpAnyH_take (i := 10) (v := undef) rfl (by kernel_rfl) (by kernel_rfl) (by kernel_rfl) (fun _ _ _ h => h) (Or.inr ⟨by kernel_rfl, rfl⟩) hS ?_
    try simp only [Act.put, LA, LB, LC, LD, LE, LF]
    refine wpAnyH_take (i := 11) (v := undef) rfl (by kernel_rfl) (by kernel_rfl) (by kernel_rfl) (fun _ _ _ h => h) (Or.inr ⟨by kernel_rfl, rfl⟩) hS ?_
    try simp only [Act.put, LA, LB, LC, LD, LE, LF]
    refine wpAnyH_take (i := 12) (v := undef) rfl (by kernel_rfl) (by kernel_rfl) (by kernel_rfl) (fun _ _ _ h => h) (Or.inr ⟨by kernel_rfl, rfl⟩) hS ?_
    try simp only [Act.put, LA, LB, LC, LD, LE, LF]
    refine wpAnyH_take (i := 13) (v := undef) rfl (by kernel_rfl) (by kernel_rfl) (by kernel_rfl) (fun _ _ _ h => h) (Or.inr ⟨by kernel_rfl, rfl⟩) hS ?_
    try simp only [Act.put, LA, LB, LC, LD, LE, LF]
    refine wpAnyH_take (i := 14) (v := undef) rfl (by kernel_rfl) (by kernel_rfl) (by kernel_rfl) (fun _ _ _ h => h) (Or.inr ⟨by kernel_rfl, rfl⟩) hS ?_
    try simp only [Act.put, LA, LB, LC, LD, LE, LF]
    refine wpAnyH_take (i := 15) (v := undef) rfl (by kernel_rfl) (by kernel_rfl) (by kernel_rfl) (fun _ _ _ h => h) (Or.inr ⟨by kernel_rfl, rfl⟩) hS ?_
    try simp only [Act.put, LA, LB, LC, LD, LE, LF]
    refine wpAnyH_take (i := 16) (v := undef) rfl (by kernel_rfl) (by kernel_rfl) (by kernel_rfl) (fun _ _ _ h => h) (Or.inr ⟨by kernel_rfl, rfl⟩) hS ?_
    try simp only [Act.put, LA, LB, LC, LD, LE, LF]
    refine wpAnyH_take (i := 17) (v := undef) rfl (by kernel_rfl) (by kernel_rfl) (by kernel_rfl) (fun _ _ _ h => h) (Or.inr ⟨by kernel_rfl, rfl⟩) hS ?_
    try simp only [Act.put, LA, LB, LC, LD, LE, LF]
    refine wpAnyH_take (i := 18) (v := undef) rfl (by kernel_rfl) (by kernel_rfl) (by kernel_rfl) (fun _ _ _ h => h) (Or.inr ⟨by kernel_rfl, rfl⟩) hS ?_
    try simp only [Act.put, LA, LB, LC, LD, LE, LF]
    refine wpAnyH_take (i := 19) (v := undef) rfl (by kernel_rfl) (by kernel_rfl) (by kernel_rfl) (fun _ _ _ h => h) (Or.inr ⟨by kernel_rfl, rfl⟩) hS ?_
    try simp only [Act.put, LA, LB, LC, LD, LE, LF]
    refine wpAnyH_take (i := 20) (v := undef) rfl (by kernel_rfl) (by kernel_rfl) (by kernel_rfl) (fun _ _ _ h => h) (Or.inr ⟨by kernel_rfl, rfl⟩) hS ?_
    try simp only [Act.put, LA, LB, LC, LD, LE, LF]
    refine wpAnyH_take (i := 21) (v := undef) rfl (by kernel_rfl) (by kernel_rfl) (by kernel_rfl) (fun _ _ _ h => h) (Or.inr ⟨by kernel_rfl, rfl⟩) hS ?_
    try simp only [Act.put, LA, LB, LC, LD, LE, LF]
    refine wpAnyH_take (i := 22) (v := undef) rfl (by kernel_rfl) (by kernel_rfl) (by kernel_rfl) (fun _ _ _ h => h) (Or.inr ⟨by kernel_rfl, rfl⟩) hS ?_
    try simp only [Act.put, LA, LB, LC, LD, LE, LF]
    refine wpAnyH_take (i := 23) (v := .bool true) rfl (by kernel_rfl) (by kernel_rfl) (by kernel_rfl) (fun _ _ _ h => h) (Or.inl ⟨by kernel_rfl, fun w' hw => ?y23⟩) hS ?_
    case y23 =>
     clear hS
     have hw2 := hw
     go_simp
    try simp only [Act.put, LA, LB, LC, LD, LE, LF]
    refine wpAnyH_done (by kernel_rfl) ?_ _
    all_goals
     have hB7 := Mr.hid (hT.out.bel.trans (hB6.mono hT.out.bel.size))
     clear KK MA g0 g1 g2 g3 g4 g5 g6 g7 g8
     go_wp2
     go_ret
     exact ⟨rfl, hB7.out⟩
  ·have hin : i = cs.length := by have := hn.out; omega
   rw [hin] at hU hR
   have dl : decide ((i : Int) < (n : Int)) = false := decide_eq_false (by omega)
   replace hT := Mr.hid hT
   by_cases hA : Apart cs
   ·have A1 := Mr.hid (fun w' hB => AP.out w' hB true (by simp [hA]))
    have hbt : b = true := by rw [hb.out]; exact mayB_true ((may_doc cs).2 ⟨hU, hR, hA⟩)
    subst hbt
    clear AP
    replace hA := Mr.hid hA
    replace hU := Mr.hid hU
    replace hR := Mr.hid hR
    go_wp2_with (go_at_call 34; refine (A1.out _ hT.out.bel).mono ?_; clear A1; rintro e w2 ⟨rfl, hB2⟩; replace hB2 := Mr.hid (hT.out.bel.trans (hB2.mono hT.out.bel.size)))
    go_ret
    exact ⟨rfl, hB2.out⟩
   ·have A1 := Mr.hid (fun w' hB => AP.out w' hB false (by simp [hA]))
    have hbt : b = false := by rw [hb.out]; exact mayB_false (fun h => hA h.2.1)
    subst hbt
    clear AP
    replace hA := Mr.hid hA
    replace hU := Mr.hid hU
    replace hR := Mr.hid hR
    go_wp2_with (go_at_call 34; refine (A1.out _ hT.out.bel).mono ?_; clear A1; rintro e w2 ⟨rfl, hB2⟩; replace hB2 := Mr.hid (hT.out.bel.trans (hB2.mono hT.out.bel.size)))
    go_ret
    exact ⟨rfl, hB2.out⟩
end Go.Proofs.YtnbibkohgppjnaaGreat.Wt
