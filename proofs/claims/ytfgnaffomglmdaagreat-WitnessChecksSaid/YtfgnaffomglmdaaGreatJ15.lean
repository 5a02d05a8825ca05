import Derived.Test.YtfgnaffomglmdaaGreatJ13
import Derived.Test.YtfgnaffomglmdaaGreatJ14
import Derived.Deep.RegionWith
import Derived.Test.YtfgnaffomglmdaaGreatJ12
import Derived.BigQuiet
/-
  WITNESS: May.
-/
namespace Go.Proofs.YtfgnaffomglmdaaGreat.Wt
open Go.RowKit Mr Md
set_option linter.unusedVariables false
set_option linter.unusedSimpArgs false
set_option maxRecDepth 100000
theorem not_may_up {cs : List Cq} {i : Nat} {c : Cq} (hc : cs[i]? = some c) (h : ¬ Fit c) : ¬ MayC cs := fun hm => h (hm.1.fit (List.getElem?_eq_some_iff.1 hc).1 hc)
theorem not_may_rise {cs : List Cq} {m : Nat} {c d : Cq} (hc : cs[m + 1]? = some c) (hd : cs[m]? = some d) (h : ¬ d.beg < c.beg) : ¬ MayC cs := fun hm => h ((hm.1 (m + 1) (List.getElem?_eq_some_iff.1 hc).1).2 d c (by omega) (by simpa using hd) hc)
set_option maxHeartbeats 8000000 in
theorem may_any {W : World} {T : Nat → Prop} {v : Value} {cs : List Cq} (hv : Sl W T 9 v cs.length (cqs cs)) (hsm : cs.length * 72 ≤ 281474976710656) :
    Calls Tryz.prog 19 #[v] W fun e w' => e = .returned (.bool (mayB cs)) ∧ Below W.heap.size W w' := by
  obtain ⟨b, hb⟩ : ∃ b, b = mayB cs := ⟨_, rfl⟩
  rw [← hb]
  have AP := fun w' (hB : Below W.heap.size W w') (b : Bool) (hb : b = true ↔ (mvl cs).Nodup) => apart_any (hv.below hB) hsm b hb
  have IT := fun w' (hB : Below W.heap.size W w') hU (b : Bool) (hb : b = true ↔ Turn AhP cs cs.length) => inTurn_any (hv.below hB) hsm hU b hb
  obtain ⟨a, cap, rfl, hcap⟩ := hv.form
  obtain ⟨n, hn⟩ : ∃ n, n = cs.length := ⟨_, rfl⟩
  rw [← hn] at hsm hcap AP ⊢
  replace IT : Hid (∀ w', Below W.heap.size W w' → Up cs cs.length → ∀ b : Bool, (b = true ↔ Turn AhP cs cs.length) → Calls Tryz.prog 31 #[.slice a n cap] w' fun e w'' => e = .returned (.bool b) ∧ Below w'.heap.size w' w'') := by rw [hn]; exact IT
  replace hv := Mr.hid hv
  replace hb := Mr.hid hb
  replace hn := Mr.hid hn
  replace AP := Mr.hid AP
  go_enter Tryz.func19, Tryz.ntmps19
  go_wp2
  go_loopg [7] n (fun k s7 wr => ∃ i : Nat, s7 = .int .i64 (i : Int) ∧ i + k = n ∧ Below W.heap.size W wr ∧ Up cs i)
  case atStart => exact ⟨0, rfl, by omega, Below.refl _ _, Up.zero _⟩
  case round =>
    obtain ⟨i, rfl, hi, hB, hU⟩ := hrel
    by_cases hlt : i < n
    · clear AP IT
      obtain ⟨c, hci⟩ := get_of_lt (cs := cs) (i := i) (by have := hn.out; omega)
      obtain ⟨bc, oc, rfl, A9⟩ := call_at (hv.out.below hB) hci
      have hBA := fun o => hB.alloc hB.size o
      have hbx : ∀ w1, w1 = wr.alloc (cqO c) → w1.heap[wr.heap.size]? = some (cqO c) := by rintro w1 rfl; exact new_at _ _ _ rfl
      obtain ⟨hbl, g0, g1, g2, g3, g4, g5, g6, g7, g8⟩ := A9
      have hlI : (i : Int) < (n : Int) := by omega
      replace hBA := Mr.hid hBA
      replace hbx := Mr.hid hbx
      replace hU := Mr.hid hU
      replace hci := Mr.hid hci
      clear hB
      go_upto_region 4 with (fail)
      have hB5 := hBA.out (cqO c)
      have hX := hbx.out _ rfl
      unfold cqO at hB5 hX
      clear hBA hbx g0 g1 g2 g3 g4 g5 g6 g7 g8 hbl
      generalize (wr.alloc (Obj.cells #[.int .i64 c.th, .int .i64 c.op, .int .i64 c.arg, .int .i64 c.data, .int .i64 c.beg, .int .i64 c.fin, .int .i64 c.pt, .int .i64 c.ak, .int .i64 c.av] 36 (0, 0))) = w5 at *
      generalize wr.heap.size = bx at *
      clear wr
      obtain ⟨k0, k1, k2, k3, k4, k5, k6, k7, k8, kl⟩ := cq_cells (c := c) hX
      have MA := fun w => mayAlone_any c w
      unfold Cq.val at MA
      have hw : IntKind.i64.wrap ((i : Int) + 1) = (i : Int) + 1 := i64x _ (by omega) (by omega)
      clear hX
      by_cases hf : Fit c
      · rw [decide_eq_true hf] at MA
        replace MA := Mr.hid MA
        by_cases h0 : i = 0
        · have hok := hU.out.succ hci.out hf (fun d h => by omega)
          subst h0
          have hz : decide ((0 : Int) < ((0 : Nat) : Int)) = false := by decide
          replace hok := Mr.hid hok
          replace hf := Mr.hid hf
          replace hB5 := Mr.hid hB5
          have KK : Hid (∀ w', Below w5.heap.size w5 w' → w'.cell? ⟨bx, 0, none⟩ = some (.int .i64 c.th) ∧ w'.cell? ⟨bx, 1, none⟩ = some (.int .i64 c.op) ∧ w'.cell? ⟨bx, 2, none⟩ = some (.int .i64 c.arg) ∧ w'.cell? ⟨bx, 3, none⟩ = some (.int .i64 c.data) ∧ w'.cell? ⟨bx, 4, none⟩ = some (.int .i64 c.beg) ∧ w'.cell? ⟨bx, 5, none⟩ = some (.int .i64 c.fin) ∧ w'.cell? ⟨bx, 6, none⟩ = some (.int .i64 c.pt) ∧ w'.cell? ⟨bx, 7, none⟩ = some (.int .i64 c.ak) ∧ w'.cell? ⟨bx, 8, none⟩ = some (.int .i64 c.av)) := fun w' hB => ⟨(hB.cell (p := ⟨bx, _, none⟩) kl).trans k0, (hB.cell (p := ⟨bx, _, none⟩) kl).trans k1, (hB.cell (p := ⟨bx, _, none⟩) kl).trans k2, (hB.cell (p := ⟨bx, _, none⟩) kl).trans k3, (hB.cell (p := ⟨bx, _, none⟩) kl).trans k4, (hB.cell (p := ⟨bx, _, none⟩) kl).trans k5, (hB.cell (p := ⟨bx, _, none⟩) kl).trans k6, (hB.cell (p := ⟨bx, _, none⟩) kl).trans k7, (hB.cell (p := ⟨bx, _, none⟩) kl).trans k8⟩
          refine wp_region_held_drew (S := (fun w' => w'.cell? ⟨bx, 0, none⟩ = some (.int .i64 c.th) ∧ w'.cell? ⟨bx, 1, none⟩ = some (.int .i64 c.op) ∧ w'.cell? ⟨bx, 2, none⟩ = some (.int .i64 c.arg) ∧ w'.cell? ⟨bx, 3, none⟩ = some (.int .i64 c.data) ∧ w'.cell? ⟨bx, 4, none⟩ = some (.int .i64 c.beg) ∧ w'.cell? ⟨bx, 5, none⟩ = some (.int .i64 c.fin) ∧ w'.cell? ⟨bx, 6, none⟩ = some (.int .i64 c.pt) ∧ w'.cell? ⟨bx, 7, none⟩ = some (.int .i64 c.ak) ∧ w'.cell? ⟨bx, 8, none⟩ = some (.int .i64 c.av))) (by kernel_rfl) (KK.out _ ((Below.refl _ _).drew)) (fun hS => ?_)
          try simp only [Act.put, List.getElem_toArray, List.getElem_cons_zero, List.getElem_cons_succ, List.setIfInBounds_toArray, List.set_cons_zero, List.set_cons_succ]
          refine wpAnyH_take (i := 0) (v := Value.agg #[.int .i64 c.th, .int .i64 c.op, .int .i64 c.arg, .int .i64 c.data, .int .i64 c.beg, .int .i64 c.fin, .int .i64 c.pt, .int .i64 c.ak, .int .i64 c.av]) rfl (by kernel_rfl) (by kernel_rfl) (by kernel_rfl) (fun _ _ _ h => h) (Or.inl ⟨by kernel_rfl, fun w' hw => ?y0⟩) hS ?_
          case y0 =>
            clear hS
            obtain ⟨hw0, hw1, hw2, hw3, hw4, hw5, hw6, hw7, hw8⟩ := hw
            go_simp
          try simp only [Act.put, List.getElem_toArray, List.getElem_cons_zero, List.getElem_cons_succ, List.setIfInBounds_toArray, List.set_cons_zero, List.set_cons_succ]
          refine wpAnyH_ready (rs := [1]) (by kernel_rfl) (by simp) ?_
          refine AllReadyH.cons rfl (fun K hK => ?_) AllReadyH.nil
          try simp only [Act.put, List.getElem_toArray, List.getElem_cons_zero, List.getElem_cons_succ, List.setIfInBounds_toArray, List.set_cons_zero, List.set_cons_succ]
          go_simp
          (go_at_call 29; refine (MA.out _).mono ?_; rintro e w6 ⟨rfl, hB6⟩; replace hB6 : Below w5.heap.size w5 w6 := ⟨hB6.os, hB6.tape, hB6.output, hB6.size, hB6.block⟩)
          try (go_wp2_with fail)
          refine hK.out _ _ (KK.out _ hB6) (fun hS => ?_)
          clear hK K
          try simp only [Act.put, List.getElem_toArray, List.getElem_cons_zero, List.getElem_cons_succ, List.setIfInBounds_toArray, List.set_cons_zero, List.set_cons_succ]
          refine wpAnyH_take (i := 2) (v := .bool false) rfl (by kernel_rfl) (by kernel_rfl) (by kernel_rfl) (fun _ _ _ h => h) (Or.inl ⟨by kernel_rfl, fun w' hw => ?y2⟩) hS ?_
          case y2 =>
            clear hS
            have hw2 := hw
            go_simp
          try simp only [Act.put, List.getElem_toArray, List.getElem_cons_zero, List.getElem_cons_succ, List.setIfInBounds_toArray, List.set_cons_zero, List.set_cons_succ]
          refine wpAnyH_take (i := 3) (v := .bool false) rfl (by kernel_rfl) (by kernel_rfl) (by kernel_rfl) (fun _ _ _ h => h) (Or.inl ⟨by kernel_rfl, fun w' hw => ?y3⟩) hS ?_
          case y3 =>
            clear hS
            have hw2 := hw
            go_simp
          try simp only [Act.put, List.getElem_toArray, List.getElem_cons_zero, List.getElem_cons_succ, List.setIfInBounds_toArray, List.set_cons_zero, List.set_cons_succ]
          refine wpAnyH_take (i := 4) (v := .int .i64 ((0 : Nat) : Int)) rfl (by kernel_rfl) (by kernel_rfl) (by kernel_rfl) (fun _ _ _ h => h) (Or.inl ⟨by kernel_rfl, fun w' hw => ?y4⟩) hS ?_
          case y4 =>
            clear hS
            have hw2 := hw
            go_simp
          try simp only [Act.put, List.getElem_toArray, List.getElem_cons_zero, List.getElem_cons_succ, List.setIfInBounds_toArray, List.set_cons_zero, List.set_cons_succ]
          refine wpAnyH_take (i := 5) (v := .bool false) rfl (by kernel_rfl) (by kernel_rfl) (by kernel_rfl) (fun _ _ _ h => h) (Or.inl ⟨by kernel_rfl, fun w' hw => ?y5⟩) hS ?_
          case y5 =>
            clear hS
            have hw2 := hw
            go_simp
          try simp only [Act.put, List.getElem_toArray, List.getElem_cons_zero, List.getElem_cons_succ, List.setIfInBounds_toArray, List.set_cons_zero, List.set_cons_succ]
          refine wpAnyH_take (i := 6) (v := .bool false) rfl (by kernel_rfl) (by kernel_rfl) (by kernel_rfl) (fun _ _ _ h => h) (Or.inl ⟨by kernel_rfl, fun w' hw => ?y6⟩) hS ?_
          case y6 =>
            clear hS
            have hw2 := hw
            go_simp
          try simp only [Act.put, List.getElem_toArray, List.getElem_cons_zero, List.getElem_cons_succ, List.setIfInBounds_toArray, List.set_cons_zero, List.set_cons_succ]
          refine wpAnyH_take (i := 7) (v := undef) rfl (by kernel_rfl) (by kernel_rfl) (by kernel_rfl) (fun _ _ _ h => h) (Or.inr ⟨by kernel_rfl, rfl⟩) hS ?_
          try simp only [Act.put, List.getElem_toArray, List.getElem_cons_zero, List.getElem_cons_succ, List.setIfInBounds_toArray, List.set_cons_zero, List.set_cons_succ]
          refine wpAnyH_take (i := 8) (v := undef) rfl (by kernel_rfl) (by kernel_rfl) (by kernel_rfl) (fun _ _ _ h => h) (Or.inr ⟨by kernel_rfl, rfl⟩) hS ?_
          try simp only [Act.put, List.getElem_toArray, List.getElem_cons_zero, List.getElem_cons_succ, List.setIfInBounds_toArray, List.set_cons_zero, List.set_cons_succ]
          refine wpAnyH_take (i := 9) (v := undef) rfl (by kernel_rfl) (by kernel_rfl) (by kernel_rfl) (fun _ _ _ h => h) (Or.inr ⟨by kernel_rfl, rfl⟩) hS ?_
          try simp only [Act.put, List.getElem_toArray, List.getElem_cons_zero, List.getElem_cons_succ, List.setIfInBounds_toArray, List.set_cons_zero, List.set_cons_succ]
          refine wpAnyH_take (i := 10) (v := undef) rfl (by kernel_rfl) (by kernel_rfl) (by kernel_rfl) (fun _ _ _ h => h) (Or.inr ⟨by kernel_rfl, rfl⟩) hS ?_
          try simp only [Act.put, List.getElem_toArray, List.getElem_cons_zero, List.getElem_cons_succ, List.setIfInBounds_toArray, List.set_cons_zero, List.set_cons_succ]
          refine wpAnyH_take (i := 11) (v := undef) rfl (by kernel_rfl) (by kernel_rfl) (by kernel_rfl) (fun _ _ _ h => h) (Or.inr ⟨by kernel_rfl, rfl⟩) hS ?_
          try simp only [Act.put, List.getElem_toArray, List.getElem_cons_zero, List.getElem_cons_succ, List.setIfInBounds_toArray, List.set_cons_zero, List.set_cons_succ]
          refine wpAnyH_take (i := 12) (v := undef) rfl (by kernel_rfl) (by kernel_rfl) (by kernel_rfl) (fun _ _ _ h => h) (Or.inr ⟨by kernel_rfl, rfl⟩) hS ?_
          try simp only [Act.put, List.getElem_toArray, List.getElem_cons_zero, List.getElem_cons_succ, List.setIfInBounds_toArray, List.set_cons_zero, List.set_cons_succ]
          refine wpAnyH_take (i := 13) (v := undef) rfl (by kernel_rfl) (by kernel_rfl) (by kernel_rfl) (fun _ _ _ h => h) (Or.inr ⟨by kernel_rfl, rfl⟩) hS ?_
          try simp only [Act.put, List.getElem_toArray, List.getElem_cons_zero, List.getElem_cons_succ, List.setIfInBounds_toArray, List.set_cons_zero, List.set_cons_succ]
          refine wpAnyH_take (i := 14) (v := undef) rfl (by kernel_rfl) (by kernel_rfl) (by kernel_rfl) (fun _ _ _ h => h) (Or.inr ⟨by kernel_rfl, rfl⟩) hS ?_
          try simp only [Act.put, List.getElem_toArray, List.getElem_cons_zero, List.getElem_cons_succ, List.setIfInBounds_toArray, List.set_cons_zero, List.set_cons_succ]
          refine wpAnyH_take (i := 15) (v := undef) rfl (by kernel_rfl) (by kernel_rfl) (by kernel_rfl) (fun _ _ _ h => h) (Or.inr ⟨by kernel_rfl, rfl⟩) hS ?_
          try simp only [Act.put, List.getElem_toArray, List.getElem_cons_zero, List.getElem_cons_succ, List.setIfInBounds_toArray, List.set_cons_zero, List.set_cons_succ]
          refine wpAnyH_take (i := 16) (v := .bool false) rfl (by kernel_rfl) (by kernel_rfl) (by kernel_rfl) (fun _ _ _ h => h) (Or.inl ⟨by kernel_rfl, fun w' hw => ?y16⟩) hS ?_
          case y16 =>
            clear hS
            have hw2 := hw
            go_simp
          try simp only [Act.put, List.getElem_toArray, List.getElem_cons_zero, List.getElem_cons_succ, List.setIfInBounds_toArray, List.set_cons_zero, List.set_cons_succ]
          refine wpAnyH_take (i := 17) (v := .bool false) rfl (by kernel_rfl) (by kernel_rfl) (by kernel_rfl) (fun _ _ _ h => h) (Or.inl ⟨by kernel_rfl, fun w' hw => ?y17⟩) hS ?_
          case y17 =>
            clear hS
            have hw2 := hw
            go_simp
          try simp only [Act.put, List.getElem_toArray, List.getElem_cons_zero, List.getElem_cons_succ, List.setIfInBounds_toArray, List.set_cons_zero, List.set_cons_succ]
          refine wpAnyH_done (by kernel_rfl) ?_ _
          all_goals
            have hB7 := Mr.hid (hB5.out.trans (hB6.mono hB5.out.size))
            clear KK MA k0 k1 k2 k3 k4 k5 k6 k7 k8
            go_wp2
            go_roundg (gk - 1)
            case measure => omega
            case rel => exact ⟨0 + 1, by simp, by omega, hB7.out, hok.out⟩
        · obtain ⟨m, rfl⟩ : ∃ m, i = m + 1 := ⟨i - 1, by omega⟩
          obtain ⟨d, hdm⟩ := get_of_lt (cs := cs) (i := m) (by have := hn.out; omega)
          obtain ⟨bc', oc', hbo, A9⟩ := call_at (hv.out.below hB5) hdm
          cases hbo
          obtain ⟨hbl, -, -, -, -, d4, -, -, -, -⟩ := A9
          have hmw2 : IntKind.i64.wrap (m : Int) = (m : Int) := i64x _ (by omega) (by omega)
          have hmw3 : IntKind.i64.wrap ((m : Int) + 1 - 1) = (m : Int) := by rw [show (m : Int) + 1 - 1 = (m : Int) from by omega]; exact i64x _ (by omega) (by omega)
          have hm3 : (0 : Int) < (m : Int) + 1 := by omega
          have hm1 : (0 : Int) ≤ (m : Int) := by omega
          have hm2 : (m : Int) < (n : Int) := by omega
          have hm4 : (0 : Int) < ((m + 1 : Nat) : Int) := by omega
          replace hB5 := Mr.hid hB5
          by_cases hr : d.beg < c.beg
          · have hok := hU.out.succ hci.out hf (fun d' h hd' => by rw [Nat.add_sub_cancel, hdm] at hd'; cases hd'; exact hr)
            have hz : decide (c.beg ≤ d.beg) = false := decide_eq_false (by omega)
            replace hok := Mr.hid hok
            replace hf := Mr.hid hf
            replace hr := Mr.hid hr
            replace hdm := Mr.hid hdm
            have KK : Hid (∀ w', Below w5.heap.size w5 w' → w'.cell? ⟨bx, 0, none⟩ = some (.int .i64 c.th) ∧ w'.cell? ⟨bx, 1, none⟩ = some (.int .i64 c.op) ∧ w'.cell? ⟨bx, 2, none⟩ = some (.int .i64 c.arg) ∧ w'.cell? ⟨bx, 3, none⟩ = some (.int .i64 c.data) ∧ w'.cell? ⟨bx, 4, none⟩ = some (.int .i64 c.beg) ∧ w'.cell? ⟨bx, 5, none⟩ = some (.int .i64 c.fin) ∧ w'.cell? ⟨bx, 6, none⟩ = some (.int .i64 c.pt) ∧ w'.cell? ⟨bx, 7, none⟩ = some (.int .i64 c.ak) ∧ w'.cell? ⟨bx, 8, none⟩ = some (.int .i64 c.av) ∧ w'.cell? ⟨bc, oc + m * 9 + 4, none⟩ = some (.int .i64 d.beg)) := fun w' hB => ⟨(hB.cell (p := ⟨bx, _, none⟩) kl).trans k0, (hB.cell (p := ⟨bx, _, none⟩) kl).trans k1, (hB.cell (p := ⟨bx, _, none⟩) kl).trans k2, (hB.cell (p := ⟨bx, _, none⟩) kl).trans k3, (hB.cell (p := ⟨bx, _, none⟩) kl).trans k4, (hB.cell (p := ⟨bx, _, none⟩) kl).trans k5, (hB.cell (p := ⟨bx, _, none⟩) kl).trans k6, (hB.cell (p := ⟨bx, _, none⟩) kl).trans k7, (hB.cell (p := ⟨bx, _, none⟩) kl).trans k8, (hB.cell (p := ⟨bc, _, none⟩) hbl).trans d4⟩
            go_region_held3 (fun w' => w'.cell? ⟨bx, 0, none⟩ = some (.int .i64 c.th) ∧ w'.cell? ⟨bx, 1, none⟩ = some (.int .i64 c.op) ∧ w'.cell? ⟨bx, 2, none⟩ = some (.int .i64 c.arg) ∧ w'.cell? ⟨bx, 3, none⟩ = some (.int .i64 c.data) ∧ w'.cell? ⟨bx, 4, none⟩ = some (.int .i64 c.beg) ∧ w'.cell? ⟨bx, 5, none⟩ = some (.int .i64 c.fin) ∧ w'.cell? ⟨bx, 6, none⟩ = some (.int .i64 c.pt) ∧ w'.cell? ⟨bx, 7, none⟩ = some (.int .i64 c.ak) ∧ w'.cell? ⟨bx, 8, none⟩ = some (.int .i64 c.av) ∧ w'.cell? ⟨bc, oc + m * 9 + 4, none⟩ = some (.int .i64 d.beg)) (first | exact KK.out _ (by assumption) | go_keep) (first | (go_at_call 29; refine (MA.out _).mono ?_; rintro e w6 ⟨rfl, hB6⟩; replace hB6 : Below w5.heap.size w5 w6 := ⟨hB6.os, hB6.tape, hB6.output, hB6.size, hB6.block⟩))
            all_goals
              have hB7 := Mr.hid (hB5.out.trans (hB6.mono hB5.out.size))
              clear KK MA k0 k1 k2 k3 k4 k5 k6 k7 k8
              go_wp2
              go_roundg (gk - 1)
              case measure => omega
              case rel => exact ⟨m + 1 + 1, by simp, by omega, hB7.out, hok.out⟩
          · have hbf : b = false := by rw [hb.out]; exact mayB_false (not_may_rise hci.out hdm hr)
            have hz : decide (c.beg ≤ d.beg) = true := decide_eq_true (by omega)
            subst hbf
            replace hf := Mr.hid hf
            replace hr := Mr.hid hr
            replace hdm := Mr.hid hdm
            have KK : Hid (∀ w', Below w5.heap.size w5 w' → w'.cell? ⟨bx, 0, none⟩ = some (.int .i64 c.th) ∧ w'.cell? ⟨bx, 1, none⟩ = some (.int .i64 c.op) ∧ w'.cell? ⟨bx, 2, none⟩ = some (.int .i64 c.arg) ∧ w'.cell? ⟨bx, 3, none⟩ = some (.int .i64 c.data) ∧ w'.cell? ⟨bx, 4, none⟩ = some (.int .i64 c.beg) ∧ w'.cell? ⟨bx, 5, none⟩ = some (.int .i64 c.fin) ∧ w'.cell? ⟨bx, 6, none⟩ = some (.int .i64 c.pt) ∧ w'.cell? ⟨bx, 7, none⟩ = some (.int .i64 c.ak) ∧ w'.cell? ⟨bx, 8, none⟩ = some (.int .i64 c.av) ∧ w'.cell? ⟨bc, oc + m * 9 + 4, none⟩ = some (.int .i64 d.beg)) := fun w' hB => ⟨(hB.cell (p := ⟨bx, _, none⟩) kl).trans k0, (hB.cell (p := ⟨bx, _, none⟩) kl).trans k1, (hB.cell (p := ⟨bx, _, none⟩) kl).trans k2, (hB.cell (p := ⟨bx, _, none⟩) kl).trans k3, (hB.cell (p := ⟨bx, _, none⟩) kl).trans k4, (hB.cell (p := ⟨bx, _, none⟩) kl).trans k5, (hB.cell (p := ⟨bx, _, none⟩) kl).trans k6, (hB.cell (p := ⟨bx, _, none⟩) kl).trans k7, (hB.cell (p := ⟨bx, _, none⟩) kl).trans k8, (hB.cell (p := ⟨bc, _, none⟩) hbl).trans d4⟩
            go_region_held3 (fun w' => w'.cell? ⟨bx, 0, none⟩ = some (.int .i64 c.th) ∧ w'.cell? ⟨bx, 1, none⟩ = some (.int .i64 c.op) ∧ w'.cell? ⟨bx, 2, none⟩ = some (.int .i64 c.arg) ∧ w'.cell? ⟨bx, 3, none⟩ = some (.int .i64 c.data) ∧ w'.cell? ⟨bx, 4, none⟩ = some (.int .i64 c.beg) ∧ w'.cell? ⟨bx, 5, none⟩ = some (.int .i64 c.fin) ∧ w'.cell? ⟨bx, 6, none⟩ = some (.int .i64 c.pt) ∧ w'.cell? ⟨bx, 7, none⟩ = some (.int .i64 c.ak) ∧ w'.cell? ⟨bx, 8, none⟩ = some (.int .i64 c.av) ∧ w'.cell? ⟨bc, oc + m * 9 + 4, none⟩ = some (.int .i64 d.beg)) (first | exact KK.out _ (by assumption) | go_keep) (first | (go_at_call 29; refine (MA.out _).mono ?_; rintro e w6 ⟨rfl, hB6⟩; replace hB6 : Below w5.heap.size w5 w6 := ⟨hB6.os, hB6.tape, hB6.output, hB6.size, hB6.block⟩))
            all_goals
              have hB7 := Mr.hid (hB5.out.trans (hB6.mono hB5.out.size))
              clear KK MA k0 k1 k2 k3 k4 k5 k6 k7 k8
              go_wp2
              go_ret
              exact ⟨rfl, hB7.out⟩
      · rw [decide_eq_false hf] at MA
        have hbf : b = false := by rw [hb.out]; exact mayB_false (not_may_up hci.out hf)
        subst hbf
        replace MA := Mr.hid MA
        replace hf := Mr.hid hf
        replace hB5 := Mr.hid hB5
        have KK : Hid (∀ w', Below w5.heap.size w5 w' → w'.cell? ⟨bx, 0, none⟩ = some (.int .i64 c.th) ∧ w'.cell? ⟨bx, 1, none⟩ = some (.int .i64 c.op) ∧ w'.cell? ⟨bx, 2, none⟩ = some (.int .i64 c.arg) ∧ w'.cell? ⟨bx, 3, none⟩ = some (.int .i64 c.data) ∧ w'.cell? ⟨bx, 4, none⟩ = some (.int .i64 c.beg) ∧ w'.cell? ⟨bx, 5, none⟩ = some (.int .i64 c.fin) ∧ w'.cell? ⟨bx, 6, none⟩ = some (.int .i64 c.pt) ∧ w'.cell? ⟨bx, 7, none⟩ = some (.int .i64 c.ak) ∧ w'.cell? ⟨bx, 8, none⟩ = some (.int .i64 c.av)) := fun w' hB => ⟨(hB.cell (p := ⟨bx, _, none⟩) kl).trans k0, (hB.cell (p := ⟨bx, _, none⟩) kl).trans k1, (hB.cell (p := ⟨bx, _, none⟩) kl).trans k2, (hB.cell (p := ⟨bx, _, none⟩) kl).trans k3, (hB.cell (p := ⟨bx, _, none⟩) kl).trans k4, (hB.cell (p := ⟨bx, _, none⟩) kl).trans k5, (hB.cell (p := ⟨bx, _, none⟩) kl).trans k6, (hB.cell (p := ⟨bx, _, none⟩) kl).trans k7, (hB.cell (p := ⟨bx, _, none⟩) kl).trans k8⟩
        refine wp_region_held_drew (S := (fun w' => w'.cell? ⟨bx, 0, none⟩ = some (.int .i64 c.th) ∧ w'.cell? ⟨bx, 1, none⟩ = some (.int .i64 c.op) ∧ w'.cell? ⟨bx, 2, none⟩ = some (.int .i64 c.arg) ∧ w'.cell? ⟨bx, 3, none⟩ = some (.int .i64 c.data) ∧ w'.cell? ⟨bx, 4, none⟩ = some (.int .i64 c.beg) ∧ w'.cell? ⟨bx, 5, none⟩ = some (.int .i64 c.fin) ∧ w'.cell? ⟨bx, 6, none⟩ = some (.int .i64 c.pt) ∧ w'.cell? ⟨bx, 7, none⟩ = some (.int .i64 c.ak) ∧ w'.cell? ⟨bx, 8, none⟩ = some (.int .i64 c.av))) (by kernel_rfl) (KK.out _ ((Below.refl _ _).drew)) (fun hS => ?_)
        try simp only [Act.put, List.getElem_toArray, List.getElem_cons_zero, List.getElem_cons_succ, List.setIfInBounds_toArray, List.set_cons_zero, List.set_cons_succ]
        refine wpAnyH_take (i := 0) (v := Value.agg #[.int .i64 c.th, .int .i64 c.op, .int .i64 c.arg, .int .i64 c.data, .int .i64 c.beg, .int .i64 c.fin, .int .i64 c.pt, .int .i64 c.ak, .int .i64 c.av]) rfl (by kernel_rfl) (by kernel_rfl) (by kernel_rfl) (fun _ _ _ h => h) (Or.inl ⟨by kernel_rfl, fun w' hw => ?y0⟩) hS ?_
        case y0 =>
          clear hS
          obtain ⟨hw0, hw1, hw2, hw3, hw4, hw5, hw6, hw7, hw8⟩ := hw
          go_simp
        try simp only [Act.put, List.getElem_toArray, List.getElem_cons_zero, List.getElem_cons_succ, List.setIfInBounds_toArray, List.set_cons_zero, List.set_cons_succ]
        refine wpAnyH_ready (rs := [1]) (by kernel_rfl) (by simp) ?_
        refine AllReadyH.cons rfl (fun K hK => ?_) AllReadyH.nil
        try simp only [Act.put, List.getElem_toArray, List.getElem_cons_zero, List.getElem_cons_succ, List.setIfInBounds_toArray, List.set_cons_zero, List.set_cons_succ]
        go_simp
        (go_at_call 29; refine (MA.out _).mono ?_; rintro e w6 ⟨rfl, hB6⟩; replace hB6 : Below w5.heap.size w5 w6 := ⟨hB6.os, hB6.tape, hB6.output, hB6.size, hB6.block⟩)
        try (go_wp2_with fail)
        refine hK.out _ _ (KK.out _ hB6) (fun hS => ?_)
        clear hK K
        try simp only [Act.put, List.getElem_toArray, List.getElem_cons_zero, List.getElem_cons_succ, List.setIfInBounds_toArray, List.set_cons_zero, List.set_cons_succ]
        refine wpAnyH_take (i := 2) (v := .bool true) rfl (by kernel_rfl) (by kernel_rfl) (by kernel_rfl) (fun _ _ _ h => h) (Or.inl ⟨by kernel_rfl, fun w' hw => ?y2⟩) hS ?_
        case y2 =>
          clear hS
          have hw2 := hw
          go_simp
        try simp only [Act.put, List.getElem_toArray, List.getElem_cons_zero, List.getElem_cons_succ, List.setIfInBounds_toArray, List.set_cons_zero, List.set_cons_succ]
        refine wpAnyH_take (i := 3) (v := .bool true) rfl (by kernel_rfl) (by kernel_rfl) (by kernel_rfl) (fun _ _ _ h => h) (Or.inl ⟨by kernel_rfl, fun w' hw => ?y3⟩) hS ?_
        case y3 =>
          clear hS
          have hw2 := hw
          go_simp
        try simp only [Act.put, List.getElem_toArray, List.getElem_cons_zero, List.getElem_cons_succ, List.setIfInBounds_toArray, List.set_cons_zero, List.set_cons_succ]
        refine wpAnyH_take (i := 4) (v := undef) rfl (by kernel_rfl) (by kernel_rfl) (by kernel_rfl) (fun _ _ _ h => h) (Or.inr ⟨by kernel_rfl, rfl⟩) hS ?_
        try simp only [Act.put, List.getElem_toArray, List.getElem_cons_zero, List.getElem_cons_succ, List.setIfInBounds_toArray, List.set_cons_zero, List.set_cons_succ]
        refine wpAnyH_take (i := 5) (v := undef) rfl (by kernel_rfl) (by kernel_rfl) (by kernel_rfl) (fun _ _ _ h => h) (Or.inr ⟨by kernel_rfl, rfl⟩) hS ?_
        try simp only [Act.put, List.getElem_toArray, List.getElem_cons_zero, List.getElem_cons_succ, List.setIfInBounds_toArray, List.set_cons_zero, List.set_cons_succ]
        refine wpAnyH_take (i := 6) (v := undef) rfl (by kernel_rfl) (by kernel_rfl) (by kernel_rfl) (fun _ _ _ h => h) (Or.inr ⟨by kernel_rfl, rfl⟩) hS ?_
        try simp only [Act.put, List.getElem_toArray, List.getElem_cons_zero, List.getElem_cons_succ, List.setIfInBounds_toArray, List.set_cons_zero, List.set_cons_succ]
        refine wpAnyH_take (i := 7) (v := undef) rfl (by kernel_rfl) (by kernel_rfl) (by kernel_rfl) (fun _ _ _ h => h) (Or.inr ⟨by kernel_rfl, rfl⟩) hS ?_
        try simp only [Act.put, List.getElem_toArray, List.getElem_cons_zero, List.getElem_cons_succ, List.setIfInBounds_toArray, List.set_cons_zero, List.set_cons_succ]
        refine wpAnyH_take (i := 8) (v := undef) rfl (by kernel_rfl) (by kernel_rfl) (by kernel_rfl) (fun _ _ _ h => h) (Or.inr ⟨by kernel_rfl, rfl⟩) hS ?_
        try simp only [Act.put, List.getElem_toArray, List.getElem_cons_zero, List.getElem_cons_succ, List.setIfInBounds_toArray, List.set_cons_zero, List.set_cons_succ]
        refine wpAnyH_take (i := 9) (v := undef) rfl (by kernel_rfl) (by kernel_rfl) (by kernel_rfl) (fun _ _ _ h => h) (Or.inr ⟨by kernel_rfl, rfl⟩) hS ?_
        try simp only [Act.put, List.getElem_toArray, List.getElem_cons_zero, List.getElem_cons_succ, List.setIfInBounds_toArray, List.set_cons_zero, List.set_cons_succ]
        refine wpAnyH_take (i := 10) (v := undef) rfl (by kernel_rfl) (by kernel_rfl) (by kernel_rfl) (fun _ _ _ h => h) (Or.inr ⟨by kernel_rfl, rfl⟩) hS ?_
        try simp only [Act.put, List.getElem_toArray, List.getElem_cons_zero, List.getElem_cons_succ, List.setIfInBounds_toArray, List.set_cons_zero, List.set_cons_succ]
        refine wpAnyH_take (i := 11) (v := undef) rfl (by kernel_rfl) (by kernel_rfl) (by kernel_rfl) (fun _ _ _ h => h) (Or.inr ⟨by kernel_rfl, rfl⟩) hS ?_
        try simp only [Act.put, List.getElem_toArray, List.getElem_cons_zero, List.getElem_cons_succ, List.setIfInBounds_toArray, List.set_cons_zero, List.set_cons_succ]
        refine wpAnyH_take (i := 12) (v := undef) rfl (by kernel_rfl) (by kernel_rfl) (by kernel_rfl) (fun _ _ _ h => h) (Or.inr ⟨by kernel_rfl, rfl⟩) hS ?_
        try simp only [Act.put, List.getElem_toArray, List.getElem_cons_zero, List.getElem_cons_succ, List.setIfInBounds_toArray, List.set_cons_zero, List.set_cons_succ]
        refine wpAnyH_take (i := 13) (v := undef) rfl (by kernel_rfl) (by kernel_rfl) (by kernel_rfl) (fun _ _ _ h => h) (Or.inr ⟨by kernel_rfl, rfl⟩) hS ?_
        try simp only [Act.put, List.getElem_toArray, List.getElem_cons_zero, List.getElem_cons_succ, List.setIfInBounds_toArray, List.set_cons_zero, List.set_cons_succ]
        refine wpAnyH_take (i := 14) (v := undef) rfl (by kernel_rfl) (by kernel_rfl) (by kernel_rfl) (fun _ _ _ h => h) (Or.inr ⟨by kernel_rfl, rfl⟩) hS ?_
        try simp only [Act.put, List.getElem_toArray, List.getElem_cons_zero, List.getElem_cons_succ, List.setIfInBounds_toArray, List.set_cons_zero, List.set_cons_succ]
        refine wpAnyH_take (i := 15) (v := undef) rfl (by kernel_rfl) (by kernel_rfl) (by kernel_rfl) (fun _ _ _ h => h) (Or.inr ⟨by kernel_rfl, rfl⟩) hS ?_
        try simp only [Act.put, List.getElem_toArray, List.getElem_cons_zero, List.getElem_cons_succ, List.setIfInBounds_toArray, List.set_cons_zero, List.set_cons_succ]
        refine wpAnyH_take (i := 16) (v := undef) rfl (by kernel_rfl) (by kernel_rfl) (by kernel_rfl) (fun _ _ _ h => h) (Or.inr ⟨by kernel_rfl, rfl⟩) hS ?_
        try simp only [Act.put, List.getElem_toArray, List.getElem_cons_zero, List.getElem_cons_succ, List.setIfInBounds_toArray, List.set_cons_zero, List.set_cons_succ]
        refine wpAnyH_take (i := 17) (v := .bool true) rfl (by kernel_rfl) (by kernel_rfl) (by kernel_rfl) (fun _ _ _ h => h) (Or.inl ⟨by kernel_rfl, fun w' hw => ?y17⟩) hS ?_
        case y17 =>
          clear hS
          have hw2 := hw
          go_simp
        try simp only [Act.put, List.getElem_toArray, List.getElem_cons_zero, List.getElem_cons_succ, List.setIfInBounds_toArray, List.set_cons_zero, List.set_cons_succ]
        refine wpAnyH_done (by kernel_rfl) ?_ _
        all_goals
          have hB7 := Mr.hid (hB5.out.trans (hB6.mono hB5.out.size))
          clear KK MA k0 k1 k2 k3 k4 k5 k6 k7 k8
          go_wp2
          go_ret
          exact ⟨rfl, hB7.out⟩
    · have hin : i = cs.length := by have := hn.out; omega
      rw [hin] at hU
      have dl : decide ((i : Int) < (n : Int)) = false := decide_eq_false (by omega)
      replace hB := Mr.hid hB
      by_cases hA : (mvl cs).Nodup
      · have A1 := fun w' hB => AP.out w' hB true (by simp [hA])
        by_cases hT : Turn AhP cs cs.length
        · have hbt : b = true := by rw [hb.out]; exact mayB_true ⟨hU, (apart_mvl hU).1 hA, hT⟩
          have I1 := fun w' hB => IT.out w' hB hU true (by simp [hT])
          subst hbt
          clear AP IT
          replace A1 := Mr.hid A1
          replace I1 := Mr.hid I1
          replace hA := Mr.hid hA
          replace hT := Mr.hid hT
          replace hU := Mr.hid hU
          go_wp2_with (first
            | (go_at_call 30; refine (A1.out _ hB.out).mono ?_; clear A1; rintro e w2 ⟨rfl, hB2⟩; replace hB2 := Mr.hid (hB.out.trans (hB2.mono hB.out.size)))
            | (go_at_call 31; refine (I1.out _ hB2.out).mono ?_; clear I1; rintro e w3 ⟨rfl, hB3⟩; replace hB3 := Mr.hid (hB2.out.trans (hB3.mono hB2.out.size))))
          go_ret
          exact ⟨rfl, hB3.out⟩
        · have hbt : b = false := by rw [hb.out]; exact mayB_false (fun h => hT h.2.2)
          have I1 := fun w' hB => IT.out w' hB hU false (by simp [hT])
          subst hbt
          clear AP IT
          replace A1 := Mr.hid A1
          replace I1 := Mr.hid I1
          replace hA := Mr.hid hA
          replace hT := Mr.hid hT
          replace hU := Mr.hid hU
          go_wp2_with (first
            | (go_at_call 30; refine (A1.out _ hB.out).mono ?_; clear A1; rintro e w2 ⟨rfl, hB2⟩; replace hB2 := Mr.hid (hB.out.trans (hB2.mono hB.out.size)))
            | (go_at_call 31; refine (I1.out _ hB2.out).mono ?_; clear I1; rintro e w3 ⟨rfl, hB3⟩; replace hB3 := Mr.hid (hB2.out.trans (hB3.mono hB2.out.size))))
          go_ret
          exact ⟨rfl, hB3.out⟩
      · have A1 := fun w' hB => AP.out w' hB false (by simp [hA])
        have hbt : b = false := by rw [hb.out]; exact mayB_false (fun h => hA ((apart_mvl hU).2 h.2.1))
        subst hbt
        clear AP IT
        replace A1 := Mr.hid A1
        replace hA := Mr.hid hA
        replace hU := Mr.hid hU
        go_wp2_with (first
          | (go_at_call 30; refine (A1.out _ hB.out).mono ?_; clear A1; rintro e w2 ⟨rfl, hB2⟩; replace hB2 := Mr.hid (hB.out.trans (hB2.mono hB.out.size))))
        go_ret
        exact ⟨rfl, hB2.out⟩
end Go.Proofs.YtfgnaffomglmdaaGreat.Wt
/-
  WITNESS: numbers of calls; the document's Ahead; the law's num.
-/
namespace Go.Proofs.YtfgnaffomglmdaaGreat.Wt
open Go.RowKit Mr Md
set_option linter.unusedVariables false
set_option linter.unusedSimpArgs false
set_option maxRecDepth 100000
set_option maxHeartbeats 4000000 in
theorem isNumber_any (a : Option Addr) (n cap : Nat) (i : Int) (w : World) : Calls Tryz.prog 32 #[.slice a n cap, .int .i64 i] w fun e w' => e = .returned (.bool (decide (0 ≤ i ∧ i < (n : Int)))) ∧ w = w' := by
  obtain ⟨b, hb⟩ : ∃ b, b = decide (0 ≤ i ∧ i < (n : Int)) := ⟨_, rfl⟩
  rw [← hb]
  replace hb : Hid (b = true ↔ 0 ≤ i ∧ i < (n : Int)) := by rw [hb]; exact decide_eq_true_iff
  go_enter Tryz.func32, Tryz.ntmps32
  go_wp2
  all_goals
    go_ret
    refine ⟨ret_bool ?_, rfl⟩
    rw [Bool.eq_iff_iff, hb.out]
    clear hb
    simp at *
    try omega
set_option maxHeartbeats 4000000 in
theorem num_any (e : Int) (w : World) : Calls Tryz.prog 14 #[.int .i64 e] w fun x w' => x = .returned (.int .i64 e) ∧ w = w' := by
  go_enter Tryz.func14, Tryz.ntmps14
  go_wp2
  go_ret
  exact ⟨rfl, rfl⟩
section
variable {W : World} {T : Nat → Prop} {v : Value} {cs : List Cq}
set_option maxHeartbeats 8000000 in
theorem rAhead_any (hv : Sl W T 9 v cs.length (cqs cs)) (hsm : cs.length * 72 ≤ 281474976710656) {i j : Nat} {c d : Cq} (hc : cs[i]? = some c) (hd : cs[j]? = some d) :
    Calls Tryz.prog 41 #[v, .int .i64 (i : Int), .int .i64 (j : Int)] W fun e w' => e = .returned (.bool (ahB c d)) ∧ Below W.heap.size W w' := by
  have hi := (List.getElem?_eq_some_iff.1 hc).1
  have hj := (List.getElem?_eq_some_iff.1 hd).1
  obtain ⟨a, cap, rfl, hcap⟩ := hv.form
  obtain ⟨bc, oc, rfl, ⟨hbl, g0, g1, g2, g3, g4, g5, g6, g7, g8⟩⟩ := call_at hv hc
  obtain ⟨b2, o2, e2, ⟨-, k0, k1, k2, k3, k4, k5, k6, k7, k8⟩⟩ := call_at hv hd
  cases e2
  obtain ⟨n, hn⟩ : ∃ n, n = cs.length := ⟨_, rfl⟩
  rw [← hn] at hi hj hsm ⊢
  have f1 : (i : Int) < (n : Int) := by omega
  have f2 : (j : Int) < (n : Int) := by omega
  clear hv hn hc hd hcap g0 g1 g2 g3 g4 g6 g7 g8 k0 k1 k2 k3 k5 k6 k7 k8
  by_cases h : c.fin = -1
  · have h2 : (c.fin != -1) = false := by simp [h]
    have hq : ahB c d = false := by simp [ahB, h]
    rw [hq]
    replace h := Mr.hid h
    go_enter Tryz.func41, Tryz.ntmps41
    go_upto_region 1 with (fail)
    go_quiet (fail)
    go_wp2
    go_ret
    exact ⟨rfl, Bx.draws _ _ nq⟩
  · have h2 : (c.fin != -1) = true := by simp [h]
    obtain ⟨q, hq2⟩ : ∃ q, q = decide (c.fin < d.beg) := ⟨_, rfl⟩
    have hq : ahB c d = q := by rw [hq2]; simp [ahB, h]
    rw [hq]
    replace h := Mr.hid h
    go_enter Tryz.func41, Tryz.ntmps41
    go_upto_region 1 with (fail)
    go_quiet (fail)
    go_wp2
    go_ret
    exact ⟨ret_bool hq2.symm, Bx.draws _ _ nq⟩
end
end Go.Proofs.YtfgnaffomglmdaaGreat.Wt
