/-
  WITNESS: Before, and the document's Ahead; the law's before.
-/
import Derived.Test.YtfgnaffomglmdaaWtMay
import Derived.Test.YtfgnaffomglmdaaWtRmay
namespace Go.Proofs.Ytfgnaffomglmdaa.Wt
open Go.RowKit Mr Md
set_option linter.unusedVariables false
set_option linter.unusedSimpArgs false
set_option maxRecDepth 100000
set_option maxHeartbeats 4000000 in
theorem isNumber_any (a : Option Addr) (n cap : Nat) (i : Int) (w : World) : Calls Try.prog 35 #[.slice a n cap, .int .i64 i] w fun e w' => e = .returned (.bool (decide (0 ≤ i ∧ i < (n : Int)))) ∧ w = w' := by
  obtain ⟨b, hb⟩ : ∃ b, b = decide (0 ≤ i ∧ i < (n : Int)) := ⟨_, rfl⟩
  rw [← hb]
  replace hb : Hid (b = true ↔ 0 ≤ i ∧ i < (n : Int)) := by rw [hb]; exact decide_eq_true_iff
  go_enter Try.func35, Try.ntmps35
  go_wp2
  all_goals
    go_ret
    refine ⟨ret_bool ?_, rfl⟩
    rw [Bool.eq_iff_iff, hb.out]
    clear hb
    simp at *
    try omega
set_option maxHeartbeats 4000000 in
theorem num_any (e : Int) (w : World) : Calls Try.prog 13 #[.int .i64 e] w fun x w' => x = .returned (.int .i64 e) ∧ w = w' := by
  go_enter Try.func13, Try.ntmps13
  go_wp2
  go_ret
  exact ⟨rfl, rfl⟩
section
variable {W : World} {T : Nat → Prop} {v : Value} {cs : List Cq}
set_option maxHeartbeats 8000000 in
theorem before_no (hv : Sl W T 9 v cs.length (cqs cs)) (hsm : cs.length * 72 ≤ 281474976710656) (hm : ¬ MayC cs) (i j : Int) :
    Calls Try.prog 22 #[v, .int .i64 i, .int .i64 j] W fun e w' => e = .returned (.tuple #[.bool false, .int .i64 120]) ∧ Below W.heap.size W w' := by
  have PM := may_any hv hsm
  rw [mayB_false hm] at PM
  obtain ⟨a, cap, rfl, hcap⟩ := hv.form
  generalize cs.length = n at *
  replace PM := Mr.hid PM
  clear hv hm hsm
  go_enter Try.func22, Try.ntmps22
  go_wp2_with (go_at_call 7; refine PM.out.mono ?_; clear PM; rintro e w1 ⟨rfl, hB1⟩)
  refine bodyPost_ret (v := .tuple #[.bool false, .int .i64 120]) (by simp [results, Try.results22, go_sem]) rfl ?_
  exact ⟨rfl, hB1⟩
set_option maxHeartbeats 8000000 in
theorem before_out (hv : Sl W T 9 v cs.length (cqs cs)) (hsm : cs.length * 72 ≤ 281474976710656) (hm : MayC cs) (i j : Int) (ho : ¬ ((0 ≤ i ∧ i < (cs.length : Int)) ∧ 0 ≤ j ∧ j < (cs.length : Int))) :
    Calls Try.prog 22 #[v, .int .i64 i, .int .i64 j] W fun e w' => e = .returned (.tuple #[.bool false, .int .i64 2]) ∧ Below W.heap.size W w' := by
  have PM := may_any hv hsm
  rw [mayB_true hm] at PM
  obtain ⟨a, cap, rfl, hcap⟩ := hv.form
  have N1 := fun w => isNumber_any a cs.length cap i w
  have N2 := fun w => isNumber_any a cs.length cap j w
  generalize cs.length = n at *
  clear hv hm hsm
  replace PM := Mr.hid PM
  by_cases h1 : 0 ≤ i ∧ i < (n : Int)
  · have h2 : ¬ (0 ≤ j ∧ j < (n : Int)) := fun h => ho ⟨h1, h⟩
    rw [decide_eq_true h1] at N1
    rw [decide_eq_false h2] at N2
    clear h1 h2 ho
    replace N1 := Mr.hid N1
    replace N2 := Mr.hid N2
    go_enter Try.func22, Try.ntmps22
    go_wp2_with (first
      | (go_at_call 7; refine PM.out.mono ?_; clear PM; rintro e w1 ⟨rfl, hB1⟩; replace hB1 := Mr.hid hB1)
      | (go_at_call 35; refine (N1.out _).mono ?_; clear N1; rintro e w' ⟨rfl, rfl⟩)
      | (go_at_call 35; refine (N2.out _).mono ?_; clear N2; rintro e w' ⟨rfl, rfl⟩))
    refine bodyPost_ret (v := .tuple #[.bool false, .int .i64 2]) (by simp [results, Try.results22, go_sem]) rfl ?_
    exact ⟨rfl, hB1.out⟩
  · rw [decide_eq_false h1] at N1
    clear h1 ho N2
    replace N1 := Mr.hid N1
    go_enter Try.func22, Try.ntmps22
    go_wp2_with (first
      | (go_at_call 7; refine PM.out.mono ?_; clear PM; rintro e w1 ⟨rfl, hB1⟩; replace hB1 := Mr.hid hB1)
      | (go_at_call 35; refine (N1.out _).mono ?_; clear N1; rintro e w' ⟨rfl, rfl⟩))
    refine bodyPost_ret (v := .tuple #[.bool false, .int .i64 2]) (by simp [results, Try.results22, go_sem]) rfl ?_
    exact ⟨rfl, hB1.out⟩
set_option maxHeartbeats 8000000 in
theorem before_in (hv : Sl W T 9 v cs.length (cqs cs)) (hsm : cs.length * 72 ≤ 281474976710656) (hm : MayC cs) {i j : Nat} {c d : Cq} (hc : cs[i]? = some c) (hd : cs[j]? = some d) :
    Calls Try.prog 22 #[v, .int .i64 (i : Int), .int .i64 (j : Int)] W fun e w' => e = .returned (.tuple #[.bool (ahB c d), .int .i64 0]) ∧ Below W.heap.size W w' := by
  have PM := may_any hv hsm
  rw [mayB_true hm] at PM
  have hi := (List.getElem?_eq_some_iff.1 hc).1
  have hj := (List.getElem?_eq_some_iff.1 hd).1
  obtain ⟨a, cap, rfl, hcap⟩ := hv.form
  have N1 := fun w => isNumber_any a cs.length cap i w
  have N2 := fun w => isNumber_any a cs.length cap j w
  rw [decide_eq_true (show 0 ≤ (i : Int) ∧ (i : Int) < (cs.length : Int) by omega)] at N1
  rw [decide_eq_true (show 0 ≤ (j : Int) ∧ (j : Int) < (cs.length : Int) by omega)] at N2
  have AA := fun w => ahead_any c d w
  unfold Cq.val at AA
  obtain ⟨q, hq⟩ : ∃ q, q = ahB c d := ⟨_, rfl⟩
  rw [← hq] at AA ⊢
  have RC : ∀ w, Below W.heap.size W w → ∃ bc oc, a = some ⟨bc, oc, none⟩ ∧ At9 w bc (oc + i * 9) c ∧ At9 w bc (oc + j * 9) d := fun w hB => by
    obtain ⟨b1, o1, e1, h1⟩ := call_at (hv.below hB) hc
    obtain ⟨b2, o2, e2, h2⟩ := call_at (hv.below hB) hd
    rw [e1] at e2; cases e2
    exact ⟨b1, o1, e1, h1, h2⟩
  obtain ⟨n, hn⟩ : ∃ n, n = cs.length := ⟨_, rfl⟩
  rw [← hn] at PM N1 N2 hi hj hsm ⊢
  have f1 : (i : Int) < (n : Int) := by omega
  have f2 : (j : Int) < (n : Int) := by omega
  clear hv hm hq hn hc hd hcap
  replace PM := Mr.hid PM
  replace N1 := Mr.hid N1
  replace N2 := Mr.hid N2
  replace AA := Mr.hid AA
  replace RC := Mr.hid RC
  go_enter Try.func22, Try.ntmps22
  go_upto_region 5 with (first
      | (go_at_call 7; refine PM.out.mono ?_; clear PM; rintro e w1 ⟨rfl, hB1⟩; replace hB1 := Mr.hid hB1)
      | (go_at_call 35; refine (N1.out _).mono ?_; clear N1; rintro e w' ⟨rfl, rfl⟩)
      | (go_at_call 35; refine (N2.out _).mono ?_; clear N2; rintro e w' ⟨rfl, rfl⟩))
  obtain ⟨bc, oc, rfl, ⟨hbl, g0, g1, g2, g3, g4, g5, g6, g7, g8⟩, ⟨-, k0, k1, k2, k3, k4, k5, k6, k7, k8⟩⟩ := RC.out _ hB1.out
  have KK : Hid (∀ w', Below w1.heap.size w1 w' → w'.cell? ⟨bc, oc + i * 9, none⟩ = some (.int .i64 c.th) ∧ w'.cell? ⟨bc, oc + i * 9 + 1, none⟩ = some (.int .i64 c.op) ∧ w'.cell? ⟨bc, oc + i * 9 + 2, none⟩ = some (.int .i64 c.arg) ∧ w'.cell? ⟨bc, oc + i * 9 + 3, none⟩ = some (.int .i64 c.data) ∧ w'.cell? ⟨bc, oc + i * 9 + 4, none⟩ = some (.int .i64 c.beg) ∧ w'.cell? ⟨bc, oc + i * 9 + 5, none⟩ = some (.int .i64 c.fin) ∧ w'.cell? ⟨bc, oc + i * 9 + 6, none⟩ = some (.int .i64 c.pt) ∧ w'.cell? ⟨bc, oc + i * 9 + 7, none⟩ = some (.int .i64 c.ak) ∧ w'.cell? ⟨bc, oc + i * 9 + 8, none⟩ = some (.int .i64 c.av) ∧ w'.cell? ⟨bc, oc + j * 9, none⟩ = some (.int .i64 d.th) ∧ w'.cell? ⟨bc, oc + j * 9 + 1, none⟩ = some (.int .i64 d.op) ∧ w'.cell? ⟨bc, oc + j * 9 + 2, none⟩ = some (.int .i64 d.arg) ∧ w'.cell? ⟨bc, oc + j * 9 + 3, none⟩ = some (.int .i64 d.data) ∧ w'.cell? ⟨bc, oc + j * 9 + 4, none⟩ = some (.int .i64 d.beg) ∧ w'.cell? ⟨bc, oc + j * 9 + 5, none⟩ = some (.int .i64 d.fin) ∧ w'.cell? ⟨bc, oc + j * 9 + 6, none⟩ = some (.int .i64 d.pt) ∧ w'.cell? ⟨bc, oc + j * 9 + 7, none⟩ = some (.int .i64 d.ak) ∧ w'.cell? ⟨bc, oc + j * 9 + 8, none⟩ = some (.int .i64 d.av)) := fun w' hB => ⟨(hB.cell (p := ⟨bc, _, none⟩) hbl).trans g0, (hB.cell (p := ⟨bc, _, none⟩) hbl).trans g1, (hB.cell (p := ⟨bc, _, none⟩) hbl).trans g2, (hB.cell (p := ⟨bc, _, none⟩) hbl).trans g3, (hB.cell (p := ⟨bc, _, none⟩) hbl).trans g4, (hB.cell (p := ⟨bc, _, none⟩) hbl).trans g5, (hB.cell (p := ⟨bc, _, none⟩) hbl).trans g6, (hB.cell (p := ⟨bc, _, none⟩) hbl).trans g7, (hB.cell (p := ⟨bc, _, none⟩) hbl).trans g8, (hB.cell (p := ⟨bc, _, none⟩) hbl).trans k0, (hB.cell (p := ⟨bc, _, none⟩) hbl).trans k1, (hB.cell (p := ⟨bc, _, none⟩) hbl).trans k2, (hB.cell (p := ⟨bc, _, none⟩) hbl).trans k3, (hB.cell (p := ⟨bc, _, none⟩) hbl).trans k4, (hB.cell (p := ⟨bc, _, none⟩) hbl).trans k5, (hB.cell (p := ⟨bc, _, none⟩) hbl).trans k6, (hB.cell (p := ⟨bc, _, none⟩) hbl).trans k7, (hB.cell (p := ⟨bc, _, none⟩) hbl).trans k8⟩
  go_region_held3 (fun w' => w'.cell? ⟨bc, oc + i * 9, none⟩ = some (.int .i64 c.th) ∧ w'.cell? ⟨bc, oc + i * 9 + 1, none⟩ = some (.int .i64 c.op) ∧ w'.cell? ⟨bc, oc + i * 9 + 2, none⟩ = some (.int .i64 c.arg) ∧ w'.cell? ⟨bc, oc + i * 9 + 3, none⟩ = some (.int .i64 c.data) ∧ w'.cell? ⟨bc, oc + i * 9 + 4, none⟩ = some (.int .i64 c.beg) ∧ w'.cell? ⟨bc, oc + i * 9 + 5, none⟩ = some (.int .i64 c.fin) ∧ w'.cell? ⟨bc, oc + i * 9 + 6, none⟩ = some (.int .i64 c.pt) ∧ w'.cell? ⟨bc, oc + i * 9 + 7, none⟩ = some (.int .i64 c.ak) ∧ w'.cell? ⟨bc, oc + i * 9 + 8, none⟩ = some (.int .i64 c.av) ∧ w'.cell? ⟨bc, oc + j * 9, none⟩ = some (.int .i64 d.th) ∧ w'.cell? ⟨bc, oc + j * 9 + 1, none⟩ = some (.int .i64 d.op) ∧ w'.cell? ⟨bc, oc + j * 9 + 2, none⟩ = some (.int .i64 d.arg) ∧ w'.cell? ⟨bc, oc + j * 9 + 3, none⟩ = some (.int .i64 d.data) ∧ w'.cell? ⟨bc, oc + j * 9 + 4, none⟩ = some (.int .i64 d.beg) ∧ w'.cell? ⟨bc, oc + j * 9 + 5, none⟩ = some (.int .i64 d.fin) ∧ w'.cell? ⟨bc, oc + j * 9 + 6, none⟩ = some (.int .i64 d.pt) ∧ w'.cell? ⟨bc, oc + j * 9 + 7, none⟩ = some (.int .i64 d.ak) ∧ w'.cell? ⟨bc, oc + j * 9 + 8, none⟩ = some (.int .i64 d.av)) (first | exact KK.out _ (by assumption) | go_keep) (first | (go_at_call 33; refine (AA.out _).mono ?_; rintro e w6 ⟨rfl, hB6⟩; replace hB6 : Below w1.heap.size w1 w6 := ⟨hB6.os, hB6.tape, hB6.output, hB6.size, hB6.block⟩))
  all_goals
    have hB7 := Mr.hid (hB1.out.trans (hB6.mono hB1.out.size))
    clear KK AA g0 g1 g2 g3 g4 g5 g6 g7 g8 k0 k1 k2 k3 k4 k5 k6 k7 k8
    go_wp2
    refine bodyPost_ret (v := .tuple #[.bool q, .int .i64 0]) (by simp [results, Try.results22, go_sem]) rfl ?_
    exact ⟨rfl, hB7.out⟩
set_option maxHeartbeats 8000000 in
theorem rAhead_any (hv : Sl W T 9 v cs.length (cqs cs)) (hsm : cs.length * 72 ≤ 281474976710656) {i j : Nat} {c d : Cq} (hc : cs[i]? = some c) (hd : cs[j]? = some d) :
    Calls Try.prog 23 #[v, .int .i64 (i : Int), .int .i64 (j : Int)] W fun e w' => e = .returned (.bool (ahB c d)) ∧ Below W.heap.size W w' := by
  have hi := (List.getElem?_eq_some_iff.1 hc).1
  have hj := (List.getElem?_eq_some_iff.1 hd).1
  obtain ⟨a, cap, rfl, hcap⟩ := hv.form
  obtain ⟨bc, oc, rfl, ⟨hbl, g0, g1, g2, g3, g4, g5, g6, g7, g8⟩⟩ := call_at hv hc
  obtain ⟨b2, o2, e2, ⟨-, k0, k1, k2, k3, k4, k5, k6, k7, k8⟩⟩ := call_at hv hd
  cases e2
  obtain ⟨n, hn⟩ : ∃ n, n = cs.length := ⟨_, rfl⟩
  rw [← hn] at hi hj hsm ⊢
  have f1 : (i : Int) < (n : Int) := by omega
  have f2 : (j : Int) < (n : Int) := by omega
  clear hv hn hc hd hcap g0 g1 g2 g3 g4 g6 g7 g8 k0 k1 k2 k3 k5 k6 k7 k8
  by_cases h : c.fin = -1
  · have h2 : (c.fin != -1) = false := by simp [h]
    have hq : ahB c d = false := by simp [ahB, h]
    rw [hq]
    replace h := Mr.hid h
    go_enter Try.func23, Try.ntmps23
    go_upto_region 1 with (fail)
    go_quiet (fail)
    go_wp2
    go_ret
    exact ⟨rfl, Bx.draws _ _ nq⟩
  · have h2 : (c.fin != -1) = true := by simp [h]
    obtain ⟨q, hq2⟩ : ∃ q, q = decide (c.fin < d.beg) := ⟨_, rfl⟩
    have hq : ahB c d = q := by rw [hq2]; simp [ahB, h]
    rw [hq]
    replace h := Mr.hid h
    go_enter Try.func23, Try.ntmps23
    go_upto_region 1 with (fail)
    go_quiet (fail)
    go_wp2
    go_ret
    exact ⟨ret_bool hq2.symm, Bx.draws _ _ nq⟩
end
section
variable {W : World} {T T' : Nat → Prop} {v l : Value} {cs : List Cq}
set_option maxHeartbeats 16000000 in
/-- The law's before. -/
theorem lawBefore_any (hl : Sl W T' 9 l cs.length (cqs cs)) (hv : Sl W T 9 v cs.length (cqs cs)) (hsm : cs.length * 72 ≤ 281474976710656) (i j : Int) :
    Calls Try.prog 10 #[l, v, .int .i64 i, .int .i64 j] W fun e w' => e = .returned (.bool true) ∧ Below W.heap.size W w' := by
  have RM := fun w' (hB : Below W.heap.size W w') => rMay_any (hv.below hB) hsm
  have NN := fun e w => num_any e w
  by_cases hm : MayC cs
  · rw [mayB_true hm] at RM
    by_cases ho : (0 ≤ i ∧ i < (cs.length : Int)) ∧ 0 ≤ j ∧ j < (cs.length : Int)
    · obtain ⟨⟨h0, h1⟩, h2, h3⟩ := ho
      obtain ⟨i, rfl⟩ : ∃ k : Nat, i = (k : Int) := ⟨i.toNat, by omega⟩
      obtain ⟨j, rfl⟩ : ∃ k : Nat, j = (k : Int) := ⟨j.toNat, by omega⟩
      obtain ⟨c, hc⟩ := get_of_lt (cs := cs) (i := i) (by omega)
      obtain ⟨d, hd⟩ := get_of_lt (cs := cs) (i := j) (by omega)
      have BI := before_in hl hsm hm hc hd
      have RA := fun w' (hB : Below W.heap.size W w') => rAhead_any (hv.below hB) hsm hc hd
      obtain ⟨a, cap, rfl, hcap⟩ := hv.form
      obtain ⟨al, capl, rfl, hcapl⟩ := hl.form
      generalize ahB c d = q at *
      generalize cs.length = n at *
      have f1 : decide ((n : Int) ≤ (i : Int)) = false := decide_eq_false (by omega)
      have f2 : decide ((n : Int) ≤ (j : Int)) = false := decide_eq_false (by omega)
      have qq : (q == q) = true := by simp
      clear hl hv hm hc hd hsm
      replace BI := Mr.hid BI
      replace RA := Mr.hid RA
      replace RM := Mr.hid RM
      replace NN := Mr.hid NN
      go_enter Try.func10, Try.ntmps10
      go_wp2_with (first
        | (go_at_call 22; refine BI.out.mono ?_; clear BI; rintro e w1 ⟨rfl, hB1⟩; replace hB1 := Mr.hid hB1)
        | (go_at_call 8; refine (RM.out _ hB1.out).mono ?_; clear RM; rintro e w2 ⟨rfl, hB2⟩; replace hB1 := Mr.hid (hB1.out.trans (hB2.mono hB1.out.size)); clear hB2)
        | (go_at_call 23; refine (RA.out _ hB1.out).mono ?_; clear RA; rintro e w3 ⟨rfl, hB2⟩; replace hB1 := Mr.hid (hB1.out.trans (hB2.mono hB1.out.size)); clear hB2)
        | (go_at_call 13; refine (NN.out _ _).mono ?_; rintro e w' ⟨rfl, rfl⟩))
      go_ret
      exact ⟨rfl, hB1.out⟩
    · have BO := before_out hl hsm hm i j ho
      obtain ⟨a, cap, rfl, hcap⟩ := hv.form
      obtain ⟨al, capl, rfl, hcapl⟩ := hl.form
      generalize cs.length = n at *
      clear hl hv hm hsm
      replace BO := Mr.hid BO
      replace RM := Mr.hid RM
      replace NN := Mr.hid NN
      replace ho := Mr.hid ho
      go_enter Try.func10, Try.ntmps10
      go_wp2_with (first
        | (go_at_call 22; refine BO.out.mono ?_; clear BO; rintro e w1 ⟨rfl, hB1⟩; replace hB1 := Mr.hid hB1)
        | (go_at_call 8; refine (RM.out _ hB1.out).mono ?_; clear RM; rintro e w2 ⟨rfl, hB2⟩; replace hB1 := Mr.hid (hB1.out.trans (hB2.mono hB1.out.size)); clear hB2)
        | (go_at_call 23; exfalso; have := ho.out; simp at *; omega)
        | (go_at_call 13; refine (NN.out _ _).mono ?_; rintro e w' ⟨rfl, rfl⟩))
      all_goals
        go_ret
        exact ⟨rfl, hB1.out⟩
  · rw [mayB_false hm] at RM
    have BN := before_no hl hsm hm i j
    obtain ⟨a, cap, rfl, hcap⟩ := hv.form
    obtain ⟨al, capl, rfl, hcapl⟩ := hl.form
    generalize cs.length = n at *
    clear hl hv hm hsm
    replace BN := Mr.hid BN
    replace RM := Mr.hid RM
    replace NN := Mr.hid NN
    go_enter Try.func10, Try.ntmps10
    go_wp2_with (first
      | (go_at_call 22; refine BN.out.mono ?_; clear BN; rintro e w1 ⟨rfl, hB1⟩; replace hB1 := Mr.hid hB1)
      | (go_at_call 8; refine (RM.out _ hB1.out).mono ?_; clear RM; rintro e w2 ⟨rfl, hB2⟩; replace hB1 := Mr.hid (hB1.out.trans (hB2.mono hB1.out.size)); clear hB2)
      | (go_at_call 13; refine (NN.out _ _).mono ?_; rintro e w' ⟨rfl, rfl⟩))
    go_ret
    exact ⟨rfl, hB1.out⟩
end
end Go.Proofs.Ytfgnaffomglmdaa.Wt
