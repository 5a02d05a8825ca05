/-
  WITNESS: Points.
-/
import Derived.Test.YtfgnaffomglmdaaWtMay
import Derived.Test.YtfgnaffomglmdaaWtSortF
import Derived.Test.YtfgnaffomglmdaaWtRpts
namespace Go.Proofs.Ytfgnaffomglmdaa.Wt
open Go.RowKit Mr Md
set_option linter.unusedVariables false
set_option linter.unusedSimpArgs false
set_option maxRecDepth 100000
theorem sl_low {W : World} {T : Nat → Prop} {size n : Nat} {v : Value} {xs : List Value} (h : Sl W T size v n xs) : Sl W (fun k => k < W.heap.size) size v n xs := by
  obtain ⟨h1, a, cap, hv, hc, h2⟩ := h
  refine ⟨h1, a, cap, hv, hc, h2.imp id ?_⟩
  rintro ⟨b, o, ha, _, hl, hr⟩
  exact ⟨b, o, ha, hl, hl, hr⟩
section
variable {W : World} {T : Nat → Prop} {v : Value} {cs : List Cq}
set_option maxHeartbeats 8000000 in
theorem points_no (hv : Sl W T 9 v cs.length (cqs cs)) (hsm : cs.length * 72 ≤ 281474976710656) (hm : ¬ MayC cs) :
    Calls Try.prog 14 #[v] W fun e w' => e = .returned (.tuple #[.slice none 0 0, .int .i64 120]) ∧ Below W.heap.size W w' := by
  have PM := fun o => may_any (hv.below ((Below.refl _ _).alloc (Nat.le_refl _) o)) hsm
  rw [mayB_false hm] at PM
  obtain ⟨a, cap, rfl, hcap⟩ := hv.form
  generalize cs.length = n at *
  replace PM := Mr.hid PM
  clear hv hm hsm
  go_enter Try.func14, Try.ntmps14
  go_wp2_with (go_at_call 7; refine (PM.out _).mono ?_; clear PM; rintro e w1 ⟨rfl, hB1⟩; replace hB1 : Below W.heap.size W w1 := ((Below.refl _ _).alloc (Nat.le_refl _) _).trans (hB1.mono (by simp)))
  refine bodyPost_ret (v := .tuple #[.slice none 0 0, .int .i64 120]) (by simp [results, Try.results14, go_sem]) rfl ?_
  exact ⟨rfl, hB1⟩
set_option maxHeartbeats 16000000 in
theorem points_any (hv : Sl W T 9 v cs.length (cqs cs)) (hsm : cs.length * 72 ≤ 281474976710656) (hm : MayC cs) :
    Calls Try.prog 14 #[v] W fun e w' => ∃ u l, e = .returned (.tuple #[u, .int .i64 0]) ∧ Sl w' (fun k => W.heap.size ≤ k) 1 u l.length (ints l) ∧ l.Perm (pix cs 0) ∧ l.Pairwise (fun a b => ptAt cs a ≤ ptAt cs b) ∧ Below W.heap.size W w' := by
  have PM := fun o => may_any (hv.below ((Below.refl _ _).alloc (Nat.le_refl _) o)) hsm
  rw [mayB_true hm] at PM
  obtain ⟨i0, hi0, hz0, hz1, hz2⟩ := parts_of wt_int
  obtain ⟨a, cap, rfl, hcap⟩ := hv.form
  have hv1 := sl_low hv
  obtain ⟨n, hn⟩ : ∃ n, n = cs.length := ⟨_, rfl⟩
  rw [← hn] at hsm hcap PM ⊢
  replace hn := Mr.hid hn
  replace hv := Mr.hid hv1
  clear hv1 hm
  replace PM := Mr.hid PM
  go_enter Try.func14, Try.ntmps14
  go_wp2_with (go_at_call 7; refine (PM.out _).mono ?_; clear PM; rintro e W1 ⟨rfl, hB1⟩; have hbx : W1.cell? ⟨W.heap.size, 0, none⟩ = some (.slice a n cap) := (by rw [hB1.cell (p := ⟨W.heap.size, 0, none⟩) (by simp)]; simp); have hbl : W.heap.size < W1.heap.size := Nat.lt_of_lt_of_le (by simp) hB1.size; replace hB1 : Below W.heap.size W W1 := ((Below.refl _ _).alloc (Nat.le_refl _) _).trans (hB1.mono (by simp)); replace hB1 := Mr.hid hB1)
  have hv1 := Mr.hid (hv.out.below hB1.out)
  have hBX := Mr.hid (fun w (hB : Below W1.heap.size W1 w) => (hB.cell (p := ⟨W.heap.size, 0, none⟩) hbl).trans hbx)
  go_loopg [4, 12] n (fun k s4 s12 wr => ∃ i : Nat, s12 = .int .i64 (i : Int) ∧ i + k = n ∧ Nw W1 wr s4 (pix (cs.take i) 0))
  case atStart => exact ⟨0, rfl, by omega, Below.refl _ _, Own.zero _ _ _ _ _⟩
  case round =>
    clear hbx
    obtain ⟨i, rfl, hi, hA⟩ := hrel
    by_cases hlt : i < n
    · obtain ⟨c, hci⟩ := get_of_lt (cs := cs) (i := i) (by have := hn.out; omega)
      obtain ⟨bc, oc, rfl, A9⟩ := call_at (hv1.out.below hA.bel) hci
      obtain ⟨u, cu, rfl, hcu, hcm⟩ := hA.own.form
      obtain ⟨l, hl⟩ : ∃ l, l = pix (cs.take i) 0 := ⟨_, rfl⟩
      rw [← hl] at hA hcu ⊢
      have hll : l.length ≤ i := by rw [hl]; exact Nat.le_trans (pix_len _ _) (by simp; omega)
      have hnx := pix_take cs i c hci
      rw [← hl] at hnx
      have hbx : ∀ w1, w1 = wr.alloc (cqO c) → w1.heap[wr.heap.size]? = some (cqO c) ∧ Nw W1 w1 (.slice u l.length cu) l := by rintro w1 rfl; exact ⟨new_at _ _ _ rfl, hA.below ((Below.refl _ _).alloc (Nat.le_refl _) _)⟩
      obtain ⟨hbc, g0, g1, g2, g3, g4, g5, g6, g7, g8⟩ := A9
      have hlI : (i : Int) < (n : Int) := by omega
      have hw1 : IntKind.i64.wrap ((i : Int) + 1) = (i : Int) + 1 := i64x _ (by omega) (by omega)
      have CT := fun w => counts_any c w
      unfold Cq.val at CT
      clear hA hl
      replace hbx := Mr.hid hbx
      replace hnx := Mr.hid hnx
      replace hci := Mr.hid hci
      go_upto_region 7 with (fail)
      obtain ⟨hX5, hA⟩ := hbx.out _ rfl
      unfold cqO at hX5 hA
      clear hbx g0 g1 g2 g3 g4 g5 g6 g7 g8 hbc
      generalize (wr.alloc (Obj.cells #[.int .i64 c.th, .int .i64 c.op, .int .i64 c.arg, .int .i64 c.data, .int .i64 c.beg, .int .i64 c.fin, .int .i64 c.pt, .int .i64 c.ak, .int .i64 c.av] 43 (0, 0))) = w5 at *
      generalize wr.heap.size = bx at *
      clear wr
      obtain ⟨k0, k1, k2, k3, k4, k5, k6, k7, k8, kl⟩ := cq_cells (c := c) hX5
      replace hX5 := Mr.hid hX5
      replace hA := Mr.hid hA
      by_cases hct : obj c.op ≠ 0 ∧ c.pt ≠ -1
      · have hct1 : (obj c.op != 0) = true := by simp [hct.1]
        have hct2 : (c.pt != -1) = true := by simp [hct.2]
        rw [hct1] at CT
        have hnx2 := Mr.hid (show pix (cs.take (i + 1)) 0 = l ++ [(i : Int)] by rw [hnx.out, if_pos hct])
        replace hct := Mr.hid hct
        replace CT := Mr.hid CT
        go_wp2_with (first
          | (go_at_call 26; refine (CT.out _).mono ?_; clear CT; rintro e w7 ⟨rfl, hB7⟩; replace hA := Mr.hid (hA.out.below hB7); have hX7 := (hB7.block _ kl).trans hX5.out; clear k0 k1 k2 k3 k4 k5 k6 k7 k8 hB7; obtain ⟨k0, k1, k2, k3, k4, k5, k6, k7, k8, kl7⟩ := cq_cells (c := c) hX7; clear hX7)
          | (at_builtin; refine wpList_append_mine _ rfl (.tmp 24) (.tmp 26) 33 rfl (fun k => W1.heap.size ≤ k) 3 i0 _ 1 8 Try.underlying33 hi0 hz0 hz1 hz2 rfl _ l.length (ints l) rfl (hA.out.own.below ((Below.refl _ _).alloc (Nat.le_refl _) _)) (some ⟨w7.heap.size, 0, none⟩) 1 1 [.int .i64 (i : Int)] rfl rfl (fun e => by cases e) (new1 rfl) (by simp [Value.oneCell']) (by unfold maxLen; omega) (by omega) ?_; intro b9 cap9 w9 hown hfr; have hX := Mr.hid (hA.out.app rfl hown hfr); clear hown hfr))
        go_roundg (gk - 1)
        case measure => omega
        case rel => exact ⟨i + 1, by simp, by omega, by rw [hnx2.out]; exact hX.out⟩
      · have hnx2 := Mr.hid (show pix (cs.take (i + 1)) 0 = l by rw [hnx.out, if_neg hct, List.append_nil])
        by_cases ho : obj c.op = 0
        · have hct1 : (obj c.op != 0) = false := by simp [ho]
          rw [hct1] at CT
          replace CT := Mr.hid CT
          replace ho := Mr.hid ho
          replace hct := Mr.hid hct
          go_wp2_with (go_at_call 26; refine (CT.out _).mono ?_; clear CT; rintro e w7 ⟨rfl, hB7⟩; replace hA := Mr.hid (hA.out.below hB7); have hX7 := (hB7.block _ kl).trans hX5.out; clear k0 k1 k2 k3 k4 k5 k6 k7 k8 hB7; obtain ⟨k0, k1, k2, k3, k4, k5, k6, k7, k8, kl7⟩ := cq_cells (c := c) hX7; clear hX7)
          go_roundg (gk - 1)
          case measure => omega
          case rel => exact ⟨i + 1, by simp, by omega, by rw [hnx2.out]; exact hA.out⟩
        · have hpt : c.pt = -1 := Classical.byContradiction (fun h => hct ⟨ho, h⟩)
          have hct1 : (obj c.op != 0) = true := by simp [ho]
          have hct2 : (c.pt != -1) = false := by simp [hpt]
          rw [hct1] at CT
          replace CT := Mr.hid CT
          replace ho := Mr.hid ho
          replace hct := Mr.hid hct
          replace hpt := Mr.hid hpt
          go_wp2_with (go_at_call 26; refine (CT.out _).mono ?_; clear CT; rintro e w7 ⟨rfl, hB7⟩; replace hA := Mr.hid (hA.out.below hB7); have hX7 := (hB7.block _ kl).trans hX5.out; clear k0 k1 k2 k3 k4 k5 k6 k7 k8 hB7; obtain ⟨k0, k1, k2, k3, k4, k5, k6, k7, k8, kl7⟩ := cq_cells (c := c) hX7; clear hX7)
          go_roundg (gk - 1)
          case measure => omega
          case rel => exact ⟨i + 1, by simp, by omega, by rw [hnx2.out]; exact hA.out⟩
    · have hin : i = cs.length := by have := hn.out; omega
      rw [hin, List.take_length] at hA
      have dl : decide ((i : Int) < (n : Int)) = false := decide_eq_false (by omega)
      have hin2 : ∀ y ∈ pix cs 0, 0 ≤ y ∧ y < (cs.length : Int) := fun y hy => by
        obtain ⟨j, d, hd, h1, _⟩ := (mem_pix cs 0 y).1 hy
        have := (List.getElem?_eq_some_iff.1 hd).1
        rw [h1]; constructor <;> omega
      have hpl : (pix cs 0).length ≤ n := by rw [hn.out]; exact pix_len _ _
      have SF := sortF_any hA.own (by rw [← hn.out]; exact hBX.out _ hA.bel) (Nat.lt_of_lt_of_le hbl hA.bel.size) (hv1.out.below hA.bel) (by omega) (fun k hk _ => by have := hB1.out.size; omega) hin2 (by omega)
      obtain ⟨u, cu, rfl, hcu, hcm⟩ := hA.own.form
      obtain ⟨m, hm⟩ : ∃ m, m = (pix cs 0).length := ⟨_, rfl⟩
      rw [← hm] at SF ⊢
      have B := Mr.hid (hB1.out.trans (hA.bel.mono hB1.out.size))
      have hsz2 := Mr.hid hA.bel.size
      clear hA
      replace SF := Mr.hid SF
      replace hm := Mr.hid hm
      go_wp2_with (go_at_call 27; refine SF.out.mono ?_; clear SF; rintro e w2 ⟨rfl, hf2, l', hP, hU, hS2⟩; have hB2 : Below W.heap.size W w2 := ⟨hf2.os.trans B.out.os, hf2.tape.trans B.out.tape, hf2.output.trans B.out.output, Nat.le_trans B.out.size hf2.size, fun k hk => (hf2.block k (Nat.lt_of_lt_of_le hk B.out.size) (by omega)).trans (B.out.block k hk)⟩; clear hf2; replace hB2 := Mr.hid hB2; replace hS2 := Mr.hid hS2; replace hP := Mr.hid hP; replace hU := Mr.hid hU)
      refine bodyPost_ret (v := .tuple #[.slice u m cu, .int .i64 0]) (by simp [results, Try.results14, go_sem]) rfl ?_
      exact ⟨_, l', rfl, hS2.out.mono (fun k hk => by omega), hP.out, hU.out, hB2.out⟩
end
end Go.Proofs.Ytfgnaffomglmdaa.Wt
