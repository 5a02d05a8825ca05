import Derived.Test.YtfgnaffomglmdaaGreatJ38
import Derived.Test.YtfgnaffomglmdaaGreatJ11
/-
  The document's apart.
-/
namespace Go.Proofs.YtfgnaffomglmdaaGreat.Wt
open Go.RowKit Mr Md
set_option linter.unusedVariables false
set_option linter.unusedSimpArgs false
set_option maxRecDepth 100000
set_option maxHeartbeats 8000000 in
theorem rApart_any {W : World} {T : Nat → Prop} {v : Value} {cs : List Cq} (hv : Sl W T 9 v cs.length (cqs cs)) (hsm : cs.length * 72 ≤ 281474976710656) (b : Bool) (hb : b = true ↔ Apart cs) :
    Calls Tryz.prog 17 #[v] W fun e w' => e = .returned (.bool b) ∧ Below W.heap.size W w' := by
  obtain ⟨i0, hi0, hz0, hz1, hz2⟩ := parts_of wt_mark
  obtain ⟨a, cap, rfl, hcap⟩ := hv.form
  obtain ⟨n, hn⟩ : ∃ n, n = cs.length := ⟨_, rfl⟩
  have mx : ∀ k, k ≤ 3 * n → k ≤ maxLen := fun k hk => by unfold maxLen; rw [← hn] at hsm; omega
  have by2 : ∀ k, k ≤ 3 * n → (k + k / 4 + 192) * 16 ≤ 281474976710656 := fun k hk => by rw [← hn] at hsm; omega
  rw [← hn] at hsm hcap ⊢
  replace mx := Mr.hid mx
  replace by2 := Mr.hid by2
  replace hn := Mr.hid hn
  replace hv := Mr.hid hv
  replace hb := Mr.hid hb
  go_enter Tryz.func17, Tryz.ntmps17
  go_wp2
  go_loopg [3, 4] n (fun k s3 s4 wr => ∃ i : Nat, s4 = .int .i64 (i : Int) ∧ i + k = n ∧ Mw W W wr s3 (mkl (cs.take i) 0))
  case atStart => exact ⟨0, rfl, by omega, Below.refl _ _, Below.refl _ _, Own.zero _ _ _ _ _⟩
  case round =>
    obtain ⟨i, rfl, hi, hA⟩ := hrel
    by_cases hlt : i < n
    · obtain ⟨c, hci⟩ := get_of_lt (cs := cs) (i := i) (by have := hn.out; omega)
      obtain ⟨bc, oc, rfl, -⟩ := call_at (hv.out.below hA.bel) hci
      have RC : ∀ w, Below W.heap.size W w → At9 w bc (oc + i * 9) c := fun w hB => by
        obtain ⟨b', o', e, h⟩ := call_at (hv.out.below hB) hci
        cases e; exact h
      obtain ⟨u, cu, rfl, hcu, hcm⟩ := hA.own.form
      obtain ⟨l, hl⟩ : ∃ l, l = mkl (cs.take i) 0 := ⟨_, rfl⟩
      rw [← hl] at hA hcu ⊢
      have hll : l.length ≤ 3 * i := by rw [hl]; exact Nat.le_trans (mkl_len _ _) (by simp; omega)
      have hnx := mkl_take cs i c hci
      rw [← hl] at hnx
      have hlI : (i : Int) < (n : Int) := by omega
      have hw1 : IntKind.i64.wrap ((i : Int) + 1) = (i : Int) + 1 := i64x _ (by omega) (by omega)
      clear hl
      replace RC := Mr.hid RC
      replace hnx := Mr.hid hnx
      replace hci := Mr.hid hci
      replace hA := Mr.hid hA
      obtain ⟨hbl, g0, g1, g2, g3, g4, g5, g6, g7, g8⟩ := RC.out _ hA.out.bel
      go_upto_region 6 with (at_builtin; refine wpList_append_mine _ rfl (.tmp 12) (.tmp 20) 55 rfl (fun k => W.heap.size ≤ k) 57 i0 _ 2 16 Tryz.underlying55 hi0 hz0 hz1 hz2 rfl _ (l).length (prs (l)) rfl (hA.out.own.below ((Below.refl _ _).alloc (Nat.le_refl _) _)) (some ⟨wr.heap.size, 0, none⟩) 1 1 (pr (c.beg, (i : Int))) rfl rfl (fun e => by cases e) (new2 rfl) (by simp [pr, Value.oneCell']) (mx.out _ (by omega)) (by2.out _ (by omega)) ?_; intro b5 cap5 w6 hown hfr; have hX := Mr.hid (hA.out.app (Nat.le_refl _) rfl hown hfr); clear hown hfr)
      clear g0 g1 g2 g3 g4 g5 g6 g7 g8 hbl
      replace hA := hX.out
      clear hX
      obtain ⟨l1, hl1⟩ : ∃ l1, l1 = l ++ [(c.beg, (i : Int))] := ⟨_, rfl⟩
      have ql1 : l.length + 1 = l1.length := by rw [hl1]; simp
      rw [← hl1, ql1] at hA
      rw [ql1]
      replace ql1 : l1.length ≤ 3 * i + 1 := by omega
      replace hl1 := Mr.hid hl1
      replace hA := Mr.hid hA
      obtain ⟨hbl, g0, g1, g2, g3, g4, g5, g6, g7, g8⟩ := RC.out _ hA.out.bel
      by_cases e1 : c.fin = -1
      · have e1' : (c.fin != -1) = false := by simp [e1]
        replace e1 := Mr.hid e1
        go_upto_region 8 with (fail)
        by_cases e2 : c.pt = -1
        · have e2' : (c.pt != -1) = false := by simp [e2]
          replace e2 := Mr.hid e2
          have hfin : Hid (mkl (cs.take (i + 1)) 0 = l1) := by show mkl (cs.take (i + 1)) 0 = l1; rw [hnx.out, hl1.out]; simp [mkc, e1.out, e2.out]
          go_wp2
          go_roundg (gk - 1)
          case measure => omega
          case rel => exact ⟨i + 1, by simp, by omega, by rw [hfin.out]; exact hA.out⟩
        · have e2' : (c.pt != -1) = true := by simp [e2]
          replace e2 := Mr.hid e2
          have hfin : Hid (mkl (cs.take (i + 1)) 0 = l1 ++ [(c.pt, (i : Int))]) := by show mkl (cs.take (i + 1)) 0 = l1 ++ [(c.pt, (i : Int))]; rw [hnx.out, hl1.out]; simp [mkc, e1.out, e2.out]
          go_wp2_with (at_builtin; refine wpList_append_mine _ rfl (.tmp 44) (.tmp 52) 55 rfl (fun k => W.heap.size ≤ k) 57 i0 _ 2 16 Tryz.underlying55 hi0 hz0 hz1 hz2 rfl _ (l1).length (prs (l1)) rfl (hA.out.own.below ((Below.refl _ _).alloc (Nat.le_refl _) _)) (some ⟨w6.heap.size, 0, none⟩) 1 1 (pr (c.pt, (i : Int))) rfl rfl (fun e => by cases e) (new2 rfl) (by simp [pr, Value.oneCell']) (mx.out _ (by omega)) (by2.out _ (by omega)) ?_; intro b9 cap9 w9 hown hfr; have hX := Mr.hid (hA.out.app (Nat.le_refl _) rfl hown hfr); clear hown hfr)
          go_roundg (gk - 1)
          case measure => omega
          case rel => exact ⟨i + 1, by simp, by omega, by rw [hfin.out]; exact hX.out⟩
      · have e1' : (c.fin != -1) = true := by simp [e1]
        replace e1 := Mr.hid e1
        go_upto_region 8 with (at_builtin; refine wpList_append_mine _ rfl (.tmp 28) (.tmp 36) 55 rfl (fun k => W.heap.size ≤ k) 57 i0 _ 2 16 Tryz.underlying55 hi0 hz0 hz1 hz2 rfl _ (l1).length (prs (l1)) rfl (hA.out.own.below ((Below.refl _ _).alloc (Nat.le_refl _) _)) (some ⟨w6.heap.size, 0, none⟩) 1 1 (pr (c.fin, (i : Int))) rfl rfl (fun e => by cases e) (new2 rfl) (by simp [pr, Value.oneCell']) (mx.out _ (by omega)) (by2.out _ (by omega)) ?_; intro b7 cap7 w8 hown hfr; have hX := Mr.hid (hA.out.app (Nat.le_refl _) rfl hown hfr); clear hown hfr)
        clear g0 g1 g2 g3 g4 g5 g6 g7 g8 hbl
        replace hA := hX.out
        clear hX
        obtain ⟨l2, hl2⟩ : ∃ l2, l2 = l1 ++ [(c.fin, (i : Int))] := ⟨_, rfl⟩
        have ql2 : l1.length + 1 = l2.length := by rw [hl2]; simp
        rw [← hl2, ql2] at hA
        rw [ql2]
        replace ql2 : l2.length ≤ 3 * i + 2 := by omega
        replace hl2 := Mr.hid hl2
        replace hA := Mr.hid hA
        obtain ⟨hbl, g0, g1, g2, g3, g4, g5, g6, g7, g8⟩ := RC.out _ hA.out.bel
        by_cases e2 : c.pt = -1
        · have e2' : (c.pt != -1) = false := by simp [e2]
          replace e2 := Mr.hid e2
          have hfin : Hid (mkl (cs.take (i + 1)) 0 = l2) := by show mkl (cs.take (i + 1)) 0 = l2; rw [hnx.out, hl2.out, hl1.out]; simp [mkc, e1.out, e2.out]
          go_wp2
          go_roundg (gk - 1)
          case measure => omega
          case rel => exact ⟨i + 1, by simp, by omega, by rw [hfin.out]; exact hA.out⟩
        · have e2' : (c.pt != -1) = true := by simp [e2]
          replace e2 := Mr.hid e2
          have hfin : Hid (mkl (cs.take (i + 1)) 0 = l2 ++ [(c.pt, (i : Int))]) := by show mkl (cs.take (i + 1)) 0 = l2 ++ [(c.pt, (i : Int))]; rw [hnx.out, hl2.out, hl1.out]; simp [mkc, e1.out, e2.out]
          go_wp2_with (at_builtin; refine wpList_append_mine _ rfl (.tmp 44) (.tmp 52) 55 rfl (fun k => W.heap.size ≤ k) 57 i0 _ 2 16 Tryz.underlying55 hi0 hz0 hz1 hz2 rfl _ (l2).length (prs (l2)) rfl (hA.out.own.below ((Below.refl _ _).alloc (Nat.le_refl _) _)) (some ⟨w8.heap.size, 0, none⟩) 1 1 (pr (c.pt, (i : Int))) rfl rfl (fun e => by cases e) (new2 rfl) (by simp [pr, Value.oneCell']) (mx.out _ (by omega)) (by2.out _ (by omega)) ?_; intro b9 cap9 w9 hown hfr; have hX := Mr.hid (hA.out.app (Nat.le_refl _) rfl hown hfr); clear hown hfr)
          go_roundg (gk - 1)
          case measure => omega
          case rel => exact ⟨i + 1, by simp, by omega, by rw [hfin.out]; exact hX.out⟩
    · have hin : i = cs.length := by have := hn.out; omega
      rw [hin, List.take_length] at hA
      have hb2 := (apart_mkl cs).symm
      rw [← hb.out] at hb2
      obtain ⟨l, hl⟩ : ∃ l, l = mkl cs 0 := ⟨_, rfl⟩
      rw [← hl] at hA hb2
      have hll : l.length ≤ 3 * n := by rw [hl, hn.out]; exact mkl_len _ _
      obtain ⟨u, cu, rfl, hcu, hcm⟩ := hA.own.form
      have SO := sorted_any l.length (Nat.le_refl _) hA.own.sl (by2.out _ hll)
      have dl : decide ((i : Int) < (n : Int)) = false := decide_eq_false (by omega)
      have B := hA.bel
      clear hb hl hA hin mx by2
      replace SO := Mr.hid SO
      replace hb2 := Mr.hid hb2
      replace B := Mr.hid B
      go_wp2_with (go_at_call 27; refine SO.out.mono ?_; clear SO; rintro e w2 ⟨v2, s, rfl, hS2, hP2, hU2, hB2⟩; replace hB2 := Mr.hid (B.out.trans (hB2.mono B.out.size)); clear B; replace hb2 : Hid (b = true ↔ ∀ i x y, s[i]? = some x → s[i + 1]? = some y → ¬ (y.1 = x.1 ∧ y.2 ≠ x.2)) := (hb2.out.trans (ApartR.perm hP2).symm).trans (sorted_apart hU2); have hsl := hP2.length_eq; obtain ⟨a2, c2, rfl, hc2⟩ := hS2.form; obtain ⟨m, hm⟩ : ∃ m, m = s.length := ⟨_, rfl⟩; rw [← hm] at hS2 hc2 hsl; rw [← hm]; replace hm := Mr.hid hm; replace hS2 := Mr.hid hS2; replace hP2 := Mr.hid hP2; replace hU2 := Mr.hid hU2)
      go_loopg [5] m (fun k s5 wr => ∃ i : Nat, s5 = .int .i64 ((i : Int) + 1) ∧ i + k = m ∧ Below W.heap.size W wr ∧ Below w2.heap.size w2 wr ∧ ∀ j x y, j < i → s[j]? = some x → s[j + 1]? = some y → ¬ (y.1 = x.1 ∧ y.2 ≠ x.2))
      case atStart => exact ⟨0, rfl, by omega, hB2.out, Below.refl _ _, fun j x y hj => by omega⟩
      case round =>
        obtain ⟨i, rfl, hi, B, B2, ht⟩ := hrel
        by_cases hlt : i + 1 < m
        · obtain ⟨gu, ou, cu', hgu, _, _, hul, ru⟩ := (hS2.out.below B2).there (by omega)
          cases hgu
          obtain ⟨y1, hx1⟩ : ∃ y, s[i + 1]? = some y := ⟨s[i + 1]'(by have := hm.out; omega), List.getElem?_eq_getElem _⟩
          obtain ⟨y0, hx0⟩ : ∃ y, s[i]? = some y := ⟨s[i]'(by have := hm.out; omega), List.getElem?_eq_getElem _⟩
          have k1 := ru _ _ (prs_at hx1).1
          have k1' := ru _ _ (prs_at hx1).2
          have k0 := ru _ _ (prs_at hx0).1
          have k0' := ru _ _ (prs_at hx0).2
          rw [← Nat.add_assoc] at k1' k0'
          have hli : ((i : Int) + 1) < (m : Int) := by omega
          have hl0 : (i : Int) < (m : Int) := by omega
          have h00 : (0 : Int) ≤ (i : Int) := by omega
          have h01 : (0 : Int) ≤ (i : Int) + 1 := by omega
          have ewr : IntKind.i64.wrap ((i : Int) + 1 - 1) = (i : Int) := by rw [show (i : Int) + 1 - 1 = (i : Int) from by omega]; exact i64x _ (by omega) (by omega)
          have ew2 : IntKind.i64.wrap (i : Int) = (i : Int) := i64x _ (by omega) (by omega)
          have e1 : ((i : Int) + 1).toNat = i + 1 := by omega
          have hw2 : IntKind.i64.wrap ((i : Int) + 1 + 1) = (i : Int) + 1 + 1 := i64x _ (by omega) (by omega)
          clear ru
          replace B := Mr.hid B
          replace B2 := Mr.hid B2
          replace ht := Mr.hid ht
          replace hx1 := Mr.hid hx1
          replace hx0 := Mr.hid hx0
          go_upto_region 14 with (fail)
          by_cases he : y1.1 = y0.1
          · have he2 : (y1.1 == y0.1) = true := by simp [he]
            by_cases hf : y1.2 = y0.2
            · have hf2 : (y1.2 != y0.2) = false := by simp [hf]
              replace he := Mr.hid he
              replace hf := Mr.hid hf
              go_quiet (fail)
              have hBq := Mr.hid (B.out.trans (Bx.draws W.heap.size wr nq))
              have hC2 := Mr.hid (B2.out.trans (Bx.draws w2.heap.size wr nq))
              clear k1 k0 k1' k0' hul B B2
              generalize wr.drewN nq = W6 at *
              go_wp2
              go_roundg (gk - 1)
              case measure => omega
              case rel => exact ⟨i + 1, by simp, by omega, hBq.out, hC2.out, fun j x y hj hx hy => by
                by_cases hji : j < i
                · exact ht.out j x y hji hx hy
                · have : j = i := by omega
                  subst this
                  rw [hx0.out] at hx; rw [hx1.out] at hy; cases hx; cases hy; exact fun h => h.2 hf.out⟩
            · have hf2 : (y1.2 != y0.2) = true := by simp [hf]
              have hbf : b = false := by
                cases hbb : b with
                | false => rfl
                | true => exact absurd ⟨he, hf⟩ (hb2.out.1 hbb i y0 y1 hx0.out hx1.out)
              subst hbf
              replace he := Mr.hid he
              replace hf := Mr.hid hf
              go_quiet (fail)
              have hBq := Mr.hid (B.out.trans (Bx.draws W.heap.size wr nq))
              clear k1 k0 k1' k0' hul B B2
              generalize wr.drewN nq = W6 at *
              go_wp2
              go_ret
              exact ⟨rfl, hBq.out⟩
          · have he2 : (y1.1 == y0.1) = false := by simp [he]
            replace he := Mr.hid he
            go_quiet (fail)
            have hBq := Mr.hid (B.out.trans (Bx.draws W.heap.size wr nq))
            have hC2 := Mr.hid (B2.out.trans (Bx.draws w2.heap.size wr nq))
            clear k1 k0 k1' k0' hul B B2
            generalize wr.drewN nq = W6 at *
            go_wp2
            go_roundg (gk - 1)
            case measure => omega
            case rel => exact ⟨i + 1, by simp, by omega, hBq.out, hC2.out, fun j x y hj hx hy => by
              by_cases hji : j < i
              · exact ht.out j x y hji hx hy
              · have : j = i := by omega
                subst this
                rw [hx0.out] at hx; rw [hx1.out] at hy; cases hx; cases hy; exact fun h => he.out h.1⟩
        · have hbt : b = true := hb2.out.2 (fun j x y hx hy => ht j x y (by have := (List.getElem?_eq_some_iff.1 hy).1; have := hm.out; omega) hx hy)
          subst hbt
          have dl2 : decide (((i : Int) + 1) < (m : Int)) = false := decide_eq_false (by omega)
          replace B := Mr.hid B
          clear ht
          go_wp2
          go_ret
          exact ⟨rfl, B.out⟩
end Go.Proofs.YtfgnaffomglmdaaGreat.Wt
/-
  The document's witness: fits, Ahead.
-/
namespace Go.Proofs.YtfgnaffomglmdaaGreat.Wt
open Go.RowKit Mr Md
set_option linter.unusedVariables false
set_option linter.unusedSimpArgs false
set_option maxRecDepth 100000
set_option maxHeartbeats 8000000 in
theorem rFits_any (c : Cq) (w : World) : Calls Tryz.prog 16 #[c.val] w fun e w' => e = .returned (.bool (decide (Fit c))) ∧ Below w.heap.size w w' := by
  obtain ⟨b, hb⟩ : ∃ b, b = decide (Fit c) := ⟨_, rfl⟩
  rw [← hb]
  replace hb : Hid (b = true ↔ Fit c) := by rw [hb]; exact decide_eq_true_iff
  obtain ⟨th, op, arg, data, beg, fin, pt, ak, av⟩ := c
  unfold Cq.val
  go_enter Tryz.func16, Tryz.ntmps16
  go_wp2
  all_goals
    go_ret
    refine ⟨ret_bool ?_, ?_⟩
    · rw [Bool.eq_iff_iff, hb.out]
      clear hb
      simp only [Fit, Tim, Anw]
      by_cases h1 : fin = -1 <;> by_cases h2 : ak = 0 <;> by_cases h3 : ak = 2 <;> by_cases h4 : pt = -1 <;> by_cases h5 : av = 0 <;> first | omega | (simp_all; done) | (simp_all; omega) | (simp at *; omega) | (exfalso; exact ‹¬(ak == 0) = (fin == -1)› (by rw [show (ak == 0) = false from by simpa using h2, show (fin == -1) = false from by simpa using h1]))
    · repeat (first | exact Below.refl _ _ | refine below_a ?_ (by simp; try omega) _)
end Go.Proofs.YtfgnaffomglmdaaGreat.Wt
