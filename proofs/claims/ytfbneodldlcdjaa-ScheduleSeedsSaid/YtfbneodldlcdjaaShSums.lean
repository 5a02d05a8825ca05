/-
  SCHEDULE: sumsOf; slices.IndexFunc at Seeded's closure.
-/
import Derived.Test.YtfbneodldlcdjaaShSeedP
namespace Go.Proofs.Ytfbneodldlcdjaa.Sh
open Go.RowKit Mr Md
set_option linter.unusedVariables false
set_option linter.unusedSimpArgs false
set_option maxRecDepth 100000
theorem sl_cell {W : World} {T : Nat → Prop} {v : Value} {l : List Int} (h : Sl W T 1 v l.length (ints l)) {i : Nat} {x : Int} (hx : l[i]? = some x) : ∃ g o cap, v = .slice (some ⟨g, o, none⟩) l.length cap ∧ W.cell? ⟨g, o + i, none⟩ = some (.int .i64 x) ∧ g < W.heap.size := by
  have hi := (List.getElem?_eq_some_iff.1 hx).1
  obtain ⟨g, o, c, e, _, _, hl, r⟩ := h.there (by omega)
  exact ⟨g, o, c, e, r i _ (by rw [ints, List.getElem?_map, hx]; rfl), hl⟩
set_option maxHeartbeats 4000000 in
theorem sums_ok {W : World} {T : Nat → Prop} {v : Value} {ws : List Int} (hv : Sl W T 1 v ws.length (ints ws)) (hn : ws.length ≤ 16) (hok : okW ws) (b : Bool) (hb : decide (0 < ws.sum) = b) :
    Calls Try.prog 14 #[v] W fun r w' => ∃ u, r = .returned (.tuple #[u, .bool b]) ∧ Nw W w' u (sms ws) := by
  obtain ⟨a, c, rfl, hc⟩ := hv.form
  obtain ⟨n, hnn⟩ : ∃ n, n = ws.length := ⟨_, rfl⟩
  have hM := fun W => make_in W n (by omega)
  have hN := Mr.hid (nw_make W W (Below.refl _ _) n (by unfold maxLen; omega))
  rw [← hnn] at hv hn ⊢
  replace hnn := Mr.hid hnn
  replace hv := Mr.hid hv
  replace hok := Mr.hid hok
  replace hb := Mr.hid hb
  clear hc
  go_enter Try.func14, Try.ntmps14
  go_wp2
  go_loopg [5, 13] n (fun k s5 s13 wr => ∃ i : Nat, s5 = .int .i64 (ws.take i).sum ∧ s13 = .int .i64 (i : Int) ∧ i + k = n ∧ Nw W wr (.slice (some ⟨W.heap.size, 0, none⟩) n n) (smz ws i))
  case atStart => exact ⟨0, by simp, rfl, by omega, by have := hN.out; rw [hnn.out] at this; rw [hnn.out]; simpa [smz] using this⟩
  case round =>
    clear hN
    obtain ⟨i, rfl, rfl, hi, hA⟩ := hrel
    by_cases hlt : i < n
    · obtain ⟨x, hx⟩ : ∃ x, ws[i]? = some x := ⟨ws[i]'(by have := hnn.out; omega), List.getElem?_eq_getElem _⟩
      have hv2 := hv.out.below hA.bel
      rw [hnn.out] at hv2
      obtain ⟨g, o, c', e, kx, kg⟩ := sl_cell hv2 hx
      rw [← hnn.out] at e
      cases e
      obtain ⟨hx0, hx1⟩ := hok.out.get hx
      have ht := take_bd hok.out (by have := hnn.out; omega) i
      have ht2 := take_bd hok.out (by have := hnn.out; omega) (i + 1)
      have hs := sum_take hx
      obtain ⟨k1, f1, kl⟩ := hA.cell (smz_get ws i (by have := hnn.out; omega))
      rw [Nat.zero_add] at k1 f1
      have hX := Mr.hid (hA.put (by rw [smz_len ws i (by have := hnn.out; omega)]; exact hnn.out.symm) hlt (ws.take (i + 1)).sum)
      rw [smz_set ws i (by have := hnn.out; omega)] at hX
      rw [hs] at ht2
      have hsum : Hid ((ws.take (i + 1)).sum = (ws.take i).sum + x) := hs
      rw [hs] at hX
      clear hs hv2
      have hlI : (i : Int) < (n : Int) := by omega
      have hw1 : IntKind.i64.wrap ((i : Int) + 1) = (i : Int) + 1 := i64x _ (by omega) (by omega)
      have d1 : decide (x < 0) = false := decide_eq_false (by omega)
      have d2 : decide (65536 < x) = false := decide_eq_false (by omega)
      obtain ⟨sm, hsm⟩ : ∃ sm, sm = (ws.take i).sum := ⟨_, rfl⟩
      rw [← hsm] at ht ht2 hX hsum ⊢
      have hw2 : IntKind.i64.wrap (sm + x) = sm + x := i64x _ (by omega) (by omega)
      replace hsm := Mr.hid hsm
      replace hx := Mr.hid hx
      replace hA := Mr.hid hA
      go_wp2
      go_roundg (gk - 1)
      case measure => omega
      case rel => exact ⟨i + 1, by rw [hsum.out], by simp, by omega, hX.out⟩
    · have hin : i = ws.length := by have := hnn.out; omega
      rw [hin, smz_end] at hA
      rw [hin, List.take_length]
      have dl : decide ((ws.length : Int) < (n : Int)) = false := decide_eq_false (by have := hnn.out; omega)
      have dl2 : decide (ws.length < n) = false := decide_eq_false (by have := hnn.out; omega)
      have hb2 := hb.out
      replace hA := Mr.hid hA
      clear hin hi hlt
      go_wp2
      go_ret2
      exact ⟨_, rfl, hA.out⟩
set_option maxHeartbeats 4000000 in
theorem sums_bad {W : World} {T : Nat → Prop} {v : Value} {ws : List Int} (hv : Sl W T 1 v ws.length (ints ws)) (hn : ws.length ≤ 16) (hok : ¬ okW ws) :
    Calls Try.prog 14 #[v] W fun r w' => r = .returned (.tuple #[.slice none 0 0, .bool false]) ∧ Below W.heap.size W w' := by
  obtain ⟨a, c, rfl, hc⟩ := hv.form
  obtain ⟨n, hnn⟩ : ∃ n, n = ws.length := ⟨_, rfl⟩
  have hM := fun W => make_in W n (by omega)
  have hN := Mr.hid (nw_make W W (Below.refl _ _) n (by unfold maxLen; omega))
  rw [← hnn] at hv hn ⊢
  replace hnn := Mr.hid hnn
  replace hv := Mr.hid hv
  replace hok := Mr.hid hok
  clear hc
  go_enter Try.func14, Try.ntmps14
  go_wp2
  go_loopg [5, 13] n (fun k s5 s13 wr => ∃ i : Nat, s5 = .int .i64 (ws.take i).sum ∧ okW (ws.take i) ∧ s13 = .int .i64 (i : Int) ∧ i + k = n ∧ Nw W wr (.slice (some ⟨W.heap.size, 0, none⟩) n n) (smz ws i))
  case atStart => exact ⟨0, by simp, (by intro x hx; simp at hx), rfl, by omega, by have := hN.out; rw [hnn.out] at this; rw [hnn.out]; simpa [smz] using this⟩
  case round =>
    clear hN
    obtain ⟨i, rfl, hki, rfl, hi, hA⟩ := hrel
    by_cases hlt : i < n
    · obtain ⟨x, hx⟩ : ∃ x, ws[i]? = some x := ⟨ws[i]'(by have := hnn.out; omega), List.getElem?_eq_getElem _⟩
      have hv2 := hv.out.below hA.bel
      rw [hnn.out] at hv2
      obtain ⟨g, o, c', e, kx, kg⟩ := sl_cell hv2 hx
      rw [← hnn.out] at e
      cases e
      have ht := sum_bd _ hki
      have htl : (ws.take i).length ≤ 16 := by rw [List.length_take]; omega
      have hs := sum_take hx
      obtain ⟨k1, f1, kl⟩ := hA.cell (smz_get ws i (by have := hnn.out; omega))
      rw [Nat.zero_add] at k1 f1
      have hX := Mr.hid (hA.put (by rw [smz_len ws i (by have := hnn.out; omega)]; exact hnn.out.symm) hlt (ws.take (i + 1)).sum)
      rw [smz_set ws i (by have := hnn.out; omega)] at hX
      have hsum : Hid ((ws.take (i + 1)).sum = (ws.take i).sum + x) := hs
      rw [hs] at hX
      clear hs hv2
      have hlI : (i : Int) < (n : Int) := by omega
      have hw1 : IntKind.i64.wrap ((i : Int) + 1) = (i : Int) + 1 := i64x _ (by omega) (by omega)
      obtain ⟨sm, hsm⟩ : ∃ sm, sm = (ws.take i).sum := ⟨_, rfl⟩
      rw [← hsm] at ht hX hsum ⊢
      replace hsm := Mr.hid hsm
      by_cases hb0 : x < 0
      · have d1 : decide (x < 0) = true := decide_eq_true hb0
        have hB := Mr.hid hA.bel
        clear hX hA hki hx htl ht hsum
        go_wp2
        go_ret2
        exact ⟨rfl, hB.out⟩
      · have d1 : decide (x < 0) = false := decide_eq_false hb0
        by_cases hb1 : 65536 < x
        · have d2 : decide (65536 < x) = true := decide_eq_true hb1
          have hB := Mr.hid hA.bel
          clear hX hA hki hx htl ht hsum
          go_wp2
          go_ret2
          exact ⟨rfl, hB.out⟩
        · have d2 : decide (65536 < x) = false := decide_eq_false hb1
          have hki2 : Hid (okW (ws.take (i + 1))) := by
            intro y hy
            rw [List.take_add_one, hx] at hy
            simp at hy
            rcases hy with hy | hy
            · exact hki y hy
            · subst hy; omega
          have hw2 : IntKind.i64.wrap (sm + x) = sm + x := i64x _ (by omega) (by omega)
          replace hx := Mr.hid hx
          replace hA := Mr.hid hA
          replace hki := Mr.hid hki
          replace ht := Mr.hid ht
          go_wp2
          go_roundg (gk - 1)
          case measure => omega
          case rel => exact ⟨i + 1, by rw [hsum.out], hki2.out, by simp, by omega, hX.out⟩
    · have hin : i = ws.length := by have := hnn.out; omega
      rw [hin, List.take_length] at hki
      exact absurd hki hok.out
theorem less_any (r x : Int) (b : Nat) (w : World) (hb : w.cell? ⟨b, 0, none⟩ = some (.int .i64 r)) (hl : b < w.heap.size) :
    Calls Try.prog 16 #[.int .i64 x, .pointer (some ⟨b, 0, none⟩)] w fun e w' => e = .returned (.bool (decide (r < x))) ∧ w' = w := by
  go_enter Try.func16, Try.ntmps16
  go_wp2
  go_ret
  exact ⟨rfl, rfl⟩
set_option maxHeartbeats 4000000 in
theorem index_any {W : World} {T : Nat → Prop} {v : Value} {l : List Int} (hv : Sl W T 1 v l.length (ints l)) (hn : l.length ≤ 16) (r : Int) (b : Nat) (hb : W.cell? ⟨b, 0, none⟩ = some (.int .i64 r)) (hbl : b < W.heap.size) (j : Nat) (y : Int) (hj : l[j]? = some y) (hy : r < y) (hlo : ∀ i x, i < j → l[i]? = some x → x ≤ r) :
    Calls Try.prog 15 #[v, .func (.func 16) #[] #[.pointer (some ⟨b, 0, none⟩)]] W fun e w' => e = .returned (.int .i64 (j : Int)) ∧ w' = W := by
  obtain ⟨a, c, rfl, hc⟩ := hv.form
  have hjl := (List.getElem?_eq_some_iff.1 hj).1
  obtain ⟨n, hnn⟩ : ∃ n, n = l.length := ⟨_, rfl⟩
  rw [← hnn] at hv hn hjl ⊢
  replace hnn := Mr.hid hnn
  replace hv := Mr.hid hv
  replace hj := Mr.hid hj
  replace hlo := Mr.hid hlo
  replace hy := Mr.hid hy
  clear hc
  have K := fun x => less_any r x b W hb hbl
  replace K := Mr.hid K
  clear hb hbl
  go_enter Try.func15, Try.ntmps15
  go_wp2
  go_loopg [8] j (fun k s8 wr => ∃ i : Nat, s8 = .int .i64 (i : Int) ∧ i + k = j ∧ wr = W)
  case atStart => exact ⟨0, rfl, by omega, rfl⟩
  case round =>
    obtain ⟨i, rfl, hi, rfl⟩ := hrel
    obtain ⟨x, hx⟩ : ∃ x, l[i]? = some x := ⟨l[i]'(by have := hnn.out; omega), List.getElem?_eq_getElem _⟩
    have hv2 := hv.out
    rw [hnn.out] at hv2
    obtain ⟨g, o, c', e, kx, kg⟩ := sl_cell hv2 hx
    rw [← hnn.out] at e
    cases e
    clear hv2
    have hlI : (i : Int) < (n : Int) := by omega
    have hw1 : IntKind.i64.wrap ((i : Int) + 1) = (i : Int) + 1 := i64x _ (by omega) (by omega)
    by_cases hij : i = j
    · subst hij
      have hxy : x = y := by have := hj.out; rw [hx] at this; cases this; rfl
      have d1 : decide (r < x) = true := decide_eq_true (by rw [hxy]; exact hy.out)
      have K1 := K.out x
      rw [d1] at K1
      replace K1 := Mr.hid K1
      clear hxy d1 hx K hi
      go_wp2_with (go_at_call 16; refine K1.out.mono ?_; rintro e w3 ⟨rfl, rfl⟩)
      go_ret
      exact ⟨rfl, rfl⟩
    · have d1 : decide (r < x) = false := decide_eq_false (by have := hlo.out i x (by omega) hx; omega)
      have K1 := K.out x
      rw [d1] at K1
      replace K1 := Mr.hid K1
      clear d1
      replace hx := Mr.hid hx
      go_wp2_with (go_at_call 16; refine K1.out.mono ?_; rintro e w3 ⟨rfl, rfl⟩)
      go_roundg (gk - 1)
      case measure => omega
      case rel => exact ⟨i + 1, by simp, by omega, rfl⟩
end Go.Proofs.Ytfbneodldlcdjaa.Sh
