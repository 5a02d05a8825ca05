/-
  SCHEDULE: the document's Next.
-/
import Derived.Test.YtfbneodldlcdjaaShDoc
namespace Go.Proofs.Ytfbneodldlcdjaa.Sh
open Go.RowKit Mr Md Me
set_option linter.unusedVariables false
set_option linter.unusedSimpArgs false
set_option maxRecDepth 100000
set_option maxHeartbeats 16000000 in
theorem rnext_some {w : World} {b : Nat} {S : Nat → Prop} {v : Value} {l : List Tr} (h : Hd w b S v l) (hlm : l.length ≤ 8000000000000) (hl : 0 < l.length) :
    Calls Try.prog 20 #[.pointer (some ⟨b, 0, none⟩)] w fun e w' => ∃ a, Fst l l.length a ∧ e = .returned (.tuple #[.int .i64 (tr l a).k, .int .i64 (tr l a).v, .bool true]) ∧ ∃ v', Hd w' b (fun q => S q ∨ w.heap.size ≤ q) v' (cut l a) ∧ Fr w w' (fun q => q = b ∨ S q) := by
  obtain ⟨i0, hi0, hz0, hz1, hz2⟩ := parts_of pr_item
  have hSb := Mr.hid h.nb
  replace h := h.inb
  obtain ⟨g, cap, rfl, hS, hgl, hcp, hcm⟩ := h.row.there hl
  obtain ⟨n, hn⟩ : ∃ n, l.length = n := ⟨_, rfl⟩
  rw [hn] at h hcp hl hlm
  rw [hn]
  have k0 := h.c0
  have kl := h.lt
  have hne : b ≠ g := fun e => h.nb (e ▸ hS)
  have hne2 : g ≠ b := Ne.symm hne
  replace h := Mr.hid h
  replace hn := Mr.hid hn
  have hn0 : ((n : Int) == 0) = false := by simp; omega
  go_enter Try.func20, Try.ntmps20
  go_wp2
  go_loopg [5, 6] n (fun k s5 s6 wr => ∃ (a i : Nat), s5 = .int .i64 (a : Int) ∧ s6 = .int .i64 (i : Int) ∧ i + k = n + 1 ∧ 1 ≤ i ∧ i ≤ n ∧ Fst l i a ∧ Below w.heap.size w wr)
  case atStart => exact ⟨0, 1, rfl, rfl, by omega, by omega, by omega, Fst.one l, Below.refl _ _⟩
  case round =>
    clear k0
    obtain ⟨a, i, rfl, rfl, hi, hi1, hin, hF, B⟩ := hrel
    have h2 := h.out.below B
    have k0 := h2.c0
    have kl2 := h2.lt
    have hgl2 : g < wr.heap.size := Nat.lt_of_lt_of_le hgl B.size
    have ha := hF.lt
    by_cases hlt : i < n
    · obtain ⟨a0, a1⟩ := h2.cell (i := a) (by have := hn.out; omega)
      obtain ⟨b0, b1⟩ := h2.cell (i := i) (by have := hn.out; omega)
      have hlI : (i : Int) < (n : Int) := by omega
      have haI : (a : Int) < (n : Int) := by omega
      have hi0' : (0 : Int) ≤ (i : Int) := by omega
      have ha0' : (0 : Int) ≤ (a : Int) := by omega
      have hw1 : IntKind.i64.wrap ((i : Int) + 1) = (i : Int) + 1 := i64x _ (by omega) (by omega)
      have hd := Mr.hid (fun (c : Bool) (hc : decide ((tr l i).k < (tr l a).k) = c) => hc)
      by_cases hx : (tr l i).k < (tr l a).k
      · have hF2 := Mr.hid (hF.yes hx)
        have d1 : decide ((tr l i).k < (tr l a).k) = true := decide_eq_true hx
        generalize (tr l i).k = ki at *
        generalize (tr l a).k = ka at *
        clear hx hd a1 b1 hF
        replace B := Mr.hid B
        replace h2 := Mr.hid h2
        go_upto_region 7 with (fail)
        go_quiet (fail)
        replace B := Mr.hid (B.out.trans (Bx.draws _ _ nq))
        clear a0 b0 k0 kl2 hgl2 h2
        generalize wr.drewN nq = w3 at *
        go_wp2
        go_roundg (gk - 1)
        case measure => omega
        case rel => exact ⟨i, i + 1, rfl, by simp, by omega, by omega, by omega, hF2.out, B.out⟩
      · have hF2 := Mr.hid (hF.no hx)
        have d1 : decide ((tr l i).k < (tr l a).k) = false := decide_eq_false hx
        generalize (tr l i).k = ki at *
        generalize (tr l a).k = ka at *
        clear hx hd a1 b1 hF
        replace B := Mr.hid B
        replace h2 := Mr.hid h2
        go_upto_region 7 with (fail)
        go_quiet (fail)
        replace B := Mr.hid (B.out.trans (Bx.draws _ _ nq))
        clear a0 b0 k0 kl2 hgl2 h2
        generalize wr.drewN nq = w3 at *
        go_wp2
        go_roundg (gk - 1)
        case measure => omega
        case rel => exact ⟨a, i + 1, rfl, by simp, by omega, by omega, by omega, hF2.out, B.out⟩
    · have hin2 : i = n := by omega
      rw [hin2] at hF
      have dl : decide ((i : Int) < (n : Int)) = false := decide_eq_false (by omega)
      have dl2 : decide (i < n) = false := decide_eq_false (by omega)
      clear hlt hi hin2
      obtain ⟨a0, a1⟩ := h2.cell (i := a) (by have := hn.out; omega)
      have haI : (a : Int) < (n : Int) := by omega
      have ha0' : (0 : Int) ≤ (a : Int) := by omega
      have hac : (a : Int) ≤ (cap : Int) := by omega
      have haI2 : (a : Int) + 1 ≤ (n : Int) := by omega
      have hw1 : IntKind.i64.wrap ((a : Int) + 1) = (a : Int) + 1 := i64x _ (by omega) (by omega)
      obtain ⟨x, hx⟩ : ∃ x, x = tr l a := ⟨_, rfl⟩
      rw [← hx] at a0 a1
      replace hx := Mr.hid hx
      replace hF := Mr.hid hF
      replace B := Mr.hid B
      replace h2 := Mr.hid h2
      go_upto_region 11 with (fail)
      have B4 : Below w.heap.size w (wr.alloc (.cells #[.int .i64 x.k, .int .i64 x.v] 61)) := B.out.alloc B.out.size _
      have X4 : (wr.alloc (.cells #[.int .i64 x.k, .int .i64 x.v] 61)).heap[wr.heap.size]? = some (.cells #[.int .i64 x.k, .int .i64 x.v] 61) := heap_alloc_new wr _
      clear k0 kl2 a0 a1 hgl2 h2
      have hwr : w.heap.size ≤ wr.heap.size := B.out.size
      generalize (wr.alloc (.cells #[.int .i64 x.k, .int .i64 x.v] 61)) = w4 at *
      have h4 := h.out.below B4
      have k0 := h4.c0
      have kl4 := h4.lt
      have hgl4 : g < w4.heap.size := Nat.lt_of_lt_of_le hgl B4.size
      have src1 : ∀ ad, some (⟨g, 0, none⟩ : Addr) = some ad → ∀ j u, (its (l.take a))[j]? = some u → w4.cell? (ad.add j) = some u := by
        intro ad e j u hu
        cases e
        rw [add1, Nat.zero_add]
        rw [its_take] at hu
        have hj : j < a * 2 := by have := (List.getElem?_eq_some_iff.1 hu).1; rw [List.length_take] at this; omega
        rw [List.getElem?_take, if_pos hj] at hu
        exact h4.row.cells (g := g) rfl j u hu
      have hl1 : (its (l.take a)).length = a * 2 := by rw [its_len, List.length_take, Nat.min_eq_left (by have := hn.out; omega)]
      replace src1 := Mr.hid src1
      replace hl1 := Mr.hid hl1
      replace B4 := Mr.hid B4
      replace h4 := Mr.hid h4
      replace X4 := Mr.hid X4
      have tk : Hid True := trivial
      go_upto_region 12 with (clear tk; at_builtin; refine wpList_append_fresh _ rfl (.tmp 49) (.tmp 55) 40 rfl (fun q => w4.heap.size ≤ q) 61 i0 _ 2 16 Try.underlying40 hi0 hz0 hz1 hz2 rfl rfl (some ⟨g, 0, none⟩) a cap (its (l.take a)) rfl hl1.out (fun e => by cases e) src1.out (its_one' _) (by unfold maxLen; omega) (by omega) (Nat.le_refl _) ?_; intro v5 w5 hown hgrow hat)
      have F5 : Fr w4 w5 (fun _ => False) := (Fr.refl w4 _).grown hgrow (fun k hk => by cases hk)
      have h5 := h4.out.fr F5 (fun e => e) (fun _ _ _ e => e)
      clear k0 kl4
      have k0 := h5.c0
      have kl5 := h5.lt
      have f5 := h5.fz 0
      have hgl5 : g < w5.heap.size := Nat.lt_of_lt_of_le hgl4 F5.size
      obtain ⟨a5, c5, rfl, hc5⟩ := hown.form
      replace hown := Mr.hid hown
      replace h5 := Mr.hid h5
      replace F5 := Mr.hid F5
      replace hgrow := Mr.hid hgrow
      replace hat := Mr.hid hat
      have src2 : ∀ ad, (if cap = a + 1 then some (⟨g, 0, none⟩ : Addr) else some ⟨g, (a + 1) * 2, none⟩) = some ad → ∀ j u, (its (l.drop (a + 1)))[j]? = some u → w5.cell? (ad.add j) = some u := by
        intro ad e j u hu
        rw [its_drop] at hu
        by_cases hc : cap = a + 1
        · have : (its l).length ≤ (a + 1) * 2 := by rw [its_len, hn.out]; omega
          rw [List.drop_eq_nil_of_le this] at hu
          simp at hu
        · rw [if_neg hc] at e
          cases e
          rw [add1]
          rw [List.getElem?_drop] at hu
          exact h5.out.row.cells (g := g) rfl _ u hu
      have hl2 : (its (l.drop (a + 1))).length = (n - (a + 1)) * 2 := by rw [its_len, List.length_drop, hn.out]
      replace src2 := Mr.hid src2
      replace hl2 := Mr.hid hl2
      have tk : Hid True := trivial
      go_upto_region 13 with (clear tk; at_builtin; refine wpList_append_any _ rfl (.tmp 58) (.tmp 65) 40 rfl (fun q => w4.heap.size ≤ q) 61 i0 _ 2 16 Try.underlying40 hi0 hz0 hz1 hz2 rfl _ a (its (l.take a)) rfl hown.out (if cap = a + 1 then some (⟨g, 0, none⟩ : Addr) else some ⟨g, (a + 1) * 2, none⟩) (n - (a + 1)) (cap - (a + 1)) (its (l.drop (a + 1))) rfl hl2.out (fun e => by split at e <;> cases e) src2.out (its_one' _) (by unfold maxLen; omega) (by omega) F5.out.size ?_; intro b6 cap6 w6 hown6 hgrow6 hat6; have F6 : Fr w4 w6 (fun q => w4.heap.size ≤ q) := ((F5.out.mono (fun _ e => e.elim)).grown hgrow6 (fun k hk => Or.inl ((hown.out.lt k hk).1))); have h6 := h4.out.fr F6 (fun e => by have := B4.out.size; omega) (fun q hq _ => by have := B4.out.size; have := hq.2; omega); clear k0 kl5 f5; have k0 := h6.c0; have kl6 := h6.lt; have f6 := h6.fz 0; replace h6 := Mr.hid h6; replace F6 := Mr.hid F6; replace hown6 := Mr.hid hown6; clear hgrow6 hat6)
      all_goals
        rw [← its_app] at hown6
        have hcl : (cut l a).length = a + (n - (a + 1)) := by rw [cut_len (by have := hn.out; omega), hn.out]; omega
        have hnb : ¬ (S b ∨ w.heap.size ≤ b) := fun e => e.elim hSb.out (fun e => by omega)
        have h7 : Hd (w6.setCell ⟨b, 0, none⟩ (.slice b6 (a + (n - (a + 1))) cap6)) b (fun q => S q ∨ w.heap.size ≤ q) (.slice b6 (a + (n - (a + 1))) cap6) (cut l a) := by
          refine ⟨by rw [setBlk h6.out.box]; rfl, ?_, hnb⟩
          rw [hcl]
          exact (hown6.out.setCell _ _ (fun e => by have q1 : w4.heap.size ≤ b := (hown6.out.lt _ e).1; have q2 := B4.out.size; omega)).mono (fun q hq => .inr (by have := B4.out.size; omega))
        have F7 : Fr w (w6.setCell ⟨b, 0, none⟩ (.slice b6 (a + (n - (a + 1))) cap6)) (fun q => q = b ∨ S q) := ((Fr.of_below (S := fun q => q = b ∨ S q) B4.out).trans (F6.out.mono (fun q hq => Or.inr (by have := B4.out.size; omega)))).setCell ⟨b, 0, none⟩ _ (.inl (.inl rfl))
        have hlw4 : wr.heap.size < w4.heap.size := (Array.getElem?_eq_some_iff.1 X4.out).1
        have X7 : (w6.setCell ⟨b, 0, none⟩ (.slice b6 (a + (n - (a + 1))) cap6)).heap[wr.heap.size]? = some (.cells #[.int .i64 x.k, .int .i64 x.v] 61) := (Below.heap_setCell w6 ⟨b, 0, none⟩ _ wr.heap.size (by simp; omega)).trans ((F6.out.block wr.heap.size hlw4 (by omega)).trans X4.out)
        clear k0 kl6 f6
        generalize w6.setCell ⟨b, 0, none⟩ (.slice b6 (a + (n - (a + 1))) cap6) = w7 at *
        have c0 : w7.cell? ⟨wr.heap.size, 0, none⟩ = some (.int .i64 x.k) := by rw [cell_blk X7]; rfl
        have c1 : w7.cell? ⟨wr.heap.size, 1, none⟩ = some (.int .i64 x.v) := by rw [cell_blk X7]; rfl
        have hl9 := (Array.getElem?_eq_some_iff.1 X7).1
        replace X7 := Mr.hid X7
        replace h7 := Mr.hid h7
        replace F7 := Mr.hid F7
        go_quiet (fail)
        have B9 := Bx.draws w7.heap.size w7 nq
        have hend : Hid (∃ v', Hd (w7.drewN nq) b (fun q => S q ∨ w.heap.size ≤ q) v' (cut l a) ∧ Fr w (w7.drewN nq) (fun q => q = b ∨ S q)) := ⟨_, h7.out.below B9, F7.out.trans (Fr.of_below B9)⟩
        clear c0 c1 hl9
        generalize w7.drewN nq = w10 at *
        go_wp2
        all_goals
          go_ret3
          obtain ⟨v9, hv9, hF9⟩ := hend.out
          exact ⟨a, hF.out, by rw [← hx.out]; rfl, ⟨v9, hv9⟩, hF9⟩
end Go.Proofs.Ytfbneodldlcdjaa.Sh
