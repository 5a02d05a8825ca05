import Derived.Test.YtfgnaffomglmdaaGreatJ10
import Derived.Test.YtfgnaffomglmdaaGreatJ12
import Derived.Deep.LoopGhost
import Derived.BigQuiet
/-
  The document's sort of marks, pure: a merge so far.
-/
namespace Go.Proofs.YtfgnaffomglmdaaGreat.Wt
set_option linter.unusedVariables false
def Up1 (l : List (Int × Int)) : Prop := l.Pairwise (fun a b => a.1 ≤ b.1)
theorem Up1.at {l : List (Int × Int)} (h : Up1 l) {i : Nat} {x : Int × Int} (hx : l[i]? = some x) : ∀ y ∈ l.drop i, x.1 ≤ y.1 := by
  intro y hy
  obtain ⟨k, hk⟩ := List.getElem?_of_mem hy
  rw [List.getElem?_drop] at hk
  obtain ⟨h1, rfl⟩ := List.getElem?_eq_some_iff.1 hx
  obtain ⟨h2, rfl⟩ := List.getElem?_eq_some_iff.1 hk
  by_cases e : k = 0
  · subst e; simp
  · exact (List.pairwise_iff_getElem.1 h) i (i + k) h1 h2 (by omega)
theorem drop_sub {α : Type} {l : List α} {i : Nat} {y : α} (h : y ∈ l.drop (i + 1)) : y ∈ l.drop i := by
  obtain ⟨k, hk⟩ := List.getElem?_of_mem h
  rw [List.getElem?_drop] at hk
  refine List.mem_of_getElem? (i := k + 1) ?_
  rw [List.getElem?_drop, show i + (k + 1) = i + 1 + k from by omega]; exact hk
theorem mem_drop_at {α : Type} {l : List α} {i : Nat} {x : α} (h : l[i]? = some x) : x ∈ l.drop i := by
  refine List.mem_of_getElem? (i := 0) ?_
  rw [List.getElem?_drop, Nat.add_zero]; exact h
structure Mg (a b m : List (Int × Int)) (i k : Nat) : Prop where
  perm : m.Perm (a.take i ++ b.take k)
  up : Up1 m
  low : ∀ x ∈ m, ∀ y, (y ∈ a.drop i ∨ y ∈ b.drop k) → x.1 ≤ y.1
theorem Mg.zero (a b : List (Int × Int)) : Mg a b [] 0 0 := ⟨by simp, List.Pairwise.nil, fun x hx => by simp at hx⟩
theorem Mg.len {a b m : List (Int × Int)} {i k : Nat} (h : Mg a b m i k) : m.length ≤ i + k := by
  have := h.perm.length_eq
  simp at this; omega
theorem Mg.left {a b m : List (Int × Int)} {i k : Nat} (h : Mg a b m i k) (ha : Up1 a) (hb : Up1 b) {x : Int × Int} (hx : a[i]? = some x) (hle : ∀ y, b[k]? = some y → x.1 ≤ y.1) : Mg a b (m ++ [x]) (i + 1) k := by
  refine ⟨?_, ?_, ?_⟩
  · rw [List.take_add_one, hx]
    show (m ++ [x]).Perm (a.take i ++ [x] ++ b.take k)
    refine (List.Perm.append_right [x] h.perm).trans ?_
    rw [List.append_assoc, List.append_assoc]
    exact List.Perm.append_left _ List.perm_append_comm
  · unfold Up1
    rw [List.pairwise_append]
    refine ⟨h.up, by simp, fun y hy z hz => ?_⟩
    simp at hz; subst hz
    exact h.low y hy z (.inl (mem_drop_at hx))
  · intro z hz y hy
    rcases List.mem_append.1 hz with hz | hz
    · exact h.low z hz y (hy.imp drop_sub id)
    · simp at hz; subst hz
      rcases hy with hy | hy
      · exact ha.at hx y (drop_sub hy)
      · by_cases hk : k < b.length
        · have hbk : b[k]? = some b[k] := List.getElem?_eq_getElem _
          exact Int.le_trans (hle _ hbk) (hb.at hbk y hy)
        · rw [List.drop_of_length_le (by omega)] at hy; simp at hy
theorem Mg.swap {a b m : List (Int × Int)} {i k : Nat} (h : Mg a b m i k) : Mg b a m k i := ⟨h.perm.trans List.perm_append_comm, h.up, fun x hx y hy => h.low x hx y hy.symm⟩
theorem Mg.right {a b m : List (Int × Int)} {i k : Nat} (h : Mg a b m i k) (ha : Up1 a) (hb : Up1 b) {y : Int × Int} (hy : b[k]? = some y) (hle : ∀ x, a[i]? = some x → y.1 ≤ x.1) : Mg a b (m ++ [y]) i (k + 1) := (h.swap.left hb ha hy hle).swap
theorem Mg.done {a b m l : List (Int × Int)} {i k : Nat} (h : Mg a b m i k) (hi : ¬ i < a.length) (hk : ¬ k < b.length) {j : Nat} (ha : a.Perm (l.take j)) (hb : b.Perm (l.drop j)) : m.Perm l := by
  have := h.perm
  rw [List.take_of_length_le (by omega), List.take_of_length_le (by omega)] at this
  refine this.trans ((ha.append hb).trans ?_)
  rw [List.take_append_drop]
end Go.Proofs.YtfgnaffomglmdaaGreat.Wt
/-
  The document's sort of marks.
-/
namespace Go.Proofs.YtfgnaffomglmdaaGreat.Wt
open Go.RowKit Mr Md
set_option linter.unusedVariables false
set_option linter.unusedSimpArgs false
set_option maxRecDepth 100000
theorem wt_mark : (Tryz.prog.info? 57).map (fun i => (i.zero, i.size, i.bytes)) = some (some (.agg #[.int .i64 0, .int .i64 0]), 2, 16) := by kernel_rfl
theorem prs_app (a b : List (Int × Int)) : prs (a ++ b) = prs a ++ prs b := by simp [prs]
theorem prs_one (x : Int × Int) : prs [x] = pr x := by simp [prs]
theorem prs_at {l : List (Int × Int)} {i : Nat} {x : Int × Int} (h : l[i]? = some x) : (prs l)[i * 2]? = some (.int .i64 x.1) ∧ (prs l)[i * 2 + 1]? = some (.int .i64 x.2) := by
  have hi := (List.getElem?_eq_some_iff.1 h).1
  have := prs_get l i hi
  rwa [h] at this
theorem prs_take (l : List (Int × Int)) (j : Nat) : prs l = prs (l.take j) ++ prs (l.drop j) := by rw [← prs_app, List.take_append_drop]
/-- Pieces of a row of marks. -/
theorem sl_take {W : World} {T : Nat → Prop} {g o cap : Nat} {l : List (Int × Int)} (h : Sl W T 2 (.slice (some ⟨g, o, none⟩) l.length cap) l.length (prs l)) {j : Nat} (hj : j ≤ l.length) (h0 : 0 < l.length) : Sl W T 2 (.slice (some ⟨g, o, none⟩) j cap) (l.take j).length (prs (l.take j)) := by
  obtain ⟨g', o', cap', hv, hc, hT, hl, hr⟩ := h.there h0
  cases hv
  have e : (l.take j).length = j := by simp; omega
  refine ⟨prs_length _, _, cap, by rw [e], by rw [e]; omega, .inr ⟨g, o, rfl, hT, hl, fun k u hu => ?_⟩⟩
  refine hr k u ?_
  rw [prs_take l j, List.getElem?_append_left (List.getElem?_eq_some_iff.1 hu).1]; exact hu
theorem sl_drop {W : World} {T : Nat → Prop} {g o cap : Nat} {l : List (Int × Int)} (h : Sl W T 2 (.slice (some ⟨g, o, none⟩) l.length cap) l.length (prs l)) {j : Nat} (hj : j ≤ l.length) (h0 : 0 < l.length) : Sl W T 2 (.slice (some ⟨g, o + j * 2, none⟩) (l.length - j) (cap - j)) (l.drop j).length (prs (l.drop j)) := by
  obtain ⟨g', o', cap', hv, hc, hT, hl, hr⟩ := h.there h0
  cases hv
  have e : (l.drop j).length = l.length - j := by simp
  refine ⟨prs_length _, _, cap - j, by rw [e], by rw [e]; omega, .inr ⟨g, o + j * 2, rfl, hT, hl, fun k u hu => ?_⟩⟩
  have e2 : (prs (l.take j)).length = j * 2 := by rw [prs_length]; simp; omega
  rw [Nat.add_assoc]
  refine hr (j * 2 + k) u ?_
  rw [prs_take l j, List.getElem?_append_right (by omega), e2, Nat.add_sub_cancel_left]; exact hu
theorem bytes_mono {a b : Nat} (h : a ≤ b) : (a + a / 4 + 192) * 16 ≤ (b + b / 4 + 192) * 16 := Nat.mul_le_mul_right _ (by omega)
theorem cell_drewN (w : World) (nq : Nat) (p : Addr) : (w.drewN nq).cell? p = w.cell? p := rfl
/-- What a slice of one mark, just made, holds. -/
theorem new2 {w w1 : World} {x : Int × Int} {t : TypeId} (h1 : w1 = w.alloc (.cells #[.int .i64 x.1, .int .i64 x.2] t (0, 0))) : ∀ ad, some (⟨w.heap.size, 0, none⟩ : Addr) = some ad → ∀ j u, (pr x)[j]? = some u → w1.cell? (ad.add j) = some u := by
  rintro ad e j u hu
  cases e
  subst h1
  rw [add1, Nat.zero_add, cell_blk (new_at w _ _ rfl)]
  simpa [pr] using hu
/-- The merge in the world: what is laid out so far is a row of one's own. -/
structure Mw (W0 W w : World) (u : Value) (m : List (Int × Int)) : Prop where
  bel : Below W0.heap.size W0 w
  bel2 : Below W.heap.size W w
  own : Own w (fun k => W.heap.size ≤ k) 57 2 u m.length (prs m)
theorem Mw.drew {W0 W w : World} {u : Value} {m : List (Int × Int)} (h : Mw W0 W w u m) (nq : Nat) : Mw W0 W (w.drewN nq) u m :=
  ⟨h.bel.trans (Bx.draws _ _ nq), h.bel2.trans (Bx.draws _ _ nq), h.own.below (Bx.draws _ _ nq)⟩
theorem Mw.app {W0 W w w1 w2 : World} {u u' : Value} {m : List (Int × Int)} {x : Int × Int} {o : Obj} (hW : W0.heap.size ≤ W.heap.size) (h : Mw W0 W w u m) (h1 : w1 = w.alloc o) (ho : Own w2 (fun k => W.heap.size ≤ k ∨ k = w1.heap.size) 57 2 u' (m.length + 1) (prs m ++ pr x)) (hf : Fr w1 w2 (fun k => W.heap.size ≤ k)) : Mw W0 W w2 u' (m ++ [x]) := by
  have B1 : Below W.heap.size W w1 := by subst h1; exact h.bel2.alloc h.bel2.size _
  have B0 : Below W0.heap.size W0 w1 := by subst h1; exact h.bel.alloc h.bel.size _
  have e : prs m ++ pr x = prs (m ++ [x]) := by rw [prs_app, prs_one]
  rw [e] at ho
  refine ⟨⟨hf.os.trans B0.os, hf.tape.trans B0.tape, hf.output.trans B0.output, Nat.le_trans B0.size hf.size, fun k hk => (hf.block k (Nat.lt_of_lt_of_le hk B0.size) (by omega)).trans (B0.block k hk)⟩, ⟨hf.os.trans B1.os, hf.tape.trans B1.tape, hf.output.trans B1.output, Nat.le_trans B1.size hf.size, fun k hk => (hf.block k (Nat.lt_of_lt_of_le hk B1.size) (by omega)).trans (B1.block k hk)⟩, ?_⟩
  rw [List.length_append]
  exact ho.mono (fun k hk => by have := B1.size; omega)
set_option maxHeartbeats 8000000 in
theorem sorted_any : ∀ (N : Nat) {W : World} {T : Nat → Prop} {v : Value} {l : List (Int × Int)}, l.length ≤ N → Sl W T 2 v l.length (prs l) → (l.length + l.length / 4 + 192) * 16 ≤ 281474976710656 →
    Calls Tryz.prog 27 #[v] W fun e w' => ∃ v' l', e = .returned v' ∧ Sl w' (fun k => T k ∨ W.heap.size ≤ k) 2 v' l'.length (prs l') ∧ l'.Perm l ∧ Up1 l' ∧ Below W.heap.size W w' := by
  intro N
  induction N using Nat.strongRecOn with
  | ind N ih =>
    intro W0 T v l hN hv hsm
    by_cases h2 : l.length < 2
    · have hup : Up1 l := by
        unfold Up1
        rw [List.pairwise_iff_getElem]
        intro i j hi hj hij
        omega
      obtain ⟨a, cap, rfl, hcap⟩ := hv.form
      obtain ⟨n, hn⟩ : ∃ n, n = l.length := ⟨_, rfl⟩
      rw [← hn]
      rw [← hn] at h2
      have hI2 : (n : Int) < 2 := by omega
      replace hn := Mr.hid hn
      replace hv := Mr.hid hv
      replace hup := Mr.hid hup
      clear ih
      go_enter Tryz.func27, Tryz.ntmps27
      go_wp2
      go_ret
      exact ⟨_, l, rfl, by have := hn.out; subst this; exact hv.out.mono (fun k hk => .inl hk), List.Perm.refl _, hup.out, Below.refl _ _⟩
    · obtain ⟨i0, hi0, hz0, hz1, hz2⟩ := parts_of wt_mark
      obtain ⟨a, cap, rfl, hcap⟩ := hv.form
      obtain ⟨g, o, cap', hga, _, hTg, hgl, hr⟩ := hv.there (by omega)
      cases hga
      have C1 := fun w' (hB : Below W0.heap.size W0 w') => ih (l.length / 2) (by omega) (by simp; omega) ((sl_take hv (j := l.length / 2) (by omega) (by omega)).below hB) (Nat.le_trans (Nat.mul_le_mul_right _ (by simp; omega)) hsm)
      have C2 := fun w' (hB : Below W0.heap.size W0 w') => ih (l.length - l.length / 2) (by omega) (by simp) ((sl_drop hv (j := l.length / 2) (by omega) (by omega)).below hB) (Nat.le_trans (Nat.mul_le_mul_right _ (by simp; omega)) hsm)
      obtain ⟨n, hn⟩ : ∃ n, n = l.length := ⟨_, rfl⟩
      rw [← hn]
      rw [← hn] at hcap hsm h2 C1 C2
      have hI2 : decide ((n : Int) < 2) = false := decide_eq_false (by omega)
      have hnc : ¬ n / 2 = cap := by omega
      replace hv := Mr.hid hv
      replace hn := Mr.hid hn
      replace C1 := Mr.hid C1
      replace C2 := Mr.hid C2
      clear ih hr
      go_enter Tryz.func27, Tryz.ntmps27
      go_upto_region 4 with (go_at_call 27; refine (C1.out _ (Below.refl _ _)).mono ?_; clear C1; rintro e w1 ⟨va, la, rfl, hSa, hPa, hUa, hB1⟩; replace hSa := Mr.hid hSa; replace hPa := Mr.hid hPa; replace hUa := Mr.hid hUa; replace hB1 := Mr.hid hB1)
      go_upto_region 5 with (go_at_call 27; refine (C2.out _ hB1.out).mono ?_; clear C2; rintro e w2 ⟨vb, lb, rfl, hSb, hPb, hUb, hB2⟩; replace hSb := Mr.hid hSb; replace hPb := Mr.hid hPb; replace hUb := Mr.hid hUb; replace hB2 := Mr.hid hB2)
      have hSa2 := hSa.out.below hB2.out
      have hB02 := hB1.out.trans (hB2.out.mono hB1.out.size)
      obtain ⟨aa, ca, rfl, hca⟩ := hSa2.form
      obtain ⟨ab, cb, rfl, hcb⟩ := hSb.out.form
      have hla : la.length ≤ n := by rw [hPa.out.length_eq]; simp; omega
      have hlb : lb.length ≤ n := by rw [hPb.out.length_eq]; simp; have := hn.out; omega
      have hlab : la.length + lb.length = n := by rw [hPa.out.length_eq, hPb.out.length_eq]; simp; have := hn.out; omega
      replace hSa := Mr.hid hSa2
      clear hSa2
      have hW2 := Mr.hid hB02.size
      replace hB02 := Mr.hid hB02
      go_wp2
      go_loopg [5, 6, 7] n (fun q s5 s6 s7 wr => ∃ (i k : Nat) (m : List (Int × Int)), s6 = .int .i64 (i : Int) ∧ s7 = .int .i64 (k : Int) ∧ i + k + q = n ∧ i ≤ la.length ∧ k ≤ lb.length ∧ Mg la lb m i k ∧ Mw W0 w2 wr s5 m)
      case atStart => exact ⟨0, 0, [], rfl, rfl, by omega, by omega, by omega, Mg.zero _ _, hB02.out, Below.refl _ _, Own.zero _ _ _ _ _⟩
      case round =>
        obtain ⟨i, k, m, rfl, rfl, hq, hia, hkb, hM, hw⟩ := hrel
        obtain ⟨u, cu, rfl, hcu, hcm⟩ := hw.own.form
        have hml := hM.len
        by_cases hk : k < lb.length
        · obtain ⟨y, hy⟩ : ∃ y, lb[k]? = some y := ⟨lb[k], List.getElem?_eq_getElem _⟩
          obtain ⟨gb, ob, cb2, hgb, _, _, hglb, hrb⟩ := (hSb.out.below hw.bel2).there (by omega)
          cases hgb
          have kb0 := hrb _ _ (prs_at hy).1
          have kb1 := hrb _ _ (prs_at hy).2
          rw [← Nat.add_assoc] at kb1
          clear hrb
          have f1 : (k : Int) < (lb.length : Int) := by omega
          have f2 : ((k : Int) == (lb.length : Int)) = false := by simp; omega
          by_cases hi : i < la.length
          · obtain ⟨x, hx⟩ : ∃ x, la[i]? = some x := ⟨la[i], List.getElem?_eq_getElem _⟩
            obtain ⟨ga, oa, ca2, hga, _, _, hgla, hra⟩ := (hSa.out.below hw.bel2).there (by omega)
            cases hga
            have ka0 := hra _ _ (prs_at hx).1
            have ka1 := hra _ _ (prs_at hx).2
            rw [← Nat.add_assoc] at ka1
            clear hra
            have f3 : (i : Int) < (la.length : Int) := by omega
            by_cases hle : x.1 ≤ y.1
            · have hMn := Mr.hid (hM.left hUa.out hUb.out hx (fun y2 hy2 => by rw [hy] at hy2; cases hy2; exact hle))
              have f4 : decide (x.1 ≤ y.1) = true := decide_eq_true hle
              replace hM := Mr.hid hM
              replace hx := Mr.hid hx
              replace hy := Mr.hid hy
              replace hle := Mr.hid hle
              have hm1 : m.length + 1 ≤ n := by clear hsm; omega
              have hby := Mr.hid (Nat.le_trans (bytes_mono hm1) hsm)
              have hmx := Mr.hid (show m.length + 1 ≤ maxLen by unfold maxLen; omega)
              replace hw := Mr.hid hw
              go_wp2
              go_quiet (fail)
              replace hw := Mr.hid (hw.out.drew nq)
              rw [← cell_drewN wr nq] at ka0
              rw [← cell_drewN wr nq] at ka1
              rw [← cell_drewN wr nq] at kb0
              rw [← cell_drewN wr nq] at kb1
              generalize wr.drewN nq = w6 at *
              go_wp2_with (at_builtin; refine wpList_append_mine _ rfl (.tmp 57) (.tmp 62) 55 rfl (fun k => w2.heap.size ≤ k) 57 i0 _ 2 16 Tryz.underlying55 hi0 hz0 hz1 hz2 rfl _ m.length (prs m) rfl (hw.out.own.below ((Below.refl _ _).alloc (Nat.le_refl _) _)) (some ⟨w6.heap.size, 0, none⟩) 1 1 (pr x) rfl rfl (fun e => by cases e) (new2 rfl) (by simp [pr, Value.oneCell']) hmx.out hby.out ?_; intro b9 cap9 w9 hown hfr; have hX := Mr.hid (hw.out.app hW2.out rfl hown hfr); clear hown hfr)
              go_roundg (gk - 1)
              case measure => omega
              case rel => exact ⟨i + 1, k, m ++ [x], by simp, by simp, by omega, by omega, by omega, hMn.out, hX.out⟩
            · have hMn := Mr.hid (hM.right hUa.out hUb.out hy (fun x2 hx2 => by rw [hx] at hx2; cases hx2; omega))
              have f4 : decide (x.1 ≤ y.1) = false := decide_eq_false hle
              replace hM := Mr.hid hM
              replace hx := Mr.hid hx
              replace hy := Mr.hid hy
              replace hle := Mr.hid hle
              have hm1 : m.length + 1 ≤ n := by clear hsm; omega
              have hby := Mr.hid (Nat.le_trans (bytes_mono hm1) hsm)
              have hmx := Mr.hid (show m.length + 1 ≤ maxLen by unfold maxLen; omega)
              replace hw := Mr.hid hw
              go_wp2
              go_quiet (fail)
              replace hw := Mr.hid (hw.out.drew nq)
              rw [← cell_drewN wr nq] at ka0
              rw [← cell_drewN wr nq] at ka1
              rw [← cell_drewN wr nq] at kb0
              rw [← cell_drewN wr nq] at kb1
              generalize wr.drewN nq = w6 at *
              go_wp2_with (at_builtin; refine wpList_append_mine _ rfl (.tmp 66) (.tmp 71) 55 rfl (fun k => w2.heap.size ≤ k) 57 i0 _ 2 16 Tryz.underlying55 hi0 hz0 hz1 hz2 rfl _ m.length (prs m) rfl (hw.out.own.below ((Below.refl _ _).alloc (Nat.le_refl _) _)) (some ⟨w6.heap.size, 0, none⟩) 1 1 (pr y) rfl rfl (fun e => by cases e) (new2 rfl) (by simp [pr, Value.oneCell']) hmx.out hby.out ?_; intro b9 cap9 w9 hown hfr; have hX := Mr.hid (hw.out.app hW2.out rfl hown hfr); clear hown hfr)
              go_roundg (gk - 1)
              case measure => omega
              case rel => exact ⟨i, k + 1, m ++ [y], by simp, by simp, by omega, by omega, by omega, hMn.out, hX.out⟩
          · have hMn := Mr.hid (hM.right hUa.out hUb.out hy (fun x2 hx2 => by have := (List.getElem?_eq_some_iff.1 hx2).1; omega))
            have f3 : decide ((i : Int) < (la.length : Int)) = false := decide_eq_false (by omega)
            replace hM := Mr.hid hM
            replace hy := Mr.hid hy
            have hm1 : m.length + 1 ≤ n := by clear hsm; omega
            have hby := Mr.hid (Nat.le_trans (bytes_mono hm1) hsm)
            have hmx := Mr.hid (show m.length + 1 ≤ maxLen by unfold maxLen; omega)
            replace hw := Mr.hid hw
            go_wp2
            go_quiet (fail)
            replace hw := Mr.hid (hw.out.drew nq)
            rw [← cell_drewN wr nq] at kb0
            rw [← cell_drewN wr nq] at kb1
            generalize wr.drewN nq = w6 at *
            go_wp2_with (at_builtin; refine wpList_append_mine _ rfl (.tmp 66) (.tmp 71) 55 rfl (fun k => w2.heap.size ≤ k) 57 i0 _ 2 16 Tryz.underlying55 hi0 hz0 hz1 hz2 rfl _ m.length (prs m) rfl (hw.out.own.below ((Below.refl _ _).alloc (Nat.le_refl _) _)) (some ⟨w6.heap.size, 0, none⟩) 1 1 (pr y) rfl rfl (fun e => by cases e) (new2 rfl) (by simp [pr, Value.oneCell']) hmx.out hby.out ?_; intro b9 cap9 w9 hown hfr; have hX := Mr.hid (hw.out.app hW2.out rfl hown hfr); clear hown hfr)
            go_roundg (gk - 1)
            case measure => omega
            case rel => exact ⟨i, k + 1, m ++ [y], by simp, by simp, by omega, by omega, by omega, hMn.out, hX.out⟩
        · by_cases hii : i < la.length
          · have hi : i < la.length := by omega
            obtain ⟨x, hx⟩ : ∃ x, la[i]? = some x := ⟨la[i], List.getElem?_eq_getElem _⟩
            obtain ⟨ga, oa, ca2, hga, _, _, hgla, hra⟩ := (hSa.out.below hw.bel2).there (by omega)
            cases hga
            have ka0 := hra _ _ (prs_at hx).1
            have ka1 := hra _ _ (prs_at hx).2
            rw [← Nat.add_assoc] at ka1
            clear hra
            have hMn := Mr.hid (hM.left hUa.out hUb.out hx (fun y hy => by have := (List.getElem?_eq_some_iff.1 hy).1; omega))
            replace hM := Mr.hid hM
            replace hx := Mr.hid hx
            have f1 : (i : Int) < (la.length : Int) := by omega
            have f2 : ((k : Int) == (lb.length : Int)) = true := by simp; omega
            have hm1 : m.length + 1 ≤ n := by clear hsm; omega
            have hby := Mr.hid (Nat.le_trans (bytes_mono hm1) hsm)
            have hmx := Mr.hid (show m.length + 1 ≤ maxLen by unfold maxLen; omega)
            replace hw := Mr.hid hw
            go_wp2
            go_quiet (fail)
            replace hw := Mr.hid (hw.out.drew nq)
            rw [← cell_drewN wr nq] at ka0
            rw [← cell_drewN wr nq] at ka1
            generalize wr.drewN nq = w6 at *
            go_wp2_with (at_builtin; refine wpList_append_mine _ rfl (.tmp 57) (.tmp 62) 55 rfl (fun k => w2.heap.size ≤ k) 57 i0 _ 2 16 Tryz.underlying55 hi0 hz0 hz1 hz2 rfl _ m.length (prs m) rfl (hw.out.own.below ((Below.refl _ _).alloc (Nat.le_refl _) _)) (some ⟨w6.heap.size, 0, none⟩) 1 1 (pr x) rfl rfl (fun e => by cases e) (new2 rfl) (by simp [pr, Value.oneCell']) hmx.out hby.out ?_; intro b9 cap9 w9 hown hfr; have hX := Mr.hid (hw.out.app hW2.out rfl hown hfr); clear hown hfr)
            go_roundg (gk - 1)
            case measure => omega
            case rel => exact ⟨i + 1, k, m ++ [x], by simp, by simp, by omega, by omega, by omega, hMn.out, hX.out⟩
          · have f1 : decide ((i : Int) < (la.length : Int)) = false := decide_eq_false (by omega)
            have f2 : decide ((k : Int) < (lb.length : Int)) = false := decide_eq_false (by omega)
            have hP := hM.done (l := l) (by omega) hk hPa.out hPb.out
            replace hP := Mr.hid hP
            replace hM := Mr.hid hM
            replace hw := Mr.hid hw
            go_wp2
            go_ret
            exact ⟨_, m, rfl, hw.out.own.sl.mono (fun k hk => .inr (Nat.le_trans hB02.out.size hk)), hP.out, hM.out.up, hw.out.bel⟩
end Go.Proofs.YtfgnaffomglmdaaGreat.Wt
