import Derived.Test.YtegbcocbopgghacJ30
import Derived.Test.YtegbcocbopgghacJ09
import Derived.Test.YtegbcocbopgghacJ31
import Derived.Test.YtegbcocbopgghacJ27
/-
  Package model: Play.
-/
namespace Go.Proofs.Ytegbcocbopgghac.Md
open Go.RowKit Mr
set_option linter.unusedVariables false
set_option linter.unusedSimpArgs false
theorem adm_left {x : Ct} {cs : List Cq} {i : Nat} {c : Cq} (hc : cs[i]? = some c) (h : (alw (lefts x cs i) c).2 = true) : adm (lefts x cs i) c = lefts x cs (i + 1) := by
  rw [lefts_succ x cs i c hc]; exact if_pos h
theorem adm_same {x : Ct} {c : Cq} (h : (alw x c).2 = false) : adm x c = x := if_neg (by rw [h]; decide)
theorem may_alw {x : Ct} (h : May x) {c : Cq} (ho : obj c.op ≠ 0) (hy : (alw x c).2 = true) : May (alw x c).1 := by
  have hd := may_dnx h ho c.arg c.data
  unfold alw at hy ⊢
  by_cases h0 : c.ak = 0
  · rw [if_pos h0]; exact hd
  · rw [if_neg h0] at hy ⊢
    by_cases h4 : c.ak = 4
    · rw [if_pos h4] at hy ⊢
      by_cases hf : fullOp c.op
      · rw [if_pos hf]; exact h
      · rw [if_neg hf] at hy; cases hy
    · rw [if_neg h4] at hy ⊢
      by_cases hq : dan x c.op c.arg = (c.ak, c.av)
      · rw [if_pos hq]; exact hd
      · rw [if_neg hq] at hy; cases hy
theorem may_left {x : Ct} (h : May x) {cs : List Cq} (ho : ∀ c ∈ cs, obj c.op ≠ 0) : ∀ i, i ≤ cs.length → okTo x cs i → May (lefts x cs i) := by
  intro i
  induction i with
  | zero => intro _ _; exact h
  | succ i ih =>
    intro hi hok
    have hc : cs[i]? = some cs[i] := List.getElem?_eq_getElem (by omega)
    rw [lefts_succ x cs i _ hc]
    exact may_alw (ih (by omega) (fun j hj => hok j (by omega))) (ho _ (List.getElem_mem _)) (hok i (by omega) _ hc)
theorem bads_all {cs : List Cq} (h : ∀ c ∈ cs, obj c.op ≠ 0) : bads cs = false := bads_no (fun j c hc => h c (List.mem_of_getElem? hc))
theorem bads_some {cs : List Cq} (h : ∃ c ∈ cs, obj c.op = 0) : bads cs = true := by
  obtain ⟨c, hc, ho⟩ := h
  unfold bads
  rw [List.any_eq_true]
  exact ⟨c, hc, by simp [ho]⟩
/-- Within Play: the result's box, the objects' box, the objects. -/
structure Dl (W w : World) (B bW g0 g1 g2 g3 g4 : Nat) (y : Ct) : Prop where
  bel : Below W.heap.size W w
  r : w.heap[W.heap.size + 1]? = some (.cells #[.slice none 0 0, .slice none 0 0, .slice none 0 0, .slice none 0 0, .slice none 0 0] 25 (0, 0))
  p : w.heap[bW]? = some (.cells #[.iface 55 (.pointer (some ⟨g0, 0, none⟩)), .iface 57 (.pointer (some ⟨g1, 0, none⟩)), .iface 59 (.pointer (some ⟨g2, 0, none⟩)), .iface 61 (.pointer (some ⟨g3, 0, none⟩)), .iface 63 (.pointer (some ⟨g4, 0, none⟩))] 48 (0, 0))
  hB : B ≤ w.heap.size
  d : ∃ lab, Wd w B lab g0 g1 g2 g3 g4 y ∧ (∀ k, lab k < 5 → k < w.heap.size) ∧ ¬ lab bW < 5
set_option maxRecDepth 100000 in
set_option maxHeartbeats 8000000 in
theorem pPlay_state {W : World} {S : Nat → Prop} {u0 u1 u2 u3 u4 : Value} {x : Ct} (hu : CtAt W S u0 u1 u2 u3 u4 x) {T : Nat → Prop} {uc : Value} {cs : List Cq} (hin : CtIn 140737488355328 x) (hc : Sl W T 9 uc cs.length (cqs cs)) (hsm : cs.length * 72 ≤ 140737488355328) (hm : ¬ May x) :
    Calls Try.prog 5 #[.agg #[u0, u1, u2, u3, u4], uc] W fun e w' => ∃ v0 v1 v2 v3 v4 lab, e = .returned (.tuple #[.agg #[v0, v1, v2, v3, v4], .int .i64 0, .int .i64 111]) ∧ CtOwn w' W.heap.size lab v0 v1 v2 v3 v4 ct0 ∧ Below W.heap.size W w' := by
  obtain ⟨a0, c0, rfl, _⟩ := hu.cell.form
  obtain ⟨a1, c1, rfl, _⟩ := hu.stack.form
  obtain ⟨a2, c2, rfl, _⟩ := hu.queue.form
  obtain ⟨a3, c3, rfl, _⟩ := hu.set.form
  obtain ⟨a4, c4, rfl, _⟩ := hu.table.form
  obtain ⟨ac, cc, rfl, hcc⟩ := hc.form
  have CR := fun w' (hB : Below W.heap.size W w') => refused_any (hu.below hB) (hin.sm (by decide)) (hc.below hB) (by omega) false (by simp [hm]) 111 rfl
  have CW := fun w' (hB : Below W.heap.size W w') => worldOf_any (hu.below hB) (hin.mono (by decide))
  have hT0 := Tq.new W (.cells #[.slice a0 x.cell.length c0, .slice a1 x.stack.length c1, .slice a2 x.queue.length c2, .slice a3 x.set.length c3, .slice a4 x.table.length c4] 25 (0, 0)) (.cells #[.slice none 0 0, .slice none 0 0, .slice none 0 0, .slice none 0 0, .slice none 0 0] 25 (0, 0))
  obtain ⟨y0, y1, y2, y3, y4, y5⟩ := ifs_cells hT0.2.1
  clear hu
  replace CR := Mr.hid CR
  replace CW := Mr.hid CW
  replace hT0 := Mr.hid hT0
  generalize cs.length = n at *
  clear hc
  go_enter Try.func5, Try.ntmps5
  go_upto_region 3 with (first | (go_at_call 12; refine (CR.out _ hT0.out.1).mono ?_; rintro e w1 ⟨rfl, hB1⟩; have hT1 := Mr.hid (hT0.out.below hB1); clear y0 y1 y2 y3 y4 y5; obtain ⟨y0, y1, y2, y3, y4, y5⟩ := ifs_cells hT1.out.2.1))
  clear y0 y1 y2 y3 y4 y5
  obtain ⟨r0, r1, r2, r3, r4, r5⟩ := ifs_cells hT1.out.2.2.1
  obtain ⟨f0, f1, f2, f3, f4⟩ := ifs_thaw hT1.out.2.2.1
  have m2 := set5_five (.slice none 0 0) (.slice none 0 0) (.slice none 0 0) (.slice none 0 0) (.slice none 0 0) hT1.out.2.2.1
  have m1 := set5_below (b := W.heap.size + 1) (.slice none 0 0) (.slice none 0 0) (.slice none 0 0) (.slice none 0 0) (.slice none 0 0) hT1.out.1 (by omega)
  obtain ⟨x0, x1, x2, x3, x4, x5⟩ := ifs_cells m2
  unfold set5 at x0 x1 x2 x3 x4 x5 m1
  replace m1 := Mr.hid m1
  clear m2
  go_wp2
  refine bodyPost_ret (v := .tuple #[.agg #[.slice none 0 0, .slice none 0 0, .slice none 0 0, .slice none 0 0, .slice none 0 0], .int .i64 0, .int .i64 111]) (by simp [results, Try.results5, go_sem, x0, x1, x2, x3, x4]) rfl ⟨_, _, _, _, _, _, rfl, ct0_own _ _, m1.out⟩
set_option maxRecDepth 100000 in
set_option maxHeartbeats 8000000 in
theorem pPlay_ill {W : World} {S : Nat → Prop} {u0 u1 u2 u3 u4 : Value} {x : Ct} (hu : CtAt W S u0 u1 u2 u3 u4 x) {T : Nat → Prop} {uc : Value} {cs : List Cq} (hin : CtIn 140737488355328 x) (hc : Sl W T 9 uc cs.length (cqs cs)) (hsm : cs.length * 72 ≤ 140737488355328) (hm : May x) (ho : ∃ c ∈ cs, obj c.op = 0) :
    Calls Try.prog 5 #[.agg #[u0, u1, u2, u3, u4], uc] W fun e w' => ∃ v0 v1 v2 v3 v4 lab, e = .returned (.tuple #[.agg #[v0, v1, v2, v3, v4], .int .i64 0, .int .i64 110]) ∧ CtOwn w' W.heap.size lab v0 v1 v2 v3 v4 ct0 ∧ Below W.heap.size W w' := by
  obtain ⟨a0, c0, rfl, _⟩ := hu.cell.form
  obtain ⟨a1, c1, rfl, _⟩ := hu.stack.form
  obtain ⟨a2, c2, rfl, _⟩ := hu.queue.form
  obtain ⟨a3, c3, rfl, _⟩ := hu.set.form
  obtain ⟨a4, c4, rfl, _⟩ := hu.table.form
  obtain ⟨ac, cc, rfl, hcc⟩ := hc.form
  have CR := fun w' (hB : Below W.heap.size W w') => refused_any (hu.below hB) (hin.sm (by decide)) (hc.below hB) (by omega) true (by simp [hm]) 110 (by simp [bads_some ho])
  have CW := fun w' (hB : Below W.heap.size W w') => worldOf_any (hu.below hB) (hin.mono (by decide))
  have hT0 := Tq.new W (.cells #[.slice a0 x.cell.length c0, .slice a1 x.stack.length c1, .slice a2 x.queue.length c2, .slice a3 x.set.length c3, .slice a4 x.table.length c4] 25 (0, 0)) (.cells #[.slice none 0 0, .slice none 0 0, .slice none 0 0, .slice none 0 0, .slice none 0 0] 25 (0, 0))
  obtain ⟨y0, y1, y2, y3, y4, y5⟩ := ifs_cells hT0.2.1
  clear hu
  replace CR := Mr.hid CR
  replace CW := Mr.hid CW
  replace hT0 := Mr.hid hT0
  generalize cs.length = n at *
  clear hc
  go_enter Try.func5, Try.ntmps5
  go_upto_region 3 with (first | (go_at_call 12; refine (CR.out _ hT0.out.1).mono ?_; rintro e w1 ⟨rfl, hB1⟩; have hT1 := Mr.hid (hT0.out.below hB1); clear y0 y1 y2 y3 y4 y5; obtain ⟨y0, y1, y2, y3, y4, y5⟩ := ifs_cells hT1.out.2.1))
  clear y0 y1 y2 y3 y4 y5
  obtain ⟨r0, r1, r2, r3, r4, r5⟩ := ifs_cells hT1.out.2.2.1
  obtain ⟨f0, f1, f2, f3, f4⟩ := ifs_thaw hT1.out.2.2.1
  have m2 := set5_five (.slice none 0 0) (.slice none 0 0) (.slice none 0 0) (.slice none 0 0) (.slice none 0 0) hT1.out.2.2.1
  have m1 := set5_below (b := W.heap.size + 1) (.slice none 0 0) (.slice none 0 0) (.slice none 0 0) (.slice none 0 0) (.slice none 0 0) hT1.out.1 (by omega)
  obtain ⟨x0, x1, x2, x3, x4, x5⟩ := ifs_cells m2
  unfold set5 at x0 x1 x2 x3 x4 x5 m1
  replace m1 := Mr.hid m1
  clear m2
  go_wp2
  refine bodyPost_ret (v := .tuple #[.agg #[.slice none 0 0, .slice none 0 0, .slice none 0 0, .slice none 0 0, .slice none 0 0], .int .i64 0, .int .i64 110]) (by simp [results, Try.results5, go_sem, x0, x1, x2, x3, x4]) rfl ⟨_, _, _, _, _, _, rfl, ct0_own _ _, m1.out⟩
set_option maxRecDepth 100000 in
set_option maxHeartbeats 8000000 in
theorem pPlay_any {W : World} {S : Nat → Prop} {u0 u1 u2 u3 u4 : Value} {x : Ct} (hu : CtAt W S u0 u1 u2 u3 u4 x) {T : Nat → Prop} {uc : Value} {cs : List Cq} (hin : CtIn 140737488355328 x) (hc : Sl W T 9 uc cs.length (cqs cs)) (hsm : cs.length * 72 ≤ 140737488355328) (hm : May x) (ho : ∀ c ∈ cs, obj c.op ≠ 0) :
    Calls Try.prog 5 #[.agg #[u0, u1, u2, u3, u4], uc] W fun e w' => ∃ v0 v1 v2 v3 v4 lab, e = .returned (.tuple #[.agg #[v0, v1, v2, v3, v4], .int .i64 (plays x cs 0).2, .int .i64 0]) ∧ CtOwn w' W.heap.size lab v0 v1 v2 v3 v4 (plays x cs 0).1 ∧ Below W.heap.size W w' := by
  obtain ⟨a0, c0, rfl, _⟩ := hu.cell.form
  obtain ⟨a1, c1, rfl, _⟩ := hu.stack.form
  obtain ⟨a2, c2, rfl, _⟩ := hu.queue.form
  obtain ⟨a3, c3, rfl, _⟩ := hu.set.form
  obtain ⟨a4, c4, rfl, _⟩ := hu.table.form
  obtain ⟨ac, cc, rfl, hcc⟩ := hc.form
  have CR := fun w' (hB : Below W.heap.size W w') => refused_any (hu.below hB) (hin.sm (by decide)) (hc.below hB) (by omega) true (by simp [hm]) 0 (by simp [bads_all ho])
  have CW := fun w' (hB : Below W.heap.size W w') => worldOf_any (hu.below hB) (hin.mono (by decide))
  have hT0 := Tq.new W (.cells #[.slice a0 x.cell.length c0, .slice a1 x.stack.length c1, .slice a2 x.queue.length c2, .slice a3 x.set.length c3, .slice a4 x.table.length c4] 25 (0, 0)) (.cells #[.slice none 0 0, .slice none 0 0, .slice none 0 0, .slice none 0 0, .slice none 0 0] 25 (0, 0))
  obtain ⟨y0, y1, y2, y3, y4, y5⟩ := ifs_cells hT0.2.1
  clear hu
  replace CR := Mr.hid CR
  replace CW := Mr.hid CW
  replace hT0 := Mr.hid hT0
  obtain ⟨n, hn⟩ : ∃ n, n = cs.length := ⟨_, rfl⟩
  rw [← hn] at hc hcc hsm CR ⊢
  have LI : ∀ i, i ≤ n → CtIn 225000000000000 (lefts x cs i) := fun i hi => (lefts_in hin cs i).mono (by omega)
  have LM : ∀ i, i ≤ n → okTo x cs i → May (lefts x cs i) := fun i hi hok => may_left hm ho i (by omega) hok
  obtain ⟨PL, hPL⟩ : ∃ p, p = plays x cs 0 := ⟨_, rfl⟩
  rw [← hPL]
  replace hPL := Mr.hid hPL
  replace LI := Mr.hid LI
  replace LM := Mr.hid LM
  replace hn := Mr.hid hn
  replace hc := Mr.hid hc
  replace ho := Mr.hid ho
  go_enter Try.func5, Try.ntmps5
  go_upto_region 4 with (first | (go_at_call 12; refine (CR.out _ hT0.out.1).mono ?_; rintro e w1 ⟨rfl, hB1⟩; have hT1 := Mr.hid (hT0.out.below hB1); clear y0 y1 y2 y3 y4 y5; obtain ⟨y0, y1, y2, y3, y4, y5⟩ := ifs_cells hT1.out.2.1))
  go_upto_region 5 with (first | (go_at_call 13; refine (CW.out _ hT1.out.1).mono ?_; rintro e w2 ⟨g0, g1, g2, g3, g4, lab, rfl, hD, hB2⟩; unfold wdV))
  have hT2 := hT1.out.below hB2
  have hT3 := hT2.below ((Below.refl _ w2).alloc (Nat.le_refl _) (.cells #[.iface 55 (.pointer (some ⟨g0, 0, none⟩)), .iface 57 (.pointer (some ⟨g1, 0, none⟩)), .iface 59 (.pointer (some ⟨g2, 0, none⟩)), .iface 61 (.pointer (some ⟨g3, 0, none⟩)), .iface 63 (.pointer (some ⟨g4, 0, none⟩))] 48 (0, 0)))
  have hP3 := heap_alloc_new w2 (.cells #[.iface 55 (.pointer (some ⟨g0, 0, none⟩)), .iface 57 (.pointer (some ⟨g1, 0, none⟩)), .iface 59 (.pointer (some ⟨g2, 0, none⟩)), .iface 61 (.pointer (some ⟨g3, 0, none⟩)), .iface 63 (.pointer (some ⟨g4, 0, none⟩))] 48 (0, 0))
  have hD3 := hD.cut ((Below.refl _ w2).alloc (Nat.le_refl _) (.cells #[.iface 55 (.pointer (some ⟨g0, 0, none⟩)), .iface 57 (.pointer (some ⟨g1, 0, none⟩)), .iface 59 (.pointer (some ⟨g2, 0, none⟩)), .iface 61 (.pointer (some ⟨g3, 0, none⟩)), .iface 63 (.pointer (some ⟨g4, 0, none⟩))] 48 (0, 0)))
  have hs3 : w2.heap.size < (w2.alloc (.cells #[.iface 55 (.pointer (some ⟨g0, 0, none⟩)), .iface 57 (.pointer (some ⟨g1, 0, none⟩)), .iface 59 (.pointer (some ⟨g2, 0, none⟩)), .iface 61 (.pointer (some ⟨g3, 0, none⟩)), .iface 63 (.pointer (some ⟨g4, 0, none⟩))] 48 (0, 0))).heap.size := by simp
  have hs2 := hB2.size
  have hlt1 : Hid (W.heap.size + 1 < w1.heap.size) := hT1.out.2.2.2.1
  have hDl : Dl W (w2.alloc (.cells #[.iface 55 (.pointer (some ⟨g0, 0, none⟩)), .iface 57 (.pointer (some ⟨g1, 0, none⟩)), .iface 59 (.pointer (some ⟨g2, 0, none⟩)), .iface 61 (.pointer (some ⟨g3, 0, none⟩)), .iface 63 (.pointer (some ⟨g4, 0, none⟩))] 48 (0, 0))) w1.heap.size w2.heap.size g0 g1 g2 g3 g4 (lefts x cs 0) :=
    ⟨hT3.1, hT3.2.2.1, hP3, by omega, labr lab w2.heap.size, hD3, fun k h => Nat.lt_trans (labr_hi h) hs3, fun h => Nat.lt_irrefl _ (labr_hi h)⟩
  have hbW : Hid (w1.heap.size ≤ w2.heap.size) := hs2
  generalize w2.alloc (.cells #[.iface 55 (.pointer (some ⟨g0, 0, none⟩)), .iface 57 (.pointer (some ⟨g1, 0, none⟩)), .iface 59 (.pointer (some ⟨g2, 0, none⟩)), .iface 61 (.pointer (some ⟨g3, 0, none⟩)), .iface 63 (.pointer (some ⟨g4, 0, none⟩))] 48 (0, 0)) = w3 at *
  generalize w2.heap.size = bW at *
  clear y0 y1 y2 y3 y4 y5 hB2 hD hT2 hT3 hP3 hD3 hs3 hs2 hT0 hT1
  generalize w1.heap.size = BB at *
  replace hDl := Mr.hid hDl
  go_wp2
  go_loopg [22] n (fun k s wr => ∃ i : Nat, s = .int .i64 (i : Int) ∧ i + k = n ∧ okTo x cs i ∧ Dl W wr BB bW g0 g1 g2 g3 g4 (lefts x cs i))
  case atStart => exact ⟨0, rfl, by omega, fun j hj => by omega, hDl.out⟩
  case round =>
    clear hDl
    obtain ⟨i, rfl, hi, hok, hD⟩ := hrel
    obtain ⟨hBel, hR, hP, hBs, lab, hd, hhi, hbW5⟩ := hD
    have hRl := (Array.getElem?_eq_some_iff.1 hR).1
    have hPl := (Array.getElem?_eq_some_iff.1 hP).1
    by_cases hlt : i < n
    · obtain ⟨c, hci⟩ : ∃ c, cs[i]? = some c := ⟨cs[i]'(by have := hn.out; omega), List.getElem?_eq_getElem _⟩
      obtain ⟨bc, oc, cc', hcv, _, _, hcl, hcr⟩ := (hc.out.below hBel).there (by omega)
      cases hcv
      have hg := fun j (hj : j < 9) => cqs_get cs i c hci j hj
      have g_0 : wr.cell? ⟨bc, oc + i * 9, none⟩ = some (.int .i64 c.th) := hcr (i * 9 + 0) _ (hg 0 (by omega))
      have g_1 : wr.cell? ⟨bc, oc + i * 9 + 1, none⟩ = some (.int .i64 c.op) := hcr (i * 9 + 1) _ (hg 1 (by omega))
      have g_2 : wr.cell? ⟨bc, oc + i * 9 + 2, none⟩ = some (.int .i64 c.arg) := hcr (i * 9 + 2) _ (hg 2 (by omega))
      have g_3 : wr.cell? ⟨bc, oc + i * 9 + 3, none⟩ = some (.int .i64 c.data) := hcr (i * 9 + 3) _ (hg 3 (by omega))
      have g_4 : wr.cell? ⟨bc, oc + i * 9 + 4, none⟩ = some (.int .i64 c.beg) := hcr (i * 9 + 4) _ (hg 4 (by omega))
      have g_5 : wr.cell? ⟨bc, oc + i * 9 + 5, none⟩ = some (.int .i64 c.fin) := hcr (i * 9 + 5) _ (hg 5 (by omega))
      have g_6 : wr.cell? ⟨bc, oc + i * 9 + 6, none⟩ = some (.int .i64 c.pt) := hcr (i * 9 + 6) _ (hg 6 (by omega))
      have g_7 : wr.cell? ⟨bc, oc + i * 9 + 7, none⟩ = some (.int .i64 c.ak) := hcr (i * 9 + 7) _ (hg 7 (by omega))
      have g_8 : wr.cell? ⟨bc, oc + i * 9 + 8, none⟩ = some (.int .i64 c.av) := hcr (i * 9 + 8) _ (hg 8 (by omega))
      have hlI : (i : Int) < (n : Int) := by omega
      have BA := (Below.refl wr.heap.size wr).alloc (Nat.le_refl _) (.cells #[.int .i64 c.th, .int .i64 c.op, .int .i64 c.arg, .int .i64 c.data, .int .i64 c.beg, .int .i64 c.fin, .int .i64 c.pt, .int .i64 c.ak, .int .i64 c.av] 39 (0, 0))
      have CD := admit_any (hd.keep BA) (fun k hk => Nat.lt_of_lt_of_le (hhi k hk) BA.size) (Nat.le_trans hBs BA.size) (LI.out i (by omega)) (LM.out i (by omega) hok) c (ho.out c (List.mem_of_getElem? hci))
      have hP4 := old_at hP (.cells #[.int .i64 c.th, .int .i64 c.op, .int .i64 c.arg, .int .i64 c.data, .int .i64 c.beg, .int .i64 c.fin, .int .i64 c.pt, .int .i64 c.ak, .int .i64 c.av] 39 (0, 0))
      have hR4 := old_at hR (.cells #[.int .i64 c.th, .int .i64 c.op, .int .i64 c.arg, .int .i64 c.data, .int .i64 c.beg, .int .i64 c.fin, .int .i64 c.pt, .int .i64 c.ak, .int .i64 c.av] 39 (0, 0))
      have hBel4 := hBel.alloc hBel.size (.cells #[.int .i64 c.th, .int .i64 c.op, .int .i64 c.arg, .int .i64 c.data, .int .i64 c.beg, .int .i64 c.fin, .int .i64 c.pt, .int .i64 c.ak, .int .i64 c.av] 39 (0, 0))
      obtain ⟨z0, z1, z2, z3, z4, z5⟩ := ifs_cells hP4
      have hlow := Mr.hid hd.low
      have hY := hok.succ hci
      have hNo := plays_no hok hci
      have hL := adm_left (x := x) hci
      have hS := adm_same (x := lefts x cs i) (c := c)
      generalize (alw (lefts x cs i) c).2 = bb at *
      have hsz : wr.heap.size < (wr.alloc (.cells #[.int .i64 c.th, .int .i64 c.op, .int .i64 c.arg, .int .i64 c.data, .int .i64 c.beg, .int .i64 c.fin, .int .i64 c.pt, .int .i64 c.ak, .int .i64 c.av] 39 (0, 0))).heap.size := by simp
      obtain ⟨w4, hw4⟩ : ∃ w4, wr.alloc (.cells #[.int .i64 c.th, .int .i64 c.op, .int .i64 c.arg, .int .i64 c.data, .int .i64 c.beg, .int .i64 c.fin, .int .i64 c.pt, .int .i64 c.ak, .int .i64 c.av] 39 (0, 0)) = w4 := ⟨_, rfl⟩
      rw [hw4] at CD hP4 hR4 hBel4 z0 z1 z2 z3 z4 z5 hsz
      replace hw4 := Mr.hid hw4
      have hbcl : bc < wr.heap.size := hcl
      clear hg hcr BA hd
      replace hok := Mr.hid hok
      replace CD := Mr.hid CD
      replace hY := Mr.hid hY
      replace hNo := Mr.hid hNo
      replace hL := Mr.hid hL
      replace hS := Mr.hid hS
      replace hP4 := Mr.hid hP4
      replace hR4 := Mr.hid hR4
      replace hBel4 := Mr.hid hBel4
      replace hP := Mr.hid hP
      replace hR := Mr.hid hR
      replace hBel := Mr.hid hBel
      have hQ := heap_alloc_new wr (.cells #[.int .i64 c.th, .int .i64 c.op, .int .i64 c.arg, .int .i64 c.data, .int .i64 c.beg, .int .i64 c.fin, .int .i64 c.pt, .int .i64 c.ak, .int .i64 c.av] 39 (0, 0))
      rw [hw4.out] at hQ
      obtain ⟨q0, q1, q2, q3, q4, q5, q6, q7, q8, q9⟩ := nines hQ
      clear hQ
      go_upto_region 8 with (fail)
      rw [hw4.out]
      clear g_0 g_1 g_2 g_3 g_4 g_5 g_6 g_7 g_8
      cases bb with
      | true =>
        go_wp2_with (first | (go_at_call 14; refine CD.out.mono ?_; rintro e w5 ⟨rfl, lab5, hD5, hi5, hF5⟩))
        have hD6 : Dl W w5 BB bW g0 g1 g2 g3 g4 (lefts x cs (i + 1)) := by
          rw [hL.out (by simp)] at hD5
          have hs5 := hF5.size
          refine ⟨hBel4.out.trans (hF5.below (n := W.heap.size) (fun k e => by have := hlow.out k e; have := hlt1.out; omega) hBel4.out.size), (hF5.block _ (by omega) (fun e => by have := hlow.out _ e; have := hlt1.out; omega)).trans hR4.out, (hF5.block _ (by omega) hbW5).trans hP4.out, by omega, lab5, hD5, fun k hk => (hi5 k hk).1, fun h => hbW5 ((hi5 bW h).2 (by omega))⟩
        go_roundg (gk - 1)
        case measure => omega
        case rel => exact ⟨i + 1, by simp, by omega, hY.out (by simp), hD6⟩
      | false =>
        have hNo2 := hNo.out (by simp)
        rw [← hPL.out] at hNo2
        replace hNo2 := Mr.hid hNo2
        have hIn2 := (LI.out i (by omega)).mono (B' := 225100000000000) (by decide)
        go_upto_region 9 with (first | (go_at_call 14; refine CD.out.mono ?_; rintro e w5 ⟨rfl, lab5, hD5, hi5, hF5⟩))
        rw [hS.out (by simp)] at hD5
        have hP5 := (hF5.block bW (by omega) hbW5).trans hP4.out
        have hR5 := (hF5.block (W.heap.size + 1) (by omega) (fun e => by have := hlow.out _ e; have := hlt1.out; omega)).trans hR4.out
        have hRl5 := (Array.getElem?_eq_some_iff.1 hR5).1
        have hBel5 := hBel4.out.trans (hF5.below (n := W.heap.size) (fun k e => by have := hlow.out k e; have := hlt1.out; omega) hBel4.out.size)
        have hs5 := hF5.size
        have CC := contents_any hD5 (by omega) hIn2
        clear z0 z1 z2 z3 z4 z5 q0 q1 q2 q3 q4 q5 q6 q7 q8 q9 hD5 hi5 hF5 CD hL hS hY hNo LI LM hok
        generalize lefts x cs i = Y at *
        obtain ⟨z0, z1, z2, z3, z4, z5⟩ := ifs_cells hP5
        have KE := Mr.hid (fun w8 (hB : Below w5.heap.size w5 w8) (v0 v1 v2 v3 v4 : Value) => (⟨set5_five v0 v1 v2 v3 v4 ((hB.block _ hRl5).trans hR5), set5_below (b := W.heap.size + 1) v0 v1 v2 v3 v4 (hBel5.trans (hB.mono hBel5.size)) (by omega), ifs_cells ((hB.block _ hRl5).trans hR5), ifs_thaw ((hB.block _ hRl5).trans hR5)⟩ : _ ∧ _ ∧ _ ∧ _))
        unfold wdV at CC
        replace CC := Mr.hid CC
        replace hBel5 := Mr.hid hBel5
        clear hP5 hR5
        go_wp2_with (first | (go_at_call 15; refine CC.out.mono ?_; rintro e w8 ⟨v0, v1, v2, v3, v4, lab8, rfl, hO8, hB8⟩; obtain ⟨m2, m1, ⟨r0, r1, r2, r3, r4, r5⟩, ⟨f0, f1, f2, f3, f4⟩⟩ := KE.out w8 hB8 v0 v1 v2 v3 v4; obtain ⟨d0, b0, rfl, _, _⟩ := hO8.cell.form; obtain ⟨d1, b1, rfl, _, _⟩ := hO8.stack.form; obtain ⟨d2, b2, rfl, _, _⟩ := hO8.queue.form; obtain ⟨d3, b3, rfl, _, _⟩ := hO8.set.form; obtain ⟨d4, b4, rfl, _, _⟩ := hO8.table.form; obtain ⟨x0, x1, x2, x3, x4, x5⟩ := ifs_cells m2; unfold set5 at x0 x1 x2 x3 x4 x5 m1; replace m1 := Mr.hid m1; replace hO8 := Mr.hid hO8; clear m2))
        have hO9 := hO8.out.kept (W' := set5 w8 (W.heap.size + 1) (.slice d0 Y.cell.length b0) (.slice d1 Y.stack.length b1) (.slice d2 Y.queue.length b2) (.slice d3 Y.set.length b3) (.slice d4 Y.table.length b4)) (B' := W.heap.size) (fun k hk hl => set5_far w8 (W.heap.size + 1) _ _ _ _ _ k (by have := hlt1.out; omega)) (by have := hlt1.out; omega)
        unfold set5 at hO9
        refine bodyPost_ret (v := .tuple #[.agg #[.slice d0 Y.cell.length b0, .slice d1 Y.stack.length b1, .slice d2 Y.queue.length b2, .slice d3 Y.set.length b3, .slice d4 Y.table.length b4], .int .i64 ((i : Nat) : Int), .int .i64 0]) (by simp [results, Try.results5, go_sem, x0, x1, x2, x3, x4]) rfl ⟨.slice d0 Y.cell.length b0, .slice d1 Y.stack.length b1, .slice d2 Y.queue.length b2, .slice d3 Y.set.length b3, .slice d4 Y.table.length b4, lab8, by rw [hNo2.out], by rw [hNo2.out]; exact hO9, m1.out⟩
    · have hle : i = n := by omega
      subst hle
      have hEnd := plays_end (x := x) (cs := cs) (by have := hn.out; rw [← this]; exact hok)
      rw [show cs.length = i from hn.out.symm] at hEnd
      have hIn2 := (LI.out i (by omega)).mono (B' := 225100000000000) (by decide)
      have dl : decide ((i : Int) < (i : Int)) = false := by simp
      have CC := contents_any hd hBs hIn2
      have hP5 := hP
      have hR5 := hR
      have hRl5 := hRl
      have hBel5 := hBel
      rw [← hPL.out] at hEnd
      have hNo2 := Mr.hid hEnd
      clear hd hP hR hEnd hok LM LI hIn2
      generalize lefts x cs i = Y at *
      obtain ⟨z0, z1, z2, z3, z4, z5⟩ := ifs_cells hP5
      have KE := Mr.hid (fun w8 (hB : Below wr.heap.size wr w8) (v0 v1 v2 v3 v4 : Value) => (⟨set5_five v0 v1 v2 v3 v4 ((hB.block _ hRl5).trans hR5), set5_below (b := W.heap.size + 1) v0 v1 v2 v3 v4 (hBel5.trans (hB.mono hBel5.size)) (by omega), ifs_cells ((hB.block _ hRl5).trans hR5), ifs_thaw ((hB.block _ hRl5).trans hR5)⟩ : _ ∧ _ ∧ _ ∧ _))
      unfold wdV at CC
      replace CC := Mr.hid CC
      replace hBel5 := Mr.hid hBel5
      clear hP5 hR5
      go_wp2_with (first | (go_at_call 15; refine CC.out.mono ?_; rintro e w8 ⟨v0, v1, v2, v3, v4, lab8, rfl, hO8, hB8⟩; obtain ⟨m2, m1, ⟨r0, r1, r2, r3, r4, r5⟩, ⟨f0, f1, f2, f3, f4⟩⟩ := KE.out w8 hB8 v0 v1 v2 v3 v4; obtain ⟨d0, b0, rfl, _, _⟩ := hO8.cell.form; obtain ⟨d1, b1, rfl, _, _⟩ := hO8.stack.form; obtain ⟨d2, b2, rfl, _, _⟩ := hO8.queue.form; obtain ⟨d3, b3, rfl, _, _⟩ := hO8.set.form; obtain ⟨d4, b4, rfl, _, _⟩ := hO8.table.form; obtain ⟨x0, x1, x2, x3, x4, x5⟩ := ifs_cells m2; unfold set5 at x0 x1 x2 x3 x4 x5 m1; replace m1 := Mr.hid m1; replace hO8 := Mr.hid hO8; clear m2))
      have hO9 := hO8.out.kept (W' := set5 w8 (W.heap.size + 1) (.slice d0 Y.cell.length b0) (.slice d1 Y.stack.length b1) (.slice d2 Y.queue.length b2) (.slice d3 Y.set.length b3) (.slice d4 Y.table.length b4)) (B' := W.heap.size) (fun k hk hl => set5_far w8 (W.heap.size + 1) _ _ _ _ _ k (by have := hlt1.out; omega)) (by have := hlt1.out; omega)
      unfold set5 at hO9
      refine bodyPost_ret (v := .tuple #[.agg #[.slice d0 Y.cell.length b0, .slice d1 Y.stack.length b1, .slice d2 Y.queue.length b2, .slice d3 Y.set.length b3, .slice d4 Y.table.length b4], .int .i64 (-1 : Int), .int .i64 0]) (by simp [results, Try.results5, go_sem, x0, x1, x2, x3, x4]) rfl ⟨.slice d0 Y.cell.length b0, .slice d1 Y.stack.length b1, .slice d2 Y.queue.length b2, .slice d3 Y.set.length b3, .slice d4 Y.table.length b4, lab8, by rw [hNo2.out], by rw [hNo2.out]; exact hO9, m1.out⟩
theorem mPlay_any {W : World} {S : Nat → Prop} {u0 u1 u2 u3 u4 : Value} {x : Ct} (hu : CtAt W S u0 u1 u2 u3 u4 x) {T : Nat → Prop} {uc : Value} {cs : List Cq} (hin : CtIn 140737488355328 x) (hc : Sl W T 9 uc cs.length (cqs cs)) (hsm : cs.length * 72 ≤ 140737488355328) (hm : May x) (ho : ∀ c ∈ cs, obj c.op ≠ 0) :
    Calls Try.prog 5 #[.agg #[u0, u1, u2, u3, u4], uc] W fun e w' => ∃ v0 v1 v2 v3 v4, e = .returned (.tuple #[.agg #[v0, v1, v2, v3, v4], .int .i64 (plays x cs 0).2, .int .i64 0]) ∧ CtAt w' (fun k => W.heap.size ≤ k) v0 v1 v2 v3 v4 (plays x cs 0).1 ∧ Below W.heap.size W w' :=
  (pPlay_any hu hin hc hsm hm ho).mono (by rintro e w' ⟨v0, v1, v2, v3, v4, lab, rfl, h, hB⟩; exact ⟨v0, v1, v2, v3, v4, rfl, h.at, hB⟩)
theorem mPlay_ill {W : World} {S : Nat → Prop} {u0 u1 u2 u3 u4 : Value} {x : Ct} (hu : CtAt W S u0 u1 u2 u3 u4 x) {T : Nat → Prop} {uc : Value} {cs : List Cq} (hin : CtIn 140737488355328 x) (hc : Sl W T 9 uc cs.length (cqs cs)) (hsm : cs.length * 72 ≤ 140737488355328) (hm : May x) (ho : ∃ c ∈ cs, obj c.op = 0) :
    Calls Try.prog 5 #[.agg #[u0, u1, u2, u3, u4], uc] W fun e w' => ∃ v0 v1 v2 v3 v4, e = .returned (.tuple #[.agg #[v0, v1, v2, v3, v4], .int .i64 0, .int .i64 110]) ∧ CtAt w' (fun k => W.heap.size ≤ k) v0 v1 v2 v3 v4 ct0 ∧ Below W.heap.size W w' :=
  (pPlay_ill hu hin hc hsm hm ho).mono (by rintro e w' ⟨v0, v1, v2, v3, v4, lab, rfl, h, hB⟩; exact ⟨v0, v1, v2, v3, v4, rfl, h.at, hB⟩)
theorem mPlay_state {W : World} {S : Nat → Prop} {u0 u1 u2 u3 u4 : Value} {x : Ct} (hu : CtAt W S u0 u1 u2 u3 u4 x) {T : Nat → Prop} {uc : Value} {cs : List Cq} (hin : CtIn 140737488355328 x) (hc : Sl W T 9 uc cs.length (cqs cs)) (hsm : cs.length * 72 ≤ 140737488355328) (hm : ¬ May x) :
    Calls Try.prog 5 #[.agg #[u0, u1, u2, u3, u4], uc] W fun e w' => ∃ v0 v1 v2 v3 v4, e = .returned (.tuple #[.agg #[v0, v1, v2, v3, v4], .int .i64 0, .int .i64 111]) ∧ CtAt w' (fun k => W.heap.size ≤ k) v0 v1 v2 v3 v4 ct0 ∧ Below W.heap.size W w' :=
  (pPlay_state hu hin hc hsm hm).mono (by rintro e w' ⟨v0, v1, v2, v3, v4, lab, rfl, h, hB⟩; exact ⟨v0, v1, v2, v3, v4, rfl, h.at, hB⟩)
end Go.Proofs.Ytegbcocbopgghac.Md
/-
  ModelPlays: the walk.
-/
namespace Go.Proofs.Ytegbcocbopgghac.Md
open Go.RowKit Mr Me
set_option linter.unusedVariables false
set_option linter.unusedSimpArgs false
theorem plays_in {B : Nat} {x : Ct} (h : CtIn B x) (cs : List Cq) (n : Nat) : CtIn (B + 16 * cs.length) (plays x cs n).1 := by
  induction cs generalizing x n B with
  | nil => exact h.mono (by simp)
  | cons c cs ih =>
    unfold plays
    split
    · exact (ih (alw_in h c) (n + 1)).mono (by simp; omega)
    · exact h.mono (by omega)
set_option maxRecDepth 100000 in
set_option maxHeartbeats 16000000 in
theorem plays_state (u0 u1 u2 u3 u4 : Value) (x : Ct) (uc : Value) (cs : List Cq) (W : World) (hu : CtAt W (fun _ => True) u0 u1 u2 u3 u4 x) (hx : CtIn 140737488351232 x) (hc : Sl W (fun _ => True) 9 uc cs.length (cqs cs)) (hsm : cs.length * 72 ≤ 140737488351232) (hm : ¬ May x) :
    Calls Try.prog 3 #[.agg #[u0, u1, u2, u3, u4], uc] W fun e w' => e = .returned (.bool true) ∧ Below W.heap.size W w' := by
  obtain ⟨a0, c0, rfl, _⟩ := hu.cell.form
  obtain ⟨a1, c1, rfl, _⟩ := hu.stack.form
  obtain ⟨a2, c2, rfl, _⟩ := hu.queue.form
  obtain ⟨a3, c3, rfl, _⟩ := hu.set.form
  obtain ⟨a4, c4, rfl, _⟩ := hu.table.form
  obtain ⟨ac, cc, rfl, hcc⟩ := hc.form
  have hi := hx.mono (show 140737488351232 ≤ 225000000000000 by decide)
  have hi2 := hx.mono (show 140737488351232 ≤ 140737488355328 by decide)
  have sx := hx.sm (by decide)
  obtain ⟨y, hy⟩ : ∃ y, y = ct0 := ⟨_, rfl⟩
  have CR := fun w' (h : CtAt w' (fun _ => True) (.slice a0 x.cell.length c0) (.slice a1 x.stack.length c1) (.slice a2 x.queue.length c2) (.slice a3 x.set.length c3) (.slice a4 x.table.length c4) x) => rCopy_any h hi
  have CD := fun w' (h : CtAt w' (fun _ => True) (.slice a0 x.cell.length c0) (.slice a1 x.stack.length c1) (.slice a2 x.queue.length c2) (.slice a3 x.set.length c3) (.slice a4 x.table.length c4) x) (hc : Sl w' (fun _ => True) 9 (.slice ac cs.length cc) cs.length (cqs cs)) => mPlay_state h hi2 hc (by omega) hm
  have CM := fun w' (h : CtAt w' (fun _ => True) (.slice a0 x.cell.length c0) (.slice a1 x.stack.length c1) (.slice a2 x.queue.length c2) (.slice a3 x.set.length c3) (.slice a4 x.table.length c4) x) => rMay_any h sx false (by simp [hm])
  have CS := fun w' k0 k1 k2 k3 k4 (h : CtAt w' (fun _ => True) (.slice a0 x.cell.length c0) (.slice a1 x.stack.length c1) (.slice a2 x.queue.length c2) (.slice a3 x.set.length c3) (.slice a4 x.table.length c4) x) (hk : CtAt w' (fun _ => True) k0 k1 k2 k3 k4 x) => rSame_any h hk sx sx
  simp only [ctB_same] at CS
  rw [← hy] at CD
  have X0 := (Below.refl W.heap.size W).alloc (Nat.le_refl _) (ctO (.slice a0 x.cell.length c0) (.slice a1 x.stack.length c1) (.slice a2 x.queue.length c2) (.slice a3 x.set.length c3) (.slice a4 x.table.length c4))
  have G0 : (W.alloc (ctO (.slice a0 x.cell.length c0) (.slice a1 x.stack.length c1) (.slice a2 x.queue.length c2) (.slice a3 x.set.length c3) (.slice a4 x.table.length c4))).heap[W.heap.size]? = some (ctO (.slice a0 x.cell.length c0) (.slice a1 x.stack.length c1) (.slice a2 x.queue.length c2) (.slice a3 x.set.length c3) (.slice a4 x.table.length c4)) := new_at W _ _ rfl
  have U0 := hu.below X0
  have HC := fun w' (hB : Below W.heap.size W w') => hc.below hB
  obtain ⟨n, hn⟩ : ∃ n, n = cs.length := ⟨_, rfl⟩
  rw [← hn] at HC hsm hcc CD ⊢
  clear hu hc
  replace hn := Mr.hid hn
  replace HC := Mr.hid HC
  replace X0 := Mr.hid X0
  replace U0 := Mr.hid U0
  replace G0 := Mr.hid G0
  replace CR := Mr.hid CR
  replace CD := Mr.hid CD
  replace CM := Mr.hid CM
  replace CS := Mr.hid CS
  replace hm := Mr.hid hm
  replace hy := Mr.hid hy
  go_enter Try.func3, Try.ntmps3
  go_upto_region 1 with (fail)
  replace X0 := X0.out
  replace U0 := U0.out
  replace G0 := G0.out
  unfold ctO at X0 U0
  conv at G0 => lhs; unfold ctO
  generalize W.alloc (.cells #[.slice a0 x.cell.length c0, .slice a1 x.stack.length c1, .slice a2 x.queue.length c2, .slice a3 x.set.length c3, .slice a4 x.table.length c4] 25 (0, 0)) = w1 at *
  obtain ⟨e0, e1, e2, e3, e4, el⟩ := ctO_cells G0
  have CR1 := Mr.hid (CR.out _ U0)
  replace X0 := Mr.hid X0
  replace U0 := Mr.hid U0
  replace G0 := Mr.hid G0
  clear CR
  go_upto_region 2 with (first | (go_at_call 4; refine CR1.out.mono ?_; clear CR1; rintro e w2 ⟨k0, k1, k2, k3, k4, rfl, hk, hB2⟩; have DK := Dk.first (fx := (fun _ => none)) (fun b o ho => by cases ho) X0.out G0.out U0.out hB2 hk; clear X0 G0 U0 hB2; obtain ⟨p0, q0, rfl, _⟩ := hk.cell.form; obtain ⟨p1, q1, rfl, _⟩ := hk.stack.form; obtain ⟨p2, q2, rfl, _⟩ := hk.queue.form; obtain ⟨p3, q3, rfl, _⟩ := hk.set.form; obtain ⟨p4, q4, rfl, _⟩ := hk.table.form;  clear hk e0 e1 e2 e3 e4; replace DK := Mr.hid DK))
  obtain ⟨bk, hbk⟩ : ∃ b, b = w2.heap.size := ⟨_, rfl⟩
  rw [← hbk] at DK ⊢
  clear hbk
  replace DK := DK.out
  conv at DK => arg 2; unfold ctO
  generalize w2.alloc (.cells #[.slice p0 x.cell.length q0, .slice p1 x.stack.length q1, .slice p2 x.queue.length q2, .slice p3 x.set.length q3, .slice p4 x.table.length q4] 25 (0, 0)) = w3 at *
  obtain ⟨e0, e1, e2, e3, e4, el⟩ := ctO_cells DK.s
  have CD1 := Mr.hid (CD.out _ DK.sat (HC.out _ DK.bel))
  replace DK := Mr.hid DK
  clear CD
  go_upto_region 3 with (first | (go_at_call 5; refine CD1.out.mono ?_; clear CD1; rintro e w4 ⟨l0, l1, l2, l3, l4, rfl, hl, hB4⟩; have DZ := Dk.then1 DK.out hB4 hl; clear DK hB4; obtain ⟨z0, m0, rfl, _⟩ := hl.cell.form; obtain ⟨z1, m1, rfl, _⟩ := hl.stack.form; obtain ⟨z2, m2, rfl, _⟩ := hl.queue.form; obtain ⟨z3, m3, rfl, _⟩ := hl.set.form; obtain ⟨z4, m4, rfl, _⟩ := hl.table.form;  clear hl e0 e1 e2 e3 e4 el; replace DZ := Mr.hid DZ))
  obtain ⟨bl, hbl⟩ : ∃ b, b = w4.heap.size := ⟨_, rfl⟩
  rw [← hbl] at DZ ⊢
  clear hbl
  replace DZ := DZ.out
  conv at DZ => arg 2; unfold ctO
  generalize (w4.alloc (.cells #[.slice z0 y.cell.length m0, .slice z1 y.stack.length m1, .slice z2 y.queue.length m2, .slice z3 y.set.length m3, .slice z4 y.table.length m4] 25 (0, 0))) = w5 at *
  have CS1 := fun w' (h : Dz W w' W.heap.size bk bl (.slice a0 x.cell.length c0) (.slice a1 x.stack.length c1) (.slice a2 x.queue.length c2) (.slice a3 x.set.length c3) (.slice a4 x.table.length c4) (.slice p0 x.cell.length q0) (.slice p1 x.stack.length q1) (.slice p2 x.queue.length q2) (.slice p3 x.set.length q3) (.slice p4 x.table.length q4) (.slice z0 y.cell.length m0) (.slice z1 y.stack.length m1) (.slice z2 y.queue.length m2) (.slice z3 y.set.length m3) (.slice z4 y.table.length m4) x y none (fun _ => none)) => CS.out w' _ _ _ _ _ h.sat h.kat
  have CM1 := fun w' (h : Dz W w' W.heap.size bk bl (.slice a0 x.cell.length c0) (.slice a1 x.stack.length c1) (.slice a2 x.queue.length c2) (.slice a3 x.set.length c3) (.slice a4 x.table.length c4) (.slice p0 x.cell.length q0) (.slice p1 x.stack.length q1) (.slice p2 x.queue.length q2) (.slice p3 x.set.length q3) (.slice p4 x.table.length q4) (.slice z0 y.cell.length m0) (.slice z1 y.stack.length m1) (.slice z2 y.queue.length m2) (.slice z3 y.set.length m3) (.slice z4 y.table.length m4) x y none (fun _ => none)) => CM.out w' h.sat
  have CL := fun w' (h : Dz W w' W.heap.size bk bl (.slice a0 x.cell.length c0) (.slice a1 x.stack.length c1) (.slice a2 x.queue.length c2) (.slice a3 x.set.length c3) (.slice a4 x.table.length c4) (.slice p0 x.cell.length q0) (.slice p1 x.stack.length q1) (.slice p2 x.queue.length q2) (.slice p3 x.set.length q3) (.slice p4 x.table.length q4) (.slice z0 y.cell.length m0) (.slice z1 y.stack.length m1) (.slice z2 y.queue.length m2) (.slice z3 y.set.length m3) (.slice z4 y.table.length m4) x y none (fun _ => none)) => (⟨ctO_cells h.s, ctO_cells h.kept, ctO_cells h.left⟩ : _ ∧ _ ∧ _)
  replace CS1 := Mr.hid CS1
  replace CM1 := Mr.hid CM1
  replace CL := Mr.hid CL
  replace DZ := Mr.hid DZ
  clear CS CM
  go_upto_region 5 with (first | (go_at_call 6; refine (awake_any _).mono ?_; rintro e w6 ⟨rfl, hB6⟩; have DZ := Mr.hid (DZ.out.next hB6); clear hB6; obtain ⟨⟨e0, e1, e2, e3, e4, e5⟩, ⟨g0, g1, g2, g3, g4, g5⟩, -⟩ := CL.out _ DZ.out) | (go_at_call 7; refine (CS1.out _ DZ.out).mono ?_; clear CS1 e0 e1 e2 e3 e4 e5 g0 g1 g2 g3 g4 g5; rintro e w7 ⟨rfl, hB7⟩; have DZ := Mr.hid (DZ.out.next hB7); clear hB7; obtain ⟨⟨e0, e1, e2, e3, e4, e5⟩, ⟨g0, g1, g2, g3, g4, g5⟩, -⟩ := CL.out _ DZ.out))
  have sy : CtSm y := by rw [hy.out]; exact ⟨by decide, by decide, by decide, by decide, by decide⟩
  have SF := fun w' (h : Dz W w' W.heap.size bk bl (.slice a0 x.cell.length c0) (.slice a1 x.stack.length c1) (.slice a2 x.queue.length c2) (.slice a3 x.set.length c3) (.slice a4 x.table.length c4) (.slice p0 x.cell.length q0) (.slice p1 x.stack.length q1) (.slice p2 x.queue.length q2) (.slice p3 x.set.length q3) (.slice p4 x.table.length q4) (.slice z0 y.cell.length m0) (.slice z1 y.stack.length m1) (.slice z2 y.queue.length m2) (.slice z3 y.set.length m3) (.slice z4 y.table.length m4) x y none (fun _ => none)) => rSame_any (T := fun _ => True) h.lat (ct0_at w' _) sy ⟨by decide, by decide, by decide, by decide, by decide⟩
  rw [show ctB y ct0 = true from by rw [hy.out]; decide] at SF
  replace SF := Mr.hid SF
  go_wp2_with (first | (go_at_call 8; refine (CM1.out _ DZ.out).mono ?_; clear CM1; rintro e w8 ⟨rfl, hB8⟩; have DZ := Mr.hid (DZ.out.next hB8); clear hB8; clear e0 e1 e2 e3 e4 e5 g0 g1 g2 g3 g4 g5; obtain ⟨⟨e0, e1, e2, e3, e4, e5⟩, ⟨g0, g1, g2, g3, g4, g5⟩, ⟨h0, h1, h2, h3, h4, h5⟩⟩ := CL.out _ DZ.out) | (go_at_call 7; refine (SF.out _ DZ.out).mono ?_; clear SF; rintro e w10 ⟨rfl, hB10⟩; have hE := Mr.hid (DZ.out.next hB10).bel; clear hB10))
  go_ret
  exact ⟨rfl, hE.out⟩
set_option maxRecDepth 100000 in
set_option maxHeartbeats 16000000 in
theorem plays_any (u0 u1 u2 u3 u4 : Value) (x : Ct) (uc : Value) (cs : List Cq) (W : World) (hu : CtAt W (fun _ => True) u0 u1 u2 u3 u4 x) (hx : CtIn 140737488351232 x) (hc : Sl W (fun _ => True) 9 uc cs.length (cqs cs)) (hsm : cs.length * 72 ≤ 140737488351232) (hm : May x) (ho : ∀ c ∈ cs, obj c.op ≠ 0) :
    Calls Try.prog 3 #[.agg #[u0, u1, u2, u3, u4], uc] W fun e w' => e = .returned (.bool true) ∧ Below W.heap.size W w' := by
  obtain ⟨a0, c0, rfl, _⟩ := hu.cell.form
  obtain ⟨a1, c1, rfl, _⟩ := hu.stack.form
  obtain ⟨a2, c2, rfl, _⟩ := hu.queue.form
  obtain ⟨a3, c3, rfl, _⟩ := hu.set.form
  obtain ⟨a4, c4, rfl, _⟩ := hu.table.form
  obtain ⟨ac, cc, rfl, hcc⟩ := hc.form
  have hi := hx.mono (show 140737488351232 ≤ 225000000000000 by decide)
  have hi2 := hx.mono (show 140737488351232 ≤ 140737488355328 by decide)
  have sx := hx.sm (by decide)
  obtain ⟨nn, hnn⟩ : ∃ b, b = (plays x cs 0).2 := ⟨_, rfl⟩
  obtain ⟨y, hy⟩ : ∃ y, y = (plays x cs 0).1 := ⟨_, rfl⟩
  have CR := fun w' (h : CtAt w' (fun _ => True) (.slice a0 x.cell.length c0) (.slice a1 x.stack.length c1) (.slice a2 x.queue.length c2) (.slice a3 x.set.length c3) (.slice a4 x.table.length c4) x) => rCopy_any h hi
  have CD := fun w' (h : CtAt w' (fun _ => True) (.slice a0 x.cell.length c0) (.slice a1 x.stack.length c1) (.slice a2 x.queue.length c2) (.slice a3 x.set.length c3) (.slice a4 x.table.length c4) x) (hc : Sl w' (fun _ => True) 9 (.slice ac cs.length cc) cs.length (cqs cs)) => mPlay_any h hi2 hc (by omega) hm ho
  have CM := fun w' (h : CtAt w' (fun _ => True) (.slice a0 x.cell.length c0) (.slice a1 x.stack.length c1) (.slice a2 x.queue.length c2) (.slice a3 x.set.length c3) (.slice a4 x.table.length c4) x) => rMay_any h sx true (by simp [hm])
  have CS := fun w' k0 k1 k2 k3 k4 (h : CtAt w' (fun _ => True) (.slice a0 x.cell.length c0) (.slice a1 x.stack.length c1) (.slice a2 x.queue.length c2) (.slice a3 x.set.length c3) (.slice a4 x.table.length c4) x) (hk : CtAt w' (fun _ => True) k0 k1 k2 k3 k4 x) => rSame_any h hk sx sx
  simp only [ctB_same] at CS
  have RD := fun w' (h : CtAt w' (fun _ => True) (.slice a0 x.cell.length c0) (.slice a1 x.stack.length c1) (.slice a2 x.queue.length c2) (.slice a3 x.set.length c3) (.slice a4 x.table.length c4) x) (hc : Sl w' (fun _ => True) 9 (.slice ac cs.length cc) cs.length (cqs cs)) => rPlay_any h hi2 hc (by omega) ho
  rw [← hnn, ← hy] at CD RD
  have X0 := (Below.refl W.heap.size W).alloc (Nat.le_refl _) (ctO (.slice a0 x.cell.length c0) (.slice a1 x.stack.length c1) (.slice a2 x.queue.length c2) (.slice a3 x.set.length c3) (.slice a4 x.table.length c4))
  have G0 : (W.alloc (ctO (.slice a0 x.cell.length c0) (.slice a1 x.stack.length c1) (.slice a2 x.queue.length c2) (.slice a3 x.set.length c3) (.slice a4 x.table.length c4))).heap[W.heap.size]? = some (ctO (.slice a0 x.cell.length c0) (.slice a1 x.stack.length c1) (.slice a2 x.queue.length c2) (.slice a3 x.set.length c3) (.slice a4 x.table.length c4)) := new_at W _ _ rfl
  have U0 := hu.below X0
  have HC := fun w' (hB : Below W.heap.size W w') => hc.below hB
  obtain ⟨n, hn⟩ : ∃ n, n = cs.length := ⟨_, rfl⟩
  rw [← hn] at HC hsm hcc CD RD ⊢
  clear hu hc
  replace hn := Mr.hid hn
  replace HC := Mr.hid HC
  replace X0 := Mr.hid X0
  replace U0 := Mr.hid U0
  replace G0 := Mr.hid G0
  replace CR := Mr.hid CR
  replace CD := Mr.hid CD
  replace CM := Mr.hid CM
  replace CS := Mr.hid CS
  replace hm := Mr.hid hm
  replace ho := Mr.hid ho
  replace hnn := Mr.hid hnn
  replace hy := Mr.hid hy
  replace RD := Mr.hid RD
  go_enter Try.func3, Try.ntmps3
  go_upto_region 1 with (fail)
  replace X0 := X0.out
  replace U0 := U0.out
  replace G0 := G0.out
  unfold ctO at X0 U0
  conv at G0 => lhs; unfold ctO
  generalize W.alloc (.cells #[.slice a0 x.cell.length c0, .slice a1 x.stack.length c1, .slice a2 x.queue.length c2, .slice a3 x.set.length c3, .slice a4 x.table.length c4] 25 (0, 0)) = w1 at *
  obtain ⟨e0, e1, e2, e3, e4, el⟩ := ctO_cells G0
  have CR1 := Mr.hid (CR.out _ U0)
  replace X0 := Mr.hid X0
  replace U0 := Mr.hid U0
  replace G0 := Mr.hid G0
  clear CR
  go_upto_region 2 with (first | (go_at_call 4; refine CR1.out.mono ?_; clear CR1; rintro e w2 ⟨k0, k1, k2, k3, k4, rfl, hk, hB2⟩; have DK := Dk.first (fx := (fun _ => none)) (fun b o ho => by cases ho) X0.out G0.out U0.out hB2 hk; clear X0 G0 U0 hB2; obtain ⟨p0, q0, rfl, _⟩ := hk.cell.form; obtain ⟨p1, q1, rfl, _⟩ := hk.stack.form; obtain ⟨p2, q2, rfl, _⟩ := hk.queue.form; obtain ⟨p3, q3, rfl, _⟩ := hk.set.form; obtain ⟨p4, q4, rfl, _⟩ := hk.table.form;  clear hk e0 e1 e2 e3 e4; replace DK := Mr.hid DK))
  obtain ⟨bk, hbk⟩ : ∃ b, b = w2.heap.size := ⟨_, rfl⟩
  rw [← hbk] at DK ⊢
  clear hbk
  replace DK := DK.out
  conv at DK => arg 2; unfold ctO
  generalize w2.alloc (.cells #[.slice p0 x.cell.length q0, .slice p1 x.stack.length q1, .slice p2 x.queue.length q2, .slice p3 x.set.length q3, .slice p4 x.table.length q4] 25 (0, 0)) = w3 at *
  obtain ⟨e0, e1, e2, e3, e4, el⟩ := ctO_cells DK.s
  have CD1 := Mr.hid (CD.out _ DK.sat (HC.out _ DK.bel))
  replace DK := Mr.hid DK
  clear CD
  go_upto_region 3 with (first | (go_at_call 5; refine CD1.out.mono ?_; clear CD1; rintro e w4 ⟨l0, l1, l2, l3, l4, rfl, hl, hB4⟩; have DZ := Dk.then1 DK.out hB4 hl; clear DK hB4; obtain ⟨z0, m0, rfl, _⟩ := hl.cell.form; obtain ⟨z1, m1, rfl, _⟩ := hl.stack.form; obtain ⟨z2, m2, rfl, _⟩ := hl.queue.form; obtain ⟨z3, m3, rfl, _⟩ := hl.set.form; obtain ⟨z4, m4, rfl, _⟩ := hl.table.form;  clear hl e0 e1 e2 e3 e4 el; replace DZ := Mr.hid DZ))
  obtain ⟨bl, hbl⟩ : ∃ b, b = w4.heap.size := ⟨_, rfl⟩
  rw [← hbl] at DZ ⊢
  clear hbl
  replace DZ := DZ.out
  conv at DZ => arg 2; unfold ctO
  generalize (w4.alloc (.cells #[.slice z0 y.cell.length m0, .slice z1 y.stack.length m1, .slice z2 y.queue.length m2, .slice z3 y.set.length m3, .slice z4 y.table.length m4] 25 (0, 0))) = w5 at *
  have CS1 := fun w' (h : Dz W w' W.heap.size bk bl (.slice a0 x.cell.length c0) (.slice a1 x.stack.length c1) (.slice a2 x.queue.length c2) (.slice a3 x.set.length c3) (.slice a4 x.table.length c4) (.slice p0 x.cell.length q0) (.slice p1 x.stack.length q1) (.slice p2 x.queue.length q2) (.slice p3 x.set.length q3) (.slice p4 x.table.length q4) (.slice z0 y.cell.length m0) (.slice z1 y.stack.length m1) (.slice z2 y.queue.length m2) (.slice z3 y.set.length m3) (.slice z4 y.table.length m4) x y none (fun _ => none)) => CS.out w' _ _ _ _ _ h.sat h.kat
  have CM1 := fun w' (h : Dz W w' W.heap.size bk bl (.slice a0 x.cell.length c0) (.slice a1 x.stack.length c1) (.slice a2 x.queue.length c2) (.slice a3 x.set.length c3) (.slice a4 x.table.length c4) (.slice p0 x.cell.length q0) (.slice p1 x.stack.length q1) (.slice p2 x.queue.length q2) (.slice p3 x.set.length q3) (.slice p4 x.table.length q4) (.slice z0 y.cell.length m0) (.slice z1 y.stack.length m1) (.slice z2 y.queue.length m2) (.slice z3 y.set.length m3) (.slice z4 y.table.length m4) x y none (fun _ => none)) => CM.out w' h.sat
  have CL := fun w' (h : Dz W w' W.heap.size bk bl (.slice a0 x.cell.length c0) (.slice a1 x.stack.length c1) (.slice a2 x.queue.length c2) (.slice a3 x.set.length c3) (.slice a4 x.table.length c4) (.slice p0 x.cell.length q0) (.slice p1 x.stack.length q1) (.slice p2 x.queue.length q2) (.slice p3 x.set.length q3) (.slice p4 x.table.length q4) (.slice z0 y.cell.length m0) (.slice z1 y.stack.length m1) (.slice z2 y.queue.length m2) (.slice z3 y.set.length m3) (.slice z4 y.table.length m4) x y none (fun _ => none)) => (⟨ctO_cells h.s, ctO_cells h.kept, ctO_cells h.left⟩ : _ ∧ _ ∧ _)
  replace CS1 := Mr.hid CS1
  replace CM1 := Mr.hid CM1
  replace CL := Mr.hid CL
  replace DZ := Mr.hid DZ
  clear CS CM
  go_upto_region 5 with (first | (go_at_call 6; refine (awake_any _).mono ?_; rintro e w6 ⟨rfl, hB6⟩; have DZ := Mr.hid (DZ.out.next hB6); clear hB6; obtain ⟨⟨e0, e1, e2, e3, e4, e5⟩, ⟨g0, g1, g2, g3, g4, g5⟩, -⟩ := CL.out _ DZ.out) | (go_at_call 7; refine (CS1.out _ DZ.out).mono ?_; clear CS1 e0 e1 e2 e3 e4 e5 g0 g1 g2 g3 g4 g5; rintro e w7 ⟨rfl, hB7⟩; have DZ := Mr.hid (DZ.out.next hB7); clear hB7; obtain ⟨⟨e0, e1, e2, e3, e4, e5⟩, ⟨g0, g1, g2, g3, g4, g5⟩, -⟩ := CL.out _ DZ.out))
  have sy : CtSm y := by rw [hy.out]; exact (plays_in hx cs 0).sm (by have := hn.out; omega)
  have nn0 : (nn == nn) = true := by simp
  go_upto_region 7 with (first | (go_at_call 8; refine (CM1.out _ DZ.out).mono ?_; clear CM1; rintro e w8 ⟨rfl, hB8⟩; have DZ := Mr.hid (DZ.out.next hB8); clear hB8; clear e0 e1 e2 e3 e4 e5 g0 g1 g2 g3 g4 g5; obtain ⟨⟨e0, e1, e2, e3, e4, e5⟩, ⟨g0, g1, g2, g3, g4, g5⟩, ⟨h0, h1, h2, h3, h4, h5⟩⟩ := CL.out _ DZ.out))
  clear e0 e1 e2 e3 e4 e5 g0 g1 g2 g3 g4 g5 h0 h1 h2 h3 h4 h5
  go_wp2
  go_loopg [46] n (fun k s wr => ∃ i : Nat, s = .int .i64 (i : Int) ∧ i + k = n ∧ (∀ (j : Nat) c, j < i → cs[j]? = some c → obj c.op ≠ 0) ∧ Dz W wr W.heap.size bk bl (.slice a0 x.cell.length c0) (.slice a1 x.stack.length c1) (.slice a2 x.queue.length c2) (.slice a3 x.set.length c3) (.slice a4 x.table.length c4) (.slice p0 x.cell.length q0) (.slice p1 x.stack.length q1) (.slice p2 x.queue.length q2) (.slice p3 x.set.length q3) (.slice p4 x.table.length q4) (.slice z0 y.cell.length m0) (.slice z1 y.stack.length m1) (.slice z2 y.queue.length m2) (.slice z3 y.set.length m3) (.slice z4 y.table.length m4) x y none (fun _ => none))
  case atStart => exact ⟨0, rfl, by omega, fun j c hj => by omega, DZ.out⟩
  case round =>
    clear DZ
    obtain ⟨i, rfl, hi', hob, DZ⟩ := hrel
    by_cases hlt : i < n
    · obtain ⟨c, hci⟩ : ∃ c, cs[i]? = some c := ⟨cs[i]'(by have := hn.out; omega), List.getElem?_eq_getElem _⟩
      obtain ⟨bc, oc, cc', hcv, _, _, hcl, hcr⟩ := (HC.out _ DZ.bel).there (by omega)
      cases hcv
      have hg := fun j (hj : j < 9) => cqs_get cs i c hci j hj
      have G0 : wr.cell? ⟨bc, oc + i * 9, none⟩ = some (.int .i64 c.th) := hcr (i * 9 + 0) _ (hg 0 (by omega))
      have G1 : wr.cell? ⟨bc, oc + i * 9 + 1, none⟩ = some (.int .i64 c.op) := hcr (i * 9 + 1) _ (hg 1 (by omega))
      have G2 : wr.cell? ⟨bc, oc + i * 9 + 2, none⟩ = some (.int .i64 c.arg) := hcr (i * 9 + 2) _ (hg 2 (by omega))
      have G3 : wr.cell? ⟨bc, oc + i * 9 + 3, none⟩ = some (.int .i64 c.data) := hcr (i * 9 + 3) _ (hg 3 (by omega))
      have G4 : wr.cell? ⟨bc, oc + i * 9 + 4, none⟩ = some (.int .i64 c.beg) := hcr (i * 9 + 4) _ (hg 4 (by omega))
      have G5 : wr.cell? ⟨bc, oc + i * 9 + 5, none⟩ = some (.int .i64 c.fin) := hcr (i * 9 + 5) _ (hg 5 (by omega))
      have G6 : wr.cell? ⟨bc, oc + i * 9 + 6, none⟩ = some (.int .i64 c.pt) := hcr (i * 9 + 6) _ (hg 6 (by omega))
      have G7 : wr.cell? ⟨bc, oc + i * 9 + 7, none⟩ = some (.int .i64 c.ak) := hcr (i * 9 + 7) _ (hg 7 (by omega))
      have G8 : wr.cell? ⟨bc, oc + i * 9 + 8, none⟩ = some (.int .i64 c.av) := hcr (i * 9 + 8) _ (hg 8 (by omega))
      clear hg hcr
      have hlI : (i : Int) < (n : Int) := by omega
      have DN := DZ.next ((Below.refl wr.heap.size wr).alloc (Nat.le_refl _) (cqO c))
      unfold cqO at DN
      obtain ⟨ob, hobj⟩ : ∃ b, b = obj c.op := ⟨_, rfl⟩
      have CO := rObject_any c.op
      rw [← hobj] at CO
      replace CO := Mr.hid CO
      replace DN := Mr.hid DN
      replace hob := Mr.hid hob
      replace hci := Mr.hid hci
      clear DZ
      have hne : ob ≠ 0 := by rw [hobj]; exact ho.out c (List.mem_of_getElem? hci.out)
      have ob0 : (ob == 0) = false := by rw [beq_eq_false_iff_ne]; exact hne
      replace hobj := Mr.hid hobj
      have hob2 : ∀ (j : Nat) c', j < i + 1 → cs[j]? = some c' → obj c'.op ≠ 0 := fun j c' hj hc' => by
        by_cases e : j = i
        · subst e; rw [hci.out] at hc'; cases hc'; rw [← hobj.out]; exact hne
        · exact hob.out j c' (by omega) hc'
      replace hob2 := Mr.hid hob2
      replace hne := Mr.hid hne
      go_wp2_with (first | (go_at_call 9; refine (CO.out _).mono ?_; clear CO; rintro e w' ⟨rfl, hw'⟩; obtain rfl := hw'.symm; clear hw'))
      go_roundg (gk - 1)
      case measure => omega
      case rel => exact ⟨i + 1, by simp, by omega, hob2.out, DN.out⟩
    · have hge : decide ((i : Int) < (n : Int)) = false := decide_eq_false (by omega)
      have RD1 := RD.out _ DZ.sat (HC.out _ DZ.bel)
      obtain ⟨⟨e0, e1, e2, e3, e4, e5⟩, -, ⟨h0, h1, h2, h3, h4, h5⟩⟩ := CL.out _ DZ
      replace RD1 := Mr.hid RD1
      replace DZ := Mr.hid DZ
      clear RD
      go_wp2_with (first | (go_at_call 10; refine RD1.out.mono ?_; clear RD1; rintro e w9 ⟨d0, d1, d2, d3, d4, rfl, hw, hB9⟩; clear h0 h1 h2 h3 h4 h5 e0 e1 e2 e3 e4 e5; have DZ := Mr.hid (DZ.out.next hB9); clear hB9; obtain ⟨⟨e0, e1, e2, e3, e4, e5⟩, -, ⟨h0, h1, h2, h3, h4, h5⟩⟩ := CL.out _ DZ.out; have SF := fun w' (hB : Below w9.heap.size w9 w') => rSame_any (DZ.out.lat.below hB) (hw.below hB) sy sy; simp only [ctB_same] at SF; obtain ⟨s0, t0, rfl, _⟩ := hw.cell.form; obtain ⟨s1, t1, rfl, _⟩ := hw.stack.form; obtain ⟨s2, t2, rfl, _⟩ := hw.queue.form; obtain ⟨s3, t3, rfl, _⟩ := hw.set.form; obtain ⟨s4, t4, rfl, _⟩ := hw.table.form;  clear hw; replace SF := Mr.hid SF) | (go_at_call 7; refine (SF.out _ ((Below.refl _ _).alloc (Nat.le_refl _) _)).mono ?_; clear SF; rintro e w10 ⟨rfl, hB10⟩; have hE := DZ.out.bel.trans (((Below.refl _ _).alloc (Nat.le_refl _) _).trans (hB10.mono (by simp)) |>.mono DZ.out.bel.size); clear hB10; replace hE := Mr.hid hE))
      go_ret
      exact ⟨rfl, hE.out⟩

set_option maxRecDepth 100000 in
set_option maxHeartbeats 16000000 in
theorem plays_ill (u0 u1 u2 u3 u4 : Value) (x : Ct) (uc : Value) (cs : List Cq) (W : World) (hu : CtAt W (fun _ => True) u0 u1 u2 u3 u4 x) (hx : CtIn 140737488351232 x) (hc : Sl W (fun _ => True) 9 uc cs.length (cqs cs)) (hsm : cs.length * 72 ≤ 140737488351232) (hm : May x) (ho : ∃ c ∈ cs, obj c.op = 0) :
    Calls Try.prog 3 #[.agg #[u0, u1, u2, u3, u4], uc] W fun e w' => e = .returned (.bool true) ∧ Below W.heap.size W w' := by
  obtain ⟨a0, c0, rfl, _⟩ := hu.cell.form
  obtain ⟨a1, c1, rfl, _⟩ := hu.stack.form
  obtain ⟨a2, c2, rfl, _⟩ := hu.queue.form
  obtain ⟨a3, c3, rfl, _⟩ := hu.set.form
  obtain ⟨a4, c4, rfl, _⟩ := hu.table.form
  obtain ⟨ac, cc, rfl, hcc⟩ := hc.form
  have hi := hx.mono (show 140737488351232 ≤ 225000000000000 by decide)
  have hi2 := hx.mono (show 140737488351232 ≤ 140737488355328 by decide)
  have sx := hx.sm (by decide)
  obtain ⟨y, hy⟩ : ∃ y, y = ct0 := ⟨_, rfl⟩
  have CR := fun w' (h : CtAt w' (fun _ => True) (.slice a0 x.cell.length c0) (.slice a1 x.stack.length c1) (.slice a2 x.queue.length c2) (.slice a3 x.set.length c3) (.slice a4 x.table.length c4) x) => rCopy_any h hi
  have CD := fun w' (h : CtAt w' (fun _ => True) (.slice a0 x.cell.length c0) (.slice a1 x.stack.length c1) (.slice a2 x.queue.length c2) (.slice a3 x.set.length c3) (.slice a4 x.table.length c4) x) (hc : Sl w' (fun _ => True) 9 (.slice ac cs.length cc) cs.length (cqs cs)) => mPlay_ill h hi2 hc (by omega) hm ho
  have CM := fun w' (h : CtAt w' (fun _ => True) (.slice a0 x.cell.length c0) (.slice a1 x.stack.length c1) (.slice a2 x.queue.length c2) (.slice a3 x.set.length c3) (.slice a4 x.table.length c4) x) => rMay_any h sx true (by simp [hm])
  have CS := fun w' k0 k1 k2 k3 k4 (h : CtAt w' (fun _ => True) (.slice a0 x.cell.length c0) (.slice a1 x.stack.length c1) (.slice a2 x.queue.length c2) (.slice a3 x.set.length c3) (.slice a4 x.table.length c4) x) (hk : CtAt w' (fun _ => True) k0 k1 k2 k3 k4 x) => rSame_any h hk sx sx
  simp only [ctB_same] at CS
  rw [← hy] at CD
  have X0 := (Below.refl W.heap.size W).alloc (Nat.le_refl _) (ctO (.slice a0 x.cell.length c0) (.slice a1 x.stack.length c1) (.slice a2 x.queue.length c2) (.slice a3 x.set.length c3) (.slice a4 x.table.length c4))
  have G0 : (W.alloc (ctO (.slice a0 x.cell.length c0) (.slice a1 x.stack.length c1) (.slice a2 x.queue.length c2) (.slice a3 x.set.length c3) (.slice a4 x.table.length c4))).heap[W.heap.size]? = some (ctO (.slice a0 x.cell.length c0) (.slice a1 x.stack.length c1) (.slice a2 x.queue.length c2) (.slice a3 x.set.length c3) (.slice a4 x.table.length c4)) := new_at W _ _ rfl
  have U0 := hu.below X0
  have HC := fun w' (hB : Below W.heap.size W w') => hc.below hB
  obtain ⟨n, hn⟩ : ∃ n, n = cs.length := ⟨_, rfl⟩
  rw [← hn] at HC hsm hcc CD ⊢
  clear hu hc
  replace hn := Mr.hid hn
  replace HC := Mr.hid HC
  replace X0 := Mr.hid X0
  replace U0 := Mr.hid U0
  replace G0 := Mr.hid G0
  replace CR := Mr.hid CR
  replace CD := Mr.hid CD
  replace CM := Mr.hid CM
  replace CS := Mr.hid CS
  replace hm := Mr.hid hm
  replace ho := Mr.hid ho
  replace hy := Mr.hid hy
  go_enter Try.func3, Try.ntmps3
  go_upto_region 1 with (fail)
  replace X0 := X0.out
  replace U0 := U0.out
  replace G0 := G0.out
  unfold ctO at X0 U0
  conv at G0 => lhs; unfold ctO
  generalize W.alloc (.cells #[.slice a0 x.cell.length c0, .slice a1 x.stack.length c1, .slice a2 x.queue.length c2, .slice a3 x.set.length c3, .slice a4 x.table.length c4] 25 (0, 0)) = w1 at *
  obtain ⟨e0, e1, e2, e3, e4, el⟩ := ctO_cells G0
  have CR1 := Mr.hid (CR.out _ U0)
  replace X0 := Mr.hid X0
  replace U0 := Mr.hid U0
  replace G0 := Mr.hid G0
  clear CR
  go_upto_region 2 with (first | (go_at_call 4; refine CR1.out.mono ?_; clear CR1; rintro e w2 ⟨k0, k1, k2, k3, k4, rfl, hk, hB2⟩; have DK := Dk.first (fx := (fun _ => none)) (fun b o ho => by cases ho) X0.out G0.out U0.out hB2 hk; clear X0 G0 U0 hB2; obtain ⟨p0, q0, rfl, _⟩ := hk.cell.form; obtain ⟨p1, q1, rfl, _⟩ := hk.stack.form; obtain ⟨p2, q2, rfl, _⟩ := hk.queue.form; obtain ⟨p3, q3, rfl, _⟩ := hk.set.form; obtain ⟨p4, q4, rfl, _⟩ := hk.table.form;  clear hk e0 e1 e2 e3 e4; replace DK := Mr.hid DK))
  obtain ⟨bk, hbk⟩ : ∃ b, b = w2.heap.size := ⟨_, rfl⟩
  rw [← hbk] at DK ⊢
  clear hbk
  replace DK := DK.out
  conv at DK => arg 2; unfold ctO
  generalize w2.alloc (.cells #[.slice p0 x.cell.length q0, .slice p1 x.stack.length q1, .slice p2 x.queue.length q2, .slice p3 x.set.length q3, .slice p4 x.table.length q4] 25 (0, 0)) = w3 at *
  obtain ⟨e0, e1, e2, e3, e4, el⟩ := ctO_cells DK.s
  have CD1 := Mr.hid (CD.out _ DK.sat (HC.out _ DK.bel))
  replace DK := Mr.hid DK
  clear CD
  go_upto_region 3 with (first | (go_at_call 5; refine CD1.out.mono ?_; clear CD1; rintro e w4 ⟨l0, l1, l2, l3, l4, rfl, hl, hB4⟩; have DZ := Dk.then1 DK.out hB4 hl; clear DK hB4; obtain ⟨z0, m0, rfl, _⟩ := hl.cell.form; obtain ⟨z1, m1, rfl, _⟩ := hl.stack.form; obtain ⟨z2, m2, rfl, _⟩ := hl.queue.form; obtain ⟨z3, m3, rfl, _⟩ := hl.set.form; obtain ⟨z4, m4, rfl, _⟩ := hl.table.form;  clear hl e0 e1 e2 e3 e4 el; replace DZ := Mr.hid DZ))
  obtain ⟨bl, hbl⟩ : ∃ b, b = w4.heap.size := ⟨_, rfl⟩
  rw [← hbl] at DZ ⊢
  clear hbl
  replace DZ := DZ.out
  conv at DZ => arg 2; unfold ctO
  generalize (w4.alloc (.cells #[.slice z0 y.cell.length m0, .slice z1 y.stack.length m1, .slice z2 y.queue.length m2, .slice z3 y.set.length m3, .slice z4 y.table.length m4] 25 (0, 0))) = w5 at *
  have CS1 := fun w' (h : Dz W w' W.heap.size bk bl (.slice a0 x.cell.length c0) (.slice a1 x.stack.length c1) (.slice a2 x.queue.length c2) (.slice a3 x.set.length c3) (.slice a4 x.table.length c4) (.slice p0 x.cell.length q0) (.slice p1 x.stack.length q1) (.slice p2 x.queue.length q2) (.slice p3 x.set.length q3) (.slice p4 x.table.length q4) (.slice z0 y.cell.length m0) (.slice z1 y.stack.length m1) (.slice z2 y.queue.length m2) (.slice z3 y.set.length m3) (.slice z4 y.table.length m4) x y none (fun _ => none)) => CS.out w' _ _ _ _ _ h.sat h.kat
  have CM1 := fun w' (h : Dz W w' W.heap.size bk bl (.slice a0 x.cell.length c0) (.slice a1 x.stack.length c1) (.slice a2 x.queue.length c2) (.slice a3 x.set.length c3) (.slice a4 x.table.length c4) (.slice p0 x.cell.length q0) (.slice p1 x.stack.length q1) (.slice p2 x.queue.length q2) (.slice p3 x.set.length q3) (.slice p4 x.table.length q4) (.slice z0 y.cell.length m0) (.slice z1 y.stack.length m1) (.slice z2 y.queue.length m2) (.slice z3 y.set.length m3) (.slice z4 y.table.length m4) x y none (fun _ => none)) => CM.out w' h.sat
  have CL := fun w' (h : Dz W w' W.heap.size bk bl (.slice a0 x.cell.length c0) (.slice a1 x.stack.length c1) (.slice a2 x.queue.length c2) (.slice a3 x.set.length c3) (.slice a4 x.table.length c4) (.slice p0 x.cell.length q0) (.slice p1 x.stack.length q1) (.slice p2 x.queue.length q2) (.slice p3 x.set.length q3) (.slice p4 x.table.length q4) (.slice z0 y.cell.length m0) (.slice z1 y.stack.length m1) (.slice z2 y.queue.length m2) (.slice z3 y.set.length m3) (.slice z4 y.table.length m4) x y none (fun _ => none)) => (⟨ctO_cells h.s, ctO_cells h.kept, ctO_cells h.left⟩ : _ ∧ _ ∧ _)
  replace CS1 := Mr.hid CS1
  replace CM1 := Mr.hid CM1
  replace CL := Mr.hid CL
  replace DZ := Mr.hid DZ
  clear CS CM
  go_upto_region 5 with (first | (go_at_call 6; refine (awake_any _).mono ?_; rintro e w6 ⟨rfl, hB6⟩; have DZ := Mr.hid (DZ.out.next hB6); clear hB6; obtain ⟨⟨e0, e1, e2, e3, e4, e5⟩, ⟨g0, g1, g2, g3, g4, g5⟩, -⟩ := CL.out _ DZ.out) | (go_at_call 7; refine (CS1.out _ DZ.out).mono ?_; clear CS1 e0 e1 e2 e3 e4 e5 g0 g1 g2 g3 g4 g5; rintro e w7 ⟨rfl, hB7⟩; have DZ := Mr.hid (DZ.out.next hB7); clear hB7; obtain ⟨⟨e0, e1, e2, e3, e4, e5⟩, ⟨g0, g1, g2, g3, g4, g5⟩, -⟩ := CL.out _ DZ.out))
  have sy : CtSm y := by rw [hy.out]; exact ⟨by decide, by decide, by decide, by decide, by decide⟩
  have SF := fun w' (h : Dz W w' W.heap.size bk bl (.slice a0 x.cell.length c0) (.slice a1 x.stack.length c1) (.slice a2 x.queue.length c2) (.slice a3 x.set.length c3) (.slice a4 x.table.length c4) (.slice p0 x.cell.length q0) (.slice p1 x.stack.length q1) (.slice p2 x.queue.length q2) (.slice p3 x.set.length q3) (.slice p4 x.table.length q4) (.slice z0 y.cell.length m0) (.slice z1 y.stack.length m1) (.slice z2 y.queue.length m2) (.slice z3 y.set.length m3) (.slice z4 y.table.length m4) x y none (fun _ => none)) => rSame_any (T := fun _ => True) h.lat (ct0_at w' _) sy ⟨by decide, by decide, by decide, by decide, by decide⟩
  rw [show ctB y ct0 = true from by rw [hy.out]; decide] at SF
  replace SF := Mr.hid SF
  go_upto_region 7 with (first | (go_at_call 8; refine (CM1.out _ DZ.out).mono ?_; clear CM1; rintro e w8 ⟨rfl, hB8⟩; have DZ := Mr.hid (DZ.out.next hB8); clear hB8; clear e0 e1 e2 e3 e4 e5 g0 g1 g2 g3 g4 g5; obtain ⟨⟨e0, e1, e2, e3, e4, e5⟩, ⟨g0, g1, g2, g3, g4, g5⟩, ⟨h0, h1, h2, h3, h4, h5⟩⟩ := CL.out _ DZ.out))
  clear e0 e1 e2 e3 e4 e5 g0 g1 g2 g3 g4 g5 h0 h1 h2 h3 h4 h5
  go_wp2
  go_loopg [46] n (fun k s wr => ∃ i : Nat, s = .int .i64 (i : Int) ∧ i + k = n ∧ (∀ (j : Nat) c, j < i → cs[j]? = some c → obj c.op ≠ 0) ∧ Dz W wr W.heap.size bk bl (.slice a0 x.cell.length c0) (.slice a1 x.stack.length c1) (.slice a2 x.queue.length c2) (.slice a3 x.set.length c3) (.slice a4 x.table.length c4) (.slice p0 x.cell.length q0) (.slice p1 x.stack.length q1) (.slice p2 x.queue.length q2) (.slice p3 x.set.length q3) (.slice p4 x.table.length q4) (.slice z0 y.cell.length m0) (.slice z1 y.stack.length m1) (.slice z2 y.queue.length m2) (.slice z3 y.set.length m3) (.slice z4 y.table.length m4) x y none (fun _ => none))
  case atStart => exact ⟨0, rfl, by omega, fun j c hj => by omega, DZ.out⟩
  case round =>
    clear DZ
    obtain ⟨i, rfl, hi', hob, DZ⟩ := hrel
    by_cases hlt : i < n
    · obtain ⟨c, hci⟩ : ∃ c, cs[i]? = some c := ⟨cs[i]'(by have := hn.out; omega), List.getElem?_eq_getElem _⟩
      obtain ⟨bc, oc, cc', hcv, _, _, hcl, hcr⟩ := (HC.out _ DZ.bel).there (by omega)
      cases hcv
      have hg := fun j (hj : j < 9) => cqs_get cs i c hci j hj
      have G0 : wr.cell? ⟨bc, oc + i * 9, none⟩ = some (.int .i64 c.th) := hcr (i * 9 + 0) _ (hg 0 (by omega))
      have G1 : wr.cell? ⟨bc, oc + i * 9 + 1, none⟩ = some (.int .i64 c.op) := hcr (i * 9 + 1) _ (hg 1 (by omega))
      have G2 : wr.cell? ⟨bc, oc + i * 9 + 2, none⟩ = some (.int .i64 c.arg) := hcr (i * 9 + 2) _ (hg 2 (by omega))
      have G3 : wr.cell? ⟨bc, oc + i * 9 + 3, none⟩ = some (.int .i64 c.data) := hcr (i * 9 + 3) _ (hg 3 (by omega))
      have G4 : wr.cell? ⟨bc, oc + i * 9 + 4, none⟩ = some (.int .i64 c.beg) := hcr (i * 9 + 4) _ (hg 4 (by omega))
      have G5 : wr.cell? ⟨bc, oc + i * 9 + 5, none⟩ = some (.int .i64 c.fin) := hcr (i * 9 + 5) _ (hg 5 (by omega))
      have G6 : wr.cell? ⟨bc, oc + i * 9 + 6, none⟩ = some (.int .i64 c.pt) := hcr (i * 9 + 6) _ (hg 6 (by omega))
      have G7 : wr.cell? ⟨bc, oc + i * 9 + 7, none⟩ = some (.int .i64 c.ak) := hcr (i * 9 + 7) _ (hg 7 (by omega))
      have G8 : wr.cell? ⟨bc, oc + i * 9 + 8, none⟩ = some (.int .i64 c.av) := hcr (i * 9 + 8) _ (hg 8 (by omega))
      clear hg hcr
      have hlI : (i : Int) < (n : Int) := by omega
      have DN := DZ.next ((Below.refl wr.heap.size wr).alloc (Nat.le_refl _) (cqO c))
      unfold cqO at DN
      obtain ⟨ob, hobj⟩ : ∃ b, b = obj c.op := ⟨_, rfl⟩
      have CO := rObject_any c.op
      rw [← hobj] at CO
      replace CO := Mr.hid CO
      replace DN := Mr.hid DN
      replace hob := Mr.hid hob
      replace hci := Mr.hid hci
      clear DZ
      by_cases hne : ob = 0
      · have CO2 := CO.out
        rw [hne] at CO2
        clear CO
        have CO := Mr.hid CO2
        clear CO2 hobj hne
        obtain ⟨-, -, ⟨h0, h1, h2, h3, h4, h5⟩⟩ := CL.out _ DN.out
        have DZ := DN
        clear DN
        go_wp2_with (first | (go_at_call 9; refine (CO.out _).mono ?_; clear CO; rintro e w' ⟨rfl, hw'⟩; obtain rfl := hw'.symm; clear hw') | (go_at_call 7; refine (SF.out _ DZ.out).mono ?_; clear SF; rintro e w10 ⟨rfl, hB10⟩; have hE := Mr.hid (DZ.out.next hB10).bel; clear hB10))
        go_ret
        exact ⟨rfl, hE.out⟩
      · have ob0 : (ob == 0) = false := by rw [beq_eq_false_iff_ne]; exact hne
        replace hobj := Mr.hid hobj
        have hob2 : ∀ (j : Nat) c', j < i + 1 → cs[j]? = some c' → obj c'.op ≠ 0 := fun j c' hj hc' => by
          by_cases e : j = i
          · subst e; rw [hci.out] at hc'; cases hc'; rw [← hobj.out]; exact hne
          · exact hob.out j c' (by omega) hc'
        replace hob2 := Mr.hid hob2
        replace hne := Mr.hid hne
        go_wp2_with (first | (go_at_call 9; refine (CO.out _).mono ?_; clear CO; rintro e w' ⟨rfl, hw'⟩; obtain rfl := hw'.symm; clear hw'))
        go_roundg (gk - 1)
        case measure => omega
        case rel => exact ⟨i + 1, by simp, by omega, hob2.out, DN.out⟩
    · have hge : decide ((i : Int) < (n : Int)) = false := decide_eq_false (by omega)
      exfalso
      obtain ⟨c, hc1, hc2⟩ := ho.out
      obtain ⟨j, hj⟩ := List.getElem?_of_mem hc1
      exact hob j c (by have := (List.getElem?_eq_some_iff.1 hj).1; have := hn.out; omega) hj hc2

/-- ModelPlays, of any contents and calls. -/
theorem walk_plays (u0 u1 u2 u3 u4 : Value) (x : Ct) (uc : Value) (cs : List Cq) (W : World) (hu : CtAt W (fun _ => True) u0 u1 u2 u3 u4 x) (hx : CtIn 140737488351232 x) (hc : Sl W (fun _ => True) 9 uc cs.length (cqs cs)) (hsm : cs.length * 72 ≤ 140737488351232) :
    Calls Try.prog 3 #[.agg #[u0, u1, u2, u3, u4], uc] W fun e w' => e = .returned (.bool true) ∧ Below W.heap.size W w' := by
  by_cases hm : May x
  · by_cases ho : ∃ c ∈ cs, obj c.op = 0
    · exact plays_ill u0 u1 u2 u3 u4 x uc cs W hu hx hc hsm hm ho
    · exact plays_any u0 u1 u2 u3 u4 x uc cs W hu hx hc hsm hm (fun c hcs h0 => ho ⟨c, hcs, h0⟩)
  · exact plays_state u0 u1 u2 u3 u4 x uc cs W hu hx hc hsm hm
end Go.Proofs.Ytegbcocbopgghac.Md
