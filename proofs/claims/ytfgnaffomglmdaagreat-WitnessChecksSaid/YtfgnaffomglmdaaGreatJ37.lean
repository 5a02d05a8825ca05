import Derived.Test.YtfgnaffomglmdaaGreatJ35
import Derived.Test.YtfgnaffomglmdaaGreatJ09
import Derived.Test.YtfgnaffomglmdaaGreatJ36
import Derived.Test.YtfgnaffomglmdaaGreatJ15
import Derived.Test.YtfgnaffomglmdaaGreatJ17
import Derived.Test.YtfgnaffomglmdaaGreatJ18
/-
  Package model: Play.
-/
namespace Go.Proofs.YtfgnaffomglmdaaGreat.Md
open Go.RowKit Mr
set_option linter.unusedVariables false
set_option linter.unusedSimpArgs false
theorem adm_left {x : Ct} {cs : List Cq} {i : Nat} {c : Cq} (hc : cs[i]? = some c) (h : (alw (lefts x cs i) c).2 = true) : adm (lefts x cs i) c = lefts x cs (i + 1) := by
  rw [lefts_succ x cs i c hc]; exact if_pos h
theorem adm_same {x : Ct} {c : Cq} (h : (alw x c).2 = false) : adm x c = x := if_neg (by rw [h]; decide)
theorem may_alw {x : Ct} (h : May x) {c : Cq} (ho : obj c.op ≠ 0) (hy : (alw x c).2 = true) : May (alw x c).1 := by
  have hd := may_dnx h ho c.arg c.data
  unfold alw at hy ⊢
  by_cases h0 : c.ak = 0
  · rw [if_pos h0]; exact hd
  · rw [if_neg h0] at hy ⊢
    by_cases h4 : c.ak = 4
    · rw [if_pos h4] at hy ⊢
      by_cases hf : fullOp c.op
      · rw [if_pos hf]; exact h
      · rw [if_neg hf] at hy; cases hy
    · rw [if_neg h4] at hy ⊢
      by_cases hq : dan x c.op c.arg = (c.ak, c.av)
      · rw [if_pos hq]; exact hd
      · rw [if_neg hq] at hy; cases hy
theorem may_left {x : Ct} (h : May x) {cs : List Cq} (ho : ∀ c ∈ cs, obj c.op ≠ 0) : ∀ i, i ≤ cs.length → okTo x cs i → May (lefts x cs i) := by
  intro i
  induction i with
  | zero => intro _ _; exact h
  | succ i ih =>
    intro hi hok
    have hc : cs[i]? = some cs[i] := List.getElem?_eq_getElem (by omega)
    rw [lefts_succ x cs i _ hc]
    exact may_alw (ih (by omega) (fun j hj => hok j (by omega))) (ho _ (List.getElem_mem _)) (hok i (by omega) _ hc)
theorem bads_all {cs : List Cq} (h : ∀ c ∈ cs, obj c.op ≠ 0) : bads cs = false := bads_no (fun j c hc => h c (List.mem_of_getElem? hc))
theorem bads_some {cs : List Cq} (h : ∃ c ∈ cs, obj c.op = 0) : bads cs = true := by
  obtain ⟨c, hc, ho⟩ := h
  unfold bads
  rw [List.any_eq_true]
  exact ⟨c, hc, by simp [ho]⟩
/-- Within Play: the result's box, the objects' box, the objects. -/
structure Dl (W w : World) (B bW g0 g1 g2 g3 g4 : Nat) (y : Ct) : Prop where
  bel : Below W.heap.size W w
  r : w.heap[W.heap.size + 1]? = some (.cells #[.slice none 0 0, .slice none 0 0, .slice none 0 0, .slice none 0 0, .slice none 0 0] 41 (0, 0))
  p : w.heap[bW]? = some (.cells #[.iface 79 (.pointer (some ⟨g0, 0, none⟩)), .iface 81 (.pointer (some ⟨g1, 0, none⟩)), .iface 83 (.pointer (some ⟨g2, 0, none⟩)), .iface 85 (.pointer (some ⟨g3, 0, none⟩)), .iface 87 (.pointer (some ⟨g4, 0, none⟩))] 67 (0, 0))
  hB : B ≤ w.heap.size
  d : ∃ lab, Wd w B lab g0 g1 g2 g3 g4 y ∧ (∀ k, lab k < 5 → k < w.heap.size) ∧ ¬ lab bW < 5
set_option maxRecDepth 100000 in
set_option maxHeartbeats 8000000 in
theorem pPlay_state {W : World} {S : Nat → Prop} {u0 u1 u2 u3 u4 : Value} {x : Ct} (hu : CtAt W S u0 u1 u2 u3 u4 x) {T : Nat → Prop} {uc : Value} {cs : List Cq} (hin : CtIn 140737488355328 x) (hc : Sl W T 9 uc cs.length (cqs cs)) (hsm : cs.length * 72 ≤ 140737488355328) (hm : ¬ May x) :
    Calls Tryz.prog 22 #[.agg #[u0, u1, u2, u3, u4], uc] W fun e w' => ∃ v0 v1 v2 v3 v4 lab, e = .returned (.tuple #[.agg #[v0, v1, v2, v3, v4], .int .i64 0, .int .i64 111]) ∧ CtOwn w' W.heap.size lab v0 v1 v2 v3 v4 ct0 ∧ Below W.heap.size W w' := by
  obtain ⟨a0, c0, rfl, _⟩ := hu.cell.form
  obtain ⟨a1, c1, rfl, _⟩ := hu.stack.form
  obtain ⟨a2, c2, rfl, _⟩ := hu.queue.form
  obtain ⟨a3, c3, rfl, _⟩ := hu.set.form
  obtain ⟨a4, c4, rfl, _⟩ := hu.table.form
  obtain ⟨ac, cc, rfl, hcc⟩ := hc.form
  have CR := fun w' (hB : Below W.heap.size W w') => refused_any (hu.below hB) (hin.sm (by decide)) (hc.below hB) (by omega) false (by simp [hm]) 111 rfl
  have CW := fun w' (hB : Below W.heap.size W w') => worldOf_any (hu.below hB) (hin.mono (by decide))
  have hT0 := Tq.new W (.cells #[.slice a0 x.cell.length c0, .slice a1 x.stack.length c1, .slice a2 x.queue.length c2, .slice a3 x.set.length c3, .slice a4 x.table.length c4] 41 (0, 0)) (.cells #[.slice none 0 0, .slice none 0 0, .slice none 0 0, .slice none 0 0, .slice none 0 0] 41 (0, 0))
  obtain ⟨y0, y1, y2, y3, y4, y5⟩ := ifs_cells hT0.2.1
  clear hu
  replace CR := Mr.hid CR
  replace CW := Mr.hid CW
  replace hT0 := Mr.hid hT0
  generalize cs.length = n at *
  clear hc
  go_enter Tryz.func22, Tryz.ntmps22
  go_upto_region 3 with (first | (go_at_call 36; refine (CR.out _ hT0.out.1).mono ?_; rintro e w1 ⟨rfl, hB1⟩; have hT1 := Mr.hid (hT0.out.below hB1); clear y0 y1 y2 y3 y4 y5; obtain ⟨y0, y1, y2, y3, y4, y5⟩ := ifs_cells hT1.out.2.1))
  clear y0 y1 y2 y3 y4 y5
  obtain ⟨r0, r1, r2, r3, r4, r5⟩ := ifs_cells hT1.out.2.2.1
  obtain ⟨f0, f1, f2, f3, f4⟩ := ifs_thaw hT1.out.2.2.1
  have m2 := set5_five (.slice none 0 0) (.slice none 0 0) (.slice none 0 0) (.slice none 0 0) (.slice none 0 0) hT1.out.2.2.1
  have m1 := set5_below (b := W.heap.size + 1) (.slice none 0 0) (.slice none 0 0) (.slice none 0 0) (.slice none 0 0) (.slice none 0 0) hT1.out.1 (by omega)
  obtain ⟨x0, x1, x2, x3, x4, x5⟩ := ifs_cells m2
  unfold set5 at x0 x1 x2 x3 x4 x5 m1
  replace m1 := Mr.hid m1
  clear m2
  go_wp2
  refine bodyPost_ret (v := .tuple #[.agg #[.slice none 0 0, .slice none 0 0, .slice none 0 0, .slice none 0 0, .slice none 0 0], .int .i64 0, .int .i64 111]) (by simp [results, Tryz.results22, go_sem, x0, x1, x2, x3, x4]) rfl ⟨_, _, _, _, _, _, rfl, ct0_own _ _, m1.out⟩
set_option maxRecDepth 100000 in
set_option maxHeartbeats 8000000 in
theorem pPlay_ill {W : World} {S : Nat → Prop} {u0 u1 u2 u3 u4 : Value} {x : Ct} (hu : CtAt W S u0 u1 u2 u3 u4 x) {T : Nat → Prop} {uc : Value} {cs : List Cq} (hin : CtIn 140737488355328 x) (hc : Sl W T 9 uc cs.length (cqs cs)) (hsm : cs.length * 72 ≤ 140737488355328) (hm : May x) (ho : ∃ c ∈ cs, obj c.op = 0) :
    Calls Tryz.prog 22 #[.agg #[u0, u1, u2, u3, u4], uc] W fun e w' => ∃ v0 v1 v2 v3 v4 lab, e = .returned (.tuple #[.agg #[v0, v1, v2, v3, v4], .int .i64 0, .int .i64 110]) ∧ CtOwn w' W.heap.size lab v0 v1 v2 v3 v4 ct0 ∧ Below W.heap.size W w' := by
  obtain ⟨a0, c0, rfl, _⟩ := hu.cell.form
  obtain ⟨a1, c1, rfl, _⟩ := hu.stack.form
  obtain ⟨a2, c2, rfl, _⟩ := hu.queue.form
  obtain ⟨a3, c3, rfl, _⟩ := hu.set.form
  obtain ⟨a4, c4, rfl, _⟩ := hu.table.form
  obtain ⟨ac, cc, rfl, hcc⟩ := hc.form
  have CR := fun w' (hB : Below W.heap.size W w') => refused_any (hu.below hB) (hin.sm (by decide)) (hc.below hB) (by omega) true (by simp [hm]) 110 (by simp [bads_some ho])
  have CW := fun w' (hB : Below W.heap.size W w') => worldOf_any (hu.below hB) (hin.mono (by decide))
  have hT0 := Tq.new W (.cells #[.slice a0 x.cell.length c0, .slice a1 x.stack.length c1, .slice a2 x.queue.length c2, .slice a3 x.set.length c3, .slice a4 x.table.length c4] 41 (0, 0)) (.cells #[.slice none 0 0, .slice none 0 0, .slice none 0 0, .slice none 0 0, .slice none 0 0] 41 (0, 0))
  obtain ⟨y0, y1, y2, y3, y4, y5⟩ := ifs_cells hT0.2.1
  clear hu
  replace CR := Mr.hid CR
  replace CW := Mr.hid CW
  replace hT0 := Mr.hid hT0
  generalize cs.length = n at *
  clear hc
  go_enter Tryz.func22, Tryz.ntmps22
  go_upto_region 3 with (first | (go_at_call 36; refine (CR.out _ hT0.out.1).mono ?_; rintro e w1 ⟨rfl, hB1⟩; have hT1 := Mr.hid (hT0.out.below hB1); clear y0 y1 y2 y3 y4 y5; obtain ⟨y0, y1, y2, y3, y4, y5⟩ := ifs_cells hT1.out.2.1))
  clear y0 y1 y2 y3 y4 y5
  obtain ⟨r0, r1, r2, r3, r4, r5⟩ := ifs_cells hT1.out.2.2.1
  obtain ⟨f0, f1, f2, f3, f4⟩ := ifs_thaw hT1.out.2.2.1
  have m2 := set5_five (.slice none 0 0) (.slice none 0 0) (.slice none 0 0) (.slice none 0 0) (.slice none 0 0) hT1.out.2.2.1
  have m1 := set5_below (b := W.heap.size + 1) (.slice none 0 0) (.slice none 0 0) (.slice none 0 0) (.slice none 0 0) (.slice none 0 0) hT1.out.1 (by omega)
  obtain ⟨x0, x1, x2, x3, x4, x5⟩ := ifs_cells m2
  unfold set5 at x0 x1 x2 x3 x4 x5 m1
  replace m1 := Mr.hid m1
  clear m2
  go_wp2
  refine bodyPost_ret (v := .tuple #[.agg #[.slice none 0 0, .slice none 0 0, .slice none 0 0, .slice none 0 0, .slice none 0 0], .int .i64 0, .int .i64 110]) (by simp [results, Tryz.results22, go_sem, x0, x1, x2, x3, x4]) rfl ⟨_, _, _, _, _, _, rfl, ct0_own _ _, m1.out⟩
set_option maxRecDepth 100000 in
set_option maxHeartbeats 8000000 in
theorem pPlay_any {W : World} {S : Nat → Prop} {u0 u1 u2 u3 u4 : Value} {x : Ct} (hu : CtAt W S u0 u1 u2 u3 u4 x) {T : Nat → Prop} {uc : Value} {cs : List Cq} (hin : CtIn 140737488355328 x) (hc : Sl W T 9 uc cs.length (cqs cs)) (hsm : cs.length * 72 ≤ 140737488355328) (hm : May x) (ho : ∀ c ∈ cs, obj c.op ≠ 0) :
    Calls Tryz.prog 22 #[.agg #[u0, u1, u2, u3, u4], uc] W fun e w' => ∃ v0 v1 v2 v3 v4 lab, e = .returned (.tuple #[.agg #[v0, v1, v2, v3, v4], .int .i64 (plays x cs 0).2, .int .i64 0]) ∧ CtOwn w' W.heap.size lab v0 v1 v2 v3 v4 (plays x cs 0).1 ∧ Below W.heap.size W w' := by
  obtain ⟨a0, c0, rfl, _⟩ := hu.cell.form
  obtain ⟨a1, c1, rfl, _⟩ := hu.stack.form
  obtain ⟨a2, c2, rfl, _⟩ := hu.queue.form
  obtain ⟨a3, c3, rfl, _⟩ := hu.set.form
  obtain ⟨a4, c4, rfl, _⟩ := hu.table.form
  obtain ⟨ac, cc, rfl, hcc⟩ := hc.form
  have CR := fun w' (hB : Below W.heap.size W w') => refused_any (hu.below hB) (hin.sm (by decide)) (hc.below hB) (by omega) true (by simp [hm]) 0 (by simp [bads_all ho])
  have CW := fun w' (hB : Below W.heap.size W w') => worldOf_any (hu.below hB) (hin.mono (by decide))
  have hT0 := Tq.new W (.cells #[.slice a0 x.cell.length c0, .slice a1 x.stack.length c1, .slice a2 x.queue.length c2, .slice a3 x.set.length c3, .slice a4 x.table.length c4] 41 (0, 0)) (.cells #[.slice none 0 0, .slice none 0 0, .slice none 0 0, .slice none 0 0, .slice none 0 0] 41 (0, 0))
  obtain ⟨y0, y1, y2, y3, y4, y5⟩ := ifs_cells hT0.2.1
  clear hu
  replace CR := Mr.hid CR
  replace CW := Mr.hid CW
  replace hT0 := Mr.hid hT0
  obtain ⟨n, hn⟩ : ∃ n, n = cs.length := ⟨_, rfl⟩
  rw [← hn] at hc hcc hsm CR ⊢
  have LI : ∀ i, i ≤ n → CtIn 225000000000000 (lefts x cs i) := fun i hi => (lefts_in hin cs i).mono (by omega)
  have LM : ∀ i, i ≤ n → okTo x cs i → May (lefts x cs i) := fun i hi hok => may_left hm ho i (by omega) hok
  obtain ⟨PL, hPL⟩ : ∃ p, p = plays x cs 0 := ⟨_, rfl⟩
  rw [← hPL]
  replace hPL := Mr.hid hPL
  replace LI := Mr.hid LI
  replace LM := Mr.hid LM
  replace hn := Mr.hid hn
  replace hc := Mr.hid hc
  replace ho := Mr.hid ho
  go_enter Tryz.func22, Tryz.ntmps22
  go_upto_region 4 with (first | (go_at_call 36; refine (CR.out _ hT0.out.1).mono ?_; rintro e w1 ⟨rfl, hB1⟩; have hT1 := Mr.hid (hT0.out.below hB1); clear y0 y1 y2 y3 y4 y5; obtain ⟨y0, y1, y2, y3, y4, y5⟩ := ifs_cells hT1.out.2.1))
  go_upto_region 5 with (first | (go_at_call 37; refine (CW.out _ hT1.out.1).mono ?_; rintro e w2 ⟨g0, g1, g2, g3, g4, lab, rfl, hD, hB2⟩; unfold wdV))
  have hT2 := hT1.out.below hB2
  have hT3 := hT2.below ((Below.refl _ w2).alloc (Nat.le_refl _) (.cells #[.iface 79 (.pointer (some ⟨g0, 0, none⟩)), .iface 81 (.pointer (some ⟨g1, 0, none⟩)), .iface 83 (.pointer (some ⟨g2, 0, none⟩)), .iface 85 (.pointer (some ⟨g3, 0, none⟩)), .iface 87 (.pointer (some ⟨g4, 0, none⟩))] 67 (0, 0)))
  have hP3 := heap_alloc_new w2 (.cells #[.iface 79 (.pointer (some ⟨g0, 0, none⟩)), .iface 81 (.pointer (some ⟨g1, 0, none⟩)), .iface 83 (.pointer (some ⟨g2, 0, none⟩)), .iface 85 (.pointer (some ⟨g3, 0, none⟩)), .iface 87 (.pointer (some ⟨g4, 0, none⟩))] 67 (0, 0))
  have hD3 := hD.cut ((Below.refl _ w2).alloc (Nat.le_refl _) (.cells #[.iface 79 (.pointer (some ⟨g0, 0, none⟩)), .iface 81 (.pointer (some ⟨g1, 0, none⟩)), .iface 83 (.pointer (some ⟨g2, 0, none⟩)), .iface 85 (.pointer (some ⟨g3, 0, none⟩)), .iface 87 (.pointer (some ⟨g4, 0, none⟩))] 67 (0, 0)))
  have hs3 : w2.heap.size < (w2.alloc (.cells #[.iface 79 (.pointer (some ⟨g0, 0, none⟩)), .iface 81 (.pointer (some ⟨g1, 0, none⟩)), .iface 83 (.pointer (some ⟨g2, 0, none⟩)), .iface 85 (.pointer (some ⟨g3, 0, none⟩)), .iface 87 (.pointer (some ⟨g4, 0, none⟩))] 67 (0, 0))).heap.size := by simp
  have hs2 := hB2.size
  have hlt1 : Hid (W.heap.size + 1 < w1.heap.size) := hT1.out.2.2.2.1
  have hDl : Dl W (w2.alloc (.cells #[.iface 79 (.pointer (some ⟨g0, 0, none⟩)), .iface 81 (.pointer (some ⟨g1, 0, none⟩)), .iface 83 (.pointer (some ⟨g2, 0, none⟩)), .iface 85 (.pointer (some ⟨g3, 0, none⟩)), .iface 87 (.pointer (some ⟨g4, 0, none⟩))] 67 (0, 0))) w1.heap.size w2.heap.size g0 g1 g2 g3 g4 (lefts x cs 0) :=
    ⟨hT3.1, hT3.2.2.1, hP3, by omega, labr lab w2.heap.size, hD3, fun k h => Nat.lt_trans (labr_hi h) hs3, fun h => Nat.lt_irrefl _ (labr_hi h)⟩
  have hbW : Hid (w1.heap.size ≤ w2.heap.size) := hs2
  generalize w2.alloc (.cells #[.iface 79 (.pointer (some ⟨g0, 0, none⟩)), .iface 81 (.pointer (some ⟨g1, 0, none⟩)), .iface 83 (.pointer (some ⟨g2, 0, none⟩)), .iface 85 (.pointer (some ⟨g3, 0, none⟩)), .iface 87 (.pointer (some ⟨g4, 0, none⟩))] 67 (0, 0)) = w3 at *
  generalize w2.heap.size = bW at *
  clear y0 y1 y2 y3 y4 y5 hB2 hD hT2 hT3 hP3 hD3 hs3 hs2 hT0 hT1
  generalize w1.heap.size = BB at *
  replace hDl := Mr.hid hDl
  go_wp2
  go_loopg [22] n (fun k s wr => ∃ i : Nat, s = .int .i64 (i : Int) ∧ i + k = n ∧ okTo x cs i ∧ Dl W wr BB bW g0 g1 g2 g3 g4 (lefts x cs i))
  case atStart => exact ⟨0, rfl, by omega, fun j hj => by omega, hDl.out⟩
  case round =>
    clear hDl
    obtain ⟨i, rfl, hi, hok, hD⟩ := hrel
    obtain ⟨hBel, hR, hP, hBs, lab, hd, hhi, hbW5⟩ := hD
    have hRl := (Array.getElem?_eq_some_iff.1 hR).1
    have hPl := (Array.getElem?_eq_some_iff.1 hP).1
    by_cases hlt : i < n
    · obtain ⟨c, hci⟩ : ∃ c, cs[i]? = some c := ⟨cs[i]'(by have := hn.out; omega), List.getElem?_eq_getElem _⟩
      obtain ⟨bc, oc, cc', hcv, _, _, hcl, hcr⟩ := (hc.out.below hBel).there (by omega)
      cases hcv
      have hg := fun j (hj : j < 9) => cqs_get cs i c hci j hj
      have g_0 : wr.cell? ⟨bc, oc + i * 9, none⟩ = some (.int .i64 c.th) := hcr (i * 9 + 0) _ (hg 0 (by omega))
      have g_1 : wr.cell? ⟨bc, oc + i * 9 + 1, none⟩ = some (.int .i64 c.op) := hcr (i * 9 + 1) _ (hg 1 (by omega))
      have g_2 : wr.cell? ⟨bc, oc + i * 9 + 2, none⟩ = some (.int .i64 c.arg) := hcr (i * 9 + 2) _ (hg 2 (by omega))
      have g_3 : wr.cell? ⟨bc, oc + i * 9 + 3, none⟩ = some (.int .i64 c.data) := hcr (i * 9 + 3) _ (hg 3 (by omega))
      have g_4 : wr.cell? ⟨bc, oc + i * 9 + 4, none⟩ = some (.int .i64 c.beg) := hcr (i * 9 + 4) _ (hg 4 (by omega))
      have g_5 : wr.cell? ⟨bc, oc + i * 9 + 5, none⟩ = some (.int .i64 c.fin) := hcr (i * 9 + 5) _ (hg 5 (by omega))
      have g_6 : wr.cell? ⟨bc, oc + i * 9 + 6, none⟩ = some (.int .i64 c.pt) := hcr (i * 9 + 6) _ (hg 6 (by omega))
      have g_7 : wr.cell? ⟨bc, oc + i * 9 + 7, none⟩ = some (.int .i64 c.ak) := hcr (i * 9 + 7) _ (hg 7 (by omega))
      have g_8 : wr.cell? ⟨bc, oc + i * 9 + 8, none⟩ = some (.int .i64 c.av) := hcr (i * 9 + 8) _ (hg 8 (by omega))
      have hlI : (i : Int) < (n : Int) := by omega
      have BA := (Below.refl wr.heap.size wr).alloc (Nat.le_refl _) (.cells #[.int .i64 c.th, .int .i64 c.op, .int .i64 c.arg, .int .i64 c.data, .int .i64 c.beg, .int .i64 c.fin, .int .i64 c.pt, .int .i64 c.ak, .int .i64 c.av] 36 (0, 0))
      have CD := admit_any (hd.keep BA) (fun k hk => Nat.lt_of_lt_of_le (hhi k hk) BA.size) (Nat.le_trans hBs BA.size) (LI.out i (by omega)) (LM.out i (by omega) hok) c (ho.out c (List.mem_of_getElem? hci))
      have hP4 := old_at hP (.cells #[.int .i64 c.th, .int .i64 c.op, .int .i64 c.arg, .int .i64 c.data, .int .i64 c.beg, .int .i64 c.fin, .int .i64 c.pt, .int .i64 c.ak, .int .i64 c.av] 36 (0, 0))
      have hR4 := old_at hR (.cells #[.int .i64 c.th, .int .i64 c.op, .int .i64 c.arg, .int .i64 c.data, .int .i64 c.beg, .int .i64 c.fin, .int .i64 c.pt, .int .i64 c.ak, .int .i64 c.av] 36 (0, 0))
      have hBel4 := hBel.alloc hBel.size (.cells #[.int .i64 c.th, .int .i64 c.op, .int .i64 c.arg, .int .i64 c.data, .int .i64 c.beg, .int .i64 c.fin, .int .i64 c.pt, .int .i64 c.ak, .int .i64 c.av] 36 (0, 0))
      obtain ⟨z0, z1, z2, z3, z4, z5⟩ := ifs_cells hP4
      have hlow := Mr.hid hd.low
      have hY := hok.succ hci
      have hNo := plays_no hok hci
      have hL := adm_left (x := x) hci
      have hS := adm_same (x := lefts x cs i) (c := c)
      generalize (alw (lefts x cs i) c).2 = bb at *
      have hsz : wr.heap.size < (wr.alloc (.cells #[.int .i64 c.th, .int .i64 c.op, .int .i64 c.arg, .int .i64 c.data, .int .i64 c.beg, .int .i64 c.fin, .int .i64 c.pt, .int .i64 c.ak, .int .i64 c.av] 36 (0, 0))).heap.size := by simp
      obtain ⟨w4, hw4⟩ : ∃ w4, wr.alloc (.cells #[.int .i64 c.th, .int .i64 c.op, .int .i64 c.arg, .int .i64 c.data, .int .i64 c.beg, .int .i64 c.fin, .int .i64 c.pt, .int .i64 c.ak, .int .i64 c.av] 36 (0, 0)) = w4 := ⟨_, rfl⟩
      rw [hw4] at CD hP4 hR4 hBel4 z0 z1 z2 z3 z4 z5 hsz
      replace hw4 := Mr.hid hw4
      have hbcl : bc < wr.heap.size := hcl
      clear hg hcr BA hd
      replace hok := Mr.hid hok
      replace CD := Mr.hid CD
      replace hY := Mr.hid hY
      replace hNo := Mr.hid hNo
      replace hL := Mr.hid hL
      replace hS := Mr.hid hS
      replace hP4 := Mr.hid hP4
      replace hR4 := Mr.hid hR4
      replace hBel4 := Mr.hid hBel4
      replace hP := Mr.hid hP
      replace hR := Mr.hid hR
      replace hBel := Mr.hid hBel
      have hQ := heap_alloc_new wr (.cells #[.int .i64 c.th, .int .i64 c.op, .int .i64 c.arg, .int .i64 c.data, .int .i64 c.beg, .int .i64 c.fin, .int .i64 c.pt, .int .i64 c.ak, .int .i64 c.av] 36 (0, 0))
      rw [hw4.out] at hQ
      obtain ⟨q0, q1, q2, q3, q4, q5, q6, q7, q8, q9⟩ := nines hQ
      clear hQ
      go_upto_region 8 with (fail)
      rw [hw4.out]
      clear g_0 g_1 g_2 g_3 g_4 g_5 g_6 g_7 g_8
      cases bb with
      | true =>
        go_wp2_with (first | (go_at_call 38; refine CD.out.mono ?_; rintro e w5 ⟨rfl, lab5, hD5, hi5, hF5⟩))
        have hD6 : Dl W w5 BB bW g0 g1 g2 g3 g4 (lefts x cs (i + 1)) := by
          rw [hL.out (by simp)] at hD5
          have hs5 := hF5.size
          refine ⟨hBel4.out.trans (hF5.below (n := W.heap.size) (fun k e => by have := hlow.out k e; have := hlt1.out; omega) hBel4.out.size), (hF5.block _ (by omega) (fun e => by have := hlow.out _ e; have := hlt1.out; omega)).trans hR4.out, (hF5.block _ (by omega) hbW5).trans hP4.out, by omega, lab5, hD5, fun k hk => (hi5 k hk).1, fun h => hbW5 ((hi5 bW h).2 (by omega))⟩
        go_roundg (gk - 1)
        case measure => omega
        case rel => exact ⟨i + 1, by simp, by omega, hY.out (by simp), hD6⟩
      | false =>
        have hNo2 := hNo.out (by simp)
        rw [← hPL.out] at hNo2
        replace hNo2 := Mr.hid hNo2
        have hIn2 := (LI.out i (by omega)).mono (B' := 225100000000000) (by decide)
        go_upto_region 9 with (first | (go_at_call 38; refine CD.out.mono ?_; rintro e w5 ⟨rfl, lab5, hD5, hi5, hF5⟩))
        rw [hS.out (by simp)] at hD5
        have hP5 := (hF5.block bW (by omega) hbW5).trans hP4.out
        have hR5 := (hF5.block (W.heap.size + 1) (by omega) (fun e => by have := hlow.out _ e; have := hlt1.out; omega)).trans hR4.out
        have hRl5 := (Array.getElem?_eq_some_iff.1 hR5).1
        have hBel5 := hBel4.out.trans (hF5.below (n := W.heap.size) (fun k e => by have := hlow.out k e; have := hlt1.out; omega) hBel4.out.size)
        have hs5 := hF5.size
        have CC := contents_any hD5 (by omega) hIn2
        clear z0 z1 z2 z3 z4 z5 q0 q1 q2 q3 q4 q5 q6 q7 q8 q9 hD5 hi5 hF5 CD hL hS hY hNo LI LM hok
        generalize lefts x cs i = Y at *
        obtain ⟨z0, z1, z2, z3, z4, z5⟩ := ifs_cells hP5
        have KE := Mr.hid (fun w8 (hB : Below w5.heap.size w5 w8) (v0 v1 v2 v3 v4 : Value) => (⟨set5_five v0 v1 v2 v3 v4 ((hB.block _ hRl5).trans hR5), set5_below (b := W.heap.size + 1) v0 v1 v2 v3 v4 (hBel5.trans (hB.mono hBel5.size)) (by omega), ifs_cells ((hB.block _ hRl5).trans hR5), ifs_thaw ((hB.block _ hRl5).trans hR5)⟩ : _ ∧ _ ∧ _ ∧ _))
        unfold wdV at CC
        replace CC := Mr.hid CC
        replace hBel5 := Mr.hid hBel5
        clear hP5 hR5
        go_wp2_with (first | (go_at_call 39; refine CC.out.mono ?_; rintro e w8 ⟨v0, v1, v2, v3, v4, lab8, rfl, hO8, hB8⟩; obtain ⟨m2, m1, ⟨r0, r1, r2, r3, r4, r5⟩, ⟨f0, f1, f2, f3, f4⟩⟩ := KE.out w8 hB8 v0 v1 v2 v3 v4; obtain ⟨d0, b0, rfl, _, _⟩ := hO8.cell.form; obtain ⟨d1, b1, rfl, _, _⟩ := hO8.stack.form; obtain ⟨d2, b2, rfl, _, _⟩ := hO8.queue.form; obtain ⟨d3, b3, rfl, _, _⟩ := hO8.set.form; obtain ⟨d4, b4, rfl, _, _⟩ := hO8.table.form; obtain ⟨x0, x1, x2, x3, x4, x5⟩ := ifs_cells m2; unfold set5 at x0 x1 x2 x3 x4 x5 m1; replace m1 := Mr.hid m1; replace hO8 := Mr.hid hO8; clear m2))
        have hO9 := hO8.out.kept (W' := set5 w8 (W.heap.size + 1) (.slice d0 Y.cell.length b0) (.slice d1 Y.stack.length b1) (.slice d2 Y.queue.length b2) (.slice d3 Y.set.length b3) (.slice d4 Y.table.length b4)) (B' := W.heap.size) (fun k hk hl => set5_far w8 (W.heap.size + 1) _ _ _ _ _ k (by have := hlt1.out; omega)) (by have := hlt1.out; omega)
        unfold set5 at hO9
        refine bodyPost_ret (v := .tuple #[.agg #[.slice d0 Y.cell.length b0, .slice d1 Y.stack.length b1, .slice d2 Y.queue.length b2, .slice d3 Y.set.length b3, .slice d4 Y.table.length b4], .int .i64 ((i : Nat) : Int), .int .i64 0]) (by simp [results, Tryz.results22, go_sem, x0, x1, x2, x3, x4]) rfl ⟨.slice d0 Y.cell.length b0, .slice d1 Y.stack.length b1, .slice d2 Y.queue.length b2, .slice d3 Y.set.length b3, .slice d4 Y.table.length b4, lab8, by rw [hNo2.out], by rw [hNo2.out]; exact hO9, m1.out⟩
    · have hle : i = n := by omega
      subst hle
      have hEnd := plays_end (x := x) (cs := cs) (by have := hn.out; rw [← this]; exact hok)
      rw [show cs.length = i from hn.out.symm] at hEnd
      have hIn2 := (LI.out i (by omega)).mono (B' := 225100000000000) (by decide)
      have dl : decide ((i : Int) < (i : Int)) = false := by simp
      have CC := contents_any hd hBs hIn2
      have hP5 := hP
      have hR5 := hR
      have hRl5 := hRl
      have hBel5 := hBel
      rw [← hPL.out] at hEnd
      have hNo2 := Mr.hid hEnd
      clear hd hP hR hEnd hok LM LI hIn2
      generalize lefts x cs i = Y at *
      obtain ⟨z0, z1, z2, z3, z4, z5⟩ := ifs_cells hP5
      have KE := Mr.hid (fun w8 (hB : Below wr.heap.size wr w8) (v0 v1 v2 v3 v4 : Value) => (⟨set5_five v0 v1 v2 v3 v4 ((hB.block _ hRl5).trans hR5), set5_below (b := W.heap.size + 1) v0 v1 v2 v3 v4 (hBel5.trans (hB.mono hBel5.size)) (by omega), ifs_cells ((hB.block _ hRl5).trans hR5), ifs_thaw ((hB.block _ hRl5).trans hR5)⟩ : _ ∧ _ ∧ _ ∧ _))
      unfold wdV at CC
      replace CC := Mr.hid CC
      replace hBel5 := Mr.hid hBel5
      clear hP5 hR5
      go_wp2_with (first | (go_at_call 39; refine CC.out.mono ?_; rintro e w8 ⟨v0, v1, v2, v3, v4, lab8, rfl, hO8, hB8⟩; obtain ⟨m2, m1, ⟨r0, r1, r2, r3, r4, r5⟩, ⟨f0, f1, f2, f3, f4⟩⟩ := KE.out w8 hB8 v0 v1 v2 v3 v4; obtain ⟨d0, b0, rfl, _, _⟩ := hO8.cell.form; obtain ⟨d1, b1, rfl, _, _⟩ := hO8.stack.form; obtain ⟨d2, b2, rfl, _, _⟩ := hO8.queue.form; obtain ⟨d3, b3, rfl, _, _⟩ := hO8.set.form; obtain ⟨d4, b4, rfl, _, _⟩ := hO8.table.form; obtain ⟨x0, x1, x2, x3, x4, x5⟩ := ifs_cells m2; unfold set5 at x0 x1 x2 x3 x4 x5 m1; replace m1 := Mr.hid m1; replace hO8 := Mr.hid hO8; clear m2))
      have hO9 := hO8.out.kept (W' := set5 w8 (W.heap.size + 1) (.slice d0 Y.cell.length b0) (.slice d1 Y.stack.length b1) (.slice d2 Y.queue.length b2) (.slice d3 Y.set.length b3) (.slice d4 Y.table.length b4)) (B' := W.heap.size) (fun k hk hl => set5_far w8 (W.heap.size + 1) _ _ _ _ _ k (by have := hlt1.out; omega)) (by have := hlt1.out; omega)
      unfold set5 at hO9
      refine bodyPost_ret (v := .tuple #[.agg #[.slice d0 Y.cell.length b0, .slice d1 Y.stack.length b1, .slice d2 Y.queue.length b2, .slice d3 Y.set.length b3, .slice d4 Y.table.length b4], .int .i64 (-1 : Int), .int .i64 0]) (by simp [results, Tryz.results22, go_sem, x0, x1, x2, x3, x4]) rfl ⟨.slice d0 Y.cell.length b0, .slice d1 Y.stack.length b1, .slice d2 Y.queue.length b2, .slice d3 Y.set.length b3, .slice d4 Y.table.length b4, lab8, by rw [hNo2.out], by rw [hNo2.out]; exact hO9, m1.out⟩
theorem mPlay_any {W : World} {S : Nat → Prop} {u0 u1 u2 u3 u4 : Value} {x : Ct} (hu : CtAt W S u0 u1 u2 u3 u4 x) {T : Nat → Prop} {uc : Value} {cs : List Cq} (hin : CtIn 140737488355328 x) (hc : Sl W T 9 uc cs.length (cqs cs)) (hsm : cs.length * 72 ≤ 140737488355328) (hm : May x) (ho : ∀ c ∈ cs, obj c.op ≠ 0) :
    Calls Tryz.prog 22 #[.agg #[u0, u1, u2, u3, u4], uc] W fun e w' => ∃ v0 v1 v2 v3 v4, e = .returned (.tuple #[.agg #[v0, v1, v2, v3, v4], .int .i64 (plays x cs 0).2, .int .i64 0]) ∧ CtAt w' (fun k => W.heap.size ≤ k) v0 v1 v2 v3 v4 (plays x cs 0).1 ∧ Below W.heap.size W w' :=
  (pPlay_any hu hin hc hsm hm ho).mono (by rintro e w' ⟨v0, v1, v2, v3, v4, lab, rfl, h, hB⟩; exact ⟨v0, v1, v2, v3, v4, rfl, h.at, hB⟩)
theorem mPlay_ill {W : World} {S : Nat → Prop} {u0 u1 u2 u3 u4 : Value} {x : Ct} (hu : CtAt W S u0 u1 u2 u3 u4 x) {T : Nat → Prop} {uc : Value} {cs : List Cq} (hin : CtIn 140737488355328 x) (hc : Sl W T 9 uc cs.length (cqs cs)) (hsm : cs.length * 72 ≤ 140737488355328) (hm : May x) (ho : ∃ c ∈ cs, obj c.op = 0) :
    Calls Tryz.prog 22 #[.agg #[u0, u1, u2, u3, u4], uc] W fun e w' => ∃ v0 v1 v2 v3 v4, e = .returned (.tuple #[.agg #[v0, v1, v2, v3, v4], .int .i64 0, .int .i64 110]) ∧ CtAt w' (fun k => W.heap.size ≤ k) v0 v1 v2 v3 v4 ct0 ∧ Below W.heap.size W w' :=
  (pPlay_ill hu hin hc hsm hm ho).mono (by rintro e w' ⟨v0, v1, v2, v3, v4, lab, rfl, h, hB⟩; exact ⟨v0, v1, v2, v3, v4, rfl, h.at, hB⟩)
theorem mPlay_state {W : World} {S : Nat → Prop} {u0 u1 u2 u3 u4 : Value} {x : Ct} (hu : CtAt W S u0 u1 u2 u3 u4 x) {T : Nat → Prop} {uc : Value} {cs : List Cq} (hin : CtIn 140737488355328 x) (hc : Sl W T 9 uc cs.length (cqs cs)) (hsm : cs.length * 72 ≤ 140737488355328) (hm : ¬ May x) :
    Calls Tryz.prog 22 #[.agg #[u0, u1, u2, u3, u4], uc] W fun e w' => ∃ v0 v1 v2 v3 v4, e = .returned (.tuple #[.agg #[v0, v1, v2, v3, v4], .int .i64 0, .int .i64 111]) ∧ CtAt w' (fun k => W.heap.size ≤ k) v0 v1 v2 v3 v4 ct0 ∧ Below W.heap.size W w' :=
  (pPlay_state hu hin hc hsm hm).mono (by rintro e w' ⟨v0, v1, v2, v3, v4, lab, rfl, h, hB⟩; exact ⟨v0, v1, v2, v3, v4, rfl, h.at, hB⟩)
end Go.Proofs.YtfgnaffomglmdaaGreat.Md
/-
  WITNESS: Left and Check.
-/
namespace Go.Proofs.YtfgnaffomglmdaaGreat.Wt
open Go.RowKit Mr Md
set_option linter.unusedVariables false
set_option linter.unusedSimpArgs false
set_option maxRecDepth 100000
/-- What Check and Left tell. -/
inductive Rs (cs : List Cq) (o : List Int) : Int → Ct → Prop
  | calls : ¬ MayC cs → Rs cs o 120 ct0
  | order : MayC cs → ¬ IsOrd cs o → Rs cs o 121 ct0
  | early : MayC cs → IsOrd cs o → ¬ InT (ordc cs o) (ordc cs o).length → Rs cs o 122 ct0
  | answer : MayC cs → IsOrd cs o → InT (ordc cs o) (ordc cs o).length → ¬ okTo ct0 (ordc cs o) o.length → Rs cs o 123 ct0
  | ok : MayC cs → IsOrd cs o → InT (ordc cs o) (ordc cs o).length → okTo ct0 (ordc cs o) o.length → Rs cs o 0 (lefts ct0 (ordc cs o) o.length)
theorem Rs.ex (cs : List Cq) (o : List Int) : ∃ code x, Rs cs o code x := by
  by_cases h1 : MayC cs
  · by_cases h2 : IsOrd cs o
    · by_cases h3 : InT (ordc cs o) (ordc cs o).length
      · by_cases h4 : okTo ct0 (ordc cs o) o.length
        · exact ⟨_, _, .ok h1 h2 h3 h4⟩
        · exact ⟨_, _, .answer h1 h2 h3 h4⟩
      · exact ⟨_, _, .early h1 h2 h3⟩
    · exact ⟨_, _, .order h1 h2⟩
  · exact ⟨_, _, .calls h1⟩
theorem bad_first {x : Ct} {cs : List Cq} : ∀ {n : Nat}, ¬ okTo x cs n → ∃ i c, i < n ∧ okTo x cs i ∧ cs[i]? = some c ∧ (alw (lefts x cs i) c).2 = false := by
  intro n
  induction n with
  | zero => intro h; exact absurd (fun j hj => by omega) h
  | succ n ih =>
    intro h
    by_cases h1 : okTo x cs n
    · cases hc : cs[n]? with
      | none => exact absurd (fun j hj c hc' => by
          by_cases e : j < n
          · exact h1 j e c hc'
          · have : j = n := by omega
            subst this; rw [hc] at hc'; cases hc') h
      | some c =>
        cases hq : (alw (lefts x cs n) c).2 with
        | false => exact ⟨n, c, by omega, h1, hc, hq⟩
        | true => exact absurd (h1.succ hc hq) h
    · obtain ⟨i, c, hi, r⟩ := ih h1
      exact ⟨i, c, by omega, r⟩
theorem fit_ordc {cs : List Cq} {o : List Int} (hm : MayC cs) (hO : IsOrd cs o) : ∀ c ∈ ordc cs o, Fit c := by
  intro c hc
  obtain ⟨k, hk⟩ := List.getElem?_of_mem hc
  have hl := (List.getElem?_eq_some_iff.1 hk).1
  rw [ordc_len] at hl
  obtain ⟨j, d, hx, hd, _⟩ := hO.at (List.getElem?_eq_getElem hl)
  have := ordc_get (hx ▸ List.getElem?_eq_getElem hl) hd
  rw [hk] at this; cases this
  exact hm.1.fit (List.getElem?_eq_some_iff.1 hd).1 hd
theorem may_ct0 : Md.May ct0 := ⟨by simp [ct0], (fun i hi => by simp [ct0] at hi), (fun i hi => by simp [ct0] at hi)⟩
/-- The result's box. -/
structure Rb (W w : World) : Prop where
  bel : Below W.heap.size W w
  res : w.heap[W.heap.size]? = some (ctO (.slice none 0 0) (.slice none 0 0) (.slice none 0 0) (.slice none 0 0) (.slice none 0 0))
theorem Rb.below {W w w' : World} (h : Rb W w) (hB : Below w.heap.size w w') : Rb W w' := ⟨h.bel.trans (hB.mono h.bel.size), (hB.block _ (Array.getElem?_eq_some_iff.1 h.res).1).trans h.res⟩
section
variable {W : World} {T T' : Nat → Prop} {v u : Value} {cs : List Cq} {o : List Int}
set_option maxHeartbeats 16000000 in
theorem left_calls (hv : Sl W T 9 v cs.length (cqs cs)) (hu : Sl W T' 1 u o.length (ints o)) (hsm : cs.length * 72 ≤ 140737488355328) (hm : ¬ MayC cs) :
    Calls Tryz.prog 11 #[v, u] W fun e w' => ∃ v0 v1 v2 v3 v4, e = .returned (.tuple #[.agg #[v0, v1, v2, v3, v4], .int .i64 120]) ∧ CtAt w' (fun k => W.heap.size ≤ k) v0 v1 v2 v3 v4 ct0 ∧ Below W.heap.size W w' := by
  have PM := fun w' (hB : Below W.heap.size W w') => may_any (hv.below hB) (by omega)
  rw [mayB_false hm] at PM
  obtain ⟨a, cap, rfl, hcap⟩ := hv.form
  obtain ⟨au, cu, rfl, hcu⟩ := hu.form
  have R0 : ∀ w1, w1 = W.alloc (ctO (.slice none 0 0) (.slice none 0 0) (.slice none 0 0) (.slice none 0 0) (.slice none 0 0)) → Rb W w1 := by
    rintro w1 rfl
    exact ⟨(Below.refl _ _).alloc (Nat.le_refl _) _, new_at _ _ _ rfl⟩
  unfold ctO at R0
  replace R0 := Mr.hid R0
  generalize cs.length = n at *
  generalize o.length = m at *
  replace PM := Mr.hid PM
  clear hv hu hm hsm
  go_enter Tryz.func11, Tryz.ntmps11
  go_wp2_with (go_at_call 19; refine (PM.out _ (R0.out _ rfl).bel).mono ?_; clear PM; rintro e w2 ⟨rfl, hB2⟩; have hR := (R0.out _ rfl).below hB2; clear R0 hB2; obtain ⟨e1, e2, e3⟩ := end5a (v0 := (.slice none 0 0)) (v1 := (.slice none 0 0)) (v2 := (.slice none 0 0)) (v3 := (.slice none 0 0)) (v4 := (.slice none 0 0)) hR.bel (b := W.heap.size) (Nat.le_refl _) hR.res (ct0_at _ (fun k => W.heap.size + 1 ≤ k)) (fun k hk => by omega); obtain ⟨r0, r1, r2, r3, r4, rl⟩ := ctO_cells hR.res; obtain ⟨f0, f1, f2, f3, f4⟩ := ctO_thaw hR.res; obtain ⟨d0, d1, d2, d3, d4, -⟩ := ctO_cells e3; unfold set5 at e1 e2 d0 d1 d2 d3 d4; replace e1 := Mr.hid e1; replace e2 := Mr.hid e2; clear e3; replace d0 := Mr.hid d0; replace d1 := Mr.hid d1; replace d2 := Mr.hid d2; replace d3 := Mr.hid d3; replace d4 := Mr.hid d4)
  replace d0 := d0.out
  replace d1 := d1.out
  replace d2 := d2.out
  replace d3 := d3.out
  replace d4 := d4.out
  refine bodyPost_ret (v := .tuple #[.agg #[.slice none 0 0, .slice none 0 0, .slice none 0 0, .slice none 0 0, .slice none 0 0], .int .i64 120]) (by simp [results, Tryz.results11, go_sem, d0, d1, d2, d3, d4]) rfl ?_
  exact ⟨_, _, _, _, _, rfl, e1.out, e2.out⟩
set_option maxHeartbeats 16000000 in
theorem left_order (hv : Sl W T 9 v cs.length (cqs cs)) (hu : Sl W T' 1 u o.length (ints o)) (hsm : cs.length * 72 ≤ 140737488355328) (hso : o.length * 8 ≤ 281474976710656) (hm : MayC cs) (hO : ¬ IsOrd cs o) :
    Calls Tryz.prog 11 #[v, u] W fun e w' => ∃ v0 v1 v2 v3 v4, e = .returned (.tuple #[.agg #[v0, v1, v2, v3, v4], .int .i64 121]) ∧ CtAt w' (fun k => W.heap.size ≤ k) v0 v1 v2 v3 v4 ct0 ∧ Below W.heap.size W w' := by
  have PM := fun w' (hB : Below W.heap.size W w') => may_any (hv.below hB) (by omega)
  rw [mayB_true hm] at PM
  have IQ := fun w' (hB : Below W.heap.size W w') => isOrder_any (hv.below hB) (hu.below hB) (by omega) hso false (by simp [hO])
  obtain ⟨a, cap, rfl, hcap⟩ := hv.form
  obtain ⟨au, cu, rfl, hcu⟩ := hu.form
  have R0 : ∀ w1, w1 = W.alloc (ctO (.slice none 0 0) (.slice none 0 0) (.slice none 0 0) (.slice none 0 0) (.slice none 0 0)) → Rb W w1 := by
    rintro w1 rfl
    exact ⟨(Below.refl _ _).alloc (Nat.le_refl _) _, new_at _ _ _ rfl⟩
  unfold ctO at R0
  replace R0 := Mr.hid R0
  generalize cs.length = n at *
  generalize o.length = m at *
  replace PM := Mr.hid PM
  replace IQ := Mr.hid IQ
  clear hv hu hm hsm hO hso
  go_enter Tryz.func11, Tryz.ntmps11
  go_wp2_with (first
    | (go_at_call 19; refine (PM.out _ (R0.out _ rfl).bel).mono ?_; clear PM; rintro e w2 ⟨rfl, hB2⟩; have hR := (R0.out _ rfl).below hB2; clear R0 hB2; replace hR := Mr.hid hR)
    | (go_at_call 20; refine (IQ.out _ hR.out.bel).mono ?_; clear IQ; rintro e w3 ⟨rfl, hB3⟩; replace hR := hR.out.below hB3; clear hB3; obtain ⟨e1, e2, e3⟩ := end5a (v0 := (.slice none 0 0)) (v1 := (.slice none 0 0)) (v2 := (.slice none 0 0)) (v3 := (.slice none 0 0)) (v4 := (.slice none 0 0)) hR.bel (b := W.heap.size) (Nat.le_refl _) hR.res (ct0_at _ (fun k => W.heap.size + 1 ≤ k)) (fun k hk => by omega); obtain ⟨r0, r1, r2, r3, r4, rl⟩ := ctO_cells hR.res; obtain ⟨f0, f1, f2, f3, f4⟩ := ctO_thaw hR.res; obtain ⟨d0, d1, d2, d3, d4, -⟩ := ctO_cells e3; unfold set5 at e1 e2 d0 d1 d2 d3 d4; replace e1 := Mr.hid e1; replace e2 := Mr.hid e2; clear e3; replace d0 := Mr.hid d0; replace d1 := Mr.hid d1; replace d2 := Mr.hid d2; replace d3 := Mr.hid d3; replace d4 := Mr.hid d4))
  replace d0 := d0.out
  replace d1 := d1.out
  replace d2 := d2.out
  replace d3 := d3.out
  replace d4 := d4.out
  refine bodyPost_ret (v := .tuple #[.agg #[.slice none 0 0, .slice none 0 0, .slice none 0 0, .slice none 0 0, .slice none 0 0], .int .i64 121]) (by simp [results, Tryz.results11, go_sem, d0, d1, d2, d3, d4]) rfl ?_
  exact ⟨_, _, _, _, _, rfl, e1.out, e2.out⟩
theorem far_set9 (w : World) (b o : Nat) (c : Cq) {k : Nat} (hk : b ≠ k) : (((((((((w.setCell ⟨b, o, none⟩ (.int .i64 c.th)).setCell ⟨b, o + 1, none⟩ (.int .i64 c.op)).setCell ⟨b, o + 2, none⟩ (.int .i64 c.arg)).setCell ⟨b, o + 3, none⟩ (.int .i64 c.data)).setCell ⟨b, o + 4, none⟩ (.int .i64 c.beg)).setCell ⟨b, o + 5, none⟩ (.int .i64 c.fin)).setCell ⟨b, o + 6, none⟩ (.int .i64 c.pt)).setCell ⟨b, o + 7, none⟩ (.int .i64 c.ak)).setCell ⟨b, o + 8, none⟩ (.int .i64 c.av)).heap[k]? = w.heap[k]? := by
  have e : ∀ (w : World) (q : Nat) (v : Value), (w.setCell ⟨b, q, none⟩ v).heap[k]? = w.heap[k]? := fun w q v => by
    have := ((Fr.refl w (fun q => q = b)).setCell ⟨b, q, none⟩ v (Or.inl rfl))
    by_cases hl : k < w.heap.size
    · exact this.block k hl (fun h => hk h.symm)
    · simp [World.setCell, Array.getElem?_modify, hk]
  rw [e, e, e, e, e, e, e, e, e]
set_option maxHeartbeats 16000000 in
theorem left_early (hv : Sl W T 9 v cs.length (cqs cs)) (hu : Sl W T' 1 u o.length (ints o)) (hsm : cs.length * 72 ≤ 140737488355328) (hso : o.length * 8 ≤ 281474976710656) (hm : MayC cs) (hO : IsOrd cs o) (hT : ¬ InT (ordc cs o) (ordc cs o).length) :
    Calls Tryz.prog 11 #[v, u] W fun e w' => ∃ v0 v1 v2 v3 v4, e = .returned (.tuple #[.agg #[v0, v1, v2, v3, v4], .int .i64 122]) ∧ CtAt w' (fun k => W.heap.size ≤ k) v0 v1 v2 v3 v4 ct0 ∧ Below W.heap.size W w' := by
  have PM := fun w' (hB : Below W.heap.size W w') => may_any (hv.below hB) (by omega)
  rw [mayB_true hm] at PM
  have IQ := fun w' (hB : Below W.heap.size W w') => isOrder_any (hv.below hB) (hu.below hB) (by omega) hso true (by simp [hO])
  obtain ⟨a, cap, rfl, hcap⟩ := hv.form
  obtain ⟨au, cu, rfl, hcu⟩ := hu.form
  have R0 : ∀ w1, w1 = W.alloc (ctO (.slice none 0 0) (.slice none 0 0) (.slice none 0 0) (.slice none 0 0) (.slice none 0 0)) → Rb W w1 := by
    rintro w1 rfl
    exact ⟨(Below.refl _ _).alloc (Nat.le_refl _) _, new_at _ _ _ rfl⟩
  unfold ctO at R0
  replace R0 := Mr.hid R0
  have hol := hO.len
  have hfo := fit_ordc hm hO
  have hobj := hO.obj
  obtain ⟨os, hos⟩ : ∃ os, os = ordc cs o := ⟨_, rfl⟩
  have hosl : os.length = o.length := by rw [hos, ordc_len]
  rw [← hos] at hT hfo hobj
  obtain ⟨n, hn⟩ : ∃ n, n = cs.length := ⟨_, rfl⟩
  obtain ⟨m, hm1⟩ : ∃ m, m = o.length := ⟨_, rfl⟩
  rw [← hn, ← hm1]
  rw [← hn] at hsm hol PM IQ
  rw [← hm1] at hso hu hcu hol hosl IQ
  have hmk := fun w => makeC w os (by rw [hosl]; omega)
  rw [hosl] at hmk
  replace hn := Mr.hid hn
  replace hm1 := Mr.hid hm1
  replace hosl := Mr.hid hosl
  replace hos := Mr.hid hos
  replace hv := Mr.hid hv
  replace hu := Mr.hid hu
  replace PM := Mr.hid PM
  replace IQ := Mr.hid IQ
  replace hO := Mr.hid hO
  replace hm := Mr.hid hm
  replace hfo := Mr.hid hfo
  replace hobj := Mr.hid hobj
  replace hT := Mr.hid hT
  clear hcap hcu
  go_enter Tryz.func11, Tryz.ntmps11
  go_upto_region 6 with (first
    | (go_at_call 19; refine (PM.out _ (R0.out _ rfl).bel).mono ?_; clear PM; rintro e w2 ⟨rfl, hB2⟩; have hR := (R0.out _ rfl).below hB2; clear R0 hB2; replace hR := Mr.hid hR)
    | (go_at_call 20; refine (IQ.out _ hR.out.bel).mono ?_; clear IQ; rintro e w3 ⟨rfl, hB3⟩; replace hR := hR.out.below hB3; clear hB3; replace hR := Mr.hid hR))
  have hL : Lb W (w3.alloc (.cells (cqs (lay os 0)).toArray 36 (0, 0))) w3.heap.size os 0 := ⟨hR.out.bel.alloc hR.out.bel.size _, hR.out.bel.size, new_at _ _ _ rfl⟩
  have hR4 := hR.out.below ((Below.refl w3.heap.size w3).alloc (Nat.le_refl _) (.cells (cqs (lay os 0)).toArray 36 (0, 0)))
  have hbn : w3.heap.size ≠ W.heap.size := by have := (Array.getElem?_eq_some_iff.1 hR.out.res).1; omega
  clear hR hmk
  generalize (w3.alloc (.cells (cqs (lay os 0)).toArray 36 (0, 0))) = w4 at *
  generalize w3.heap.size = bl at *
  replace hL := Mr.hid hL
  replace hR := Mr.hid hR4
  clear hR4
  go_wp2
  go_loopg [28] m (fun q s28 wr => ∃ k : Nat, s28 = .int .i64 (k : Int) ∧ k + q = m ∧ Lb W wr bl os k ∧ Rb W wr)
  case atStart => exact ⟨0, rfl, by omega, hL.out, hR.out⟩
  case round =>
    clear hL hR
    obtain ⟨k, rfl, hk, hL, hR⟩ := hrel
    by_cases hlt : k < m
    · obtain ⟨y, hy⟩ : ∃ y, o[k]? = some y := ⟨o[k]'(by have := hm1.out; omega), List.getElem?_eq_getElem _⟩
      obtain ⟨j, c, rfl, hcj, _⟩ := hO.out.at hy
      have hck : os[k]? = some c := by rw [hos.out]; exact ordc_get hy hcj
      have hjn : j < n := by rw [hn.out]; exact (List.getElem?_eq_some_iff.1 hcj).1
      obtain ⟨bc, oc, rfl, A9⟩ := call_at (hv.out.below hL.bel) hcj
      obtain ⟨hcl, g0, g1, g2, g3, g4, g5, g6, g7, g8⟩ := A9
      obtain ⟨bo, oo, c1, e1, _, _, hol2, r1⟩ := (hu.out.below hL.bel).there (by omega)
      cases e1
      have ko := r1 k _ (by rw [ints, List.getElem?_map, hy]; rfl)
      obtain ⟨⟨hll, q0, q1, q2, q3, q4, q5, q6, q7, q8⟩, fz⟩ := hL.get (by have := hosl.out; omega)
      have f0 := fz 0 (by omega)
      have f1 := fz 1 (by omega)
      have f2 := fz 2 (by omega)
      have f3 := fz 3 (by omega)
      have f4 := fz 4 (by omega)
      have f5 := fz 5 (by omega)
      have f6 := fz 6 (by omega)
      have f7 := fz 7 (by omega)
      have f8 := fz 8 (by omega)
      rw [Nat.add_zero] at f0
      have hjI : (j : Int) < (n : Int) := by omega
      have hlI : (k : Int) < (m : Int) := by omega
      have hw1 : IntKind.i64.wrap ((k : Int) + 1) = (k : Int) + 1 := i64x _ (by omega) (by omega)
      have hLn := hL.next hck
      have hRn : Rb W (put9 wr bl (k * 9) c) := ⟨hLn.bel, by unfold put9; rw [far_set9 _ _ _ _ hbn]; exact hR.res⟩
      unfold put9 at hLn hRn
      clear r1 fz
      replace hLn := Mr.hid hLn
      replace hRn := Mr.hid hRn
      replace hL := Mr.hid hL
      replace hR := Mr.hid hR
      replace hck := Mr.hid hck
      replace hcj := Mr.hid hcj
      replace hy := Mr.hid hy
      go_wp2
      go_roundg (gk - 1)
      case measure => omega
      case rel => exact ⟨k + 1, by simp, by omega, hLn.out, hRn.out⟩
    · have hkm : k = os.length := by have := hosl.out; omega
      rw [hkm] at hL
      clear hkm
      have dl : decide ((k : Int) < (m : Int)) = false := decide_eq_false (by omega)
      have hS := hL.sl
      rw [hosl.out] at hS
      have IT := inTime_any hL.sl (by rw [hosl.out]; omega) hfo.out false (by simp [hT.out])
      rw [hosl.out] at IT
      replace IT := Mr.hid IT
      replace hS := Mr.hid hS
      replace hL := Mr.hid hL
      go_wp2_with (go_at_call 21; refine IT.out.mono ?_; clear IT; rintro e w5 ⟨rfl, hB5⟩; replace hR := hR.below hB5; have hS5 := Mr.hid (hS.out.below hB5); clear hB5; obtain ⟨e1, e2, e3⟩ := end5a (v0 := (.slice none 0 0)) (v1 := (.slice none 0 0)) (v2 := (.slice none 0 0)) (v3 := (.slice none 0 0)) (v4 := (.slice none 0 0)) hR.bel (b := W.heap.size) (Nat.le_refl _) hR.res (ct0_at _ (fun k => W.heap.size + 1 ≤ k)) (fun k hk => by omega); obtain ⟨r0, r1, r2, r3, r4, rl⟩ := ctO_cells hR.res; obtain ⟨f0, f1, f2, f3, f4⟩ := ctO_thaw hR.res; obtain ⟨d0, d1, d2, d3, d4, -⟩ := ctO_cells e3; unfold set5 at e1 e2 d0 d1 d2 d3 d4; replace e1 := Mr.hid e1; replace e2 := Mr.hid e2; clear e3; replace d0 := Mr.hid d0; replace d1 := Mr.hid d1; replace d2 := Mr.hid d2; replace d3 := Mr.hid d3; replace d4 := Mr.hid d4)
      replace d0 := d0.out
      replace d1 := d1.out
      replace d2 := d2.out
      replace d3 := d3.out
      replace d4 := d4.out
      refine bodyPost_ret (v := .tuple #[.agg #[.slice none 0 0, .slice none 0 0, .slice none 0 0, .slice none 0 0, .slice none 0 0], .int .i64 122]) (by simp [results, Tryz.results11, go_sem, d0, d1, d2, d3, d4]) rfl ?_
      exact ⟨_, _, _, _, _, rfl, e1.out, e2.out⟩
set_option maxHeartbeats 16000000 in
theorem left_answer (hv : Sl W T 9 v cs.length (cqs cs)) (hu : Sl W T' 1 u o.length (ints o)) (hsm : cs.length * 72 ≤ 140737488355328) (hso : o.length * 8 ≤ 281474976710656) (hm : MayC cs) (hO : IsOrd cs o) (hT : InT (ordc cs o) (ordc cs o).length) (hA : ¬ okTo ct0 (ordc cs o) o.length) :
    Calls Tryz.prog 11 #[v, u] W fun e w' => ∃ v0 v1 v2 v3 v4, e = .returned (.tuple #[.agg #[v0, v1, v2, v3, v4], .int .i64 123]) ∧ CtAt w' (fun k => W.heap.size ≤ k) v0 v1 v2 v3 v4 ct0 ∧ Below W.heap.size W w' := by
  obtain ⟨bi, bcq, hbi, hbok, hbc, hbn2⟩ := bad_first hA
  have hpl := plays_no hbok hbc hbn2
  clear hbok hbc hbn2 hA
  have PM := fun w' (hB : Below W.heap.size W w') => may_any (hv.below hB) (by omega)
  rw [mayB_true hm] at PM
  have IQ := fun w' (hB : Below W.heap.size W w') => isOrder_any (hv.below hB) (hu.below hB) (by omega) hso true (by simp [hO])
  obtain ⟨a, cap, rfl, hcap⟩ := hv.form
  obtain ⟨au, cu, rfl, hcu⟩ := hu.form
  have R0 : ∀ w1, w1 = W.alloc (ctO (.slice none 0 0) (.slice none 0 0) (.slice none 0 0) (.slice none 0 0) (.slice none 0 0)) → Rb W w1 := by
    rintro w1 rfl
    exact ⟨(Below.refl _ _).alloc (Nat.le_refl _) _, new_at _ _ _ rfl⟩
  unfold ctO at R0
  replace R0 := Mr.hid R0
  have hol := hO.len
  have hfo := fit_ordc hm hO
  have hobj := hO.obj
  obtain ⟨os, hos⟩ : ∃ os, os = ordc cs o := ⟨_, rfl⟩
  have hosl : os.length = o.length := by rw [hos, ordc_len]
  rw [← hos] at hT hfo hobj hpl
  obtain ⟨n, hn⟩ : ∃ n, n = cs.length := ⟨_, rfl⟩
  obtain ⟨m, hm1⟩ : ∃ m, m = o.length := ⟨_, rfl⟩
  rw [← hn, ← hm1]
  rw [← hn] at hsm hol PM IQ
  rw [← hm1] at hso hu hcu hol hosl IQ
  have hmk := fun w => makeC w os (by rw [hosl]; omega)
  rw [hosl] at hmk
  generalize lefts ct0 os bi = y at *
  replace hn := Mr.hid hn
  replace hm1 := Mr.hid hm1
  replace hosl := Mr.hid hosl
  replace hos := Mr.hid hos
  replace hv := Mr.hid hv
  replace hu := Mr.hid hu
  replace PM := Mr.hid PM
  replace IQ := Mr.hid IQ
  replace hO := Mr.hid hO
  replace hm := Mr.hid hm
  replace hfo := Mr.hid hfo
  replace hobj := Mr.hid hobj
  replace hT := Mr.hid hT
  clear hcap hcu
  replace hpl := Mr.hid hpl
  go_enter Tryz.func11, Tryz.ntmps11
  go_upto_region 6 with (first
    | (go_at_call 19; refine (PM.out _ (R0.out _ rfl).bel).mono ?_; clear PM; rintro e w2 ⟨rfl, hB2⟩; have hR := (R0.out _ rfl).below hB2; clear R0 hB2; replace hR := Mr.hid hR)
    | (go_at_call 20; refine (IQ.out _ hR.out.bel).mono ?_; clear IQ; rintro e w3 ⟨rfl, hB3⟩; replace hR := hR.out.below hB3; clear hB3; replace hR := Mr.hid hR))
  have hL : Lb W (w3.alloc (.cells (cqs (lay os 0)).toArray 36 (0, 0))) w3.heap.size os 0 := ⟨hR.out.bel.alloc hR.out.bel.size _, hR.out.bel.size, new_at _ _ _ rfl⟩
  have hR4 := hR.out.below ((Below.refl w3.heap.size w3).alloc (Nat.le_refl _) (.cells (cqs (lay os 0)).toArray 36 (0, 0)))
  have hbn : w3.heap.size ≠ W.heap.size := by have := (Array.getElem?_eq_some_iff.1 hR.out.res).1; omega
  clear hR hmk
  generalize (w3.alloc (.cells (cqs (lay os 0)).toArray 36 (0, 0))) = w4 at *
  generalize w3.heap.size = bl at *
  replace hL := Mr.hid hL
  replace hR := Mr.hid hR4
  clear hR4
  go_wp2
  go_loopg [28] m (fun q s28 wr => ∃ k : Nat, s28 = .int .i64 (k : Int) ∧ k + q = m ∧ Lb W wr bl os k ∧ Rb W wr)
  case atStart => exact ⟨0, rfl, by omega, hL.out, hR.out⟩
  case round =>
    clear hL hR
    obtain ⟨k, rfl, hk, hL, hR⟩ := hrel
    by_cases hlt : k < m
    · obtain ⟨y, hy⟩ : ∃ y, o[k]? = some y := ⟨o[k]'(by have := hm1.out; omega), List.getElem?_eq_getElem _⟩
      obtain ⟨j, c, rfl, hcj, _⟩ := hO.out.at hy
      have hck : os[k]? = some c := by rw [hos.out]; exact ordc_get hy hcj
      have hjn : j < n := by rw [hn.out]; exact (List.getElem?_eq_some_iff.1 hcj).1
      obtain ⟨bc, oc, rfl, A9⟩ := call_at (hv.out.below hL.bel) hcj
      obtain ⟨hcl, g0, g1, g2, g3, g4, g5, g6, g7, g8⟩ := A9
      obtain ⟨bo, oo, c1, e1, _, _, hol2, r1⟩ := (hu.out.below hL.bel).there (by omega)
      cases e1
      have ko := r1 k _ (by rw [ints, List.getElem?_map, hy]; rfl)
      obtain ⟨⟨hll, q0, q1, q2, q3, q4, q5, q6, q7, q8⟩, fz⟩ := hL.get (by have := hosl.out; omega)
      have f0 := fz 0 (by omega)
      have f1 := fz 1 (by omega)
      have f2 := fz 2 (by omega)
      have f3 := fz 3 (by omega)
      have f4 := fz 4 (by omega)
      have f5 := fz 5 (by omega)
      have f6 := fz 6 (by omega)
      have f7 := fz 7 (by omega)
      have f8 := fz 8 (by omega)
      rw [Nat.add_zero] at f0
      have hjI : (j : Int) < (n : Int) := by omega
      have hlI : (k : Int) < (m : Int) := by omega
      have hw1 : IntKind.i64.wrap ((k : Int) + 1) = (k : Int) + 1 := i64x _ (by omega) (by omega)
      have hLn := hL.next hck
      have hRn : Rb W (put9 wr bl (k * 9) c) := ⟨hLn.bel, by unfold put9; rw [far_set9 _ _ _ _ hbn]; exact hR.res⟩
      unfold put9 at hLn hRn
      clear r1 fz
      replace hLn := Mr.hid hLn
      replace hRn := Mr.hid hRn
      replace hL := Mr.hid hL
      replace hR := Mr.hid hR
      replace hck := Mr.hid hck
      replace hcj := Mr.hid hcj
      replace hy := Mr.hid hy
      go_wp2
      go_roundg (gk - 1)
      case measure => omega
      case rel => exact ⟨k + 1, by simp, by omega, hLn.out, hRn.out⟩
    · have hkm : k = os.length := by have := hosl.out; omega
      rw [hkm] at hL
      clear hkm
      have dl : decide ((k : Int) < (m : Int)) = false := decide_eq_false (by omega)
      have hS := hL.sl
      rw [hosl.out] at hS
      have IT := inTime_any hL.sl (by rw [hosl.out]; omega) hfo.out true (by simp [hT.out])
      rw [hosl.out] at IT
      replace IT := Mr.hid IT
      replace hpl := hpl.out
      have PL := fun w' (hS' : Sl w' (fun k => W.heap.size ≤ k) 9 (.slice (some ⟨bl, 0, none⟩) m m) m (cqs os)) => mPlay_any (cs := os) (uc := .slice (some ⟨bl, 0, none⟩) m m) (ct0_at w' (fun _ => True)) (ct0_in _) (by rw [hosl.out]; exact hS') (by rw [hosl.out]; omega) may_ct0 hobj.out
      rw [hpl] at PL
      replace PL := Mr.hid PL
      replace hpl := Mr.hid hpl
      have hge : (0 : Int) ≤ (bi : Int) := by omega
      replace hS := Mr.hid hS
      replace hL := Mr.hid hL
      go_wp2_with (first
        | (go_at_call 21; refine IT.out.mono ?_; clear IT; rintro e w5 ⟨rfl, hB5⟩; replace hR := hR.below hB5; have hS5 := Mr.hid (hS.out.below hB5); clear hB5; replace hR := Mr.hid hR)
        | (go_at_call 22; refine (PL.out _ hS5.out).mono ?_; clear PL; rintro e w6 ⟨v0, v1, v2, v3, v4, rfl, hat, hB6⟩; have hR6 := hR.out.below hB6; obtain ⟨x0, j0, rfl, _⟩ := hat.cell.form; obtain ⟨x1, j1, rfl, _⟩ := hat.stack.form; obtain ⟨x2, j2, rfl, _⟩ := hat.queue.form; obtain ⟨x3, j3, rfl, _⟩ := hat.set.form; obtain ⟨x4, j4, rfl, _⟩ := hat.table.form; generalize hg0 : y.cell.length = l0 at *; replace hg0 := Mr.hid hg0; generalize hg1 : y.stack.length = l1 at *; replace hg1 := Mr.hid hg1; generalize hg2 : y.queue.length = l2 at *; replace hg2 := Mr.hid hg2; generalize hg3 : y.set.length = l3 at *; replace hg3 := Mr.hid hg3; generalize hg4 : y.table.length = l4 at *; replace hg4 := Mr.hid hg4; have hR7 : ∀ o9, Rb W (w6.alloc o9) := (fun o9 => hR6.below ((Below.refl _ _).alloc (Nat.le_refl _) o9)); have hR8 := hR7 (ctO (.slice x0 l0 j0) (.slice x1 l1 j1) (.slice x2 l2 j2) (.slice x3 l3 j3) (.slice x4 l4 j4)); unfold ctO at hR8; obtain ⟨e1, e2, e3⟩ := end5a (v0 := (.slice none 0 0)) (v1 := (.slice none 0 0)) (v2 := (.slice none 0 0)) (v3 := (.slice none 0 0)) (v4 := (.slice none 0 0)) hR8.bel (b := W.heap.size) (Nat.le_refl _) hR8.res (ct0_at _ (fun k => W.heap.size + 1 ≤ k)) (fun k hk => by omega); obtain ⟨r0, r1, r2, r3, r4, rl⟩ := ctO_cells hR8.res; obtain ⟨f0, f1, f2, f3, f4⟩ := ctO_thaw hR8.res; obtain ⟨d0, d1, d2, d3, d4, -⟩ := ctO_cells e3; unfold set5 at e1 e2 d0 d1 d2 d3 d4; replace e1 := Mr.hid e1; replace e2 := Mr.hid e2; clear e3; replace d0 := Mr.hid d0; replace d1 := Mr.hid d1; replace d2 := Mr.hid d2; replace d3 := Mr.hid d3; replace d4 := Mr.hid d4; clear hat hB6))
      replace d0 := d0.out
      replace d1 := d1.out
      replace d2 := d2.out
      replace d3 := d3.out
      replace d4 := d4.out
      refine bodyPost_ret (v := .tuple #[.agg #[.slice none 0 0, .slice none 0 0, .slice none 0 0, .slice none 0 0, .slice none 0 0], .int .i64 123]) (by simp [results, Tryz.results11, go_sem, d0, d1, d2, d3, d4]) rfl ?_
      exact ⟨_, _, _, _, _, rfl, e1.out, e2.out⟩
set_option maxHeartbeats 16000000 in
theorem left_ok (hv : Sl W T 9 v cs.length (cqs cs)) (hu : Sl W T' 1 u o.length (ints o)) (hsm : cs.length * 72 ≤ 140737488355328) (hso : o.length * 8 ≤ 281474976710656) (hm : MayC cs) (hO : IsOrd cs o) (hT : InT (ordc cs o) (ordc cs o).length) (hA : okTo ct0 (ordc cs o) o.length) :
    Calls Tryz.prog 11 #[v, u] W fun e w' => ∃ v0 v1 v2 v3 v4, e = .returned (.tuple #[.agg #[v0, v1, v2, v3, v4], .int .i64 0]) ∧ CtAt w' (fun k => W.heap.size ≤ k) v0 v1 v2 v3 v4 (lefts ct0 (ordc cs o) o.length) ∧ Below W.heap.size W w' := by
  have hpl := plays_end (x := ct0) (cs := ordc cs o) (by rw [ordc_len]; exact hA)
  rw [ordc_len] at hpl
  clear hA
  have PM := fun w' (hB : Below W.heap.size W w') => may_any (hv.below hB) (by omega)
  rw [mayB_true hm] at PM
  have IQ := fun w' (hB : Below W.heap.size W w') => isOrder_any (hv.below hB) (hu.below hB) (by omega) hso true (by simp [hO])
  obtain ⟨a, cap, rfl, hcap⟩ := hv.form
  obtain ⟨au, cu, rfl, hcu⟩ := hu.form
  have R0 : ∀ w1, w1 = W.alloc (ctO (.slice none 0 0) (.slice none 0 0) (.slice none 0 0) (.slice none 0 0) (.slice none 0 0)) → Rb W w1 := by
    rintro w1 rfl
    exact ⟨(Below.refl _ _).alloc (Nat.le_refl _) _, new_at _ _ _ rfl⟩
  unfold ctO at R0
  replace R0 := Mr.hid R0
  have hol := hO.len
  have hfo := fit_ordc hm hO
  have hobj := hO.obj
  obtain ⟨os, hos⟩ : ∃ os, os = ordc cs o := ⟨_, rfl⟩
  have hosl : os.length = o.length := by rw [hos, ordc_len]
  rw [← hos] at hT hfo hobj hpl ⊢
  obtain ⟨n, hn⟩ : ∃ n, n = cs.length := ⟨_, rfl⟩
  obtain ⟨m, hm1⟩ : ∃ m, m = o.length := ⟨_, rfl⟩
  rw [← hn, ← hm1]
  rw [← hn] at hsm hol PM IQ
  rw [← hm1] at hso hu hcu hol hosl IQ hpl
  have hmk := fun w => makeC w os (by rw [hosl]; omega)
  rw [hosl] at hmk
  generalize lefts ct0 os m = y at *
  replace hn := Mr.hid hn
  replace hm1 := Mr.hid hm1
  replace hosl := Mr.hid hosl
  replace hos := Mr.hid hos
  replace hv := Mr.hid hv
  replace hu := Mr.hid hu
  replace PM := Mr.hid PM
  replace IQ := Mr.hid IQ
  replace hO := Mr.hid hO
  replace hm := Mr.hid hm
  replace hfo := Mr.hid hfo
  replace hobj := Mr.hid hobj
  replace hT := Mr.hid hT
  clear hcap hcu
  replace hpl := Mr.hid hpl
  go_enter Tryz.func11, Tryz.ntmps11
  go_upto_region 6 with (first
    | (go_at_call 19; refine (PM.out _ (R0.out _ rfl).bel).mono ?_; clear PM; rintro e w2 ⟨rfl, hB2⟩; have hR := (R0.out _ rfl).below hB2; clear R0 hB2; replace hR := Mr.hid hR)
    | (go_at_call 20; refine (IQ.out _ hR.out.bel).mono ?_; clear IQ; rintro e w3 ⟨rfl, hB3⟩; replace hR := hR.out.below hB3; clear hB3; replace hR := Mr.hid hR))
  have hL : Lb W (w3.alloc (.cells (cqs (lay os 0)).toArray 36 (0, 0))) w3.heap.size os 0 := ⟨hR.out.bel.alloc hR.out.bel.size _, hR.out.bel.size, new_at _ _ _ rfl⟩
  have hR4 := hR.out.below ((Below.refl w3.heap.size w3).alloc (Nat.le_refl _) (.cells (cqs (lay os 0)).toArray 36 (0, 0)))
  have hbn : w3.heap.size ≠ W.heap.size := by have := (Array.getElem?_eq_some_iff.1 hR.out.res).1; omega
  clear hR hmk
  generalize (w3.alloc (.cells (cqs (lay os 0)).toArray 36 (0, 0))) = w4 at *
  generalize w3.heap.size = bl at *
  replace hL := Mr.hid hL
  replace hR := Mr.hid hR4
  clear hR4
  go_wp2
  go_loopg [28] m (fun q s28 wr => ∃ k : Nat, s28 = .int .i64 (k : Int) ∧ k + q = m ∧ Lb W wr bl os k ∧ Rb W wr)
  case atStart => exact ⟨0, rfl, by omega, hL.out, hR.out⟩
  case round =>
    clear hL hR
    obtain ⟨k, rfl, hk, hL, hR⟩ := hrel
    by_cases hlt : k < m
    · obtain ⟨y, hy⟩ : ∃ y, o[k]? = some y := ⟨o[k]'(by have := hm1.out; omega), List.getElem?_eq_getElem _⟩
      obtain ⟨j, c, rfl, hcj, _⟩ := hO.out.at hy
      have hck : os[k]? = some c := by rw [hos.out]; exact ordc_get hy hcj
      have hjn : j < n := by rw [hn.out]; exact (List.getElem?_eq_some_iff.1 hcj).1
      obtain ⟨bc, oc, rfl, A9⟩ := call_at (hv.out.below hL.bel) hcj
      obtain ⟨hcl, g0, g1, g2, g3, g4, g5, g6, g7, g8⟩ := A9
      obtain ⟨bo, oo, c1, e1, _, _, hol2, r1⟩ := (hu.out.below hL.bel).there (by omega)
      cases e1
      have ko := r1 k _ (by rw [ints, List.getElem?_map, hy]; rfl)
      obtain ⟨⟨hll, q0, q1, q2, q3, q4, q5, q6, q7, q8⟩, fz⟩ := hL.get (by have := hosl.out; omega)
      have f0 := fz 0 (by omega)
      have f1 := fz 1 (by omega)
      have f2 := fz 2 (by omega)
      have f3 := fz 3 (by omega)
      have f4 := fz 4 (by omega)
      have f5 := fz 5 (by omega)
      have f6 := fz 6 (by omega)
      have f7 := fz 7 (by omega)
      have f8 := fz 8 (by omega)
      rw [Nat.add_zero] at f0
      have hjI : (j : Int) < (n : Int) := by omega
      have hlI : (k : Int) < (m : Int) := by omega
      have hw1 : IntKind.i64.wrap ((k : Int) + 1) = (k : Int) + 1 := i64x _ (by omega) (by omega)
      have hLn := hL.next hck
      have hRn : Rb W (put9 wr bl (k * 9) c) := ⟨hLn.bel, by unfold put9; rw [far_set9 _ _ _ _ hbn]; exact hR.res⟩
      unfold put9 at hLn hRn
      clear r1 fz
      replace hLn := Mr.hid hLn
      replace hRn := Mr.hid hRn
      replace hL := Mr.hid hL
      replace hR := Mr.hid hR
      replace hck := Mr.hid hck
      replace hcj := Mr.hid hcj
      replace hy := Mr.hid hy
      go_wp2
      go_roundg (gk - 1)
      case measure => omega
      case rel => exact ⟨k + 1, by simp, by omega, hLn.out, hRn.out⟩
    · have hkm : k = os.length := by have := hosl.out; omega
      rw [hkm] at hL
      clear hkm
      have dl : decide ((k : Int) < (m : Int)) = false := decide_eq_false (by omega)
      have hS := hL.sl
      rw [hosl.out] at hS
      have IT := inTime_any hL.sl (by rw [hosl.out]; omega) hfo.out true (by simp [hT.out])
      rw [hosl.out] at IT
      replace IT := Mr.hid IT
      replace hpl := hpl.out
      have PL := fun w' (hS' : Sl w' (fun k => W.heap.size ≤ k) 9 (.slice (some ⟨bl, 0, none⟩) m m) m (cqs os)) => mPlay_any (cs := os) (uc := .slice (some ⟨bl, 0, none⟩) m m) (ct0_at w' (fun _ => True)) (ct0_in _) (by rw [hosl.out]; exact hS') (by rw [hosl.out]; omega) may_ct0 hobj.out
      rw [hpl] at PL
      replace PL := Mr.hid PL
      replace hpl := Mr.hid hpl
      replace hS := Mr.hid hS
      replace hL := Mr.hid hL
      go_wp2_with (first
        | (go_at_call 21; refine IT.out.mono ?_; clear IT; rintro e w5 ⟨rfl, hB5⟩; replace hR := hR.below hB5; have hS5 := Mr.hid (hS.out.below hB5); clear hB5; replace hR := Mr.hid hR; have hRs := Mr.hid hR.out.bel.size)
        | (go_at_call 22; refine (PL.out _ hS5.out).mono ?_; clear PL; rintro e w6 ⟨v0, v1, v2, v3, v4, rfl, hat, hB6⟩; have hR6 := hR.out.below hB6; obtain ⟨x0, j0, rfl, _⟩ := hat.cell.form; obtain ⟨x1, j1, rfl, _⟩ := hat.stack.form; obtain ⟨x2, j2, rfl, _⟩ := hat.queue.form; obtain ⟨x3, j3, rfl, _⟩ := hat.set.form; obtain ⟨x4, j4, rfl, _⟩ := hat.table.form; generalize hg0 : y.cell.length = l0 at *; replace hg0 := Mr.hid hg0; generalize hg1 : y.stack.length = l1 at *; replace hg1 := Mr.hid hg1; generalize hg2 : y.queue.length = l2 at *; replace hg2 := Mr.hid hg2; generalize hg3 : y.set.length = l3 at *; replace hg3 := Mr.hid hg3; generalize hg4 : y.table.length = l4 at *; replace hg4 := Mr.hid hg4; have hR8 := hR6.below ((Below.refl w6.heap.size w6).alloc (Nat.le_refl _) (ctO (.slice x0 l0 j0) (.slice x1 l1 j1) (.slice x2 l2 j2) (.slice x3 l3 j3) (.slice x4 l4 j4))); have hlt6 := (Array.getElem?_eq_some_iff.1 hR.out.res).1; have hat8 := (hat.mono (T' := fun k => W.heap.size + 1 ≤ k) (fun k hk => by omega)).below ((Below.refl w6.heap.size w6).alloc (Nat.le_refl _) (ctO (.slice x0 l0 j0) (.slice x1 l1 j1) (.slice x2 l2 j2) (.slice x3 l3 j3) (.slice x4 l4 j4))); obtain ⟨e1, e2, e3⟩ := end5a (v0 := (.slice x0 l0 j0)) (v1 := (.slice x1 l1 j1)) (v2 := (.slice x2 l2 j2)) (v3 := (.slice x3 l3 j3)) (v4 := (.slice x4 l4 j4)) hR8.bel (b := W.heap.size) (Nat.le_refl _) hR8.res hat8 (fun k hk => by omega); obtain ⟨r0, r1, r2, r3, r4, rl⟩ := ctO_cells hR8.res; obtain ⟨f0, f1, f2, f3, f4⟩ := ctO_thaw hR8.res; obtain ⟨d0, d1, d2, d3, d4, -⟩ := ctO_cells e3; unfold ctO at r0 r1 r2 r3 r4 f0 f1 f2 f3 f4; unfold set5 ctO at e1 e2 d0 d1 d2 d3 d4; replace e1 := Mr.hid e1; replace e2 := Mr.hid e2; clear e3 hat hB6 hat8 hR8; replace d0 := Mr.hid d0; replace d1 := Mr.hid d1; replace d2 := Mr.hid d2; replace d3 := Mr.hid d3; replace d4 := Mr.hid d4))
      replace d0 := d0.out
      replace d1 := d1.out
      replace d2 := d2.out
      replace d3 := d3.out
      replace d4 := d4.out
      refine bodyPost_ret (v := .tuple #[.agg #[.slice x0 l0 j0, .slice x1 l1 j1, .slice x2 l2 j2, .slice x3 l3 j3, .slice x4 l4 j4], .int .i64 0]) (by simp [results, Tryz.results11, go_sem, d0, d1, d2, d3, d4]) rfl ?_
      exact ⟨_, _, _, _, _, rfl, e1.out, e2.out⟩
theorem left_any {code : Int} {x : Ct} (h : Rs cs o code x) (hv : Sl W T 9 v cs.length (cqs cs)) (hu : Sl W T' 1 u o.length (ints o)) (hsm : cs.length * 72 ≤ 140737488355328) (hso : o.length * 8 ≤ 281474976710656) :
    Calls Tryz.prog 11 #[v, u] W fun e w' => ∃ v0 v1 v2 v3 v4, e = .returned (.tuple #[.agg #[v0, v1, v2, v3, v4], .int .i64 code]) ∧ CtAt w' (fun k => W.heap.size ≤ k) v0 v1 v2 v3 v4 x ∧ Below W.heap.size W w' := by
  cases h with
  | calls h1 => exact left_calls hv hu hsm h1
  | order h1 h2 => exact left_order hv hu hsm hso h1 h2
  | early h1 h2 h3 => exact left_early hv hu hsm hso h1 h2 h3
  | answer h1 h2 h3 h4 => exact left_answer hv hu hsm hso h1 h2 h3 h4
  | ok h1 h2 h3 h4 => exact left_ok hv hu hsm hso h1 h2 h3 h4
end
end Go.Proofs.YtfgnaffomglmdaaGreat.Wt
