import Derived.Test.YtegbcocbopgghabJ02
import Derived.Test.YtegbcocbopgghabRows
import Derived.Test.YtegbcocbopgghabJ31
import Derived.Test.YtegbcocbopgghabJ09
import Derived.Test.YtegbcocbopgghabJ35
/-
  OPENING contents and lists that came in, by their bulk.
-/
namespace Go.Proofs.Ytegbcocbopgghab.Md
open Go.ChangeShapes Go.WideShapes Go.ChangeAt Go.RowKit Go.Deep
open Mr
set_option linter.unusedVariables false
set_option maxRecDepth 100000
theorem bulk_one {H : Type} (d : DataW H) : 1 ≤ Rows.uptoBulk d := by
  cases d with
  | lit l => cases l <;> simp [Rows.uptoBulk]
  | _ => simp [Rows.uptoBulk]
theorem bulk_len {H : Type} (l : List (DataW H)) : l.length ≤ Rows.uptoBulkAll l := by
  induction l with
  | nil => simp
  | cons x r ih => have := bulk_one x; simp only [Rows.uptoBulkAll, List.length_cons]; omega
theorem bulk_of {H : Type} {n : Nat} {d : DataW H} (h : n = 0 ∨ ∃ es rs, d = .slice es rs ∧ es.length = n) : n ≤ Rows.uptoBulk d := by
  rcases h with rfl | ⟨es, rs, rfl, rfl⟩
  · omega
  · have h1 := bulk_len es
    simp only [Rows.uptoBulk]
    omega
section
variable {H : Type} {enc : TypeId × Value → H} {w : World} {base : Nat} {spare : Nat → Bool} {held : Bool}
theorem open_contents_u {r : Reach} {b0 : Nat} {v : Value} {d : DataW H} {p : List MemPlace} (hv : Value.okWide Try.prog w r b0 25 v) (h : DataW.Trod enc Try.prog w base spare held 25 v d p) (hk : Rows.uptoBulk d ≤ 1048576) :
    ∃ v0 v1 v2 v3 v4 x, v = .agg #[v0, v1, v2, v3, v4] ∧ CtAt w (fun _ => True) v0 v1 v2 v3 v4 x ∧ CtIn 16777216 x := by
  obtain ⟨cs, rfl, hcz⟩ := okWide_struct Try.underlying25 hv
  rw [cells_ct] at hcz
  obtain ⟨fuel, hfu⟩ := h
  obtain ⟨xs, n, _, hxx, hl, hxl, hx⟩ := DataW.trod_struct Try.underlying25 hfu
  have hcs : (Value.agg cs).cells.toList = cs.toList := rfl
  rw [hcs] at hx
  obtain ⟨l, rfl⟩ : ∃ l : List Value, cs = l.toArray := ⟨cs.toList, by simp⟩
  match l, hcz with
  | [x0, x1, x2, x3, x4], _ =>
    have q0 := hx 0 _ rfl
    have q1 := hx 1 _ rfl
    have q2 := hx 2 _ rfl
    have q3 := hx 3 _ rfl
    have q4 := hx 4 _ rfl
    have hxs : xs.length = 5 := by simpa using hxl
    match xs, hxs with
    | [y0, y1, y2, y3, y4], _ =>
      obtain ⟨w0, l0, e0, s0⟩ := open_isl q0
      obtain ⟨w1, l1, e1, s1⟩ := open_isl q1
      obtain ⟨w2, l2, e2, s2⟩ := open_isl q2
      obtain ⟨w3, l3, e3, s3⟩ := open_isl q3
      obtain ⟨w4, l4, e4, s4⟩ := open_psl q4
      have f0 := len_slice Try.underlying22 q0 e0 s0
      have f1 := len_slice Try.underlying22 q1 e1 s1
      have f2 := len_slice Try.underlying22 q2 e2 s2
      have f3 := len_slice Try.underlying22 q3 e3 s3
      have f4 := len_slice Try.underlying23 q4 e4 s4
      have hd : d = .agg [y0.1, y1.1, y2.1, y3.1, y4.1] := by simpa using congrArg Prod.fst hxx
      subst hd
      simp only [Rows.uptoBulk, Rows.uptoBulkAll] at hk
      have g0 := bulk_of f0
      have g1 := bulk_of f1
      have g2 := bulk_of f2
      have g3 := bulk_of f3
      have g4 := bulk_of f4
      simp [cells_li] at e0 e1 e2 e3
      simp [cells_lp] at e4
      subst e0; subst e1; subst e2; subst e3; subst e4
      exact ⟨_, _, _, _, _, ⟨l0, l1, l2, l3, l4⟩, rfl, ⟨s0, s1, s2, s3, s4⟩, ⟨by show l0.length * 8 ≤ _; omega, by show l1.length * 8 ≤ _; omega, by show l2.length * 8 ≤ _; omega, by show l3.length * 8 ≤ _; omega, by show l4.length * 16 ≤ _; omega⟩⟩
theorem open_ints_u {r : Reach} {b0 : Nat} {v : Value} {d : DataW H} {p : List MemPlace} (hv : Value.okWide Try.prog w r b0 22 v) (h : DataW.Trod enc Try.prog w base spare held 22 v d p) (hk : Rows.uptoBulk d ≤ 1048576) :
    ∃ l, Sl w (fun _ => True) 1 v l.length (ints l) ∧ l.length ≤ 1048576 := by
  obtain ⟨a, n, cap, rfl⟩ := okWide_slice Try.underlying22 hv
  obtain ⟨fuel, hf⟩ := h
  have e0 : (Value.slice a n cap).cells.toList = [.slice a n cap] := rfl
  rw [e0] at hf
  obtain ⟨w0, l, e1, hs⟩ := open_isl hf
  simp at e1
  subst e1
  have f := len_slice Try.underlying22 hf rfl hs
  have g := bulk_of f
  exact ⟨l, hs, by simp only at g; omega⟩
end
end Go.Proofs.Ytegbcocbopgghab.Md
/-
  Package model: Play.
-/
namespace Go.Proofs.Ytegbcocbopgghab.Md
open Go.RowKit Mr
set_option linter.unusedVariables false
set_option linter.unusedSimpArgs false
theorem adm_left {x : Ct} {cs : List Cq} {i : Nat} {c : Cq} (hc : cs[i]? = some c) (h : (alw (lefts x cs i) c).2 = true) : adm (lefts x cs i) c = lefts x cs (i + 1) := by
  rw [lefts_succ x cs i c hc]; exact if_pos h
theorem adm_same {x : Ct} {c : Cq} (h : (alw x c).2 = false) : adm x c = x := if_neg (by rw [h]; decide)
theorem may_alw {x : Ct} (h : May x) {c : Cq} (ho : obj c.op ≠ 0) (hy : (alw x c).2 = true) : May (alw x c).1 := by
  have hd := may_dnx h ho c.arg c.data
  unfold alw at hy ⊢
  by_cases h0 : c.ak = 0
  · rw [if_pos h0]; exact hd
  · rw [if_neg h0] at hy ⊢
    by_cases h4 : c.ak = 4
    · rw [if_pos h4] at hy ⊢
      by_cases hf : fullOp c.op
      · rw [if_pos hf]; exact h
      · rw [if_neg hf] at hy; cases hy
    · rw [if_neg h4] at hy ⊢
      by_cases hq : dan x c.op c.arg = (c.ak, c.av)
      · rw [if_pos hq]; exact hd
      · rw [if_neg hq] at hy; cases hy
theorem may_left {x : Ct} (h : May x) {cs : List Cq} (ho : ∀ c ∈ cs, obj c.op ≠ 0) : ∀ i, i ≤ cs.length → okTo x cs i → May (lefts x cs i) := by
  intro i
  induction i with
  | zero => intro _ _; exact h
  | succ i ih =>
    intro hi hok
    have hc : cs[i]? = some cs[i] := List.getElem?_eq_getElem (by omega)
    rw [lefts_succ x cs i _ hc]
    exact may_alw (ih (by omega) (fun j hj => hok j (by omega))) (ho _ (List.getElem_mem _)) (hok i (by omega) _ hc)
theorem bads_all {cs : List Cq} (h : ∀ c ∈ cs, obj c.op ≠ 0) : bads cs = false := bads_no (fun j c hc => h c (List.mem_of_getElem? hc))
theorem bads_some {cs : List Cq} (h : ∃ c ∈ cs, obj c.op = 0) : bads cs = true := by
  obtain ⟨c, hc, ho⟩ := h
  unfold bads
  rw [List.any_eq_true]
  exact ⟨c, hc, by simp [ho]⟩
/-- Within Play: the result's box, the objects' box, the objects. -/
structure Dl (W w : World) (B bW g0 g1 g2 g3 g4 : Nat) (y : Ct) : Prop where
  bel : Below W.heap.size W w
  r : w.heap[W.heap.size + 1]? = some (.cells #[.slice none 0 0, .slice none 0 0, .slice none 0 0, .slice none 0 0, .slice none 0 0] 25 (0, 0))
  p : w.heap[bW]? = some (.cells #[.iface 92 (.pointer (some ⟨g0, 0, none⟩)), .iface 94 (.pointer (some ⟨g1, 0, none⟩)), .iface 96 (.pointer (some ⟨g2, 0, none⟩)), .iface 98 (.pointer (some ⟨g3, 0, none⟩)), .iface 100 (.pointer (some ⟨g4, 0, none⟩))] 72 (0, 0))
  hB : B ≤ w.heap.size
  d : ∃ lab, Wd w B lab g0 g1 g2 g3 g4 y ∧ (∀ k, lab k < 5 → k < w.heap.size) ∧ ¬ lab bW < 5
set_option maxRecDepth 100000 in
set_option maxHeartbeats 8000000 in
theorem pPlay_state {W : World} {S : Nat → Prop} {u0 u1 u2 u3 u4 : Value} {x : Ct} (hu : CtAt W S u0 u1 u2 u3 u4 x) {T : Nat → Prop} {uc : Value} {cs : List Cq} (hin : CtIn 140737488355328 x) (hc : Sl W T 9 uc cs.length (cqs cs)) (hsm : cs.length * 72 ≤ 140737488355328) (hm : ¬ May x) :
    Calls Try.prog 18 #[.agg #[u0, u1, u2, u3, u4], uc] W fun e w' => ∃ v0 v1 v2 v3 v4 lab, e = .returned (.tuple #[.agg #[v0, v1, v2, v3, v4], .int .i64 0, .int .i64 111]) ∧ CtOwn w' W.heap.size lab v0 v1 v2 v3 v4 ct0 ∧ Below W.heap.size W w' := by
  obtain ⟨a0, c0, rfl, _⟩ := hu.cell.form
  obtain ⟨a1, c1, rfl, _⟩ := hu.stack.form
  obtain ⟨a2, c2, rfl, _⟩ := hu.queue.form
  obtain ⟨a3, c3, rfl, _⟩ := hu.set.form
  obtain ⟨a4, c4, rfl, _⟩ := hu.table.form
  obtain ⟨ac, cc, rfl, hcc⟩ := hc.form
  have CR := fun w' (hB : Below W.heap.size W w') => refused_any (hu.below hB) (hin.sm (by decide)) (hc.below hB) (by omega) false (by simp [hm]) 111 rfl
  have CW := fun w' (hB : Below W.heap.size W w') => worldOf_any (hu.below hB) (hin.mono (by decide))
  have hT0 := Tq.new W (.cells #[.slice a0 x.cell.length c0, .slice a1 x.stack.length c1, .slice a2 x.queue.length c2, .slice a3 x.set.length c3, .slice a4 x.table.length c4] 25 (0, 0)) (.cells #[.slice none 0 0, .slice none 0 0, .slice none 0 0, .slice none 0 0, .slice none 0 0] 25 (0, 0))
  obtain ⟨y0, y1, y2, y3, y4, y5⟩ := ifs_cells hT0.2.1
  clear hu
  replace CR := Mr.hid CR
  replace CW := Mr.hid CW
  replace hT0 := Mr.hid hT0
  generalize cs.length = n at *
  clear hc
  go_enter Try.func18, Try.ntmps18
  go_upto_region 3 with (first | (go_at_call 27; refine (CR.out _ hT0.out.1).mono ?_; rintro e w1 ⟨rfl, hB1⟩; have hT1 := Mr.hid (hT0.out.below hB1); clear y0 y1 y2 y3 y4 y5; obtain ⟨y0, y1, y2, y3, y4, y5⟩ := ifs_cells hT1.out.2.1))
  clear y0 y1 y2 y3 y4 y5
  obtain ⟨r0, r1, r2, r3, r4, r5⟩ := ifs_cells hT1.out.2.2.1
  obtain ⟨f0, f1, f2, f3, f4⟩ := ifs_thaw hT1.out.2.2.1
  have m2 := set5_five (.slice none 0 0) (.slice none 0 0) (.slice none 0 0) (.slice none 0 0) (.slice none 0 0) hT1.out.2.2.1
  have m1 := set5_below (b := W.heap.size + 1) (.slice none 0 0) (.slice none 0 0) (.slice none 0 0) (.slice none 0 0) (.slice none 0 0) hT1.out.1 (by omega)
  obtain ⟨x0, x1, x2, x3, x4, x5⟩ := ifs_cells m2
  unfold set5 at x0 x1 x2 x3 x4 x5 m1
  replace m1 := Mr.hid m1
  clear m2
  go_wp2
  refine bodyPost_ret (v := .tuple #[.agg #[.slice none 0 0, .slice none 0 0, .slice none 0 0, .slice none 0 0, .slice none 0 0], .int .i64 0, .int .i64 111]) (by simp [results, Try.results18, go_sem, x0, x1, x2, x3, x4]) rfl ⟨_, _, _, _, _, _, rfl, ct0_own _ _, m1.out⟩
set_option maxRecDepth 100000 in
set_option maxHeartbeats 8000000 in
theorem pPlay_ill {W : World} {S : Nat → Prop} {u0 u1 u2 u3 u4 : Value} {x : Ct} (hu : CtAt W S u0 u1 u2 u3 u4 x) {T : Nat → Prop} {uc : Value} {cs : List Cq} (hin : CtIn 140737488355328 x) (hc : Sl W T 9 uc cs.length (cqs cs)) (hsm : cs.length * 72 ≤ 140737488355328) (hm : May x) (ho : ∃ c ∈ cs, obj c.op = 0) :
    Calls Try.prog 18 #[.agg #[u0, u1, u2, u3, u4], uc] W fun e w' => ∃ v0 v1 v2 v3 v4 lab, e = .returned (.tuple #[.agg #[v0, v1, v2, v3, v4], .int .i64 0, .int .i64 110]) ∧ CtOwn w' W.heap.size lab v0 v1 v2 v3 v4 ct0 ∧ Below W.heap.size W w' := by
  obtain ⟨a0, c0, rfl, _⟩ := hu.cell.form
  obtain ⟨a1, c1, rfl, _⟩ := hu.stack.form
  obtain ⟨a2, c2, rfl, _⟩ := hu.queue.form
  obtain ⟨a3, c3, rfl, _⟩ := hu.set.form
  obtain ⟨a4, c4, rfl, _⟩ := hu.table.form
  obtain ⟨ac, cc, rfl, hcc⟩ := hc.form
  have CR := fun w' (hB : Below W.heap.size W w') => refused_any (hu.below hB) (hin.sm (by decide)) (hc.below hB) (by omega) true (by simp [hm]) 110 (by simp [bads_some ho])
  have CW := fun w' (hB : Below W.heap.size W w') => worldOf_any (hu.below hB) (hin.mono (by decide))
  have hT0 := Tq.new W (.cells #[.slice a0 x.cell.length c0, .slice a1 x.stack.length c1, .slice a2 x.queue.length c2, .slice a3 x.set.length c3, .slice a4 x.table.length c4] 25 (0, 0)) (.cells #[.slice none 0 0, .slice none 0 0, .slice none 0 0, .slice none 0 0, .slice none 0 0] 25 (0, 0))
  obtain ⟨y0, y1, y2, y3, y4, y5⟩ := ifs_cells hT0.2.1
  clear hu
  replace CR := Mr.hid CR
  replace CW := Mr.hid CW
  replace hT0 := Mr.hid hT0
  generalize cs.length = n at *
  clear hc
  go_enter Try.func18, Try.ntmps18
  go_upto_region 3 with (first | (go_at_call 27; refine (CR.out _ hT0.out.1).mono ?_; rintro e w1 ⟨rfl, hB1⟩; have hT1 := Mr.hid (hT0.out.below hB1); clear y0 y1 y2 y3 y4 y5; obtain ⟨y0, y1, y2, y3, y4, y5⟩ := ifs_cells hT1.out.2.1))
  clear y0 y1 y2 y3 y4 y5
  obtain ⟨r0, r1, r2, r3, r4, r5⟩ := ifs_cells hT1.out.2.2.1
  obtain ⟨f0, f1, f2, f3, f4⟩ := ifs_thaw hT1.out.2.2.1
  have m2 := set5_five (.slice none 0 0) (.slice none 0 0) (.slice none 0 0) (.slice none 0 0) (.slice none 0 0) hT1.out.2.2.1
  have m1 := set5_below (b := W.heap.size + 1) (.slice none 0 0) (.slice none 0 0) (.slice none 0 0) (.slice none 0 0) (.slice none 0 0) hT1.out.1 (by omega)
  obtain ⟨x0, x1, x2, x3, x4, x5⟩ := ifs_cells m2
  unfold set5 at x0 x1 x2 x3 x4 x5 m1
  replace m1 := Mr.hid m1
  clear m2
  go_wp2
  refine bodyPost_ret (v := .tuple #[.agg #[.slice none 0 0, .slice none 0 0, .slice none 0 0, .slice none 0 0, .slice none 0 0], .int .i64 0, .int .i64 110]) (by simp [results, Try.results18, go_sem, x0, x1, x2, x3, x4]) rfl ⟨_, _, _, _, _, _, rfl, ct0_own _ _, m1.out⟩
set_option maxRecDepth 100000 in
set_option maxHeartbeats 8000000 in
theorem pPlay_any {W : World} {S : Nat → Prop} {u0 u1 u2 u3 u4 : Value} {x : Ct} (hu : CtAt W S u0 u1 u2 u3 u4 x) {T : Nat → Prop} {uc : Value} {cs : List Cq} (hin : CtIn 140737488355328 x) (hc : Sl W T 9 uc cs.length (cqs cs)) (hsm : cs.length * 72 ≤ 140737488355328) (hm : May x) (ho : ∀ c ∈ cs, obj c.op ≠ 0) :
    Calls Try.prog 18 #[.agg #[u0, u1, u2, u3, u4], uc] W fun e w' => ∃ v0 v1 v2 v3 v4 lab, e = .returned (.tuple #[.agg #[v0, v1, v2, v3, v4], .int .i64 (plays x cs 0).2, .int .i64 0]) ∧ CtOwn w' W.heap.size lab v0 v1 v2 v3 v4 (plays x cs 0).1 ∧ Below W.heap.size W w' := by
  obtain ⟨a0, c0, rfl, _⟩ := hu.cell.form
  obtain ⟨a1, c1, rfl, _⟩ := hu.stack.form
  obtain ⟨a2, c2, rfl, _⟩ := hu.queue.form
  obtain ⟨a3, c3, rfl, _⟩ := hu.set.form
  obtain ⟨a4, c4, rfl, _⟩ := hu.table.form
  obtain ⟨ac, cc, rfl, hcc⟩ := hc.form
  have CR := fun w' (hB : Below W.heap.size W w') => refused_any (hu.below hB) (hin.sm (by decide)) (hc.below hB) (by omega) true (by simp [hm]) 0 (by simp [bads_all ho])
  have CW := fun w' (hB : Below W.heap.size W w') => worldOf_any (hu.below hB) (hin.mono (by decide))
  have hT0 := Tq.new W (.cells #[.slice a0 x.cell.length c0, .slice a1 x.stack.length c1, .slice a2 x.queue.length c2, .slice a3 x.set.length c3, .slice a4 x.table.length c4] 25 (0, 0)) (.cells #[.slice none 0 0, .slice none 0 0, .slice none 0 0, .slice none 0 0, .slice none 0 0] 25 (0, 0))
  obtain ⟨y0, y1, y2, y3, y4, y5⟩ := ifs_cells hT0.2.1
  clear hu
  replace CR := Mr.hid CR
  replace CW := Mr.hid CW
  replace hT0 := Mr.hid hT0
  obtain ⟨n, hn⟩ : ∃ n, n = cs.length := ⟨_, rfl⟩
  rw [← hn] at hc hcc hsm CR ⊢
  have LI : ∀ i, i ≤ n → CtIn 225000000000000 (lefts x cs i) := fun i hi => (lefts_in hin cs i).mono (by omega)
  have LM : ∀ i, i ≤ n → okTo x cs i → May (lefts x cs i) := fun i hi hok => may_left hm ho i (by omega) hok
  obtain ⟨PL, hPL⟩ : ∃ p, p = plays x cs 0 := ⟨_, rfl⟩
  rw [← hPL]
  replace hPL := Mr.hid hPL
  replace LI := Mr.hid LI
  replace LM := Mr.hid LM
  replace hn := Mr.hid hn
  replace hc := Mr.hid hc
  replace ho := Mr.hid ho
  go_enter Try.func18, Try.ntmps18
  go_upto_region 4 with (first | (go_at_call 27; refine (CR.out _ hT0.out.1).mono ?_; rintro e w1 ⟨rfl, hB1⟩; have hT1 := Mr.hid (hT0.out.below hB1); clear y0 y1 y2 y3 y4 y5; obtain ⟨y0, y1, y2, y3, y4, y5⟩ := ifs_cells hT1.out.2.1))
  go_upto_region 5 with (first | (go_at_call 28; refine (CW.out _ hT1.out.1).mono ?_; rintro e w2 ⟨g0, g1, g2, g3, g4, lab, rfl, hD, hB2⟩; unfold wdV))
  have hT2 := hT1.out.below hB2
  have hT3 := hT2.below ((Below.refl _ w2).alloc (Nat.le_refl _) (.cells #[.iface 92 (.pointer (some ⟨g0, 0, none⟩)), .iface 94 (.pointer (some ⟨g1, 0, none⟩)), .iface 96 (.pointer (some ⟨g2, 0, none⟩)), .iface 98 (.pointer (some ⟨g3, 0, none⟩)), .iface 100 (.pointer (some ⟨g4, 0, none⟩))] 72 (0, 0)))
  have hP3 := heap_alloc_new w2 (.cells #[.iface 92 (.pointer (some ⟨g0, 0, none⟩)), .iface 94 (.pointer (some ⟨g1, 0, none⟩)), .iface 96 (.pointer (some ⟨g2, 0, none⟩)), .iface 98 (.pointer (some ⟨g3, 0, none⟩)), .iface 100 (.pointer (some ⟨g4, 0, none⟩))] 72 (0, 0))
  have hD3 := hD.cut ((Below.refl _ w2).alloc (Nat.le_refl _) (.cells #[.iface 92 (.pointer (some ⟨g0, 0, none⟩)), .iface 94 (.pointer (some ⟨g1, 0, none⟩)), .iface 96 (.pointer (some ⟨g2, 0, none⟩)), .iface 98 (.pointer (some ⟨g3, 0, none⟩)), .iface 100 (.pointer (some ⟨g4, 0, none⟩))] 72 (0, 0)))
  have hs3 : w2.heap.size < (w2.alloc (.cells #[.iface 92 (.pointer (some ⟨g0, 0, none⟩)), .iface 94 (.pointer (some ⟨g1, 0, none⟩)), .iface 96 (.pointer (some ⟨g2, 0, none⟩)), .iface 98 (.pointer (some ⟨g3, 0, none⟩)), .iface 100 (.pointer (some ⟨g4, 0, none⟩))] 72 (0, 0))).heap.size := by simp
  have hs2 := hB2.size
  have hlt1 : Hid (W.heap.size + 1 < w1.heap.size) := hT1.out.2.2.2.1
  have hDl : Dl W (w2.alloc (.cells #[.iface 92 (.pointer (some ⟨g0, 0, none⟩)), .iface 94 (.pointer (some ⟨g1, 0, none⟩)), .iface 96 (.pointer (some ⟨g2, 0, none⟩)), .iface 98 (.pointer (some ⟨g3, 0, none⟩)), .iface 100 (.pointer (some ⟨g4, 0, none⟩))] 72 (0, 0))) w1.heap.size w2.heap.size g0 g1 g2 g3 g4 (lefts x cs 0) :=
    ⟨hT3.1, hT3.2.2.1, hP3, by omega, labr lab w2.heap.size, hD3, fun k h => Nat.lt_trans (labr_hi h) hs3, fun h => Nat.lt_irrefl _ (labr_hi h)⟩
  have hbW : Hid (w1.heap.size ≤ w2.heap.size) := hs2
  generalize w2.alloc (.cells #[.iface 92 (.pointer (some ⟨g0, 0, none⟩)), .iface 94 (.pointer (some ⟨g1, 0, none⟩)), .iface 96 (.pointer (some ⟨g2, 0, none⟩)), .iface 98 (.pointer (some ⟨g3, 0, none⟩)), .iface 100 (.pointer (some ⟨g4, 0, none⟩))] 72 (0, 0)) = w3 at *
  generalize w2.heap.size = bW at *
  clear y0 y1 y2 y3 y4 y5 hB2 hD hT2 hT3 hP3 hD3 hs3 hs2 hT0 hT1
  generalize w1.heap.size = BB at *
  replace hDl := Mr.hid hDl
  go_wp2
  go_loopg [22] n (fun k s wr => ∃ i : Nat, s = .int .i64 (i : Int) ∧ i + k = n ∧ okTo x cs i ∧ Dl W wr BB bW g0 g1 g2 g3 g4 (lefts x cs i))
  case atStart => exact ⟨0, rfl, by omega, fun j hj => by omega, hDl.out⟩
  case round =>
    clear hDl
    obtain ⟨i, rfl, hi, hok, hD⟩ := hrel
    obtain ⟨hBel, hR, hP, hBs, lab, hd, hhi, hbW5⟩ := hD
    have hRl := (Array.getElem?_eq_some_iff.1 hR).1
    have hPl := (Array.getElem?_eq_some_iff.1 hP).1
    by_cases hlt : i < n
    · obtain ⟨c, hci⟩ : ∃ c, cs[i]? = some c := ⟨cs[i]'(by have := hn.out; omega), List.getElem?_eq_getElem _⟩
      obtain ⟨bc, oc, cc', hcv, _, _, hcl, hcr⟩ := (hc.out.below hBel).there (by omega)
      cases hcv
      have hg := fun j (hj : j < 9) => cqs_get cs i c hci j hj
      have g_0 : wr.cell? ⟨bc, oc + i * 9, none⟩ = some (.int .i64 c.th) := hcr (i * 9 + 0) _ (hg 0 (by omega))
      have g_1 : wr.cell? ⟨bc, oc + i * 9 + 1, none⟩ = some (.int .i64 c.op) := hcr (i * 9 + 1) _ (hg 1 (by omega))
      have g_2 : wr.cell? ⟨bc, oc + i * 9 + 2, none⟩ = some (.int .i64 c.arg) := hcr (i * 9 + 2) _ (hg 2 (by omega))
      have g_3 : wr.cell? ⟨bc, oc + i * 9 + 3, none⟩ = some (.int .i64 c.data) := hcr (i * 9 + 3) _ (hg 3 (by omega))
      have g_4 : wr.cell? ⟨bc, oc + i * 9 + 4, none⟩ = some (.int .i64 c.beg) := hcr (i * 9 + 4) _ (hg 4 (by omega))
      have g_5 : wr.cell? ⟨bc, oc + i * 9 + 5, none⟩ = some (.int .i64 c.fin) := hcr (i * 9 + 5) _ (hg 5 (by omega))
      have g_6 : wr.cell? ⟨bc, oc + i * 9 + 6, none⟩ = some (.int .i64 c.pt) := hcr (i * 9 + 6) _ (hg 6 (by omega))
      have g_7 : wr.cell? ⟨bc, oc + i * 9 + 7, none⟩ = some (.int .i64 c.ak) := hcr (i * 9 + 7) _ (hg 7 (by omega))
      have g_8 : wr.cell? ⟨bc, oc + i * 9 + 8, none⟩ = some (.int .i64 c.av) := hcr (i * 9 + 8) _ (hg 8 (by omega))
      have hlI : (i : Int) < (n : Int) := by omega
      have BA := (Below.refl wr.heap.size wr).alloc (Nat.le_refl _) (.cells #[.int .i64 c.th, .int .i64 c.op, .int .i64 c.arg, .int .i64 c.data, .int .i64 c.beg, .int .i64 c.fin, .int .i64 c.pt, .int .i64 c.ak, .int .i64 c.av] 50 (0, 0))
      have CD := admit_any (hd.keep BA) (fun k hk => Nat.lt_of_lt_of_le (hhi k hk) BA.size) (Nat.le_trans hBs BA.size) (LI.out i (by omega)) (LM.out i (by omega) hok) c (ho.out c (List.mem_of_getElem? hci))
      have hP4 := old_at hP (.cells #[.int .i64 c.th, .int .i64 c.op, .int .i64 c.arg, .int .i64 c.data, .int .i64 c.beg, .int .i64 c.fin, .int .i64 c.pt, .int .i64 c.ak, .int .i64 c.av] 50 (0, 0))
      have hR4 := old_at hR (.cells #[.int .i64 c.th, .int .i64 c.op, .int .i64 c.arg, .int .i64 c.data, .int .i64 c.beg, .int .i64 c.fin, .int .i64 c.pt, .int .i64 c.ak, .int .i64 c.av] 50 (0, 0))
      have hBel4 := hBel.alloc hBel.size (.cells #[.int .i64 c.th, .int .i64 c.op, .int .i64 c.arg, .int .i64 c.data, .int .i64 c.beg, .int .i64 c.fin, .int .i64 c.pt, .int .i64 c.ak, .int .i64 c.av] 50 (0, 0))
      obtain ⟨z0, z1, z2, z3, z4, z5⟩ := ifs_cells hP4
      have hlow := Mr.hid hd.low
      have hY := hok.succ hci
      have hNo := plays_no hok hci
      have hL := adm_left (x := x) hci
      have hS := adm_same (x := lefts x cs i) (c := c)
      generalize (alw (lefts x cs i) c).2 = bb at *
      have hsz : wr.heap.size < (wr.alloc (.cells #[.int .i64 c.th, .int .i64 c.op, .int .i64 c.arg, .int .i64 c.data, .int .i64 c.beg, .int .i64 c.fin, .int .i64 c.pt, .int .i64 c.ak, .int .i64 c.av] 50 (0, 0))).heap.size := by simp
      obtain ⟨w4, hw4⟩ : ∃ w4, wr.alloc (.cells #[.int .i64 c.th, .int .i64 c.op, .int .i64 c.arg, .int .i64 c.data, .int .i64 c.beg, .int .i64 c.fin, .int .i64 c.pt, .int .i64 c.ak, .int .i64 c.av] 50 (0, 0)) = w4 := ⟨_, rfl⟩
      rw [hw4] at CD hP4 hR4 hBel4 z0 z1 z2 z3 z4 z5 hsz
      replace hw4 := Mr.hid hw4
      have hbcl : bc < wr.heap.size := hcl
      clear hg hcr BA hd
      replace hok := Mr.hid hok
      replace CD := Mr.hid CD
      replace hY := Mr.hid hY
      replace hNo := Mr.hid hNo
      replace hL := Mr.hid hL
      replace hS := Mr.hid hS
      replace hP4 := Mr.hid hP4
      replace hR4 := Mr.hid hR4
      replace hBel4 := Mr.hid hBel4
      replace hP := Mr.hid hP
      replace hR := Mr.hid hR
      replace hBel := Mr.hid hBel
      have hQ := heap_alloc_new wr (.cells #[.int .i64 c.th, .int .i64 c.op, .int .i64 c.arg, .int .i64 c.data, .int .i64 c.beg, .int .i64 c.fin, .int .i64 c.pt, .int .i64 c.ak, .int .i64 c.av] 50 (0, 0))
      rw [hw4.out] at hQ
      obtain ⟨q0, q1, q2, q3, q4, q5, q6, q7, q8, q9⟩ := nines hQ
      clear hQ
      go_upto_region 8 with (fail)
      rw [hw4.out]
      clear g_0 g_1 g_2 g_3 g_4 g_5 g_6 g_7 g_8
      cases bb with
      | true =>
        go_wp2_with (first | (go_at_call 39; refine CD.out.mono ?_; rintro e w5 ⟨rfl, lab5, hD5, hi5, hF5⟩))
        have hD6 : Dl W w5 BB bW g0 g1 g2 g3 g4 (lefts x cs (i + 1)) := by
          rw [hL.out (by simp)] at hD5
          have hs5 := hF5.size
          refine ⟨hBel4.out.trans (hF5.below (n := W.heap.size) (fun k e => by have := hlow.out k e; have := hlt1.out; omega) hBel4.out.size), (hF5.block _ (by omega) (fun e => by have := hlow.out _ e; have := hlt1.out; omega)).trans hR4.out, (hF5.block _ (by omega) hbW5).trans hP4.out, by omega, lab5, hD5, fun k hk => (hi5 k hk).1, fun h => hbW5 ((hi5 bW h).2 (by omega))⟩
        go_roundg (gk - 1)
        case measure => omega
        case rel => exact ⟨i + 1, by simp, by omega, hY.out (by simp), hD6⟩
      | false =>
        have hNo2 := hNo.out (by simp)
        rw [← hPL.out] at hNo2
        replace hNo2 := Mr.hid hNo2
        have hIn2 := (LI.out i (by omega)).mono (B' := 225100000000000) (by decide)
        go_upto_region 9 with (first | (go_at_call 39; refine CD.out.mono ?_; rintro e w5 ⟨rfl, lab5, hD5, hi5, hF5⟩))
        rw [hS.out (by simp)] at hD5
        have hP5 := (hF5.block bW (by omega) hbW5).trans hP4.out
        have hR5 := (hF5.block (W.heap.size + 1) (by omega) (fun e => by have := hlow.out _ e; have := hlt1.out; omega)).trans hR4.out
        have hRl5 := (Array.getElem?_eq_some_iff.1 hR5).1
        have hBel5 := hBel4.out.trans (hF5.below (n := W.heap.size) (fun k e => by have := hlow.out k e; have := hlt1.out; omega) hBel4.out.size)
        have hs5 := hF5.size
        have CC := contents_any hD5 (by omega) hIn2
        clear z0 z1 z2 z3 z4 z5 q0 q1 q2 q3 q4 q5 q6 q7 q8 q9 hD5 hi5 hF5 CD hL hS hY hNo LI LM hok
        generalize lefts x cs i = Y at *
        obtain ⟨z0, z1, z2, z3, z4, z5⟩ := ifs_cells hP5
        have KE := Mr.hid (fun w8 (hB : Below w5.heap.size w5 w8) (v0 v1 v2 v3 v4 : Value) => (⟨set5_five v0 v1 v2 v3 v4 ((hB.block _ hRl5).trans hR5), set5_below (b := W.heap.size + 1) v0 v1 v2 v3 v4 (hBel5.trans (hB.mono hBel5.size)) (by omega), ifs_cells ((hB.block _ hRl5).trans hR5), ifs_thaw ((hB.block _ hRl5).trans hR5)⟩ : _ ∧ _ ∧ _ ∧ _))
        unfold wdV at CC
        replace CC := Mr.hid CC
        replace hBel5 := Mr.hid hBel5
        clear hP5 hR5
        go_wp2_with (first | (go_at_call 30; refine CC.out.mono ?_; rintro e w8 ⟨v0, v1, v2, v3, v4, lab8, rfl, hO8, hB8⟩; obtain ⟨m2, m1, ⟨r0, r1, r2, r3, r4, r5⟩, ⟨f0, f1, f2, f3, f4⟩⟩ := KE.out w8 hB8 v0 v1 v2 v3 v4; obtain ⟨d0, b0, rfl, _, _⟩ := hO8.cell.form; obtain ⟨d1, b1, rfl, _, _⟩ := hO8.stack.form; obtain ⟨d2, b2, rfl, _, _⟩ := hO8.queue.form; obtain ⟨d3, b3, rfl, _, _⟩ := hO8.set.form; obtain ⟨d4, b4, rfl, _, _⟩ := hO8.table.form; obtain ⟨x0, x1, x2, x3, x4, x5⟩ := ifs_cells m2; unfold set5 at x0 x1 x2 x3 x4 x5 m1; replace m1 := Mr.hid m1; replace hO8 := Mr.hid hO8; clear m2))
        have hO9 := hO8.out.kept (W' := set5 w8 (W.heap.size + 1) (.slice d0 Y.cell.length b0) (.slice d1 Y.stack.length b1) (.slice d2 Y.queue.length b2) (.slice d3 Y.set.length b3) (.slice d4 Y.table.length b4)) (B' := W.heap.size) (fun k hk hl => set5_far w8 (W.heap.size + 1) _ _ _ _ _ k (by have := hlt1.out; omega)) (by have := hlt1.out; omega)
        unfold set5 at hO9
        refine bodyPost_ret (v := .tuple #[.agg #[.slice d0 Y.cell.length b0, .slice d1 Y.stack.length b1, .slice d2 Y.queue.length b2, .slice d3 Y.set.length b3, .slice d4 Y.table.length b4], .int .i64 ((i : Nat) : Int), .int .i64 0]) (by simp [results, Try.results18, go_sem, x0, x1, x2, x3, x4]) rfl ⟨.slice d0 Y.cell.length b0, .slice d1 Y.stack.length b1, .slice d2 Y.queue.length b2, .slice d3 Y.set.length b3, .slice d4 Y.table.length b4, lab8, by rw [hNo2.out], by rw [hNo2.out]; exact hO9, m1.out⟩
    · have hle : i = n := by omega
      subst hle
      have hEnd := plays_end (x := x) (cs := cs) (by have := hn.out; rw [← this]; exact hok)
      rw [show cs.length = i from hn.out.symm] at hEnd
      have hIn2 := (LI.out i (by omega)).mono (B' := 225100000000000) (by decide)
      have dl : decide ((i : Int) < (i : Int)) = false := by simp
      have CC := contents_any hd hBs hIn2
      have hP5 := hP
      have hR5 := hR
      have hRl5 := hRl
      have hBel5 := hBel
      rw [← hPL.out] at hEnd
      have hNo2 := Mr.hid hEnd
      clear hd hP hR hEnd hok LM LI hIn2
      generalize lefts x cs i = Y at *
      obtain ⟨z0, z1, z2, z3, z4, z5⟩ := ifs_cells hP5
      have KE := Mr.hid (fun w8 (hB : Below wr.heap.size wr w8) (v0 v1 v2 v3 v4 : Value) => (⟨set5_five v0 v1 v2 v3 v4 ((hB.block _ hRl5).trans hR5), set5_below (b := W.heap.size + 1) v0 v1 v2 v3 v4 (hBel5.trans (hB.mono hBel5.size)) (by omega), ifs_cells ((hB.block _ hRl5).trans hR5), ifs_thaw ((hB.block _ hRl5).trans hR5)⟩ : _ ∧ _ ∧ _ ∧ _))
      unfold wdV at CC
      replace CC := Mr.hid CC
      replace hBel5 := Mr.hid hBel5
      clear hP5 hR5
      go_wp2_with (first | (go_at_call 30; refine CC.out.mono ?_; rintro e w8 ⟨v0, v1, v2, v3, v4, lab8, rfl, hO8, hB8⟩; obtain ⟨m2, m1, ⟨r0, r1, r2, r3, r4, r5⟩, ⟨f0, f1, f2, f3, f4⟩⟩ := KE.out w8 hB8 v0 v1 v2 v3 v4; obtain ⟨d0, b0, rfl, _, _⟩ := hO8.cell.form; obtain ⟨d1, b1, rfl, _, _⟩ := hO8.stack.form; obtain ⟨d2, b2, rfl, _, _⟩ := hO8.queue.form; obtain ⟨d3, b3, rfl, _, _⟩ := hO8.set.form; obtain ⟨d4, b4, rfl, _, _⟩ := hO8.table.form; obtain ⟨x0, x1, x2, x3, x4, x5⟩ := ifs_cells m2; unfold set5 at x0 x1 x2 x3 x4 x5 m1; replace m1 := Mr.hid m1; replace hO8 := Mr.hid hO8; clear m2))
      have hO9 := hO8.out.kept (W' := set5 w8 (W.heap.size + 1) (.slice d0 Y.cell.length b0) (.slice d1 Y.stack.length b1) (.slice d2 Y.queue.length b2) (.slice d3 Y.set.length b3) (.slice d4 Y.table.length b4)) (B' := W.heap.size) (fun k hk hl => set5_far w8 (W.heap.size + 1) _ _ _ _ _ k (by have := hlt1.out; omega)) (by have := hlt1.out; omega)
      unfold set5 at hO9
      refine bodyPost_ret (v := .tuple #[.agg #[.slice d0 Y.cell.length b0, .slice d1 Y.stack.length b1, .slice d2 Y.queue.length b2, .slice d3 Y.set.length b3, .slice d4 Y.table.length b4], .int .i64 (-1 : Int), .int .i64 0]) (by simp [results, Try.results18, go_sem, x0, x1, x2, x3, x4]) rfl ⟨.slice d0 Y.cell.length b0, .slice d1 Y.stack.length b1, .slice d2 Y.queue.length b2, .slice d3 Y.set.length b3, .slice d4 Y.table.length b4, lab8, by rw [hNo2.out], by rw [hNo2.out]; exact hO9, m1.out⟩
theorem mPlay_any {W : World} {S : Nat → Prop} {u0 u1 u2 u3 u4 : Value} {x : Ct} (hu : CtAt W S u0 u1 u2 u3 u4 x) {T : Nat → Prop} {uc : Value} {cs : List Cq} (hin : CtIn 140737488355328 x) (hc : Sl W T 9 uc cs.length (cqs cs)) (hsm : cs.length * 72 ≤ 140737488355328) (hm : May x) (ho : ∀ c ∈ cs, obj c.op ≠ 0) :
    Calls Try.prog 18 #[.agg #[u0, u1, u2, u3, u4], uc] W fun e w' => ∃ v0 v1 v2 v3 v4, e = .returned (.tuple #[.agg #[v0, v1, v2, v3, v4], .int .i64 (plays x cs 0).2, .int .i64 0]) ∧ CtAt w' (fun k => W.heap.size ≤ k) v0 v1 v2 v3 v4 (plays x cs 0).1 ∧ Below W.heap.size W w' :=
  (pPlay_any hu hin hc hsm hm ho).mono (by rintro e w' ⟨v0, v1, v2, v3, v4, lab, rfl, h, hB⟩; exact ⟨v0, v1, v2, v3, v4, rfl, h.at, hB⟩)
theorem mPlay_ill {W : World} {S : Nat → Prop} {u0 u1 u2 u3 u4 : Value} {x : Ct} (hu : CtAt W S u0 u1 u2 u3 u4 x) {T : Nat → Prop} {uc : Value} {cs : List Cq} (hin : CtIn 140737488355328 x) (hc : Sl W T 9 uc cs.length (cqs cs)) (hsm : cs.length * 72 ≤ 140737488355328) (hm : May x) (ho : ∃ c ∈ cs, obj c.op = 0) :
    Calls Try.prog 18 #[.agg #[u0, u1, u2, u3, u4], uc] W fun e w' => ∃ v0 v1 v2 v3 v4, e = .returned (.tuple #[.agg #[v0, v1, v2, v3, v4], .int .i64 0, .int .i64 110]) ∧ CtAt w' (fun k => W.heap.size ≤ k) v0 v1 v2 v3 v4 ct0 ∧ Below W.heap.size W w' :=
  (pPlay_ill hu hin hc hsm hm ho).mono (by rintro e w' ⟨v0, v1, v2, v3, v4, lab, rfl, h, hB⟩; exact ⟨v0, v1, v2, v3, v4, rfl, h.at, hB⟩)
theorem mPlay_state {W : World} {S : Nat → Prop} {u0 u1 u2 u3 u4 : Value} {x : Ct} (hu : CtAt W S u0 u1 u2 u3 u4 x) {T : Nat → Prop} {uc : Value} {cs : List Cq} (hin : CtIn 140737488355328 x) (hc : Sl W T 9 uc cs.length (cqs cs)) (hsm : cs.length * 72 ≤ 140737488355328) (hm : ¬ May x) :
    Calls Try.prog 18 #[.agg #[u0, u1, u2, u3, u4], uc] W fun e w' => ∃ v0 v1 v2 v3 v4, e = .returned (.tuple #[.agg #[v0, v1, v2, v3, v4], .int .i64 0, .int .i64 111]) ∧ CtAt w' (fun k => W.heap.size ≤ k) v0 v1 v2 v3 v4 ct0 ∧ Below W.heap.size W w' :=
  (pPlay_state hu hin hc hsm hm).mono (by rintro e w' ⟨v0, v1, v2, v3, v4, lab, rfl, h, hB⟩; exact ⟨v0, v1, v2, v3, v4, rfl, h.at, hB⟩)
end Go.Proofs.Ytegbcocbopgghab.Md
