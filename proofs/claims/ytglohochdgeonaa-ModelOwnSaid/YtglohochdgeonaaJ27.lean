import Derived.Test.YtglohochdgeonaaJ26
import Derived.Test.YtglohochdgeonaaJ11
/-
  reclaimlaw11: right.
-/
namespace Go.Proofs.Ytglohochdgeonaa.Md
open Go.RowKit Mr Me
set_option linter.unusedVariables false
set_option linter.unusedSimpArgs false
set_option maxRecDepth 100000 in
set_option maxHeartbeats 8000000 in
theorem right_no {W : World} {S : Nat → Prop} {u0 u1 u2 u3 u4 : Value} {x : Ct} (hu : CtAt W S u0 u1 u2 u3 u4 x) (hin : CtIn 225000000000000 x) (hm : ¬ May x) :
    Calls Try.prog 4 #[.agg #[u0, u1, u2, u3, u4]] W fun e w' => ∃ v0 v1 v2 v3 v4, e = .returned (.agg #[v0, v1, v2, v3, v4]) ∧ CtAt w' (fun k => W.heap.size ≤ k) v0 v1 v2 v3 v4 ct0 ∧ Below W.heap.size W w' := by
  have C := fun w' (hB : Below W.heap.size W w') => rMay_any (hu.below hB) (hin.sm (by decide)) false (by simp [hm])
  have CC := fun w' (hB : Below W.heap.size W w') => rCopy_any (hu.below hB) hin
  obtain ⟨a0, c0, rfl, _⟩ := hu.cell.form
  obtain ⟨a1, c1, rfl, _⟩ := hu.stack.form
  obtain ⟨a2, c2, rfl, _⟩ := hu.queue.form
  obtain ⟨a3, c3, rfl, _⟩ := hu.set.form
  obtain ⟨a4, c4, rfl, _⟩ := hu.table.form
  have B0 := ((Below.refl W.heap.size W).alloc (Nat.le_refl _) (ctO (.slice a0 x.cell.length c0) (.slice a1 x.stack.length c1) (.slice a2 x.queue.length c2) (.slice a3 x.set.length c3) (.slice a4 x.table.length c4))).alloc (by simp) nil5
  have G0 : ((W.alloc (ctO (.slice a0 x.cell.length c0) (.slice a1 x.stack.length c1) (.slice a2 x.queue.length c2) (.slice a3 x.set.length c3) (.slice a4 x.table.length c4))).alloc nil5).heap[W.heap.size + 1]? = some nil5 := new_at _ nil5 _ (by simp)
  have G1 : ((W.alloc (ctO (.slice a0 x.cell.length c0) (.slice a1 x.stack.length c1) (.slice a2 x.queue.length c2) (.slice a3 x.set.length c3) (.slice a4 x.table.length c4))).alloc nil5).heap[W.heap.size]? = some (ctO (.slice a0 x.cell.length c0) (.slice a1 x.stack.length c1) (.slice a2 x.queue.length c2) (.slice a3 x.set.length c3) (.slice a4 x.table.length c4)) := old_at (new_at W _ _ rfl) _
  have BE := fun w1 (hB : Below (W.heap.size + 2) ((W.alloc (ctO (.slice a0 x.cell.length c0) (.slice a1 x.stack.length c1) (.slice a2 x.queue.length c2) (.slice a3 x.set.length c3) (.slice a4 x.table.length c4))).alloc nil5) w1) => (⟨B0.trans (hB.mono (by omega)), (hB.block (W.heap.size + 1) (by omega)).trans G0, (hB.block W.heap.size (by omega)).trans G1⟩ : Below W.heap.size W w1 ∧ w1.heap[W.heap.size + 1]? = some nil5 ∧ w1.heap[W.heap.size]? = some (ctO (.slice a0 x.cell.length c0) (.slice a1 x.stack.length c1) (.slice a2 x.queue.length c2) (.slice a3 x.set.length c3) (.slice a4 x.table.length c4)))
  clear hu G0 G1
  unfold nil5 ctO at B0
  unfold ctO at BE
  replace C := Mr.hid C
  replace CC := Mr.hid CC
  replace B0 := Mr.hid B0
  replace BE := Mr.hid BE
  replace hm := Mr.hid hm
  go_enter Try.func4, Try.ntmps4
  go_wp2_with (first | (go_at_call 16; refine (C.out _ B0.out).mono ?_; clear C; rintro e w1 ⟨rfl, hB1⟩; simp only [World.size_alloc] at hB1; obtain ⟨hE, hG, hH⟩ := BE.out w1 hB1; clear hB1 BE; obtain ⟨k0, k1, k2, k3, k4, kl⟩ := ctO_cells hG; obtain ⟨f0, f1, f2, f3, f4⟩ := ctO_thaw hG; obtain ⟨i0, i1, i2, i3, i4, il⟩ := ctO_cells hH; replace hE := Mr.hid hE; replace hG := Mr.hid hG; clear hH))
  obtain ⟨e1, e2, e3⟩ := end5a (v0 := (.slice none 0 0)) (v1 := (.slice none 0 0)) (v2 := (.slice none 0 0)) (v3 := (.slice none 0 0)) (v4 := (.slice none 0 0)) hE.out (b := W.heap.size + 1) (by omega) hG.out (ct0_at _ (fun k => W.heap.size + 2 ≤ k)) (fun k hk => by omega)
  obtain ⟨d0, d1, d2, d3, d4, -⟩ := ctO_cells e3
  unfold set5 at e1 e2 d0 d1 d2 d3 d4
  replace e1 := Mr.hid e1
  replace e2 := Mr.hid e2
  clear e3 k0 k1 k2 k3 k4 f0 f1 f2 f3 f4
  refine bodyPost_ret (v := .agg #[.slice none 0 0, .slice none 0 0, .slice none 0 0, .slice none 0 0, .slice none 0 0]) (by simp [results, Try.results4, go_sem, d0, d1, d2, d3, d4]) rfl ?_
  exact ⟨_, _, _, _, _, rfl, e1.out, e2.out⟩
set_option maxRecDepth 100000 in
set_option maxHeartbeats 8000000 in
theorem right_yes {W : World} {S : Nat → Prop} {u0 u1 u2 u3 u4 : Value} {x : Ct} (hu : CtAt W S u0 u1 u2 u3 u4 x) (hin : CtIn 225000000000000 x) (hm : May x) :
    Calls Try.prog 4 #[.agg #[u0, u1, u2, u3, u4]] W fun e w' => ∃ v0 v1 v2 v3 v4, e = .returned (.agg #[v0, v1, v2, v3, v4]) ∧ CtAt w' (fun k => W.heap.size ≤ k) v0 v1 v2 v3 v4 x ∧ Below W.heap.size W w' := by
  have C := fun w' (hB : Below W.heap.size W w') => rMay_any (hu.below hB) (hin.sm (by decide)) true (by simp [hm])
  have CC := fun w' (hB : Below W.heap.size W w') => rCopy_any (hu.below hB) hin
  obtain ⟨a0, c0, rfl, _⟩ := hu.cell.form
  obtain ⟨a1, c1, rfl, _⟩ := hu.stack.form
  obtain ⟨a2, c2, rfl, _⟩ := hu.queue.form
  obtain ⟨a3, c3, rfl, _⟩ := hu.set.form
  obtain ⟨a4, c4, rfl, _⟩ := hu.table.form
  have B0 := ((Below.refl W.heap.size W).alloc (Nat.le_refl _) (ctO (.slice a0 x.cell.length c0) (.slice a1 x.stack.length c1) (.slice a2 x.queue.length c2) (.slice a3 x.set.length c3) (.slice a4 x.table.length c4))).alloc (by simp) nil5
  have G0 : ((W.alloc (ctO (.slice a0 x.cell.length c0) (.slice a1 x.stack.length c1) (.slice a2 x.queue.length c2) (.slice a3 x.set.length c3) (.slice a4 x.table.length c4))).alloc nil5).heap[W.heap.size + 1]? = some nil5 := new_at _ nil5 _ (by simp)
  have G1 : ((W.alloc (ctO (.slice a0 x.cell.length c0) (.slice a1 x.stack.length c1) (.slice a2 x.queue.length c2) (.slice a3 x.set.length c3) (.slice a4 x.table.length c4))).alloc nil5).heap[W.heap.size]? = some (ctO (.slice a0 x.cell.length c0) (.slice a1 x.stack.length c1) (.slice a2 x.queue.length c2) (.slice a3 x.set.length c3) (.slice a4 x.table.length c4)) := old_at (new_at W _ _ rfl) _
  have BE := fun w1 (hB : Below (W.heap.size + 2) ((W.alloc (ctO (.slice a0 x.cell.length c0) (.slice a1 x.stack.length c1) (.slice a2 x.queue.length c2) (.slice a3 x.set.length c3) (.slice a4 x.table.length c4))).alloc nil5) w1) => (⟨B0.trans (hB.mono (by omega)), (hB.block (W.heap.size + 1) (by omega)).trans G0, (hB.block W.heap.size (by omega)).trans G1⟩ : Below W.heap.size W w1 ∧ w1.heap[W.heap.size + 1]? = some nil5 ∧ w1.heap[W.heap.size]? = some (ctO (.slice a0 x.cell.length c0) (.slice a1 x.stack.length c1) (.slice a2 x.queue.length c2) (.slice a3 x.set.length c3) (.slice a4 x.table.length c4)))
  clear hu G0 G1
  unfold nil5 ctO at B0
  unfold ctO at BE
  replace C := Mr.hid C
  replace CC := Mr.hid CC
  replace B0 := Mr.hid B0
  replace BE := Mr.hid BE
  replace hm := Mr.hid hm
  go_enter Try.func4, Try.ntmps4
  go_wp2_with (first | (go_at_call 16; refine (C.out _ B0.out).mono ?_; clear C; rintro e w1 ⟨rfl, hB1⟩; simp only [World.size_alloc] at hB1; obtain ⟨hE, hG, hH⟩ := BE.out w1 hB1; clear hB1 BE; obtain ⟨k0, k1, k2, k3, k4, kl⟩ := ctO_cells hG; obtain ⟨f0, f1, f2, f3, f4⟩ := ctO_thaw hG; obtain ⟨i0, i1, i2, i3, i4, il⟩ := ctO_cells hH; replace hE := Mr.hid hE; replace hG := Mr.hid hG; clear hH) | (go_at_call 6; refine (CC.out _ hE.out).mono ?_; clear CC; rintro e w2 ⟨v0, v1, v2, v3, v4, rfl, hv, hB2⟩; have hE := Mr.hid (hE.out.trans (hB2.mono hE.out.size)); have hG := (hB2.block _ kl).trans hG.out; clear k0 k1 k2 k3 k4 f0 f1 f2 f3 f4; obtain ⟨k0, k1, k2, k3, k4, kl2⟩ := ctO_cells hG; obtain ⟨f0, f1, f2, f3, f4⟩ := ctO_thaw hG; replace hG := Mr.hid hG; obtain ⟨z0, q0, rfl, _⟩ := hv.cell.form; obtain ⟨z1, q1, rfl, _⟩ := hv.stack.form; obtain ⟨z2, q2, rfl, _⟩ := hv.queue.form; obtain ⟨z3, q3, rfl, _⟩ := hv.set.form; obtain ⟨z4, q4, rfl, _⟩ := hv.table.form; have hv := hv.mono (T' := fun k => W.heap.size + 2 ≤ k) (fun k hk => Nat.le_trans kl hk); replace hv := Mr.hid hv; clear hB2))
  obtain ⟨e1, e2, e3⟩ := end5a (v0 := (.slice z0 x.cell.length q0)) (v1 := (.slice z1 x.stack.length q1)) (v2 := (.slice z2 x.queue.length q2)) (v3 := (.slice z3 x.set.length q3)) (v4 := (.slice z4 x.table.length q4)) hE.out (b := W.heap.size + 1) (by omega) hG.out (hv.out) (fun k hk => by omega)
  obtain ⟨d0, d1, d2, d3, d4, -⟩ := ctO_cells e3
  unfold set5 at e1 e2 d0 d1 d2 d3 d4
  replace e1 := Mr.hid e1
  replace e2 := Mr.hid e2
  clear e3 k0 k1 k2 k3 k4 f0 f1 f2 f3 f4
  refine bodyPost_ret (v := .agg #[.slice z0 x.cell.length q0, .slice z1 x.stack.length q1, .slice z2 x.queue.length q2, .slice z3 x.set.length q3, .slice z4 x.table.length q4]) (by simp [results, Try.results4, go_sem, d0, d1, d2, d3, d4]) rfl ?_
  exact ⟨_, _, _, _, _, rfl, e1.out, e2.out⟩
theorem may0 : May ct0 := may_plain (by decide) rfl rfl
/-- The contents, or empty ones. -/
theorem right_any {x : Ct} (hx : CtIn 140737488351232 x) : ∃ y, May y ∧ CtIn 140737488351232 y ∧ ∀ (W : World) (S : Nat → Prop) (u0 u1 u2 u3 u4 : Value), CtAt W S u0 u1 u2 u3 u4 x →
    Calls Try.prog 4 #[.agg #[u0, u1, u2, u3, u4]] W fun e w' => ∃ v0 v1 v2 v3 v4, e = .returned (.agg #[v0, v1, v2, v3, v4]) ∧ CtAt w' (fun k => W.heap.size ≤ k) v0 v1 v2 v3 v4 y ∧ Below W.heap.size W w' := by
  by_cases hm : May x
  · exact ⟨x, hm, hx, fun W S u0 u1 u2 u3 u4 hu => right_yes hu (hx.mono (by decide)) hm⟩
  · exact ⟨ct0, may0, ⟨by decide, by decide, by decide, by decide, by decide⟩, fun W S u0 u1 u2 u3 u4 hu => right_no hu (hx.mono (by decide)) hm⟩
end Go.Proofs.Ytglohochdgeonaa.Md
/-
  Rising lists, purely: what an insert and a delete do to them.
-/
namespace Go.Proofs.Ytglohochdgeonaa.Md
open Go.RowKit Mr Me
set_option linter.unusedVariables false
theorem ris_pw {l : List Int} : Ris l ↔ l.Pairwise (· < ·) := by
  constructor
  · intro h
    induction l with
    | nil => exact .nil
    | cons a l ih =>
      have hl := ih (fun j hj => by have := h (j + 1) (by simp; omega); simpa using this)
      refine .cons ?_ hl
      intro b hb
      cases l with
      | nil => simp at hb
      | cons c l =>
        have h0 : a < c := by have := h 0 (by simp); simpa using this
        rcases List.mem_cons.1 hb with rfl | hb
        · exact h0
        · exact Int.lt_trans h0 ((List.pairwise_cons.1 hl).1 b hb)
  · intro h j hj
    have := List.pairwise_iff_getElem.1 h j (j + 1) (by omega) hj (by omega)
    rw [List.getElem?_eq_getElem (by omega), List.getElem?_eq_getElem hj]
    simpa using this
theorem plc_take (l : List Int) (k : Int) : l.take (plc l k) = l.takeWhile (fun x => decide (x < k)) := by
  unfold plc
  induction l with
  | nil => rfl
  | cons a l ih =>
    rw [List.takeWhile_cons]
    split
    · simp [ih]
    · simp
theorem plc_drop (l : List Int) (k : Int) : l.drop (plc l k) = l.dropWhile (fun x => decide (x < k)) := by
  unfold plc
  induction l with
  | nil => rfl
  | cons a l ih =>
    rw [List.takeWhile_cons, List.dropWhile_cons]
    split
    · simp [ih]
    · simp
theorem tw_lt {l : List Int} {k a : Int} (h : a ∈ l.take (plc l k)) : a < k := by
  rw [plc_take] at h
  induction l with
  | nil => simp at h
  | cons b l ih =>
    rw [List.takeWhile_cons] at h
    split at h
    · rename_i hb
      rcases List.mem_cons.1 h with rfl | h
      · simpa using hb
      · exact ih h
    · simp at h
theorem dw_ge {l : List Int} {k a : Int} (hl : l.Pairwise (· < ·)) (h : a ∈ l.drop (plc l k)) : k ≤ a := by
  rw [plc_drop] at h
  cases hd : l.dropWhile (fun x => decide (x < k)) with
  | nil => rw [hd] at h; simp at h
  | cons b m =>
    have hb : ¬ b < k := by
      have := List.head_dropWhile_not (fun x => decide (x < k)) (l := l) (by rw [hd]; simp)
      simpa [hd] using this
    have hs : (b :: m).Pairwise (· < ·) := by rw [← hd]; exact hl.sublist (List.dropWhile_sublist _)
    rw [hd] at h
    rcases List.mem_cons.1 h with rfl | h
    · omega
    · have := (List.pairwise_cons.1 hs).1 a h; omega
theorem in_mem {l : List Int} (hl : l.Pairwise (· < ·)) (k : Int) : inB l k = true ↔ k ∈ l := by
  unfold inB
  constructor
  · intro h
    have : l[plc l k]? = some k := by simpa using h
    exact List.mem_of_getElem? this
  · intro h
    rw [← List.take_append_drop (plc l k) l] at h
    rcases List.mem_append.1 h with h | h
    · have := tw_lt h; omega
    · obtain ⟨b, m, hd⟩ : ∃ b m, l.drop (plc l k) = b :: m := by
        cases hd : l.drop (plc l k) with
        | nil => rw [hd] at h; simp at h
        | cons b m => exact ⟨b, m, rfl⟩
      have hb : k ≤ b := dw_ge hl (by rw [hd]; simp)
      have hs : (b :: m).Pairwise (· < ·) := by rw [← hd]; exact hl.sublist (List.drop_sublist _ _)
      rw [hd] at h
      have e : b = k := by
        rcases List.mem_cons.1 h with h | h
        · exact h.symm
        · have := (List.pairwise_cons.1 hs).1 k h; omega
      have : l[plc l k]? = some b := by
        have := congrArg (fun m => m[0]?) hd
        simpa using this
      rw [this, e]; simp
theorem in_dec {l : List Int} (hl : l.Pairwise (· < ·)) (k : Int) : inB l k = decide (k ∈ l) := by
  rw [Bool.eq_iff_iff, in_mem hl]; simp
theorem mem_ins {l : List Int} {k a : Int} : a ∈ insL l k ↔ a = k ∨ a ∈ l := by
  unfold insL
  have : a ∈ l ↔ a ∈ l.take (plc l k) ∨ a ∈ l.drop (plc l k) := by rw [← List.mem_append, List.take_append_drop]
  rw [this]
  simp only [List.mem_append, List.mem_cons]
  constructor
  · rintro (h | h | h) <;> simp [h]
  · rintro (h | h | h) <;> simp [h]
theorem pw_ins {l : List Int} {k : Int} (hl : l.Pairwise (· < ·)) (hk : inB l k = false) : (insL l k).Pairwise (· < ·) := by
  unfold insL
  have hn : k ∉ l := fun h => by rw [(in_mem hl k).2 h] at hk; cases hk
  refine List.pairwise_append.2 ⟨hl.sublist (List.take_sublist _ _), .cons (fun b hb => ?_) (hl.sublist (List.drop_sublist _ _)), fun a ha b hb => ?_⟩
  · have h1 := dw_ge hl hb
    have h2 : b ≠ k := fun e => hn (e ▸ List.mem_of_mem_drop hb)
    omega
  · have h1 := tw_lt ha
    rcases List.mem_cons.1 hb with rfl | hb
    · exact h1
    · have := dw_ge hl hb; omega
theorem plc_ins (l : List Int) (k : Int) : plc (insL l k) k = plc l k := by
  have hp := plc_le l k
  refine plc_eq (fun j hj => ?_) (.inr ⟨?_, ?_⟩)
  · unfold insL
    rw [List.getElem?_append_left (by simp; omega)]
    have hm : (l.take (plc l k))[j]? = some ((l.take (plc l k))[j]'(by simp; omega)) := List.getElem?_eq_getElem _
    rw [hm]
    exact tw_lt (List.getElem_mem _)
  · rw [insL_len]; omega
  · unfold insL
    rw [List.getElem?_append_right (by simp; omega)]
    simp [Nat.min_eq_left hp]
theorem in_ins (l : List Int) (k : Int) : inB (insL l k) k = true := by
  have hp := plc_le l k
  unfold inB
  rw [plc_ins]
  unfold insL
  rw [List.getElem?_append_right (by simp; omega)]
  simp [Nat.min_eq_left hp]
theorem del_ins (l : List Int) (k : Int) : delL (insL l k) k = l := by
  have hp := plc_le l k
  unfold delL
  rw [plc_ins]
  unfold insL
  have h1 : (l.take (plc l k)).length = plc l k := by simp [Nat.min_eq_left hp]
  rw [List.take_append_of_le_length (by omega), List.take_of_length_le (by omega), List.drop_append, h1, List.drop_of_length_le (by omega)]
  simp
theorem in_split {l : List Int} {k : Int} (h : inB l k = true) : l = l.take (plc l k) ++ k :: l.drop (plc l k + 1) := by
  have hlt := inB_lt h
  have hk : l[plc l k]? = some k := by unfold inB at h; simpa using h
  have e : l[plc l k] = k := by rw [List.getElem?_eq_getElem hlt] at hk; simpa using hk
  have := List.drop_eq_getElem_cons hlt
  rw [e] at this
  rw [← this, List.take_append_drop]
theorem pw_del {l : List Int} {k : Int} (hl : l.Pairwise (· < ·)) (hk : inB l k = true) : (delL l k).Pairwise (· < ·) := by
  have h := in_split hk
  rw [h] at hl
  unfold delL
  have := List.pairwise_append.1 hl
  exact List.pairwise_append.2 ⟨this.1, (List.pairwise_cons.1 this.2.1).2, fun a ha b hb => this.2.2 a ha b (List.mem_cons_of_mem _ hb)⟩
theorem mem_del {l : List Int} {k a : Int} (hl : l.Pairwise (· < ·)) (hk : inB l k = true) : a ∈ delL l k ↔ a ∈ l ∧ a ≠ k := by
  have h := in_split hk
  have hl' := hl
  rw [h] at hl'
  have hp := List.pairwise_append.1 hl'
  have hq := List.pairwise_cons.1 hp.2.1
  have hm : a ∈ l ↔ a ∈ l.take (plc l k) ∨ a = k ∨ a ∈ l.drop (plc l k + 1) := by
    conv => lhs; rw [h]
    simp
  rw [hm]
  unfold delL
  rw [List.mem_append]
  constructor
  · rintro (ha | ha)
    · exact ⟨.inl ha, fun e => by have := tw_lt ha; omega⟩
    · exact ⟨.inr (.inr ha), fun e => by have := hq.1 a ha; omega⟩
  · rintro ⟨ha | rfl | ha, hne⟩
    · exact .inl ha
    · exact absurd rfl hne
    · exact .inr ha
theorem in_del {l : List Int} {k : Int} (hl : l.Pairwise (· < ·)) (hk : inB l k = true) : inB (delL l k) k = false := by
  rw [in_dec (pw_del hl hk), decide_eq_false_iff_not, mem_del hl hk]
  simp
theorem in_ins_ne {l : List Int} {k a : Int} (hl : l.Pairwise (· < ·)) (hk : inB l k = false) (ha : a ≠ k) : inB (insL l k) a = inB l a := by
  rw [in_dec (pw_ins hl hk), in_dec hl]
  simp [mem_ins, ha]
theorem in_del_ne {l : List Int} {k a : Int} (hl : l.Pairwise (· < ·)) (hk : inB l k = true) (ha : a ≠ k) : inB (delL l k) a = inB l a := by
  rw [in_dec (pw_del hl hk), in_dec hl]
  simp [mem_del hl hk, ha]
theorem keys_ins (l : List (Int × Int)) (k d : Int) : keysOf (insT l k d) = insL (keysOf l) k := by simp [keysOf, insT, insL]
theorem keys_del (l : List (Int × Int)) (k : Int) : keysOf (delT l k) = delL (keysOf l) k := by simp [keysOf, delT, delL]
theorem delT_insT (l : List (Int × Int)) (k d : Int) : delT (insT l k d) k = l := by
  have hp := plcT_le l k
  unfold delT
  rw [keys_ins, plc_ins]
  unfold insT
  have h1 : (l.take (plc (keysOf l) k)).length = plc (keysOf l) k := by simp [keysOf, Nat.min_eq_left hp]
  rw [List.take_append_of_le_length (by omega), List.take_of_length_le (by omega), List.drop_append, h1, List.drop_of_length_le (by omega)]
  simp
theorem getT_ins (l : List (Int × Int)) (k d : Int) : getT (insT l k d) k = (2, d) := by
  have hp := plcT_le l k
  have h1 : (l.take (plc (keysOf l) k)).length = plc (keysOf l) k := by simp [keysOf, Nat.min_eq_left hp]
  rw [getT_y (by rw [keys_ins]; exact in_ins _ _), keys_ins, plc_ins]
  unfold insT
  rw [List.getElem?_append_right (by omega), h1]
  simp
end Go.Proofs.Ytglohochdgeonaa.Md
