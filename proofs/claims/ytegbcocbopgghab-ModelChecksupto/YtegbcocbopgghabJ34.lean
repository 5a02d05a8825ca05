import Derived.Test.YtegbcocbopgghabJ09
import Derived.Test.YtegbcocbopgghabJ33
/-
  Rising lists, purely: what an insert and a delete do to them.
-/
namespace Go.Proofs.Ytegbcocbopgghab.Md
open Go.RowKit Mr Me
set_option linter.unusedVariables false
theorem ris_pw {l : List Int} : Ris l ↔ l.Pairwise (· < ·) := by
  constructor
  · intro h
    induction l with
    | nil => exact .nil
    | cons a l ih =>
      have hl := ih (fun j hj => by have := h (j + 1) (by simp; omega); simpa using this)
      refine .cons ?_ hl
      intro b hb
      cases l with
      | nil => simp at hb
      | cons c l =>
        have h0 : a < c := by have := h 0 (by simp); simpa using this
        rcases List.mem_cons.1 hb with rfl | hb
        · exact h0
        · exact Int.lt_trans h0 ((List.pairwise_cons.1 hl).1 b hb)
  · intro h j hj
    have := List.pairwise_iff_getElem.1 h j (j + 1) (by omega) hj (by omega)
    rw [List.getElem?_eq_getElem (by omega), List.getElem?_eq_getElem hj]
    simpa using this
theorem plc_take (l : List Int) (k : Int) : l.take (plc l k) = l.takeWhile (fun x => decide (x < k)) := by
  unfold plc
  induction l with
  | nil => rfl
  | cons a l ih =>
    rw [List.takeWhile_cons]
    split
    · simp [ih]
    · simp
theorem plc_drop (l : List Int) (k : Int) : l.drop (plc l k) = l.dropWhile (fun x => decide (x < k)) := by
  unfold plc
  induction l with
  | nil => rfl
  | cons a l ih =>
    rw [List.takeWhile_cons, List.dropWhile_cons]
    split
    · simp [ih]
    · simp
theorem tw_lt {l : List Int} {k a : Int} (h : a ∈ l.take (plc l k)) : a < k := by
  rw [plc_take] at h
  induction l with
  | nil => simp at h
  | cons b l ih =>
    rw [List.takeWhile_cons] at h
    split at h
    · rename_i hb
      rcases List.mem_cons.1 h with rfl | h
      · simpa using hb
      · exact ih h
    · simp at h
theorem dw_ge {l : List Int} {k a : Int} (hl : l.Pairwise (· < ·)) (h : a ∈ l.drop (plc l k)) : k ≤ a := by
  rw [plc_drop] at h
  cases hd : l.dropWhile (fun x => decide (x < k)) with
  | nil => rw [hd] at h; simp at h
  | cons b m =>
    have hb : ¬ b < k := by
      have := List.head_dropWhile_not (fun x => decide (x < k)) (l := l) (by rw [hd]; simp)
      simpa [hd] using this
    have hs : (b :: m).Pairwise (· < ·) := by rw [← hd]; exact hl.sublist (List.dropWhile_sublist _)
    rw [hd] at h
    rcases List.mem_cons.1 h with rfl | h
    · omega
    · have := (List.pairwise_cons.1 hs).1 a h; omega
theorem in_mem {l : List Int} (hl : l.Pairwise (· < ·)) (k : Int) : inB l k = true ↔ k ∈ l := by
  unfold inB
  constructor
  · intro h
    have : l[plc l k]? = some k := by simpa using h
    exact List.mem_of_getElem? this
  · intro h
    rw [← List.take_append_drop (plc l k) l] at h
    rcases List.mem_append.1 h with h | h
    · have := tw_lt h; omega
    · obtain ⟨b, m, hd⟩ : ∃ b m, l.drop (plc l k) = b :: m := by
        cases hd : l.drop (plc l k) with
        | nil => rw [hd] at h; simp at h
        | cons b m => exact ⟨b, m, rfl⟩
      have hb : k ≤ b := dw_ge hl (by rw [hd]; simp)
      have hs : (b :: m).Pairwise (· < ·) := by rw [← hd]; exact hl.sublist (List.drop_sublist _ _)
      rw [hd] at h
      have e : b = k := by
        rcases List.mem_cons.1 h with h | h
        · exact h.symm
        · have := (List.pairwise_cons.1 hs).1 k h; omega
      have : l[plc l k]? = some b := by
        have := congrArg (fun m => m[0]?) hd
        simpa using this
      rw [this, e]; simp
theorem in_dec {l : List Int} (hl : l.Pairwise (· < ·)) (k : Int) : inB l k = decide (k ∈ l) := by
  rw [Bool.eq_iff_iff, in_mem hl]; simp
theorem mem_ins {l : List Int} {k a : Int} : a ∈ insL l k ↔ a = k ∨ a ∈ l := by
  unfold insL
  have : a ∈ l ↔ a ∈ l.take (plc l k) ∨ a ∈ l.drop (plc l k) := by rw [← List.mem_append, List.take_append_drop]
  rw [this]
  simp only [List.mem_append, List.mem_cons]
  constructor
  · rintro (h | h | h) <;> simp [h]
  · rintro (h | h | h) <;> simp [h]
theorem pw_ins {l : List Int} {k : Int} (hl : l.Pairwise (· < ·)) (hk : inB l k = false) : (insL l k).Pairwise (· < ·) := by
  unfold insL
  have hn : k ∉ l := fun h => by rw [(in_mem hl k).2 h] at hk; cases hk
  refine List.pairwise_append.2 ⟨hl.sublist (List.take_sublist _ _), .cons (fun b hb => ?_) (hl.sublist (List.drop_sublist _ _)), fun a ha b hb => ?_⟩
  · have h1 := dw_ge hl hb
    have h2 : b ≠ k := fun e => hn (e ▸ List.mem_of_mem_drop hb)
    omega
  · have h1 := tw_lt ha
    rcases List.mem_cons.1 hb with rfl | hb
    · exact h1
    · have := dw_ge hl hb; omega
theorem plc_ins (l : List Int) (k : Int) : plc (insL l k) k = plc l k := by
  have hp := plc_le l k
  refine plc_eq (fun j hj => ?_) (.inr ⟨?_, ?_⟩)
  · unfold insL
    rw [List.getElem?_append_left (by simp; omega)]
    have hm : (l.take (plc l k))[j]? = some ((l.take (plc l k))[j]'(by simp; omega)) := List.getElem?_eq_getElem _
    rw [hm]
    exact tw_lt (List.getElem_mem _)
  · rw [insL_len]; omega
  · unfold insL
    rw [List.getElem?_append_right (by simp; omega)]
    simp [Nat.min_eq_left hp]
theorem in_ins (l : List Int) (k : Int) : inB (insL l k) k = true := by
  have hp := plc_le l k
  unfold inB
  rw [plc_ins]
  unfold insL
  rw [List.getElem?_append_right (by simp; omega)]
  simp [Nat.min_eq_left hp]
theorem del_ins (l : List Int) (k : Int) : delL (insL l k) k = l := by
  have hp := plc_le l k
  unfold delL
  rw [plc_ins]
  unfold insL
  have h1 : (l.take (plc l k)).length = plc l k := by simp [Nat.min_eq_left hp]
  rw [List.take_append_of_le_length (by omega), List.take_of_length_le (by omega), List.drop_append, h1, List.drop_of_length_le (by omega)]
  simp
theorem in_split {l : List Int} {k : Int} (h : inB l k = true) : l = l.take (plc l k) ++ k :: l.drop (plc l k + 1) := by
  have hlt := inB_lt h
  have hk : l[plc l k]? = some k := by unfold inB at h; simpa using h
  have e : l[plc l k] = k := by rw [List.getElem?_eq_getElem hlt] at hk; simpa using hk
  have := List.drop_eq_getElem_cons hlt
  rw [e] at this
  rw [← this, List.take_append_drop]
theorem pw_del {l : List Int} {k : Int} (hl : l.Pairwise (· < ·)) (hk : inB l k = true) : (delL l k).Pairwise (· < ·) := by
  have h := in_split hk
  rw [h] at hl
  unfold delL
  have := List.pairwise_append.1 hl
  exact List.pairwise_append.2 ⟨this.1, (List.pairwise_cons.1 this.2.1).2, fun a ha b hb => this.2.2 a ha b (List.mem_cons_of_mem _ hb)⟩
theorem mem_del {l : List Int} {k a : Int} (hl : l.Pairwise (· < ·)) (hk : inB l k = true) : a ∈ delL l k ↔ a ∈ l ∧ a ≠ k := by
  have h := in_split hk
  have hl' := hl
  rw [h] at hl'
  have hp := List.pairwise_append.1 hl'
  have hq := List.pairwise_cons.1 hp.2.1
  have hm : a ∈ l ↔ a ∈ l.take (plc l k) ∨ a = k ∨ a ∈ l.drop (plc l k + 1) := by
    conv => lhs; rw [h]
    simp
  rw [hm]
  unfold delL
  rw [List.mem_append]
  constructor
  · rintro (ha | ha)
    · exact ⟨.inl ha, fun e => by have := tw_lt ha; omega⟩
    · exact ⟨.inr (.inr ha), fun e => by have := hq.1 a ha; omega⟩
  · rintro ⟨ha | rfl | ha, hne⟩
    · exact .inl ha
    · exact absurd rfl hne
    · exact .inr ha
theorem in_del {l : List Int} {k : Int} (hl : l.Pairwise (· < ·)) (hk : inB l k = true) : inB (delL l k) k = false := by
  rw [in_dec (pw_del hl hk), decide_eq_false_iff_not, mem_del hl hk]
  simp
theorem in_ins_ne {l : List Int} {k a : Int} (hl : l.Pairwise (· < ·)) (hk : inB l k = false) (ha : a ≠ k) : inB (insL l k) a = inB l a := by
  rw [in_dec (pw_ins hl hk), in_dec hl]
  simp [mem_ins, ha]
theorem in_del_ne {l : List Int} {k a : Int} (hl : l.Pairwise (· < ·)) (hk : inB l k = true) (ha : a ≠ k) : inB (delL l k) a = inB l a := by
  rw [in_dec (pw_del hl hk), in_dec hl]
  simp [mem_del hl hk, ha]
theorem keys_ins (l : List (Int × Int)) (k d : Int) : keysOf (insT l k d) = insL (keysOf l) k := by simp [keysOf, insT, insL]
theorem keys_del (l : List (Int × Int)) (k : Int) : keysOf (delT l k) = delL (keysOf l) k := by simp [keysOf, delT, delL]
theorem delT_insT (l : List (Int × Int)) (k d : Int) : delT (insT l k d) k = l := by
  have hp := plcT_le l k
  unfold delT
  rw [keys_ins, plc_ins]
  unfold insT
  have h1 : (l.take (plc (keysOf l) k)).length = plc (keysOf l) k := by simp [keysOf, Nat.min_eq_left hp]
  rw [List.take_append_of_le_length (by omega), List.take_of_length_le (by omega), List.drop_append, h1, List.drop_of_length_le (by omega)]
  simp
theorem getT_ins (l : List (Int × Int)) (k d : Int) : getT (insT l k d) k = (2, d) := by
  have hp := plcT_le l k
  have h1 : (l.take (plc (keysOf l) k)).length = plc (keysOf l) k := by simp [keysOf, Nat.min_eq_left hp]
  rw [getT_y (by rw [keys_ins]; exact in_ins _ _), keys_ins, plc_ins]
  unfold insT
  rw [List.getElem?_append_right (by omega), h1]
  simp
end Go.Proofs.Ytegbcocbopgghab.Md
/-
  What a law of the model keeps: boxes of contents and of answers.
-/
namespace Go.Proofs.Ytegbcocbopgghab.Md
open Go.RowKit Mr Me
set_option linter.unusedVariables false
set_option linter.unusedSimpArgs false
/-- Contents in their box. -/
structure Cb (w : World) (b : Nat) (v0 v1 v2 v3 v4 : Value) (x : Ct) : Prop where
  box : w.heap[b]? = some (ctO v0 v1 v2 v3 v4)
  at_ : CtAt w (fun _ => True) v0 v1 v2 v3 v4 x
theorem Cb.next {w w' : World} {b : Nat} {v0 v1 v2 v3 v4 : Value} {x : Ct} (h : Cb w b v0 v1 v2 v3 v4 x) (hB : Below w.heap.size w w') : Cb w' b v0 v1 v2 v3 v4 x :=
  ⟨(hB.block _ (Array.getElem?_eq_some_iff.1 h.box).1).trans h.box, h.at_.below hB⟩
/-- An answer in its box. -/
structure Ab (w : World) (b : Nat) (k v : Int) : Prop where
  box : w.heap[b]? = some (ansO k v)
theorem Ab.next {w w' : World} {b : Nat} {k v : Int} (h : Ab w b k v) (hB : Below w.heap.size w w') : Ab w' b k v :=
  ⟨(hB.block _ (Array.getElem?_eq_some_iff.1 h.box).1).trans h.box⟩
structure Bl (w : World) (W : World) : Prop where
  bel : Below W.heap.size W w
theorem Bl.next {w w' W : World} (h : Bl w W) (hB : Below w.heap.size w w') : Bl w' W := ⟨h.bel.trans (hB.mono h.bel.size)⟩
/-- Behind a call of Do: the two boxes made. -/
theorem made {w w1 wM : World} {l0 l1 l2 l3 l4 : Value} {y : Ct} {a c : Int} {T : Nat → Prop} (hM : wM = (w1.alloc (ctO l0 l1 l2 l3 l4)).alloc (ansO a c)) (hB : Below w.heap.size w w1) (hl : CtAt w1 T l0 l1 l2 l3 l4 y) :
    Below w.heap.size w wM ∧ Cb wM w1.heap.size l0 l1 l2 l3 l4 y ∧ Ab wM (w1.heap.size + 1) a c := by
  subst hM
  have Y := ((Below.refl w1.heap.size w1).alloc (Nat.le_refl _) (ctO l0 l1 l2 l3 l4)).alloc (by simp) (ansO a c)
  exact ⟨hB.trans (Y.mono hB.size), ⟨old_at (new_at _ _ _ rfl) _, (hl.mono (fun _ _ => trivial)).below Y⟩, ⟨new_at _ _ _ (by simp)⟩⟩
/-- Behind right: its answer in the contents' own box. -/
theorem righted {W w1 wM : World} {u0 u1 u2 u3 u4 v0 v1 v2 v3 v4 : Value} {y : Ct} (hM : wM = set5 w1 W.heap.size v0 v1 v2 v3 v4) (hB : Below (W.heap.size + 1) (W.alloc (ctO u0 u1 u2 u3 u4)) w1) (hl : CtAt w1 (fun k => W.heap.size + 1 ≤ k) v0 v1 v2 v3 v4 y) :
    Bl wM W ∧ Cb wM W.heap.size v0 v1 v2 v3 v4 y ∧ w1.heap[W.heap.size]? = some (ctO u0 u1 u2 u3 u4) := by
  subst hM
  have B0 := (Below.refl W.heap.size W).alloc (Nat.le_refl _) (ctO u0 u1 u2 u3 u4)
  have g := (hB.block W.heap.size (by omega)).trans (new_at W (ctO u0 u1 u2 u3 u4) _ rfl)
  have B1 := B0.trans (hB.mono (by omega))
  exact ⟨⟨set5_below v0 v1 v2 v3 v4 B1 (Nat.le_refl _)⟩, ⟨set5_at v0 v1 v2 v3 v4 g, (hl.fr (set5_fr w1 W.heap.size v0 v1 v2 v3 v4) (fun k hk _ e => by subst e; omega)).mono (fun _ _ => trivial)⟩, g⟩
theorem sameT {w : World} {b b' : Nat} {v0 v1 v2 v3 v4 u0 u1 u2 u3 u4 : Value} {x : Ct} (h : Cb w b v0 v1 v2 v3 v4 x) (h' : Cb w b' u0 u1 u2 u3 u4 x) (sx : CtSm x) : Calls Try.prog 12 #[.agg #[v0, v1, v2, v3, v4], .agg #[u0, u1, u2, u3, u4]] w fun e w' => e = .returned (.bool true) ∧ Below w.heap.size w w' := by
  have C := mSame_any h.at_ h'.at_ sx sx
  rw [show ctB x x = true from by unfold ctB; simp] at C
  exact C
theorem mayT {w : World} {b : Nat} {v0 v1 v2 v3 v4 : Value} {x : Ct} (h : Cb w b v0 v1 v2 v3 v4 x) (sx : CtSm x) (hm : May x) : Calls Try.prog 13 #[.agg #[v0, v1, v2, v3, v4]] w fun e w' => e = .returned (.bool true) ∧ Below w.heap.size w w' := mMay_any h.at_ sx true (by simp [hm])
end Go.Proofs.Ytegbcocbopgghab.Md
