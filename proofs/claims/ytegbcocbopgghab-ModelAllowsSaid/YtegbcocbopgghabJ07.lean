import Derived.Test.YtegbcocbopgghabJ05
import Derived.Test.YtegbcocbopgghabJ06
import Derived.Deep.RegionHeld3
/-
  append onto a row from any source, be it empty.
-/
namespace Go.Proofs.Ytegbcocbopgghab.Md
open Go.RowKit Mr Me
set_option linter.unusedVariables false
section
variable {P : Program} (w : World)
theorem run_append_zero (t ty e : TypeId) (i : TypeInfo) (ht : P.underlying t = some (.slice e)) (hi : P.info? e = some i) (b0 : Option Addr) (n cap : Nat) (hc : n ≤ cap) (a0 : Option Addr) (c : Nat) :
    (Builtin.append_ #[t, t] ty #[.slice b0 n cap, .slice a0 0 c]).run P w = .ok (.slice b0 n cap) w := by
  cases b0 <;> cases a0 <;> simp [Builtin.append_, run_underlying ht, sizeOf, typeInfo, hi, Builtin.lenOf, Builtin.firstCells, loadCells, loadCellsFrom, hc, storeCells]
theorem run_append_any (S : Nat → Prop) (t ty e : TypeId) (i : TypeInfo) (z : Value) (size bytes : Nat) (ht : P.underlying t = some (.slice e)) (hi : P.info? e = some i) (hz : i.zero = some z)
    (hsize : i.size = size) (hby : i.bytes = bytes) (hzs : z.cells.size = size) (v : Value) (n : Nat) (xs : List Value) (hown : Has w S e size v n xs) (a0 : Option Addr) (m c : Nat) (news : List Value) (hl : news.length = m * size) (ha : a0 = none → m = 0) (hnews : ∀ ad, a0 = some ad → ∀ j u, news[j]? = some u → w.cell? (ad.add j) = some u)
    (h1 : ∀ u ∈ news, u.oneCell' = true) (h63 : n + m ≤ maxLen) (hbytes : ((n + m) + (n + m) / 4 + 192) * bytes ≤ 281474976710656) (hS : S w.heap.size) :
    ∃ b' cap' w', (Builtin.append_ #[t, t] ty #[v, .slice a0 m c]).run P w = .ok (.slice b' (n + m) cap') w' ∧ Has w' S e size (.slice b' (n + m) cap') (n + m) (xs ++ news) ∧ w.grownBy w' v.ownBlock ∧ (∀ k, (Value.slice b' (n + m) cap').ownBlock = some k → v.ownBlock = some k ∨ k = w.heap.size) := by
  by_cases hm : m = 0
  · subst hm
    have hn : news = [] := List.eq_nil_of_length_eq_zero (by simpa using hl)
    subst hn
    obtain ⟨b0, cap, rfl, hc⟩ := hown.form
    refine ⟨b0, cap, w, run_append_zero w t ty e i ht hi b0 n cap hc a0 c, ?_, ⟨rfl, rfl, rfl, Nat.le_refl _, fun _ _ _ => rfl⟩, fun k hk => .inl hk⟩
    rw [List.append_nil]; exact hown
  · cases a0 with
    | none => exact absurd (ha rfl) hm
    | some ad =>
      obtain ⟨g, cap, w', hr, h2, h3, h4⟩ := run_append_has (P := P) w S t ty e i z size bytes ht hi hz hsize hby hzs v n xs hown ad m c news hl (hnews ad rfl) h1 (by omega) h63 hbytes hS
      refine ⟨_, _, w', hr, h2, h3, fun k hk => ?_⟩
      simp [Value.ownBlock] at hk
      subst hk
      exact h4
theorem wp_append_any {o : Oper} {a : Act} {K : Act → World → Prop} {Q : Exit → Act → World → Prop} (s x : Operand) (t : TypeId)
    (ho : o.op = .call { callee := .builtin .append, args := #[s, x], argTypes := #[t, t] })
    (S : Nat → Prop) (e : TypeId) (i : TypeInfo) (z : Value) (size bytes : Nat) (ht : P.underlying t = some (.slice e)) (hi : P.info? e = some i) (hz : i.zero = some z)
    (hsize : i.size = size) (hby : i.bytes = bytes) (hzs : z.cells.size = size) (v : Value) (n : Nat) (xs : List Value) (hs : a.eval s = v) (hown : Has w S e size v n xs) (a0 : Option Addr) (m c : Nat) (news : List Value) (hx : a.eval x = .slice a0 m c) (hl : news.length = m * size) (ha : a0 = none → m = 0) (hnews : ∀ ad, a0 = some ad → ∀ j u, news[j]? = some u → w.cell? (ad.add j) = some u)
    (h1 : ∀ u ∈ news, u.oneCell' = true) (h63 : n + m ≤ maxLen) (hbytes : ((n + m) + (n + m) / 4 + 192) * bytes ≤ 281474976710656) (hS : S w.heap.size)
    (h : ∀ b' cap' w', Has w' S e size (.slice b' (n + m) cap') (n + m) (xs ++ news) → w.grownBy w' v.ownBlock → (∀ k, (Value.slice b' (n + m) cap').ownBlock = some k → v.ownBlock = some k ∨ k = w.heap.size) → K (a.put o.dst (.slice b' (n + m) cap')) w') : o.wp P a w K Q := by
  obtain ⟨b', cap', w', hr, h2, h3, h4⟩ := run_append_any (P := P) w S t o.type e i z size bytes ht hi hz hsize hby hzs v n xs hown a0 m c news hl ha hnews h1 h63 hbytes hS
  unfold Oper.wp execOp
  simp only [ho, resolve, invoke, builtin, Sem.run_bind, Sem.run_pure, Result.andThen_ok, List.map_toArray, List.map_cons, List.map_nil, hs, hx, hr]
  exact h b' cap' w' h2 h3 h4
theorem wpList_append_any {ops : Array Oper} {rest : List Oper} {o : Oper} {a : Act} {Q : Exit → Act → World → Prop} (hgd : o.guard = none) (s x : Operand) (t : TypeId)
    (ho : o.op = .call { callee := .builtin .append, args := #[s, x], argTypes := #[t, t] })
    (S : Nat → Prop) (e : TypeId) (i : TypeInfo) (z : Value) (size bytes : Nat) (ht : P.underlying t = some (.slice e)) (hi : P.info? e = some i) (hz : i.zero = some z)
    (hsize : i.size = size) (hby : i.bytes = bytes) (hzs : z.cells.size = size) (v : Value) (n : Nat) (xs : List Value) (hs : a.eval s = v) (hown : Has w S e size v n xs) (a0 : Option Addr) (m c : Nat) (news : List Value) (hx : a.eval x = .slice a0 m c) (hl : news.length = m * size) (ha : a0 = none → m = 0) (hnews : ∀ ad, a0 = some ad → ∀ j u, news[j]? = some u → w.cell? (ad.add j) = some u)
    (h1 : ∀ u ∈ news, u.oneCell' = true) (h63 : n + m ≤ maxLen) (hbytes : ((n + m) + (n + m) / 4 + 192) * bytes ≤ 281474976710656) (hS : S w.heap.size)
    (h : ∀ b' cap' w', Has w' S e size (.slice b' (n + m) cap') (n + m) (xs ++ news) → w.grownBy w' v.ownBlock → (∀ k, (Value.slice b' (n + m) cap').ownBlock = some k → v.ownBlock = some k ∨ k = w.heap.size) → wpList P ops Q rest (a.put o.dst (.slice b' (n + m) cap')) w') : wpList P ops Q (o :: rest) a w :=
  wpList_plain hgd fun _ hK => wp_append_any w s x t ho S e i z size bytes ht hi hz hsize hby hzs v n xs hs hown a0 m c news hx hl ha hnews h1 h63 hbytes hS fun b' cap' w' h2 h3 h4 => hK _ _ (h b' cap' w' h2 h3 h4)
theorem step_append_any {ops : Array Oper} {o : Oper} {a : Act} {K : Act → World → Prop} {Q : Exit → Act → World → Prop} {E : Prop} (hgd : o.guard = none) (s x : Operand) (t : TypeId)
    (ho : o.op = .call { callee := .builtin .append, args := #[s, x], argTypes := #[t, t] })
    (S : Nat → Prop) (e : TypeId) (i : TypeInfo) (z : Value) (size bytes : Nat) (ht : P.underlying t = some (.slice e)) (hi : P.info? e = some i) (hz : i.zero = some z)
    (hsize : i.size = size) (hby : i.bytes = bytes) (hzs : z.cells.size = size) (v : Value) (n : Nat) (xs : List Value) (hs : a.eval s = v) (hown : Has w S e size v n xs) (a0 : Option Addr) (m c : Nat) (news : List Value) (hx : a.eval x = .slice a0 m c) (hl : news.length = m * size) (ha : a0 = none → m = 0) (hnews : ∀ ad, a0 = some ad → ∀ j u, news[j]? = some u → w.cell? (ad.add j) = some u)
    (h1 : ∀ u ∈ news, u.oneCell' = true) (h63 : n + m ≤ maxLen) (hbytes : ((n + m) + (n + m) / 4 + 192) * bytes ≤ 281474976710656) (hS : S w.heap.size)
    (h : ∀ b' cap' w', Has w' S e size (.slice b' (n + m) cap') (n + m) (xs ++ news) → w.grownBy w' v.ownBlock → (∀ k, (Value.slice b' (n + m) cap').ownBlock = some k → v.ownBlock = some k ∨ k = w.heap.size) → K (a.put o.dst (.slice b' (n + m) cap')) w') :
    if Region.wanted o (yielded ops a.tmps) = true then Oper.wp P o a w K Q else E := by
  have hw : Region.wanted o (yielded ops a.tmps) = true := by simp [Region.wanted, hgd]
  rw [if_pos hw]
  exact wp_append_any w s x t ho S e i z size bytes ht hi hz hsize hby hzs v n xs hs hown a0 m c news hx hl ha hnews h1 h63 hbytes hS h
end
end Go.Proofs.Ytegbcocbopgghab.Md
/-
  reclaimmodel.Do: the plain objects.
-/
namespace Go.Proofs.Ytegbcocbopgghab.Md
open Go.RowKit Mr Me
set_option linter.unusedVariables false
set_option linter.unusedSimpArgs false
theorem sl_one (w : World) {lo bs : Nat} (arg : Int) (h : lo + 3 ≤ w.heap.size ∧ bs < w.heap.size) : Sl (w.alloc (.cells #[.int .i64 arg] 3 (0, 0))) (fun k => (fun k => lo ≤ k) k ∧ k ≠ bs ∧ (k < lo ∨ lo + 3 ≤ k)) 1 (.slice (some ⟨w.heap.size, 0, none⟩) 1 1) ([arg] : List Int).length (ints [arg]) := by
  refine ⟨rfl, _, _, rfl, Nat.le_refl _, .inr ⟨w.heap.size, 0, rfl, ⟨by show _ ≤ _; omega, by omega, by omega⟩, by simp, fun j u hu => ?_⟩⟩
  match j, hu with
  | 0, hu => simp [ints] at hu; subst hu; exact cell_blk (new_at w _ _ rfl) 0
  | j + 1, hu => simp [ints] at hu
/-- The rows within Do. -/
def Tr (lo bs : Nat) : Nat → Prop := fun k => lo ≤ k ∧ k ≠ bs ∧ (k < lo ∨ lo + 3 ≤ k)
theorem do_pre {W w1 : World} {o : Obj} {x : Ct} {v0 v1 v2 v3 v4 : Value} (hv : CtHas w1 (fun k => W.heap.size + 3 ≤ k) v0 v1 v2 v3 v4 x) (hB : Below (W.heap.size + 3) (((W.alloc o).alloc (ctO (.slice none 0 0) (.slice none 0 0) (.slice none 0 0) (.slice none 0 0) (.slice none 0 0))).alloc (ansO 0 0)) w1) :
    Ds W (w1.alloc (ctO v0 v1 v2 v3 v4)) (fun k => W.heap.size ≤ k) w1.heap.size v0 v1 v2 v3 v4 x ∧ CtHas (w1.alloc (ctO v0 v1 v2 v3 v4)) (Tr W.heap.size w1.heap.size) v0 v1 v2 v3 v4 x := by
  have hs := hB.size
  simp only [World.size_alloc] at hs
  have B0 := (((Below.refl W.heap.size W).alloc (Nat.le_refl _) o).alloc (by simp) (ctO (.slice none 0 0) (.slice none 0 0) (.slice none 0 0) (.slice none 0 0) (.slice none 0 0))).alloc (by simp; omega) (ansO 0 0)
  have g1 := (hB.block (W.heap.size + 1) (by omega)).trans (old_at (new_at (W.alloc o) (ctO (.slice none 0 0) (.slice none 0 0) (.slice none 0 0) (.slice none 0 0) (.slice none 0 0)) _ (by simp)) (ansO 0 0))
  have g2 := (hB.block (W.heap.size + 2) (by omega)).trans (new_at ((W.alloc o).alloc (ctO (.slice none 0 0) (.slice none 0 0) (.slice none 0 0) (.slice none 0 0) (.slice none 0 0))) (ansO 0 0) _ (by simp))
  have B1 := B0.trans (hB.mono (by omega))
  have keep : ∀ {e size m : Nat} {v : Value} {xs : List Value}, Has w1 (fun k => W.heap.size + 3 ≤ k) e size v m xs → Has (w1.alloc (ctO v0 v1 v2 v3 v4)) (Tr W.heap.size w1.heap.size) e size v m xs := fun {e size m v xs} hh => hh.kept (fun k hk => Below.heap_alloc w1 _ k (hh.lt k hk).2) (fun k hk => by have := (hh.lt k hk); unfold Tr; omega)
  have H : CtHas (w1.alloc (ctO v0 v1 v2 v3 v4)) (Tr W.heap.size w1.heap.size) v0 v1 v2 v3 v4 x := ⟨keep hv.cell, keep hv.stack, keep hv.queue, keep hv.set, keep hv.table⟩
  exact ⟨⟨B1.alloc B1.size _, old_at g1 _, old_at g2 _, new_at _ _ _ rfl, .inr (by omega), H.at⟩, H⟩
/-- A row without its first one. -/
theorem sl_tail {w : World} {T : Nat → Prop} {e : TypeId} {g cap : Nat} {l : List Int} (h : Has w T e 1 (.slice (some ⟨g, 0, none⟩) l.length cap) l.length (ints l)) (hn : 0 < l.length) (a : Option Addr) (ha : l.length = 1 ∨ a = some ⟨g, 1, none⟩) :
    Sl w T 1 (.slice a (l.length - 1) (cap - 1)) (l.drop 1).length (ints (l.drop 1)) := by
  obtain ⟨hS, hl⟩ := h.lt g rfl
  obtain ⟨_, _, e', hc⟩ := h.form
  cases e'
  refine ⟨by simp [ints], a, cap - 1, by simp, by simp; omega, ?_⟩
  rcases ha with ha | rfl
  · exact .inl (by simp; omega)
  · refine .inr ⟨g, 1, rfl, hS, hl, fun j u hu => ?_⟩
    refine h.cells rfl (1 + j) u ?_
    rw [← hu]
    simp [ints, Nat.add_comm]
theorem has_one {w : World} {S : Nat → Prop} (arg : Int) (hS : S w.heap.size) : Has (w.alloc (.cells #[.int .i64 arg] 3 (0, 0))) S 3 1 (.slice (some ⟨w.heap.size, 0, none⟩) 1 1) 1 [.int .i64 arg] :=
  ⟨rfl, .inr ⟨w.heap.size, 1, #[.int .i64 arg], rfl, hS, new_at w _ _ rfl, Nat.le_refl _, by decide, by simp, by simp⟩⟩
theorem CtHas.alloc' {W : World} {S : Nat → Prop} {v0 v1 v2 v3 v4 : Value} {x : Ct} (h : CtHas W S v0 v1 v2 v3 v4 x) (o : Obj) : CtHas (W.alloc o) S v0 v1 v2 v3 v4 x := ⟨h.cell.alloc o, h.stack.alloc o, h.queue.alloc o, h.set.alloc o, h.table.alloc o⟩
theorem Ds.app_box {W w w' : World} {bs : Nat} {v0 v1 v2 v3 v4 : Value} {y : Ct} (h : Ds W w (fun k => W.heap.size ≤ k) bs v0 v1 v2 v3 v4 y) (hH : CtHas w (Tr W.heap.size bs) v0 v1 v2 v3 v4 y) (hg : w.grownBy w' v2.ownBlock) :
    w'.heap[bs]? = some (ctO v0 v1 v2 v3 v4) ∧ True := by
  refine ⟨(hg.block bs (Array.getElem?_eq_some_iff.1 h.box).1 (fun e => ?_)).trans h.box, trivial⟩
  have := (hH.queue.lt bs e.symm).1
  unfold Tr at this
  omega
theorem Ds.app {W w w' : World} {bs : Nat} {v0 v1 v2 v3 v4 : Value} {y : Ct} {arg : Int} (h : Ds W w (fun k => W.heap.size ≤ k) bs v0 v1 v2 v3 v4 y) (hH : CtHas w (Tr W.heap.size bs) v0 v1 v2 v3 v4 y) (hJ : Dj v0 v1 v2 v3 v4) (hg : w.grownBy w' v2.ownBlock) {v' : Value}
    (hs : Has w' (Tr W.heap.size bs) 3 1 v' (y.queue.length + 1) (ints y.queue ++ [.int .i64 arg])) : Ds W (w'.setCell ⟨bs, 2, none⟩ v') (fun k => W.heap.size ≤ k) bs v0 v1 v' v3 v4 { y with queue := y.queue ++ [arg] } := by
  have hq : ∀ k, v2.ownBlock = some k → W.heap.size + 3 ≤ k ∧ k ≠ bs := fun k hk => by have := (hH.queue.lt k hk).1; unfold Tr at this; omega
  have hbel : Below W.heap.size W w' := h.bel.grown hg h.bel.size (fun k e => by have := hq k e; omega)
  have hbx := (Ds.app_box h hH hg).1
  have ha := h.apart
  have hfr : Fr w' (w'.setCell ⟨bs, 2, none⟩ v') (fun q => q = bs) := (Fr.refl w' _).setCell ⟨bs, 2, none⟩ v' (Or.inl rfl)
  have hd : ∀ k, Tr W.heap.size bs k → k < w'.heap.size → ¬ (fun q => q = bs) k := fun k hk _ e => hk.2.1 e
  have g : ∀ {e size m : Nat} {v : Value} {xs : List Value}, Has w (Tr W.heap.size bs) e size v m xs → (∀ k, v.ownBlock = some k → v2.ownBlock ≠ some k) → Sl (w'.setCell ⟨bs, 2, none⟩ v') (Tr W.heap.size bs) size v m xs := fun {e size m v xs} hh hn => (Sl.of_has (hh.grown hg hn)).fr hfr hd
  have hb2 := setBlk hbx 2 v'
  refine ⟨hbel.setCell (p := ⟨bs, 2, none⟩) (by show _ ≤ bs; omega) v', (Below.heap_setCell w' ⟨bs, 2, none⟩ v' _ (by show _ ≠ bs; omega)).trans ((hg.block _ (Array.getElem?_eq_some_iff.1 h.res).1 (fun e => by have := hq _ e.symm; omega)).trans h.res), (Below.heap_setCell w' ⟨bs, 2, none⟩ v' _ (by show _ ≠ bs; omega)).trans ((hg.block _ (Array.getElem?_eq_some_iff.1 h.ans).1 (fun e => by have := hq _ e.symm; omega)).trans h.ans), hb2, h.apart, ?_⟩
  refine ⟨g hH.cell (fun k hk e => (hJ k e).1 hk), g hH.stack (fun k hk e => (hJ k e).2.1 hk), ?_, g hH.set (fun k hk e => (hJ k e).2.2.1 hk), g hH.table (fun k hk e => (hJ k e).2.2.2 hk)⟩
  have := (Sl.of_has hs).fr hfr hd
  show Sl _ (Tr W.heap.size bs) 1 v' _ _
  simpa [ints] using this
theorem far5 {w : World} {b : Nat} {v0 v1 v2 v3 v4 u : Value} {g o : Nat} (h : w.cell? ⟨g, o, none⟩ = some u) (hg : g ≠ b) : (set5 w b v0 v1 v2 v3 v4).cell? ⟨g, o, none⟩ = some u := by
  rw [← h]
  have := set5_far w b v0 v1 v2 v3 v4 g hg
  simp [World.cell?, this]
theorem far7 {w : World} {b c : Nat} {v0 v1 v2 v3 v4 u : Value} {k v : Int} {g o : Nat} (h : w.cell? ⟨g, o, none⟩ = some u) (hg : g ≠ b) (hc : g ≠ c) : (set7 w b v0 v1 v2 v3 v4 c k v).cell? ⟨g, o, none⟩ = some u := by
  have h5 := far5 (v0 := v0) (v1 := v1) (v2 := v2) (v3 := v3) (v4 := v4) h hg
  rw [← h5]
  have e : (set7 w b v0 v1 v2 v3 v4 c k v).heap[g]? = (set5 w b v0 v1 v2 v3 v4).heap[g]? := by
    unfold set7
    rw [Below.heap_setCell _ _ _ g (by show g ≠ c; exact hc), Below.heap_setCell _ _ _ g (by show g ≠ c; exact hc)]
  simp [World.cell?, e]
theorem top_e {l : List Int} (h : l = []) : top l = (3, 0) := by subst h; rfl
theorem top_n {l : List Int} (h : 0 < l.length) : top l = (2, l[0]?.getD 0) := by
  unfold top; rw [if_neg (by intro e; subst e; simp at h)]
theorem dan_23e {x : Ct} (h : x.cell = []) (arg : Int) : dan x 23 arg = (3, 0) := by show top x.cell = _; exact top_e h
theorem dan_31e {x : Ct} (h : x.stack = []) (arg : Int) : dan x 31 arg = (3, 0) := by show top x.stack = _; exact top_e h
theorem dan_41e {x : Ct} (h : x.queue = []) (arg : Int) : dan x 41 arg = (3, 0) := by show top x.queue = _; exact top_e h
theorem dan_23n {x : Ct} (h : 0 < x.cell.length) (arg : Int) : dan x 23 arg = (2, x.cell[0]?.getD 0) := by show top x.cell = _; exact top_n h
theorem dan_31n {x : Ct} (h : 0 < x.stack.length) (arg : Int) : dan x 31 arg = (2, x.stack[0]?.getD 0) := by show top x.stack = _; exact top_n h
theorem dan_41n {x : Ct} (h : 0 < x.queue.length) (arg : Int) : dan x 41 arg = (2, x.queue[0]?.getD 0) := by show top x.queue = _; exact top_n h
theorem dnx_23e {x : Ct} (h : x.cell = []) (arg data : Int) : dnx x 23 arg data = x := rfl
theorem dnx_31e {x : Ct} (h : x.stack = []) (arg data : Int) : dnx x 31 arg data = x := by show { x with stack := x.stack.drop 1 } = x; rw [h]; cases x; simp at h; subst h; rfl
theorem dnx_41e {x : Ct} (h : x.queue = []) (arg data : Int) : dnx x 41 arg data = x := by show { x with queue := x.queue.drop 1 } = x; rw [h]; cases x; simp at h; subst h; rfl
set_option maxRecDepth 100000 in
set_option maxHeartbeats 8000000 in
theorem do_22 {W : World} {S : Nat → Prop} {u0 u1 u2 u3 u4 : Value} {x : Ct} (hu : CtAt W S u0 u1 u2 u3 u4 x) (hin : CtIn 225000000000000 x) (arg data : Int) :
    Calls Try.prog 44 #[.agg #[u0, u1, u2, u3, u4], .int .i64 22, .int .i64 arg, .int .i64 data] W fun e w' => ∃ v0 v1 v2 v3 v4, e = .returned (.tuple #[.agg #[v0, v1, v2, v3, v4], ans (dan x 22 arg).1 (dan x 22 arg).2]) ∧ CtAt w' (fun k => W.heap.size ≤ k) v0 v1 v2 v3 v4 (dnx x 22 arg data) ∧ Below W.heap.size W w' := by
  have C := fun w' (hB : Below W.heap.size W w') => copy_any (hu.below hB) hin
  obtain ⟨a0, c0, rfl, _⟩ := hu.cell.form
  obtain ⟨a1, c1, rfl, _⟩ := hu.stack.form
  obtain ⟨a2, c2, rfl, _⟩ := hu.queue.form
  obtain ⟨a3, c3, rfl, _⟩ := hu.set.form
  obtain ⟨a4, c4, rfl, _⟩ := hu.table.form
  have B0 := (((Below.refl W.heap.size W).alloc (Nat.le_refl _) (ctO (.slice a0 x.cell.length c0) (.slice a1 x.stack.length c1) (.slice a2 x.queue.length c2) (.slice a3 x.set.length c3) (.slice a4 x.table.length c4))).alloc (by simp) nil5).alloc (by simp; omega) (ansO 0 0)
  have DP := fun w1 v0 v1 v2 v3 v4 (hv : CtHas w1 (fun k => W.heap.size + 3 ≤ k) v0 v1 v2 v3 v4 x) => do_pre (W := W) (w1 := w1) (o := ctO (.slice a0 x.cell.length c0) (.slice a1 x.stack.length c1) (.slice a2 x.queue.length c2) (.slice a3 x.set.length c3) (.slice a4 x.table.length c4)) hv
  have BX := fun w1 (hB : Below (W.heap.size + 3) (((W.alloc (ctO (.slice a0 x.cell.length c0) (.slice a1 x.stack.length c1) (.slice a2 x.queue.length c2) (.slice a3 x.set.length c3) (.slice a4 x.table.length c4))).alloc nil5).alloc (ansO 0 0)) w1) => (show W.heap.size + 3 ≤ w1.heap.size from by have := hB.size; simp only [World.size_alloc] at this; omega)
  clear hu
  unfold nil5 ctO ansO at B0 BX
  unfold ctO ansO at DP
  replace C := Mr.hid C
  replace B0 := Mr.hid B0
  replace BX := Mr.hid BX
  replace DP := Mr.hid DP
  go_enter Try.func44, Try.ntmps44
  go_upto_region 2 with (go_at_call 40; refine (C.out _ B0.out).mono ?_; clear C; rintro e w1 ⟨v0, v1, v2, v3, v4, rfl, hv, hJ, hB1⟩; simp only [World.size_alloc] at hB1 hv; have hsz := BX.out w1 hB1; obtain ⟨hD, hH⟩ := DP.out _ _ _ _ _ _ hv hB1; clear DP BX; obtain ⟨pv0, qv0, rfl, _⟩ := hv.cell.form; obtain ⟨pv1, qv1, rfl, _⟩ := hv.stack.form; obtain ⟨pv2, qv2, rfl, _⟩ := hv.queue.form; obtain ⟨pv3, qv3, rfl, _⟩ := hv.set.form; obtain ⟨pv4, qv4, rfl, _⟩ := hv.table.form; clear hv hB1 B0; replace hD := Mr.hid hD; replace hH := Mr.hid hH; replace hJ := Mr.hid hJ)
  rw [show W.heap.size + 1 + 1 = W.heap.size + 2 from rfl]
  obtain ⟨bs, hbs⟩ : ∃ b, b = w1.heap.size := ⟨_, rfl⟩
  rw [← hbs] at hD hH ⊢
  have hlt : bs < (w1.alloc (ctO (.slice pv0 x.cell.length qv0) (.slice pv1 x.stack.length qv1) (.slice pv2 x.queue.length qv2) (.slice pv3 x.set.length qv3) (.slice pv4 x.table.length qv4))).heap.size := by rw [World.size_alloc]; omega
  unfold ctO at hlt
  generalize w1.alloc (.cells #[.slice pv0 x.cell.length qv0, .slice pv1 x.stack.length qv1, .slice pv2 x.queue.length qv2, .slice pv3 x.set.length qv3, .slice pv4 x.table.length qv4] 25 (0, 0)) = w2 at *
  have hb3 : W.heap.size + 3 ≤ bs := by omega
  clear hsz hbs w1
  obtain ⟨k0, k1, k2, k3, k4, -⟩ := ctO_cells hD.out.box
  obtain ⟨f0, f1, f2, f3, f4⟩ := ctO_thaw hD.out.box
  go_upto_region 5 with (fail)
  have hD3 := (hD.out.alloc (.cells #[.int .i64 arg] 3 (0, 0))).put0 (l := [arg]) (v' := .slice (some ⟨w2.heap.size, 0, none⟩) 1 1) (sl_one w2 arg ⟨by omega, hlt⟩)
  rw [World.setCell_alloc_past _ _ _ _ hlt] at hD3
  clear hD hH hJ k0 k1 k2 k3 k4 f0 f1 f2 f3 f4 hlt
  generalize hp : (some { block := w2.heap.size, off := 0 } : Option Addr) = pv at *
  generalize ((w2.setCell { block := bs, off := 0 } (Value.slice pv 1 1)).alloc (Obj.cells #[Value.int IntKind.i64 arg] 3)) = w3 at *
  clear hp w2
  obtain ⟨k0, k1, k2, k3, k4, hlt⟩ := ctO_cells hD3.box
  replace hD3 := Mr.hid hD3
  go_region_held3 (fun w' => w'.cell? ⟨bs, 0, none⟩ = some (.slice pv 1 1) ∧ w'.cell? ⟨bs, 1, none⟩ = some (.slice pv1 x.stack.length qv1) ∧ w'.cell? ⟨bs, 2, none⟩ = some (.slice pv2 x.queue.length qv2) ∧ w'.cell? ⟨bs, 3, none⟩ = some (.slice pv3 x.set.length qv3) ∧ w'.cell? ⟨bs, 4, none⟩ = some (.slice pv4 x.table.length qv4)) (first | with_reducible exact K5.out | with_reducible exact K7.out | go_keep) (first | (go_at_call 55; refine (kind_any 1 _).mono ?_; rintro e w4 ⟨rfl, hB4⟩; have hD4 := hD3.out.drew.below hB4; clear hB4; unfold ans; obtain ⟨K5, K7⟩ := hD4.held 1 0; unfold set7 set5 at K7; unfold set5 at K5; replace K5 := Mr.hid K5; replace K7 := Mr.hid K7; obtain ⟨k0, k1, k2, k3, k4, hlt⟩ := ctO_cells hD4.box; obtain ⟨r0, r1, r2, r3, r4, hr⟩ := ctO_cells hD4.res; obtain ⟨f0, f1, f2, f3, f4⟩ := ctO_thaw hD4.res; obtain ⟨s0, s1, hs, s2, s3⟩ := ansO_cells hD4.ans; replace hD4 := Mr.hid hD4))
  obtain ⟨e1, e2, e3, e4⟩ := hD4.out.ends 1 0
  obtain ⟨d0, d1, d2, d3, d4, -⟩ := ctO_cells e3
  obtain ⟨g0, g1, -, -, -⟩ := ansO_cells e4
  unfold set7 set5 at e1 e2 d0 d1 d2 d3 d4 g0 g1
  replace e1 := Mr.hid e1
  replace e2 := Mr.hid e2
  clear e3 e4 hD4 K5 K7 k0 k1 k2 k3 k4 r0 r1 r2 r3 r4 f0 f1 f2 f3 f4 s0 s1 s2 s3
  go_wp2
  refine bodyPost_ret (v := .tuple #[.agg #[.slice pv 1 1, .slice pv1 x.stack.length qv1, .slice pv2 x.queue.length qv2, .slice pv3 x.set.length qv3, .slice pv4 x.table.length qv4], .agg #[.int .i64 1, .int .i64 0]]) (by simp [results, Try.results44, go_sem, d0, d1, d2, d3, d4, g0, g1]) rfl ?_
  exact ⟨_, _, _, _, _, rfl, e1.out, e2.out⟩
set_option maxRecDepth 100000 in
set_option maxHeartbeats 8000000 in
theorem do_30 {W : World} {S : Nat → Prop} {u0 u1 u2 u3 u4 : Value} {x : Ct} (hu : CtAt W S u0 u1 u2 u3 u4 x) (hin : CtIn 225000000000000 x) (arg data : Int) :
    Calls Try.prog 44 #[.agg #[u0, u1, u2, u3, u4], .int .i64 30, .int .i64 arg, .int .i64 data] W fun e w' => ∃ v0 v1 v2 v3 v4, e = .returned (.tuple #[.agg #[v0, v1, v2, v3, v4], ans (dan x 30 arg).1 (dan x 30 arg).2]) ∧ CtAt w' (fun k => W.heap.size ≤ k) v0 v1 v2 v3 v4 (dnx x 30 arg data) ∧ Below W.heap.size W w' := by
  have C := fun w' (hB : Below W.heap.size W w') => copy_any (hu.below hB) hin
  obtain ⟨a0, c0, rfl, _⟩ := hu.cell.form
  obtain ⟨a1, c1, rfl, _⟩ := hu.stack.form
  obtain ⟨a2, c2, rfl, _⟩ := hu.queue.form
  obtain ⟨a3, c3, rfl, _⟩ := hu.set.form
  obtain ⟨a4, c4, rfl, _⟩ := hu.table.form
  have B0 := (((Below.refl W.heap.size W).alloc (Nat.le_refl _) (ctO (.slice a0 x.cell.length c0) (.slice a1 x.stack.length c1) (.slice a2 x.queue.length c2) (.slice a3 x.set.length c3) (.slice a4 x.table.length c4))).alloc (by simp) nil5).alloc (by simp; omega) (ansO 0 0)
  have DP := fun w1 v0 v1 v2 v3 v4 (hv : CtHas w1 (fun k => W.heap.size + 3 ≤ k) v0 v1 v2 v3 v4 x) => do_pre (W := W) (w1 := w1) (o := ctO (.slice a0 x.cell.length c0) (.slice a1 x.stack.length c1) (.slice a2 x.queue.length c2) (.slice a3 x.set.length c3) (.slice a4 x.table.length c4)) hv
  have BX := fun w1 (hB : Below (W.heap.size + 3) (((W.alloc (ctO (.slice a0 x.cell.length c0) (.slice a1 x.stack.length c1) (.slice a2 x.queue.length c2) (.slice a3 x.set.length c3) (.slice a4 x.table.length c4))).alloc nil5).alloc (ansO 0 0)) w1) => (show W.heap.size + 3 ≤ w1.heap.size from by have := hB.size; simp only [World.size_alloc] at this; omega)
  clear hu
  unfold nil5 ctO ansO at B0 BX
  unfold ctO ansO at DP
  replace C := Mr.hid C
  replace B0 := Mr.hid B0
  replace BX := Mr.hid BX
  replace DP := Mr.hid DP
  go_enter Try.func44, Try.ntmps44
  go_upto_region 2 with (go_at_call 40; refine (C.out _ B0.out).mono ?_; clear C; rintro e w1 ⟨v0, v1, v2, v3, v4, rfl, hv, hJ, hB1⟩; simp only [World.size_alloc] at hB1 hv; have hsz := BX.out w1 hB1; obtain ⟨hD, hH⟩ := DP.out _ _ _ _ _ _ hv hB1; clear DP BX; obtain ⟨pv0, qv0, rfl, _⟩ := hv.cell.form; obtain ⟨pv1, qv1, rfl, _⟩ := hv.stack.form; obtain ⟨pv2, qv2, rfl, _⟩ := hv.queue.form; obtain ⟨pv3, qv3, rfl, _⟩ := hv.set.form; obtain ⟨pv4, qv4, rfl, _⟩ := hv.table.form; clear hv hB1 B0; replace hD := Mr.hid hD; replace hH := Mr.hid hH; replace hJ := Mr.hid hJ)
  rw [show W.heap.size + 1 + 1 = W.heap.size + 2 from rfl]
  obtain ⟨bs, hbs⟩ : ∃ b, b = w1.heap.size := ⟨_, rfl⟩
  rw [← hbs] at hD hH ⊢
  have hlt : bs < (w1.alloc (ctO (.slice pv0 x.cell.length qv0) (.slice pv1 x.stack.length qv1) (.slice pv2 x.queue.length qv2) (.slice pv3 x.set.length qv3) (.slice pv4 x.table.length qv4))).heap.size := by rw [World.size_alloc]; omega
  unfold ctO at hlt
  generalize w1.alloc (.cells #[.slice pv0 x.cell.length qv0, .slice pv1 x.stack.length qv1, .slice pv2 x.queue.length qv2, .slice pv3 x.set.length qv3, .slice pv4 x.table.length qv4] 25 (0, 0)) = w2 at *
  have hb3 : W.heap.size + 3 ≤ bs := by omega
  clear hsz hbs w1
  obtain ⟨k0, k1, k2, k3, k4, -⟩ := ctO_cells hD.out.box
  obtain ⟨f0, f1, f2, f3, f4⟩ := ctO_thaw hD.out.box
  obtain ⟨ii, p1, p2, p3, p4⟩ := info_parts info_i
  have hin' := hin.stack
  clear hin
  obtain ⟨asrc, csrc, es, na, nb⟩ := (Sl.of_has hH.out.stack).src
  cases es
  have o1 := one_ints x.stack
  have e1 : (ints x.stack).length = x.stack.length * 1 := by simp [ints]
  have own := has_one (w := w2) (S := Tr W.heap.size bs) arg (by unfold Tr; omega)
  have BB := fun (w3 : World) (hg : (w2.alloc (.cells #[.int .i64 arg] 3 (0, 0))).grownBy w3 (some w2.heap.size)) => (((Below.refl w2.heap.size w2).alloc (Nat.le_refl _) _).grown hg (by simp) (by simp) : Below w2.heap.size w2 w3)
  have hT : Tr W.heap.size bs (w2.heap.size + 1) := by unfold Tr; omega
  replace own := Mr.hid own
  replace BB := Mr.hid BB
  replace na := Mr.hid na
  replace nb := Mr.hid nb
  replace o1 := Mr.hid o1
  replace e1 := Mr.hid e1
  replace hT := Mr.hid hT
  have B1 := Mr.hid ((Below.refl w2.heap.size w2).alloc (Nat.le_refl _) (.cells #[.int .i64 arg] 3 (0, 0)))
  clear hJ
  go_upto_region 12 with (first | (at_builtin; refine wpList_append_any _ rfl (.tmp 40) (.tmp 42) 22 rfl (Tr W.heap.size bs) 3 ii _ 1 8 Try.underlying22 p1 p2 p3 p4 rfl (.slice (some ⟨w2.heap.size, 0, none⟩) 1 1) 1 [.int .i64 arg] rfl own.out pv1 x.stack.length qv1 (ints x.stack) rfl e1.out na.out (nb.out _ B1.out) o1.out (by unfold maxLen; omega) (by omega) (by simpa using hT.out) ?_; intro b3 c3' w3 hown3 hg3 hat3; clear hat3; have hD3 := hD.out.below (BB.out w3 hg3); have hlt3 : bs < w3.heap.size := (Array.getElem?_eq_some_iff.1 hD3.box).1; obtain ⟨k0, k1, k2, k3, k4, -⟩ := ctO_cells hD3.box; obtain ⟨f0, f1, f2, f3, f4⟩ := ctO_thaw hD3.box; replace hD3 := Mr.hid hD3; replace hown3 := Mr.hid hown3; clear hg3))
  have hD4 := hD3.out.put1 (l := arg :: x.stack) (v' := .slice b3 (1 + x.stack.length) c3') (by have := Sl.of_has hown3.out; unfold Tr at this; simpa [ints, Nat.add_comm] using this)
  clear hD hH hD3 hown3 k0 k1 k2 k3 k4 f0 f1 f2 f3 f4 hlt hlt3 own BB na nb o1 e1 hT B1 p1 p2 p3 p4 hin'
  generalize 1 + x.stack.length = nm at *
  generalize (w3.setCell { block := bs, off := 1 } (Value.slice b3 nm c3')) = w5 at *
  obtain ⟨k0, k1, k2, k3, k4, hlt⟩ := ctO_cells hD4.box
  replace hD4 := Mr.hid hD4
  go_region_held3 (fun w' => w'.cell? ⟨bs, 0, none⟩ = some (.slice pv0 x.cell.length qv0) ∧ w'.cell? ⟨bs, 1, none⟩ = some (.slice b3 nm c3') ∧ w'.cell? ⟨bs, 2, none⟩ = some (.slice pv2 x.queue.length qv2) ∧ w'.cell? ⟨bs, 3, none⟩ = some (.slice pv3 x.set.length qv3) ∧ w'.cell? ⟨bs, 4, none⟩ = some (.slice pv4 x.table.length qv4)) (first | with_reducible exact K5.out | with_reducible exact K7.out | go_keep) (first | (go_at_call 55; refine (kind_any 1 _).mono ?_; rintro e w4 ⟨rfl, hB4⟩; have hD6 := hD4.out.drew.below hB4; clear hB4; unfold ans; obtain ⟨K5, K7⟩ := hD6.held 1 0; unfold set7 set5 at K7; unfold set5 at K5; replace K5 := Mr.hid K5; replace K7 := Mr.hid K7; obtain ⟨k0, k1, k2, k3, k4, hlt⟩ := ctO_cells hD6.box; obtain ⟨r0, r1, r2, r3, r4, hr⟩ := ctO_cells hD6.res; obtain ⟨f0, f1, f2, f3, f4⟩ := ctO_thaw hD6.res; obtain ⟨s0, s1, hs, s2, s3⟩ := ansO_cells hD6.ans; replace hD6 := Mr.hid hD6))
  obtain ⟨e1, e2, e3, e4⟩ := hD6.out.ends 1 0
  obtain ⟨d0, d1, d2, d3, d4, -⟩ := ctO_cells e3
  obtain ⟨g0, g1, -, -, -⟩ := ansO_cells e4
  unfold set7 set5 at e1 e2 d0 d1 d2 d3 d4 g0 g1
  replace e1 := Mr.hid e1
  replace e2 := Mr.hid e2
  clear e3 e4 hD6 K5 K7 k0 k1 k2 k3 k4 r0 r1 r2 r3 r4 f0 f1 f2 f3 f4 s0 s1 s2 s3
  go_wp2
  refine bodyPost_ret (v := .tuple #[.agg #[.slice pv0 x.cell.length qv0, .slice b3 nm c3', .slice pv2 x.queue.length qv2, .slice pv3 x.set.length qv3, .slice pv4 x.table.length qv4], .agg #[.int .i64 1, .int .i64 0]]) (by simp [results, Try.results44, go_sem, d0, d1, d2, d3, d4, g0, g1]) rfl ?_
  exact ⟨_, _, _, _, _, rfl, e1.out, e2.out⟩
set_option maxRecDepth 100000 in
set_option maxHeartbeats 8000000 in
theorem do_40 {W : World} {S : Nat → Prop} {u0 u1 u2 u3 u4 : Value} {x : Ct} (hu : CtAt W S u0 u1 u2 u3 u4 x) (hin : CtIn 225000000000000 x) (arg data : Int) :
    Calls Try.prog 44 #[.agg #[u0, u1, u2, u3, u4], .int .i64 40, .int .i64 arg, .int .i64 data] W fun e w' => ∃ v0 v1 v2 v3 v4, e = .returned (.tuple #[.agg #[v0, v1, v2, v3, v4], ans (dan x 40 arg).1 (dan x 40 arg).2]) ∧ CtAt w' (fun k => W.heap.size ≤ k) v0 v1 v2 v3 v4 (dnx x 40 arg data) ∧ Below W.heap.size W w' := by
  have C := fun w' (hB : Below W.heap.size W w') => copy_any (hu.below hB) hin
  obtain ⟨a0, c0, rfl, _⟩ := hu.cell.form
  obtain ⟨a1, c1, rfl, _⟩ := hu.stack.form
  obtain ⟨a2, c2, rfl, _⟩ := hu.queue.form
  obtain ⟨a3, c3, rfl, _⟩ := hu.set.form
  obtain ⟨a4, c4, rfl, _⟩ := hu.table.form
  have B0 := (((Below.refl W.heap.size W).alloc (Nat.le_refl _) (ctO (.slice a0 x.cell.length c0) (.slice a1 x.stack.length c1) (.slice a2 x.queue.length c2) (.slice a3 x.set.length c3) (.slice a4 x.table.length c4))).alloc (by simp) nil5).alloc (by simp; omega) (ansO 0 0)
  have DP := fun w1 v0 v1 v2 v3 v4 (hv : CtHas w1 (fun k => W.heap.size + 3 ≤ k) v0 v1 v2 v3 v4 x) => do_pre (W := W) (w1 := w1) (o := ctO (.slice a0 x.cell.length c0) (.slice a1 x.stack.length c1) (.slice a2 x.queue.length c2) (.slice a3 x.set.length c3) (.slice a4 x.table.length c4)) hv
  have BX := fun w1 (hB : Below (W.heap.size + 3) (((W.alloc (ctO (.slice a0 x.cell.length c0) (.slice a1 x.stack.length c1) (.slice a2 x.queue.length c2) (.slice a3 x.set.length c3) (.slice a4 x.table.length c4))).alloc nil5).alloc (ansO 0 0)) w1) => (show W.heap.size + 3 ≤ w1.heap.size from by have := hB.size; simp only [World.size_alloc] at this; omega)
  clear hu
  unfold nil5 ctO ansO at B0 BX
  unfold ctO ansO at DP
  replace C := Mr.hid C
  replace B0 := Mr.hid B0
  replace BX := Mr.hid BX
  replace DP := Mr.hid DP
  go_enter Try.func44, Try.ntmps44
  go_upto_region 2 with (go_at_call 40; refine (C.out _ B0.out).mono ?_; clear C; rintro e w1 ⟨v0, v1, v2, v3, v4, rfl, hv, hJ, hB1⟩; simp only [World.size_alloc] at hB1 hv; have hsz := BX.out w1 hB1; obtain ⟨hD, hH⟩ := DP.out _ _ _ _ _ _ hv hB1; clear DP BX; obtain ⟨pv0, qv0, rfl, _⟩ := hv.cell.form; obtain ⟨pv1, qv1, rfl, _⟩ := hv.stack.form; obtain ⟨pv2, qv2, rfl, _⟩ := hv.queue.form; obtain ⟨pv3, qv3, rfl, _⟩ := hv.set.form; obtain ⟨pv4, qv4, rfl, _⟩ := hv.table.form; clear hv hB1 B0; replace hD := Mr.hid hD; replace hH := Mr.hid hH; replace hJ := Mr.hid hJ)
  rw [show W.heap.size + 1 + 1 = W.heap.size + 2 from rfl]
  obtain ⟨bs, hbs⟩ : ∃ b, b = w1.heap.size := ⟨_, rfl⟩
  rw [← hbs] at hD hH ⊢
  have hlt : bs < (w1.alloc (ctO (.slice pv0 x.cell.length qv0) (.slice pv1 x.stack.length qv1) (.slice pv2 x.queue.length qv2) (.slice pv3 x.set.length qv3) (.slice pv4 x.table.length qv4))).heap.size := by rw [World.size_alloc]; omega
  unfold ctO at hlt
  generalize w1.alloc (.cells #[.slice pv0 x.cell.length qv0, .slice pv1 x.stack.length qv1, .slice pv2 x.queue.length qv2, .slice pv3 x.set.length qv3, .slice pv4 x.table.length qv4] 25 (0, 0)) = w2 at *
  have hb3 : W.heap.size + 3 ≤ bs := by omega
  clear hsz hbs w1
  obtain ⟨k0, k1, k2, k3, k4, -⟩ := ctO_cells hD.out.box
  obtain ⟨f0, f1, f2, f3, f4⟩ := ctO_thaw hD.out.box
  obtain ⟨ii, p1, p2, p3, p4⟩ := info_parts info_i
  have hin' := hin.queue
  clear hin
  have own := hH.out.queue.alloc (.cells #[.int .i64 arg] 3 (0, 0))
  have AP := fun (w3 : World) (hg : (w2.alloc (.cells #[.int .i64 arg] 3 (0, 0))).grownBy w3 (Value.slice pv2 x.queue.length qv2).ownBlock) (v' : Value) (hs : Has w3 (Tr W.heap.size bs) 3 1 v' (x.queue.length + 1) (ints x.queue ++ [.int .i64 arg])) => Ds.app (hD.out.alloc (.cells #[.int .i64 arg] 3 (0, 0))) (hH.out.alloc' (.cells #[.int .i64 arg] 3 (0, 0))) hJ.out hg (arg := arg) hs
  have hT : Tr W.heap.size bs (w2.heap.size + 1) := by unfold Tr; omega
  have nw : ∀ j u, ([.int .i64 arg] : List Value)[j]? = some u → (w2.alloc (.cells #[.int .i64 arg] 3 (0, 0))).cell? ((⟨w2.heap.size, 0, none⟩ : Addr).add j) = some u := fun j u hu => by
    match j, hu with
    | 0, hu => simp at hu; subst hu; rw [add1]; exact cell_blk (new_at w2 _ _ rfl) 0
    | j + 1, hu => simp at hu
  replace own := Mr.hid own
  replace AP := Mr.hid AP
  replace hT := Mr.hid hT
  replace nw := Mr.hid nw
  clear hJ
  go_upto_region 21 with (first | (at_builtin; refine wpList_append_has _ rfl (.tmp 69) (.tmp 71) 22 rfl (Tr W.heap.size bs) 3 ii _ 1 8 Try.underlying22 p1 p2 p3 p4 rfl (.slice pv2 x.queue.length qv2) x.queue.length (ints x.queue) rfl own.out ⟨w2.heap.size, 0, none⟩ 1 1 [.int .i64 arg] rfl rfl nw.out (by simp [Value.oneCell']) (by omega) (by unfold maxLen; omega) (by omega) (by simpa using hT.out) ?_; intro g3 c3' w3 hown3 hg3 hat3; clear hat3; have hD3 := AP.out w3 hg3 _ hown3; obtain ⟨kb, ks⟩ := Ds.app_box (hD.out.alloc (.cells #[.int .i64 arg] 3 (0, 0))) (hH.out.alloc' (.cells #[.int .i64 arg] 3 (0, 0))) hg3; obtain ⟨k0, k1, k2, k3, k4, hlt3⟩ := ctO_cells kb; obtain ⟨f0, f1, f2, f3, f4⟩ := ctO_thaw kb; replace hD3 := Mr.hid hD3; clear hg3 hown3 kb))
  have hD4 := hD3.out
  clear hD hH hD3 k0 k1 k2 k3 k4 f0 f1 f2 f3 f4 hlt hlt3 own AP nw hT p1 p2 p3 p4 hin' ks
  generalize x.queue.length + 1 = nm at *
  generalize (some { block := g3, off := 0 } : Option Addr) = b3 at *
  generalize (w3.setCell { block := bs, off := 2 } (Value.slice b3 nm c3')) = w5 at *
  obtain ⟨k0, k1, k2, k3, k4, hlt⟩ := ctO_cells hD4.box
  replace hD4 := Mr.hid hD4
  go_region_held3 (fun w' => w'.cell? ⟨bs, 0, none⟩ = some (.slice pv0 x.cell.length qv0) ∧ w'.cell? ⟨bs, 1, none⟩ = some (.slice pv1 x.stack.length qv1) ∧ w'.cell? ⟨bs, 2, none⟩ = some (.slice b3 nm c3') ∧ w'.cell? ⟨bs, 3, none⟩ = some (.slice pv3 x.set.length qv3) ∧ w'.cell? ⟨bs, 4, none⟩ = some (.slice pv4 x.table.length qv4)) (first | with_reducible exact K5.out | with_reducible exact K7.out | go_keep) (first | (go_at_call 55; refine (kind_any 1 _).mono ?_; rintro e w4 ⟨rfl, hB4⟩; have hD6 := hD4.out.drew.below hB4; clear hB4; unfold ans; obtain ⟨K5, K7⟩ := hD6.held 1 0; unfold set7 set5 at K7; unfold set5 at K5; replace K5 := Mr.hid K5; replace K7 := Mr.hid K7; obtain ⟨k0, k1, k2, k3, k4, hlt⟩ := ctO_cells hD6.box; obtain ⟨r0, r1, r2, r3, r4, hr⟩ := ctO_cells hD6.res; obtain ⟨f0, f1, f2, f3, f4⟩ := ctO_thaw hD6.res; obtain ⟨s0, s1, hs, s2, s3⟩ := ansO_cells hD6.ans; replace hD6 := Mr.hid hD6))
  obtain ⟨e1, e2, e3, e4⟩ := hD6.out.ends 1 0
  obtain ⟨d0, d1, d2, d3, d4, -⟩ := ctO_cells e3
  obtain ⟨g0, g1, -, -, -⟩ := ansO_cells e4
  unfold set7 set5 at e1 e2 d0 d1 d2 d3 d4 g0 g1
  replace e1 := Mr.hid e1
  replace e2 := Mr.hid e2
  clear e3 e4 hD6 K5 K7 k0 k1 k2 k3 k4 r0 r1 r2 r3 r4 f0 f1 f2 f3 f4 s0 s1 s2 s3
  go_wp2
  refine bodyPost_ret (v := .tuple #[.agg #[.slice pv0 x.cell.length qv0, .slice pv1 x.stack.length qv1, .slice b3 nm c3', .slice pv3 x.set.length qv3, .slice pv4 x.table.length qv4], .agg #[.int .i64 1, .int .i64 0]]) (by simp [results, Try.results44, go_sem, d0, d1, d2, d3, d4, g0, g1]) rfl ?_
  exact ⟨_, _, _, _, _, rfl, e1.out, e2.out⟩
set_option maxRecDepth 100000 in
set_option maxHeartbeats 8000000 in
theorem do_31n {W : World} {S : Nat → Prop} {u0 u1 u2 u3 u4 : Value} {x : Ct} (hu : CtAt W S u0 u1 u2 u3 u4 x) (hin : CtIn 225000000000000 x) (arg data : Int) (hn : 0 < x.stack.length) :
    Calls Try.prog 44 #[.agg #[u0, u1, u2, u3, u4], .int .i64 31, .int .i64 arg, .int .i64 data] W fun e w' => ∃ v0 v1 v2 v3 v4, e = .returned (.tuple #[.agg #[v0, v1, v2, v3, v4], ans (dan x 31 arg).1 (dan x 31 arg).2]) ∧ CtAt w' (fun k => W.heap.size ≤ k) v0 v1 v2 v3 v4 (dnx x 31 arg data) ∧ Below W.heap.size W w' := by
  have C := fun w' (hB : Below W.heap.size W w') => copy_any (hu.below hB) hin
  obtain ⟨a0, c0, rfl, _⟩ := hu.cell.form
  obtain ⟨a1, c1, rfl, _⟩ := hu.stack.form
  obtain ⟨a2, c2, rfl, _⟩ := hu.queue.form
  obtain ⟨a3, c3, rfl, _⟩ := hu.set.form
  obtain ⟨a4, c4, rfl, _⟩ := hu.table.form
  have B0 := (((Below.refl W.heap.size W).alloc (Nat.le_refl _) (ctO (.slice a0 x.cell.length c0) (.slice a1 x.stack.length c1) (.slice a2 x.queue.length c2) (.slice a3 x.set.length c3) (.slice a4 x.table.length c4))).alloc (by simp) nil5).alloc (by simp; omega) (ansO 0 0)
  have DP := fun w1 v0 v1 v2 v3 v4 (hv : CtHas w1 (fun k => W.heap.size + 3 ≤ k) v0 v1 v2 v3 v4 x) => do_pre (W := W) (w1 := w1) (o := ctO (.slice a0 x.cell.length c0) (.slice a1 x.stack.length c1) (.slice a2 x.queue.length c2) (.slice a3 x.set.length c3) (.slice a4 x.table.length c4)) hv
  have BX := fun w1 (hB : Below (W.heap.size + 3) (((W.alloc (ctO (.slice a0 x.cell.length c0) (.slice a1 x.stack.length c1) (.slice a2 x.queue.length c2) (.slice a3 x.set.length c3) (.slice a4 x.table.length c4))).alloc nil5).alloc (ansO 0 0)) w1) => (show W.heap.size + 3 ≤ w1.heap.size from by have := hB.size; simp only [World.size_alloc] at this; omega)
  clear hu
  replace hn := Mr.hid hn
  unfold nil5 ctO ansO at B0 BX
  unfold ctO ansO at DP
  replace C := Mr.hid C
  replace B0 := Mr.hid B0
  replace BX := Mr.hid BX
  replace DP := Mr.hid DP
  go_enter Try.func44, Try.ntmps44
  go_upto_region 2 with (go_at_call 40; refine (C.out _ B0.out).mono ?_; clear C; rintro e w1 ⟨v0, v1, v2, v3, v4, rfl, hv, hJ, hB1⟩; simp only [World.size_alloc] at hB1 hv; have hsz := BX.out w1 hB1; obtain ⟨hD, hH⟩ := DP.out _ _ _ _ _ _ hv hB1; clear DP BX; obtain ⟨pv0, qv0, rfl, _⟩ := hv.cell.form; obtain ⟨pv1, qv1, rfl, _⟩ := hv.stack.form; obtain ⟨pv2, qv2, rfl, _⟩ := hv.queue.form; obtain ⟨pv3, qv3, rfl, _⟩ := hv.set.form; obtain ⟨pv4, qv4, rfl, _⟩ := hv.table.form; clear hv hB1 B0; replace hD := Mr.hid hD; replace hH := Mr.hid hH; replace hJ := Mr.hid hJ)
  rw [show W.heap.size + 1 + 1 = W.heap.size + 2 from rfl]
  obtain ⟨bs, hbs⟩ : ∃ b, b = w1.heap.size := ⟨_, rfl⟩
  rw [← hbs] at hD hH ⊢
  have hlt : bs < (w1.alloc (ctO (.slice pv0 x.cell.length qv0) (.slice pv1 x.stack.length qv1) (.slice pv2 x.queue.length qv2) (.slice pv3 x.set.length qv3) (.slice pv4 x.table.length qv4))).heap.size := by rw [World.size_alloc]; omega
  unfold ctO at hlt
  generalize w1.alloc (.cells #[.slice pv0 x.cell.length qv0, .slice pv1 x.stack.length qv1, .slice pv2 x.queue.length qv2, .slice pv3 x.set.length qv3, .slice pv4 x.table.length qv4] 25 (0, 0)) = w2 at *
  have hb3 : W.heap.size + 3 ≤ bs := by omega
  clear hsz hbs w1
  obtain ⟨k0, k1, k2, k3, k4, -⟩ := ctO_cells hD.out.box
  obtain ⟨f0, f1, f2, f3, f4⟩ := ctO_thaw hD.out.box
  have de : ((x.stack.length : Int) == 0) = false := by rw [beq_eq_false_iff_ne]; have := hn.out; omega
  obtain ⟨g, cp, hpv, hTg, hlg, hcl, hcm⟩ := hH.out.stack.there hn.out
  cases hpv
  have hc0 := hH.out.stack.cells (g := g) rfl 0 _ (ints_get x.stack 0 hn.out)
  obtain ⟨v, hv⟩ : ∃ v, v = x.stack[0]?.getD 0 := ⟨_, rfl⟩
  rw [← hv] at hc0
  replace hv := Mr.hid hv
  clear hTg hcm
  have hn1 := hn.out
  have hnI : (0 : Int) < (x.stack.length : Int) := by omega
  have hnJ : (1 : Int) ≤ (x.stack.length : Int) := by omega
  have hin' := hin.stack
  clear hin
  have TL := fun a ha => hD.out.put1 (l := x.stack.drop 1) (sl_tail hH.out.stack hn.out a ha)
  replace TL := Mr.hid TL
  clear hJ
  go_upto_region 18 with (fail)
  have hD3 := TL.out (if qv1 = 1 then some ⟨g, 0, none⟩ else some ⟨g, 1, none⟩) (by by_cases h : qv1 = 1; exact Or.inl (by omega); exact Or.inr (if_neg h))
  generalize (if qv1 = 1 then some ({ block := g, off := 0 } : Addr) else some { block := g, off := 1 }) = pa at *
  clear TL hD hH k0 k1 k2 k3 k4 f0 f1 f2 f3 f4 hlt hc0 de hnI hnJ hin' hlg
  generalize (w2.setCell { block := bs, off := 1 } (Value.slice pa (x.stack.length - 1) (qv1 - 1))) = w3 at *
  clear w2
  generalize x.stack.length - 1 = nm at *
  generalize qv1 - 1 = qm at *
  obtain ⟨k0, k1, k2, k3, k4, hlt⟩ := ctO_cells hD3.box
  replace hD3 := Mr.hid hD3
  go_region_held3 (fun w' => w'.cell? ⟨bs, 0, none⟩ = some (.slice pv0 x.cell.length qv0) ∧ w'.cell? ⟨bs, 1, none⟩ = some (.slice pa nm qm) ∧ w'.cell? ⟨bs, 2, none⟩ = some (.slice pv2 x.queue.length qv2) ∧ w'.cell? ⟨bs, 3, none⟩ = some (.slice pv3 x.set.length qv3) ∧ w'.cell? ⟨bs, 4, none⟩ = some (.slice pv4 x.table.length qv4)) (first | with_reducible exact K5.out | with_reducible exact K7.out | go_keep) (first | (go_at_call 56; refine (value_any v _).mono ?_; rintro e w4 ⟨rfl, hB4⟩; have hD4 := hD3.out.drew.below hB4; clear hB4; unfold ans; obtain ⟨K5, K7⟩ := hD4.held 2 v; unfold set7 set5 at K7; unfold set5 at K5; replace K5 := Mr.hid K5; replace K7 := Mr.hid K7; obtain ⟨k0, k1, k2, k3, k4, hlt⟩ := ctO_cells hD4.box; obtain ⟨r0, r1, r2, r3, r4, hr⟩ := ctO_cells hD4.res; obtain ⟨f0, f1, f2, f3, f4⟩ := ctO_thaw hD4.res; obtain ⟨s0, s1, hs, s2, s3⟩ := ansO_cells hD4.ans; replace hD4 := Mr.hid hD4))
  obtain ⟨e1, e2, e3, e4⟩ := hD4.out.ends 2 v
  obtain ⟨d0, d1, d2, d3, d4, -⟩ := ctO_cells e3
  obtain ⟨g0, g1, -, -, -⟩ := ansO_cells e4
  unfold set7 set5 at e1 e2 d0 d1 d2 d3 d4 g0 g1
  replace e1 := Mr.hid e1
  replace e2 := Mr.hid e2
  clear e3 e4 hD4 K5 K7 k0 k1 k2 k3 k4 r0 r1 r2 r3 r4 f0 f1 f2 f3 f4 s0 s1 s2 s3
  go_wp2
  refine bodyPost_ret (v := .tuple #[.agg #[.slice pv0 x.cell.length qv0, .slice pa nm qm, .slice pv2 x.queue.length qv2, .slice pv3 x.set.length qv3, .slice pv4 x.table.length qv4], .agg #[.int .i64 2, .int .i64 v]]) (by simp [results, Try.results44, go_sem, d0, d1, d2, d3, d4, g0, g1]) rfl ?_
  exact ⟨_, _, _, _, _, by rw [dan_31n hn.out arg, ← hv.out]; rfl, e1.out, e2.out⟩
set_option maxRecDepth 100000 in
set_option maxHeartbeats 8000000 in
theorem do_41n {W : World} {S : Nat → Prop} {u0 u1 u2 u3 u4 : Value} {x : Ct} (hu : CtAt W S u0 u1 u2 u3 u4 x) (hin : CtIn 225000000000000 x) (arg data : Int) (hn : 0 < x.queue.length) :
    Calls Try.prog 44 #[.agg #[u0, u1, u2, u3, u4], .int .i64 41, .int .i64 arg, .int .i64 data] W fun e w' => ∃ v0 v1 v2 v3 v4, e = .returned (.tuple #[.agg #[v0, v1, v2, v3, v4], ans (dan x 41 arg).1 (dan x 41 arg).2]) ∧ CtAt w' (fun k => W.heap.size ≤ k) v0 v1 v2 v3 v4 (dnx x 41 arg data) ∧ Below W.heap.size W w' := by
  have C := fun w' (hB : Below W.heap.size W w') => copy_any (hu.below hB) hin
  obtain ⟨a0, c0, rfl, _⟩ := hu.cell.form
  obtain ⟨a1, c1, rfl, _⟩ := hu.stack.form
  obtain ⟨a2, c2, rfl, _⟩ := hu.queue.form
  obtain ⟨a3, c3, rfl, _⟩ := hu.set.form
  obtain ⟨a4, c4, rfl, _⟩ := hu.table.form
  have B0 := (((Below.refl W.heap.size W).alloc (Nat.le_refl _) (ctO (.slice a0 x.cell.length c0) (.slice a1 x.stack.length c1) (.slice a2 x.queue.length c2) (.slice a3 x.set.length c3) (.slice a4 x.table.length c4))).alloc (by simp) nil5).alloc (by simp; omega) (ansO 0 0)
  have DP := fun w1 v0 v1 v2 v3 v4 (hv : CtHas w1 (fun k => W.heap.size + 3 ≤ k) v0 v1 v2 v3 v4 x) => do_pre (W := W) (w1 := w1) (o := ctO (.slice a0 x.cell.length c0) (.slice a1 x.stack.length c1) (.slice a2 x.queue.length c2) (.slice a3 x.set.length c3) (.slice a4 x.table.length c4)) hv
  have BX := fun w1 (hB : Below (W.heap.size + 3) (((W.alloc (ctO (.slice a0 x.cell.length c0) (.slice a1 x.stack.length c1) (.slice a2 x.queue.length c2) (.slice a3 x.set.length c3) (.slice a4 x.table.length c4))).alloc nil5).alloc (ansO 0 0)) w1) => (show W.heap.size + 3 ≤ w1.heap.size from by have := hB.size; simp only [World.size_alloc] at this; omega)
  clear hu
  replace hn := Mr.hid hn
  unfold nil5 ctO ansO at B0 BX
  unfold ctO ansO at DP
  replace C := Mr.hid C
  replace B0 := Mr.hid B0
  replace BX := Mr.hid BX
  replace DP := Mr.hid DP
  go_enter Try.func44, Try.ntmps44
  go_upto_region 2 with (go_at_call 40; refine (C.out _ B0.out).mono ?_; clear C; rintro e w1 ⟨v0, v1, v2, v3, v4, rfl, hv, hJ, hB1⟩; simp only [World.size_alloc] at hB1 hv; have hsz := BX.out w1 hB1; obtain ⟨hD, hH⟩ := DP.out _ _ _ _ _ _ hv hB1; clear DP BX; obtain ⟨pv0, qv0, rfl, _⟩ := hv.cell.form; obtain ⟨pv1, qv1, rfl, _⟩ := hv.stack.form; obtain ⟨pv2, qv2, rfl, _⟩ := hv.queue.form; obtain ⟨pv3, qv3, rfl, _⟩ := hv.set.form; obtain ⟨pv4, qv4, rfl, _⟩ := hv.table.form; clear hv hB1 B0; replace hD := Mr.hid hD; replace hH := Mr.hid hH; replace hJ := Mr.hid hJ)
  rw [show W.heap.size + 1 + 1 = W.heap.size + 2 from rfl]
  obtain ⟨bs, hbs⟩ : ∃ b, b = w1.heap.size := ⟨_, rfl⟩
  rw [← hbs] at hD hH ⊢
  have hlt : bs < (w1.alloc (ctO (.slice pv0 x.cell.length qv0) (.slice pv1 x.stack.length qv1) (.slice pv2 x.queue.length qv2) (.slice pv3 x.set.length qv3) (.slice pv4 x.table.length qv4))).heap.size := by rw [World.size_alloc]; omega
  unfold ctO at hlt
  generalize w1.alloc (.cells #[.slice pv0 x.cell.length qv0, .slice pv1 x.stack.length qv1, .slice pv2 x.queue.length qv2, .slice pv3 x.set.length qv3, .slice pv4 x.table.length qv4] 25 (0, 0)) = w2 at *
  have hb3 : W.heap.size + 3 ≤ bs := by omega
  clear hsz hbs w1
  obtain ⟨k0, k1, k2, k3, k4, -⟩ := ctO_cells hD.out.box
  obtain ⟨f0, f1, f2, f3, f4⟩ := ctO_thaw hD.out.box
  have de : ((x.queue.length : Int) == 0) = false := by rw [beq_eq_false_iff_ne]; have := hn.out; omega
  obtain ⟨g, cp, hpv, hTg, hlg, hcl, hcm⟩ := hH.out.queue.there hn.out
  cases hpv
  have hc0 := hH.out.queue.cells (g := g) rfl 0 _ (ints_get x.queue 0 hn.out)
  obtain ⟨v, hv⟩ : ∃ v, v = x.queue[0]?.getD 0 := ⟨_, rfl⟩
  rw [← hv] at hc0
  replace hv := Mr.hid hv
  clear hTg hcm
  have hn1 := hn.out
  have hnI : (0 : Int) < (x.queue.length : Int) := by omega
  have hnJ : (1 : Int) ≤ (x.queue.length : Int) := by omega
  have hin' := hin.queue
  clear hin
  have TL := fun a ha => hD.out.put2 (l := x.queue.drop 1) (sl_tail hH.out.queue hn.out a ha)
  replace TL := Mr.hid TL
  clear hJ
  go_upto_region 27 with (fail)
  have hD3 := TL.out (if qv2 = 1 then some ⟨g, 0, none⟩ else some ⟨g, 1, none⟩) (by by_cases h : qv2 = 1; exact Or.inl (by omega); exact Or.inr (if_neg h))
  generalize (if qv2 = 1 then some ({ block := g, off := 0 } : Addr) else some { block := g, off := 1 }) = pa at *
  clear TL hD hH k0 k1 k2 k3 k4 f0 f1 f2 f3 f4 hlt hc0 de hnI hnJ hin' hlg
  generalize (w2.setCell { block := bs, off := 2 } (Value.slice pa (x.queue.length - 1) (qv2 - 1))) = w3 at *
  clear w2
  generalize x.queue.length - 1 = nm at *
  generalize qv2 - 1 = qm at *
  obtain ⟨k0, k1, k2, k3, k4, hlt⟩ := ctO_cells hD3.box
  replace hD3 := Mr.hid hD3
  go_region_held3 (fun w' => w'.cell? ⟨bs, 0, none⟩ = some (.slice pv0 x.cell.length qv0) ∧ w'.cell? ⟨bs, 1, none⟩ = some (.slice pv1 x.stack.length qv1) ∧ w'.cell? ⟨bs, 2, none⟩ = some (.slice pa nm qm) ∧ w'.cell? ⟨bs, 3, none⟩ = some (.slice pv3 x.set.length qv3) ∧ w'.cell? ⟨bs, 4, none⟩ = some (.slice pv4 x.table.length qv4)) (first | with_reducible exact K5.out | with_reducible exact K7.out | go_keep) (first | (go_at_call 56; refine (value_any v _).mono ?_; rintro e w4 ⟨rfl, hB4⟩; have hD4 := hD3.out.drew.below hB4; clear hB4; unfold ans; obtain ⟨K5, K7⟩ := hD4.held 2 v; unfold set7 set5 at K7; unfold set5 at K5; replace K5 := Mr.hid K5; replace K7 := Mr.hid K7; obtain ⟨k0, k1, k2, k3, k4, hlt⟩ := ctO_cells hD4.box; obtain ⟨r0, r1, r2, r3, r4, hr⟩ := ctO_cells hD4.res; obtain ⟨f0, f1, f2, f3, f4⟩ := ctO_thaw hD4.res; obtain ⟨s0, s1, hs, s2, s3⟩ := ansO_cells hD4.ans; replace hD4 := Mr.hid hD4))
  obtain ⟨e1, e2, e3, e4⟩ := hD4.out.ends 2 v
  obtain ⟨d0, d1, d2, d3, d4, -⟩ := ctO_cells e3
  obtain ⟨g0, g1, -, -, -⟩ := ansO_cells e4
  unfold set7 set5 at e1 e2 d0 d1 d2 d3 d4 g0 g1
  replace e1 := Mr.hid e1
  replace e2 := Mr.hid e2
  clear e3 e4 hD4 K5 K7 k0 k1 k2 k3 k4 r0 r1 r2 r3 r4 f0 f1 f2 f3 f4 s0 s1 s2 s3
  go_wp2
  refine bodyPost_ret (v := .tuple #[.agg #[.slice pv0 x.cell.length qv0, .slice pv1 x.stack.length qv1, .slice pa nm qm, .slice pv3 x.set.length qv3, .slice pv4 x.table.length qv4], .agg #[.int .i64 2, .int .i64 v]]) (by simp [results, Try.results44, go_sem, d0, d1, d2, d3, d4, g0, g1]) rfl ?_
  exact ⟨_, _, _, _, _, by rw [dan_41n hn.out arg, ← hv.out]; rfl, e1.out, e2.out⟩
set_option maxRecDepth 100000 in
set_option maxHeartbeats 8000000 in
theorem do_23n {W : World} {S : Nat → Prop} {u0 u1 u2 u3 u4 : Value} {x : Ct} (hu : CtAt W S u0 u1 u2 u3 u4 x) (hin : CtIn 225000000000000 x) (arg data : Int) (hn : 0 < x.cell.length) :
    Calls Try.prog 44 #[.agg #[u0, u1, u2, u3, u4], .int .i64 23, .int .i64 arg, .int .i64 data] W fun e w' => ∃ v0 v1 v2 v3 v4, e = .returned (.tuple #[.agg #[v0, v1, v2, v3, v4], ans (dan x 23 arg).1 (dan x 23 arg).2]) ∧ CtAt w' (fun k => W.heap.size ≤ k) v0 v1 v2 v3 v4 (dnx x 23 arg data) ∧ Below W.heap.size W w' := by
  have C := fun w' (hB : Below W.heap.size W w') => copy_any (hu.below hB) hin
  obtain ⟨a0, c0, rfl, _⟩ := hu.cell.form
  obtain ⟨a1, c1, rfl, _⟩ := hu.stack.form
  obtain ⟨a2, c2, rfl, _⟩ := hu.queue.form
  obtain ⟨a3, c3, rfl, _⟩ := hu.set.form
  obtain ⟨a4, c4, rfl, _⟩ := hu.table.form
  have B0 := (((Below.refl W.heap.size W).alloc (Nat.le_refl _) (ctO (.slice a0 x.cell.length c0) (.slice a1 x.stack.length c1) (.slice a2 x.queue.length c2) (.slice a3 x.set.length c3) (.slice a4 x.table.length c4))).alloc (by simp) nil5).alloc (by simp; omega) (ansO 0 0)
  have DP := fun w1 v0 v1 v2 v3 v4 (hv : CtHas w1 (fun k => W.heap.size + 3 ≤ k) v0 v1 v2 v3 v4 x) => do_pre (W := W) (w1 := w1) (o := ctO (.slice a0 x.cell.length c0) (.slice a1 x.stack.length c1) (.slice a2 x.queue.length c2) (.slice a3 x.set.length c3) (.slice a4 x.table.length c4)) hv
  have BX := fun w1 (hB : Below (W.heap.size + 3) (((W.alloc (ctO (.slice a0 x.cell.length c0) (.slice a1 x.stack.length c1) (.slice a2 x.queue.length c2) (.slice a3 x.set.length c3) (.slice a4 x.table.length c4))).alloc nil5).alloc (ansO 0 0)) w1) => (show W.heap.size + 3 ≤ w1.heap.size from by have := hB.size; simp only [World.size_alloc] at this; omega)
  clear hu
  replace hn := Mr.hid hn
  unfold nil5 ctO ansO at B0 BX
  unfold ctO ansO at DP
  replace C := Mr.hid C
  replace B0 := Mr.hid B0
  replace BX := Mr.hid BX
  replace DP := Mr.hid DP
  go_enter Try.func44, Try.ntmps44
  go_upto_region 2 with (go_at_call 40; refine (C.out _ B0.out).mono ?_; clear C; rintro e w1 ⟨v0, v1, v2, v3, v4, rfl, hv, hJ, hB1⟩; simp only [World.size_alloc] at hB1 hv; have hsz := BX.out w1 hB1; obtain ⟨hD, hH⟩ := DP.out _ _ _ _ _ _ hv hB1; clear DP BX; obtain ⟨pv0, qv0, rfl, _⟩ := hv.cell.form; obtain ⟨pv1, qv1, rfl, _⟩ := hv.stack.form; obtain ⟨pv2, qv2, rfl, _⟩ := hv.queue.form; obtain ⟨pv3, qv3, rfl, _⟩ := hv.set.form; obtain ⟨pv4, qv4, rfl, _⟩ := hv.table.form; clear hv hB1 B0; replace hD := Mr.hid hD; replace hH := Mr.hid hH; replace hJ := Mr.hid hJ)
  rw [show W.heap.size + 1 + 1 = W.heap.size + 2 from rfl]
  obtain ⟨bs, hbs⟩ : ∃ b, b = w1.heap.size := ⟨_, rfl⟩
  rw [← hbs] at hD hH ⊢
  have hlt : bs < (w1.alloc (ctO (.slice pv0 x.cell.length qv0) (.slice pv1 x.stack.length qv1) (.slice pv2 x.queue.length qv2) (.slice pv3 x.set.length qv3) (.slice pv4 x.table.length qv4))).heap.size := by rw [World.size_alloc]; omega
  unfold ctO at hlt
  generalize w1.alloc (.cells #[.slice pv0 x.cell.length qv0, .slice pv1 x.stack.length qv1, .slice pv2 x.queue.length qv2, .slice pv3 x.set.length qv3, .slice pv4 x.table.length qv4] 25 (0, 0)) = w2 at *
  have hb3 : W.heap.size + 3 ≤ bs := by omega
  clear hsz hbs w1
  obtain ⟨k0, k1, k2, k3, k4, -⟩ := ctO_cells hD.out.box
  obtain ⟨f0, f1, f2, f3, f4⟩ := ctO_thaw hD.out.box
  have de : ((x.cell.length : Int) == 0) = false := by rw [beq_eq_false_iff_ne]; have := hn.out; omega
  obtain ⟨g, cp, hpv, hTg, hlg, -, -⟩ := hH.out.cell.there hn.out
  cases hpv
  have hD3 := hD.out
  have hc0 := hH.out.cell.cells (g := g) rfl 0 _ (ints_get x.cell 0 hn.out)
  have hgt : W.heap.size + 3 ≤ g ∧ g ≠ bs := by unfold Tr at hTg; omega
  clear hD hH hJ k0 k1 k2 k3 k4 hTg
  obtain ⟨v, hv⟩ : ∃ v, v = x.cell[0]?.getD 0 := ⟨_, rfl⟩
  rw [← hv] at hc0
  replace hv := Mr.hid hv
  obtain ⟨k0, k1, k2, k3, k4, -⟩ := ctO_cells hD3.box
  replace hD3 := Mr.hid hD3
  replace hc0 := Mr.hid hc0
  go_upto_region 9 with (fail)
  clear k0 k1 k2 k3 k4 f0 f1 f2 f3 f4 de hlt
  replace hD3 := hD3.out
  have hc1 := hc0.out
  have hn1 := hn.out
  have hnI : (0 : Int) < (x.cell.length : Int) := by omega
  obtain ⟨k0, k1, k2, k3, k4, hlt⟩ := ctO_cells hD3.box
  replace hD3 := Mr.hid hD3
  go_region_held3 (fun w' => w'.cell? ⟨bs, 0, none⟩ = some (.slice (some ⟨g, 0, none⟩) x.cell.length qv0) ∧ w'.cell? ⟨bs, 1, none⟩ = some (.slice pv1 x.stack.length qv1) ∧ w'.cell? ⟨bs, 2, none⟩ = some (.slice pv2 x.queue.length qv2) ∧ w'.cell? ⟨bs, 3, none⟩ = some (.slice pv3 x.set.length qv3) ∧ w'.cell? ⟨bs, 4, none⟩ = some (.slice pv4 x.table.length qv4) ∧ w'.cell? ⟨g, 0, none⟩ = some (.int .i64 v)) (first | with_reducible exact K5.out | with_reducible exact K7.out | go_keep) (first | (go_at_call 56; refine (value_any v _).mono ?_; rintro e w4 ⟨rfl, hB4⟩; have hD4 := hD3.out.drew.below hB4; have hg4 := (hB4.cell (p := ⟨g, 0, none⟩) hlg).trans hc0.out; clear hB4; unfold ans; obtain ⟨K5, K7⟩ := hD4.held 2 v; have K5 := And.intro K5.1 (And.intro K5.2.1 (And.intro K5.2.2.1 (And.intro K5.2.2.2.1 (And.intro K5.2.2.2.2 (far5 (b := W.heap.size + 1) (v0 := (.slice (some ⟨g, 0, none⟩) x.cell.length qv0)) (v1 := (.slice pv1 x.stack.length qv1)) (v2 := (.slice pv2 x.queue.length qv2)) (v3 := (.slice pv3 x.set.length qv3)) (v4 := (.slice pv4 x.table.length qv4)) hg4 (by omega)))))); have K7 := And.intro K7.1 (And.intro K7.2.1 (And.intro K7.2.2.1 (And.intro K7.2.2.2.1 (And.intro K7.2.2.2.2 (far7 (b := W.heap.size + 1) (c := W.heap.size + 2) (k := 2) (v := v) (v0 := (.slice (some ⟨g, 0, none⟩) x.cell.length qv0)) (v1 := (.slice pv1 x.stack.length qv1)) (v2 := (.slice pv2 x.queue.length qv2)) (v3 := (.slice pv3 x.set.length qv3)) (v4 := (.slice pv4 x.table.length qv4)) hg4 (by omega) (by omega)))))); unfold set7 set5 at K7; unfold set5 at K5; replace K5 := Mr.hid K5; replace K7 := Mr.hid K7; obtain ⟨k0, k1, k2, k3, k4, hlt⟩ := ctO_cells hD4.box; obtain ⟨r0, r1, r2, r3, r4, hr⟩ := ctO_cells hD4.res; obtain ⟨f0, f1, f2, f3, f4⟩ := ctO_thaw hD4.res; obtain ⟨s0, s1, hs, s2, s3⟩ := ansO_cells hD4.ans; replace hD4 := Mr.hid hD4))
  obtain ⟨e1, e2, e3, e4⟩ := hD4.out.ends 2 v
  obtain ⟨d0, d1, d2, d3, d4, -⟩ := ctO_cells e3
  obtain ⟨g0, g1, -, -, -⟩ := ansO_cells e4
  unfold set7 set5 at e1 e2 d0 d1 d2 d3 d4 g0 g1
  replace e1 := Mr.hid e1
  replace e2 := Mr.hid e2
  clear e3 e4 hD4 K5 K7 k0 k1 k2 k3 k4 r0 r1 r2 r3 r4 f0 f1 f2 f3 f4 s0 s1 s2 s3
  go_wp2
  refine bodyPost_ret (v := .tuple #[.agg #[.slice (some ⟨g, 0, none⟩) x.cell.length qv0, .slice pv1 x.stack.length qv1, .slice pv2 x.queue.length qv2, .slice pv3 x.set.length qv3, .slice pv4 x.table.length qv4], .agg #[.int .i64 2, .int .i64 v]]) (by simp [results, Try.results44, go_sem, d0, d1, d2, d3, d4, g0, g1]) rfl ?_
  exact ⟨_, _, _, _, _, by rw [dan_23n hn.out arg, ← hv.out]; rfl, e1.out, e2.out⟩
set_option maxRecDepth 100000 in
set_option maxHeartbeats 8000000 in
theorem do_23e {W : World} {S : Nat → Prop} {u0 u1 u2 u3 u4 : Value} {x : Ct} (hu : CtAt W S u0 u1 u2 u3 u4 x) (hin : CtIn 225000000000000 x) (arg data : Int) (he : x.cell = []) :
    Calls Try.prog 44 #[.agg #[u0, u1, u2, u3, u4], .int .i64 23, .int .i64 arg, .int .i64 data] W fun e w' => ∃ v0 v1 v2 v3 v4, e = .returned (.tuple #[.agg #[v0, v1, v2, v3, v4], ans (dan x 23 arg).1 (dan x 23 arg).2]) ∧ CtAt w' (fun k => W.heap.size ≤ k) v0 v1 v2 v3 v4 (dnx x 23 arg data) ∧ Below W.heap.size W w' := by
  have C := fun w' (hB : Below W.heap.size W w') => copy_any (hu.below hB) hin
  obtain ⟨a0, c0, rfl, _⟩ := hu.cell.form
  obtain ⟨a1, c1, rfl, _⟩ := hu.stack.form
  obtain ⟨a2, c2, rfl, _⟩ := hu.queue.form
  obtain ⟨a3, c3, rfl, _⟩ := hu.set.form
  obtain ⟨a4, c4, rfl, _⟩ := hu.table.form
  have B0 := (((Below.refl W.heap.size W).alloc (Nat.le_refl _) (ctO (.slice a0 x.cell.length c0) (.slice a1 x.stack.length c1) (.slice a2 x.queue.length c2) (.slice a3 x.set.length c3) (.slice a4 x.table.length c4))).alloc (by simp) nil5).alloc (by simp; omega) (ansO 0 0)
  have DP := fun w1 v0 v1 v2 v3 v4 (hv : CtHas w1 (fun k => W.heap.size + 3 ≤ k) v0 v1 v2 v3 v4 x) => do_pre (W := W) (w1 := w1) (o := ctO (.slice a0 x.cell.length c0) (.slice a1 x.stack.length c1) (.slice a2 x.queue.length c2) (.slice a3 x.set.length c3) (.slice a4 x.table.length c4)) hv
  have BX := fun w1 (hB : Below (W.heap.size + 3) (((W.alloc (ctO (.slice a0 x.cell.length c0) (.slice a1 x.stack.length c1) (.slice a2 x.queue.length c2) (.slice a3 x.set.length c3) (.slice a4 x.table.length c4))).alloc nil5).alloc (ansO 0 0)) w1) => (show W.heap.size + 3 ≤ w1.heap.size from by have := hB.size; simp only [World.size_alloc] at this; omega)
  clear hu
  replace he := Mr.hid he
  unfold nil5 ctO ansO at B0 BX
  unfold ctO ansO at DP
  replace C := Mr.hid C
  replace B0 := Mr.hid B0
  replace BX := Mr.hid BX
  replace DP := Mr.hid DP
  go_enter Try.func44, Try.ntmps44
  go_upto_region 2 with (go_at_call 40; refine (C.out _ B0.out).mono ?_; clear C; rintro e w1 ⟨v0, v1, v2, v3, v4, rfl, hv, hJ, hB1⟩; simp only [World.size_alloc] at hB1 hv; have hsz := BX.out w1 hB1; obtain ⟨hD, hH⟩ := DP.out _ _ _ _ _ _ hv hB1; clear DP BX; obtain ⟨pv0, qv0, rfl, _⟩ := hv.cell.form; obtain ⟨pv1, qv1, rfl, _⟩ := hv.stack.form; obtain ⟨pv2, qv2, rfl, _⟩ := hv.queue.form; obtain ⟨pv3, qv3, rfl, _⟩ := hv.set.form; obtain ⟨pv4, qv4, rfl, _⟩ := hv.table.form; clear hv hB1 B0; replace hD := Mr.hid hD; replace hH := Mr.hid hH; replace hJ := Mr.hid hJ)
  rw [show W.heap.size + 1 + 1 = W.heap.size + 2 from rfl]
  obtain ⟨bs, hbs⟩ : ∃ b, b = w1.heap.size := ⟨_, rfl⟩
  rw [← hbs] at hD hH ⊢
  have hlt : bs < (w1.alloc (ctO (.slice pv0 x.cell.length qv0) (.slice pv1 x.stack.length qv1) (.slice pv2 x.queue.length qv2) (.slice pv3 x.set.length qv3) (.slice pv4 x.table.length qv4))).heap.size := by rw [World.size_alloc]; omega
  unfold ctO at hlt
  generalize w1.alloc (.cells #[.slice pv0 x.cell.length qv0, .slice pv1 x.stack.length qv1, .slice pv2 x.queue.length qv2, .slice pv3 x.set.length qv3, .slice pv4 x.table.length qv4] 25 (0, 0)) = w2 at *
  have hb3 : W.heap.size + 3 ≤ bs := by omega
  clear hsz hbs w1
  obtain ⟨k0, k1, k2, k3, k4, -⟩ := ctO_cells hD.out.box
  obtain ⟨f0, f1, f2, f3, f4⟩ := ctO_thaw hD.out.box
  have de : ((x.cell.length : Int) == 0) = true := by rw [he.out]; rfl
  have hD3 := hD.out
  clear hD hH hJ k0 k1 k2 k3 k4
  obtain ⟨k0, k1, k2, k3, k4, -⟩ := ctO_cells hD3.box
  replace hD3 := Mr.hid hD3
  go_upto_region 8 with (fail)
  clear k0 k1 k2 k3 k4 f0 f1 f2 f3 f4 de hlt
  replace hD3 := hD3.out
  obtain ⟨k0, k1, k2, k3, k4, hlt⟩ := ctO_cells hD3.box
  replace hD3 := Mr.hid hD3
  go_region_held3 (fun w' => w'.cell? ⟨bs, 0, none⟩ = some (.slice pv0 x.cell.length qv0) ∧ w'.cell? ⟨bs, 1, none⟩ = some (.slice pv1 x.stack.length qv1) ∧ w'.cell? ⟨bs, 2, none⟩ = some (.slice pv2 x.queue.length qv2) ∧ w'.cell? ⟨bs, 3, none⟩ = some (.slice pv3 x.set.length qv3) ∧ w'.cell? ⟨bs, 4, none⟩ = some (.slice pv4 x.table.length qv4)) (first | with_reducible exact K5.out | with_reducible exact K7.out | go_keep) (first | (go_at_call 55; refine (kind_any 3 _).mono ?_; rintro e w4 ⟨rfl, hB4⟩; have hD4 := hD3.out.drew.below hB4; clear hB4; unfold ans; obtain ⟨K5, K7⟩ := hD4.held 3 0; unfold set7 set5 at K7; unfold set5 at K5; replace K5 := Mr.hid K5; replace K7 := Mr.hid K7; obtain ⟨k0, k1, k2, k3, k4, hlt⟩ := ctO_cells hD4.box; obtain ⟨r0, r1, r2, r3, r4, hr⟩ := ctO_cells hD4.res; obtain ⟨f0, f1, f2, f3, f4⟩ := ctO_thaw hD4.res; obtain ⟨s0, s1, hs, s2, s3⟩ := ansO_cells hD4.ans; replace hD4 := Mr.hid hD4))
  obtain ⟨e1, e2, e3, e4⟩ := hD4.out.ends 3 0
  obtain ⟨d0, d1, d2, d3, d4, -⟩ := ctO_cells e3
  obtain ⟨g0, g1, -, -, -⟩ := ansO_cells e4
  unfold set7 set5 at e1 e2 d0 d1 d2 d3 d4 g0 g1
  replace e1 := Mr.hid e1
  replace e2 := Mr.hid e2
  clear e3 e4 hD4 K5 K7 k0 k1 k2 k3 k4 r0 r1 r2 r3 r4 f0 f1 f2 f3 f4 s0 s1 s2 s3
  go_wp2
  refine bodyPost_ret (v := .tuple #[.agg #[.slice pv0 x.cell.length qv0, .slice pv1 x.stack.length qv1, .slice pv2 x.queue.length qv2, .slice pv3 x.set.length qv3, .slice pv4 x.table.length qv4], .agg #[.int .i64 3, .int .i64 0]]) (by simp [results, Try.results44, go_sem, d0, d1, d2, d3, d4, g0, g1]) rfl ?_
  exact ⟨_, _, _, _, _, by rw [dan_23e he.out arg]; rfl, by rw [dnx_23e he.out arg data]; exact e1.out, e2.out⟩
set_option maxRecDepth 100000 in
set_option maxHeartbeats 8000000 in
theorem do_31e {W : World} {S : Nat → Prop} {u0 u1 u2 u3 u4 : Value} {x : Ct} (hu : CtAt W S u0 u1 u2 u3 u4 x) (hin : CtIn 225000000000000 x) (arg data : Int) (he : x.stack = []) :
    Calls Try.prog 44 #[.agg #[u0, u1, u2, u3, u4], .int .i64 31, .int .i64 arg, .int .i64 data] W fun e w' => ∃ v0 v1 v2 v3 v4, e = .returned (.tuple #[.agg #[v0, v1, v2, v3, v4], ans (dan x 31 arg).1 (dan x 31 arg).2]) ∧ CtAt w' (fun k => W.heap.size ≤ k) v0 v1 v2 v3 v4 (dnx x 31 arg data) ∧ Below W.heap.size W w' := by
  have C := fun w' (hB : Below W.heap.size W w') => copy_any (hu.below hB) hin
  obtain ⟨a0, c0, rfl, _⟩ := hu.cell.form
  obtain ⟨a1, c1, rfl, _⟩ := hu.stack.form
  obtain ⟨a2, c2, rfl, _⟩ := hu.queue.form
  obtain ⟨a3, c3, rfl, _⟩ := hu.set.form
  obtain ⟨a4, c4, rfl, _⟩ := hu.table.form
  have B0 := (((Below.refl W.heap.size W).alloc (Nat.le_refl _) (ctO (.slice a0 x.cell.length c0) (.slice a1 x.stack.length c1) (.slice a2 x.queue.length c2) (.slice a3 x.set.length c3) (.slice a4 x.table.length c4))).alloc (by simp) nil5).alloc (by simp; omega) (ansO 0 0)
  have DP := fun w1 v0 v1 v2 v3 v4 (hv : CtHas w1 (fun k => W.heap.size + 3 ≤ k) v0 v1 v2 v3 v4 x) => do_pre (W := W) (w1 := w1) (o := ctO (.slice a0 x.cell.length c0) (.slice a1 x.stack.length c1) (.slice a2 x.queue.length c2) (.slice a3 x.set.length c3) (.slice a4 x.table.length c4)) hv
  have BX := fun w1 (hB : Below (W.heap.size + 3) (((W.alloc (ctO (.slice a0 x.cell.length c0) (.slice a1 x.stack.length c1) (.slice a2 x.queue.length c2) (.slice a3 x.set.length c3) (.slice a4 x.table.length c4))).alloc nil5).alloc (ansO 0 0)) w1) => (show W.heap.size + 3 ≤ w1.heap.size from by have := hB.size; simp only [World.size_alloc] at this; omega)
  clear hu
  replace he := Mr.hid he
  unfold nil5 ctO ansO at B0 BX
  unfold ctO ansO at DP
  replace C := Mr.hid C
  replace B0 := Mr.hid B0
  replace BX := Mr.hid BX
  replace DP := Mr.hid DP
  go_enter Try.func44, Try.ntmps44
  go_upto_region 2 with (go_at_call 40; refine (C.out _ B0.out).mono ?_; clear C; rintro e w1 ⟨v0, v1, v2, v3, v4, rfl, hv, hJ, hB1⟩; simp only [World.size_alloc] at hB1 hv; have hsz := BX.out w1 hB1; obtain ⟨hD, hH⟩ := DP.out _ _ _ _ _ _ hv hB1; clear DP BX; obtain ⟨pv0, qv0, rfl, _⟩ := hv.cell.form; obtain ⟨pv1, qv1, rfl, _⟩ := hv.stack.form; obtain ⟨pv2, qv2, rfl, _⟩ := hv.queue.form; obtain ⟨pv3, qv3, rfl, _⟩ := hv.set.form; obtain ⟨pv4, qv4, rfl, _⟩ := hv.table.form; clear hv hB1 B0; replace hD := Mr.hid hD; replace hH := Mr.hid hH; replace hJ := Mr.hid hJ)
  rw [show W.heap.size + 1 + 1 = W.heap.size + 2 from rfl]
  obtain ⟨bs, hbs⟩ : ∃ b, b = w1.heap.size := ⟨_, rfl⟩
  rw [← hbs] at hD hH ⊢
  have hlt : bs < (w1.alloc (ctO (.slice pv0 x.cell.length qv0) (.slice pv1 x.stack.length qv1) (.slice pv2 x.queue.length qv2) (.slice pv3 x.set.length qv3) (.slice pv4 x.table.length qv4))).heap.size := by rw [World.size_alloc]; omega
  unfold ctO at hlt
  generalize w1.alloc (.cells #[.slice pv0 x.cell.length qv0, .slice pv1 x.stack.length qv1, .slice pv2 x.queue.length qv2, .slice pv3 x.set.length qv3, .slice pv4 x.table.length qv4] 25 (0, 0)) = w2 at *
  have hb3 : W.heap.size + 3 ≤ bs := by omega
  clear hsz hbs w1
  obtain ⟨k0, k1, k2, k3, k4, -⟩ := ctO_cells hD.out.box
  obtain ⟨f0, f1, f2, f3, f4⟩ := ctO_thaw hD.out.box
  have de : ((x.stack.length : Int) == 0) = true := by rw [he.out]; rfl
  have hD3 := hD.out
  clear hD hH hJ k0 k1 k2 k3 k4
  obtain ⟨k0, k1, k2, k3, k4, -⟩ := ctO_cells hD3.box
  replace hD3 := Mr.hid hD3
  go_upto_region 15 with (fail)
  clear k0 k1 k2 k3 k4 f0 f1 f2 f3 f4 de hlt
  replace hD3 := hD3.out
  obtain ⟨k0, k1, k2, k3, k4, hlt⟩ := ctO_cells hD3.box
  replace hD3 := Mr.hid hD3
  go_region_held3 (fun w' => w'.cell? ⟨bs, 0, none⟩ = some (.slice pv0 x.cell.length qv0) ∧ w'.cell? ⟨bs, 1, none⟩ = some (.slice pv1 x.stack.length qv1) ∧ w'.cell? ⟨bs, 2, none⟩ = some (.slice pv2 x.queue.length qv2) ∧ w'.cell? ⟨bs, 3, none⟩ = some (.slice pv3 x.set.length qv3) ∧ w'.cell? ⟨bs, 4, none⟩ = some (.slice pv4 x.table.length qv4)) (first | with_reducible exact K5.out | with_reducible exact K7.out | go_keep) (first | (go_at_call 55; refine (kind_any 3 _).mono ?_; rintro e w4 ⟨rfl, hB4⟩; have hD4 := hD3.out.drew.below hB4; clear hB4; unfold ans; obtain ⟨K5, K7⟩ := hD4.held 3 0; unfold set7 set5 at K7; unfold set5 at K5; replace K5 := Mr.hid K5; replace K7 := Mr.hid K7; obtain ⟨k0, k1, k2, k3, k4, hlt⟩ := ctO_cells hD4.box; obtain ⟨r0, r1, r2, r3, r4, hr⟩ := ctO_cells hD4.res; obtain ⟨f0, f1, f2, f3, f4⟩ := ctO_thaw hD4.res; obtain ⟨s0, s1, hs, s2, s3⟩ := ansO_cells hD4.ans; replace hD4 := Mr.hid hD4))
  obtain ⟨e1, e2, e3, e4⟩ := hD4.out.ends 3 0
  obtain ⟨d0, d1, d2, d3, d4, -⟩ := ctO_cells e3
  obtain ⟨g0, g1, -, -, -⟩ := ansO_cells e4
  unfold set7 set5 at e1 e2 d0 d1 d2 d3 d4 g0 g1
  replace e1 := Mr.hid e1
  replace e2 := Mr.hid e2
  clear e3 e4 hD4 K5 K7 k0 k1 k2 k3 k4 r0 r1 r2 r3 r4 f0 f1 f2 f3 f4 s0 s1 s2 s3
  go_wp2
  refine bodyPost_ret (v := .tuple #[.agg #[.slice pv0 x.cell.length qv0, .slice pv1 x.stack.length qv1, .slice pv2 x.queue.length qv2, .slice pv3 x.set.length qv3, .slice pv4 x.table.length qv4], .agg #[.int .i64 3, .int .i64 0]]) (by simp [results, Try.results44, go_sem, d0, d1, d2, d3, d4, g0, g1]) rfl ?_
  exact ⟨_, _, _, _, _, by rw [dan_31e he.out arg]; rfl, by rw [dnx_31e he.out arg data]; exact e1.out, e2.out⟩
set_option maxRecDepth 100000 in
set_option maxHeartbeats 8000000 in
theorem do_41e {W : World} {S : Nat → Prop} {u0 u1 u2 u3 u4 : Value} {x : Ct} (hu : CtAt W S u0 u1 u2 u3 u4 x) (hin : CtIn 225000000000000 x) (arg data : Int) (he : x.queue = []) :
    Calls Try.prog 44 #[.agg #[u0, u1, u2, u3, u4], .int .i64 41, .int .i64 arg, .int .i64 data] W fun e w' => ∃ v0 v1 v2 v3 v4, e = .returned (.tuple #[.agg #[v0, v1, v2, v3, v4], ans (dan x 41 arg).1 (dan x 41 arg).2]) ∧ CtAt w' (fun k => W.heap.size ≤ k) v0 v1 v2 v3 v4 (dnx x 41 arg data) ∧ Below W.heap.size W w' := by
  have C := fun w' (hB : Below W.heap.size W w') => copy_any (hu.below hB) hin
  obtain ⟨a0, c0, rfl, _⟩ := hu.cell.form
  obtain ⟨a1, c1, rfl, _⟩ := hu.stack.form
  obtain ⟨a2, c2, rfl, _⟩ := hu.queue.form
  obtain ⟨a3, c3, rfl, _⟩ := hu.set.form
  obtain ⟨a4, c4, rfl, _⟩ := hu.table.form
  have B0 := (((Below.refl W.heap.size W).alloc (Nat.le_refl _) (ctO (.slice a0 x.cell.length c0) (.slice a1 x.stack.length c1) (.slice a2 x.queue.length c2) (.slice a3 x.set.length c3) (.slice a4 x.table.length c4))).alloc (by simp) nil5).alloc (by simp; omega) (ansO 0 0)
  have DP := fun w1 v0 v1 v2 v3 v4 (hv : CtHas w1 (fun k => W.heap.size + 3 ≤ k) v0 v1 v2 v3 v4 x) => do_pre (W := W) (w1 := w1) (o := ctO (.slice a0 x.cell.length c0) (.slice a1 x.stack.length c1) (.slice a2 x.queue.length c2) (.slice a3 x.set.length c3) (.slice a4 x.table.length c4)) hv
  have BX := fun w1 (hB : Below (W.heap.size + 3) (((W.alloc (ctO (.slice a0 x.cell.length c0) (.slice a1 x.stack.length c1) (.slice a2 x.queue.length c2) (.slice a3 x.set.length c3) (.slice a4 x.table.length c4))).alloc nil5).alloc (ansO 0 0)) w1) => (show W.heap.size + 3 ≤ w1.heap.size from by have := hB.size; simp only [World.size_alloc] at this; omega)
  clear hu
  replace he := Mr.hid he
  unfold nil5 ctO ansO at B0 BX
  unfold ctO ansO at DP
  replace C := Mr.hid C
  replace B0 := Mr.hid B0
  replace BX := Mr.hid BX
  replace DP := Mr.hid DP
  go_enter Try.func44, Try.ntmps44
  go_upto_region 2 with (go_at_call 40; refine (C.out _ B0.out).mono ?_; clear C; rintro e w1 ⟨v0, v1, v2, v3, v4, rfl, hv, hJ, hB1⟩; simp only [World.size_alloc] at hB1 hv; have hsz := BX.out w1 hB1; obtain ⟨hD, hH⟩ := DP.out _ _ _ _ _ _ hv hB1; clear DP BX; obtain ⟨pv0, qv0, rfl, _⟩ := hv.cell.form; obtain ⟨pv1, qv1, rfl, _⟩ := hv.stack.form; obtain ⟨pv2, qv2, rfl, _⟩ := hv.queue.form; obtain ⟨pv3, qv3, rfl, _⟩ := hv.set.form; obtain ⟨pv4, qv4, rfl, _⟩ := hv.table.form; clear hv hB1 B0; replace hD := Mr.hid hD; replace hH := Mr.hid hH; replace hJ := Mr.hid hJ)
  rw [show W.heap.size + 1 + 1 = W.heap.size + 2 from rfl]
  obtain ⟨bs, hbs⟩ : ∃ b, b = w1.heap.size := ⟨_, rfl⟩
  rw [← hbs] at hD hH ⊢
  have hlt : bs < (w1.alloc (ctO (.slice pv0 x.cell.length qv0) (.slice pv1 x.stack.length qv1) (.slice pv2 x.queue.length qv2) (.slice pv3 x.set.length qv3) (.slice pv4 x.table.length qv4))).heap.size := by rw [World.size_alloc]; omega
  unfold ctO at hlt
  generalize w1.alloc (.cells #[.slice pv0 x.cell.length qv0, .slice pv1 x.stack.length qv1, .slice pv2 x.queue.length qv2, .slice pv3 x.set.length qv3, .slice pv4 x.table.length qv4] 25 (0, 0)) = w2 at *
  have hb3 : W.heap.size + 3 ≤ bs := by omega
  clear hsz hbs w1
  obtain ⟨k0, k1, k2, k3, k4, -⟩ := ctO_cells hD.out.box
  obtain ⟨f0, f1, f2, f3, f4⟩ := ctO_thaw hD.out.box
  have de : ((x.queue.length : Int) == 0) = true := by rw [he.out]; rfl
  have hD3 := hD.out
  clear hD hH hJ k0 k1 k2 k3 k4
  obtain ⟨k0, k1, k2, k3, k4, -⟩ := ctO_cells hD3.box
  replace hD3 := Mr.hid hD3
  go_upto_region 24 with (fail)
  clear k0 k1 k2 k3 k4 f0 f1 f2 f3 f4 de hlt
  replace hD3 := hD3.out
  obtain ⟨k0, k1, k2, k3, k4, hlt⟩ := ctO_cells hD3.box
  replace hD3 := Mr.hid hD3
  go_region_held3 (fun w' => w'.cell? ⟨bs, 0, none⟩ = some (.slice pv0 x.cell.length qv0) ∧ w'.cell? ⟨bs, 1, none⟩ = some (.slice pv1 x.stack.length qv1) ∧ w'.cell? ⟨bs, 2, none⟩ = some (.slice pv2 x.queue.length qv2) ∧ w'.cell? ⟨bs, 3, none⟩ = some (.slice pv3 x.set.length qv3) ∧ w'.cell? ⟨bs, 4, none⟩ = some (.slice pv4 x.table.length qv4)) (first | with_reducible exact K5.out | with_reducible exact K7.out | go_keep) (first | (go_at_call 55; refine (kind_any 3 _).mono ?_; rintro e w4 ⟨rfl, hB4⟩; have hD4 := hD3.out.drew.below hB4; clear hB4; unfold ans; obtain ⟨K5, K7⟩ := hD4.held 3 0; unfold set7 set5 at K7; unfold set5 at K5; replace K5 := Mr.hid K5; replace K7 := Mr.hid K7; obtain ⟨k0, k1, k2, k3, k4, hlt⟩ := ctO_cells hD4.box; obtain ⟨r0, r1, r2, r3, r4, hr⟩ := ctO_cells hD4.res; obtain ⟨f0, f1, f2, f3, f4⟩ := ctO_thaw hD4.res; obtain ⟨s0, s1, hs, s2, s3⟩ := ansO_cells hD4.ans; replace hD4 := Mr.hid hD4))
  obtain ⟨e1, e2, e3, e4⟩ := hD4.out.ends 3 0
  obtain ⟨d0, d1, d2, d3, d4, -⟩ := ctO_cells e3
  obtain ⟨g0, g1, -, -, -⟩ := ansO_cells e4
  unfold set7 set5 at e1 e2 d0 d1 d2 d3 d4 g0 g1
  replace e1 := Mr.hid e1
  replace e2 := Mr.hid e2
  clear e3 e4 hD4 K5 K7 k0 k1 k2 k3 k4 r0 r1 r2 r3 r4 f0 f1 f2 f3 f4 s0 s1 s2 s3
  go_wp2
  refine bodyPost_ret (v := .tuple #[.agg #[.slice pv0 x.cell.length qv0, .slice pv1 x.stack.length qv1, .slice pv2 x.queue.length qv2, .slice pv3 x.set.length qv3, .slice pv4 x.table.length qv4], .agg #[.int .i64 3, .int .i64 0]]) (by simp [results, Try.results44, go_sem, d0, d1, d2, d3, d4, g0, g1]) rfl ?_
  exact ⟨_, _, _, _, _, by rw [dan_41e he.out arg]; rfl, by rw [dnx_41e he.out arg data]; exact e1.out, e2.out⟩
end Go.Proofs.Ytegbcocbopgghab.Md
