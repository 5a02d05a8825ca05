import Derived.Test.YtmejblmeaipahaaDoorJ05
import Derived.Deep.Upon
/-
  TSO: what the law's twin comes to.
-/
namespace Go.Proofs.YtmejblmeaipahaaDoor.Ts
open Go.RowKit Mr
set_option linter.unusedVariables false
set_option linter.unusedSimpArgs false
set_option maxRecDepth 100000
theorem run_append_zero {P : Program} (w : World) (t ty e : TypeId) (i : TypeInfo) (ht : P.underlying t = some (.slice e)) (hi : P.info? e = some i) (base : Option Addr) (sLen sCap : Nat) (hle : sLen ≤ sCap) (a0 : Option Addr) (c : Nat) :
    (Builtin.append_ #[t, t] ty #[.slice base sLen sCap, .slice a0 0 c]).run P w = .ok (.slice base sLen sCap) w := by
  cases a0 with
  | none => exact run_append_nothing w t t ty e i ht hi base sLen sCap hle _ (Src.ofNil _ ht c)
  | some a => exact run_append_nothing w t t ty e i ht hi base sLen sCap hle _ (Src.ofSlice _ ht a 0 c [] (by simp) (by simp) (by simp))
theorem wp_append_zero {P : Program} {w : World} {o : Oper} {a : Act} {K : Act → World → Prop} {Q : Exit → Act → World → Prop} (s x : Operand) (t : TypeId)
    (ho : o.op = .call { callee := .builtin .append, args := #[s, x], argTypes := #[t, t] }) (e : TypeId) (i : TypeInfo) (ht : P.underlying t = some (.slice e)) (hi : P.info? e = some i)
    (base : Option Addr) (sLen sCap : Nat) (hle : sLen ≤ sCap) (hs : a.eval s = .slice base sLen sCap) (a0 : Option Addr) (c : Nat) (hx : a.eval x = .slice a0 0 c)
    (h : K (a.put o.dst (.slice base sLen sCap)) w) : o.wp P a w K Q := by
  have hr := run_append_zero (P := P) w t o.type e i ht hi base sLen sCap hle a0 c
  unfold Oper.wp execOp
  simp only [ho, resolve, invoke, builtin, Sem.run_bind, Sem.run_pure, Result.andThen_ok, List.map_toArray, List.map_cons, List.map_nil, hs, hx, hr]
  exact h
theorem wpList_append_zero {P : Program} {w : World} {ops : Array Oper} {rest : List Oper} {o : Oper} {a : Act} {Q : Exit → Act → World → Prop} (hgd : o.guard = none) (s x : Operand) (t : TypeId)
    (ho : o.op = .call { callee := .builtin .append, args := #[s, x], argTypes := #[t, t] }) (e : TypeId) (i : TypeInfo) (ht : P.underlying t = some (.slice e)) (hi : P.info? e = some i)
    (base : Option Addr) (sLen sCap : Nat) (hle : sLen ≤ sCap) (hs : a.eval s = .slice base sLen sCap) (a0 : Option Addr) (c : Nat) (hx : a.eval x = .slice a0 0 c)
    (h : wpList P ops Q rest (a.put o.dst (.slice base sLen sCap)) w) : wpList P ops Q (o :: rest) a w :=
  wpList_plain hgd fun _ hK => wp_append_zero s x t ho e i ht hi base sLen sCap hle hs a0 c hx (hK _ _ h)
theorem info_of {t : TypeId} {z : Value} {sz by' : Nat} (h : (Tryd.prog.info? t).map (fun i => (i.zero, i.size, i.bytes)) = some (some z, sz, by')) : ∃ i, Tryd.prog.info? t = some i ∧ i.zero = some z ∧ i.size = sz ∧ i.bytes = by' := by
  cases hi : Tryd.prog.info? t with
  | none => rw [hi] at h; cases h
  | some i => rw [hi] at h; simp at h; exact ⟨i, rfl, h.1, h.2.1, h.2.2⟩
theorem info_i : ∃ i, Tryd.prog.info? 3 = some i ∧ i.zero = some (.int .i64 0) ∧ i.size = 1 ∧ i.bytes = 8 := info_of (by kernel_rfl)
theorem info_n : ∃ i, Tryd.prog.info? 73 = some i ∧ i.zero = some (.agg #[.int .i64 0, .int .i64 0, .int .i64 0, .int .i64 0, .int .i64 0, .int .i64 0, .int .i64 0]) ∧ i.size = 7 ∧ i.bytes = 56 := info_of (by kernel_rfl)
theorem info_r : ∃ i, Tryd.prog.info? 58 = some i ∧ i.zero = some (.slice none 0 0) ∧ i.size = 1 ∧ i.bytes = 24 := info_of (by kernel_rfl)
theorem add1 (b o j : Nat) : (⟨b, o, none⟩ : Addr).add j = ⟨b, o + j, none⟩ := by unfold Addr.add; split <;> simp_all
/-- What twin has come to. -/
structure Tw (w wr : World) (l : Lt) (vl : Array Value) (bx : Nat) (aw : Option Addr) (nw cw i : Nat) (v : Value) : Prop where
  lbx : wr.heap[w.heap.size]? = some (.cells vl 25 (0, 0))
  rbx : wr.heap[w.heap.size + 1]? = some (.cells #[.slice none 0 0, .slice none 0 0] 25 (0, 0))
  xbx : wr.heap[bx]? = some (.cells #[.slice aw nw cw, v] 25 (0, 0))
  hbx : w.heap.size + 2 ≤ bx
  cap : nw ≤ cw
  wds : IsAt wr aw nw l.ws
  low : ∀ b o, aw = some ⟨b, o, none⟩ → w.heap.size + 2 ≤ b ∧ b < bx
  row : ∃ rv, Has wr (fun k => bx < k) 58 1 v i rv ∧ ∀ j c, j < i → l.th[j]? = some c → ∃ a' n' c', rv[j]? = some (.slice a' n' c') ∧ n' ≤ c' ∧ CdAt wr a' n' c ∧ ∀ b o, a' = some ⟨b, o, none⟩ → bx < b ∧ b < wr.heap.size ∧ v.ownBlock ≠ some b
  bel : Below w.heap.size w wr
def intsV (xs : List Int) : List Value := xs.map (Value.int .i64)
theorem intsV_one (xs : List Int) : ∀ u ∈ intsV xs, u.oneCell' = true := by
  intro u hu
  simp only [intsV, List.mem_map] at hu
  obtain ⟨x, _, rfl⟩ := hu
  rfl
theorem IsAt.of {W : World} {S : Nat → Prop} {g n cap : Nat} {xs : List Int} (h : Has W S 3 1 (.slice (some ⟨g, 0, none⟩) n cap) n (intsV xs)) : IsAt W (some ⟨g, 0, none⟩) n xs := by
  have hl := h.1
  simp only [intsV, List.length_map, Nat.mul_one] at hl
  refine ⟨hl.symm, .inr ⟨g, 0, rfl, (h.lt g rfl).2, fun j x hx => ?_⟩⟩
  rw [Nat.zero_add]
  exact h.cells (g := g) rfl j _ (by simp [intsV, hx])
theorem Tw.start {w w2 : World} {l : Lt} {vl : Array Value} {aw : Option Addr} {nw cw : Nat} (hl : w2.heap[w.heap.size]? = some (.cells vl 25 (0, 0))) (hr : w2.heap[w.heap.size + 1]? = some (.cells #[.slice none 0 0, .slice none 0 0] 25 (0, 0))) (hsz : w.heap.size + 2 ≤ w2.heap.size) (hc : nw ≤ cw) (hI : IsAt w2 aw nw l.ws) (hlow : ∀ b o, aw = some ⟨b, o, none⟩ → w.heap.size + 2 ≤ b ∧ b < w2.heap.size) (hB : Below w.heap.size w w2) :
    Tw w (w2.alloc (.cells #[.slice aw nw cw, .slice none 0 0] 25)) l vl w2.heap.size aw nw cw 0 (.slice none 0 0) := by
  have hA : Below w2.heap.size w2 (w2.alloc (.cells #[.slice aw nw cw, .slice none 0 0] 25)) := (Below.refl _ _).alloc (Nat.le_refl _) _
  exact ⟨(hA.block _ (by omega)).trans hl, (hA.block _ (by omega)).trans hr, new_at _ _ _ rfl, hsz, hc, hI.below hA, hlow, ⟨[], Has.nil _ _ _ _, fun j c hj => by omega⟩, hB.trans (hA.mono (by omega))⟩
theorem IsAt.kept {W W' : World} {a : Option Addr} {n : Nat} {xs : List Int} (h : IsAt W a n xs) (hs : W.heap.size ≤ W'.heap.size) (hk : ∀ b o, a = some ⟨b, o, none⟩ → W'.heap[b]? = W.heap[b]?) : IsAt W' a n xs := by
  refine ⟨h.1, ?_⟩
  rcases h.2 with h | ⟨b, o, rfl, hl, hc⟩
  · exact .inl h
  · exact .inr ⟨b, o, rfl, Nat.lt_of_lt_of_le hl hs, fun j x hx => (World.cell?_of_block (a := ⟨b, _, none⟩) (hk b o rfl)).trans (hc j x hx)⟩
theorem CdAt.kept {W W' : World} {a : Option Addr} {n : Nat} {c : List In} (h : CdAt W a n c) (hs : W.heap.size ≤ W'.heap.size) (hk : ∀ b o, a = some ⟨b, o, none⟩ → W'.heap[b]? = W.heap[b]?) : CdAt W' a n c := by
  refine ⟨h.1, ?_⟩
  rcases h.2 with h | ⟨b, o, rfl, hl, hc⟩
  · exact .inl h
  · exact .inr ⟨b, o, rfl, Nat.lt_of_lt_of_le hl hs, fun j i hi f u hu => (World.cell?_of_block (a := ⟨b, _, none⟩) (hk b o rfl)).trans (hc j i hi f u hu)⟩
/-- What twin hands out. -/
theorem Tw.done {w wr wq : World} {l : Lt} {vl : Array Value} {bx : Nat} {aw : Option Addr} {nw cw nt : Nat} {av : Option Addr} {cv : Nat} (h : Tw w wr l vl bx aw nw cw nt (.slice av nt cv)) (hn : nt = l.th.length) (hs : wr.heap.size ≤ wq.heap.size) (hk : ∀ k, w.heap.size + 2 ≤ k → wq.heap[k]? = wr.heap[k]?) : IsAt wq aw nw l.ws ∧ ThAt wq av nt l.th := by
  have hb := h.hbx
  refine ⟨h.wds.kept hs (fun b o e => hk b (h.low b o e).1), hn, ?_⟩
  by_cases h0 : l.th = []
  · exact .inl h0
  · obtain ⟨rv, hrow, hcd⟩ := h.row
    have hpos : 0 < nt := by rw [hn]; exact List.length_pos_iff.2 h0
    obtain ⟨g, cap', hv, -, hg, -, -⟩ := hrow.there hpos
    cases hv
    have hgb := (hrow.lt g rfl).1
    refine .inr ⟨g, 0, rfl, Nat.lt_of_lt_of_le hg hs, fun j c hj => ?_⟩
    have hjl : j < nt := by rw [hn]; exact (List.getElem?_eq_some_iff.1 hj).1
    obtain ⟨a', n', c', h1, h2, h3, h4⟩ := hcd j c hjl hj
    refine ⟨a', n', c', ?_, h2, h3.kept hs (fun b o e => hk b (by have := (h4 b o e).1; omega))⟩
    rw [Nat.zero_add]
    exact (World.cell?_of_block (a := ⟨g, j, none⟩) (hk g (by omega))).trans (hrow.cells (g := g) rfl j _ h1)
/-- One of the three orders. -/
def ordB (o : Int) : Bool := inB o 1 3
set_option maxHeartbeats 4000000 in
theorem isOrder_any (o : Int) (w : World) : Calls Tryd.prog 21 #[.int .i64 o] w fun e w' => e = .returned (.bool (ordB o)) ∧ w' = w := by
  unfold ordB inB
  by_cases h1 : 1 ≤ o
  · have d1 : decide (1 ≤ o) = true := decide_eq_true h1
    by_cases h2 : o ≤ 3
    · have d2 : decide (o ≤ 3) = true := decide_eq_true h2
      rw [d1, d2]
      go_enter Tryd.func21, Tryd.ntmps21
      go_wp2
      go_ret
      exact ⟨by simp [d2], rfl⟩
    · have d2 : decide (o ≤ 3) = false := decide_eq_false h2
      rw [d1, d2]
      go_enter Tryd.func21, Tryd.ntmps21
      go_wp2
      go_ret
      exact ⟨by simp [d2], rfl⟩
  · have d1 : decide (1 ≤ o) = false := decide_eq_false h1
    rw [d1]
    go_enter Tryd.func21, Tryd.ntmps21
    go_wp2
    go_ret
    exact ⟨by simp, rfl⟩
set_option maxHeartbeats 4000000 in
theorem rIsOrder_any (o : Int) (w : World) : Calls Tryd.prog 18 #[.int .i64 o] w fun e w' => e = .returned (.bool (ordB o)) ∧ w' = w := by
  unfold ordB inB
  by_cases h1 : 1 ≤ o
  · have d1 : decide (1 ≤ o) = true := decide_eq_true h1
    by_cases h2 : o ≤ 3
    · have d2 : decide (o ≤ 3) = true := decide_eq_true h2
      rw [d1, d2]
      go_enter Tryd.func18, Tryd.ntmps18
      go_wp2
      go_ret
      exact ⟨by simp [d2], rfl⟩
    · have d2 : decide (o ≤ 3) = false := decide_eq_false h2
      rw [d1, d2]
      go_enter Tryd.func18, Tryd.ntmps18
      go_wp2
      go_ret
      exact ⟨by simp [d2], rfl⟩
  · have d1 : decide (1 ≤ o) = false := decide_eq_false h1
    rw [d1]
    go_enter Tryd.func18, Tryd.ntmps18
    go_wp2
    go_ret
    exact ⟨by simp, rfl⟩
end Go.Proofs.YtmejblmeaipahaaDoor.Ts
/-
  TSO: a copy of a thread's instructions, whether there are any or none.
-/
namespace Go.Proofs.YtmejblmeaipahaaDoor.Ts
open Go.RowKit Mr
set_option linter.unusedVariables false
set_option linter.unusedSimpArgs false
set_option maxRecDepth 100000
def codeV (c : List In) : List Value := c.flatMap In.cells
theorem codeV_len (c : List In) : (codeV c).length = c.length * 7 := by
  induction c with
  | nil => rfl
  | cons i c ih => simp only [codeV, List.flatMap_cons, List.length_append, List.length_cons] at ih ⊢; simp [In.cells] at ih ⊢; omega
theorem codeV_one (c : List In) : ∀ u ∈ codeV c, u.oneCell' = true := by
  intro u hu
  simp only [codeV, List.mem_flatMap, In.cells, List.mem_cons, List.not_mem_nil, or_false] at hu
  obtain ⟨i, -, rfl | rfl | rfl | rfl | rfl | rfl | rfl⟩ := hu <;> rfl
theorem codeV_get : ∀ (c : List In) (j f : Nat) (i : In), c[j]? = some i → f < 7 → (codeV c)[j * 7 + f]? = i.cells[f]?
  | [], j, f, i, h, _ => by simp at h
  | x :: c, 0, f, i, h, hf => by
    simp at h; subst h
    simp only [codeV, List.flatMap_cons, Nat.zero_mul, Nat.zero_add]
    rw [List.getElem?_append_left (by simp [In.cells]; exact hf)]
  | x :: c, j + 1, f, i, h, hf => by
    have ih := codeV_get c j f i (by simpa using h) hf
    simp only [codeV, List.flatMap_cons] at ih ⊢
    rw [List.getElem?_append_right (by simp [In.cells]; omega)]
    have e : (j + 1) * 7 + f - x.cells.length = j * 7 + f := by simp [In.cells]; omega
    rw [e]
    exact ih
theorem codeV_at (c : List In) (q : Nat) (u : Value) (h : (codeV c)[q]? = some u) : ∃ j f i, q = j * 7 + f ∧ f < 7 ∧ c[j]? = some i ∧ i.cells[f]? = some u := by
  have hq : q < c.length * 7 := by rw [← codeV_len]; exact (List.getElem?_eq_some_iff.1 h).1
  have hj : q / 7 < c.length := by omega
  refine ⟨q / 7, q % 7, c[q / 7], by omega, by omega, List.getElem?_eq_getElem hj, ?_⟩
  rw [← codeV_get c (q / 7) (q % 7) _ (List.getElem?_eq_getElem hj) (by omega), show q / 7 * 7 + q % 7 = q by omega]
  exact h
theorem CdAt.of {W : World} {S : Nat → Prop} {g n cap : Nat} {c : List In} (h : Has W S 73 7 (.slice (some ⟨g, 0, none⟩) n cap) n (codeV c)) : CdAt W (some ⟨g, 0, none⟩) n c := by
  have hl := h.1
  rw [codeV_len] at hl
  refine ⟨by omega, .inr ⟨g, 0, rfl, (h.lt g rfl).2, fun j i hi f u hu => ?_⟩⟩
  have hf : f < 7 := by have := (List.getElem?_eq_some_iff.1 hu).1; simpa [In.cells] using this
  rw [Nat.zero_add]
  exact h.cells (g := g) rfl _ _ ((codeV_get c j f i hi hf).trans hu)
theorem wp_append_code {w : World} {o : Oper} {a : Act} {K : Act → World → Prop} {Q : Exit → Act → World → Prop} (s x : Operand)
    (ho : o.op = .call { callee := .builtin .append, args := #[s, x], argTypes := #[58, 58] }) (B b : Nat) (hs : a.eval s = .slice (some ⟨b, 0, none⟩) 0 0) (hE : Has w (fun k => B ≤ k) 73 7 (.slice (some ⟨b, 0, none⟩) 0 0) 0 [])
    (a1 : Option Addr) (n1 k1 : Nat) (c : List In) (hx : a.eval x = .slice a1 n1 k1) (hC : CdAt w a1 n1 c) (hz : n1 * 56 ≤ 140737488351232) (hB : B ≤ w.heap.size)
    (h : ∀ ga ca w', CdAt w' (some ⟨ga, 0, none⟩) n1 c → n1 ≤ ca → B ≤ ga → ga < w'.heap.size → Below B w w' → K (a.put o.dst (.slice (some ⟨ga, 0, none⟩) n1 ca)) w') : o.wp Tryd.prog a w K Q := by
  obtain ⟨nn, hnn, hn0, hn1, hn2⟩ := info_n
  have hbl := hE.lt b rfl
  by_cases h0 : n1 = 0
  · subst h0
    have hc : c = [] := List.eq_nil_of_length_eq_zero (by have := hC.1; omega)
    refine wp_append_zero s x 58 ho 73 nn Tryd.underlying58 hnn _ 0 0 (Nat.le_refl _) hs _ _ hx ?_
    exact h b 0 w ⟨by rw [hc]; rfl, .inl hc⟩ (Nat.le_refl _) hbl.1 hbl.2 (Below.refl _ _)
  · have hne : c ≠ [] := fun e => h0 (by have := hC.1; rw [e] at this; simpa using this)
    obtain ⟨g, q, rfl, hg, hcc⟩ := hC.2.resolve_left hne
    have hl := hC.1
    refine wp_append_has _ s x 58 ho (fun k => B ≤ k) 73 nn _ 7 56 Tryd.underlying58 hnn hn0 hn1 hn2 rfl _ 0 [] hs hE ⟨g, q, none⟩ n1 k1 (codeV c) hx (by rw [codeV_len, hl]) ?_ (codeV_one c) (by omega) (by unfold maxLen; omega) (by omega) hB ?_
    · intro j u hu
      obtain ⟨j', f, i, rfl, hf, hi, hu'⟩ := codeV_at c j u hu
      rw [add1, show q + (j' * 7 + f) = q + j' * 7 + f by omega]
      exact hcc j' i hi f u hu'
    · intro g2 cap2 w3 hh3 hgr hgg
      simp only [Nat.zero_add, List.nil_append] at hh3 ⊢
      obtain ⟨g9, cp9, hv9, -, hg9, hc9, -⟩ := hh3.there (by omega)
      cases hv9
      exact h g2 cap2 w3 (CdAt.of hh3) hc9 (hh3.lt g2 rfl).1 hg9 ((Below.refl _ _).grown hgr hB (fun k hk => (hE.lt k hk).1))
end Go.Proofs.YtmejblmeaipahaaDoor.Ts
