import Derived.Test.YtmejblmeaipahaaDoorJ19
/-
  TSO: what told makes.
-/
namespace Go.Proofs.YtmejblmeaipahaaDoor.Ts
open Go.RowKit Mr
set_option linter.unusedVariables false
set_option linter.unusedSimpArgs false
set_option maxRecDepth 100000
def plR (pl : List Int) (nt i : Nat) : Array Value := ((List.range nt).map fun j => Value.int .i64 (if j < i then (pl[j]?).getD 0 else 0)).toArray
theorem plR_size (pl : List Int) (nt i : Nat) : (plR pl nt i).size = nt := by simp [plR]
theorem plR_get (pl : List Int) (nt i j : Nat) (h : j < nt) : (plR pl nt i)[j]? = some (.int .i64 (if j < i then (pl[j]?).getD 0 else 0)) := by simp [plR, h]
theorem plR_zero (pl : List Int) (nt : Nat) : mkI nt = plR pl nt 0 := by
  apply Array.ext_getElem?
  intro j
  by_cases h : j < nt
  · rw [mkI_get _ _ h, plR_get _ _ _ _ h]; simp
  · rw [Array.getElem?_eq_none (by rw [mkI_size]; omega), Array.getElem?_eq_none (by rw [plR_size]; omega)]
theorem plR_next (pl : List Int) (nt i : Nat) (v : Int) (hi : i < nt) (hv : pl[i]? = some v) : (plR pl nt i).setIfInBounds i (.int .i64 v) = plR pl nt (i + 1) := by
  apply Array.ext_getElem?
  intro j
  by_cases h : j < nt
  · rw [plR_get _ _ _ _ h]
    by_cases e : i = j
    · subst e; rw [Array.getElem?_setIfInBounds, if_pos rfl, if_pos (by rw [plR_size]; exact hi), if_pos (by omega), hv]; rfl
    · rw [Array.getElem?_setIfInBounds_ne e, plR_get _ _ _ _ h]
      by_cases e2 : j < i
      · rw [if_pos e2, if_pos (by omega)]
      · rw [if_neg e2, if_neg (by omega)]
  · rw [Array.getElem?_eq_none (by rw [Array.size_setIfInBounds, plR_size]; omega), Array.getElem?_eq_none (by rw [plR_size]; omega)]
def pdQ (b : List Pd) (n k : Nat) : Array Value := ((List.range (n * 2)).map fun j => Value.int .i64 (if j < 2 * k then bfC b j else 0)).toArray
theorem pdQ_size (b : List Pd) (n k : Nat) : (pdQ b n k).size = n * 2 := by simp [pdQ]
theorem pdQ_get (b : List Pd) (n k j : Nat) (h : j < n * 2) : (pdQ b n k)[j]? = some (.int .i64 (if j < 2 * k then bfC b j else 0)) := by simp [pdQ, h]
theorem pdQ_zero (b : List Pd) (n : Nat) : mkP n = pdQ b n 0 := by
  apply Array.ext_getElem?
  intro j
  by_cases h : j < n * 2
  · rw [mkP_get _ _ h, pdQ_get _ _ _ _ h]; simp
  · rw [Array.getElem?_eq_none (by rw [mkP_size]; omega), Array.getElem?_eq_none (by rw [pdQ_size]; omega)]
theorem bfC_even (b : List Pd) (k : Nat) (p : Pd) (h : b[k]? = some p) : bfC b (2 * k) = p.ad := by unfold bfC; rw [show 2 * k / 2 = k by omega, h]; simp
theorem bfC_odd (b : List Pd) (k : Nat) (p : Pd) (h : b[k]? = some p) : bfC b (2 * k + 1) = p.vl := by unfold bfC; rw [show (2 * k + 1) / 2 = k by omega, h]; simp
theorem pdQ_next (b : List Pd) (n k : Nat) (p : Pd) (hk : k < n) (hp : b[k]? = some p) : ((pdQ b n k).setIfInBounds (k * 2) (.int .i64 p.ad)).setIfInBounds (k * 2 + 1) (.int .i64 p.vl) = pdQ b n (k + 1) := by
  apply Array.ext_getElem?
  intro j
  by_cases h : j < n * 2
  · rw [pdQ_get _ _ _ _ h]
    by_cases e1 : k * 2 + 1 = j
    · subst e1
      rw [Array.getElem?_setIfInBounds, if_pos rfl, if_pos (by rw [Array.size_setIfInBounds, pdQ_size]; exact h), if_pos (by omega), show k * 2 + 1 = 2 * k + 1 by omega, bfC_odd b k p hp]
    · rw [Array.getElem?_setIfInBounds_ne e1]
      by_cases e0 : k * 2 = j
      · subst e0
        rw [Array.getElem?_setIfInBounds, if_pos rfl, if_pos (by rw [pdQ_size]; exact h), if_pos (by omega), show k * 2 = 2 * k by omega, bfC_even b k p hp]
      · rw [Array.getElem?_setIfInBounds_ne e0, pdQ_get _ _ _ _ h]
        by_cases e2 : j < 2 * k
        · rw [if_pos e2, if_pos (by omega)]
        · rw [if_neg e2, if_neg (by omega)]
  · rw [Array.getElem?_eq_none (by rw [Array.size_setIfInBounds, Array.size_setIfInBounds, pdQ_size]; omega), Array.getElem?_eq_none (by rw [pdQ_size]; omega)]
/-- A buffer that has been told. -/
def Tb (W : World) (lo : Nat) (v : Value) (b : List Pd) : Prop := ∃ h, v = .slice (some ⟨h, 0, none⟩) b.length b.length ∧ lo < h ∧ h < W.heap.size ∧ W.heap[h]? = some (.cells (pdQ b b.length b.length) 70 (0, 0))
theorem Tb.pd {W : World} {lo : Nat} {v : Value} {b : List Pd} (h : Tb W lo v b) : ∃ a, v = .slice a b.length b.length ∧ PdAt W a b.length b := by
  obtain ⟨g, rfl, -, hl, hg⟩ := h
  refine ⟨_, rfl, rfl, .inr ⟨g, 0, rfl, hl, fun j p hj => ?_⟩⟩
  have hjl := (List.getElem?_eq_some_iff.1 hj).1
  rw [cell_blk hg, cell_blk hg, pdQ_get _ _ _ _ (by omega), pdQ_get _ _ _ _ (by omega), if_pos (by omega), if_pos (by omega), show 0 + j * 2 = 2 * j by omega, bfC_even b j p hj, bfC_odd b j p hj]
  exact ⟨rfl, rfl⟩
/-- What told has come to. -/
structure Td (w wr : World) (s : Sv) (cs : Array Value) (nw nt i ib gt g1 g2 gp gB : Nat) : Prop where
  t : wr.heap[gt]? = some (.cells #[.slice (some ⟨g1, 0, none⟩) nw nw, .slice (some ⟨g2, 0, none⟩) nt nt, .slice (some ⟨gp, 0, none⟩) nt nt, .slice (some ⟨gB, 0, none⟩) nt nt] 32 (0, 0))
  h1 : wr.heap[g1]? = some (.cells (intsV s.ws).toArray 3 (0, 0))
  h2 : wr.heap[g2]? = some (.cells (rgR cs nt nt) 67 (0, 0))
  hp : wr.heap[gp]? = some (.cells (plR s.pl nt i) 3 (0, 0))
  hB : ∃ ba, wr.heap[gB]? = some (.cells ba 68 (0, 0)) ∧ ba.size = nt ∧ ∀ j b, j < ib → s.bf[j]? = some b → ∃ v, ba[j]? = some v ∧ Tb wr gB v b
  r : wr.heap[w.heap.size + 1]? = some (.cells #[.slice none 0 0, .slice none 0 0, .slice none 0 0, .slice none 0 0] 32 (0, 0))
  l : wr.heap[w.heap.size]? ≠ none
  ord : w.heap.size + 2 ≤ g1 ∧ w.heap.size + 2 ≤ g2 ∧ g1 < gt ∧ g2 < gt ∧ g1 ≠ g2 ∧ gt < gp ∧ gp < gB
  B : Below w.heap.size w wr
section
variable {w wr : World} {s : Sv} {cs : Array Value} {nw nt i ib gt g1 g2 gp gB : Nat}
theorem Td.below {W' : World} (h : Td w wr s cs nw nt i ib gt g1 g2 gp gB) (hB : Below wr.heap.size wr W') : Td w W' s cs nw nt i ib gt g1 g2 gp gB := by
  have bk : ∀ {k : Nat} {o : Obj}, wr.heap[k]? = some o → W'.heap[k]? = some o := fun e => (hB.block _ (Array.getElem?_eq_some_iff.1 e).1).trans e
  obtain ⟨ba, b1, b2, b3⟩ := h.hB
  refine ⟨bk h.t, bk h.h1, bk h.h2, bk h.hp, ⟨ba, bk b1, b2, fun j b hj hb => ?_⟩, bk h.r, ?_, h.ord, h.B.trans (hB.mono h.B.size)⟩
  · obtain ⟨v, hv, g, e1, e2, e3, e4⟩ := b3 j b hj hb
    exact ⟨v, hv, g, e1, e2, Nat.lt_of_lt_of_le e3 hB.size, bk e4⟩
  · cases hl : wr.heap[w.heap.size]? with
    | none => exact absurd hl h.l
    | some o => rw [bk hl]; simp
theorem Td.setP (h : Td w wr s cs nw nt i ib gt g1 g2 gp gB) {v : Int} (hi : i < nt) (hv : s.pl[i]? = some v) : Td w (wr.setCell ⟨gp, i, none⟩ (.int .i64 v)) s cs nw nt (i + 1) ib gt g1 g2 gp gB := by
  have ho := h.ord
  have bk : ∀ {k : Nat} {o : Obj}, k ≠ gp → wr.heap[k]? = some o → (wr.setCell ⟨gp, i, none⟩ (.int .i64 v)).heap[k]? = some o := fun hk e => (Below.heap_setCell _ _ _ _ hk).trans e
  obtain ⟨ba, b1, b2, b3⟩ := h.hB
  refine ⟨bk (by omega) h.t, bk (by omega) h.h1, bk (by omega) h.h2, ?_, ⟨ba, bk (by omega) b1, b2, fun j b hj hb => ?_⟩, bk (by omega) h.r, ?_, h.ord, h.B.setCell (p := ⟨gp, i, none⟩) (by show w.heap.size ≤ gp; omega) _⟩
  · rw [← plR_next s.pl nt i v hi hv]
    show (wr.heap.modify gp _)[gp]? = _
    rw [Array.getElem?_modify, if_pos rfl, h.hp]
    rfl
  · obtain ⟨u, hu, g, e1, e2, e3, e4⟩ := b3 j b hj hb
    exact ⟨u, hu, g, e1, e2, by simpa using e3, bk (by omega) e4⟩
  · cases hl : wr.heap[w.heap.size]? with
    | none => exact absurd hl h.l
    | some o => rw [bk (by omega) hl]; simp
theorem Td.setB (h : Td w wr s cs nw nt i ib gt g1 g2 gp gB) (u : Value) : Td w (wr.setCell ⟨gB, ib, none⟩ u) s cs nw nt i ib gt g1 g2 gp gB := by
  have ho := h.ord
  have bk : ∀ {k : Nat} {o : Obj}, k ≠ gB → wr.heap[k]? = some o → (wr.setCell ⟨gB, ib, none⟩ u).heap[k]? = some o := fun hk e => (Below.heap_setCell _ _ _ _ hk).trans e
  obtain ⟨ba, b1, b2, b3⟩ := h.hB
  refine ⟨bk (by omega) h.t, bk (by omega) h.h1, bk (by omega) h.h2, bk (by omega) h.hp, ⟨ba.setIfInBounds ib u, ?_, by simp [b2], fun j b hj hb => ?_⟩, bk (by omega) h.r, ?_, h.ord, h.B.setCell (p := ⟨gB, ib, none⟩) (by show w.heap.size ≤ gB; omega) _⟩
  · show (wr.heap.modify gB _)[gB]? = _
    rw [Array.getElem?_modify, if_pos rfl, b1]
    rfl
  · obtain ⟨v, hv, g, e1, e2, e3, e4⟩ := b3 j b hj hb
    exact ⟨v, (Array.getElem?_setIfInBounds_ne (by omega)).trans hv, g, e1, e2, by simpa using e3, bk (by omega) e4⟩
  · cases hl : wr.heap[w.heap.size]? with
    | none => exact absurd hl h.l
    | some o => rw [bk (by omega) hl]; simp
theorem Td.fin {W' : World} {x : List Pd} {g : Nat} (h : Td w wr s cs nw nt i ib gt g1 g2 gp gB) (hx : s.bf[ib]? = some x) (hc : wr.cell? ⟨gB, ib, none⟩ = some (.slice (some ⟨g, 0, none⟩) x.length x.length)) (hg : g = wr.heap.size) (hB : Below wr.heap.size wr W') (hh : W'.heap[g]? = some (.cells (pdQ x x.length x.length) 70 (0, 0))) : Td w W' s cs nw nt i (ib + 1) gt g1 g2 gp gB := by
  have h' := h.below hB
  obtain ⟨ba, b1, b2, b3⟩ := h'.hB
  have lB := (Array.getElem?_eq_some_iff.1 (show wr.heap[gB]? = some _ from (hB.block gB (World.block_lt_of_cell? wr _ hc)).symm.trans b1)).1
  refine ⟨h'.t, h'.h1, h'.h2, h'.hp, ⟨ba, b1, b2, fun j b hj hb => ?_⟩, h'.r, h'.l, h'.ord, h'.B⟩
  by_cases e : j = ib
  · subst e
    rw [hx] at hb; cases hb
    refine ⟨_, ?_, g, rfl, by omega, (Array.getElem?_eq_some_iff.1 hh).1, hh⟩
    rw [← cell_blk b1, hB.cell (p := ⟨gB, j, none⟩) lB]; exact hc
  · exact b3 j b (by omega) hb
end
theorem IsAt.ofV {W : World} {g n : Nat} {xs : List Int} (h : W.heap[g]? = some (.cells (intsV xs).toArray 3 (0, 0))) (hn : n = xs.length) : IsAt W (some ⟨g, 0, none⟩) n xs :=
  ⟨hn, .inr ⟨g, 0, rfl, (Array.getElem?_eq_some_iff.1 h).1, fun j x hx => by rw [cell_blk h, List.getElem?_toArray, Nat.zero_add]; simp [intsV, hx]⟩⟩
theorem RgAt.ofR {W : World} {g nt : Nat} {s : Sv} {cs : Array Value} (h : W.heap[g]? = some (.cells (rgR cs nt nt) 67 (0, 0))) (hE : Enc cs s) (h4 : nt ≤ 4) (hn : nt = s.rg.length) : RgAt W (some ⟨g, 0, none⟩) nt s.rg := by
  refine ⟨hn, .inr ⟨g, 0, rfl, (Array.getElem?_eq_some_iff.1 h).1, fun j x hx => ?_⟩⟩
  have hj := (List.getElem?_eq_some_iff.1 hx).1
  have key : ∀ k, k < 4 → W.cell? ⟨g, 0 + j * 4 + k, none⟩ = some (.int .i64 (x.get k)) := fun k hk => by
    rw [cell_blk h, rgR_get _ _ _ _ (by omega), if_pos (by omega), show 6 + (0 + j * 4 + k) = 6 + j * 4 + k by omega, hE.reg hx (by omega) hk]
    rfl
  exact ⟨key 0 (by decide), key 1 (by decide), key 2 (by decide), key 3 (by decide)⟩
theorem IsAt.ofP {W : World} {g nt : Nat} {pl : List Int} (h : W.heap[g]? = some (.cells (plR pl nt nt) 3 (0, 0))) (hn : nt = pl.length) : IsAt W (some ⟨g, 0, none⟩) nt pl :=
  ⟨hn, .inr ⟨g, 0, rfl, (Array.getElem?_eq_some_iff.1 h).1, fun j x hx => by
    have hj := (List.getElem?_eq_some_iff.1 hx).1
    rw [cell_blk h, plR_get _ _ _ _ (by omega), if_pos (by omega), Nat.zero_add, hx]; rfl⟩⟩
/-- What told hands out. -/
theorem Td.done {w wr W' : World} {s : Sv} {cs : Array Value} {nw nt gt g1 g2 gp gB : Nat} (h : Td w wr s cs nw nt nt nt gt g1 g2 gp gB) (hE : Enc cs s) (h4 : nt ≤ 4) (hw : nw = s.ws.length) (hr : nt = s.rg.length) (hp : nt = s.pl.length) (hb : nt = s.bf.length) (hk : ∀ k, w.heap.size + 2 ≤ k → W'.heap[k]? = wr.heap[k]?) :
    SvAt W' #[.slice (some ⟨g1, 0, none⟩) nw nw, .slice (some ⟨g2, 0, none⟩) nt nt, .slice (some ⟨gp, 0, none⟩) nt nt, .slice (some ⟨gB, 0, none⟩) nt nt] s nw nt nt nt := by
  obtain ⟨ba, b1, b2, b3⟩ := h.hB
  have ho := h.ord
  replace b1 := (hk gB (by omega)).trans b1
  refine ⟨_, _, _, _, _, _, _, _, rfl, IsAt.ofV ((hk g1 (by omega)).trans h.h1) hw, RgAt.ofR ((hk g2 (by omega)).trans h.h2) hE h4 hr, IsAt.ofP ((hk gp (by omega)).trans h.hp) hp, hb, .inr ⟨gB, 0, rfl, (Array.getElem?_eq_some_iff.1 b1).1, fun j c hj => ?_⟩⟩
  obtain ⟨v, hv, g, e1, e2, e3, e4⟩ := b3 j c (by have := (List.getElem?_eq_some_iff.1 hj).1; omega) hj
  have e4' := (hk g (by omega)).trans e4
  obtain ⟨a, rfl, hP⟩ := Tb.pd (W := W') (lo := gB) (v := v) (b := c) ⟨g, e1, e2, (Array.getElem?_eq_some_iff.1 e4').1, e4'⟩
  exact ⟨a, _, _, by rw [cell_blk b1, Nat.zero_add]; exact hv, Nat.le_refl _, hP⟩
end Go.Proofs.YtmejblmeaipahaaDoor.Ts
/-
  TSO: the program's told.
-/
namespace Go.Proofs.YtmejblmeaipahaaDoor.Ts
open Go.RowKit Mr
set_option linter.unusedVariables false
set_option linter.unusedSimpArgs false
set_option maxRecDepth 100000
theorem mod_heap {W : World} {g j : Nat} {cs : Array Value} {T : TypeId} {u : Value} (h : W.heap[g]? = some (.cells cs T (0, 0))) : (W.setCell ⟨g, j, none⟩ u).heap[g]? = some (.cells (cs.setIfInBounds j u) T (0, 0)) := by
  show (W.heap.modify g _)[g]? = _
  rw [Array.getElem?_modify, if_pos rfl, h]
  rfl
theorem fz_of {W : World} {g j : Nat} {cs : Array Value} {T : TypeId} (h : W.heap[g]? = some (.cells cs T (0, 0))) : W.frozen? ⟨g, j, none⟩ = false := by unfold World.frozen?; rw [h]; rfl
set_option maxHeartbeats 16000000 in
theorem told_any (s : Sv) (b : Nat) (cs : Array Value) (aw at' : Option Addr) (nw cw nt ct : Nat) (w : World) (hA : Ar w b cs) (hE : Enc cs s) (h6 : nw ≤ 6) (h4 : nt ≤ 4) (h1 : 1 ≤ nw) (hlw : s.ws.length = nw) (hlr : s.rg.length = nt) (hlp : s.pl.length = nt) (hlb : s.bf.length = nt) (hbb : ∀ x ∈ s.bf, x.length ≤ 11) : Calls Tryd.prog 25 #[.pointer (some ⟨b, 0, none⟩), .agg #[.slice aw nw cw, .slice at' nt ct]] w fun e w' => ∃ v, e = .returned (.agg v) ∧ (∀ W', (∀ k, w.heap.size + 2 ≤ k → W'.heap[k]? = w'.heap[k]?) → SvAt W' v s nw nt nt nt) ∧ Below w.heap.size w w' := by
  have B0 : Below w.heap.size w ((w.alloc (.cells #[.slice aw nw cw, .slice at' nt ct] 25)).alloc (.cells #[.slice none 0 0, .slice none 0 0, .slice none 0 0, .slice none 0 0] 32)) := ((Below.refl _ _).alloc (Nat.le_refl _) _).alloc (by simp) _
  have hb0 : ((w.alloc (.cells #[.slice aw nw cw, .slice at' nt ct] 25)).alloc (.cells #[.slice none 0 0, .slice none 0 0, .slice none 0 0, .slice none 0 0] 32)).heap[w.heap.size]? = some (.cells #[.slice aw nw cw, .slice at' nt ct] 25 (0, 0)) := (Lib.alloc_old _ _ _ (by simp)).trans (new_at _ _ _ rfl)
  have hb1 : ((w.alloc (.cells #[.slice aw nw cw, .slice at' nt ct] 25)).alloc (.cells #[.slice none 0 0, .slice none 0 0, .slice none 0 0, .slice none 0 0] 32)).heap[w.heap.size + 1]? = some (.cells #[.slice none 0 0, .slice none 0 0, .slice none 0 0, .slice none 0 0] 32 (0, 0)) := new_at _ _ _ (by simp)
  have hs1 : ((w.alloc (.cells #[.slice aw nw cw, .slice at' nt ct] 25)).alloc (.cells #[.slice none 0 0, .slice none 0 0, .slice none 0 0, .slice none 0 0] 32)).heap.size = w.heap.size + 2 := by simp
  have LF := Mr.hid (left_any s b cs aw at' nw cw nt ct _ (hA.below B0) hE h6 h4 h1 hlw hlr)
  have c0 := cell_blk hb0 0
  have c1 := cell_blk hb0 1
  have lb := (Array.getElem?_eq_some_iff.1 hA.1).1
  have hmi := fun W => make_i W nt (by omega)
  have hmb := fun W => make_b W nt (by omega)
  have hAb := hA.1
  have hsz := hA.2
  have hEn := Mr.hid hE
  have PL : Hid (∀ (W : World) (i : Nat), i < nt → W.heap[b]? = w.heap[b]? → Calls Tryd.prog 40 #[.pointer (some ⟨b, 0, none⟩), .int .i64 (i : Int)] W fun e w' => e = .returned (.pointer (some ⟨b, 22 + i, none⟩)) ∧ w' = W) := fun W i hi hW => place_any b i cs W ⟨hW.trans hA.1, hsz⟩ (by omega)
  have WT : Hid (∀ (W : World) (i : Nat), i < nt → W.heap[b]? = w.heap[b]? → Calls Tryd.prog 41 #[.pointer (some ⟨b, 0, none⟩), .int .i64 (i : Int)] W fun e w' => e = .returned (.pointer (some ⟨b, 26 + i, none⟩)) ∧ w' = W) := fun W i hi hW => waits_any b i cs W ⟨hW.trans hA.1, hsz⟩ (by omega)
  have SO : Hid (∀ (W : World) (i k : Nat) (x : List Pd) (p : Pd), s.bf[i]? = some x → x[k]? = some p → W.heap[b]? = w.heap[b]? → Calls Tryd.prog 42 #[.pointer (some ⟨b, 0, none⟩), .int .i64 (i : Int), .int .i64 (k : Int)] W fun e w' => e = .returned (.agg #[.int .i64 p.ad, .int .i64 p.vl]) ∧ Below W.heap.size W w') := fun W i k x p hi hk hW => by
    have hil := (List.getElem?_eq_some_iff.1 hi).1
    have hx := hbb x (List.mem_of_getElem? hi)
    obtain ⟨-, -, z⟩ := hE.bfin hi (by omega) hx
    obtain ⟨z1, z2⟩ := z k p hk
    have hkl := (List.getElem?_eq_some_iff.1 hk).1
    exact store_any b i k p.ad p.vl cs W ⟨hW.trans hA.1, hsz⟩ (by omega) (by omega) z1 z2
  replace B0 := Mr.hid B0
  replace hlw := Mr.hid hlw
  replace hlr := Mr.hid hlr
  replace hlp := Mr.hid hlp
  replace hlb := Mr.hid hlb
  replace hbb := Mr.hid hbb
  clear hA hE
  go_enter Tryd.func25, Tryd.ntmps25
  go_upto_region 2 with (go_at_call 39; refine LF.out.mono ?_; clear LF; rintro e wL ⟨g1, g2, rfl, L1, L2, L3, L4, L5, LB⟩; rw [hs1] at L3 L4; have lz := LB.size; rw [hs1] at lz; have q0 := (LB.block _ (Array.getElem?_eq_some_iff.1 hb0).1).trans hb0; have q1 := (LB.block _ (Array.getElem?_eq_some_iff.1 hb1).1).trans hb1; have BL : Hid (Below w.heap.size w wL) := B0.out.trans (LB.mono B0.out.size); clear LB hb0 hb1)
  have lg1 := (Array.getElem?_eq_some_iff.1 L1).1
  have lg2 := (Array.getElem?_eq_some_iff.1 L2).1
  have B2 : Below wL.heap.size wL (wL.alloc (.cells #[.slice (some ⟨g1, 0, none⟩) nw nw, .slice (some ⟨g2, 0, none⟩) nt nt] 92)) := (Below.refl _ _).alloc (Nat.le_refl _) _
  have f2 : (wL.alloc (.cells #[.slice (some ⟨g1, 0, none⟩) nw nw, .slice (some ⟨g2, 0, none⟩) nt nt] 92)).heap[wL.heap.size]? = some (.cells #[.slice (some ⟨g1, 0, none⟩) nw nw, .slice (some ⟨g2, 0, none⟩) nt nt] 92 (0, 0)) := new_at _ _ _ rfl
  have z2 : (wL.alloc (.cells #[.slice (some ⟨g1, 0, none⟩) nw nw, .slice (some ⟨g2, 0, none⟩) nt nt] 92)).heap.size = wL.heap.size + 1 := by simp
  replace z2 := Mr.hid z2
  have e0 := cell_blk f2 0
  have e1 := cell_blk f2 1
  clear c0 c1
  generalize (wL.alloc (.cells #[.slice (some ⟨g1, 0, none⟩) nw nw, .slice (some ⟨g2, 0, none⟩) nt nt] 92)) = w2 at *
  go_upto_region 3 with fail
  have B3 : Below wL.heap.size wL (w2.alloc (.cells #[.slice (some ⟨g1, 0, none⟩) nw nw, .slice (some ⟨g2, 0, none⟩) nt nt, .slice none 0 0, .slice none 0 0] 32)) := B2.alloc B2.size _
  have f3 : (w2.alloc (.cells #[.slice (some ⟨g1, 0, none⟩) nw nw, .slice (some ⟨g2, 0, none⟩) nt nt, .slice none 0 0, .slice none 0 0] 32)).heap[w2.heap.size]? = some (.cells #[.slice (some ⟨g1, 0, none⟩) nw nw, .slice (some ⟨g2, 0, none⟩) nt nt, .slice none 0 0, .slice none 0 0] 32 (0, 0)) := new_at _ _ _ rfl
  have z3 : (w2.alloc (.cells #[.slice (some ⟨g1, 0, none⟩) nw nw, .slice (some ⟨g2, 0, none⟩) nt nt, .slice none 0 0, .slice none 0 0] 32)).heap.size = w2.heap.size + 1 := by simp
  replace z3 := Mr.hid z3
  have y2 := z2.out
  have y3 := z3.out
  obtain ⟨gt, hgt⟩ : ∃ gt, gt = w2.heap.size := ⟨_, rfl⟩
  rw [← hgt] at f3
  have d1 := (cell_blk ((B3.block _ (Array.getElem?_eq_some_iff.1 q0).1).trans q0) 1)
  have x2 := cell_blk f3 2
  have lgt := (Array.getElem?_eq_some_iff.1 f3).1
  have fz3 : ∀ k, (w2.alloc (.cells #[.slice (some ⟨g1, 0, none⟩) nw nw, .slice (some ⟨g2, 0, none⟩) nt nt, .slice none 0 0, .slice none 0 0] 32)).frozen? ⟨gt, k, none⟩ = false := fun k => fz_of f3
  have lH3 : w.heap.size < (w2.alloc (.cells #[.slice (some ⟨g1, 0, none⟩) nw nw, .slice (some ⟨g2, 0, none⟩) nt nt, .slice none 0 0, .slice none 0 0] 32)).heap.size := by omega
  rw [← hgt]
  clear e0 e1 f2 B2
  have nH : ¬ w.heap.size = gt := by omega
  have ygt : wL.heap.size ≤ gt ∧ gt < w2.heap.size + 1 := by omega
  have ygt2 : gt = wL.heap.size + 1 := by omega
  replace y2 := Mr.hid y2
  replace y3 := Mr.hid y3
  replace hgt := Mr.hid hgt
  replace ygt2 := Mr.hid ygt2
  generalize (w2.alloc (.cells #[.slice (some ⟨g1, 0, none⟩) nw nw, .slice (some ⟨g2, 0, none⟩) nt nt, .slice none 0 0, .slice none 0 0] 32)) = w3 at *
  go_upto_region 4 with fail
  have v2 := z2.out
  have v3 := z3.out
  have vg := hgt.out
  have B4 : Below wL.heap.size wL ((w3.setCell ⟨gt, 2, none⟩ (.slice (some ⟨w3.heap.size, 0, none⟩) nt nt)).alloc (.cells (mkI nt) 3)) := (B3.setCell (p := ⟨gt, 2, none⟩) (by show wL.heap.size ≤ gt; omega) _).alloc (by have := B3.size; simpa using this) _
  have f4 : ((w3.setCell ⟨gt, 2, none⟩ (.slice (some ⟨w3.heap.size, 0, none⟩) nt nt)).alloc (.cells (mkI nt) 3)).heap[gt]? = _ := (Lib.alloc_old _ _ _ (by simpa using lgt)).trans (mod_heap f3)
  have p4 : ((w3.setCell ⟨gt, 2, none⟩ (.slice (some ⟨w3.heap.size, 0, none⟩) nt nt)).alloc (.cells (mkI nt) 3)).heap[w3.heap.size]? = some (.cells (mkI nt) 3 (0, 0)) := new_at _ _ _ (by simp)
  have z4 : ((w3.setCell ⟨gt, 2, none⟩ (.slice (some ⟨w3.heap.size, 0, none⟩) nt nt)).alloc (.cells (mkI nt) 3)).heap.size = w3.heap.size + 1 := by simp
  replace z4 := Mr.hid z4
  have v4 := z4.out
  have d4 := (cell_blk ((B4.block _ (Array.getElem?_eq_some_iff.1 q0).1).trans q0) 1)
  have x4 := cell_blk f4 3
  have lgt4 := (Array.getElem?_eq_some_iff.1 f4).1
  have fz4 : ∀ k, ((w3.setCell ⟨gt, 2, none⟩ (.slice (some ⟨w3.heap.size, 0, none⟩) nt nt)).alloc (.cells (mkI nt) 3)).frozen? ⟨gt, k, none⟩ = false := fun k => fz_of f4
  have lH4 : w.heap.size < ((w3.setCell ⟨gt, 2, none⟩ (.slice (some ⟨w3.heap.size, 0, none⟩) nt nt)).alloc (.cells (mkI nt) 3)).heap.size := by omega
  clear d1 x2 f3 B3 fz3 lgt lH3 v2 v3 vg v4
  generalize ((w3.setCell ⟨gt, 2, none⟩ (.slice (some ⟨w3.heap.size, 0, none⟩) nt nt)).alloc (.cells (mkI nt) 3)) = w4 at *
  go_upto_region 5 with fail
  have v2 := z2.out
  have v3 := z3.out
  have v4 := z4.out
  have vg := hgt.out
  have B5 : Below wL.heap.size wL ((w4.setCell ⟨gt, 3, none⟩ (.slice (some ⟨w4.heap.size, 0, none⟩) nt nt)).alloc (.cells (mkB nt) 68)) := (B4.setCell (p := ⟨gt, 3, none⟩) (by show wL.heap.size ≤ gt; omega) _).alloc (by have := B4.size; simpa using this) _
  have f5 : ((w4.setCell ⟨gt, 3, none⟩ (.slice (some ⟨w4.heap.size, 0, none⟩) nt nt)).alloc (.cells (mkB nt) 68)).heap[gt]? = _ := (Lib.alloc_old _ _ _ (by simpa using lgt4)).trans (mod_heap f4)
  have p5 : ((w4.setCell ⟨gt, 3, none⟩ (.slice (some ⟨w4.heap.size, 0, none⟩) nt nt)).alloc (.cells (mkB nt) 68)).heap[w3.heap.size]? = some (.cells (mkI nt) 3 (0, 0)) := (Lib.alloc_old _ _ _ (by simp; omega)).trans ((Below.heap_setCell _ _ _ _ (by show w3.heap.size ≠ gt; omega)).trans p4)
  have b5 : ((w4.setCell ⟨gt, 3, none⟩ (.slice (some ⟨w4.heap.size, 0, none⟩) nt nt)).alloc (.cells (mkB nt) 68)).heap[w4.heap.size]? = some (.cells (mkB nt) 68 (0, 0)) := new_at _ _ _ (by simp)
  have d5 := (cell_blk ((B5.block _ (Array.getElem?_eq_some_iff.1 q0).1).trans q0) 1)
  have hT : Td w ((w4.setCell ⟨gt, 3, none⟩ (.slice (some ⟨w4.heap.size, 0, none⟩) nt nt)).alloc (.cells (mkB nt) 68)) s cs nw nt 0 0 gt g1 g2 w3.heap.size w4.heap.size := ⟨f5, (B5.block _ lg1).trans L1, (B5.block _ lg2).trans L2, by rw [plR_zero s.pl nt] at p5; exact p5, ⟨_, b5, mkB_size _, fun j b hj => by omega⟩, (B5.block _ (Array.getElem?_eq_some_iff.1 q1).1).trans q1, by rw [(B5.block _ (Array.getElem?_eq_some_iff.1 q0).1).trans q0]; simp, by omega, BL.out.trans (B5.mono BL.out.size)⟩
  have lH5 := (Array.getElem?_eq_some_iff.1 ((B5.block _ (Array.getElem?_eq_some_iff.1 q0).1).trans q0)).1
  clear d4 x4 f4 B4 fz4 lgt4 lH4 f5 p5 b5 p4 B5 v2 v3 v4 vg
  generalize ((w4.setCell ⟨gt, 3, none⟩ (.slice (some ⟨w4.heap.size, 0, none⟩) nt nt)).alloc (.cells (mkB nt) 68)) = w5 at *
  go_upto_region 6 with fail
  clear d5 lH5 hmi hmb L1 L2 lg1 lg2 q0 q1 BL hs1
  clear z2 z3 z4 y2 y3 hgt
  generalize w3.heap.size = gp at *
  generalize w4.heap.size = gB at *
  clear nH ygt ygt2 L3 L4 L5 lz
  go_loopg [30] nt (fun gk s30 wr => ∃ i : Nat, s30 = .int .i64 (i : Int) ∧ i + gk = nt ∧ Td w wr s cs nw nt i i gt g1 g2 gp gB)
  case atStart => exact ⟨0, rfl, by omega, hT⟩
  case round =>
    obtain ⟨i, rfl, hi, hD⟩ := hrel
    clear hT
    by_cases hlt : i < nt
    · have dl : decide ((i : Int) < (nt : Int)) = true := decide_eq_true (by omega)
      have lI : (i : Int) < (nt : Int) := by omega
      have hwi : IntKind.i64.wrap ((i : Int) + 1) = (i : Int) + 1 := i64x _ (by omega) (by omega)
      obtain ⟨v, hv⟩ : ∃ v, s.pl[i]? = some v := ⟨_, List.getElem?_eq_getElem (by have := hlp.out; omega)⟩
      obtain ⟨x, hx⟩ : ∃ x, s.bf[i]? = some x := ⟨_, List.getElem?_eq_getElem (by have := hlb.out; omega)⟩
      have hxl := hbb.out x (List.mem_of_getElem? hx)
      have t2 := cell_blk hD.t 2
      have lt := (Array.getElem?_eq_some_iff.1 hD.t).1
      have hbw : wr.heap[b]? = w.heap[b]? := hD.B.block b lb
      have kp := (cell_blk (hbw.trans hAb) (22 + i)).trans (hEn.out.plc hv (by omega))
      have gpi := (cell_blk hD.hp i).trans (plR_get _ _ _ _ hlt)
      have fgp : wr.frozen? ⟨gp, i, none⟩ = false := fz_of hD.hp
      have lgp := (Array.getElem?_eq_some_iff.1 hD.hp).1
      have ngp : ¬ gp = gt := by have := hD.ord; omega
      have ngp2 : ¬ gt = gp := by have := hD.ord; omega
      have ngb : ¬ gp = b := by have := hD.ord; omega
      have ngb2 : ¬ b = gp := by have := hD.ord; omega
      have P1 := Mr.hid (PL.out wr.drew i hlt hbw)
      replace hi := Mr.hid hi
      replace hv := Mr.hid hv
      replace hx := Mr.hid hx
      have hD' := Mr.hid hD
      clear hD
      go_upto_region 8 with fail
      go_region_held3 (fun W => W.cell? ⟨gt, 2, none⟩ = some (.slice (some ⟨gp, 0, none⟩) nt nt) ∧ W.cell? ⟨b, 22 + i, none⟩ = some (.int .i64 v)) (simp [*, go_sem])
        (first | (go_at_call 40; refine P1.out.mono ?_; rintro e w9 ⟨rfl, hw9⟩; obtain rfl := hw9.symm))
      have D6 : Td w (wr.setCell ⟨gp, i, none⟩ (.int .i64 v)).drew s cs nw nt (i + 1) i gt g1 g2 gp gB := (hD'.out.setP hlt hv.out).below (Below.refl _ _).drew
      clear hD' P1 kp gpi fgp lgp t2 lt hbw
      generalize (wr.setCell ⟨gp, i, none⟩ (.int .i64 v)).drew = w6 at *
      have t3 := cell_blk D6.t 3
      have lt := (Array.getElem?_eq_some_iff.1 D6.t).1
      have hbw : w6.heap[b]? = w.heap[b]? := D6.B.block b lb
      have kn := (cell_blk (hbw.trans hAb) (26 + i)).trans (hEn.out.len hx.out (by omega))
      obtain ⟨ba, b1, b2, b3⟩ := D6.hB
      obtain ⟨old, hold⟩ : ∃ old, ba[i]? = some old := ⟨_, Array.getElem?_eq_getElem (by omega)⟩
      have gBi := (cell_blk b1 i).trans hold
      have fgB : w6.frozen? ⟨gB, i, none⟩ = false := fz_of b1
      have lgB := (Array.getElem?_eq_some_iff.1 b1).1
      have hmp := fun W => make_p W x.length (by omega)
      have nB1 : ¬ gB = gt := by have := D6.ord; omega
      have nB2 : ¬ gt = gB := by have := D6.ord; omega
      have nB3 : ¬ gB = b := by have := D6.ord; omega
      have nB4 : ¬ b = gB := by have := D6.ord; omega
      have hb6 : b < w6.heap.size := Nat.lt_of_lt_of_le lb D6.B.size
      have W1 := Mr.hid (WT.out w6.drew i hlt hbw)
      obtain ⟨n, hn⟩ : ∃ n, n = x.length := ⟨_, rfl⟩
      rw [← hn] at kn hmp hxl
      have hnn : n ≤ 100000 := by omega
      replace hn := Mr.hid hn
      have D6' := Mr.hid D6
      clear D6 b1 b2 b3 hold
      go_upto_region 9 with fail
      go_region_held3 (fun W => W.cell? ⟨gt, 3, none⟩ = some (.slice (some ⟨gB, 0, none⟩) nt nt) ∧ W.cell? ⟨b, 26 + i, none⟩ = some (.int .i64 (n : Int))) (simp [*, go_sem])
        (first | (go_at_call 41; refine W1.out.mono ?_; rintro e w9 ⟨rfl, hw9⟩; obtain rfl := hw9.symm))
      have D7 : Td w (w6.setCell ⟨gB, i, none⟩ (.slice (some ⟨w6.heap.size, 0, none⟩) n n)) s cs nw nt (i + 1) i gt g1 g2 gp gB := D6'.out.setB _
      have c7 : (w6.setCell ⟨gB, i, none⟩ (.slice (some ⟨w6.heap.size, 0, none⟩) n n)).cell? ⟨gB, i, none⟩ = some (.slice (some ⟨w6.heap.size, 0, none⟩) n n) := World.cell?_setCell_same _ _ _ gBi
      have hI : ((w6.setCell ⟨gB, i, none⟩ (.slice (some ⟨w6.heap.size, 0, none⟩) n n)).alloc (.cells (mkP n) 70)).drew.heap[w6.heap.size]? = some (.cells (mkP n) 70 (0, 0)) := dr_heap (new_at _ _ _ (by simp))
      have BI : Below (w6.setCell ⟨gB, i, none⟩ (.slice (some ⟨w6.heap.size, 0, none⟩) n n)).heap.size (w6.setCell ⟨gB, i, none⟩ (.slice (some ⟨w6.heap.size, 0, none⟩) n n)) ((w6.setCell ⟨gB, i, none⟩ (.slice (some ⟨w6.heap.size, 0, none⟩) n n)).alloc (.cells (mkP n) 70)).drew := ((Below.refl _ _).alloc (Nat.le_refl _) _).drew
      rw [pdQ_zero x n] at hI
      have z7 : Hid (w6.heap.size = (w6.setCell ⟨gB, i, none⟩ (.slice (some ⟨w6.heap.size, 0, none⟩) n n)).heap.size) := by show _ = _; simp
      rw [← pdQ_zero x n] at hI
      have hI' : ((w6.setCell ⟨gB, i, none⟩ (.slice (some ⟨w6.heap.size, 0, none⟩) n n)).alloc (.cells (mkP n) 70)).drew.heap[w6.heap.size]? = some (.cells (pdQ x n 0) 70 (0, 0)) := by rw [← pdQ_zero x n]; exact hI
      clear D6' W1 kn gBi fgB lgB t3 lt hbw hI hmp
      generalize ((w6.setCell ⟨gB, i, none⟩ (.slice (some ⟨w6.heap.size, 0, none⟩) n n)).alloc (.cells (mkP n) 70)).drew = wI at *
      generalize (w6.setCell ⟨gB, i, none⟩ (.slice (some ⟨w6.heap.size, 0, none⟩) n n)) = w7 at *
      generalize w6.heap.size = hh at *
      have l7 := (World.block_lt_of_cell? w7 _ c7)
      have t3 := (BI.cell (p := ⟨gt, 3, none⟩) (Array.getElem?_eq_some_iff.1 D7.t).1).trans (cell_blk D7.t 3)
      have ci := (BI.cell (p := ⟨gB, i, none⟩) l7).trans c7
      have ltI := Nat.lt_of_lt_of_le (Array.getElem?_eq_some_iff.1 D7.t).1 BI.size
      have lBI : gB < wI.heap.size := Nat.lt_of_lt_of_le l7 BI.size
      replace D7 := Mr.hid D7
      replace c7 := Mr.hid c7
      go_upto_region 11 with fail
      clear t3 ci ltI lBI
      go_loopg [58] n (fun gk s58 wr => ∃ k : Nat, s58 = .int .i64 (k : Int) ∧ k + gk = n ∧ Below w7.heap.size w7 wr ∧ wr.heap[hh]? = some (.cells (pdQ x n k) 70 (0, 0)))
      case atStart => exact ⟨0, rfl, by omega, BI, hI'⟩
      case round =>
        obtain ⟨k, rfl, hk, kB, kh⟩ := hrel
        clear BI hI'
        by_cases hkl : k < n
        · have dk : decide ((k : Int) < (n : Int)) = true := decide_eq_true (by omega)
          have kI : (k : Int) < (n : Int) := by omega
          have hwk : IntKind.i64.wrap ((k : Int) + 1) = (k : Int) + 1 := i64x _ (by omega) (by omega)
          obtain ⟨p, hp⟩ : ∃ p, x[k]? = some p := ⟨_, List.getElem?_eq_getElem (by have := hn.out; omega)⟩
          have t3 := (kB.cell (p := ⟨gt, 3, none⟩) (Array.getElem?_eq_some_iff.1 D7.out.t).1).trans (cell_blk D7.out.t 3)
          have ci := (kB.cell (p := ⟨gB, i, none⟩) l7).trans c7.out
          have ltI := Nat.lt_of_lt_of_le (Array.getElem?_eq_some_iff.1 D7.out.t).1 kB.size
          have lBI : gB < wr.heap.size := Nat.lt_of_lt_of_le l7 kB.size
          have hbw : wr.heap[b]? = w.heap[b]? := (kB.block b (Nat.lt_of_lt_of_le lb D7.out.B.size)).trans (D7.out.B.block b lb)
          have S1 := Mr.hid (SO.out wr.drew i k x p hx.out hp hbw)
          have hnx := Mr.hid (pdQ_next x n k p hkl hp)
          obtain ⟨pa, pv⟩ := p
          dsimp only at S1 hnx
          have zz := z7.out
          have nh1 : ¬ hh = gt := by have := D7.out.ord; omega
          have nh2 : ¬ gt = hh := by have := D7.out.ord; omega
          have nh3 : ¬ hh = gB := by omega
          have nh4 : ¬ gB = hh := by omega
          have hk' := Mr.hid hk
          have kB' := Mr.hid kB
          have kh' := Mr.hid kh
          have lh := (Array.getElem?_eq_some_iff.1 kh).1
          have k20 : k * 2 < n * 2 := by omega
          have k21 : k * 2 + 1 < n * 2 := by omega
          clear kB kh hk hp zz
          go_upto_region 13 with fail
          go_region_held3 (fun W => W.cell? ⟨gt, 3, none⟩ = some (.slice (some ⟨gB, 0, none⟩) nt nt) ∧ W.cell? ⟨gB, i, none⟩ = some (.slice (some ⟨hh, 0, none⟩) n n)) (simp [*, go_sem])
            (first | (go_at_call 42; refine S1.out.mono ?_; clear S1; rintro e w9 ⟨rfl, B9⟩; have r3 := (B9.cell (p := ⟨gt, 3, none⟩) ltI).trans t3; have ri := (B9.cell (p := ⟨gB, i, none⟩) lBI).trans ci; have h9 := (B9.block hh lh).trans kh'.out; have y0 := (cell_blk h9 (k * 2)).trans (pdQ_get _ _ _ _ k20); have y1 := (cell_blk h9 (k * 2 + 1)).trans (pdQ_get _ _ _ _ k21); have fh : ∀ j, w9.frozen? ⟨hh, j, none⟩ = false := fun j => fz_of h9; have lh9 := (Array.getElem?_eq_some_iff.1 h9).1; have K9 : Hid (Below w7.heap.size w7 w9) := kB'.out.drew.trans (B9.mono kB'.out.size); replace h9 := Mr.hid h9; clear B9))
          have zz := z7.out
          have N9 : Hid (Below w7.heap.size w7 ((w9.setCell ⟨hh, k * 2, none⟩ (.int .i64 pa)).setCell ⟨hh, k * 2 + 1, none⟩ (.int .i64 pv))) := (K9.out.setCell (p := ⟨hh, k * 2, none⟩) (by show w7.heap.size ≤ hh; omega) _).setCell (p := ⟨hh, k * 2 + 1, none⟩) (by show w7.heap.size ≤ hh; omega) _
          have H9 : Hid (((w9.setCell ⟨hh, k * 2, none⟩ (.int .i64 pa)).setCell ⟨hh, k * 2 + 1, none⟩ (.int .i64 pv)).heap[hh]? = some (.cells (pdQ x n (k + 1)) 70 (0, 0))) := by
            show _ = _
            rw [← hnx.out]
            exact mod_heap (mod_heap h9.out)
          clear r3 ri y0 y1 fh lh9 K9 t3 ci ltI lBI hbw nh1 nh2 nh3 nh4 lh k20 k21 zz
          generalize ((w9.setCell ⟨hh, k * 2, none⟩ (.int .i64 pa)).setCell ⟨hh, k * 2 + 1, none⟩ (.int .i64 pv)) = w10 at *
          go_wp2
          go_roundg (gk - 1)
          case measure => have := hk'.out; omega
          case rel => exact ⟨k + 1, by simp, by have := hk'.out; omega, N9.out, H9.out⟩
        · obtain rfl : k = n := by omega
          have dk : decide ((k : Int) < (k : Int)) = false := decide_eq_false (by omega)
          have dk2 : ¬ (k : Int) < (k : Int) := by omega
          have DF : Td w wr s cs nw nt (i + 1) (i + 1) gt g1 g2 gp gB := by
            have e := hn.out
            have c := c7.out
            rw [e] at c kh
            exact D7.out.fin hx.out c z7.out kB kh
          replace DF := Mr.hid DF
          clear kB kh hk hkl
          go_wp2
          go_roundg (nt - (i + 1))
          case measure => have := hi.out; omega
          case rel => exact ⟨i + 1, by simp, by have := hi.out; omega, DF.out⟩
    · obtain rfl : i = nt := by omega
      have dl : decide ((i : Int) < (i : Int)) = false := decide_eq_false (by omega)
      have dl2 : ¬ (i : Int) < (i : Int) := by omega
      have t0 := cell_blk hD.t 0
      have t1 := cell_blk hD.t 1
      have t2 := cell_blk hD.t 2
      have t3 := cell_blk hD.t 3
      have lt := (Array.getElem?_eq_some_iff.1 hD.t).1
      have r0 := cell_blk hD.r 0
      have r1 := cell_blk hD.r 1
      have r2 := cell_blk hD.r 2
      have r3 := cell_blk hD.r 3
      have lr := (Array.getElem?_eq_some_iff.1 hD.r).1
      have fr : ∀ k, wr.frozen? ⟨w.heap.size + 1, k, none⟩ = false := fun k => fz_of hD.r
      have n1 : ¬ gt = w.heap.size + 1 := by have := hD.ord; omega
      have n2 : ¬ w.heap.size + 1 = gt := by have := hD.ord; omega
      have hfin : Hid ((∀ W', (∀ k, w.heap.size + 2 ≤ k → W'.heap[k]? = ((((wr.setCell ⟨w.heap.size + 1, 0, none⟩ (.slice (some ⟨g1, 0, none⟩) nw nw)).setCell ⟨w.heap.size + 1, 1, none⟩ (.slice (some ⟨g2, 0, none⟩) i i)).setCell ⟨w.heap.size + 1, 2, none⟩ (.slice (some ⟨gp, 0, none⟩) i i)).setCell ⟨w.heap.size + 1, 3, none⟩ (.slice (some ⟨gB, 0, none⟩) i i)).heap[k]?) → SvAt W' #[.slice (some ⟨g1, 0, none⟩) nw nw, .slice (some ⟨g2, 0, none⟩) i i, .slice (some ⟨gp, 0, none⟩) i i, .slice (some ⟨gB, 0, none⟩) i i] s nw i i i) ∧ Below w.heap.size w ((((wr.setCell ⟨w.heap.size + 1, 0, none⟩ (.slice (some ⟨g1, 0, none⟩) nw nw)).setCell ⟨w.heap.size + 1, 1, none⟩ (.slice (some ⟨g2, 0, none⟩) i i)).setCell ⟨w.heap.size + 1, 2, none⟩ (.slice (some ⟨gp, 0, none⟩) i i)).setCell ⟨w.heap.size + 1, 3, none⟩ (.slice (some ⟨gB, 0, none⟩) i i))) :=
        ⟨fun W' hW' => hD.done hEn.out h4 hlw.out.symm hlr.out.symm hlp.out.symm hlb.out.symm (fun k hk => by
          have hk' : k ≠ w.heap.size + 1 := by omega
          exact (hW' k hk).trans ((Below.heap_setCell _ _ _ _ hk').trans ((Below.heap_setCell _ _ _ _ hk').trans ((Below.heap_setCell _ _ _ _ hk').trans (Below.heap_setCell _ _ _ _ hk'))))), (((hD.B.setCell (p := ⟨w.heap.size + 1, 0, none⟩) (by show w.heap.size ≤ w.heap.size + 1; omega) _).setCell (p := ⟨w.heap.size + 1, 1, none⟩) (by show w.heap.size ≤ w.heap.size + 1; omega) _).setCell (p := ⟨w.heap.size + 1, 2, none⟩) (by show w.heap.size ≤ w.heap.size + 1; omega) _).setCell (p := ⟨w.heap.size + 1, 3, none⟩) (by show w.heap.size ≤ w.heap.size + 1; omega) _⟩
      clear hi hlt hD
      go_wp2
      refine bodyPost_ret (v := .agg #[.slice (some ⟨g1, 0, none⟩) nw nw, .slice (some ⟨g2, 0, none⟩) i i, .slice (some ⟨gp, 0, none⟩) i i, .slice (some ⟨gB, 0, none⟩) i i]) (by simp [results, Tryd.results25, go_sem, *]) rfl ⟨_, rfl, hfin.out⟩
end Go.Proofs.YtmejblmeaipahaaDoor.Ts
