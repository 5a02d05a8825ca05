import Derived.Test.YtkfpiafgfjpodaaGreatJ43
import Derived.Test.YtkfpiafgfjpodaaGreatJ40
/-
  What ArenaFresh keeps: the row that is handed in, and runs beside each other.
-/
namespace Go.Proofs.YtkfpiafgfjpodaaGreat.Ar
open Go.RowKit Go.Shelf Mr Me Ma Wc Wm Wr
theorem move_wl2 {P : Pa} (h : Inv P P.n) (th op arg data : Int) : (P.move th op arg data).1.ws.length = P.ws.length := by
  unfold Pa.move
  split
  · rfl
  · split
    · split
      · rfl
      · rename_i t ht
        split
        · obtain ⟨tk, fr, call⟩ := t
          rcases tk with _ | ⟨kd, k⟩
          · rfl
          · have hi : th.toNat < P.count.pts.length := (List.getElem?_eq_some_iff.1 ht).1
            have r : (P.count.work th.toNat P.n fr kd k).1.ws.length = P.count.ws.length := (work_core (now := P.n) h.count (by omega) hi (h.count.th _ _ kd k ht rfl)).1.wl
            simp only [Pa.step]
            split <;> exact r
        · split
          · rfl
          · unfold Pa.begins
            split <;> rfl
    · rfl
theorem play_wl2 (ms : List Mv) : ∀ {P : Pa}, Inv P P.n → (P.play ms).ws.length = P.ws.length := by
  induction ms with
  | nil => exact fun _ => rfl
  | cons x ms ih => exact fun hI => (ih (hI.move x.th x.op x.arg x.data)).trans (move_wl2 hI x.th x.op x.arg x.data)
/-- The configuration's box and the row that is handed in. -/
structure Kg (w W : World) (c : Cf) (gg qg : Nat) (ms : List Mv) (B0 : Nat) : Prop where
  bel : Below w.heap.size w W
  s0 : W.heap[w.heap.size]? = some (cfO c)
  gv : Has W (fun k => w.heap.size < k ∧ k < B0) 57 4 (.slice (some ⟨gg, 0, none⟩) (ms.length + 1) qg) (ms.length + 1) (mvc (ms ++ [⟨77, 0, 0, 0⟩]))
/-- A run in its box. -/
structure Rk (W : World) (lo hi Bx : Nat) (v1 v2 v3 v4 : Value) (Q : Pa) : Prop where
  bx : W.heap[Bx]? = some (.cells #[v1, v2, v3, v4] 32 (0, 0))
  lt : lo ≤ Bx ∧ Bx < hi
  h1 : Has W (fun k => lo ≤ k ∧ k < hi) 42 9 v1 Q.cls.length (clc Q.cls)
  h2 : Has W (fun k => lo ≤ k ∧ k < hi) 48 7 v2 Q.lg.length (lgc Q.lg)
  h3 : Has W (fun k => lo ≤ k ∧ k < hi) 66 5 v3 Q.shs.length (shc Q.shs)
  h4 : Has W (fun k => lo ≤ k ∧ k < hi) 44 1 v4 Q.ws.length (wrd Q.ws)
section
variable {w W W' : World} {c : Cf} {gg qg B0 lo hi Bx : Nat} {ms : List Mv} {v1 v2 v3 v4 : Value} {Q : Pa}
theorem Kg.below (h : Kg w W c gg qg ms B0) (hB : Below W.heap.size W W') : Kg w W' c gg qg ms B0 :=
  ⟨h.bel.trans (hB.mono h.bel.size), (hB.block _ (Array.getElem?_eq_some_iff.1 h.s0).1).trans h.s0, h.gv.below hB⟩
theorem Kg.size (h : Kg w W c gg qg ms B0) : w.heap.size < W.heap.size := (Array.getElem?_eq_some_iff.1 h.s0).1
theorem Kg.lt (h : Kg w W c gg qg ms B0) : w.heap.size < gg ∧ gg < B0 ∧ gg < W.heap.size := by
  have := h.gv.lt gg rfl
  exact ⟨this.1.1, this.1.2, this.2⟩
theorem Kg.set (h : Kg w W c gg qg ms B0) (p : Addr) (hp : B0 ≤ p.block) (u : Value) : Kg w (W.setCell p u) c gg qg ms B0 :=
  have hl := h.lt
  ⟨h.bel.setCell (p := p) (by omega) u, (Below.heap_setCell _ _ _ _ (by omega)).trans h.s0, h.gv.setCell p u (fun e => by have := (h.gv.lt _ e).1.2; omega)⟩
theorem Kg.cfg (h : Kg w W c gg qg ms B0) : W.cell? ⟨w.heap.size, 0, none⟩ = some (.int .i64 c.a0) ∧ W.cell? ⟨w.heap.size, 1, none⟩ = some (.int .i64 c.a1) ∧ W.cell? ⟨w.heap.size, 2, none⟩ = some (.int .i64 c.a2) ∧ W.cell? ⟨w.heap.size, 3, none⟩ = some (.int .i64 c.a3) ∧ W.cell? ⟨w.heap.size, 4, none⟩ = some (.int .i64 c.a4) ∧ W.cell? ⟨w.heap.size, 5, none⟩ = some (.int .i64 c.a5) ∧ W.cell? ⟨w.heap.size, 6, none⟩ = some (.int .i64 c.a6) := by
  have h0 := h.s0
  simp [cfO] at h0
  simp [World.cell?, h0]
/-- The part of the row that is the script. -/
theorem Kg.mv (h : Kg w W c gg qg ms B0) : MvAt W (some ⟨gg, 0, none⟩) ms.length ms := by
  obtain ⟨_, hm⟩ := has_mvat h.gv
  refine ⟨rfl, ?_⟩
  by_cases h0 : ms.length = 0
  · exact .inl (List.eq_nil_of_length_eq_zero h0)
  · rcases hm with hm | ⟨b, off, e, hb, hc⟩
    · simp at hm
    · cases e
      refine .inr ⟨_, 0, rfl, hb, fun j hj => ?_⟩
      have := hc j (by simp; omega)
      rw [List.getElem?_append_left hj] at this
      exact this
/-- The last move of it. -/
theorem Kg.last (h : Kg w W c gg qg ms B0) : W.cell? ⟨gg, ms.length * 4, none⟩ = some (.int .i64 77) := by
  refine h.gv.cells (g := gg) rfl (ms.length * 4) _ ?_
  have := flat_get mv_len (ms ++ [⟨77, 0, 0, 0⟩]) ms.length 0 ⟨77, 0, 0, 0⟩ (by simp) (by decide)
  rw [Nat.add_zero] at this
  rw [mvc, this]
  rfl
theorem Rk.below (h : Rk W lo hi Bx v1 v2 v3 v4 Q) (hB : Below W.heap.size W W') : Rk W' lo hi Bx v1 v2 v3 v4 Q :=
  ⟨(hB.block _ (Array.getElem?_eq_some_iff.1 h.bx).1).trans h.bx, h.lt, h.h1.below hB, h.h2.below hB, h.h3.below hB, h.h4.below hB⟩
theorem Rk.set (h : Rk W lo hi Bx v1 v2 v3 v4 Q) (p : Addr) (hp : p.block < lo ∨ hi ≤ p.block) (u : Value) : Rk (W.setCell p u) lo hi Bx v1 v2 v3 v4 Q :=
  have hl := h.lt
  have hh : ∀ {e size m : Nat} {v : Value} {xs : List Value}, Has W (fun k => lo ≤ k ∧ k < hi) e size v m xs → Has (W.setCell p u) (fun k => lo ≤ k ∧ k < hi) e size v m xs := fun hv => hv.setCell p u (fun e => by have := (hv.lt _ e).1; omega)
  ⟨(Below.heap_setCell _ _ _ _ (by omega)).trans h.bx, hl, hh h.h1, hh h.h2, hh h.h3, hh h.h4⟩
theorem Rk.cells (h : Rk W lo hi Bx v1 v2 v3 v4 Q) : W.cell? ⟨Bx, 0, none⟩ = some v1 ∧ W.cell? ⟨Bx, 1, none⟩ = some v2 ∧ W.cell? ⟨Bx, 2, none⟩ = some v3 ∧ W.cell? ⟨Bx, 3, none⟩ = some v4 := by
  have h0 := h.bx
  simp [World.cell?, h0]
theorem Rk.size (h : Rk W lo hi Bx v1 v2 v3 v4 Q) : Bx < W.heap.size := (Array.getElem?_eq_some_iff.1 h.bx).1
/-- The call is made first, then the box. -/
theorem play_newA {w6 : World} (hB : Below W.drew.heap.size W.drew w6) (h1 : Has w6 (fun k => W.drew.heap.size ≤ k) 42 9 v1 Q.cls.length (clc Q.cls)) (h2 : Has w6 (fun k => W.drew.heap.size ≤ k) 48 7 v2 Q.lg.length (lgc Q.lg)) (h3 : Has w6 (fun k => W.drew.heap.size ≤ k) 66 5 v3 Q.shs.length (shc Q.shs)) (h4 : Has w6 (fun k => W.drew.heap.size ≤ k) 44 1 v4 Q.ws.length (wrd Q.ws)) :
    Below W.heap.size W (w6.alloc (.cells #[v1, v2, v3, v4] 32)) ∧ Rk (w6.alloc (.cells #[v1, v2, v3, v4] 32)) W.heap.size (w6.alloc (.cells #[v1, v2, v3, v4] 32)).heap.size w6.heap.size v1 v2 v3 v4 Q := by
  have hB' : Below W.heap.size W w6 := (Below.refl _ W).drew.trans hB
  have hs := hB'.size
  have hh : ∀ {e size m : Nat} {v : Value} {xs : List Value}, Has w6 (fun k => W.drew.heap.size ≤ k) e size v m xs → Has (w6.alloc (.cells #[v1, v2, v3, v4] 32)) (fun k => W.heap.size ≤ k ∧ k < (w6.alloc (.cells #[v1, v2, v3, v4] 32)).heap.size) e size v m xs := fun hv =>
    (hv.alloc _).kept (fun _ _ => rfl) (fun k hk => ⟨(hv.lt k hk).1, by have := (hv.lt k hk).2; simp; omega⟩)
  exact ⟨hB'.alloc hs _, heap_alloc_new _ _, ⟨hs, by simp⟩, hh h1, hh h2, hh h3, hh h4⟩
theorem box4 {t : Nat} {b : Nat} {z0 z1 z2 z3 : Value} (h : W.heap[b]? = some (.cells #[z0, z1, z2, z3] t (0, 0))) (u0 u1 u2 u3 : Value) : ((((W.setCell ⟨b, 0, none⟩ u0).setCell ⟨b, 1, none⟩ u1).setCell ⟨b, 2, none⟩ u2).setCell ⟨b, 3, none⟩ u3).heap[b]? = some (.cells #[u0, u1, u2, u3] t (0, 0)) := by
  have h0 : (W.setCell ⟨b, 0, none⟩ u0).heap[b]? = some (.cells #[u0, z1, z2, z3] t (0, 0)) := setBlk h 0 u0
  have h1 : ((W.setCell ⟨b, 0, none⟩ u0).setCell ⟨b, 1, none⟩ u1).heap[b]? = some (.cells #[u0, u1, z2, z3] t (0, 0)) := setBlk h0 1 u1
  have h2 : (((W.setCell ⟨b, 0, none⟩ u0).setCell ⟨b, 1, none⟩ u1).setCell ⟨b, 2, none⟩ u2).heap[b]? = some (.cells #[u0, u1, u2, z3] t (0, 0)) := setBlk h1 2 u2
  exact setBlk h2 3 u3
/-- The box is made first, then the call. -/
theorem play_newB {w6 : World} {z : Obj} (hb : w6.heap[W.heap.size]? = some (.cells #[.slice none 0 0, .slice none 0 0, .slice none 0 0, .slice none 0 0] 32 (0, 0))) (hB : Below (W.alloc z).drew.heap.size (W.alloc z).drew w6) (h1 : Has w6 (fun k => (W.alloc z).drew.heap.size ≤ k) 42 9 v1 Q.cls.length (clc Q.cls)) (h2 : Has w6 (fun k => (W.alloc z).drew.heap.size ≤ k) 48 7 v2 Q.lg.length (lgc Q.lg)) (h3 : Has w6 (fun k => (W.alloc z).drew.heap.size ≤ k) 66 5 v3 Q.shs.length (shc Q.shs)) (h4 : Has w6 (fun k => (W.alloc z).drew.heap.size ≤ k) 44 1 v4 Q.ws.length (wrd Q.ws)) :
    Below W.heap.size W ((((w6.setCell ⟨W.heap.size, 0, none⟩ v1).setCell ⟨W.heap.size, 1, none⟩ v2).setCell ⟨W.heap.size, 2, none⟩ v3).setCell ⟨W.heap.size, 3, none⟩ v4) ∧ Rk ((((w6.setCell ⟨W.heap.size, 0, none⟩ v1).setCell ⟨W.heap.size, 1, none⟩ v2).setCell ⟨W.heap.size, 2, none⟩ v3).setCell ⟨W.heap.size, 3, none⟩ v4) W.heap.size ((((w6.setCell ⟨W.heap.size, 0, none⟩ v1).setCell ⟨W.heap.size, 1, none⟩ v2).setCell ⟨W.heap.size, 2, none⟩ v3).setCell ⟨W.heap.size, 3, none⟩ v4).heap.size W.heap.size v1 v2 v3 v4 Q := by
  have hz : (W.alloc z).drew.heap.size = W.heap.size + 1 := by simp
  have hB' : Below W.heap.size W w6 := (((Below.refl _ W).alloc (Nat.le_refl _) z).drew).trans (hB.mono (by omega))
  have hs6 := hB.size
  rw [hz] at hs6
  have e0 := hB'.setCell (p := ⟨W.heap.size, 0, none⟩) (Nat.le_refl _) v1
  have e1 := e0.setCell (p := ⟨W.heap.size, 1, none⟩) (Nat.le_refl _) v2
  have e2 := e1.setCell (p := ⟨W.heap.size, 2, none⟩) (Nat.le_refl _) v3
  have e3 := e2.setCell (p := ⟨W.heap.size, 3, none⟩) (Nat.le_refl _) v4
  have hbx := box4 hb v1 v2 v3 v4
  have hsz : ((((w6.setCell ⟨W.heap.size, 0, none⟩ v1).setCell ⟨W.heap.size, 1, none⟩ v2).setCell ⟨W.heap.size, 2, none⟩ v3).setCell ⟨W.heap.size, 3, none⟩ v4).heap.size = w6.heap.size := by simp [World.setCell]
  have ho : ∀ k, k ≠ W.heap.size → ((((w6.setCell ⟨W.heap.size, 0, none⟩ v1).setCell ⟨W.heap.size, 1, none⟩ v2).setCell ⟨W.heap.size, 2, none⟩ v3).setCell ⟨W.heap.size, 3, none⟩ v4).heap[k]? = w6.heap[k]? := fun k hk => by
    rw [Below.heap_setCell _ _ _ k hk, Below.heap_setCell _ _ _ k hk, Below.heap_setCell _ _ _ k hk, Below.heap_setCell _ _ _ k hk]
  have hh : ∀ {e size m : Nat} {v : Value} {xs : List Value}, Has w6 (fun k => (W.alloc z).drew.heap.size ≤ k) e size v m xs → Has ((((w6.setCell ⟨W.heap.size, 0, none⟩ v1).setCell ⟨W.heap.size, 1, none⟩ v2).setCell ⟨W.heap.size, 2, none⟩ v3).setCell ⟨W.heap.size, 3, none⟩ v4) (fun k => W.heap.size ≤ k ∧ k < ((((w6.setCell ⟨W.heap.size, 0, none⟩ v1).setCell ⟨W.heap.size, 1, none⟩ v2).setCell ⟨W.heap.size, 2, none⟩ v3).setCell ⟨W.heap.size, 3, none⟩ v4).heap.size) e size v m xs := fun hv =>
    hv.kept (fun k hk => ho k (fun e' => by have := (hv.lt k hk).1; rw [hz] at this; omega)) (fun k hk => ⟨by have := (hv.lt k hk).1; rw [hz] at this; omega, by rw [hsz]; exact (hv.lt k hk).2⟩)
  exact ⟨e3, hbx, ⟨Nat.le_refl _, by rw [hsz]; omega⟩, hh h1, hh h2, hh h3, hh h4⟩
end
/-- A row, whatever it holds. -/
def Hx (W : World) (S : Nat → Prop) (e : TypeId) (size : Nat) (v : Value) (n : Nat) : Prop := ∃ xs, Has W S e size v n xs
section
variable {W W' : World} {S : Nat → Prop} {e size n : Nat} {v : Value}
theorem Hx.set (h : Hx W S e size v n) (g o : Nat) (u : Value) : Hx (W.setCell ⟨g, o, none⟩ u) S e size v n := by
  obtain ⟨xs, h⟩ := h
  by_cases hg : v.ownBlock = some g
  · rcases h.2 with ⟨hv, _⟩ | ⟨g', cap', cur, hv, _⟩
    · rw [hv] at hg; simp [Value.ownBlock] at hg
    · subst hv
      simp [Value.ownBlock] at hg
      subst hg
      exact ⟨_, has_put h o u⟩
  · exact ⟨xs, h.setCell _ u hg⟩
theorem Hx.below (h : Hx W S e size v n) (hB : Below W.heap.size W W') : Hx W' S e size v n := by
  obtain ⟨xs, h⟩ := h
  exact ⟨xs, h.below hB⟩
theorem Hx.cell {g cap : Nat} (h : Hx W S e size (.slice (some ⟨g, 0, none⟩) n cap) n) (j : Nat) (hj : j < n * size) : ∃ u, W.cell? ⟨g, j, none⟩ = some u := by
  obtain ⟨xs, h⟩ := h
  have hl := h.1
  obtain ⟨u, hu⟩ : ∃ u, xs[j]? = some u := ⟨_, List.getElem?_eq_getElem (by omega)⟩
  exact ⟨u, h.cells (g := g) rfl j u hu⟩
theorem Hx.frozen {g cap : Nat} (h : Hx W S e size (.slice (some ⟨g, 0, none⟩) n cap) n) (j : Nat) : W.frozen? ⟨g, j, none⟩ = false := by
  obtain ⟨xs, h⟩ := h
  exact Has.frozen h (g := g) rfl j
theorem Hx.there (h : Hx W S e size v n) (hn : 0 < n) : ∃ g cap, v = .slice (some ⟨g, 0, none⟩) n cap ∧ S g ∧ g < W.heap.size ∧ n ≤ cap ∧ cap ≤ maxLen := by
  obtain ⟨xs, h⟩ := h
  exact h.there hn
theorem Hx.not {k : Nat} {cs : Array Value} {t : TypeId} (h : Hx W S e size v n) (hk : W.heap[k]? = some (.cells cs t (0, 0))) (ht : t ≠ e) : v.ownBlock ≠ some k := by
  obtain ⟨xs, h⟩ := h
  exact not_row hk h ht
end
/-- A run in its box, whatever its rows hold. -/
structure Ro (W : World) (lo hi Bx : Nat) (v1 v2 v3 v4 : Value) (Q : Pa) : Prop where
  bx : W.heap[Bx]? = some (.cells #[v1, v2, v3, v4] 32 (0, 0))
  lt : lo ≤ Bx ∧ Bx < hi
  h1 : Hx W (fun k => lo ≤ k ∧ k < hi) 42 9 v1 Q.cls.length
  h2 : Hx W (fun k => lo ≤ k ∧ k < hi) 48 7 v2 Q.lg.length
  h3 : Hx W (fun k => lo ≤ k ∧ k < hi) 66 5 v3 Q.shs.length
  h4 : Hx W (fun k => lo ≤ k ∧ k < hi) 44 1 v4 Q.ws.length
section
variable {W W' : World} {lo hi Bx : Nat} {v1 v2 v3 v4 : Value} {Q : Pa}
theorem Ro.of (h : Rk W lo hi Bx v1 v2 v3 v4 Q) : Ro W lo hi Bx v1 v2 v3 v4 Q := ⟨h.bx, h.lt, ⟨_, h.h1⟩, ⟨_, h.h2⟩, ⟨_, h.h3⟩, ⟨_, h.h4⟩⟩
theorem Ro.below (h : Ro W lo hi Bx v1 v2 v3 v4 Q) (hB : Below W.heap.size W W') : Ro W' lo hi Bx v1 v2 v3 v4 Q :=
  ⟨(hB.block _ (Array.getElem?_eq_some_iff.1 h.bx).1).trans h.bx, h.lt, h.h1.below hB, h.h2.below hB, h.h3.below hB, h.h4.below hB⟩
theorem Ro.set (h : Ro W lo hi Bx v1 v2 v3 v4 Q) (g o : Nat) (hg : g ≠ Bx) (u : Value) : Ro (W.setCell ⟨g, o, none⟩ u) lo hi Bx v1 v2 v3 v4 Q :=
  ⟨(Below.heap_setCell _ _ _ _ (fun e => hg e.symm)).trans h.bx, h.lt, h.h1.set g o u, h.h2.set g o u, h.h3.set g o u, h.h4.set g o u⟩
theorem Ro.cells (h : Ro W lo hi Bx v1 v2 v3 v4 Q) : W.cell? ⟨Bx, 0, none⟩ = some v1 ∧ W.cell? ⟨Bx, 1, none⟩ = some v2 ∧ W.cell? ⟨Bx, 2, none⟩ = some v3 ∧ W.cell? ⟨Bx, 3, none⟩ = some v4 := by
  have h0 := h.bx
  simp [World.cell?, h0]
theorem Ro.size (h : Ro W lo hi Bx v1 v2 v3 v4 Q) : Bx < W.heap.size := (Array.getElem?_eq_some_iff.1 h.bx).1
end
end Go.Proofs.YtkfpiafgfjpodaaGreat.Ar
