/-
  DEQUE: atOnce.
-/
import Derived.Test.YtaojggnflblgnaaHdOne
import Derived.OwnWalk
namespace Go.Proofs.Ytaojggnflblgnaa.Hd
open Go.RowKit Mr Md
set_option linter.unusedVariables false
set_option linter.unusedSimpArgs false
set_option maxRecDepth 100000
theorem own_inb {w : World} {S : Nat → Prop} {e : TypeId} {size n : Nat} {v : Value} {xs : List Value} (h : Own w S e size v n xs) : Own w (fun k => S k ∧ k < w.heap.size) e size v n xs := by
  obtain ⟨h1, a, cap, hv, hc, hm, h2⟩ := h
  refine ⟨h1, a, cap, hv, hc, hm, h2.imp id ?_⟩
  rintro ⟨g, o, cur, ha, hS, hg, hs, hx⟩
  exact ⟨g, o, cur, ha, ⟨hS, (Array.getElem?_eq_some_iff.1 hg).1⟩, hg, hs, hx⟩
theorem Own.take {W : World} {S : Nat → Prop} {e : TypeId} {size n : Nat} {a : Option Addr} {cap : Nat} {xs : List Value} (h : Own W S e size (.slice a n cap) n xs) (m : Nat) (hm : m ≤ n) : Own W S e size (.slice a m cap) m (xs.take (m * size)) := by
  obtain ⟨h1, a', cap', hv, hc, hx, h2⟩ := h
  cases hv
  have hms : m * size ≤ n * size := Nat.mul_le_mul_right _ hm
  refine ⟨by rw [List.length_take]; omega, a, cap, rfl, by omega, hx, h2.imp id ?_⟩
  rintro ⟨g, o, cur, ha, hS, hg, hs, he⟩
  refine ⟨g, o, cur, ha, hS, hg, hs, ?_⟩
  rw [← he, List.take_take, Nat.min_eq_left hms]
theorem Own.tail {W : World} {S : Nat → Prop} {e : TypeId} {n : Nat} {g o cap : Nat} {xs : List Value} (h : Own W S e 1 (.slice (some ⟨g, o, none⟩) n cap) n xs) (hn : 0 < n) (A : Option Addr) (hA : A = if cap = 1 then some ⟨g, o, none⟩ else some ⟨g, o + 1, none⟩) : Own W S e 1 (.slice A (n - 1) (cap - 1)) (n - 1) (xs.drop 1) := by
  obtain ⟨g', o', cap', cur, hv, hc, hm, hS, hg, hs, hx⟩ := h.there hn
  cases hv
  refine ⟨by rw [List.length_drop, h.1]; omega, A, cap - 1, rfl, by omega, by omega, ?_⟩
  by_cases e : cap = 1
  · exact .inl (by omega)
  · rw [if_neg e] at hA
    refine .inr ⟨g, o + 1, cur, hA, hS, hg, by omega, ?_⟩
    rw [← hx, List.drop_take, List.drop_drop]
    simp
theorem new1 {W : World} {b : Nat} {x : Value} {t : TypeId} (hb : b = W.heap.size) : ∀ ad, some (⟨b, 0, none⟩ : Addr) = some ad → ∀ j u, [x][j]? = some u → (W.alloc (.cells #[x] t (0, 0))).cell? (ad.add j) = some u := by
  subst hb
  rintro ad e j u hu
  cases e
  rw [add1, Nat.zero_add, Dq.cell_blk (heap_alloc_new W _)]
  simpa using hu
def anV (k v : Int) : Value := .agg #[.int .i64 k, .int .i64 v]
def anO (k v : Int) : Obj := .cells #[.int .i64 k, .int .i64 v] 50 (0, 0)
theorem results_tmpcell {fn : Func} {p u : Tmp} {ty : TypeId} (h : fn.results = #[.tmp u, .cell p ty]) (tmps : Array Value) (w : World) (ad : Addr) (v : Value)
    (hp : tmps.getD p undef = .pointer (some ad)) (hl : (loadVar ty ad).run Try.prog w = .ok v w) :
    (results fn tmps).run Try.prog w = .ok (.tuple #[tmps.getD u undef, v]) w := by
  have hp' : tmps[p]?.getD undef = .pointer (some ad) := by simpa using hp
  simp [results, h, hp', asAddr, hl, Sem.run_bind, Result.andThen]
theorem loadAn {w : World} {b : Nat} {k x : Int} (h : w.heap[b]? = some (anO k x)) : (loadVar 50 ⟨b, 0, none⟩).run Try.prog w = .ok (anV k x) w :=
  run_loadVar_row w b 50 50 #[.int .i64 k, .int .i64 x] (0, 0) _ h Try.underlying50 rfl (by rfl)
set_option maxHeartbeats 1000000 in
theorem valueAnswer_any (v : Int) (w : World) : Calls Try.prog 37 #[.int .i64 v] w fun e w' => e = .returned (anV 2 v) ∧ Below w.heap.size w w' := by
  go_enter Try.func37, Try.ntmps37
  go_wp2
  refine bodyPost_ret (results_cell_row rfl _ _ (w.heap.size) 50 #[.int .i64 2, .int .i64 v] (0, 0) _ rfl (new_at _ _ _ rfl) (by rfl) rfl (by rfl)) rfl ⟨rfl, b1b _⟩
/-- Behind the boxes and the answer's cell. -/
structure Ow (w W : World) (S : Nat → Prop) (th rm : Int) (c : Cq) (v : Value) (vs : List Int) (k x : Int) : Prop where
  d0 : W.cell? ⟨w.heap.size, 0, none⟩ = some (.int .i64 th)
  d1 : W.cell? ⟨w.heap.size, 1, none⟩ = some (.int .i64 rm)
  call : CqAt W (w.heap.size + 1) 0 c
  ans : W.heap[w.heap.size + 2]? = some (anO k x)
  own : Own W (fun k => (S k ∧ k < w.heap.size) ∨ w.heap.size + 3 ≤ k) 3 1 v vs.length (ints vs)
  fr : Fr w W S
theorem ow_new {w : World} {S : Nat → Prop} {v : Value} {vs : List Int} (h : Own w S 3 1 v vs.length (ints vs)) (th rm : Int) (c : Cq) :
    Ow w (((w.alloc (.cells #[.int .i64 th, .int .i64 rm] 23 (0, 0))).alloc (cqO c)).alloc (anO 0 0)) S th rm c v vs 0 0 := by
  have B : Below w.heap.size w (((w.alloc (.cells #[.int .i64 th, .int .i64 rm] 23 (0, 0))).alloc (cqO c)).alloc (anO 0 0)) := ((b1b _).alloc (by simp) _).alloc (by simp; omega) _
  have h0 : (((w.alloc (.cells #[.int .i64 th, .int .i64 rm] 23 (0, 0))).alloc (cqO c)).alloc (anO 0 0)).heap[w.heap.size]? = some (.cells #[.int .i64 th, .int .i64 rm] 23 (0, 0)) := old_at (old_at (new_at _ _ _ rfl) _) _
  exact ⟨by rw [Dq.cell_blk h0]; rfl, by rw [Dq.cell_blk h0]; rfl, cqO_cells (old_at (new_at _ _ _ (by simp)) _), new_at _ _ _ (by simp), ((own_inb h).below B).mono (fun _ => .inl), Fr.of_below B⟩
theorem setBlk {W : World} {b : Nat} {cs : Array Value} {t : TypeId} {fr : Nat × Nat} (h : W.heap[b]? = some (.cells cs t fr)) (o : Nat) (v : Value) : (W.setCell ⟨b, o, none⟩ v).heap[b]? = some (.cells (cs.setIfInBounds o v) t fr) := by
  obtain ⟨hlt, hk⟩ := Array.getElem?_eq_some_iff.1 h
  show (W.heap.modify b _)[b]? = _
  rw [Array.getElem?_eq_getElem (by rw [Array.size_modify]; exact hlt), Array.getElem_modify_self, hk]
  rfl
section
variable {w W : World} {S : Nat → Prop} {th rm : Int} {c : Cq} {v : Value} {vs : List Int} {k x : Int}
theorem Ow.fin (h : Ow w W S th rm c v vs k x) (k' x' : Int) (W' : World) (hW : W' = (W.setCell ⟨w.heap.size + 2, 0, none⟩ (.int .i64 k')).setCell ⟨w.heap.size + 2, 1, none⟩ (.int .i64 x')) :
    W'.heap[w.heap.size + 2]? = some (anO k' x') ∧ Own W' (fun k => S k ∨ w.heap.size ≤ k) 3 1 v vs.length (ints vs) ∧ Fr w W' S := by
  have f : Fr W W' (fun b => b = w.heap.size + 2) := by
    rw [hW]
    exact Fr.setCell (S := fun b => b = w.heap.size + 2) (Fr.setCell (S := fun b => b = w.heap.size + 2) (Fr.refl W _) ⟨w.heap.size + 2, 0, none⟩ _ (.inl rfl)) ⟨w.heap.size + 2, 1, none⟩ _ (.inl rfl)
  have g : Fr w W' S := by
    rw [hW]
    exact (h.fr.setCell _ _ (.inr (Nat.le_add_right _ 2))).setCell _ _ (.inr (Nat.le_add_right _ 2))
  have s : W'.heap[w.heap.size + 2]? = some (anO k' x') := by
    rw [hW]
    have s0 := h.ans
    unfold anO at s0
    have s1 := setBlk (setBlk s0 0 (.int .i64 k')) 1 (.int .i64 x')
    simpa [anO] using s1
  refine ⟨s, ?_, g⟩
  have o := h.own.fr f (fun b hb _ e => by
    subst e
    rcases hb with ⟨_, hb⟩ | hb <;> omega)
  exact o.mono (fun b hb => by
    rcases hb with ⟨hb, _⟩ | hb
    · exact .inl hb
    · exact .inr (by omega))
theorem Ow.sub (h : Ow w W S th rm c v vs k x) (v' : Value) (vs' : List Int) (ho : Own W (fun k => (S k ∧ k < w.heap.size) ∨ w.heap.size + 3 ≤ k) 3 1 v' vs'.length (ints vs')) : Ow w W S th rm c v' vs' k x := ⟨h.d0, h.d1, h.call, h.ans, ho, h.fr⟩
theorem Ow.lt (h : Ow w W S th rm c v vs k x) : w.heap.size + 3 ≤ W.heap.size := by
  have := (Array.getElem?_eq_some_iff.1 h.ans).1; omega
theorem Ow.app (h : Ow w W S th rm c v vs k x) {u : Obj} {v' : Value} {y : Int} {w2 : World} (ho : Own w2 (fun b => ((S b ∧ b < w.heap.size) ∨ w.heap.size + 3 ≤ b) ∨ b = (W.alloc u).heap.size) 3 1 v' (vs.length + 1) (ints vs ++ [.int .i64 y]))
    (hf : Fr (W.alloc u) w2 (fun b => (S b ∧ b < w.heap.size) ∨ w.heap.size + 3 ≤ b)) : Ow w w2 S th rm c v' (vs ++ [y]) k x := by
  have hl := h.lt
  have fa : Fr W w2 (fun b => (S b ∧ b < w.heap.size) ∨ w.heap.size + 3 ≤ b) := (Fr.of_below (b1b u)).trans (hf.mono (fun _ => .inl))
  have kb : ∀ b, b < w.heap.size + 3 → w.heap.size ≤ b → w2.heap[b]? = W.heap[b]? := fun b h1 h2 => fa.block b (by omega) (by omega)
  have kc : ∀ b j, b < w.heap.size + 3 → w.heap.size ≤ b → w2.cell? ⟨b, j, none⟩ = W.cell? ⟨b, j, none⟩ := fun b j h1 h2 => by unfold World.cell?; rw [show (⟨b, j, none⟩ : Addr).block = b from rfl, kb b h1 h2]
  obtain ⟨l0, c0, c1, c2, c3, c4, c5, c6, c7, c8⟩ := h.call
  have hs := fa.size
  refine ⟨(kc _ _ (by omega) (by omega)).trans h.d0, (kc _ _ (by omega) (by omega)).trans h.d1, ⟨by omega, (kc _ _ (by omega) (by omega)).trans c0, (kc _ _ (by omega) (by omega)).trans c1, (kc _ _ (by omega) (by omega)).trans c2, (kc _ _ (by omega) (by omega)).trans c3, (kc _ _ (by omega) (by omega)).trans c4, (kc _ _ (by omega) (by omega)).trans c5, (kc _ _ (by omega) (by omega)).trans c6, (kc _ _ (by omega) (by omega)).trans c7, (kc _ _ (by omega) (by omega)).trans c8⟩, (kb _ (by omega) (by omega)).trans h.ans, ?_, ?_⟩
  · have : ints (vs ++ [y]) = ints vs ++ [.int .i64 y] := by simp [ints]
    rw [this, List.length_append]
    exact ho.mono (fun b hb => by rcases hb with hb | hb; exact hb; right; rw [hb]; simp; omega)
  · refine ⟨hf.os.trans (h.fr.os), hf.tape.trans h.fr.tape, hf.output.trans h.fr.output, Nat.le_trans h.fr.size hs, fun b hb hS => ?_⟩
    rw [fa.block b (by omega) (by rintro (⟨h1, _⟩ | h1); exact hS h1; omega), h.fr.block b hb hS]
end
theorem frz {W W' : World} {b j : Nat} (h : W'.heap[b]? = W.heap[b]?) : W'.frozen? ⟨b, j, none⟩ = W.frozen? ⟨b, j, none⟩ := by
  unfold World.frozen?
  simp only [h]
theorem cell_ne {W : World} {b b' j j' : Nat} {u : Value} (h : b ≠ b') : (W.setCell ⟨b', j', none⟩ u).cell? ⟨b, j, none⟩ = W.cell? ⟨b, j, none⟩ := by
  unfold World.cell?
  rw [Below.heap_setCell W ⟨b', j', none⟩ u b h]
theorem Ow.below {w W W' : World} {S : Nat → Prop} {th rm : Int} {c : Cq} {v : Value} {vs : List Int} {k x : Int} (h : Ow w W S th rm c v vs k x) (hB : Below W.heap.size W W') : Ow w W' S th rm c v vs k x := by
  have hl := h.lt
  exact ⟨(hB.cell (p := ⟨_, _, none⟩) (by show w.heap.size < _; omega)).trans h.d0, (hB.cell (p := ⟨_, _, none⟩) (by show w.heap.size < _; omega)).trans h.d1, h.call.below hB, (hB.block _ (by omega)).trans h.ans, h.own.below hB,
    ⟨hB.os.trans h.fr.os, hB.tape.trans h.fr.tape, hB.output.trans h.fr.output, Nat.le_trans h.fr.size hB.size, fun b hb hS => (hB.block b (Nat.lt_of_lt_of_le hb h.fr.size)).trans (h.fr.block b hb hS)⟩⟩
end Go.Proofs.Ytaojggnflblgnaa.Hd
