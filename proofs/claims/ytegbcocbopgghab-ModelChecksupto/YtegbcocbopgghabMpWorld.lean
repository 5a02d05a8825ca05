/-
  Package model: the objects in the world; newCell .. newTable, worldOf.
-/
import Derived.Test.YtegbcocbopgghabMpClone
import Derived.Test.YtegbcocbopgghabMdCopy
import Derived.Deep.RegionHeld3
namespace Go.Proofs.Ytegbcocbopgghab.Md
open Go.RowKit Mr
set_option linter.unusedVariables false
set_option linter.unusedSimpArgs false
theorem Own.kept2 {W W' : World} {S T : Nat → Prop} {e : TypeId} {size n : Nat} {v : Value} {xs : List Value} (h : Own W S e size v n xs) (hb : ∀ k, S k → k < W.heap.size → W'.heap[k]? = W.heap[k]?) (hT : ∀ k, S k → k < W.heap.size → T k) : Own W' T e size v n xs := by
  obtain ⟨h1, a, cap, hv, hc, hm, h2⟩ := h
  refine ⟨h1, a, cap, hv, hc, hm, h2.imp id ?_⟩
  rintro ⟨g, o, cur, ha, hS, hg, hs, hx⟩
  have hl := (Array.getElem?_eq_some_iff.1 hg).1
  exact ⟨g, o, cur, ha, hT g hS hl, (hb g hS hl).trans hg, hs, hx⟩
/-- An object: its box holds a row of its own. -/
def Ob (W : World) (S : Nat → Prop) (g : Nat) (tb e : TypeId) (size n : Nat) (xs : List Value) : Prop :=
  ∃ v, S g ∧ W.heap[g]? = some (.cells #[v] tb (0, 0)) ∧ Own W (fun k => S k ∧ k ≠ g) e size v n xs
theorem Ob.kept {W W' : World} {S T : Nat → Prop} {g : Nat} {tb e : TypeId} {size n : Nat} {xs : List Value} (h : Ob W S g tb e size n xs) (hb : ∀ k, S k → k < W.heap.size → W'.heap[k]? = W.heap[k]?) (hT : ∀ k, S k → k < W.heap.size → T k) : Ob W' T g tb e size n xs := by
  obtain ⟨v, hS, hg, hO⟩ := h
  have hl := (Array.getElem?_eq_some_iff.1 hg).1
  exact ⟨v, hT g hS hl, (hb g hS hl).trans hg, hO.kept2 (fun k hk hl => hb k hk.1 hl) (fun k hk hl => ⟨hT k hk.1 hl, hk.2⟩)⟩
theorem Ob.below {W W' : World} {S : Nat → Prop} {g : Nat} {tb e : TypeId} {size n : Nat} {xs : List Value} (h : Ob W S g tb e size n xs) (hB : Below W.heap.size W W') : Ob W' (fun k => S k ∧ k < W.heap.size) g tb e size n xs :=
  h.kept (fun k _ hl => hB.block k hl) (fun k hk hl => ⟨hk, hl⟩)
theorem Ob.new {W1 : World} {B : Nat} {v : Value} {tb e : TypeId} {size n : Nat} {xs : List Value} (hO : Own W1 (fun k => B ≤ k) e size v n xs) (hB : B ≤ W1.heap.size) : Ob (W1.alloc (.cells #[v] tb (0, 0))) (fun k => B ≤ k) W1.heap.size tb e size n xs :=
  ⟨v, hB, heap_alloc_new W1 _, hO.kept2 (fun k _ hl => Below.heap_alloc W1 _ k hl) (fun k hk hl => ⟨hk, by omega⟩)⟩
set_option maxRecDepth 100000 in
set_option maxHeartbeats 1000000 in
theorem newCell_any {w : World} {S : Nat → Prop} {u : Value} {l : List Int} (hu : Sl w S 1 u l.length (ints l)) (hsm : l.length * 8 ≤ 225100000000000) :
    Calls Try.prog 46 #[u] w fun e w' => ∃ g, e = .returned (.pointer (some ⟨g, 0, none⟩)) ∧ Ob w' (fun k => w.heap.size ≤ k) g 104 3 1 l.length (ints l) ∧ Below w.heap.size w w' := by
  obtain ⟨a, c, rfl, hc⟩ := hu.form
  have C1 := cloneI_any hu hsm
  clear hu
  replace C1 := Mr.hid C1
  go_enter Try.func46, Try.ntmps46
  go_wp2_with (first | (go_at_call 58; refine C1.out.mono ?_; rintro e w1 ⟨v1, rfl, hO, hB⟩; obtain ⟨a1, c1, rfl, _, _⟩ := hO.form; replace hO := Mr.hid hO))
  go_ret
  exact ⟨_, rfl, Ob.new hO.out hB.size, hB.alloc hB.size _⟩
set_option maxRecDepth 100000 in
set_option maxHeartbeats 1000000 in
theorem newStack_any {w : World} {S : Nat → Prop} {u : Value} {l : List Int} (hu : Sl w S 1 u l.length (ints l)) (hsm : l.length * 8 ≤ 225100000000000) :
    Calls Try.prog 47 #[u] w fun e w' => ∃ g, e = .returned (.pointer (some ⟨g, 0, none⟩)) ∧ Ob w' (fun k => w.heap.size ≤ k) g 106 3 1 l.length (ints l.reverse) ∧ Below w.heap.size w w' := by
  obtain ⟨a, c, rfl, hc⟩ := hu.form
  have C1 := turned_any hu hsm
  clear hu
  replace C1 := Mr.hid C1
  go_enter Try.func47, Try.ntmps47
  go_wp2_with (first | (go_at_call 52; refine C1.out.mono ?_; rintro e w1 ⟨v1, rfl, hO, hB⟩; obtain ⟨a1, c1, rfl, _, _⟩ := hO.form; replace hO := Mr.hid hO))
  go_ret
  exact ⟨_, rfl, Ob.new hO.out hB.size, hB.alloc hB.size _⟩
set_option maxRecDepth 100000 in
set_option maxHeartbeats 1000000 in
theorem newQueue_any {w : World} {S : Nat → Prop} {u : Value} {l : List Int} (hu : Sl w S 1 u l.length (ints l)) (hsm : l.length * 8 ≤ 225100000000000) :
    Calls Try.prog 48 #[u] w fun e w' => ∃ g, e = .returned (.pointer (some ⟨g, 0, none⟩)) ∧ Ob w' (fun k => w.heap.size ≤ k) g 107 3 1 l.length (ints l) ∧ Below w.heap.size w w' := by
  obtain ⟨a, c, rfl, hc⟩ := hu.form
  have C1 := cloneI_any hu hsm
  clear hu
  replace C1 := Mr.hid C1
  go_enter Try.func48, Try.ntmps48
  go_wp2_with (first | (go_at_call 58; refine C1.out.mono ?_; rintro e w1 ⟨v1, rfl, hO, hB⟩; obtain ⟨a1, c1, rfl, _, _⟩ := hO.form; replace hO := Mr.hid hO))
  go_ret
  exact ⟨_, rfl, Ob.new hO.out hB.size, hB.alloc hB.size _⟩
set_option maxRecDepth 100000 in
set_option maxHeartbeats 1000000 in
theorem newSet_any {w : World} {S : Nat → Prop} {u : Value} {l : List Int} (hu : Sl w S 1 u l.length (ints l)) (hsm : l.length * 8 ≤ 225100000000000) :
    Calls Try.prog 49 #[u] w fun e w' => ∃ g, e = .returned (.pointer (some ⟨g, 0, none⟩)) ∧ Ob w' (fun k => w.heap.size ≤ k) g 109 3 1 l.length (ints l) ∧ Below w.heap.size w w' := by
  obtain ⟨a, c, rfl, hc⟩ := hu.form
  have C1 := cloneI_any hu hsm
  clear hu
  replace C1 := Mr.hid C1
  go_enter Try.func49, Try.ntmps49
  go_wp2_with (first | (go_at_call 58; refine C1.out.mono ?_; rintro e w1 ⟨v1, rfl, hO, hB⟩; obtain ⟨a1, c1, rfl, _, _⟩ := hO.form; replace hO := Mr.hid hO))
  go_ret
  exact ⟨_, rfl, Ob.new hO.out hB.size, hB.alloc hB.size _⟩
set_option maxRecDepth 100000 in
set_option maxHeartbeats 1000000 in
theorem newTable_any {w : World} {S : Nat → Prop} {u : Value} {l : List (Int × Int)} (hu : Sl w S 2 u l.length (prs l)) (hsm : l.length * 16 ≤ 225100000000000) :
    Calls Try.prog 50 #[u] w fun e w' => ∃ g, e = .returned (.pointer (some ⟨g, 0, none⟩)) ∧ Ob w' (fun k => w.heap.size ≤ k) g 111 81 2 l.length (prs l) ∧ Below w.heap.size w w' := by
  obtain ⟨a, c, rfl, hc⟩ := hu.form
  have C1 := cloneP_any hu hsm
  clear hu
  replace C1 := Mr.hid C1
  go_enter Try.func50, Try.ntmps50
  go_wp2_with (first | (go_at_call 59; refine C1.out.mono ?_; rintro e w1 ⟨v1, rfl, hO, hB⟩; obtain ⟨a1, c1, rfl, _, _⟩ := hO.form; replace hO := Mr.hid hO))
  go_ret
  exact ⟨_, rfl, Ob.new hO.out hB.size, hB.alloc hB.size _⟩
/-- Five objects, each with blocks of its own: those that lab gives its number; all of them are B or above. -/
structure Wd (W : World) (B : Nat) (lab : Nat → Nat) (g0 g1 g2 g3 g4 : Nat) (x : Ct) : Prop where
  low : ∀ k, lab k < 5 → B ≤ k
  cell : Ob W (fun k => lab k = 0) g0 104 3 1 x.cell.length (ints x.cell)
  stack : Ob W (fun k => lab k = 1) g1 106 3 1 x.stack.length (ints x.stack.reverse)
  queue : Ob W (fun k => lab k = 2) g2 107 3 1 x.queue.length (ints x.queue)
  set : Ob W (fun k => lab k = 3) g3 109 3 1 x.set.length (ints x.set)
  table : Ob W (fun k => lab k = 4) g4 111 81 2 x.table.length (prs x.table)
def labs (s0 s1 s2 s3 s4 : Nat) (k : Nat) : Nat := if k < s0 then 5 else if k < s1 then 0 else if k < s2 then 1 else if k < s3 then 2 else if k < s4 then 3 else 4
/-- The objects as a value: an array of interfaces. -/
def wdV (g0 g1 g2 g3 g4 : Nat) : Value := .agg #[.iface 92 (.pointer (some ⟨g0, 0, none⟩)), .iface 94 (.pointer (some ⟨g1, 0, none⟩)), .iface 96 (.pointer (some ⟨g2, 0, none⟩)), .iface 98 (.pointer (some ⟨g3, 0, none⟩)), .iface 100 (.pointer (some ⟨g4, 0, none⟩))]
/-- Two boxes above what was there. -/
def Tq (W w : World) (bU bR : Nat) (o r : Obj) : Prop := Below W.heap.size W w ∧ w.heap[bU]? = some o ∧ w.heap[bR]? = some r ∧ bR < w.heap.size ∧ W.heap.size ≤ bU ∧ W.heap.size ≤ bR ∧ bU < bR
theorem Tq.new (W : World) (o r : Obj) : Tq W ((W.alloc o).alloc r) W.heap.size (W.heap.size + 1) o r :=
  ⟨((Below.refl _ _).alloc (Nat.le_refl _) _).alloc (by simp) _, old_at (new_at W _ _ rfl) _, new_at _ _ _ (by simp), by simp, Nat.le_refl _, by omega, by omega⟩
theorem Tq.below {W w w' : World} {bU bR : Nat} {o r : Obj} (h : Tq W w bU bR o r) (hB : Below w.heap.size w w') : Tq W w' bU bR o r :=
  ⟨h.1.trans (hB.mono h.1.size), (hB.block _ (by have := h.2.2.2.1; have := h.2.2.2.2.2.2; omega)).trans h.2.1, (hB.block _ h.2.2.2.1).trans h.2.2.1, Nat.lt_of_lt_of_le h.2.2.2.1 hB.size, h.2.2.2.2⟩
theorem Tq.drew {W w : World} {bU bR : Nat} {o r : Obj} (h : Tq W w bU bR o r) : Tq W w.drew bU bR o r := ⟨h.1.drew, h.2⟩
theorem ifs_cells {W : World} {b : Nat} {v0 v1 v2 v3 v4 : Value} {t : TypeId} (h : W.heap[b]? = some (.cells #[v0, v1, v2, v3, v4] t (0, 0))) : W.cell? ⟨b, 0, none⟩ = some v0 ∧ W.cell? ⟨b, 1, none⟩ = some v1 ∧ W.cell? ⟨b, 2, none⟩ = some v2 ∧ W.cell? ⟨b, 3, none⟩ = some v3 ∧ W.cell? ⟨b, 4, none⟩ = some v4 ∧ b < W.heap.size :=
  ⟨by simp [World.cell?, h], by simp [World.cell?, h], by simp [World.cell?, h], by simp [World.cell?, h], by simp [World.cell?, h], (Array.getElem?_eq_some_iff.1 h).1⟩
theorem ifs_thaw {W : World} {b : Nat} {v0 v1 v2 v3 v4 : Value} {t : TypeId} (h : W.heap[b]? = some (.cells #[v0, v1, v2, v3, v4] t (0, 0))) : W.frozen? ⟨b, 0, none⟩ = false ∧ W.frozen? ⟨b, 1, none⟩ = false ∧ W.frozen? ⟨b, 2, none⟩ = false ∧ W.frozen? ⟨b, 3, none⟩ = false ∧ W.frozen? ⟨b, 4, none⟩ = false :=
  ⟨by simp [World.frozen?, h], by simp [World.frozen?, h], by simp [World.frozen?, h], by simp [World.frozen?, h], by simp [World.frozen?, h]⟩
theorem set5_five {w : World} {b : Nat} {t : TypeId} {u0 u1 u2 u3 u4 : Value} (v0 v1 v2 v3 v4 : Value) (h : w.heap[b]? = some (.cells #[u0, u1, u2, u3, u4] t (0, 0))) : (set5 w b v0 v1 v2 v3 v4).heap[b]? = some (.cells #[v0, v1, v2, v3, v4] t (0, 0)) := by
  unfold set5
  exact setBlk (setBlk (setBlk (setBlk (setBlk h 0 v0) 1 v1) 2 v2) 3 v3) 4 v4
theorem five_far {w : World} {bU bR : Nat} {s0 s1 s2 s3 s4 : Value} {t : TypeId} (h : w.heap[bU]? = some (.cells #[s0, s1, s2, s3, s4] t (0, 0))) (hne : bU < bR) (v0 v1 v2 v3 v4 : Value) :
    (((((w.setCell ⟨bR, 0, none⟩ v0).setCell ⟨bR, 1, none⟩ v1).setCell ⟨bR, 2, none⟩ v2).setCell ⟨bR, 3, none⟩ v3).setCell ⟨bR, 4, none⟩ v4).cell? ⟨bU, 0, none⟩ = some s0 ∧ (((((w.setCell ⟨bR, 0, none⟩ v0).setCell ⟨bR, 1, none⟩ v1).setCell ⟨bR, 2, none⟩ v2).setCell ⟨bR, 3, none⟩ v3).setCell ⟨bR, 4, none⟩ v4).cell? ⟨bU, 1, none⟩ = some s1 ∧ (((((w.setCell ⟨bR, 0, none⟩ v0).setCell ⟨bR, 1, none⟩ v1).setCell ⟨bR, 2, none⟩ v2).setCell ⟨bR, 3, none⟩ v3).setCell ⟨bR, 4, none⟩ v4).cell? ⟨bU, 2, none⟩ = some s2 ∧ (((((w.setCell ⟨bR, 0, none⟩ v0).setCell ⟨bR, 1, none⟩ v1).setCell ⟨bR, 2, none⟩ v2).setCell ⟨bR, 3, none⟩ v3).setCell ⟨bR, 4, none⟩ v4).cell? ⟨bU, 3, none⟩ = some s3 ∧ (((((w.setCell ⟨bR, 0, none⟩ v0).setCell ⟨bR, 1, none⟩ v1).setCell ⟨bR, 2, none⟩ v2).setCell ⟨bR, 3, none⟩ v3).setCell ⟨bR, 4, none⟩ v4).cell? ⟨bU, 4, none⟩ = some s4 := by
  obtain ⟨k0, k1, k2, k3, k4, _⟩ := ifs_cells ((set5_far w bR v0 v1 v2 v3 v4 bU (by omega)).trans h)
  exact ⟨k0, k1, k2, k3, k4⟩
theorem wd_made {w0 w1 w2 w3 w4 w5 w6 : World} {B g0 g1 g2 g3 g4 : Nat} {x : Ct} (o0 : Ob w1 (fun k => w0.heap.size ≤ k) g0 104 3 1 x.cell.length (ints x.cell)) (o1 : Ob w2 (fun k => w1.heap.size ≤ k) g1 106 3 1 x.stack.length (ints x.stack.reverse)) (o2 : Ob w3 (fun k => w2.heap.size ≤ k) g2 107 3 1 x.queue.length (ints x.queue)) (o3 : Ob w4 (fun k => w3.heap.size ≤ k) g3 109 3 1 x.set.length (ints x.set)) (o4 : Ob w5 (fun k => w4.heap.size ≤ k) g4 111 81 2 x.table.length (prs x.table)) (h1 : Below w0.heap.size w0 w1) (h2 : Below w1.heap.size w1 w2) (h3 : Below w2.heap.size w2 w3) (h4 : Below w3.heap.size w3 w4) (h5 : Below w4.heap.size w4 w5) (hw : ∀ k, w0.heap.size ≤ k → k < w5.heap.size → w6.heap[k]? = w5.heap[k]?) (hB : B ≤ w0.heap.size) : Wd w6 B (labs w0.heap.size w1.heap.size w2.heap.size w3.heap.size w4.heap.size) g0 g1 g2 g3 g4 x := by
  have s1 := h1.size
  have s2 := h2.size
  have s3 := h3.size
  have s4 := h4.size
  have s5 := h5.size
  refine ⟨fun k hk => ?_, ?_, ?_, ?_, ?_, ?_⟩
  · unfold labs at hk
    split at hk
    · omega
    · omega
  · refine o0.kept (fun k hk hl => ?_) (fun k hk hl => ?_)
    · exact (hw k (by omega) (by omega)).trans ((h5.block k (by omega)).trans ((h4.block k (by omega)).trans ((h3.block k (by omega)).trans (h2.block k (by omega)))))
    · unfold labs
      rw [if_neg (by omega)]
      rw [if_pos (by omega)]
  · refine o1.kept (fun k hk hl => ?_) (fun k hk hl => ?_)
    · exact (hw k (by omega) (by omega)).trans ((h5.block k (by omega)).trans ((h4.block k (by omega)).trans (h3.block k (by omega))))
    · unfold labs
      rw [if_neg (by omega)]
      rw [if_neg (by omega)]
      rw [if_pos (by omega)]
  · refine o2.kept (fun k hk hl => ?_) (fun k hk hl => ?_)
    · exact (hw k (by omega) (by omega)).trans ((h5.block k (by omega)).trans (h4.block k (by omega)))
    · unfold labs
      rw [if_neg (by omega)]
      rw [if_neg (by omega)]
      rw [if_neg (by omega)]
      rw [if_pos (by omega)]
  · refine o3.kept (fun k hk hl => ?_) (fun k hk hl => ?_)
    · exact (hw k (by omega) (by omega)).trans (h5.block k (by omega))
    · unfold labs
      rw [if_neg (by omega)]
      rw [if_neg (by omega)]
      rw [if_neg (by omega)]
      rw [if_neg (by omega)]
      rw [if_pos (by omega)]
  · refine o4.kept (fun k hk hl => ?_) (fun k hk hl => ?_)
    · exact (hw k (by omega) (by omega))
    · unfold labs
      rw [if_neg (by omega)]
      rw [if_neg (by omega)]
      rw [if_neg (by omega)]
      rw [if_neg (by omega)]
      rw [if_neg (by omega)]
end Go.Proofs.Ytegbcocbopgghab.Md
