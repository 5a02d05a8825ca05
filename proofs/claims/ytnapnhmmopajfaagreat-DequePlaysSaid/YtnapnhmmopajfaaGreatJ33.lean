import Derived.Test.YtnapnhmmopajfaaGreatJ31
import Derived.Test.YtnapnhmmopajfaaGreatJ32
import Derived.Test.YtnapnhmmopajfaaGreatJ23
import Derived.Test.YtnapnhmmopajfaaGreatJ09
import Derived.Laws.MakeOwn
import Derived.Laws.Rows
import Derived.Laws.Tables
/-
  THE DOCUMENT's DEQUE: Told (made by mk_rdtold.py).
-/
namespace Go.Proofs.YtnapnhmmopajfaaGreat.Rd
open Go.RowKit Mr Me Ma
set_option linter.unusedVariables false
set_option linter.unusedSimpArgs false
def nl4 : Value := .slice none 0 0
def rn4 (x1 x2 x4 : Value) : Obj := .cells #[x1, x2, .slice none 0 0, x4] 33 (0, 0)
structure Tb (W : World) (x1 x2 x4 : Value) (w : World) : Prop where
  b : Below W.heap.size W w
  o : w.heap[W.heap.size]? = some (rn4 (.slice none 0 0) (.slice none 0 0) (.slice none 0 0))
  l : w.heap[W.heap.size + 1]? = some (rn4 x1 x2 x4)
theorem cellR {W : World} {b : Nat} {cs : Array Value} {t : TypeId} {fr : Nat × Nat} (h : W.heap[b]? = some (.cells cs t fr)) (k : Nat) : W.cell? ⟨b, k, none⟩ = cs[k]? := by simp [World.cell?, h]
theorem frozR {W : World} {b : Nat} {cs : Array Value} {t : TypeId} (h : W.heap[b]? = some (.cells cs t (0, 0))) (k : Nat) : W.frozen? ⟨b, k, none⟩ = false := by simp [World.frozen?, h]
section
variable {W w w' : World} {x1 x2 x4 : Value}
theorem Tb.lt (h : Tb W x1 x2 x4 w) : W.heap.size + 1 < w.heap.size := (Array.getElem?_eq_some_iff.1 h.l).1
theorem Tb.c (h : Tb W x1 x2 x4 w) : w.cell? ⟨W.heap.size + 1, 0, none⟩ = some x1 ∧ w.cell? ⟨W.heap.size + 1, 1, none⟩ = some x2 ∧ w.cell? ⟨W.heap.size + 1, 2, none⟩ = some (.slice none 0 0) ∧ w.cell? ⟨W.heap.size + 1, 3, none⟩ = some x4 ∧ ∀ j, w.frozen? ⟨W.heap.size + 1, j, none⟩ = false :=
  ⟨cellR h.l 0, cellR h.l 1, cellR h.l 2, cellR h.l 3, frozR h.l⟩
theorem Tb.c0 (h : Tb W x1 x2 x4 w) : w.cell? ⟨W.heap.size, 0, none⟩ = some (.slice none 0 0) ∧ w.cell? ⟨W.heap.size, 1, none⟩ = some (.slice none 0 0) ∧ w.cell? ⟨W.heap.size, 2, none⟩ = some (.slice none 0 0) ∧ w.cell? ⟨W.heap.size, 3, none⟩ = some (.slice none 0 0) ∧ ∀ j, w.frozen? ⟨W.heap.size, j, none⟩ = false :=
  ⟨cellR h.o 0, cellR h.o 1, cellR h.o 2, cellR h.o 3, frozR h.o⟩
theorem Tb.drew (h : Tb W x1 x2 x4 w) : Tb W x1 x2 x4 w.drew := ⟨h.b.drew, h.o, h.l⟩
theorem Tb.alloc (h : Tb W x1 x2 x4 w) (o : Obj) : Tb W x1 x2 x4 (w.alloc o) := by
  have hl := h.lt
  exact ⟨h.b.alloc (by omega) o, (Below.heap_alloc _ _ _ (by omega)).trans h.o, (Below.heap_alloc _ _ _ (by omega)).trans h.l⟩
theorem Tb.grown (h : Tb W x1 x2 x4 w) {row : Option Nat} (hg : w.grownBy w' row) (hr : ∀ k, row = some k → W.heap.size + 1 < k) : Tb W x1 x2 x4 w' := by
  have hl := h.lt
  refine ⟨h.b.grown hg (by omega) (fun k hk => by have := hr k hk; omega), ?_, ?_⟩
  · exact (hg.block _ (by omega) (fun e => by have := hr _ e.symm; omega)).trans h.o
  · exact (hg.block _ (by omega) (fun e => by have := hr _ e.symm; omega)).trans h.l
theorem Tb.set1 (h : Tb W x1 x2 x4 w) (u : Value) : Tb W u x2 x4 (w.setCell ⟨W.heap.size + 1, 0, none⟩ u) := by
  refine ⟨h.b.setCell (p := ⟨W.heap.size + 1, 0, none⟩) (Nat.le_succ _) _, (Below.heap_setCell _ _ _ _ (by simp)).trans h.o, ?_⟩
  have hl := h.l
  unfold rn4 at hl ⊢
  rw [setBlk hl]; rfl
theorem Tb.set2 (h : Tb W x1 x2 x4 w) (u : Value) : Tb W x1 u x4 (w.setCell ⟨W.heap.size + 1, 1, none⟩ u) := by
  refine ⟨h.b.setCell (p := ⟨W.heap.size + 1, 1, none⟩) (Nat.le_succ _) _, (Below.heap_setCell _ _ _ _ (by simp)).trans h.o, ?_⟩
  have hl := h.l
  unfold rn4 at hl ⊢
  rw [setBlk hl]; rfl
theorem Tb.set4 (h : Tb W x1 x2 x4 w) (u : Value) : Tb W x1 x2 u (w.setCell ⟨W.heap.size + 1, 3, none⟩ u) := by
  refine ⟨h.b.setCell (p := ⟨W.heap.size + 1, 3, none⟩) (Nat.le_succ _) _, (Below.heap_setCell _ _ _ _ (by simp)).trans h.o, ?_⟩
  have hl := h.l
  unfold rn4 at hl ⊢
  rw [setBlk hl]; rfl
theorem has_srcR {w : World} {S : Nat → Prop} {e size n : Nat} {v : Value} {xs : List Value} (h : Has w S e size v n xs) : ∃ a cap, v = .slice a n cap ∧ (a = none → n = 0) ∧ ∀ w' : World, Below w.heap.size w w' → ∀ ad, a = some ad → ∀ j u, xs[j]? = some u → w'.cell? (ad.add j) = some u := by
  rcases h.2 with ⟨rfl, h0⟩ | ⟨g, cap, cur, rfl, _, hg, _⟩
  · exact ⟨none, 0, by rw [h0], (fun _ => h0), (fun _ _ ad hh => by cases hh)⟩
  · refine ⟨some ⟨g, 0, none⟩, cap, rfl, (fun hh => by cases hh), fun w' hB ad hh j u hu => ?_⟩
    cases hh
    have hgl := (h.lt g rfl).2
    have hadd : (⟨g, 0, none⟩ : Addr).add j = ⟨g, j, none⟩ := by unfold Addr.add; split <;> simp_all
    rw [hadd]
    exact (hB.cell (p := ⟨g, j, none⟩) hgl).trans (h.cells (g := g) rfl j u hu)
theorem one_clcR (l : List Cl) : ∀ u ∈ clc l, u.oneCell' = true := by
  intro u hu
  obtain ⟨x, _, hx⟩ := List.mem_flatMap.1 hu
  simp only [Cl.cells, List.mem_cons, List.not_mem_nil, or_false] at hx
  rcases hx with rfl | rfl | rfl | rfl | rfl | rfl | rfl | rfl | rfl <;> rfl
theorem one_lgcR (l : List Acc) : ∀ u ∈ lgc l, u.oneCell' = true := by
  intro u hu
  obtain ⟨x, _, hx⟩ := List.mem_flatMap.1 hu
  simp only [Acc.cells, List.mem_cons, List.not_mem_nil, or_false] at hx
  rcases hx with rfl | rfl | rfl | rfl | rfl | rfl | rfl <;> rfl
theorem info_u64R : (Tryz.prog.info? 63).map (fun i => (i.zero, i.size, i.bytes)) = some (some (.int .u64 0), 1, 8) := by kernel_rfl
end
section
variable {W : World} {U : Nat → Prop} {q : Rc} {vc vl : Value} {s : Rs}
set_option maxRecDepth 100000 in
set_option maxHeartbeats 8000000 in
theorem Told_r (h : Rm W U q vc vl s) (h1 : s.cls.length ≤ 100000) (h2 : s.lg.length ≤ 100000) (h3 : q.r ≤ 256) :
    Calls Tryz.prog 15 #[.pointer (some ⟨q.b, 0, none⟩)] W fun e w' => ∃ v1 v2 v4, e = .returned (runV v1 v2 (.slice none 0 0) v4) ∧ Has w' (fun k => W.heap.size ≤ k) 61 9 v1 s.cls.length (clc s.cls) ∧ Has w' (fun k => W.heap.size ≤ k) 65 7 v2 s.lg.length (lgc s.lg) ∧ Has w' (fun k => W.heap.size ≤ k) 63 1 v4 (2 + q.r) (wrd (s.ws.map uw)) ∧ Below W.heap.size W w' := by
  have l1 := h.lt
  obtain ⟨a1, c1, rfl, n1, m1⟩ := has_srcR h.cl
  obtain ⟨a2, c2, rfl, n2, m2⟩ := has_srcR h.lg
  obtain ⟨i1, p1, p2, p3, p4⟩ := info_parts info_call
  obtain ⟨i2, q1, q2, q3, q4⟩ := info_parts info_acc
  obtain ⟨i4, t1, t2, t3, t4⟩ := info_parts info_u64R
  have o1 := one_clcR s.cls
  have o2 := one_lgcR s.lg
  have e1 : (clc s.cls).length = s.cls.length * 9 := flat_length cl_len s.cls
  have e2 : (lgc s.lg).length = s.lg.length * 7 := (flat_length (f := Acc.cells) (fun _ => rfl) s.lg : (s.lg.flatMap Acc.cells).length = s.lg.length * 7)
  have KM : Hid (∀ w' : World, Below W.heap.size W w' → w'.cell? ⟨q.b, 2, none⟩ = some (.slice (some ⟨q.gw, 0, none⟩) (2 + q.r) q.cw) ∧ w'.cell? ⟨q.b, 4, none⟩ = some (.slice a1 s.cls.length c1) ∧ w'.cell? ⟨q.b, 5, none⟩ = some (.slice a2 s.lg.length c2)) := Mr.hid (fun w' hT => by
    obtain ⟨⟨_, _, k2, _⟩, k4, k5, _⟩ := (h.below hT).cells
    exact ⟨k2, k4, k5⟩)
  have KW : Hid (∀ (w' : World) (i : Nat) (x : Int), Below W.heap.size W w' → s.ws[i]? = some x → w'.cell? ⟨q.gw, i, none⟩ = some (.int .i64 x)) := Mr.hid (fun w' i x hT hx => (h.below hT).wcell hx)
  have hwn := h.wn
  obtain ⟨W2, hW2⟩ : ∃ W2, (W.alloc (.cells #[.slice none 0 0, .slice none 0 0, .slice none 0 0, .slice none 0 0] 33)).alloc (.cells #[.slice none 0 0, .slice none 0 0, .slice none 0 0, .slice none 0 0] 33) = W2 := ⟨_, rfl⟩
  have T2 : Tb W (.slice none 0 0) (.slice none 0 0) (.slice none 0 0) W2 := by
    rw [← hW2]
    refine ⟨((Below.refl _ _).alloc (Nat.le_refl _) _).alloc (by simp) _, (Below.heap_alloc _ _ _ (by simp)).trans (heap_alloc_new W _), ?_⟩
    have := heap_alloc_new (W.alloc (.cells #[.slice none 0 0, .slice none 0 0, .slice none 0 0, .slice none 0 0] 33)) (.cells #[.slice none 0 0, .slice none 0 0, .slice none 0 0, .slice none 0 0] 33)
    rw [World.size_alloc] at this
    exact this
  obtain ⟨k2, k4, k5⟩ := KM.out _ T2.b
  obtain ⟨x0, x1, x2, x3, xf⟩ := T2.c
  have lt2 := T2.lt
  replace m1 := Mr.hid m1
  replace m2 := Mr.hid m2
  replace o1 := Mr.hid o1
  replace o2 := Mr.hid o2
  replace T2 := Mr.hid T2
  replace h := Mr.hid h
  replace hW2 := Mr.hid hW2
  go_enter Tryz.func15, Tryz.ntmps15
  go_wp2
  rw [hW2.out]
  refine wp_region_held_drew (S := (fun w' => w'.cell? ⟨q.b, 4, none⟩ = some (.slice a1 s.cls.length c1))) (by kernel_rfl) k4 (fun hHeld => ?_)
  try simp only [Act.put, List.setIfInBounds_toArray, List.set_cons_zero, List.set_cons_succ]
  refine wpAnyH_take (i := 0) (oi := (⟨_, _, _, _, _, _⟩ : Oper)) (v := ?_) rfl (by kernel_rfl) (by kernel_rfl) (by kernel_rfl) (fun _ _ _ h => h) (Or.inl ⟨by rfl, ?_⟩) (by assumption) ?_
  rotate_left
  · intro w9 hSw
    (try dsimp only at hSw)
    go_simp
    all_goals (with_reducible rfl)
  try simp only [Act.put, List.setIfInBounds_toArray, List.set_cons_zero, List.set_cons_succ]
  refine wpAnyH_take (i := 2) (oi := (⟨_, _, _, _, _, _⟩ : Oper)) (v := ?_) rfl (by kernel_rfl) (by kernel_rfl) (by kernel_rfl) (fun _ _ _ h => h) (Or.inl ⟨by rfl, ?_⟩) (by assumption) ?_
  rotate_left
  · intro w9 hSw
    (try dsimp only at hSw)
    go_simp
    all_goals (with_reducible rfl)
  try simp only [Act.put, List.setIfInBounds_toArray, List.set_cons_zero, List.set_cons_succ]
  refine wpAnyH_take (i := 3) (oi := (⟨_, _, _, _, _, _⟩ : Oper)) (v := ?_) rfl (by kernel_rfl) (by kernel_rfl) (by kernel_rfl) (fun _ _ _ h => h) (Or.inl ⟨by rfl, ?_⟩) (by assumption) ?_
  rotate_left
  · intro w9 hSw
    (try dsimp only at hSw)
    go_simp
    all_goals (with_reducible rfl)
  try simp only [Act.put, List.setIfInBounds_toArray, List.set_cons_zero, List.set_cons_succ]
  refine wpAnyH_take (i := 4) (oi := (⟨_, _, _, _, _, _⟩ : Oper)) (v := ?_) rfl (by kernel_rfl) (by kernel_rfl) (by kernel_rfl) (fun _ _ _ h => h) (Or.inl ⟨by rfl, ?_⟩) (by assumption) ?_
  rotate_left
  · intro w9 hSw
    (try dsimp only at hSw)
    go_simp
    all_goals (with_reducible rfl)
  try simp only [Act.put, List.setIfInBounds_toArray, List.set_cons_zero, List.set_cons_succ]
  refine wpAnyH_take (i := 5) (oi := (⟨_, _, _, _, _, _⟩ : Oper)) (v := ?_) rfl (by kernel_rfl) (by kernel_rfl) (by kernel_rfl) (fun _ _ _ h => h) (Or.inl ⟨by rfl, ?_⟩) (by assumption) ?_
  rotate_left
  · intro w9 hSw
    (try dsimp only at hSw)
    go_simp
    all_goals (with_reducible rfl)
  try simp only [Act.put, List.setIfInBounds_toArray, List.set_cons_zero, List.set_cons_succ]
  refine wpAnyH_ready (rs := [1]) (by kernel_rfl) (by simp) (AllReadyH.cons rfl (fun K hK => ?_) AllReadyH.nil)
  go_simp
  refine hK.out _ _ hHeld (fun hHeld9 => ?_)
  clear hK K hHeld
  have hHeld := hHeld9
  clear hHeld9
  refine wpAnyH_ready (rs := [6]) (by kernel_rfl) (by simp) (AllReadyH.cons rfl (fun K hK => ?_) AllReadyH.nil)
  refine step_append_fresh _ rfl (.tmp 6) (.tmp 10) 28 rfl (fun k => W.heap.size + 1 < k) 61 i1 _ 9 72 Tryz.underlying28 p1 p2 p3 p4 rfl (by simp [Act.eval]) a1 s.cls.length c1 (clc s.cls) (by simp [Act.eval]) e1 n1 (m1.out _ T2.out.drew.b) o1.out (by unfold maxLen; omega) (by omega) T2.out.drew.lt ?_
  intro v1 w1 hv1 hg1 hat1
  obtain ⟨z2, z4, z5⟩ := KM.out _ (T2.out.drew.grown hg1 (by simp)).b
  have T3 := T2.out.drew.grown hg1 (by simp)
  obtain ⟨y0, y1, y2, y3, yf⟩ := T3.c
  have T3s := T3.set1 v1
  obtain ⟨pv1, qv1, rfl, _⟩ := hv1.form
  refine hK.out _ _ z4 (fun hHeld9 => ?_)
  clear hK K hHeld
  have hHeld := hHeld9
  clear hHeld9
  refine wpAnyH_take (i := 7) (oi := (⟨_, _, _, _, _, _⟩ : Oper)) (v := ?_) rfl (by kernel_rfl) (by kernel_rfl) (by kernel_rfl) (fun _ _ _ h => h) (Or.inl ⟨by rfl, ?_⟩) (by assumption) ?_
  rotate_left
  · intro w9 hSw
    (try dsimp only at hSw)
    go_simp
    all_goals (with_reducible rfl)
  try simp only [Act.put, List.setIfInBounds_toArray, List.set_cons_zero, List.set_cons_succ]
  refine wpAnyH_ready (rs := [8]) (by kernel_rfl) (by simp) (AllReadyH.cons rfl (fun K hK => ?_) AllReadyH.nil)
  go_simp
  refine hK.out _ _ (KM.out _ T3s.b).2.1 (fun _ => wpAnyH_done (by kernel_rfl) ?_ _)
  clear hK K hHeld
  clear z2 z4 z5 y0 y1 y2 y3 yf x0 x1 x2 x3 xf k2 k4 k5
  have hv1s := hv1.setCell (p := ⟨W.heap.size + 1, 0, none⟩) (u := .slice pv1 s.cls.length qv1) (fun e => by have := (hv1.lt _ e).1; simp at this)
  obtain ⟨W3, hW3⟩ : ∃ W3, w1.setCell ⟨W.heap.size + 1, 0, none⟩ (.slice pv1 s.cls.length qv1) = W3 := ⟨_, rfl⟩
  rw [hW3] at T3s hv1s
  replace hW3 := Mr.hid hW3
  obtain ⟨k2, k4, k5⟩ := KM.out _ T3s.b
  obtain ⟨x0, x1, x2, x3, xf⟩ := T3s.c
  clear hv1 hg1 hat1 T3
  replace T3s := Mr.hid T3s
  replace hv1s := Mr.hid hv1s
  go_wp2
  rw [hW3.out]
  refine wp_region_held_drew (S := (fun w' => w'.cell? ⟨q.b, 5, none⟩ = some (.slice a2 s.lg.length c2))) (by kernel_rfl) k5 (fun hHeld => ?_)
  try simp only [Act.put, List.setIfInBounds_toArray, List.set_cons_zero, List.set_cons_succ]
  refine wpAnyH_take (i := 0) (oi := (⟨_, _, _, _, _, _⟩ : Oper)) (v := ?_) rfl (by kernel_rfl) (by kernel_rfl) (by kernel_rfl) (fun _ _ _ h => h) (Or.inl ⟨by rfl, ?_⟩) (by assumption) ?_
  rotate_left
  · intro w9 hSw
    (try dsimp only at hSw)
    go_simp
    all_goals (with_reducible rfl)
  try simp only [Act.put, List.setIfInBounds_toArray, List.set_cons_zero, List.set_cons_succ]
  refine wpAnyH_take (i := 2) (oi := (⟨_, _, _, _, _, _⟩ : Oper)) (v := ?_) rfl (by kernel_rfl) (by kernel_rfl) (by kernel_rfl) (fun _ _ _ h => h) (Or.inl ⟨by rfl, ?_⟩) (by assumption) ?_
  rotate_left
  · intro w9 hSw
    (try dsimp only at hSw)
    go_simp
    all_goals (with_reducible rfl)
  try simp only [Act.put, List.setIfInBounds_toArray, List.set_cons_zero, List.set_cons_succ]
  refine wpAnyH_take (i := 3) (oi := (⟨_, _, _, _, _, _⟩ : Oper)) (v := ?_) rfl (by kernel_rfl) (by kernel_rfl) (by kernel_rfl) (fun _ _ _ h => h) (Or.inl ⟨by rfl, ?_⟩) (by assumption) ?_
  rotate_left
  · intro w9 hSw
    (try dsimp only at hSw)
    go_simp
    all_goals (with_reducible rfl)
  try simp only [Act.put, List.setIfInBounds_toArray, List.set_cons_zero, List.set_cons_succ]
  refine wpAnyH_take (i := 4) (oi := (⟨_, _, _, _, _, _⟩ : Oper)) (v := ?_) rfl (by kernel_rfl) (by kernel_rfl) (by kernel_rfl) (fun _ _ _ h => h) (Or.inl ⟨by rfl, ?_⟩) (by assumption) ?_
  rotate_left
  · intro w9 hSw
    (try dsimp only at hSw)
    go_simp
    all_goals (with_reducible rfl)
  try simp only [Act.put, List.setIfInBounds_toArray, List.set_cons_zero, List.set_cons_succ]
  refine wpAnyH_take (i := 5) (oi := (⟨_, _, _, _, _, _⟩ : Oper)) (v := ?_) rfl (by kernel_rfl) (by kernel_rfl) (by kernel_rfl) (fun _ _ _ h => h) (Or.inl ⟨by rfl, ?_⟩) (by assumption) ?_
  rotate_left
  · intro w9 hSw
    (try dsimp only at hSw)
    go_simp
    all_goals (with_reducible rfl)
  try simp only [Act.put, List.setIfInBounds_toArray, List.set_cons_zero, List.set_cons_succ]
  refine wpAnyH_ready (rs := [1]) (by kernel_rfl) (by simp) (AllReadyH.cons rfl (fun K hK => ?_) AllReadyH.nil)
  go_simp
  refine hK.out _ _ hHeld (fun hHeld9 => ?_)
  clear hK K hHeld
  have hHeld := hHeld9
  clear hHeld9
  refine wpAnyH_ready (rs := [6]) (by kernel_rfl) (by simp) (AllReadyH.cons rfl (fun K hK => ?_) AllReadyH.nil)
  refine step_append_fresh _ rfl (.tmp 14) (.tmp 18) 29 rfl (fun k => W.heap.size + 1 < k) 65 i2 _ 7 56 Tryz.underlying29 q1 q2 q3 q4 rfl (by simp [Act.eval]) a2 s.lg.length c2 (lgc s.lg) (by simp [Act.eval]) e2 n2 (m2.out _ T3s.out.drew.b) o2.out (by unfold maxLen; omega) (by omega) T3s.out.drew.lt ?_
  intro v2 w2 hv2 hg2 hat2
  obtain ⟨z2, z4, z5⟩ := KM.out _ (T3s.out.drew.grown hg2 (by simp)).b
  have T4 := T3s.out.drew.grown hg2 (by simp)
  obtain ⟨y0, y1, y2, y3, yf⟩ := T4.c
  have T4s := T4.set2 v2
  obtain ⟨pv2, qv2, rfl, _⟩ := hv2.form
  refine hK.out _ _ z5 (fun hHeld9 => ?_)
  clear hK K hHeld
  have hHeld := hHeld9
  clear hHeld9
  refine wpAnyH_take (i := 7) (oi := (⟨_, _, _, _, _, _⟩ : Oper)) (v := ?_) rfl (by kernel_rfl) (by kernel_rfl) (by kernel_rfl) (fun _ _ _ h => h) (Or.inl ⟨by rfl, ?_⟩) (by assumption) ?_
  rotate_left
  · intro w9 hSw
    (try dsimp only at hSw)
    go_simp
    all_goals (with_reducible rfl)
  try simp only [Act.put, List.setIfInBounds_toArray, List.set_cons_zero, List.set_cons_succ]
  refine wpAnyH_ready (rs := [8]) (by kernel_rfl) (by simp) (AllReadyH.cons rfl (fun K hK => ?_) AllReadyH.nil)
  go_simp
  refine hK.out _ _ (KM.out _ T4s.b).2.2 (fun _ => wpAnyH_done (by kernel_rfl) ?_ _)
  clear hK K hHeld
  clear z2 z4 z5 y0 y1 y2 y3 yf x0 x1 x2 x3 xf k2 k4 k5
  have hv1d : Has W3.drew (fun k => W.heap.size + 1 < k) 61 9 (.slice pv1 s.cls.length qv1) s.cls.length (clc s.cls) := hv1s.out.kept (fun _ _ => rfl) (fun k hk => (hv1s.out.lt k hk).1)
  have hv1g := (hv1d.grown hg2 (by simp)).setCell (p := ⟨W.heap.size + 1, 1, none⟩) (u := .slice pv2 s.lg.length qv2) (fun e => by have := (hv1d.lt _ e).1; simp at this)
  have hv2s := hv2.setCell (p := ⟨W.heap.size + 1, 1, none⟩) (u := .slice pv2 s.lg.length qv2) (fun e => by have := (hv2.lt _ e).1; simp at this)
  obtain ⟨W4, hW4⟩ : ∃ W4, w2.setCell ⟨W.heap.size + 1, 1, none⟩ (.slice pv2 s.lg.length qv2) = W4 := ⟨_, rfl⟩
  rw [hW4] at T4s hv1g hv2s
  replace hW4 := Mr.hid hW4
  clear hv2 hg2 hat2 T4 hv1d hv1s T3s T2
  obtain ⟨k2, k4, k5⟩ := KM.out _ T4s.b
  replace T4s := Mr.hid T4s
  replace hv1g := Mr.hid hv1g
  replace hv2s := Mr.hid hv2s
  go_wp2
  rw [hW4.out]
  generalize W4 = W5 at *
  go_loopg [4] (2 + q.r) (fun k s' wr => ∃ (j : Nat) (x4 : Value), s' = .int .i64 (j : Int) ∧ j + k = 2 + q.r ∧ Tb W (.slice pv1 s.cls.length qv1) (.slice pv2 s.lg.length qv2) x4 wr ∧ Has wr (fun k => W.heap.size + 1 < k) 61 9 (.slice pv1 s.cls.length qv1) s.cls.length (clc s.cls) ∧ Has wr (fun k => W.heap.size + 1 < k) 65 7 (.slice pv2 s.lg.length qv2) s.lg.length (lgc s.lg) ∧ Has wr (fun k => W.heap.size + 1 < k) 63 1 x4 j (wrd ((s.ws.map uw).take j)))
  case atStart => exact ⟨0, _, rfl, by omega, T4s.out, hv1g.out, hv2s.out, by simpa [wrd] using Has.nil _ _ _ _⟩
  case round =>
    obtain ⟨j, x4, rfl, hj, hT, hH1, hH2, hH4⟩ := hrel
    clear k2 k4 k5 T4s hv1g hv2s
    obtain ⟨k2, k4, k5⟩ := KM.out _ hT.b
    obtain ⟨x0, x1, x2, x3, xf⟩ := hT.c
    have ltr := hT.lt
    by_cases hlt : j < 2 + q.r
    · obtain ⟨x, hx⟩ : ∃ x, s.ws[j]? = some x := ⟨_, List.getElem?_eq_getElem (by omega)⟩
      have kx := KW.out _ j x hT.b hx
      obtain ⟨a4, c4, rfl, hle4⟩ := hH4.form
      have hj1 : gk - 1 < gk := by omega
      have hj2 : j + 1 + (gk - 1) = 2 + q.r := by omega
      replace hj1 := Mr.hid hj1
      replace hj2 := Mr.hid hj2
      replace hj := Mr.hid hj
      have hjle : j ≤ 1000 := by omega
      have hM1 : j + 1 ≤ maxLen := by unfold maxLen; omega
      have hM2 : ((j + 1) + (j + 1) / 4 + 192) * 8 ≤ 281474976710656 := by omega
      have jlt : decide ((j : Int) < 2 + (q.r : Int)) = true := by simp; omega
      have jlp : (j : Int) < 2 + (q.r : Int) := by omega
      replace hwn := Mr.hid hwn
      replace e1 := Mr.hid e1
      replace e2 := Mr.hid e2
      replace hT := Mr.hid hT
      replace hH1 := Mr.hid hH1
      replace hH2 := Mr.hid hH2
      replace hH4 := Mr.hid hH4
      replace hx := Mr.hid hx
      clear n1 n2 m1 m2 o1 o2
      go_wp2
      rename_i aK
      replace hT := hT.out
      replace hH1 := hH1.out
      replace hH2 := hH2.out
      replace hH4 := hH4.out
      replace hx := hx.out
      have hTa := hT.drew.alloc (.cells #[.int .u64 (IntKind.u64.wrap x)] 63)
      have hTd := hT.drew
      have hS2 : (wr.drew.alloc (.cells #[.int .u64 (IntKind.u64.wrap x)] 63)).cell? ⟨q.b, 2, none⟩ = some (.slice (some ⟨q.gw, 0, none⟩) (2 + q.r) q.cw) ∧ (wr.drew.alloc (.cells #[.int .u64 (IntKind.u64.wrap x)] 63)).cell? ⟨q.gw, j, none⟩ = some (.int .i64 x) := ⟨(KM.out _ hTa.b).1, KW.out _ j x hTa.b hx⟩
      obtain ⟨u0, u1, u2, u3, uf⟩ := hTa.c
      obtain ⟨d0, d1, d2, d3, df⟩ := hTd.c
      have hHa : Has (wr.drew.alloc (.cells #[.int .u64 (IntKind.u64.wrap x)] 63)) (fun k => W.heap.size + 1 < k) 63 1 (.slice a4 j c4) j (wrd ((s.ws.map uw).take j)) := Has.alloc (w := wr.drew) (hH4.kept (fun _ _ => rfl) (fun k hk => (hH4.lt k hk).1)) _
      have hH1a : Has (wr.drew.alloc (.cells #[.int .u64 (IntKind.u64.wrap x)] 63)) (fun k => W.heap.size + 1 < k) 61 9 (.slice pv1 s.cls.length qv1) s.cls.length (clc s.cls) := Has.alloc (w := wr.drew) (hH1.kept (fun _ _ => rfl) (fun k hk => (hH1.lt k hk).1)) _
      have hH2a : Has (wr.drew.alloc (.cells #[.int .u64 (IntKind.u64.wrap x)] 63)) (fun k => W.heap.size + 1 < k) 65 7 (.slice pv2 s.lg.length qv2) s.lg.length (lgc s.lg) := Has.alloc (w := wr.drew) (hH2.kept (fun _ _ => rfl) (fun k hk => (hH2.lt k hk).1)) _
      have htk : (s.ws.map uw).take (j + 1) = (s.ws.map uw).take j ++ [uw x] := by rw [List.take_add_one]; simp [hx]
      have hSz : W.heap.size + 1 < (wr.drew.alloc (.cells #[.int .u64 (IntKind.u64.wrap x)] 63)).heap.size := hTa.lt
      have u1' : wrap64 ((j : Int) + 1) = (j : Int) + 1 := by unfold wrap64; omega
      have FIN : Hid (∀ (w1 : World) (g cap' : Nat), Has w1 (fun k => W.heap.size + 1 < k) 63 1 (.slice (some ⟨g, 0, none⟩) (j + 1) cap') (j + 1) (wrd ((s.ws.map uw).take j) ++ [.int .u64 (IntKind.u64.wrap x)]) → (wr.drew.alloc (.cells #[.int .u64 (IntKind.u64.wrap x)] 63)).grownBy w1 (Value.slice a4 j c4).ownBlock → (w1.cell? ⟨W.heap.size + 1, 3, none⟩ = some (.slice a4 j c4) ∧ w1.frozen? ⟨W.heap.size + 1, 3, none⟩ = false ∧ (w1.cell? ⟨q.b, 2, none⟩ = some (.slice (some ⟨q.gw, 0, none⟩) (2 + q.r) q.cw) ∧ w1.cell? ⟨q.gw, j, none⟩ = some (.int .i64 x))) ∧
          Hid (∃ (x4 : Value), Tb W (.slice pv1 s.cls.length qv1) (.slice pv2 s.lg.length qv2) x4 (w1.setCell ⟨W.heap.size + 1, 3, none⟩ (.slice (some ⟨g, 0, none⟩) (j + 1) cap')) ∧ Has (w1.setCell ⟨W.heap.size + 1, 3, none⟩ (.slice (some ⟨g, 0, none⟩) (j + 1) cap')) (fun k => W.heap.size + 1 < k) 61 9 (.slice pv1 s.cls.length qv1) s.cls.length (clc s.cls) ∧ Has (w1.setCell ⟨W.heap.size + 1, 3, none⟩ (.slice (some ⟨g, 0, none⟩) (j + 1) cap')) (fun k => W.heap.size + 1 < k) 65 7 (.slice pv2 s.lg.length qv2) s.lg.length (lgc s.lg) ∧ Has (w1.setCell ⟨W.heap.size + 1, 3, none⟩ (.slice (some ⟨g, 0, none⟩) (j + 1) cap')) (fun k => W.heap.size + 1 < k) 63 1 x4 (j + 1) (wrd ((s.ws.map uw).take (j + 1)))) ∧ Hid (
            (w1.setCell ⟨W.heap.size + 1, 3, none⟩ (.slice (some ⟨g, 0, none⟩) (j + 1) cap')).cell? ⟨q.b, 2, none⟩ = some (.slice (some ⟨q.gw, 0, none⟩) (2 + q.r) q.cw) ∧ (w1.setCell ⟨W.heap.size + 1, 3, none⟩ (.slice (some ⟨g, 0, none⟩) (j + 1) cap')).cell? ⟨q.gw, j, none⟩ = some (.int .i64 x))) := Mr.hid (fun w1 g cap' hown hgrow => by
        have hr : ∀ k, (Value.slice a4 j c4).ownBlock = some k → W.heap.size + 1 < k := fun k hk => (hHa.lt k hk).1
        have t1 := hTa.grown hgrow hr
        have t2 := t1.set4 (.slice (some ⟨g, 0, none⟩) (j + 1) cap')
        obtain ⟨_, _, _, v3, vf⟩ := t1.c
        have ne1 : ∀ {e sz n : Nat} {v : Value} {xs : List Value} {w : World}, Has w (fun k => W.heap.size + 1 < k) e sz v n xs → v.ownBlock ≠ some (⟨W.heap.size + 1, 3, none⟩ : Addr).block := fun hv e => by have := (hv.lt _ e).1; simp at this
        have m1 := hH1a.grown hgrow (fun k hk e => has_ne hH1a hHa (by decide) k hk e)
        have m2 := hH2a.grown hgrow (fun k hk e => has_ne hH2a hHa (by decide) k hk e)
        refine ⟨⟨v3, vf 3, (KM.out _ t1.b).1, KW.out _ j x t1.b hx⟩, Mr.hid ⟨_, t2, m1.setCell _ _ (ne1 m1), m2.setCell _ _ (ne1 m2), ?_⟩, Mr.hid ⟨(KM.out _ t2.b).1, KW.out _ j x t2.b hx⟩⟩
        rw [htk]
        have e : wrd ((s.ws.map uw).take j ++ [uw x]) = wrd ((s.ws.map uw).take j) ++ [.int .u64 (IntKind.u64.wrap x)] := by simp [wrd, uw]
        rw [e]
        exact hown.setCell _ _ (ne1 hown))
      clear hT hH1 hH2 hH4 hTa hTd hH1a hH2a htk k4 k5
      replace hHa := Mr.hid hHa
      replace hx := Mr.hid hx
      refine wp_region_held_drew (S := (fun w' => w'.cell? ⟨q.b, 2, none⟩ = some (.slice (some ⟨q.gw, 0, none⟩) (2 + q.r) q.cw) ∧ w'.cell? ⟨q.gw, j, none⟩ = some (.int .i64 x))) (by kernel_rfl) ⟨k2, kx⟩ (fun hHeld => ?_)
      try simp only [Act.put, List.setIfInBounds_toArray, List.set_cons_zero, List.set_cons_succ]
      refine wpAnyH_take (i := 0) (oi := (⟨_, _, _, _, _, _⟩ : Oper)) (v := ?_) rfl (by kernel_rfl) (by kernel_rfl) (by kernel_rfl) (fun _ _ _ h => h) (Or.inl ⟨by rfl, ?_⟩) (by assumption) ?_
      rotate_left
      · intro w9 hSw
        (try dsimp only at hSw)
        go_simp
        all_goals (with_reducible rfl)
      try simp only [Act.put, List.setIfInBounds_toArray, List.set_cons_zero, List.set_cons_succ]
      refine wpAnyH_take (i := 2) (oi := (⟨_, _, _, _, _, _⟩ : Oper)) (v := ?_) rfl (by kernel_rfl) (by kernel_rfl) (by kernel_rfl) (fun _ _ _ h => h) (Or.inl ⟨by rfl, ?_⟩) (by assumption) ?_
      rotate_left
      · intro w9 hSw
        (try dsimp only at hSw)
        go_simp
        all_goals (with_reducible rfl)
      try simp only [Act.put, List.setIfInBounds_toArray, List.set_cons_zero, List.set_cons_succ]
      refine wpAnyH_take (i := 3) (oi := (⟨_, _, _, _, _, _⟩ : Oper)) (v := ?_) rfl (by kernel_rfl) (by kernel_rfl) (by kernel_rfl) (fun _ _ _ h => h) (Or.inl ⟨by rfl, ?_⟩) (by assumption) ?_
      rotate_left
      · intro w9 hSw
        (try dsimp only at hSw)
        go_simp
        all_goals (with_reducible rfl)
      try simp only [Act.put, List.setIfInBounds_toArray, List.set_cons_zero, List.set_cons_succ]
      refine wpAnyH_take (i := 4) (oi := (⟨_, _, _, _, _, _⟩ : Oper)) (v := ?_) rfl (by kernel_rfl) (by kernel_rfl) (by kernel_rfl) (fun _ _ _ h => h) (Or.inl ⟨by rfl, ?_⟩) (by assumption) ?_
      rotate_left
      · intro w9 hSw
        (try dsimp only at hSw)
        go_simp
        all_goals (with_reducible rfl)
      try simp only [Act.put, List.setIfInBounds_toArray, List.set_cons_zero, List.set_cons_succ]
      refine wpAnyH_take (i := 5) (oi := (⟨_, _, _, _, _, _⟩ : Oper)) (v := ?_) rfl (by kernel_rfl) (by kernel_rfl) (by kernel_rfl) (fun _ _ _ h => h) (Or.inl ⟨by rfl, ?_⟩) (by assumption) ?_
      rotate_left
      · intro w9 hSw
        (try dsimp only at hSw)
        go_simp
        all_goals (with_reducible rfl)
      try simp only [Act.put, List.setIfInBounds_toArray, List.set_cons_zero, List.set_cons_succ]
      refine wpAnyH_take (i := 6) (oi := (⟨_, _, _, _, _, _⟩ : Oper)) (v := ?_) rfl (by kernel_rfl) (by kernel_rfl) (by kernel_rfl) (fun _ _ _ h => h) (Or.inl ⟨by rfl, ?_⟩) (by assumption) ?_
      rotate_left
      · intro w9 hSw
        (try dsimp only at hSw)
        go_simp
        all_goals (with_reducible rfl)
      try simp only [Act.put, List.setIfInBounds_toArray, List.set_cons_zero, List.set_cons_succ]
      refine wpAnyH_take (i := 7) (oi := (⟨_, _, _, _, _, _⟩ : Oper)) (v := ?_) rfl (by kernel_rfl) (by kernel_rfl) (by kernel_rfl) (fun _ _ _ h => h) (Or.inl ⟨by rfl, ?_⟩) (by assumption) ?_
      rotate_left
      · intro w9 hSw
        (try dsimp only at hSw)
        go_simp
        all_goals (with_reducible rfl)
      try simp only [Act.put, List.setIfInBounds_toArray, List.set_cons_zero, List.set_cons_succ]
      refine wpAnyH_take (i := 8) (oi := (⟨_, _, _, _, _, _⟩ : Oper)) (v := ?_) rfl (by kernel_rfl) (by kernel_rfl) (by kernel_rfl) (fun _ _ _ h => h) (Or.inl ⟨by rfl, ?_⟩) (by assumption) ?_
      rotate_left
      · intro w9 hSw
        (try dsimp only at hSw)
        go_simp
        all_goals (with_reducible rfl)
      try simp only [Act.put, List.setIfInBounds_toArray, List.set_cons_zero, List.set_cons_succ]
      refine wpAnyH_take (i := 9) (oi := (⟨_, _, _, _, _, _⟩ : Oper)) (v := ?_) rfl (by kernel_rfl) (by kernel_rfl) (by kernel_rfl) (fun _ _ _ h => h) (Or.inl ⟨by rfl, ?_⟩) (by assumption) ?_
      rotate_left
      · intro w9 hSw
        (try dsimp only at hSw)
        go_simp
        all_goals (with_reducible rfl)
      try simp only [Act.put, List.setIfInBounds_toArray, List.set_cons_zero, List.set_cons_succ]
      refine wpAnyH_ready (rs := [1, 10]) (by kernel_rfl) (by simp) (AllReadyH.cons rfl (fun K hK => ?a1) (AllReadyH.cons rfl (fun K hK => ?a10) AllReadyH.nil))
      case a1 =>
        go_simp
        refine hK.out _ _ hHeld (fun hHeld9 => ?_)
        clear hK K hHeld
        have hHeld := hHeld9
        clear hHeld9
        refine wpAnyH_ready (rs := [10]) (by kernel_rfl) (by simp) (AllReadyH.cons rfl (fun K hK => ?_) AllReadyH.nil)
        go_simp
        refine hK.out _ _ hS2 (fun hHeld9 => ?_)
        clear hK K hHeld
        have hHeld := hHeld9
        clear hHeld9
        refine wpAnyH_ready (rs := [11]) (by kernel_rfl) (by simp) (AllReadyH.cons rfl (fun K hK => ?_) AllReadyH.nil)
        refine step_append_has _ rfl (.tmp 31) (.tmp 40) 31 rfl (fun k => W.heap.size + 1 < k) 63 i4 _ 1 8 Tryz.underlying31 t1 t2 t3 t4 rfl (.slice a4 j c4) j (wrd ((s.ws.map uw).take j)) (by simp [Act.eval]) hHa.out ⟨wr.heap.size, 0, none⟩ 1 1 [.int .u64 (IntKind.u64.wrap x)] (by simp [Act.eval]) rfl (newsAt wr.drew _ #[.int .u64 (IntKind.u64.wrap x)] 63 _ rfl rfl) (by simp [Value.oneCell']) (by omega) hM1 hM2 hSz ?_
        intro g cap' w1 hown hgrow hat
        obtain ⟨⟨y3, yf, yS⟩, F9, F8⟩ := FIN.out w1 g cap' hown hgrow
        clear hown hgrow hat FIN
        refine hK.out _ _ yS (fun hHeld9 => ?_)
        clear hK K hHeld
        have hHeld := hHeld9
        clear hHeld9
        refine wpAnyH_take (i := 12) (oi := (⟨_, _, _, _, _, _⟩ : Oper)) (v := ?_) rfl (by kernel_rfl) (by kernel_rfl) (by kernel_rfl) (fun _ _ _ h => h) (Or.inl ⟨by rfl, ?_⟩) (by assumption) ?_
        rotate_left
        · intro w9 hSw
          (try dsimp only at hSw)
          go_simp
          all_goals (with_reducible rfl)
        try simp only [Act.put, List.setIfInBounds_toArray, List.set_cons_zero, List.set_cons_succ]
        refine wpAnyH_ready (rs := [13]) (by kernel_rfl) (by simp) (AllReadyH.cons rfl (fun K hK => ?_) AllReadyH.nil)
        go_simp
        refine hK.out _ _ F8.out (fun _ => wpAnyH_done (by kernel_rfl) ?_ _)
        clear hK K hHeld F8 hS2 y3 yf yS u0 u1 u2 u3 uf d0 d1 d2 d3 df k2 kx x0 x1 x2 x3 xf
        simp only [Exit.inBlock, Exit.then]
        refine aK _ _ ?_
        clear hM1 hM2 hSz ltr hle4 jlt jlp hlt hjle lt2
        go_wp2
        go_roundg (gk - 1)
        case measure => exact hj1.out
        case rel => obtain ⟨x4, f1, f2, f3, f4⟩ := F9.out; exact ⟨j + 1, x4, by simp; exact u1', hj2.out, f1, f2, f3, f4⟩
      case a10 =>
        go_simp
        refine hK.out _ _ hS2 (fun hHeld9 => ?_)
        clear hK K hHeld
        have hHeld := hHeld9
        clear hHeld9
        refine wpAnyH_ready (rs := [1]) (by kernel_rfl) (by simp) (AllReadyH.cons rfl (fun K hK => ?_) AllReadyH.nil)
        go_simp
        refine hK.out _ _ hS2 (fun hHeld9 => ?_)
        clear hK K hHeld
        have hHeld := hHeld9
        clear hHeld9
        refine wpAnyH_ready (rs := [11]) (by kernel_rfl) (by simp) (AllReadyH.cons rfl (fun K hK => ?_) AllReadyH.nil)
        refine step_append_has _ rfl (.tmp 31) (.tmp 40) 31 rfl (fun k => W.heap.size + 1 < k) 63 i4 _ 1 8 Tryz.underlying31 t1 t2 t3 t4 rfl (.slice a4 j c4) j (wrd ((s.ws.map uw).take j)) (by simp [Act.eval]) hHa.out ⟨wr.heap.size, 0, none⟩ 1 1 [.int .u64 (IntKind.u64.wrap x)] (by simp [Act.eval]) rfl (newsAt wr.drew _ #[.int .u64 (IntKind.u64.wrap x)] 63 _ rfl rfl) (by simp [Value.oneCell']) (by omega) hM1 hM2 hSz ?_
        intro g cap' w1 hown hgrow hat
        obtain ⟨⟨y3, yf, yS⟩, F9, F8⟩ := FIN.out w1 g cap' hown hgrow
        clear hown hgrow hat FIN
        refine hK.out _ _ yS (fun hHeld9 => ?_)
        clear hK K hHeld
        have hHeld := hHeld9
        clear hHeld9
        refine wpAnyH_take (i := 12) (oi := (⟨_, _, _, _, _, _⟩ : Oper)) (v := ?_) rfl (by kernel_rfl) (by kernel_rfl) (by kernel_rfl) (fun _ _ _ h => h) (Or.inl ⟨by rfl, ?_⟩) (by assumption) ?_
        rotate_left
        · intro w9 hSw
          (try dsimp only at hSw)
          go_simp
          all_goals (with_reducible rfl)
        try simp only [Act.put, List.setIfInBounds_toArray, List.set_cons_zero, List.set_cons_succ]
        refine wpAnyH_ready (rs := [13]) (by kernel_rfl) (by simp) (AllReadyH.cons rfl (fun K hK => ?_) AllReadyH.nil)
        go_simp
        refine hK.out _ _ F8.out (fun _ => wpAnyH_done (by kernel_rfl) ?_ _)
        clear hK K hHeld F8 hS2 y3 yf yS u0 u1 u2 u3 uf d0 d1 d2 d3 df k2 kx x0 x1 x2 x3 xf
        simp only [Exit.inBlock, Exit.then]
        refine aK _ _ ?_
        clear hM1 hM2 hSz ltr hle4 jlt jlp hlt hjle lt2
        go_wp2
        go_roundg (gk - 1)
        case measure => exact hj1.out
        case rel => obtain ⟨x4, f1, f2, f3, f4⟩ := F9.out; exact ⟨j + 1, x4, by simp; exact u1', hj2.out, f1, f2, f3, f4⟩
    · obtain rfl : j = 2 + q.r := by omega
      rw [List.take_of_length_le (by rw [List.length_map]; omega)] at hH4
      obtain ⟨a4, c4, rfl, hle4⟩ := hH4.form
      obtain ⟨y0, y1, y2, y3, yf⟩ := hT.c0
      have ng : W.heap.size + 1 ≠ W.heap.size := by omega
      obtain ⟨W6, hW6⟩ : ∃ W6, (((wr.setCell ⟨W.heap.size, 0, none⟩ (.slice pv1 s.cls.length qv1)).setCell ⟨W.heap.size, 1, none⟩ (.slice pv2 s.lg.length qv2)).setCell ⟨W.heap.size, 2, none⟩ (.slice none 0 0)).setCell ⟨W.heap.size, 3, none⟩ (.slice a4 (2 + q.r) c4) = W6 := ⟨_, rfl⟩
      have hb6 : W6.heap[W.heap.size]? = some (.cells #[.slice pv1 s.cls.length qv1, .slice pv2 s.lg.length qv2, .slice none 0 0, .slice a4 (2 + q.r) c4] 33 (0, 0)) := by
        have ho := hT.o
        unfold rn4 at ho
        rw [← hW6, setBlk (setBlk (setBlk (setBlk ho 0 _) 1 _) 2 _) 3 _]
        rfl
      have ho6 : ∀ k, k ≠ W.heap.size → W6.heap[k]? = wr.heap[k]? := fun k hk => by
        rw [← hW6, Below.heap_setCell _ _ _ k hk, Below.heap_setCell _ _ _ k hk, Below.heap_setCell _ _ _ k hk, Below.heap_setCell _ _ _ k hk]
      have hB6 : Below W.heap.size W W6 := by
        rw [← hW6]
        exact (((hT.b.setCell (p := ⟨W.heap.size, 0, none⟩) (Nat.le_refl _) _).setCell (p := ⟨W.heap.size, 1, none⟩) (Nat.le_refl _) _).setCell (p := ⟨W.heap.size, 2, none⟩) (Nat.le_refl _) _).setCell (p := ⟨W.heap.size, 3, none⟩) (Nat.le_refl _) _
      have keep : ∀ {e size m : Nat} {v : Value} {xs : List Value}, Has wr (fun k => W.heap.size + 1 < k) e size v m xs → Has W6 (fun k => W.heap.size ≤ k) e size v m xs := fun {e size m v xs} hh =>
        hh.kept (fun k hk => ho6 k (fun e' => by have := (hh.lt k hk).1; omega)) (fun k hk => by have := (hh.lt k hk).1; omega)
      have r1 := keep hH1
      have r2 := keep hH2
      have r4 := keep hH4
      have d0 : W6.cell? ⟨W.heap.size, 0, none⟩ = some (.slice pv1 s.cls.length qv1) := cellR hb6 0
      have d1 : W6.cell? ⟨W.heap.size, 1, none⟩ = some (.slice pv2 s.lg.length qv2) := cellR hb6 1
      have d2 : W6.cell? ⟨W.heap.size, 2, none⟩ = some (.slice none 0 0) := cellR hb6 2
      have d3 : W6.cell? ⟨W.heap.size, 3, none⟩ = some (.slice a4 (2 + q.r) c4) := cellR hb6 3
      clear hb6 ho6 keep ng hj hwn e1 e2 n1 n2 m1 m2 o1 o2 hH1 hH2 hH4 hT hle4 ltr
      replace r1 := Mr.hid r1
      replace r2 := Mr.hid r2
      replace r4 := Mr.hid r4
      replace hW6 := Mr.hid hW6
      replace hB6 := Mr.hid hB6
      go_wp2
      rw [hW6.out]
      refine bodyPost_ret (v := runV (.slice pv1 s.cls.length qv1) (.slice pv2 s.lg.length qv2) (.slice none 0 0) (.slice a4 (2 + q.r) c4)) (by simp [results, Tryz.results15, go_sem, d0, d1, d2, d3, runV]) rfl ?_
      exact ⟨_, _, _, rfl, r1.out, r2.out, r4.out, hB6.out⟩

end
end Go.Proofs.YtnapnhmmopajfaaGreat.Rd
/-
  THE DOCUMENT's DEQUE: New (made by mk_rdnew.py).
-/
namespace Go.Proofs.YtnapnhmmopajfaaGreat.Rd
open Go.RowKit Mr Me Ma Gm Dm
set_option linter.unusedVariables false
set_option linter.unusedSimpArgs false
theorem info_intR : (Tryz.prog.info? 3).map (fun i => (i.zero, i.size, i.bytes)) = some (some (.int .i64 0), 1, 8) := by kernel_rfl
theorem info_thR : (Tryz.prog.info? 50).map (fun i => (i.zero, i.size, i.bytes)) = some (some (.agg #[.int .i64 0, .int .i64 0, .int .i64 0, .int .i64 0, .int .i64 0]), 5, 40) := by kernel_rfl
theorem mk_i (n : Nat) (h1 : n ≤ 65536) (W : World) :
    (Instr.makeSlice 51 (.int .i64 (n : Int)) (.int .i64 (n : Int))).run Tryz.prog W = .ok (.slice (some ⟨W.heap.size, 0, none⟩) n n) (W.alloc (.cells (madeCells #[.int .i64 0] n) 3)) := by
  obtain ⟨i0, hi, hz0, hz1, hz2⟩ := info_parts info_intR
  have h := run_make (P := Tryz.prog) W 51 3 i0 (.int .i64 0) Tryz.underlying51 hi hz0 .i64 .i64 (n : Int) (n : Int) (by omega) (Int.le_refl _) (by rw [hz2]; omega) (by omega)
  rw [hz1, Nat.mul_one, Int.toNat_natCast] at h
  exact h
theorem made_i (n : Nat) : (madeCells #[Value.int .i64 0] n).toList = nums (List.replicate n 0) := by
  apply List.ext_getElem?
  intro j
  by_cases hj : j < n
  · have hs : j < (madeCells #[Value.int .i64 0] n).size := by rw [size_madeCells]; exact hj
    rw [Array.getElem?_toList, Array.getElem?_eq_getElem hs]
    simp [madeCells, Nat.mod_one, nums, hj]
  · rw [Array.getElem?_toList, Array.getElem?_eq_none (by rw [size_madeCells]; omega), List.getElem?_eq_none (by simp [nums]; omega)]
theorem has_made (W : World) (S : Nat → Prop) (hS : S W.heap.size) (n : Nat) (hn : n ≤ 65536) : Has (W.alloc (.cells (madeCells #[.int .i64 0] n) 3)) S 3 1 (.slice (some ⟨W.heap.size, 0, none⟩) n n) n (nums (List.replicate n 0)) := by
  refine ⟨by simp [nums], .inr ⟨_, _, _, rfl, hS, heap_alloc_new W _, Nat.le_refl _, by unfold maxLen; omega, by rw [size_madeCells]; omega, ?_⟩⟩
  rw [made_i, List.take_of_length_le (by simp [nums])]
def zT : Rt := ⟨-1, 0, 0, 0, 0⟩
def mO (nt r n : Nat) (gw : Nat) (vA : Value) : Obj := .cells #[.int .i64 (nt : Int), .int .i64 (r : Int), .slice (some ⟨gw, 0, none⟩) n n, vA, .slice none 0 0, .slice none 0 0, .int .i64 0, .int .i64 (-1), .int .i64 0] 54 (0, 0)
/-- New's world: the box of d, the words, the machine, its threads so far. -/
structure Nw (w : World) (nt r n : Nat) (vA : Value) (j : Nat) (W : World) : Prop where
  b : Below w.heap.size w W
  d : W.heap[w.heap.size]? = some (dBox nt r)
  wd : Has W (fun k => k = w.heap.size + 1) 3 1 (.slice (some ⟨w.heap.size + 1, 0, none⟩) n n) n (nums (List.replicate n 0))
  m : W.heap[w.heap.size + 2]? = some (mO nt r n (w.heap.size + 1) vA)
  th : Has W (fun k => w.heap.size + 2 < k) 50 5 vA j ((List.replicate j zT).flatMap Rt.cells)
theorem Nw.lt {w W : World} {nt r n j : Nat} {vA : Value} (h : Nw w nt r n vA j W) : w.heap.size + 2 < W.heap.size := (Array.getElem?_eq_some_iff.1 h.m).1
theorem Nw.c {w W : World} {nt r n j : Nat} {vA : Value} (h : Nw w nt r n vA j W) : W.cell? ⟨w.heap.size, 0, none⟩ = some (.int .i64 (nt : Int)) ∧ W.cell? ⟨w.heap.size + 2, 3, none⟩ = some vA ∧ W.frozen? ⟨w.heap.size + 2, 3, none⟩ = false :=
  ⟨cellR h.d 0, cellR h.m 3, frozR h.m 3⟩
theorem rep_snoc (j : Nat) : (List.replicate (j + 1) zT).flatMap Rt.cells = (List.replicate j zT).flatMap Rt.cells ++ zT.cells := by
  rw [List.replicate_succ', List.flatMap_append]; simp
theorem Nw.grow {w W w1 : World} {nt r n j : Nat} {vA : Value} (h : Nw w nt r n vA j W) {o : Obj} {g cap : Nat} (hown : Has w1 (fun k => w.heap.size + 2 < k) 50 5 (.slice (some ⟨g, 0, none⟩) (j + 1) cap) (j + 1) ((List.replicate j zT).flatMap Rt.cells ++ zT.cells)) (hgrow : (W.alloc o).grownBy w1 vA.ownBlock) :
    Nw w nt r n (.slice (some ⟨g, 0, none⟩) (j + 1) cap) (j + 1) (w1.setCell ⟨w.heap.size + 2, 3, none⟩ (.slice (some ⟨g, 0, none⟩) (j + 1) cap)) ∧ w1.cell? ⟨w.heap.size + 2, 3, none⟩ = some vA ∧ w1.frozen? ⟨w.heap.size + 2, 3, none⟩ = false := by
  have hl := h.lt
  have hr : ∀ k, vA.ownBlock = some k → w.heap.size + 2 < k := fun k hk => (h.th.lt k hk).1
  have ha : ∀ k, k ≤ w.heap.size + 2 → w1.heap[k]? = W.heap[k]? := fun k hk => (hgrow.block k (by simp; omega) (fun e => by have := hr k e.symm; omega)).trans (Below.heap_alloc _ _ _ (by omega))
  have hm := (ha _ (Nat.le_refl _)).trans h.m
  have hb1 : Below w.heap.size w w1 := (h.b.alloc (by omega) o).grown hgrow (by simp; omega) (fun k hk => by have := hr k hk; omega)
  refine ⟨⟨hb1.setCell (p := ⟨w.heap.size + 2, 3, none⟩) (by show w.heap.size ≤ w.heap.size + 2; omega) _, ?_, ?_, ?_, ?_⟩, cellR hm 3, frozR hm 3⟩
  · exact (Below.heap_setCell _ _ _ _ (by show w.heap.size ≠ w.heap.size + 2; omega)).trans ((ha _ (by omega)).trans h.d)
  · refine (h.wd.kept (fun k hk => ?_) (fun k hk => (h.wd.lt k hk).1))
    obtain rfl := (h.wd.lt k hk).1
    exact (Below.heap_setCell _ _ _ _ (by show w.heap.size + 1 ≠ w.heap.size + 2; omega)).trans (ha _ (by omega))
  · unfold mO at hm ⊢
    rw [setBlk hm]; rfl
  · rw [rep_snoc]
    exact hown.setCell _ _ (fun e => by have := (hown.lt _ e).1; simp at this)
theorem Nw.done {w W : World} {nt r : Nat} {vA : Value} (h : Nw w nt r (2 + r) vA nt W) (h1 : 1 ≤ nt) : ∃ (q : Rc) (s : Rs), q.b = w.heap.size + 2 ∧ q.nt = nt ∧ q.r = r ∧ OutR w (fun _ => False) q s W ∧ s.n = 0 ∧ Sm (P0 nt r) s := by
  obtain ⟨gt, ct, hv, hgt, _⟩ := h.th.there (by omega)
  subst hv
  have hl := h.lt
  refine ⟨⟨w.heap.size + 2, nt, r, w.heap.size + 1, 2 + r, gt, ct⟩, ⟨List.replicate (2 + r) 0, List.replicate nt zT, [], [], 0, -1, 0⟩, rfl, rfl, rfl, ⟨.slice none 0 0, .slice none 0 0, fun k => w.heap.size ≤ k ∧ k < W.heap.size, ⟨h.m, ?_, by simp, ?_, by simp, Has.nil _ _ _ _, Has.nil _ _ _ _, ⟨by show w.heap.size ≤ w.heap.size + 2; omega, hl⟩, fun k hk => hk.2⟩, fun k hk => hk.elim, fun k hk => .inr hk.1, ⟨h.b.os, h.b.tape, h.b.output, h.b.size, fun k hk _ => h.b.block k hk⟩⟩, rfl, ?_⟩
  · exact h.wd.kept (fun _ _ => rfl) (fun k hk => by have := h.wd.lt k hk; omega)
  · exact h.th.kept (fun _ _ => rfl) (fun k hk => by have := h.th.lt k hk; omega)
  · refine ⟨?_, ?_, rfl, rfl, rfl, ?_, ?_⟩
    · show List.replicate (2 + r) 0 = (List.replicate (2 + r) 0).map wrap64
      rw [List.map_replicate]
      have : wrap64 0 = 0 := by unfold wrap64; omega
      rw [this]
    · intro a x hx
      have hx' : (List.replicate (2 + r) (0 : Int))[a]? = some x := hx
      rw [List.getElem?_replicate] at hx'
      split at hx'
      · obtain rfl := Option.some.inj hx'; exact ⟨by omega, by omega⟩
      · cases hx'
    · show (List.replicate nt zT).length = (List.replicate nt _).length
      rw [List.length_replicate, List.length_replicate]
    · intro i t ht
      have ht' : (List.replicate nt (⟨none, false, -1, 0, 0⟩ : Pt Dt))[i]? = some t := ht
      rw [List.getElem?_replicate] at ht'
      split at ht'
      · rename_i hi
        obtain rfl := Option.some.inj ht'
        exact ⟨zT, by show (List.replicate nt zT)[i]? = _; rw [List.getElem?_replicate, if_pos hi], rfl⟩
      · cases ht'
set_option maxRecDepth 100000 in
set_option maxHeartbeats 4000000 in
theorem New_r (w : World) (nt r : Nat) (h1 : 1 ≤ nt) (h2 : nt ≤ 16) (h3 : 1 ≤ r) (h4 : r ≤ 256) : Calls Tryz.prog 10 #[.agg #[.int .i64 (nt : Int), .int .i64 (r : Int)]] w fun e w' => ∃ (q : Rc) (s : Rs), e = .returned (.pointer (some ⟨q.b, 0, none⟩)) ∧ q.nt = nt ∧ q.r = r ∧ OutR w (fun _ => False) q s w' ∧ s.n = 0 ∧ Sm (P0 nt r) s := by
  obtain ⟨i0, hi0, hz0, hz1, hz2⟩ := info_parts info_thR
  obtain ⟨n, hn⟩ : ∃ n, 2 + r = n := ⟨_, rfl⟩
  have hn6 : n ≤ 65536 := by omega
  have MK := mk_i n hn6
  have e2 : IntKind.i64.wrap (2 + (r : Int)) = (n : Int) := by rw [← hn]; simp [IntKind.wrap, IntKind.signed, IntKind.bits]; omega
  obtain ⟨W0, hW0⟩ : ∃ W0, w.alloc (dBox nt r) = W0 := ⟨_, rfl⟩
  have s0 : W0.heap.size = w.heap.size + 1 := by rw [← hW0]; simp
  have g0 : W0.heap[w.heap.size]? = some (dBox nt r) := by rw [← hW0]; exact heap_alloc_new w _
  have y0 : W0.cell? ⟨w.heap.size, 0, none⟩ = some (.int .i64 (nt : Int)) := cell_at g0 0
  have y1 : W0.cell? ⟨w.heap.size, 1, none⟩ = some (.int .i64 (r : Int)) := cell_at g0 1
  obtain ⟨W1, hW1⟩ : ∃ W1, W0.drew.alloc (.cells (madeCells #[.int .i64 0] n) 3) = W1 := ⟨_, rfl⟩
  have s1 : W1.heap.size = w.heap.size + 2 := by rw [← hW1]; simp [s0]
  have k0 : W1.heap[w.heap.size]? = some (dBox nt r) := by rw [← hW1]; exact (Below.heap_alloc _ _ _ (by simp; omega)).trans g0
  have hS1 : W1.cell? ⟨w.heap.size, 0, none⟩ = some (.int .i64 (nt : Int)) ∧ W1.cell? ⟨w.heap.size, 1, none⟩ = some (.int .i64 (r : Int)) := ⟨cell_at k0 0, cell_at k0 1⟩
  obtain ⟨W2, hW2⟩ : ∃ W2, W1.alloc (.cells #[.int .i64 (nt : Int), .int .i64 (r : Int), .slice (some ⟨w.heap.size + 1, 0, none⟩) n n, .slice none 0 0, .slice none 0 0, .slice none 0 0, .int .i64 0, .int .i64 (-1), .int .i64 0] 54) = W2 := ⟨_, rfl⟩
  have N2 : Nw w nt r n (.slice none 0 0) 0 W2 := by
    have hb : Below w.heap.size w W2 := by
      rw [← hW2, ← hW1, ← hW0]
      exact ((((Below.refl _ _).alloc (Nat.le_refl _) _).drew).alloc (by simp) _).alloc (by simp; omega) _
    have hm : W1.heap[w.heap.size + 1]? = some (.cells (madeCells #[.int .i64 0] n) 3 (0, 0)) := by
      rw [← hW1, ← s0]; exact heap_alloc_new W0.drew _
    refine ⟨hb, by rw [← hW2]; exact (Below.heap_alloc _ _ _ (by omega)).trans k0, ?_, by rw [← hW2, ← s1]; have := heap_alloc_new W1 (mO nt r n (w.heap.size + 1) (.slice none 0 0)); rw [s1] at this ⊢; exact this, by simpa using Has.nil _ _ _ _⟩
    have hh := has_made W0.drew (fun k => k = w.heap.size + 1) (by show W0.heap.size = _; exact s0) n hn6
    rw [hW1] at hh
    have hh2 := hh.alloc (.cells #[.int .i64 (nt : Int), .int .i64 (r : Int), .slice (some ⟨w.heap.size + 1, 0, none⟩) n n, .slice none 0 0, .slice none 0 0, .slice none 0 0, .int .i64 0, .int .i64 (-1), .int .i64 0] 54)
    rw [hW2] at hh2
    have e : W0.drew.heap.size = w.heap.size + 1 := s0
    rw [e] at hh2
    exact hh2
  have hS2 : W2.cell? ⟨w.heap.size, 0, none⟩ = some (.int .i64 (nt : Int)) ∧ W2.cell? ⟨w.heap.size, 1, none⟩ = some (.int .i64 (r : Int)) := ⟨cell_at N2.d 0, cell_at N2.d 1⟩
  have FIN := Mr.hid (fun (vA : Value) (W : World) (h : Nw w nt r n vA nt W) => Nw.done (hn ▸ h) h1)
  have MKd := MK W0.drew
  have ez : W0.drew.heap.size = w.heap.size + 1 := s0
  rw [ez] at MKd
  rw [hW1] at MKd
  replace N2 := Mr.hid N2
  replace hn := Mr.hid hn
  replace hW1 := Mr.hid hW1
  replace hW2 := Mr.hid hW2
  replace s0 := Mr.hid s0
  replace ez := Mr.hid ez
  clear MK g0 k0 h3
  unfold dBox at hW0
  go_enter Tryz.func10, Tryz.ntmps10
  go_wp2
  refine wp_region_held_drew (S := (fun w' => w'.cell? ⟨w.heap.size, 0, none⟩ = some (.int .i64 (nt : Int)) ∧ w'.cell? ⟨w.heap.size, 1, none⟩ = some (.int .i64 (r : Int)))) (by kernel_rfl) ⟨y0, y1⟩ (fun hHeld => ?_)
  try simp only [Act.put, List.setIfInBounds_toArray, List.set_cons_zero, List.set_cons_succ]
  refine wpAnyH_take (i := 0) (oi := (⟨_, _, _, _, _, _⟩ : Oper)) (v := ?_) rfl (by kernel_rfl) (by kernel_rfl) (by kernel_rfl) (fun _ _ _ h => h) (Or.inl ⟨by rfl, ?_⟩) (by assumption) ?_
  rotate_left
  · intro w9 hSw
    (try dsimp only at hSw)
    go_simp
    all_goals (with_reducible rfl)
  try simp only [Act.put, List.setIfInBounds_toArray, List.set_cons_zero, List.set_cons_succ]
  refine wpAnyH_take (i := 1) (oi := (⟨_, _, _, _, _, _⟩ : Oper)) (v := ?_) rfl (by kernel_rfl) (by kernel_rfl) (by kernel_rfl) (fun _ _ _ h => h) (Or.inl ⟨by rfl, ?_⟩) (by assumption) ?_
  rotate_left
  · intro w9 hSw
    (try dsimp only at hSw)
    go_simp
    all_goals (with_reducible rfl)
  try simp only [Act.put, List.setIfInBounds_toArray, List.set_cons_zero, List.set_cons_succ]
  refine wpAnyH_take (i := 2) (oi := (⟨_, _, _, _, _, _⟩ : Oper)) (v := ?_) rfl (by kernel_rfl) (by kernel_rfl) (by kernel_rfl) (fun _ _ _ h => h) (Or.inl ⟨by rfl, ?_⟩) (by assumption) ?_
  rotate_left
  · intro w9 hSw
    (try dsimp only at hSw)
    go_simp
    all_goals (with_reducible rfl)
  try simp only [Act.put, List.setIfInBounds_toArray, List.set_cons_zero, List.set_cons_succ]
  refine wpAnyH_take (i := 3) (oi := (⟨_, _, _, _, _, _⟩ : Oper)) (v := ?_) rfl (by kernel_rfl) (by kernel_rfl) (by kernel_rfl) (fun _ _ _ h => h) (Or.inl ⟨by rfl, ?_⟩) (by assumption) ?_
  rotate_left
  · intro w9 hSw
    (try dsimp only at hSw)
    go_simp
    all_goals (with_reducible rfl)
  try simp only [Act.put, List.setIfInBounds_toArray, List.set_cons_zero, List.set_cons_succ]
  refine wpAnyH_ready (rs := [4]) (by kernel_rfl) (by simp) (AllReadyH.cons rfl (fun K hK => ?_) AllReadyH.nil)
  go_simp
  refine hK.out _ _ hS1 (fun hHeld9 => ?_)
  clear hK K hHeld
  have hHeld := hHeld9
  clear hHeld9
  refine wpAnyH_take (i := 5) (oi := (⟨_, _, _, _, _, _⟩ : Oper)) (v := ?_) rfl (by kernel_rfl) (by kernel_rfl) (by kernel_rfl) (fun _ _ _ h => h) (Or.inl ⟨by rfl, ?_⟩) (by assumption) ?_
  rotate_left
  · intro w9 hSw
    (try dsimp only at hSw)
    go_simp
    all_goals (with_reducible rfl)
  try simp only [Act.put, List.setIfInBounds_toArray, List.set_cons_zero, List.set_cons_succ]
  refine wpAnyH_ready (rs := [6]) (by kernel_rfl) (by simp) (AllReadyH.cons rfl (fun K hK => ?_) AllReadyH.nil)
  go_simp
  rw [hW2.out]
  refine hK.out _ _ hS2 (fun hHeld9 => ?_)
  clear hK K hHeld
  have hHeld := hHeld9
  clear hHeld9
  refine wpAnyH_take (i := 7) (oi := (⟨_, _, _, _, _, _⟩ : Oper)) (v := ?_) rfl (by kernel_rfl) (by kernel_rfl) (by kernel_rfl) (fun _ _ _ h => h) (Or.inl ⟨by rfl, ?_⟩) (by assumption) ?_
  rotate_left
  · intro w9 hSw
    (try dsimp only at hSw)
    go_simp
    all_goals (with_reducible rfl)
  try simp only [Act.put, List.setIfInBounds_toArray, List.set_cons_zero, List.set_cons_succ]
  refine wpAnyH_done (by kernel_rfl) ?_ _
  clear hHeld hS1 hS2 MKd y0 y1 hW0 s1
  go_wp2
  go_loopg [4] nt (fun k s' wr => ∃ (j : Nat) (vA : Value), s' = .int .i64 (j : Int) ∧ j + k = nt ∧ Nw w nt r n vA j wr)
  case atStart => exact ⟨0, _, rfl, by omega, N2.out⟩
  case round =>
    obtain ⟨j, vA, rfl, hj, hN⟩ := hrel
    clear N2
    obtain ⟨c0, c3, f3⟩ := hN.c
    have hl := hN.lt
    by_cases hlt : j < nt
    · have hj1 : gk - 1 < gk := by omega
      have hj2 : j + 1 + (gk - 1) = nt := by omega
      have hM1 := Mr.hid (show j + 1 ≤ maxLen by unfold maxLen; omega)
      have hjb : j ≤ 16 := by omega
      have hM2 := Mr.hid (show ((j + 1) + (j + 1) / 4 + 192) * 40 ≤ 281474976710656 by omega)
      have hSz : ∀ o, w.heap.size + 2 < (wr.alloc o).heap.size := fun o => by simp; omega
      have hTh := hN.th
      obtain ⟨aA, cA, rfl, hle⟩ := hTh.form
      have u1 : wrap64 ((j : Int) + 1) = (j : Int) + 1 := w64s _ (by omega) (by omega)
      have GR := Mr.hid (fun (o : Obj) (w1 : World) (g cap : Nat) (hown : Has w1 (fun k => w.heap.size + 2 < k) 50 5 (.slice (some ⟨g, 0, none⟩) (j + 1) cap) (j + 1) ((List.replicate j zT).flatMap Rt.cells ++ zT.cells)) (hgrow : (wr.alloc o).grownBy w1 (Value.slice aA j cA).ownBlock) => hN.grow hown hgrow)
      replace hSz := Mr.hid hSz
      replace hTh := Mr.hid hTh
      replace hj1 := Mr.hid hj1
      replace hj2 := Mr.hid hj2
      replace hN := Mr.hid hN
      replace hj := Mr.hid hj
      go_wp2_with (at_builtin; refine wpList_append_has _ rfl _ _ 52 rfl (fun k => w.heap.size + 2 < k) 50 i0 _ 5 40 Tryz.underlying52 hi0 hz0 hz1 hz2 rfl (.slice aA j cA) j ((List.replicate j zT).flatMap Rt.cells) (by simp [Act.eval]) (hTh.out.alloc _) ⟨wr.heap.size, 0, none⟩ 1 1 [.int .i64 (-1), .int .i64 0, .int .i64 0, .int .i64 0, .int .i64 0] (by simp [Act.eval]) rfl (newsAt wr _ #[.int .i64 (-1), .int .i64 0, .int .i64 0, .int .i64 0, .int .i64 0] 50 _ rfl rfl) (by simp [Value.oneCell']) (by decide) hM1.out hM2.out (hSz.out _) ?_; intro g2 cap2 w3 hh3 hgr hgg; obtain ⟨F1, d3, df⟩ := GR.out _ w3 g2 cap2 hh3 hgr; clear hh3 hgr hgg GR c0 c3 f3; replace F1 := Mr.hid F1; clear hl hle hjb hlt hn6 e2)
      go_roundg (gk - 1)
      case measure => exact hj1.out
      case rel => exact ⟨j + 1, _, by simp; exact u1, hj2.out, F1.out⟩
    · obtain rfl : j = nt := by omega
      have F := FIN.out _ _ hN
      obtain ⟨q, s, q1, q2, q3, q4, q5, q6⟩ := F
      replace q4 := Mr.hid q4
      replace q6 := Mr.hid q6
      replace hN := Mr.hid hN
      clear FIN hj hl
      go_wp2
      go_ret
      exact ⟨q, s, (by show Ending.returned (Value.pointer (some ⟨w.heap.size + 2, 0, none⟩)) = _; rw [q1]), q2, q3, q4.out, q5, q6.out⟩
end Go.Proofs.YtnapnhmmopajfaaGreat.Rd
