import Derived.Test.YtnbibkohgppjnaaGreatJ16
import Derived.Test.YtnbibkohgppjnaaGreatJ04
set_option linter.unusedVariables false
set_option linter.unusedSimpArgs false
namespace Go.Proofs.YtnbibkohgppjnaaGreat.Md
open Go.RowKit Mr
set_option maxHeartbeats 2000000 in
theorem only_any (k : Int) (w : World) : Calls Tryz.prog 138 #[.int .i64 k] w fun e w' => e = .returned (ans k 0) ∧ Below w.heap.size w w' := by
 go_enter Tryz.func138, Tryz.ntmps138
 go_wp2
 refine bodyPost_ret (v := ans k 0) (by simp [results, Tryz.results138, go_sem, ans]) rfl ?_
 exact ⟨rfl, (Below.refl _ _).alloc (Nat.le_refl _) _⟩
set_option maxHeartbeats 2000000 in
theorem valueM_any (k : Int) (w : World) : Calls Tryz.prog 139 #[.int .i64 k] w fun e w' => e = .returned (ans 2 k) ∧ Below w.heap.size w w' := by
 go_enter Tryz.func139, Tryz.ntmps139
 go_wp2
 refine bodyPost_ret (v := ans 2 k) (by simp [results, Tryz.results139, go_sem, ans]) rfl ?_
 exact ⟨rfl, (Below.refl _ _).alloc (Nat.le_refl _) _⟩
theorem ans_set {w : World} {b : Nat} (h : w.heap[b]? = some (.cells #[.int .i64 0, .int .i64 0] 43 (0, 0))) (k v : Int) : w.cell? ⟨b, 0, none⟩ = some (.int .i64 0) ∧ w.cell? ⟨b, 1, none⟩ = some (.int .i64 0) ∧ w.frozen? ⟨b, 0, none⟩ = false ∧ w.frozen? ⟨b, 1, none⟩ = false ∧ b < w.heap.size ∧
  ((w.setCell ⟨b, 0, none⟩ (.int .i64 k)).setCell ⟨b, 1, none⟩ (.int .i64 v)).cell? ⟨b, 0, none⟩ = some (.int .i64 k) ∧ ((w.setCell ⟨b, 0, none⟩ (.int .i64 k)).setCell ⟨b, 1, none⟩ (.int .i64 v)).cell? ⟨b, 1, none⟩ = some (.int .i64 v) := by
 have h2 := setBlk (setBlk h 0 (.int .i64 k)) 1 (.int .i64 v)
 exact ⟨cell_blk h 0, cell_blk h 1, by simp [World.frozen?, h], by simp [World.frozen?, h], (Array.getElem?_eq_some_iff.1 h).1, cell_blk h2 0, cell_blk h2 1⟩
theorem ans_below {n : Nat} {a w : World} {b : Nat} (h : Below n a w) (hb : n ≤ b) (k v : Int) : Below n a ((w.setCell ⟨b, 0, none⟩ (.int .i64 k)).setCell ⟨b, 1, none⟩ (.int .i64 v)) := (h.setCell (p := ⟨b, 0, none⟩) hb _).setCell (p := ⟨b, 1, none⟩) hb _
set_option maxHeartbeats 2000000 in
theorem whether_any (b : Bool) (w : World) : Calls Tryz.prog 147 #[.bool b] w fun e w' => e = .returned (ans (if b then 5 else 6) 0) ∧ Below w.heap.size w w' := by
 have bx := heap_alloc_new w (.cells #[.int .i64 0, .int .i64 0] 43 (0, 0))
 have B0 := (Below.refl w.heap.size w).alloc (Nat.le_refl _) (.cells #[.int .i64 0, .int .i64 0] 43 (0, 0))
 have K := fun (w1 : World) (k : Int) (hB : Below (w.alloc (.cells #[.int .i64 0, .int .i64 0] 43 (0, 0))).heap.size (w.alloc (.cells #[.int .i64 0, .int .i64 0] 43 (0, 0))) w1) => (⟨ans_set ((hB.block w.heap.size (by simp)).trans bx) k 0, ans_below (B0.trans (hB.mono (by simp))) (Nat.le_refl w.heap.size) k 0⟩ : _ ∧ _)
 clear bx B0
 replace K := Mr.hid K
 cases b with
 | false =>
  go_enter Tryz.func147, Tryz.ntmps147
  go_wp2_with (go_at_call 138; refine (only_any 6 _).mono ?_; rintro e w1 ⟨rfl, hB⟩; unfold ans; obtain ⟨⟨c0, c1, f0, f1, l1, d0, d1⟩, hE⟩ := K.out w1 6 hB; clear K hB; replace hE := Mr.hid hE)
  refine bodyPost_ret (v := ans 6 0) (by simp [results, Tryz.results147, go_sem, ans, d0, d1]) rfl ?_
  exact ⟨rfl, hE.out⟩
 | true =>
  go_enter Tryz.func147, Tryz.ntmps147
  go_wp2_with (go_at_call 138; refine (only_any 5 _).mono ?_; rintro e w1 ⟨rfl, hB⟩; unfold ans; obtain ⟨⟨c0, c1, f0, f1, l1, d0, d1⟩, hE⟩ := K.out w1 5 hB; clear K hB; replace hE := Mr.hid hE)
  refine bodyPost_ret (v := ans 5 0) (by simp [results, Tryz.results147, go_sem, ans, d0, d1]) rfl ?_
  exact ⟨rfl, hE.out⟩
theorem far1 (w : World) (b i : Nat) (v : Value) (g o : Nat) (h : g ≠ b) : (w.setCell ⟨b, i, none⟩ v).cell? ⟨g, o, none⟩ = w.cell? ⟨g, o, none⟩ := by
 have e := Below.heap_setCell w ⟨b, i, none⟩ v g h
 unfold World.cell?
 simp only [e]
theorem far2 (w : World) (b : Nat) (u v : Value) (g o : Nat) (h : g ≠ b) : ((w.setCell ⟨b, 0, none⟩ u).setCell ⟨b, 1, none⟩ v).cell? ⟨g, o, none⟩ = w.cell? ⟨g, o, none⟩ := (far1 _ b 1 v g o h).trans (far1 w b 0 u g o h)
theorem nine_cells {W : World} {b : Nat} {v0 v1 v2 v3 v4 v5 v6 v7 v8 : Value} {t : TypeId} (h : W.heap[b]? = some (.cells #[v0, v1, v2, v3, v4, v5, v6, v7, v8] t (0, 0))) : W.cell? ⟨b, 1, none⟩ = some v1 ∧ W.cell? ⟨b, 2, none⟩ = some v2 ∧ W.cell? ⟨b, 3, none⟩ = some v3 ∧ b < W.heap.size :=
 ⟨by simp [World.cell?, h], by simp [World.cell?, h], by simp [World.cell?, h], (Array.getElem?_eq_some_iff.1 h).1⟩
set_option maxRecDepth 100000 in
set_option maxHeartbeats 2000000 in
theorem ans_cell {W : World} {S : Nat → Prop} {g : Nat} {l : List Int} (ho : Ob W S g 171 3 1 l.length (ints l)) (th op arg data beg fin pt ak av : Int) (p : Int × Int) (hp : p = if op = 22 then (1, 0) else top l) :
  Calls Tryz.prog 136 #[.pointer (some ⟨g, 0, none⟩), .agg #[.int .i64 th, .int .i64 op, .int .i64 arg, .int .i64 data, .int .i64 beg, .int .i64 fin, .int .i64 pt, .int .i64 ak, .int .i64 av]] W fun e w' => e = .returned (ans p.1 p.2) ∧ Below W.heap.size W w' := by
 obtain ⟨v, hS, hg, hO⟩ := ho
 have hgl := (Array.getElem?_eq_some_iff.1 hg).1
 have hT0 := Tq.new W (.cells #[.int .i64 th, .int .i64 op, .int .i64 arg, .int .i64 data, .int .i64 beg, .int .i64 fin, .int .i64 pt, .int .i64 ak, .int .i64 av] 45 (0, 0)) (.cells #[.int .i64 0, .int .i64 0] 43 (0, 0))
 obtain ⟨k1, k2, k3, k4⟩ := nine_cells hT0.2.1
 have cg : ((W.alloc (.cells #[.int .i64 th, .int .i64 op, .int .i64 arg, .int .i64 data, .int .i64 beg, .int .i64 fin, .int .i64 pt, .int .i64 ak, .int .i64 av] 45 (0, 0))).alloc (.cells #[.int .i64 0, .int .i64 0] 43 (0, 0))).cell? ⟨g, 0, none⟩ = some v := cell_blk (old_at (old_at hg _) _) 0
 have K := fun (w1 : World) (k v : Int) (hB : Below ((W.alloc (.cells #[.int .i64 th, .int .i64 op, .int .i64 arg, .int .i64 data, .int .i64 beg, .int .i64 fin, .int .i64 pt, .int .i64 ak, .int .i64 av] 45 (0, 0))).alloc (.cells #[.int .i64 0, .int .i64 0] 43 (0, 0))).heap.size ((W.alloc (.cells #[.int .i64 th, .int .i64 op, .int .i64 arg, .int .i64 data, .int .i64 beg, .int .i64 fin, .int .i64 pt, .int .i64 ak, .int .i64 av] 45 (0, 0))).alloc (.cells #[.int .i64 0, .int .i64 0] 43 (0, 0))) w1) => (⟨ans_set ((hT0.below hB).2.2.1) k v, ans_below (hT0.below hB).1 (by omega : W.heap.size ≤ W.heap.size + 1) k v⟩ : _ ∧ _)
 replace K := Mr.hid K
 by_cases h : op = 22
 ·rw [if_pos h] at hp
  subst hp
  have d1 : (op == 22) = true := by simpa using h
  subst h
  clear hO hg hT0 cg
  go_enter Tryz.func136, Tryz.ntmps136
  go_wp2_with (go_at_call 138; refine (only_any 1 _).mono ?_; rintro e w1 ⟨rfl, hB⟩; unfold ans; obtain ⟨⟨c0, c1, f0, f1, l1, d0, d1⟩, hE⟩ := K.out w1 1 0 hB; clear K hB; replace hE := Mr.hid hE)
  refine bodyPost_ret (v := ans 1 0) (by simp [results, Tryz.results136, go_sem, ans, d0, d1]) rfl ?_
  exact ⟨rfl, hE.out⟩
 ·rw [if_neg h] at hp
  have d1 : (op == 22) = false := by simpa using h
  replace h := Mr.hid h
  by_cases hl : l = []
  ·subst hl
   have ht : top [] = (3, 0) := rfl
   rw [ht] at hp
   subst hp
   obtain ⟨a, c, rfl, _, _⟩ := hO.form
   simp only [List.length_nil] at *
   clear hO hg hT0 ht
   go_enter Tryz.func136, Tryz.ntmps136
   go_wp2_with (go_at_call 138; refine (only_any 3 _).mono ?_; rintro e w1 ⟨rfl, hB⟩; unfold ans; obtain ⟨⟨c0, c1, f0, f1, l1, d0, d1⟩, hE⟩ := K.out w1 3 0 hB; clear K hB; replace hE := Mr.hid hE)
   refine bodyPost_ret (v := ans 3 0) (by simp [results, Tryz.results136, go_sem, ans, d0, d1]) rfl ?_
   exact ⟨rfl, hE.out⟩
  ·have hn : 0 < l.length := by cases l with | nil => exact absurd rfl hl | cons => simp
   have ht : top l = (2, l[0]?.getD 0) := if_neg hl
   rw [ht] at hp
   subst hp
   obtain ⟨g2, o2, cap, cur, rfl, hc, hm, _, hg2, hs, hx⟩ := hO.there hn
   have ex : (ints l)[0]? = some (.int .i64 (l[0]?.getD 0)) := by exact ints_get l 0 hn
   have cx := own_cells hg2 hx 0 _ ex
   have hg2l := (Array.getElem?_eq_some_iff.1 hg2).1
   have cx2 : ((W.alloc (.cells #[.int .i64 th, .int .i64 op, .int .i64 arg, .int .i64 data, .int .i64 beg, .int .i64 fin, .int .i64 pt, .int .i64 ak, .int .i64 av] 45 (0, 0))).alloc (.cells #[.int .i64 0, .int .i64 0] 43 (0, 0))).cell? ⟨g2, o2, none⟩ = some (.int .i64 (l[0]?.getD 0)) := by
    rw [← cx, cell_blk (old_at (old_at hg2 _) _), cell_blk hg2]
    rfl
   unfold maxLen at hm
   generalize l[0]?.getD 0 = q at *
   generalize l.length = n at *
   have e1 : ((n : Int) == 0) = false := by simp; omega
   have q2 : (0 : Int) < (n : Int) := by omega
   clear hO hg hT0 ht hx hs hg2 cx hl ex
   go_enter Tryz.func136, Tryz.ntmps136
   go_wp2_with (go_at_call 139; refine (valueM_any q _).mono ?_; rintro e w1 ⟨rfl, hB⟩; unfold ans; obtain ⟨⟨c0, c1, f0, f1, l1, d0, d1⟩, hE⟩ := K.out w1 2 q hB; clear K hB; replace hE := Mr.hid hE)
   refine bodyPost_ret (v := ans 2 q) (by simp [results, Tryz.results136, go_sem, ans, d0, d1]) rfl ?_
   exact ⟨rfl, hE.out⟩
set_option maxRecDepth 100000 in
set_option maxHeartbeats 2000000 in
theorem ans_stack {W : World} {S : Nat → Prop} {g : Nat} {l : List Int} (ho : Ob W S g 172 3 1 l.length (ints l.reverse)) (th op arg data beg fin pt ak av : Int) (p : Int × Int) (hp : p = if op = 30 then (1, 0) else top l) :
  Calls Tryz.prog 140 #[.pointer (some ⟨g, 0, none⟩), .agg #[.int .i64 th, .int .i64 op, .int .i64 arg, .int .i64 data, .int .i64 beg, .int .i64 fin, .int .i64 pt, .int .i64 ak, .int .i64 av]] W fun e w' => e = .returned (ans p.1 p.2) ∧ Below W.heap.size W w' := by
 obtain ⟨v, hS, hg, hO⟩ := ho
 have hgl := (Array.getElem?_eq_some_iff.1 hg).1
 have hT0 := Tq.new W (.cells #[.int .i64 th, .int .i64 op, .int .i64 arg, .int .i64 data, .int .i64 beg, .int .i64 fin, .int .i64 pt, .int .i64 ak, .int .i64 av] 45 (0, 0)) (.cells #[.int .i64 0, .int .i64 0] 43 (0, 0))
 obtain ⟨k1, k2, k3, k4⟩ := nine_cells hT0.2.1
 have cg : ((W.alloc (.cells #[.int .i64 th, .int .i64 op, .int .i64 arg, .int .i64 data, .int .i64 beg, .int .i64 fin, .int .i64 pt, .int .i64 ak, .int .i64 av] 45 (0, 0))).alloc (.cells #[.int .i64 0, .int .i64 0] 43 (0, 0))).cell? ⟨g, 0, none⟩ = some v := cell_blk (old_at (old_at hg _) _) 0
 have K := fun (w1 : World) (k v : Int) (hB : Below ((W.alloc (.cells #[.int .i64 th, .int .i64 op, .int .i64 arg, .int .i64 data, .int .i64 beg, .int .i64 fin, .int .i64 pt, .int .i64 ak, .int .i64 av] 45 (0, 0))).alloc (.cells #[.int .i64 0, .int .i64 0] 43 (0, 0))).heap.size ((W.alloc (.cells #[.int .i64 th, .int .i64 op, .int .i64 arg, .int .i64 data, .int .i64 beg, .int .i64 fin, .int .i64 pt, .int .i64 ak, .int .i64 av] 45 (0, 0))).alloc (.cells #[.int .i64 0, .int .i64 0] 43 (0, 0))) w1) => (⟨ans_set ((hT0.below hB).2.2.1) k v, ans_below (hT0.below hB).1 (by omega : W.heap.size ≤ W.heap.size + 1) k v⟩ : _ ∧ _)
 replace K := Mr.hid K
 by_cases h : op = 30
 ·rw [if_pos h] at hp
  subst hp
  have d1 : (op == 30) = true := by simpa using h
  subst h
  clear hO hg hT0 cg
  go_enter Tryz.func140, Tryz.ntmps140
  go_wp2_with (go_at_call 138; refine (only_any 1 _).mono ?_; rintro e w1 ⟨rfl, hB⟩; unfold ans; obtain ⟨⟨c0, c1, f0, f1, l1, d0, d1⟩, hE⟩ := K.out w1 1 0 hB; clear K hB; replace hE := Mr.hid hE)
  refine bodyPost_ret (v := ans 1 0) (by simp [results, Tryz.results140, go_sem, ans, d0, d1]) rfl ?_
  exact ⟨rfl, hE.out⟩
 ·rw [if_neg h] at hp
  have d1 : (op == 30) = false := by simpa using h
  replace h := Mr.hid h
  by_cases hl : l = []
  ·subst hl
   have ht : top [] = (3, 0) := rfl
   rw [ht] at hp
   subst hp
   obtain ⟨a, c, rfl, _, _⟩ := hO.form
   simp only [List.length_nil] at *
   clear hO hg hT0 ht
   go_enter Tryz.func140, Tryz.ntmps140
   go_wp2_with (go_at_call 138; refine (only_any 3 _).mono ?_; rintro e w1 ⟨rfl, hB⟩; unfold ans; obtain ⟨⟨c0, c1, f0, f1, l1, d0, d1⟩, hE⟩ := K.out w1 3 0 hB; clear K hB; replace hE := Mr.hid hE)
   refine bodyPost_ret (v := ans 3 0) (by simp [results, Tryz.results140, go_sem, ans, d0, d1]) rfl ?_
   exact ⟨rfl, hE.out⟩
  ·have hn : 0 < l.length := by cases l with | nil => exact absurd rfl hl | cons => simp
   have ht : top l = (2, l[0]?.getD 0) := if_neg hl
   rw [ht] at hp
   subst hp
   obtain ⟨g2, o2, cap, cur, rfl, hc, hm, _, hg2, hs, hx⟩ := hO.there hn
   have ex : (ints l.reverse)[(l.length - 1)]? = some (.int .i64 (l[0]?.getD 0)) := by rw [ints_get _ _ (by simp; omega), List.getElem?_reverse (by omega), show l.length - 1 - (l.length - 1) = 0 from by omega]
   have cx := own_cells hg2 hx (l.length - 1) _ ex
   have hg2l := (Array.getElem?_eq_some_iff.1 hg2).1
   have cx2 : ((W.alloc (.cells #[.int .i64 th, .int .i64 op, .int .i64 arg, .int .i64 data, .int .i64 beg, .int .i64 fin, .int .i64 pt, .int .i64 ak, .int .i64 av] 45 (0, 0))).alloc (.cells #[.int .i64 0, .int .i64 0] 43 (0, 0))).cell? ⟨g2, o2 + (l.length - 1), none⟩ = some (.int .i64 (l[0]?.getD 0)) := by
    rw [← cx, cell_blk (old_at (old_at hg2 _) _), cell_blk hg2]
   unfold maxLen at hm
   generalize l[0]?.getD 0 = q at *
   generalize l.length = n at *
   have e1 : ((n : Int) == 0) = false := by simp; omega
   obtain ⟨m, rfl⟩ : ∃ m, n = m + 1 := ⟨n - 1, by omega⟩
   rw [show m + 1 - 1 = m from by omega] at cx2
   have q1 : (0 : Int) ≤ (m : Int) := by omega
   have q2 : (m : Int) < (m : Int) + 1 := by omega
   clear hO hg hT0 ht hx hs hg2 cx hl ex
   go_enter Tryz.func140, Tryz.ntmps140
   go_wp2
   have KS : ∀ w' : World, Below ((W.alloc (.cells #[.int .i64 th, .int .i64 op, .int .i64 arg, .int .i64 data, .int .i64 beg, .int .i64 fin, .int .i64 pt, .int .i64 ak, .int .i64 av] 45 (0, 0))).alloc (.cells #[.int .i64 0, .int .i64 0] 43 (0, 0))).heap.size ((W.alloc (.cells #[.int .i64 th, .int .i64 op, .int .i64 arg, .int .i64 data, .int .i64 beg, .int .i64 fin, .int .i64 pt, .int .i64 ak, .int .i64 av] 45 (0, 0))).alloc (.cells #[.int .i64 0, .int .i64 0] 43 (0, 0))) w' → w'.cell? ⟨g, 0, none⟩ = some (.slice (some ⟨g2, o2, none⟩) (m + 1) cap) ∧ w'.cell? ⟨g2, o2 + m, none⟩ = some (.int .i64 q) := fun w' hB => ⟨(hB.cell (p := ⟨g, 0, none⟩) (by simp; omega)).trans cg, (hB.cell (p := ⟨g2, o2 + m, none⟩) (by simp; omega)).trans cx2⟩
   have KR : Hid (W.heap.size + 1 < ((W.alloc (.cells #[.int .i64 th, .int .i64 op, .int .i64 arg, .int .i64 data, .int .i64 beg, .int .i64 fin, .int .i64 pt, .int .i64 ak, .int .i64 av] 45 (0, 0))).alloc (.cells #[.int .i64 0, .int .i64 0] 43 (0, 0))).heap.size) := by show _ < _; simp
   have eW : IntKind.i64.wrap ((m : Int) + 1 - 1) = (m : Int) := by rw [show (m : Int) + 1 - 1 = (m : Int) from by omega]; exact i64w _ (by omega) (by omega)
   have eW2 : IntKind.i64.wrap (m : Int) = (m : Int) := i64w _ (by omega) (by omega)
   have KS0 := Mr.hid (KS _ (Below.refl _ _).drew)
   have hgn : g ≠ W.heap.size + 1 := by omega
   have hgn2 : g2 ≠ W.heap.size + 1 := by omega
   replace KS := Mr.hid KS
   generalize ((W.alloc (.cells #[.int .i64 th, .int .i64 op, .int .i64 arg, .int .i64 data, .int .i64 beg, .int .i64 fin, .int .i64 pt, .int .i64 ak, .int .i64 av] 45 (0, 0))).alloc (.cells #[.int .i64 0, .int .i64 0] 43 (0, 0))) = w0 at *
   clear k1 k2 k3 k4 cg cx2
   go_region_held3 (fun w' => w'.cell? ⟨g, 0, none⟩ = some (.slice (some ⟨g2, o2, none⟩) (m + 1) cap) ∧ w'.cell? ⟨g2, o2 + m, none⟩ = some (.int .i64 q)) (first | with_reducible exact KZ.out | with_reducible exact KY.out | with_reducible exact KS0.out | go_keep) (first | (go_at_call 139; refine (valueM_any q _).mono ?_; rintro e w1 ⟨rfl, hB⟩; replace hB : Below w0.heap.size w0 w1 := ⟨hB.os, hB.tape, hB.output, hB.size, hB.block⟩; unfold ans; have KY := Mr.hid (KS.out w1 hB); have KZ : Hid (((w1.setCell ⟨W.heap.size + 1, 0, none⟩ (.int .i64 2)).setCell ⟨W.heap.size + 1, 1, none⟩ (.int .i64 q)).cell? ⟨g, 0, none⟩ = some (.slice (some ⟨g2, o2, none⟩) (m + 1) cap) ∧ ((w1.setCell ⟨W.heap.size + 1, 0, none⟩ (.int .i64 2)).setCell ⟨W.heap.size + 1, 1, none⟩ (.int .i64 q)).cell? ⟨g2, o2 + m, none⟩ = some (.int .i64 q)) := ⟨(far2 _ _ _ _ _ _ hgn).trans KY.out.1, (far2 _ _ _ _ _ _ hgn2).trans KY.out.2⟩; obtain ⟨⟨c0, c1, f0, f1, l1, d0, d1⟩, hE⟩ := K.out w1 2 q hB; clear K hB; replace hE := Mr.hid hE))
   go_wp2
   refine bodyPost_ret (v := ans 2 q) (by simp [results, Tryz.results140, go_sem, ans, d0, d1]) rfl ?_
   exact ⟨rfl, hE.out⟩
set_option maxRecDepth 100000 in
set_option maxHeartbeats 2000000 in
theorem ans_queue {W : World} {S : Nat → Prop} {g : Nat} {l : List Int} (ho : Ob W S g 173 3 1 l.length (ints l)) (th op arg data beg fin pt ak av : Int) (p : Int × Int) (hp : p = if op = 40 then (1, 0) else top l) :
  Calls Tryz.prog 142 #[.pointer (some ⟨g, 0, none⟩), .agg #[.int .i64 th, .int .i64 op, .int .i64 arg, .int .i64 data, .int .i64 beg, .int .i64 fin, .int .i64 pt, .int .i64 ak, .int .i64 av]] W fun e w' => e = .returned (ans p.1 p.2) ∧ Below W.heap.size W w' := by
 obtain ⟨v, hS, hg, hO⟩ := ho
 have hgl := (Array.getElem?_eq_some_iff.1 hg).1
 have hT0 := Tq.new W (.cells #[.int .i64 th, .int .i64 op, .int .i64 arg, .int .i64 data, .int .i64 beg, .int .i64 fin, .int .i64 pt, .int .i64 ak, .int .i64 av] 45 (0, 0)) (.cells #[.int .i64 0, .int .i64 0] 43 (0, 0))
 obtain ⟨k1, k2, k3, k4⟩ := nine_cells hT0.2.1
 have cg : ((W.alloc (.cells #[.int .i64 th, .int .i64 op, .int .i64 arg, .int .i64 data, .int .i64 beg, .int .i64 fin, .int .i64 pt, .int .i64 ak, .int .i64 av] 45 (0, 0))).alloc (.cells #[.int .i64 0, .int .i64 0] 43 (0, 0))).cell? ⟨g, 0, none⟩ = some v := cell_blk (old_at (old_at hg _) _) 0
 have K := fun (w1 : World) (k v : Int) (hB : Below ((W.alloc (.cells #[.int .i64 th, .int .i64 op, .int .i64 arg, .int .i64 data, .int .i64 beg, .int .i64 fin, .int .i64 pt, .int .i64 ak, .int .i64 av] 45 (0, 0))).alloc (.cells #[.int .i64 0, .int .i64 0] 43 (0, 0))).heap.size ((W.alloc (.cells #[.int .i64 th, .int .i64 op, .int .i64 arg, .int .i64 data, .int .i64 beg, .int .i64 fin, .int .i64 pt, .int .i64 ak, .int .i64 av] 45 (0, 0))).alloc (.cells #[.int .i64 0, .int .i64 0] 43 (0, 0))) w1) => (⟨ans_set ((hT0.below hB).2.2.1) k v, ans_below (hT0.below hB).1 (by omega : W.heap.size ≤ W.heap.size + 1) k v⟩ : _ ∧ _)
 replace K := Mr.hid K
 by_cases h : op = 40
 ·rw [if_pos h] at hp
  subst hp
  have d1 : (op == 40) = true := by simpa using h
  subst h
  clear hO hg hT0 cg
  go_enter Tryz.func142, Tryz.ntmps142
  go_wp2_with (go_at_call 138; refine (only_any 1 _).mono ?_; rintro e w1 ⟨rfl, hB⟩; unfold ans; obtain ⟨⟨c0, c1, f0, f1, l1, d0, d1⟩, hE⟩ := K.out w1 1 0 hB; clear K hB; replace hE := Mr.hid hE)
  refine bodyPost_ret (v := ans 1 0) (by simp [results, Tryz.results142, go_sem, ans, d0, d1]) rfl ?_
  exact ⟨rfl, hE.out⟩
 ·rw [if_neg h] at hp
  have d1 : (op == 40) = false := by simpa using h
  replace h := Mr.hid h
  by_cases hl : l = []
  ·subst hl
   have ht : top [] = (3, 0) := rfl
   rw [ht] at hp
   subst hp
   obtain ⟨a, c, rfl, _, _⟩ := hO.form
   simp only [List.length_nil] at *
   clear hO hg hT0 ht
   go_enter Tryz.func142, Tryz.ntmps142
   go_wp2_with (go_at_call 138; refine (only_any 3 _).mono ?_; rintro e w1 ⟨rfl, hB⟩; unfold ans; obtain ⟨⟨c0, c1, f0, f1, l1, d0, d1⟩, hE⟩ := K.out w1 3 0 hB; clear K hB; replace hE := Mr.hid hE)
   refine bodyPost_ret (v := ans 3 0) (by simp [results, Tryz.results142, go_sem, ans, d0, d1]) rfl ?_
   exact ⟨rfl, hE.out⟩
  ·have hn : 0 < l.length := by cases l with | nil => exact absurd rfl hl | cons => simp
   have ht : top l = (2, l[0]?.getD 0) := if_neg hl
   rw [ht] at hp
   subst hp
   obtain ⟨g2, o2, cap, cur, rfl, hc, hm, _, hg2, hs, hx⟩ := hO.there hn
   have ex : (ints l)[0]? = some (.int .i64 (l[0]?.getD 0)) := by exact ints_get l 0 hn
   have cx := own_cells hg2 hx 0 _ ex
   have hg2l := (Array.getElem?_eq_some_iff.1 hg2).1
   have cx2 : ((W.alloc (.cells #[.int .i64 th, .int .i64 op, .int .i64 arg, .int .i64 data, .int .i64 beg, .int .i64 fin, .int .i64 pt, .int .i64 ak, .int .i64 av] 45 (0, 0))).alloc (.cells #[.int .i64 0, .int .i64 0] 43 (0, 0))).cell? ⟨g2, o2, none⟩ = some (.int .i64 (l[0]?.getD 0)) := by
    rw [← cx, cell_blk (old_at (old_at hg2 _) _), cell_blk hg2]
    rfl
   unfold maxLen at hm
   generalize l[0]?.getD 0 = q at *
   generalize l.length = n at *
   have e1 : ((n : Int) == 0) = false := by simp; omega
   have q2 : (0 : Int) < (n : Int) := by omega
   clear hO hg hT0 ht hx hs hg2 cx hl ex
   go_enter Tryz.func142, Tryz.ntmps142
   go_wp2_with (go_at_call 139; refine (valueM_any q _).mono ?_; rintro e w1 ⟨rfl, hB⟩; unfold ans; obtain ⟨⟨c0, c1, f0, f1, l1, d0, d1⟩, hE⟩ := K.out w1 2 q hB; clear K hB; replace hE := Mr.hid hE)
   refine bodyPost_ret (v := ans 2 q) (by simp [results, Tryz.results142, go_sem, ans, d0, d1]) rfl ?_
   exact ⟨rfl, hE.out⟩
end Go.Proofs.YtnbibkohgppjnaaGreat.Md
