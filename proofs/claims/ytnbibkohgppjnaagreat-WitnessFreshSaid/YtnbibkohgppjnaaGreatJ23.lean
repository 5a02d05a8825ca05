import Derived.Test.YtnbibkohgppjnaaGreatJ19
import Derived.Deep.RegionHeldLaw
import Derived.Deep.RegionLaw
set_option linter.unusedVariables false
set_option linter.unusedSimpArgs false
namespace Go.Proofs.YtnbibkohgppjnaaGreat.Md
open Go.RowKit Mr
theorem Ob.put {w : World} {S : Nat → Prop} {g : Nat} {tb e : TypeId} {size n : Nat} {xs : List Value} {v v0 : Value} (hS : S g) (hg : w.heap[g]? = some (.cells #[v0] tb (0, 0))) (hO : Own w (fun k => S k ∧ k ≠ g) e size v n xs) : Ob (w.setCell ⟨g, 0, none⟩ v) S g tb e size n xs :=
 ⟨v, hS, setBlk hg 0 v, hO.kept2 (fun k hk _ => Below.heap_setCell w _ v k hk.2) (fun k hk _ => hk)⟩
theorem news1 (w : World) (x : Value) (t : TypeId) : ∀ ad, some (⟨w.heap.size, 0, none⟩ : Addr) = some ad → ∀ j u, [x][j]? = some u → (w.alloc (.cells #[x] t (0, 0))).cell? (ad.add j) = some u := by
 rintro ad e j u hu
 cases e
 rw [add1, Nat.zero_add, cell_blk (heap_alloc_new w _)]
 simpa using hu
theorem Own.take {W : World} {S : Nat → Prop} {e : TypeId} {size n : Nat} {a : Option Addr} {cap : Nat} {xs : List Value} (h : Own W S e size (.slice a n cap) n xs) (m : Nat) (hm : m ≤ n) : Own W S e size (.slice a m cap) m (xs.take (m * size)) := by
 obtain ⟨h1, a', cap', hv, hc, hx, h2⟩ := h
 cases hv
 have hms : m * size ≤ n * size := Nat.mul_le_mul_right _ hm
 refine ⟨by rw [List.length_take]; omega, a, cap, rfl, by omega, hx, h2.imp id ?_⟩
 rintro ⟨g, o, cur, ha, hS, hg, hs, he⟩
 refine ⟨g, o, cur, ha, hS, hg, hs, ?_⟩
 rw [← he, List.take_take, Nat.min_eq_left hms]
theorem Own.tail {W : World} {S : Nat → Prop} {e : TypeId} {n : Nat} {g o cap : Nat} {xs : List Value} (h : Own W S e 1 (.slice (some ⟨g, o, none⟩) n cap) n xs) (hn : 0 < n) (A : Option Addr) (hA : A = if cap = 1 then some ⟨g, o, none⟩ else some ⟨g, o + 1, none⟩) : Own W S e 1 (.slice A (n - 1) (cap - 1)) (n - 1) (xs.drop 1) := by
 obtain ⟨g', o', cap', cur, hv, hc, hm, hS, hg, hs, hx⟩ := h.there hn
 cases hv
 refine ⟨by rw [List.length_drop, h.1]; omega, A, cap - 1, rfl, by omega, by omega, ?_⟩
 by_cases e : cap = 1
 ·exact .inl (by omega)
 ·rw [if_neg e] at hA
  refine .inr ⟨g, o + 1, cur, hA, hS, hg, by omega, ?_⟩
  rw [← hx, List.drop_take, List.drop_drop]
  simp
set_option maxRecDepth 100000 in
set_option maxHeartbeats 2000000 in
theorem leave_cell {W : World} {S : Nat → Prop} {g : Nat} {l : List Int} (ho : Ob W S g 171 3 1 l.length (ints l)) (th op arg data beg fin pt ak av : Int) (l' : List Int) (hl' : l' = if op = 22 then [arg] else l) :
  Calls Tryz.prog 137 #[.pointer (some ⟨g, 0, none⟩), .agg #[.int .i64 th, .int .i64 op, .int .i64 arg, .int .i64 data, .int .i64 beg, .int .i64 fin, .int .i64 pt, .int .i64 ak, .int .i64 av]] W fun e w' => e = .returned (.tuple #[]) ∧ Ob w' (fun k => S k ∨ W.heap.size ≤ k) g 171 3 1 l'.length (ints l') ∧ Fr W w' S := by
 have ho' := ho
 obtain ⟨v, hS, hg, hO⟩ := ho
 have hgl := (Array.getElem?_eq_some_iff.1 hg).1
 obtain ⟨k1, k2, k3, k4⟩ := nine_cells (heap_alloc_new W (.cells #[.int .i64 th, .int .i64 op, .int .i64 arg, .int .i64 data, .int .i64 beg, .int .i64 fin, .int .i64 pt, .int .i64 ak, .int .i64 av] 45 (0, 0)))
 by_cases h : op = 22
 ·rw [if_pos h] at hl'
  subst hl'
  subst h
  have cg : W.cell? ⟨g, 0, none⟩ = some v := cell_blk hg 0
  have fg : W.frozen? ⟨g, 0, none⟩ = false := by simp [World.frozen?, hg]
  obtain ⟨a, c, rfl, _, _⟩ := hO.form
  have hE : Hid (Ob (((W.setCell ⟨g, 0, none⟩ (.slice (some ⟨W.heap.size + 1, 0, none⟩) 1 1)).alloc (.cells #[.int .i64 th, .int .i64 22, .int .i64 arg, .int .i64 data, .int .i64 beg, .int .i64 fin, .int .i64 pt, .int .i64 ak, .int .i64 av] 45 (0, 0))).alloc (.cells #[.int .i64 arg] 3 (0, 0))) (fun k => S k ∨ W.heap.size ≤ k) g 171 3 1 1 (ints [arg]) ∧ Fr W (((W.setCell ⟨g, 0, none⟩ (.slice (some ⟨W.heap.size + 1, 0, none⟩) 1 1)).alloc (.cells #[.int .i64 th, .int .i64 22, .int .i64 arg, .int .i64 data, .int .i64 beg, .int .i64 fin, .int .i64 pt, .int .i64 ak, .int .i64 av] 45 (0, 0))).alloc (.cells #[.int .i64 arg] 3 (0, 0))) S) :=
   ⟨⟨_, .inl hS, old_at (old_at (setBlk hg 0 _) _) _, rfl, _, 1, rfl, Nat.le_refl _, by decide, .inr ⟨W.heap.size + 1, 0, _, rfl, ⟨.inr (by omega), by omega⟩, new_at _ _ _ (by simp), by simp, by simp [ints]⟩⟩, (((Fr.refl W S).setCell _ _ (.inl hS)).alloc _).alloc _⟩
  clear hg hO ho'
  go_enter Tryz.func137, Tryz.ntmps137
  go_wp2
  go_end0
  exact ⟨rfl, hE.out.1, hE.out.2⟩
 ·rw [if_neg h] at hl'
  subst hl'
  have d1 : (op == 22) = false := by simpa using h
  have hE : Hid (Ob (W.alloc (.cells #[.int .i64 th, .int .i64 op, .int .i64 arg, .int .i64 data, .int .i64 beg, .int .i64 fin, .int .i64 pt, .int .i64 ak, .int .i64 av] 45 (0, 0))) (fun k => S k ∨ W.heap.size ≤ k) g 171 3 1 l'.length (ints l') ∧ Fr W (W.alloc (.cells #[.int .i64 th, .int .i64 op, .int .i64 arg, .int .i64 data, .int .i64 beg, .int .i64 fin, .int .i64 pt, .int .i64 ak, .int .i64 av] 45 (0, 0))) S) := ⟨ho'.kept (fun k _ hl => Below.heap_alloc W _ k hl) (fun k hk _ => .inl hk), (Fr.refl W S).alloc _⟩
  clear hg hO ho' h
  go_enter Tryz.func137, Tryz.ntmps137
  go_wp2
  go_end0
  exact ⟨rfl, hE.out.1, hE.out.2⟩
set_option maxRecDepth 100000 in
set_option maxHeartbeats 4000000 in
theorem leave_stack {W : World} {S : Nat → Prop} {g : Nat} {l : List Int} (ho : Ob W S g 172 3 1 l.length (ints l.reverse)) (hsm : l.length * 8 ≤ 225000000000000) (th op arg data beg fin pt ak av : Int) (l' : List Int) (hl' : l' = if op = 30 then arg :: l else l.drop 1) :
  Calls Tryz.prog 141 #[.pointer (some ⟨g, 0, none⟩), .agg #[.int .i64 th, .int .i64 op, .int .i64 arg, .int .i64 data, .int .i64 beg, .int .i64 fin, .int .i64 pt, .int .i64 ak, .int .i64 av]] W fun e w' => e = .returned (.tuple #[]) ∧ Ob w' (fun k => S k ∨ W.heap.size ≤ k) g 172 3 1 l'.length (ints l'.reverse) ∧ Fr W w' S := by
 have ho' := ho
 obtain ⟨v, hS, hg, hO⟩ := ho
 have hgl := (Array.getElem?_eq_some_iff.1 hg).1
 obtain ⟨i0, hi, hz0, hz1, hz2⟩ := info_parts mp_int
 obtain ⟨k1, k2, k3, k4⟩ := nine_cells (heap_alloc_new W (.cells #[.int .i64 th, .int .i64 op, .int .i64 arg, .int .i64 data, .int .i64 beg, .int .i64 fin, .int .i64 pt, .int .i64 ak, .int .i64 av] 45 (0, 0)))
 have cg : (W.alloc (.cells #[.int .i64 th, .int .i64 op, .int .i64 arg, .int .i64 data, .int .i64 beg, .int .i64 fin, .int .i64 pt, .int .i64 ak, .int .i64 av] 45 (0, 0))).cell? ⟨g, 0, none⟩ = some v := cell_blk (old_at hg _) 0
 have fg : (W.alloc (.cells #[.int .i64 th, .int .i64 op, .int .i64 arg, .int .i64 data, .int .i64 beg, .int .i64 fin, .int .i64 pt, .int .i64 ak, .int .i64 av] 45 (0, 0))).frozen? ⟨g, 0, none⟩ = false := by simp [World.frozen?, old_at hg]
 by_cases h : op = 30
 ·rw [if_pos h] at hl'
  subst hl'
  have d1 : (op == 30) = true := by simpa using h
  replace h := Mr.hid h
  obtain ⟨a, c, rfl, hc, hm⟩ := hO.form
  have LO : Hid (∀ o, Own ((W.alloc (.cells #[.int .i64 th, .int .i64 op, .int .i64 arg, .int .i64 data, .int .i64 beg, .int .i64 fin, .int .i64 pt, .int .i64 ak, .int .i64 av] 45 (0, 0))).drew.alloc o) (fun k => S k ∧ k ≠ g) 3 1 (.slice a l.length c) l.length (ints l.reverse)) := fun o => hO.kept2 (fun k _ hl => (Below.heap_alloc _ o k (by simp; omega)).trans (Below.heap_alloc W _ k hl)) (fun k hk _ => hk)
  have NW := Mr.hid (news1 (W.alloc (.cells #[.int .i64 th, .int .i64 op, .int .i64 arg, .int .i64 data, .int .i64 beg, .int .i64 fin, .int .i64 pt, .int .i64 ak, .int .i64 av] 45 (0, 0))).drew (.int .i64 arg) 3)
  have HG : Hid (∀ o, ((W.alloc (.cells #[.int .i64 th, .int .i64 op, .int .i64 arg, .int .i64 data, .int .i64 beg, .int .i64 fin, .int .i64 pt, .int .i64 ak, .int .i64 av] 45 (0, 0))).drew.alloc o).heap[g]? = some (.cells #[.slice a l.length c] 172 (0, 0))) := fun o => old_at (old_at hg _) _
  have FR : Hid (∀ o, Fr W ((W.alloc (.cells #[.int .i64 th, .int .i64 op, .int .i64 arg, .int .i64 data, .int .i64 beg, .int .i64 fin, .int .i64 pt, .int .i64 ak, .int .i64 av] 45 (0, 0))).drew.alloc o) S) := fun o => (((Fr.refl W S).alloc _).drew).alloc o
  have SZ : Hid (W.heap.size + 1 = (W.alloc (.cells #[.int .i64 th, .int .i64 op, .int .i64 arg, .int .i64 data, .int .i64 beg, .int .i64 fin, .int .i64 pt, .int .i64 ak, .int .i64 av] 45 (0, 0))).heap.size) := by show _ = _; simp
  have hsz : (ints l.reverse ++ [Value.int .i64 arg]) = ints ((arg :: l).reverse) := by simp [ints]
  replace hsz := Mr.hid hsz
  have hk3 : g ≠ W.heap.size := by omega
  rw [show (arg :: l).length = l.length + 1 from by simp]
  have hgl0 : g < (W.alloc (.cells #[.int .i64 th, .int .i64 op, .int .i64 arg, .int .i64 data, .int .i64 beg, .int .i64 fin, .int .i64 pt, .int .i64 ak, .int .i64 av] 45 (0, 0))).heap.size := by simp; omega
  clear hg hO ho'
  go_enter Tryz.func141, Tryz.ntmps141
  go_wp2
  generalize W.alloc (.cells #[.int .i64 th, .int .i64 op, .int .i64 arg, .int .i64 data, .int .i64 beg, .int .i64 fin, .int .i64 pt, .int .i64 ak, .int .i64 av] 45 (0, 0)) = w0 at *
  go_region_law (first | (refine step_append_mine _ rfl (.tmp 12) (.tmp 15) 24 rfl (fun k => S k ∧ k ≠ g) 3 i0 _ 1 8 Tryz.underlying24 hi hz0 hz1 hz2 rfl (.slice a l.length c) l.length (ints l.reverse) (by first | rfl | simp [Act.eval]) (LO.out _) (some ⟨w0.drew.heap.size, 0, none⟩) 1 1 [.int .i64 arg] (by first | rfl | simp [Act.eval]) rfl (fun e => by cases e) NW.out (by simp [Value.oneCell']) (by unfold maxLen; omega) (by omega) ?_; intro b3 c3 w3 hown3 hfr3; have hg3 := (hfr3.block g (Array.getElem?_eq_some_iff.1 (HG.out _)).1 (fun e => e.2 rfl)).trans (HG.out _); have cg3 := cell_blk hg3 0; have fg3 : w3.frozen? ⟨g, 0, none⟩ = false := by simp [World.frozen?, hg3]))
  all_goals
   have hO4 := hown3.mono (T := fun k => (S k ∨ W.heap.size ≤ k) ∧ k ≠ g) (fun k hk => by
    rcases hk with hk | hk
    ·exact ⟨.inl hk.1, hk.2⟩
    ·have := SZ.out
     simp at hk
     exact ⟨.inr (by omega), by omega⟩)
   rw [hsz.out] at hO4
   go_end0
   exact ⟨rfl, Ob.put (.inl hS) hg3 hO4, ((FR.out _).trans (hfr3.mono (fun k h => .inl h.1))).setCell _ _ (.inl hS)⟩
 ·rw [if_neg h] at hl'
  subst hl'
  have d1 : (op == 30) = false := by simpa using h
  replace h := Mr.hid h
  by_cases hl : l = []
  ·subst hl
   have hE : Hid (Ob (W.alloc (.cells #[.int .i64 th, .int .i64 op, .int .i64 arg, .int .i64 data, .int .i64 beg, .int .i64 fin, .int .i64 pt, .int .i64 ak, .int .i64 av] 45 (0, 0))) (fun k => S k ∨ W.heap.size ≤ k) g 172 3 1 (List.drop 1 ([] : List Int)).length (ints ((List.drop 1 ([] : List Int)).reverse)) ∧ Fr W (W.alloc (.cells #[.int .i64 th, .int .i64 op, .int .i64 arg, .int .i64 data, .int .i64 beg, .int .i64 fin, .int .i64 pt, .int .i64 ak, .int .i64 av] 45 (0, 0))) S) := ⟨ho'.kept (fun k _ hl => Below.heap_alloc W _ k hl) (fun k hk _ => .inl hk), (Fr.refl W S).alloc _⟩
   obtain ⟨a, c, rfl, _, _⟩ := hO.form
   simp only [List.length_nil] at *
   clear hg hO ho'
   go_enter Tryz.func141, Tryz.ntmps141
   go_wp2
   go_end0
   exact ⟨rfl, hE.out.1, hE.out.2⟩
  ·have hn : 0 < l.length := by cases l with | nil => exact absurd rfl hl | cons => simp
   obtain ⟨m, hm⟩ : ∃ m, l.length = m + 1 := ⟨l.length - 1, by omega⟩
   have hO2 := hO
   obtain ⟨g2, o2, cap, cur, rfl, hc, hmx, _, _, _, _⟩ := hO.there hn
   clear hO
   have hO3 : Own (W.alloc (.cells #[.int .i64 th, .int .i64 op, .int .i64 arg, .int .i64 data, .int .i64 beg, .int .i64 fin, .int .i64 pt, .int .i64 ak, .int .i64 av] 45 (0, 0))) (fun k => (S k ∨ W.heap.size ≤ k) ∧ k ≠ g) 3 1 (.slice (some ⟨g2, o2, none⟩) m cap) m (ints (l.drop 1).reverse) := by
    have h1 := (hO2.kept2 (W' := W.alloc (.cells #[.int .i64 th, .int .i64 op, .int .i64 arg, .int .i64 data, .int .i64 beg, .int .i64 fin, .int .i64 pt, .int .i64 ak, .int .i64 av] 45 (0, 0))) (T := fun k => (S k ∨ W.heap.size ≤ k) ∧ k ≠ g) (fun k _ hl => Below.heap_alloc W _ k hl) (fun k hk _ => ⟨.inl hk.1, hk.2⟩)).take m (by omega)
    have e1 : (ints l.reverse).take (m * 1) = ints (l.drop 1).reverse := by
     cases l with
     | nil => exact absurd rfl hl
     | cons y r =>
      simp only [List.length_cons] at hm
      simp [ints, List.take_append_of_le_length, show m = r.length from by omega]
    rw [e1] at h1
    exact h1
   rw [hm] at hO2 hc cg hn
   have hg0 := Mr.hid (old_at hg (.cells #[.int .i64 th, .int .i64 op, .int .i64 arg, .int .i64 data, .int .i64 beg, .int .i64 fin, .int .i64 pt, .int .i64 ak, .int .i64 av] 45 (0, 0)))
   unfold maxLen at hmx
   have hlm : (l.drop 1).length = m := by rw [List.length_drop]; omega
   rw [hlm]
   have dg : decide ((0 : Int) < (m : Int) + 1) = true := decide_eq_true (by omega)
   have q1 : (0 : Int) ≤ (m : Int) := by omega
   have q2 : (m : Int) < (m : Int) + 1 := by omega
   have q3 : (m : Int) ≤ (cap : Int) := by omega
   have q4 : (1 : Int) ≤ (m : Int) + 1 := by omega
   have q5 : (m : Int) + 1 ≤ (cap : Int) := by omega
   have eW : IntKind.i64.wrap ((m : Int) + 1 - 1) = (m : Int) := by rw [show (m : Int) + 1 - 1 = (m : Int) from by omega]; exact i64w _ (by omega) (by omega)
   have eW2 : IntKind.i64.wrap (m : Int) = (m : Int) := i64w _ (by omega) (by omega)
   have hgl0 : g < (W.alloc (.cells #[.int .i64 th, .int .i64 op, .int .i64 arg, .int .i64 data, .int .i64 beg, .int .i64 fin, .int .i64 pt, .int .i64 ak, .int .i64 av] 45 (0, 0))).heap.size := by simp; omega
   have FR : Hid (Fr W (W.alloc (.cells #[.int .i64 th, .int .i64 op, .int .i64 arg, .int .i64 data, .int .i64 beg, .int .i64 fin, .int .i64 pt, .int .i64 ak, .int .i64 av] 45 (0, 0))) S) := (Fr.refl W S).alloc _
   replace hlm := Mr.hid hlm
   replace hO3 := Mr.hid hO3
   clear hg hO2 ho' hm hl
   go_enter Tryz.func141, Tryz.ntmps141
   go_wp2
   generalize W.alloc (.cells #[.int .i64 th, .int .i64 op, .int .i64 arg, .int .i64 data, .int .i64 beg, .int .i64 fin, .int .i64 pt, .int .i64 ak, .int .i64 av] 45 (0, 0)) = w0 at *
   go_region
   all_goals
    go_end0
    exact ⟨rfl, Ob.put (.inl hS) hg0.out hO3.out.drew, FR.out.drew.setCell _ _ (.inl hS)⟩
set_option maxRecDepth 100000 in
set_option maxHeartbeats 4000000 in
theorem leave_queue {W : World} {S : Nat → Prop} {g : Nat} {l : List Int} (ho : Ob W S g 173 3 1 l.length (ints l)) (hsm : l.length * 8 ≤ 225000000000000) (th op arg data beg fin pt ak av : Int) (l' : List Int) (hl' : l' = if op = 40 then l ++ [arg] else l.drop 1) :
  Calls Tryz.prog 143 #[.pointer (some ⟨g, 0, none⟩), .agg #[.int .i64 th, .int .i64 op, .int .i64 arg, .int .i64 data, .int .i64 beg, .int .i64 fin, .int .i64 pt, .int .i64 ak, .int .i64 av]] W fun e w' => e = .returned (.tuple #[]) ∧ Ob w' (fun k => S k ∨ W.heap.size ≤ k) g 173 3 1 l'.length (ints l') ∧ Fr W w' S := by
 have ho' := ho
 obtain ⟨v, hS, hg, hO⟩ := ho
 have hgl := (Array.getElem?_eq_some_iff.1 hg).1
 obtain ⟨i0, hi, hz0, hz1, hz2⟩ := info_parts mp_int
 obtain ⟨k1, k2, k3, k4⟩ := nine_cells (heap_alloc_new W (.cells #[.int .i64 th, .int .i64 op, .int .i64 arg, .int .i64 data, .int .i64 beg, .int .i64 fin, .int .i64 pt, .int .i64 ak, .int .i64 av] 45 (0, 0)))
 have cg : (W.alloc (.cells #[.int .i64 th, .int .i64 op, .int .i64 arg, .int .i64 data, .int .i64 beg, .int .i64 fin, .int .i64 pt, .int .i64 ak, .int .i64 av] 45 (0, 0))).cell? ⟨g, 0, none⟩ = some v := cell_blk (old_at hg _) 0
 have fg : (W.alloc (.cells #[.int .i64 th, .int .i64 op, .int .i64 arg, .int .i64 data, .int .i64 beg, .int .i64 fin, .int .i64 pt, .int .i64 ak, .int .i64 av] 45 (0, 0))).frozen? ⟨g, 0, none⟩ = false := by simp [World.frozen?, old_at hg]
 by_cases h : op = 40
 ·rw [if_pos h] at hl'
  subst hl'
  have d1 : (op == 40) = true := by simpa using h
  replace h := Mr.hid h
  obtain ⟨a, c, rfl, hc, hm⟩ := hO.form
  have LO : Hid (∀ o, Own ((W.alloc (.cells #[.int .i64 th, .int .i64 op, .int .i64 arg, .int .i64 data, .int .i64 beg, .int .i64 fin, .int .i64 pt, .int .i64 ak, .int .i64 av] 45 (0, 0))).drew.alloc o) (fun k => S k ∧ k ≠ g) 3 1 (.slice a l.length c) l.length (ints l)) := fun o => hO.kept2 (fun k _ hl => (Below.heap_alloc _ o k (by simp; omega)).trans (Below.heap_alloc W _ k hl)) (fun k hk _ => hk)
  have NW := Mr.hid (news1 (W.alloc (.cells #[.int .i64 th, .int .i64 op, .int .i64 arg, .int .i64 data, .int .i64 beg, .int .i64 fin, .int .i64 pt, .int .i64 ak, .int .i64 av] 45 (0, 0))).drew (.int .i64 arg) 3)
  have HG : Hid (∀ o, ((W.alloc (.cells #[.int .i64 th, .int .i64 op, .int .i64 arg, .int .i64 data, .int .i64 beg, .int .i64 fin, .int .i64 pt, .int .i64 ak, .int .i64 av] 45 (0, 0))).drew.alloc o).heap[g]? = some (.cells #[.slice a l.length c] 173 (0, 0))) := fun o => old_at (old_at hg _) _
  have FR : Hid (∀ o, Fr W ((W.alloc (.cells #[.int .i64 th, .int .i64 op, .int .i64 arg, .int .i64 data, .int .i64 beg, .int .i64 fin, .int .i64 pt, .int .i64 ak, .int .i64 av] 45 (0, 0))).drew.alloc o) S) := fun o => (((Fr.refl W S).alloc _).drew).alloc o
  have SZ : Hid (W.heap.size + 1 = (W.alloc (.cells #[.int .i64 th, .int .i64 op, .int .i64 arg, .int .i64 data, .int .i64 beg, .int .i64 fin, .int .i64 pt, .int .i64 ak, .int .i64 av] 45 (0, 0))).heap.size) := by show _ = _; simp
  have hsz : (ints l ++ [Value.int .i64 arg]) = ints (l ++ [arg]) := by simp [ints]
  replace hsz := Mr.hid hsz
  have hk3 : g ≠ W.heap.size := by omega
  rw [show (l ++ [arg]).length = l.length + 1 from by simp]
  have hgl0 : g < (W.alloc (.cells #[.int .i64 th, .int .i64 op, .int .i64 arg, .int .i64 data, .int .i64 beg, .int .i64 fin, .int .i64 pt, .int .i64 ak, .int .i64 av] 45 (0, 0))).heap.size := by simp; omega
  clear hg hO ho'
  go_enter Tryz.func143, Tryz.ntmps143
  go_wp2
  generalize W.alloc (.cells #[.int .i64 th, .int .i64 op, .int .i64 arg, .int .i64 data, .int .i64 beg, .int .i64 fin, .int .i64 pt, .int .i64 ak, .int .i64 av] 45 (0, 0)) = w0 at *
  go_region_law (first | (refine step_append_mine _ rfl (.tmp 12) (.tmp 15) 24 rfl (fun k => S k ∧ k ≠ g) 3 i0 _ 1 8 Tryz.underlying24 hi hz0 hz1 hz2 rfl (.slice a l.length c) l.length (ints l) (by first | rfl | simp [Act.eval]) (LO.out _) (some ⟨w0.drew.heap.size, 0, none⟩) 1 1 [.int .i64 arg] (by first | rfl | simp [Act.eval]) rfl (fun e => by cases e) NW.out (by simp [Value.oneCell']) (by unfold maxLen; omega) (by omega) ?_; intro b3 c3 w3 hown3 hfr3; have hg3 := (hfr3.block g (Array.getElem?_eq_some_iff.1 (HG.out _)).1 (fun e => e.2 rfl)).trans (HG.out _); have cg3 := cell_blk hg3 0; have fg3 : w3.frozen? ⟨g, 0, none⟩ = false := by simp [World.frozen?, hg3]))
  all_goals
   have hO4 := hown3.mono (T := fun k => (S k ∨ W.heap.size ≤ k) ∧ k ≠ g) (fun k hk => by
    rcases hk with hk | hk
    ·exact ⟨.inl hk.1, hk.2⟩
    ·have := SZ.out
     simp at hk
     exact ⟨.inr (by omega), by omega⟩)
   rw [hsz.out] at hO4
   go_end0
   exact ⟨rfl, Ob.put (.inl hS) hg3 hO4, ((FR.out _).trans (hfr3.mono (fun k h => .inl h.1))).setCell _ _ (.inl hS)⟩
 ·rw [if_neg h] at hl'
  subst hl'
  have d1 : (op == 40) = false := by simpa using h
  replace h := Mr.hid h
  by_cases hl : l = []
  ·subst hl
   have hE : Hid (Ob (W.alloc (.cells #[.int .i64 th, .int .i64 op, .int .i64 arg, .int .i64 data, .int .i64 beg, .int .i64 fin, .int .i64 pt, .int .i64 ak, .int .i64 av] 45 (0, 0))) (fun k => S k ∨ W.heap.size ≤ k) g 173 3 1 (List.drop 1 ([] : List Int)).length (ints (List.drop 1 ([] : List Int))) ∧ Fr W (W.alloc (.cells #[.int .i64 th, .int .i64 op, .int .i64 arg, .int .i64 data, .int .i64 beg, .int .i64 fin, .int .i64 pt, .int .i64 ak, .int .i64 av] 45 (0, 0))) S) := ⟨ho'.kept (fun k _ hl => Below.heap_alloc W _ k hl) (fun k hk _ => .inl hk), (Fr.refl W S).alloc _⟩
   obtain ⟨a, c, rfl, _, _⟩ := hO.form
   simp only [List.length_nil] at *
   clear hg hO ho'
   go_enter Tryz.func143, Tryz.ntmps143
   go_wp2
   go_end0
   exact ⟨rfl, hE.out.1, hE.out.2⟩
  ·have hn : 0 < l.length := by cases l with | nil => exact absurd rfl hl | cons => simp
   obtain ⟨m, hm⟩ : ∃ m, l.length = m + 1 := ⟨l.length - 1, by omega⟩
   have hO2 := hO
   obtain ⟨g2, o2, cap, cur, rfl, hc, hmx, _, _, _, _⟩ := hO.there hn
   clear hO
   have hO3 : ∀ A : Option Addr, A = (if cap = 1 then some ⟨g2, o2, none⟩ else some ⟨g2, o2 + 1, none⟩) → Ob ((W.setCell ⟨g, 0, none⟩ (.slice A m (cap - 1))).alloc (.cells #[.int .i64 th, .int .i64 op, .int .i64 arg, .int .i64 data, .int .i64 beg, .int .i64 fin, .int .i64 pt, .int .i64 ak, .int .i64 av] 45 (0, 0))) (fun k => S k ∨ W.heap.size ≤ k) g 173 3 1 m (ints (l.drop 1)) ∧ Fr W ((W.setCell ⟨g, 0, none⟩ (.slice A m (cap - 1))).alloc (.cells #[.int .i64 th, .int .i64 op, .int .i64 arg, .int .i64 data, .int .i64 beg, .int .i64 fin, .int .i64 pt, .int .i64 ak, .int .i64 av] 45 (0, 0))) S := fun A hA => by
    have h1 := hO2.tail hn A hA
    have e1 : (ints l).drop 1 = ints (l.drop 1) := by simp [ints]
    rw [e1, show l.length - 1 = m from by omega] at h1
    have h2 := Ob.put hS hg h1
    exact ⟨h2.kept (fun k _ hl => Below.heap_alloc _ _ k hl) (fun k hk _ => .inl hk), ((Fr.refl W S).setCell _ _ (.inl hS)).alloc _⟩
   rw [hm] at hO2 hc cg hn
   have hg0 := Mr.hid (old_at hg (.cells #[.int .i64 th, .int .i64 op, .int .i64 arg, .int .i64 data, .int .i64 beg, .int .i64 fin, .int .i64 pt, .int .i64 ak, .int .i64 av] 45 (0, 0)))
   unfold maxLen at hmx
   have hlm : (l.drop 1).length = m := by rw [List.length_drop]; omega
   rw [hlm]
   have dg : decide ((0 : Int) < (m : Int) + 1) = true := decide_eq_true (by omega)
   have q1 : (0 : Int) ≤ (m : Int) := by omega
   have q2 : (m : Int) < (m : Int) + 1 := by omega
   have q3 : (m : Int) ≤ (cap : Int) := by omega
   have q4 : (1 : Int) ≤ (m : Int) + 1 := by omega
   have q5 : (m : Int) + 1 ≤ (cap : Int) := by omega
   have eW : IntKind.i64.wrap ((m : Int) + 1 - 1) = (m : Int) := by rw [show (m : Int) + 1 - 1 = (m : Int) from by omega]; exact i64w _ (by omega) (by omega)
   have eW2 : IntKind.i64.wrap (m : Int) = (m : Int) := i64w _ (by omega) (by omega)
   have hgl0 : g < (W.alloc (.cells #[.int .i64 th, .int .i64 op, .int .i64 arg, .int .i64 data, .int .i64 beg, .int .i64 fin, .int .i64 pt, .int .i64 ak, .int .i64 av] 45 (0, 0))).heap.size := by simp; omega
   have FR : Hid (Fr W (W.alloc (.cells #[.int .i64 th, .int .i64 op, .int .i64 arg, .int .i64 data, .int .i64 beg, .int .i64 fin, .int .i64 pt, .int .i64 ak, .int .i64 av] 45 (0, 0))) S) := (Fr.refl W S).alloc _
   replace hlm := Mr.hid hlm
   clear hg hO2 ho' hm hl
   by_cases hcap : cap = 1
   ·subst hcap
    obtain rfl : m = 0 := by omega
    have hE := hO3 (some ⟨g2, o2, none⟩) (by simp)
    rw [show (1 : Nat) - 1 = 0 from rfl] at hE
    clear hO3 hg0 FR
    replace hE := Mr.hid hE
    go_enter Tryz.func143, Tryz.ntmps143
    go_wp2
    go_end0
    exact ⟨rfl, hE.out.1, hE.out.2⟩
   ·have hE := hO3 (some ⟨g2, o2 + 1, none⟩) (by rw [if_neg hcap])
    clear hO3 hg0 FR
    replace hE := Mr.hid hE
    go_enter Tryz.func143, Tryz.ntmps143
    go_wp2
    go_end0
    exact ⟨rfl, hE.out.1, hE.out.2⟩
end Go.Proofs.YtnbibkohgppjnaaGreat.Md
