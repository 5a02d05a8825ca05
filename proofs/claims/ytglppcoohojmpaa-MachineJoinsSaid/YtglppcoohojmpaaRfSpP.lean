import Derived.Test.YtglppcoohojmpaaRfKeep
import Derived.Test.YtglppcoohojmpaaJ32
/-
  Rows of a run that are written over, and put behind.
-/
namespace Go.Proofs.Ytglppcoohojmpaa.Rf
open Go.RowKit Go.Shelf Mr Me Ma
set_option linter.unusedVariables false
structure Sf where
  a : Int
  b : Int
  c : Int
  d : Int
  e : Int
def Sf.cells (s : Sf) : List Value := [.int .i64 s.a, .int .i64 s.b, .int .i64 s.c, .int .i64 s.d, .int .i64 s.e]
def sfc (l : List Sf) : List Value := l.flatMap Sf.cells
/-- Cells from o on. -/
def puts (w : World) (g : Nat) : Nat → List Value → World
  | _, [] => w
  | o, v :: vs => puts (w.setCell ⟨g, o, none⟩ v) g (o + 1) vs
def putl (xs : List Value) : Nat → List Value → List Value
  | _, [] => xs
  | o, v :: vs => putl (xs.set o v) (o + 1) vs
theorem has_puts {S : Nat → Prop} {e : TypeId} {size g n cap : Nat} : ∀ (vs : List Value) (o : Nat) {w : World} {xs : List Value}, Has w S e size (.slice (some ⟨g, 0, none⟩) n cap) n xs → Has (puts w g o vs) S e size (.slice (some ⟨g, 0, none⟩) n cap) n (putl xs o vs)
  | [], _, _, _, h => h
  | v :: vs, o, _, _, h => has_puts vs (o + 1) (has_put h o v)
theorem puts_other {g k : Nat} (hk : k ≠ g) : ∀ (vs : List Value) (o : Nat) (w : World), (puts w g o vs).heap[k]? = w.heap[k]?
  | [], _, _ => rfl
  | v :: vs, o, w => (puts_other hk vs (o + 1) _).trans (Below.heap_setCell _ _ _ k hk)
theorem fr_puts {W : World} {A : Nat → Prop} {g : Nat} (hg : A g ∨ W.heap.size ≤ g) : ∀ (vs : List Value) (o : Nat) {w : World}, Fr W w A → Fr W (puts w g o vs) A
  | [], _, _, h => h
  | v :: vs, o, _, h => fr_puts hg vs (o + 1) (h.setCell _ _ hg)
theorem putl_eq : ∀ (vs : List Value) (o : Nat) (xs : List Value), o + vs.length ≤ xs.length → putl xs o vs = xs.take o ++ vs ++ xs.drop (o + vs.length)
  | [], o, xs, _ => by simp [putl]
  | v :: vs, o, xs, h => by
    simp only [List.length_cons] at h
    have hl : (xs.set o v).length = xs.length := List.length_set
    rw [putl, putl_eq vs (o + 1) (xs.set o v) (by rw [hl]; omega), List.set_eq_take_append_cons_drop, if_pos (by omega)]
    have ht : (xs.take o).length = o := by rw [List.length_take]; omega
    have e1 : (xs.take o ++ v :: xs.drop (o + 1)).take (o + 1) = xs.take o ++ [v] := by
      rw [List.take_append, ht, List.take_of_length_le (show (xs.take o).length ≤ o + 1 by omega)]
      simp
    have e2 : (xs.take o ++ v :: xs.drop (o + 1)).drop (o + 1 + vs.length) = xs.drop (o + 1 + vs.length) := by
      rw [List.drop_append, ht, List.drop_eq_nil_of_le (by rw [ht]; omega)]
      have : o + 1 + vs.length - o = (vs.length) + 1 := by omega
      rw [this, List.drop_succ_cons, List.drop_drop]
      simp
    rw [e1, e2, List.length_cons]
    have : o + 1 + vs.length = o + (vs.length + 1) := by omega
    rw [this]
    simp
theorem flat_row {α : Type} {f : α → List Value} {m : Nat} (hf : ∀ a, (f a).length = m) (l : List α) (i : Nat) (x x' : α) (hx : l[i]? = some x) : putl (l.flatMap f) (i * m) (f x') = (l.set i x').flatMap f := by
  have hi := (List.getElem?_eq_some_iff.1 hx).1
  have hlen := flat_length hf l
  have hle : i * m + m ≤ l.length * m := by rw [← Nat.succ_mul]; exact Nat.mul_le_mul_right _ hi
  rw [putl_eq _ _ _ (by rw [hf, hlen]; exact hle), hf, List.set_eq_take_append_cons_drop, if_pos hi]
  have hd : l = l.take i ++ x :: l.drop (i + 1) := by
    conv => lhs; rw [← List.take_append_drop i l]
    congr 1
    rw [List.drop_eq_getElem_cons hi]
    congr 1
    exact (List.getElem?_eq_some_iff.1 hx).2
  have ht : ((l.take i).flatMap f).length = i * m := by
    rw [flat_length hf, List.length_take, Nat.min_eq_left (by omega)]
  have e0 : l.flatMap f = (l.take i).flatMap f ++ (f x ++ (l.drop (i + 1)).flatMap f) := by
    conv => lhs; rw [hd]
    simp [List.flatMap_append]
  rw [e0]
  have key : ∀ (a b c r : List Value) (p q : Nat), a.length = p → b.length = q → (a ++ (b ++ r)).take p ++ c ++ (a ++ (b ++ r)).drop (p + q) = a ++ (c ++ r) := by
    intro a b c r p q ha hb
    rw [List.take_left' ha, ← List.append_assoc a b r, List.drop_left' (by rw [List.length_append, ha, hb]), List.append_assoc]
  rw [key _ _ _ _ _ _ ht (hf x)]
  simp [List.flatMap_append]
/-- The first j entries written over. -/
def wov {α : Type} (f : Nat → α) (l : List α) (j : Nat) : List α := (List.range j).map f ++ l.drop j
theorem wov_zero {α : Type} (f : Nat → α) (l : List α) : wov f l 0 = l := by simp [wov]
theorem wov_len {α : Type} (f : Nat → α) (l : List α) (j : Nat) (h : j ≤ l.length) : (wov f l j).length = l.length := by simp [wov]; omega
theorem wov_all {α : Type} (f : Nat → α) (l : List α) : wov f l l.length = (List.range l.length).map f := by simp [wov]
theorem wov_set {α : Type} (f : Nat → α) (l : List α) (j : Nat) (h : j < l.length) : (wov f l j).set j (f j) = wov f l (j + 1) := by
  unfold wov
  rw [List.set_append, if_neg (by simp)]
  have e : j - ((List.range j).map f).length = 0 := by simp
  rw [e, List.drop_eq_getElem_cons h, List.set_cons_zero, List.range_succ, List.map_append]
  simp
/-- Marks, and k more behind them. -/
def spl {α : Type} (f g : Nat → α) (n k : Nat) : List α := (List.range n).map f ++ (List.range k).map g
theorem spl_zero {α : Type} (f g : Nat → α) (n : Nat) : spl f g n 0 = (List.range n).map f := by simp [spl]
theorem spl_len {α : Type} (f g : Nat → α) (n k : Nat) : (spl f g n k).length = n + k := by simp [spl]
theorem spl_succ {α : Type} (f g : Nat → α) (n k : Nat) : spl f g n (k + 1) = spl f g n k ++ [g k] := by simp [spl, List.range_succ]
theorem spl_old {α : Type} (f g : Nat → α) (n k i : Nat) (h : i < n) : (spl f g n k)[i]? = some (f i) := by simp [spl, List.getElem?_append, h]
theorem spl_new {α : Type} (f g : Nat → α) (n k i : Nat) (h : i < k) : (spl f g n k)[n + i]? = some (g i) := by simp [spl, h]
def mC (mark : Int) (i : Nat) : Cl := ⟨mark + i, 0, -mark, 0, 0, 0, 0, 0, 0⟩
def aC (mark : Int) (k : Nat) : Cl := ⟨-mark - k, 0, 0, 0, 0, 0, 0, 0, 0⟩
def mA (mark : Int) (i : Nat) : Acc := ⟨mark + i, 0, 0, -mark, 0, 0, 0⟩
def aA (mark : Int) (k : Nat) : Acc := ⟨-mark - k, 0, 0, 0, 0, 0, 0⟩
def aS (mark : Int) (k : Nat) : Sf := ⟨-mark - k, 0, 0, 0, 0⟩
def mW (mark : Int) (i : Nat) : Int := mark + i
def aW (mark : Int) (_ : Nat) : Int := mark + 1000000
theorem has_apart {w : World} {S T : Nat → Prop} {e e' : TypeId} {sz sz' n n' : Nat} {v u : Value} {xs ys : List Value} (h : Has w S e sz v n xs) (g : Has w T e' sz' u n' ys) (hne : e ≠ e') : ∀ k, v.ownBlock = some k → u.ownBlock ≠ some k := fun k hk => by
  rcases h.2 with ⟨rfl, _⟩ | ⟨b, cap, cur, rfl, _, hb, _⟩
  · simp [Value.ownBlock] at hk
  · simp only [Value.ownBlock, Option.some.injEq] at hk
    subst hk
    exact not_row hb g hne
/-- The state within Spoil: the run's box, the result's cell, the rows, the elder rows. -/
structure Sb (W wr : World) (A : Nat → Prop) (v1 v2 v4 u1 u2 u3 u4 : Value) (l1 : List Cl) (l2 : List Acc) (l3 : List Sf) (l4 : List Int) (o1 : List Cl) (o2 : List Acc) (o4 : List Int) : Prop where
  fr : Fr W wr A
  al : ∀ k, A k → k < W.heap.size
  bx : wr.heap[W.heap.size]? = some (.cells #[u1, u2, u3, u4] 53 (0, 0))
  rs : wr.heap[W.heap.size + 1]? = some (.cells #[.slice none 0 0, .slice none 0 0, .slice none 0 0, .slice none 0 0] 53 (0, 0))
  h1 : Has wr (fun k => A k ∨ W.heap.size + 2 ≤ k) 78 9 u1 l1.length (clc l1)
  h2 : Has wr (fun k => A k ∨ W.heap.size + 2 ≤ k) 128 7 u2 l2.length (lgc l2)
  h3 : Has wr (fun k => A k ∨ W.heap.size + 2 ≤ k) 130 5 u3 l3.length (sfc l3)
  h4 : Has wr (fun k => A k ∨ W.heap.size + 2 ≤ k) 59 1 u4 l4.length (wrd l4)
  p1 : Has wr A 78 9 v1 o1.length (clc o1)
  p2 : Has wr A 128 7 v2 o2.length (lgc o2)
  p4 : Has wr A 59 1 v4 o4.length (wrd o4)
  n1 : o1.length ≤ l1.length
  n2 : o2.length ≤ l2.length
  n4 : o4.length ≤ l4.length
section
variable {W wr w2 : World} {A : Nat → Prop} {v1 v2 v4 u1 u2 u3 u4 : Value} {l1 : List Cl} {l2 : List Acc} {l3 : List Sf} {l4 : List Int} {o1 : List Cl} {o2 : List Acc} {o4 : List Int}
theorem Sb.cells (h : Sb W wr A v1 v2 v4 u1 u2 u3 u4 l1 l2 l3 l4 o1 o2 o4) : wr.cell? ⟨W.heap.size, 0, none⟩ = some u1 ∧ wr.cell? ⟨W.heap.size, 1, none⟩ = some u2 ∧ wr.cell? ⟨W.heap.size, 2, none⟩ = some u3 ∧ wr.cell? ⟨W.heap.size, 3, none⟩ = some u4 ∧ (∀ j, wr.frozen? ⟨W.heap.size, j, none⟩ = false) ∧ W.heap.size < wr.heap.size ∧ W.heap.size + 1 < wr.heap.size := by
  have hb := h.bx
  refine ⟨?_, ?_, ?_, ?_, fun j => ?_, (Array.getElem?_eq_some_iff.1 hb).1, (Array.getElem?_eq_some_iff.1 h.rs).1⟩ <;> simp [World.cell?, World.frozen?, hb]
theorem Sb.alloc (h : Sb W wr A v1 v2 v4 u1 u2 u3 u4 l1 l2 l3 l4 o1 o2 o4) (o : Obj) : Sb W (wr.alloc o) A v1 v2 v4 u1 u2 u3 u4 l1 l2 l3 l4 o1 o2 o4 := by
  have c := h.cells
  exact ⟨h.fr.alloc o, h.al, (Below.heap_alloc wr o _ c.2.2.2.2.2.1).trans h.bx, (Below.heap_alloc wr o _ c.2.2.2.2.2.2).trans h.rs, h.h1.alloc o, h.h2.alloc o, h.h3.alloc o, h.h4.alloc o, h.p1.alloc o, h.p2.alloc o, h.p4.alloc o, h.n1, h.n2, h.n4⟩
theorem Sb.put1 (h : Sb W wr A v1 v2 v4 v1 v2 u3 v4 l1 l2 l3 l4 l1 l2 l4) {g c : Nat} (hv : v1 = .slice (some ⟨g, 0, none⟩) l1.length c) (i : Nat) (x x' : Cl) (hx : l1[i]? = some x) : Sb W (puts wr g (i * 9) (Cl.cells x')) A v1 v2 v4 v1 v2 u3 v4 (l1.set i x') l2 l3 l4 (l1.set i x') l2 l4 := by
  have hg : A g := (h.p1.lt g (by rw [hv]; rfl)).1
  have hgl := h.al g hg
  have c := h.cells
  have p1 := h.h1
  have p2 := h.p1
  rw [hv] at p1 p2
  have q1 := has_puts (Cl.cells x') (i * 9) p1
  have q2 := has_puts (Cl.cells x') (i * 9) p2
  have e : putl (clc l1) (i * 9) (Cl.cells x') = clc (l1.set i x') := (flat_row (f := Cl.cells) (m := 9) (fun _ => rfl) l1 i x x' hx)
  have el : (l1.set i x').length = l1.length := List.length_set
  rw [e] at q1 q2
  have oth : ∀ {e' sz' m : Nat} {v : Value} {xs : List Value} {S : Nat → Prop}, 78 ≠ e' → Has wr S e' sz' v m xs → Has (puts wr g (i * 9) (Cl.cells x')) S e' sz' v m xs := fun {e' sz' m v xs S} hne hh =>
    hh.kept (fun k hk => puts_other (fun e => has_apart p2 hh hne g rfl (by rw [← e]; exact hk)) _ _ _) (fun k hk => (hh.lt k hk).1)
  refine ⟨fr_puts (.inl hg) _ _ h.fr, h.al, (puts_other (by omega) _ _ _).trans h.bx, (puts_other (by omega) _ _ _).trans h.rs, ?_, ?_, ?_, ?_, ?_, ?_, ?_, ?_, ?_, ?_⟩
  · rw [hv, el]; exact q1
  · exact oth (by decide) h.h2
  · exact oth (by decide) h.h3
  · exact oth (by decide) h.h4
  · rw [hv, el]; exact q2
  · exact oth (by decide) h.p2
  · exact oth (by decide) h.p4
  · rw [el]; exact Nat.le_refl _
  · exact h.n2
  · exact h.n4
theorem Sb.put2 (h : Sb W wr A v1 v2 v4 v1 v2 u3 v4 l1 l2 l3 l4 l1 l2 l4) {g c : Nat} (hv : v2 = .slice (some ⟨g, 0, none⟩) l2.length c) (i : Nat) (x x' : Acc) (hx : l2[i]? = some x) : Sb W (puts wr g (i * 7) (Acc.cells x')) A v1 v2 v4 v1 v2 u3 v4 l1 (l2.set i x') l3 l4 l1 (l2.set i x') l4 := by
  have hg : A g := (h.p2.lt g (by rw [hv]; rfl)).1
  have hgl := h.al g hg
  have c := h.cells
  have p1 := h.h2
  have p2 := h.p2
  rw [hv] at p1 p2
  have q1 := has_puts (Acc.cells x') (i * 7) p1
  have q2 := has_puts (Acc.cells x') (i * 7) p2
  have e : putl (lgc l2) (i * 7) (Acc.cells x') = lgc (l2.set i x') := (flat_row (f := Acc.cells) (m := 7) (fun _ => rfl) l2 i x x' hx)
  have el : (l2.set i x').length = l2.length := List.length_set
  rw [e] at q1 q2
  have oth : ∀ {e' sz' m : Nat} {v : Value} {xs : List Value} {S : Nat → Prop}, 128 ≠ e' → Has wr S e' sz' v m xs → Has (puts wr g (i * 7) (Acc.cells x')) S e' sz' v m xs := fun {e' sz' m v xs S} hne hh =>
    hh.kept (fun k hk => puts_other (fun e => has_apart p2 hh hne g rfl (by rw [← e]; exact hk)) _ _ _) (fun k hk => (hh.lt k hk).1)
  refine ⟨fr_puts (.inl hg) _ _ h.fr, h.al, (puts_other (by omega) _ _ _).trans h.bx, (puts_other (by omega) _ _ _).trans h.rs, ?_, ?_, ?_, ?_, ?_, ?_, ?_, ?_, ?_, ?_⟩
  · exact oth (by decide) h.h1
  · rw [hv, el]; exact q1
  · exact oth (by decide) h.h3
  · exact oth (by decide) h.h4
  · exact oth (by decide) h.p1
  · rw [hv, el]; exact q2
  · exact oth (by decide) h.p4
  · exact h.n1
  · rw [el]; exact Nat.le_refl _
  · exact h.n4
theorem Sb.put4 (h : Sb W wr A v1 v2 v4 v1 v2 u3 v4 l1 l2 l3 l4 l1 l2 l4) {g c : Nat} (hv : v4 = .slice (some ⟨g, 0, none⟩) l4.length c) (i : Nat) (x x' : Int) (hx : l4[i]? = some x) : Sb W (puts wr g (i) [.int .u64 x']) A v1 v2 v4 v1 v2 u3 v4 l1 l2 l3 (l4.set i x') l1 l2 (l4.set i x') := by
  have hg : A g := (h.p4.lt g (by rw [hv]; rfl)).1
  have hgl := h.al g hg
  have c := h.cells
  have p1 := h.h4
  have p2 := h.p4
  rw [hv] at p1 p2
  have q1 := has_puts [.int .u64 x'] (i) p1
  have q2 := has_puts [.int .u64 x'] (i) p2
  have e : putl (wrd l4) i [.int .u64 x'] = wrd (l4.set i x') := by simp [putl, wrd, List.map_set]
  have el : (l4.set i x').length = l4.length := List.length_set
  rw [e] at q1 q2
  have oth : ∀ {e' sz' m : Nat} {v : Value} {xs : List Value} {S : Nat → Prop}, 59 ≠ e' → Has wr S e' sz' v m xs → Has (puts wr g (i) [.int .u64 x']) S e' sz' v m xs := fun {e' sz' m v xs S} hne hh =>
    hh.kept (fun k hk => puts_other (fun e => has_apart p2 hh hne g rfl (by rw [← e]; exact hk)) _ _ _) (fun k hk => (hh.lt k hk).1)
  refine ⟨fr_puts (.inl hg) _ _ h.fr, h.al, (puts_other (by omega) _ _ _).trans h.bx, (puts_other (by omega) _ _ _).trans h.rs, ?_, ?_, ?_, ?_, ?_, ?_, ?_, ?_, ?_, ?_⟩
  · exact oth (by decide) h.h1
  · exact oth (by decide) h.h2
  · exact oth (by decide) h.h3
  · rw [hv, el]; exact q1
  · exact oth (by decide) h.p1
  · exact oth (by decide) h.p2
  · rw [hv, el]; exact q2
  · exact h.n1
  · exact h.n2
  · rw [el]; exact Nat.le_refl _
theorem Sb.app1 (h : Sb W wr A v1 v2 v4 u1 u2 u3 u4 l1 l2 l3 l4 o1 o2 o4) {o : Obj} {u' : Value} {x : Cl} (hown : Has w2 (fun k => A k ∨ W.heap.size + 2 ≤ k) 78 9 u' (l1.length + 1) (clc l1 ++ Cl.cells x)) (hg : (wr.alloc o).grownBy w2 u1.ownBlock) (hk : Kept (wr.alloc o) w2 u1 l1.length 9 78) : (w2.cell? ⟨W.heap.size, 0, none⟩ = some u1 ∧ (∀ j, w2.frozen? ⟨W.heap.size, j, none⟩ = false)) ∧ Sb W (w2.setCell ⟨W.heap.size, 0, none⟩ u') A v1 v2 v4 u' u2 u3 u4 (l1 ++ [x]) l2 l3 l4 o1 o2 o4 := by
  have h' := h.alloc o
  have c := h'.cells
  have nB : u1.ownBlock ≠ some W.heap.size := not_row h'.bx h'.h1 (by decide)
  have nR : u1.ownBlock ≠ some (W.heap.size + 1) := not_row h'.rs h'.h1 (by decide)
  have kb := (hg.block W.heap.size c.2.2.2.2.2.1 (fun e => nB e.symm)).trans h'.bx
  have kr := (hg.block (W.heap.size + 1) c.2.2.2.2.2.2 (fun e => nR e.symm)).trans h'.rs
  have keepB : ∀ {e' sz' m : Nat} {v : Value} {xs : List Value} {S : Nat → Prop}, 53 ≠ e' → Has w2 S e' sz' v m xs → Has (w2.setCell ⟨W.heap.size, 0, none⟩ u') S e' sz' v m xs := fun {e' sz' m v xs S} hne hh => hh.setCell _ _ (not_row kb hh hne)
  have oth : ∀ {e' sz' m : Nat} {v : Value} {xs : List Value} {S : Nat → Prop}, 78 ≠ e' → 53 ≠ e' → Has (wr.alloc o) S e' sz' v m xs → Has (w2.setCell ⟨W.heap.size, 0, none⟩ u') S e' sz' v m xs := fun {e' sz' m v xs S} hne hne' hh =>
    keepB hne' (hh.grown hg (fun k hk' e => has_apart h'.h1 hh hne k e hk'))
  have sb := setBlk kb 0 u'
  have rb : (w2.setCell ⟨W.heap.size, 0, none⟩ u').heap[W.heap.size + 1]? = some (.cells #[.slice none 0 0, .slice none 0 0, .slice none 0 0, .slice none 0 0] 53 (0, 0)) := (Below.heap_setCell _ _ _ _ (by show W.heap.size + 1 ≠ W.heap.size; omega)).trans kr
  have fr : Fr W (w2.setCell ⟨W.heap.size, 0, none⟩ u') A := (h'.fr.grown hg (fun k hk' => by rcases (h'.h1.lt k hk').1 with e | e; exact .inl e; exact .inr (by omega))).setCell _ _ (.inr (Nat.le_refl _))
  have ne : clc l1 ++ Cl.cells x = clc (l1 ++ [x]) := by simp [clc]
  have nl : (l1 ++ [x]).length = l1.length + 1 := by simp
  rw [ne] at hown
  refine ⟨⟨by simp [World.cell?, kb], fun j => by simp [World.frozen?, kb]⟩, fr, h.al, sb, rb, ?_, ?_, ?_, ?_, ?_, ?_, ?_, ?_, ?_, ?_⟩
  · rw [nl]; exact keepB (by decide) hown
  · exact oth (by decide) (by decide) h'.h2
  · exact oth (by decide) (by decide) h'.h3
  · exact oth (by decide) (by decide) h'.h4
  · exact keepB (by decide) (has_old h'.p1 hg hk h.n1)
  · exact oth (by decide) (by decide) h'.p2
  · exact oth (by decide) (by decide) h'.p4
  · rw [nl]; have := h.n1; omega
  · exact h.n2
  · exact h.n4
theorem Sb.app2 (h : Sb W wr A v1 v2 v4 u1 u2 u3 u4 l1 l2 l3 l4 o1 o2 o4) {o : Obj} {u' : Value} {x : Acc} (hown : Has w2 (fun k => A k ∨ W.heap.size + 2 ≤ k) 128 7 u' (l2.length + 1) (lgc l2 ++ Acc.cells x)) (hg : (wr.alloc o).grownBy w2 u2.ownBlock) (hk : Kept (wr.alloc o) w2 u2 l2.length 7 128) : (w2.cell? ⟨W.heap.size, 1, none⟩ = some u2 ∧ (∀ j, w2.frozen? ⟨W.heap.size, j, none⟩ = false)) ∧ Sb W (w2.setCell ⟨W.heap.size, 1, none⟩ u') A v1 v2 v4 u1 u' u3 u4 l1 (l2 ++ [x]) l3 l4 o1 o2 o4 := by
  have h' := h.alloc o
  have c := h'.cells
  have nB : u2.ownBlock ≠ some W.heap.size := not_row h'.bx h'.h2 (by decide)
  have nR : u2.ownBlock ≠ some (W.heap.size + 1) := not_row h'.rs h'.h2 (by decide)
  have kb := (hg.block W.heap.size c.2.2.2.2.2.1 (fun e => nB e.symm)).trans h'.bx
  have kr := (hg.block (W.heap.size + 1) c.2.2.2.2.2.2 (fun e => nR e.symm)).trans h'.rs
  have keepB : ∀ {e' sz' m : Nat} {v : Value} {xs : List Value} {S : Nat → Prop}, 53 ≠ e' → Has w2 S e' sz' v m xs → Has (w2.setCell ⟨W.heap.size, 1, none⟩ u') S e' sz' v m xs := fun {e' sz' m v xs S} hne hh => hh.setCell _ _ (not_row kb hh hne)
  have oth : ∀ {e' sz' m : Nat} {v : Value} {xs : List Value} {S : Nat → Prop}, 128 ≠ e' → 53 ≠ e' → Has (wr.alloc o) S e' sz' v m xs → Has (w2.setCell ⟨W.heap.size, 1, none⟩ u') S e' sz' v m xs := fun {e' sz' m v xs S} hne hne' hh =>
    keepB hne' (hh.grown hg (fun k hk' e => has_apart h'.h2 hh hne k e hk'))
  have sb := setBlk kb 1 u'
  have rb : (w2.setCell ⟨W.heap.size, 1, none⟩ u').heap[W.heap.size + 1]? = some (.cells #[.slice none 0 0, .slice none 0 0, .slice none 0 0, .slice none 0 0] 53 (0, 0)) := (Below.heap_setCell _ _ _ _ (by show W.heap.size + 1 ≠ W.heap.size; omega)).trans kr
  have fr : Fr W (w2.setCell ⟨W.heap.size, 1, none⟩ u') A := (h'.fr.grown hg (fun k hk' => by rcases (h'.h2.lt k hk').1 with e | e; exact .inl e; exact .inr (by omega))).setCell _ _ (.inr (Nat.le_refl _))
  have ne : lgc l2 ++ Acc.cells x = lgc (l2 ++ [x]) := by simp [lgc]
  have nl : (l2 ++ [x]).length = l2.length + 1 := by simp
  rw [ne] at hown
  refine ⟨⟨by simp [World.cell?, kb], fun j => by simp [World.frozen?, kb]⟩, fr, h.al, sb, rb, ?_, ?_, ?_, ?_, ?_, ?_, ?_, ?_, ?_, ?_⟩
  · exact oth (by decide) (by decide) h'.h1
  · rw [nl]; exact keepB (by decide) hown
  · exact oth (by decide) (by decide) h'.h3
  · exact oth (by decide) (by decide) h'.h4
  · exact oth (by decide) (by decide) h'.p1
  · exact keepB (by decide) (has_old h'.p2 hg hk h.n2)
  · exact oth (by decide) (by decide) h'.p4
  · exact h.n1
  · rw [nl]; have := h.n2; omega
  · exact h.n4
theorem Sb.app3 (h : Sb W wr A v1 v2 v4 u1 u2 u3 u4 l1 l2 l3 l4 o1 o2 o4) {o : Obj} {u' : Value} {x : Sf} (hown : Has w2 (fun k => A k ∨ W.heap.size + 2 ≤ k) 130 5 u' (l3.length + 1) (sfc l3 ++ Sf.cells x)) (hg : (wr.alloc o).grownBy w2 u3.ownBlock) (hk : Kept (wr.alloc o) w2 u3 l3.length 5 130) : (w2.cell? ⟨W.heap.size, 2, none⟩ = some u3 ∧ (∀ j, w2.frozen? ⟨W.heap.size, j, none⟩ = false)) ∧ Sb W (w2.setCell ⟨W.heap.size, 2, none⟩ u') A v1 v2 v4 u1 u2 u' u4 l1 l2 (l3 ++ [x]) l4 o1 o2 o4 := by
  have h' := h.alloc o
  have c := h'.cells
  have nB : u3.ownBlock ≠ some W.heap.size := not_row h'.bx h'.h3 (by decide)
  have nR : u3.ownBlock ≠ some (W.heap.size + 1) := not_row h'.rs h'.h3 (by decide)
  have kb := (hg.block W.heap.size c.2.2.2.2.2.1 (fun e => nB e.symm)).trans h'.bx
  have kr := (hg.block (W.heap.size + 1) c.2.2.2.2.2.2 (fun e => nR e.symm)).trans h'.rs
  have keepB : ∀ {e' sz' m : Nat} {v : Value} {xs : List Value} {S : Nat → Prop}, 53 ≠ e' → Has w2 S e' sz' v m xs → Has (w2.setCell ⟨W.heap.size, 2, none⟩ u') S e' sz' v m xs := fun {e' sz' m v xs S} hne hh => hh.setCell _ _ (not_row kb hh hne)
  have oth : ∀ {e' sz' m : Nat} {v : Value} {xs : List Value} {S : Nat → Prop}, 130 ≠ e' → 53 ≠ e' → Has (wr.alloc o) S e' sz' v m xs → Has (w2.setCell ⟨W.heap.size, 2, none⟩ u') S e' sz' v m xs := fun {e' sz' m v xs S} hne hne' hh =>
    keepB hne' (hh.grown hg (fun k hk' e => has_apart h'.h3 hh hne k e hk'))
  have sb := setBlk kb 2 u'
  have rb : (w2.setCell ⟨W.heap.size, 2, none⟩ u').heap[W.heap.size + 1]? = some (.cells #[.slice none 0 0, .slice none 0 0, .slice none 0 0, .slice none 0 0] 53 (0, 0)) := (Below.heap_setCell _ _ _ _ (by show W.heap.size + 1 ≠ W.heap.size; omega)).trans kr
  have fr : Fr W (w2.setCell ⟨W.heap.size, 2, none⟩ u') A := (h'.fr.grown hg (fun k hk' => by rcases (h'.h3.lt k hk').1 with e | e; exact .inl e; exact .inr (by omega))).setCell _ _ (.inr (Nat.le_refl _))
  have ne : sfc l3 ++ Sf.cells x = sfc (l3 ++ [x]) := by simp [sfc]
  have nl : (l3 ++ [x]).length = l3.length + 1 := by simp
  rw [ne] at hown
  refine ⟨⟨by simp [World.cell?, kb], fun j => by simp [World.frozen?, kb]⟩, fr, h.al, sb, rb, ?_, ?_, ?_, ?_, ?_, ?_, ?_, ?_, ?_, ?_⟩
  · exact oth (by decide) (by decide) h'.h1
  · exact oth (by decide) (by decide) h'.h2
  · rw [nl]; exact keepB (by decide) hown
  · exact oth (by decide) (by decide) h'.h4
  · exact oth (by decide) (by decide) h'.p1
  · exact oth (by decide) (by decide) h'.p2
  · exact oth (by decide) (by decide) h'.p4
  · exact h.n1
  · exact h.n2
  · exact h.n4
theorem Sb.app4 (h : Sb W wr A v1 v2 v4 u1 u2 u3 u4 l1 l2 l3 l4 o1 o2 o4) {o : Obj} {u' : Value} {x : Int} (hown : Has w2 (fun k => A k ∨ W.heap.size + 2 ≤ k) 59 1 u' (l4.length + 1) (wrd l4 ++ [.int .u64 x])) (hg : (wr.alloc o).grownBy w2 u4.ownBlock) (hk : Kept (wr.alloc o) w2 u4 l4.length 1 59) : (w2.cell? ⟨W.heap.size, 3, none⟩ = some u4 ∧ (∀ j, w2.frozen? ⟨W.heap.size, j, none⟩ = false)) ∧ Sb W (w2.setCell ⟨W.heap.size, 3, none⟩ u') A v1 v2 v4 u1 u2 u3 u' l1 l2 l3 (l4 ++ [x]) o1 o2 o4 := by
  have h' := h.alloc o
  have c := h'.cells
  have nB : u4.ownBlock ≠ some W.heap.size := not_row h'.bx h'.h4 (by decide)
  have nR : u4.ownBlock ≠ some (W.heap.size + 1) := not_row h'.rs h'.h4 (by decide)
  have kb := (hg.block W.heap.size c.2.2.2.2.2.1 (fun e => nB e.symm)).trans h'.bx
  have kr := (hg.block (W.heap.size + 1) c.2.2.2.2.2.2 (fun e => nR e.symm)).trans h'.rs
  have keepB : ∀ {e' sz' m : Nat} {v : Value} {xs : List Value} {S : Nat → Prop}, 53 ≠ e' → Has w2 S e' sz' v m xs → Has (w2.setCell ⟨W.heap.size, 3, none⟩ u') S e' sz' v m xs := fun {e' sz' m v xs S} hne hh => hh.setCell _ _ (not_row kb hh hne)
  have oth : ∀ {e' sz' m : Nat} {v : Value} {xs : List Value} {S : Nat → Prop}, 59 ≠ e' → 53 ≠ e' → Has (wr.alloc o) S e' sz' v m xs → Has (w2.setCell ⟨W.heap.size, 3, none⟩ u') S e' sz' v m xs := fun {e' sz' m v xs S} hne hne' hh =>
    keepB hne' (hh.grown hg (fun k hk' e => has_apart h'.h4 hh hne k e hk'))
  have sb := setBlk kb 3 u'
  have rb : (w2.setCell ⟨W.heap.size, 3, none⟩ u').heap[W.heap.size + 1]? = some (.cells #[.slice none 0 0, .slice none 0 0, .slice none 0 0, .slice none 0 0] 53 (0, 0)) := (Below.heap_setCell _ _ _ _ (by show W.heap.size + 1 ≠ W.heap.size; omega)).trans kr
  have fr : Fr W (w2.setCell ⟨W.heap.size, 3, none⟩ u') A := (h'.fr.grown hg (fun k hk' => by rcases (h'.h4.lt k hk').1 with e | e; exact .inl e; exact .inr (by omega))).setCell _ _ (.inr (Nat.le_refl _))
  have ne : wrd l4 ++ [.int .u64 x] = wrd (l4 ++ [x]) := by simp [wrd]
  have nl : (l4 ++ [x]).length = l4.length + 1 := by simp
  rw [ne] at hown
  refine ⟨⟨by simp [World.cell?, kb], fun j => by simp [World.frozen?, kb]⟩, fr, h.al, sb, rb, ?_, ?_, ?_, ?_, ?_, ?_, ?_, ?_, ?_, ?_⟩
  · exact oth (by decide) (by decide) h'.h1
  · exact oth (by decide) (by decide) h'.h2
  · exact oth (by decide) (by decide) h'.h3
  · rw [nl]; exact keepB (by decide) hown
  · exact oth (by decide) (by decide) h'.p1
  · exact oth (by decide) (by decide) h'.p2
  · exact keepB (by decide) (has_old h'.p4 hg hk h.n4)
  · exact h.n1
  · exact h.n2
  · rw [nl]; have := h.n4; omega
end
end Go.Proofs.Ytglppcoohojmpaa.Rf
