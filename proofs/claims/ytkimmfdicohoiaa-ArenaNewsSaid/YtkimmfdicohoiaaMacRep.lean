import Derived.Test.YtkimmfdicohoiaaMemNote
/-
  A MACHINE of the program as it lies in the world: its block, its book, its threads, its calls, its shifts, its memory. Tasks and the kit are values here: what lies behind them is told beside it.
-/
namespace Go.Proofs.Ytkimmfdicohoiaa.Ma
open Go.RowKit Mr Me
/-! ### rows of structs, flat -/
section
variable {α : Type} {f : α → List Value} {m : Nat}
theorem flat_length (hf : ∀ a, (f a).length = m) (l : List α) : (l.flatMap f).length = l.length * m := by
  induction l with
  | nil => simp
  | cons a l ih => rw [List.flatMap_cons, List.length_append, ih, hf, List.length_cons, Nat.add_mul]; omega
theorem flat_get (hf : ∀ a, (f a).length = m) (l : List α) (i j : Nat) (a : α) (ha : l[i]? = some a) (hj : j < m) : (l.flatMap f)[i * m + j]? = (f a)[j]? := by
  induction l generalizing i with
  | nil => simp at ha
  | cons x l ih =>
    cases i with
    | zero =>
      simp at ha
      subst ha
      rw [List.flatMap_cons, List.getElem?_append_left (by rw [hf]; omega)]
      congr 1
      omega
    | succ i =>
      rw [List.getElem?_cons_succ] at ha
      rw [List.flatMap_cons, List.getElem?_append_right (by rw [hf, Nat.add_mul]; omega), hf, ← ih i ha]
      congr 1
      rw [Nat.add_mul]
      omega
theorem flat_set (hf : ∀ a, (f a).length = m) (l : List α) (i j : Nat) (a b : α) (v : Value) (ha : l[i]? = some a) (hj : j < m) (hb : f b = (f a).set j v) : (l.flatMap f).set (i * m + j) v = (l.set i b).flatMap f := by
  induction l generalizing i with
  | nil => simp at ha
  | cons x l ih =>
    cases i with
    | zero =>
      simp at ha
      subst ha
      rw [List.flatMap_cons, List.set_cons_zero, List.flatMap_cons, hb, show 0 * m + j = j by omega, List.set_append_left _ _ (by rw [hf]; exact hj)]
    | succ i =>
      rw [List.getElem?_cons_succ] at ha
      rw [List.flatMap_cons, List.set_cons_succ, List.flatMap_cons, List.set_append_right _ _ (by rw [hf, Nat.add_mul]; omega), hf, ← ih i ha]
      congr 2
      rw [Nat.add_mul]
      omega
end
theorem has_put {w : World} {S : Nat → Prop} {e : TypeId} {size g n cap : Nat} {xs : List Value} (h : Has w S e size (.slice (some ⟨g, 0, none⟩) n cap) n xs) (i : Nat) (u : Value) :
    Has (w.setCell ⟨g, i, none⟩ u) S e size (.slice (some ⟨g, 0, none⟩) n cap) n (xs.set i u) := by
  rcases h.2 with ⟨hv, _⟩ | ⟨g', cap', cur, hv, hS, hg, h1, h2, h3, h4⟩
  · cases hv
  · cases hv
    refine ⟨by rw [List.length_set]; exact h.1, .inr ⟨g, cap, cur.setIfInBounds i u, rfl, hS, setBlk hg i u, h1, h2, by simpa using h3, ?_⟩⟩
    rw [Array.toList_setIfInBounds, ← h4]
    rw [List.take_set]

/-! ### what a machine is -/
/-- A call, as the book has it. -/
structure Cl where
  th : Int
  op : Int
  arg : Int
  data : Int
  beg : Int
  fin : Int
  pt : Int
  ak : Int
  av : Int
def Cl.cells (c : Cl) : List Value := [.int .i64 c.th, .int .i64 c.op, .int .i64 c.arg, .int .i64 c.data, .int .i64 c.beg, .int .i64 c.fin, .int .i64 c.pt, .int .i64 c.ak, .int .i64 c.av]
def clc (l : List Cl) : List Value := l.flatMap Cl.cells
/-- A thread: its task (an interface value), whether its call has made no step, its last call, what its task has told. -/
structure Th where
  tv : Value
  fr : Bool
  call : Int
  ak : Int
  av : Int
def Th.cells (t : Th) : List Value := [t.tv, .bool t.fr, .int .i64 t.call, .int .i64 t.ak, .int .i64 t.av]
def thc (l : List Th) : List Value := l.flatMap Th.cells
theorem th_len (t : Th) : t.cells.length = 5 := rfl
/-- A shift. -/
structure Sh where
  mv : Int
  th : Int
  slot : Int
  fr : Int
  to : Int
def Sh.cells (s : Sh) : List Value := [.int .i64 s.mv, .int .i64 s.th, .int .i64 s.slot, .int .i64 s.fr, .int .i64 s.to]
section
variable {W : World} {U S : Nat → Prop} {b bb bm : Nat} {vk vt vc vs vw vl va : Value} {ths : List Th} {n : Int} {cls : List Cl} {shs : List Sh} {ws : List Int} {mv : Int} {lg : List Acc} {ah : List Int}
theorem not_row {W : World} {S : Nat → Prop} {k : Nat} {cs : Array Value} {t e : TypeId} {size m : Nat} {v : Value} {xs : List Value} (hk : W.heap[k]? = some (.cells cs t (0, 0))) (h : Has W S e size v m xs) (hte : t ≠ e) : v.ownBlock ≠ some k := fun ev => by
  rcases h.2 with ⟨rfl, _⟩ | ⟨g, cap, cur, rfl, _, hg, _⟩
  · simp [Value.ownBlock] at ev
  · simp [Value.ownBlock] at ev
    subst ev
    rw [hk] at hg
    simp at hg
    exact hte hg.2
end
end Go.Proofs.Ytkimmfdicohoiaa.Ma
