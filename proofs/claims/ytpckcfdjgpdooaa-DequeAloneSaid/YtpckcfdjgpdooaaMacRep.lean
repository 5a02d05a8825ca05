/-
  A MACHINE of the program as it lies in the world: its block, its book, its threads, its calls, its shifts, its memory. Tasks and the kit are values here: what lies behind them is told beside it.
-/
import Derived.Test.YtpckcfdjgpdooaaMemAccM
namespace Go.Proofs.Ytpckcfdjgpdooaa.Ma
open Go.RowKit Mr Me
/-! ### rows of structs, flat -/
section
variable {α : Type} {f : α → List Value} {m : Nat}
theorem flat_length (hf : ∀ a, (f a).length = m) (l : List α) : (l.flatMap f).length = l.length * m := by
  induction l with
  | nil => simp
  | cons a l ih => rw [List.flatMap_cons, List.length_append, ih, hf, List.length_cons, Nat.add_mul]; omega
theorem flat_get (hf : ∀ a, (f a).length = m) (l : List α) (i j : Nat) (a : α) (ha : l[i]? = some a) (hj : j < m) : (l.flatMap f)[i * m + j]? = (f a)[j]? := by
  induction l generalizing i with
  | nil => simp at ha
  | cons x l ih =>
    cases i with
    | zero =>
      simp at ha
      subst ha
      rw [List.flatMap_cons, List.getElem?_append_left (by rw [hf]; omega)]
      congr 1
      omega
    | succ i =>
      rw [List.getElem?_cons_succ] at ha
      rw [List.flatMap_cons, List.getElem?_append_right (by rw [hf, Nat.add_mul]; omega), hf, ← ih i ha]
      congr 1
      rw [Nat.add_mul]
      omega
theorem flat_set (hf : ∀ a, (f a).length = m) (l : List α) (i j : Nat) (a b : α) (v : Value) (ha : l[i]? = some a) (hj : j < m) (hb : f b = (f a).set j v) : (l.flatMap f).set (i * m + j) v = (l.set i b).flatMap f := by
  induction l generalizing i with
  | nil => simp at ha
  | cons x l ih =>
    cases i with
    | zero =>
      simp at ha
      subst ha
      rw [List.flatMap_cons, List.set_cons_zero, List.flatMap_cons, hb, show 0 * m + j = j by omega, List.set_append_left _ _ (by rw [hf]; exact hj)]
    | succ i =>
      rw [List.getElem?_cons_succ] at ha
      rw [List.flatMap_cons, List.set_cons_succ, List.flatMap_cons, List.set_append_right _ _ (by rw [hf, Nat.add_mul]; omega), hf, ← ih i ha]
      congr 2
      rw [Nat.add_mul]
      omega
end
theorem has_put {w : World} {S : Nat → Prop} {e : TypeId} {size g n cap : Nat} {xs : List Value} (h : Has w S e size (.slice (some ⟨g, 0, none⟩) n cap) n xs) (i : Nat) (u : Value) :
    Has (w.setCell ⟨g, i, none⟩ u) S e size (.slice (some ⟨g, 0, none⟩) n cap) n (xs.set i u) := by
  rcases h.2 with ⟨hv, _⟩ | ⟨g', cap', cur, hv, hS, hg, h1, h2, h3, h4⟩
  · cases hv
  · cases hv
    refine ⟨by rw [List.length_set]; exact h.1, .inr ⟨g, cap, cur.setIfInBounds i u, rfl, hS, setBlk hg i u, h1, h2, by simpa using h3, ?_⟩⟩
    rw [Array.toList_setIfInBounds, ← h4]
    rw [List.take_set]

/-! ### what a machine is -/
/-- A call, as the book has it. -/
structure Cl where
  th : Int
  op : Int
  arg : Int
  data : Int
  beg : Int
  fin : Int
  pt : Int
  ak : Int
  av : Int
def Cl.cells (c : Cl) : List Value := [.int .i64 c.th, .int .i64 c.op, .int .i64 c.arg, .int .i64 c.data, .int .i64 c.beg, .int .i64 c.fin, .int .i64 c.pt, .int .i64 c.ak, .int .i64 c.av]
def Cl.val (c : Cl) : Value := .agg #[.int .i64 c.th, .int .i64 c.op, .int .i64 c.arg, .int .i64 c.data, .int .i64 c.beg, .int .i64 c.fin, .int .i64 c.pt, .int .i64 c.ak, .int .i64 c.av]
def clc (l : List Cl) : List Value := l.flatMap Cl.cells
theorem cl_len (c : Cl) : c.cells.length = 9 := rfl
/-- A thread: its task (an interface value), whether its call has made no step, its last call, what its task has told. -/
structure Th where
  tv : Value
  fr : Bool
  call : Int
  ak : Int
  av : Int
def Th.cells (t : Th) : List Value := [t.tv, .bool t.fr, .int .i64 t.call, .int .i64 t.ak, .int .i64 t.av]
def thc (l : List Th) : List Value := l.flatMap Th.cells
theorem th_len (t : Th) : t.cells.length = 5 := rfl
/-- A shift. -/
structure Sh where
  mv : Int
  th : Int
  slot : Int
  fr : Int
  to : Int
def Sh.cells (s : Sh) : List Value := [.int .i64 s.mv, .int .i64 s.th, .int .i64 s.slot, .int .i64 s.fr, .int .i64 s.to]
def shc (l : List Sh) : List Value := l.flatMap Sh.cells
theorem sh_len (s : Sh) : s.cells.length = 5 := rfl

structure Mac (W : World) (U S : Nat → Prop) (b bb bm : Nat) (vk vt vc vs vw vl va : Value) (ths : List Th) (n : Int) (cls : List Cl) (shs : List Sh) (ws : List Int) (mv : Int) (lg : List Acc) (ah : List Int) : Prop where
  blk : W.heap[b]? = some (.cells #[vk, vt, .int .i64 n, .pointer (some ⟨bb, 0, none⟩)] 75 (0, 0))
  bk : W.heap[bb]? = some (.cells #[.pointer (some ⟨bm, 0, none⟩), vc, vs] 89 (0, 0))
  mem : Mem W S bm vw vl va ws mv lg ah
  thr : Has W (fun k => U k ∧ ¬ S k) 81 5 vt ths.length (thc ths)
  cal : Has W (fun k => U k ∧ ¬ S k) 53 9 vc cls.length (clc cls)
  shf : Has W (fun k => U k ∧ ¬ S k) 118 5 vs shs.length (shc shs)
  ub : U b ∧ ¬ S b
  ubb : U bb ∧ ¬ S bb
  su : ∀ k, S k → U k
  ul : ∀ k, U k → k < W.heap.size

section
variable {W : World} {U S : Nat → Prop} {b bb bm : Nat} {vk vt vc vs vw vl va : Value} {ths : List Th} {n : Int} {cls : List Cl} {shs : List Sh} {ws : List Int} {mv : Int} {lg : List Acc} {ah : List Int}
theorem Mac.lt (h : Mac W U S b bb bm vk vt vc vs vw vl va ths n cls shs ws mv lg ah) : b < W.heap.size := (Array.getElem?_eq_some_iff.1 h.blk).1
theorem Mac.ltb (h : Mac W U S b bb bm vk vt vc vs vw vl va ths n cls shs ws mv lg ah) : bb < W.heap.size := (Array.getElem?_eq_some_iff.1 h.bk).1
theorem Mac.m0 (h : Mac W U S b bb bm vk vt vc vs vw vl va ths n cls shs ws mv lg ah) : W.cell? ⟨b, 0, none⟩ = some vk := by simp [World.cell?, h.blk]
theorem Mac.m1 (h : Mac W U S b bb bm vk vt vc vs vw vl va ths n cls shs ws mv lg ah) : W.cell? ⟨b, 1, none⟩ = some vt := by simp [World.cell?, h.blk]
theorem Mac.m2 (h : Mac W U S b bb bm vk vt vc vs vw vl va ths n cls shs ws mv lg ah) : W.cell? ⟨b, 2, none⟩ = some (.int .i64 n) := by simp [World.cell?, h.blk]
theorem Mac.m3 (h : Mac W U S b bb bm vk vt vc vs vw vl va ths n cls shs ws mv lg ah) : W.cell? ⟨b, 3, none⟩ = some (.pointer (some ⟨bb, 0, none⟩)) := by simp [World.cell?, h.blk]
theorem Mac.mz (h : Mac W U S b bb bm vk vt vc vs vw vl va ths n cls shs ws mv lg ah) (o : Nat) : W.frozen? ⟨b, o, none⟩ = false := by simp [World.frozen?, h.blk]
theorem Mac.b0 (h : Mac W U S b bb bm vk vt vc vs vw vl va ths n cls shs ws mv lg ah) : W.cell? ⟨bb, 0, none⟩ = some (.pointer (some ⟨bm, 0, none⟩)) := by simp [World.cell?, h.bk]
theorem Mac.b1 (h : Mac W U S b bb bm vk vt vc vs vw vl va ths n cls shs ws mv lg ah) : W.cell? ⟨bb, 1, none⟩ = some vc := by simp [World.cell?, h.bk]
theorem Mac.b2 (h : Mac W U S b bb bm vk vt vc vs vw vl va ths n cls shs ws mv lg ah) : W.cell? ⟨bb, 2, none⟩ = some vs := by simp [World.cell?, h.bk]
theorem Mac.bz (h : Mac W U S b bb bm vk vt vc vs vw vl va ths n cls shs ws mv lg ah) (o : Nat) : W.frozen? ⟨bb, o, none⟩ = false := by simp [World.frozen?, h.bk]
/-- Nothing of it has turned; it may count more blocks as its own. -/
theorem Mac.kept {W' : World} {U' : Nat → Prop} (h : Mac W U S b bb bm vk vt vc vs vw vl va ths n cls shs ws mv lg ah) (hk : ∀ k, U k → W'.heap[k]? = W.heap[k]?) (hU : ∀ k, U k → U' k) (hl : ∀ k, U' k → k < W'.heap.size) : Mac W' U' S b bb bm vk vt vc vs vw vl va ths n cls shs ws mv lg ah :=
  ⟨(hk b h.ub.1).trans h.blk, (hk bb h.ubb.1).trans h.bk, h.mem.kept (fun k hs _ => hk k (h.su k hs)), h.thr.kept (fun k e => hk k (h.thr.lt k e).1.1) (fun k e => ⟨hU k (h.thr.lt k e).1.1, (h.thr.lt k e).1.2⟩), h.cal.kept (fun k e => hk k (h.cal.lt k e).1.1) (fun k e => ⟨hU k (h.cal.lt k e).1.1, (h.cal.lt k e).1.2⟩), h.shf.kept (fun k e => hk k (h.shf.lt k e).1.1) (fun k e => ⟨hU k (h.shf.lt k e).1.1, (h.shf.lt k e).1.2⟩), ⟨hU b h.ub.1, h.ub.2⟩, ⟨hU bb h.ubb.1, h.ubb.2⟩, fun k hs => hU k (h.su k hs), hl⟩
theorem Mac.below {W' : World} (h : Mac W U S b bb bm vk vt vc vs vw vl va ths n cls shs ws mv lg ah) (hB : Below W.heap.size W W') : Mac W' U S b bb bm vk vt vc vs vw vl va ths n cls shs ws mv lg ah :=
  h.kept (fun k hk => hB.block k (h.ul k hk)) (fun _ hk => hk) (fun k hk => Nat.lt_of_lt_of_le (h.ul k hk) hB.size)
theorem Mac.fr {W' : World} {T : Nat → Prop} (h : Mac W U S b bb bm vk vt vc vs vw vl va ths n cls shs ws mv lg ah) (hf : Fr W W' T) (hd : ∀ k, U k → ¬ T k) : Mac W' U S b bb bm vk vt vc vs vw vl va ths n cls shs ws mv lg ah :=
  h.kept (fun k hk => hf.block k (h.ul k hk) (hd k hk)) (fun _ hk => hk) (fun k hk => Nat.lt_of_lt_of_le (h.ul k hk) hf.size)
/-- More blocks as its own. -/
theorem Mac.own {U' : Nat → Prop} (h : Mac W U S b bb bm vk vt vc vs vw vl va ths n cls shs ws mv lg ah) (hU : ∀ k, U k → U' k) (hl : ∀ k, U' k → k < W.heap.size) : Mac W U' S b bb bm vk vt vc vs vw vl va ths n cls shs ws mv lg ah :=
  h.kept (fun _ _ => rfl) hU hl
theorem Mac.bne (h : Mac W U S b bb bm vk vt vc vs vw vl va ths n cls shs ws mv lg ah) : b ≠ bb := fun e => by
  have h1 := h.blk
  rw [e, h.bk] at h1
  simp at h1
theorem not_row {W : World} {S : Nat → Prop} {k : Nat} {cs : Array Value} {t e : TypeId} {size m : Nat} {v : Value} {xs : List Value} (hk : W.heap[k]? = some (.cells cs t (0, 0))) (h : Has W S e size v m xs) (hte : t ≠ e) : v.ownBlock ≠ some k := fun ev => by
  rcases h.2 with ⟨rfl, _⟩ | ⟨g, cap, cur, rfl, _, hg, _⟩
  · simp [Value.ownBlock] at ev
  · simp [Value.ownBlock] at ev
    subst ev
    rw [hk] at hg
    simp at hg
    exact hte hg.2
/-- The memory alone has turned. -/
theorem Mac.turned {W' : World} {vl' va' : Value} {ws' : List Int} {mv' : Int} {lg' : List Acc} {ah' : List Int} (h : Mac W U S b bb bm vk vt vc vs vw vl va ths n cls shs ws mv lg ah) (hm : Mem W' (fun k => S k ∨ W.heap.size ≤ k) bm vw vl' va' ws' mv' lg' ah') (hf : Fr W W' S) :
    Mac W' (fun k => (U k ∨ W.heap.size ≤ k) ∧ k < W'.heap.size) (fun k => (S k ∨ W.heap.size ≤ k) ∧ k < W'.heap.size) b bb bm vk vt vc vs vw vl' va' ths n cls shs ws' mv' lg' ah' := by
  have hs := hf.size
  have hk : ∀ k, U k → ¬ S k → W'.heap[k]? = W.heap[k]? := fun k hU hS => hf.block k (h.ul k hU) hS
  have up : ∀ k, U k ∧ ¬ S k → ((U k ∨ W.heap.size ≤ k) ∧ k < W'.heap.size) ∧ ¬ ((S k ∨ W.heap.size ≤ k) ∧ k < W'.heap.size) := fun k hU => by
    have := h.ul k hU.1
    refine ⟨⟨.inl hU.1, by omega⟩, fun hn => ?_⟩
    rcases hn.1 with hn | hn
    · exact hU.2 hn
    · omega
  refine ⟨(hk b h.ub.1 h.ub.2).trans h.blk, (hk bb h.ubb.1 h.ubb.2).trans h.bk, hm.narrow, h.thr.kept (fun k e => hk k (h.thr.lt k e).1.1 (h.thr.lt k e).1.2) (fun k e => up k (h.thr.lt k e).1), h.cal.kept (fun k e => hk k (h.cal.lt k e).1.1 (h.cal.lt k e).1.2) (fun k e => up k (h.cal.lt k e).1), h.shf.kept (fun k e => hk k (h.shf.lt k e).1.1 (h.shf.lt k e).1.2) (fun k e => up k (h.shf.lt k e).1), up b h.ub, up bb h.ubb, ?_, fun k hk => hk.2⟩
  rintro k ⟨hk | hk, hl⟩
  · exact ⟨.inl (h.su k hk), hl⟩
  · exact ⟨.inr hk, hl⟩
end
end Go.Proofs.Ytpckcfdjgpdooaa.Ma
