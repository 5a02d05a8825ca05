import Derived.Test.YtnapnhmmopajfaaGreatJ03
/-
  A MACHINE of the program as it lies in the world: its block, its book, its threads, its calls, its shifts, its memory. Tasks and the kit are values here: what lies behind them is told beside it.
-/
namespace Go.Proofs.YtnapnhmmopajfaaGreat.Ma
open Go.RowKit Mr Me
/-! ### rows of structs, flat -/
section
variable {α : Type} {f : α → List Value} {m : Nat}
theorem flat_length (hf : ∀ a, (f a).length = m) (l : List α) : (l.flatMap f).length = l.length * m := by
  induction l with
  | nil => simp
  | cons a l ih => rw [List.flatMap_cons, List.length_append, ih, hf, List.length_cons, Nat.add_mul]; omega
theorem flat_get (hf : ∀ a, (f a).length = m) (l : List α) (i j : Nat) (a : α) (ha : l[i]? = some a) (hj : j < m) : (l.flatMap f)[i * m + j]? = (f a)[j]? := by
  induction l generalizing i with
  | nil => simp at ha
  | cons x l ih =>
    cases i with
    | zero =>
      simp at ha
      subst ha
      rw [List.flatMap_cons, List.getElem?_append_left (by rw [hf]; omega)]
      congr 1
      omega
    | succ i =>
      rw [List.getElem?_cons_succ] at ha
      rw [List.flatMap_cons, List.getElem?_append_right (by rw [hf, Nat.add_mul]; omega), hf, ← ih i ha]
      congr 1
      rw [Nat.add_mul]
      omega
theorem flat_set (hf : ∀ a, (f a).length = m) (l : List α) (i j : Nat) (a b : α) (v : Value) (ha : l[i]? = some a) (hj : j < m) (hb : f b = (f a).set j v) : (l.flatMap f).set (i * m + j) v = (l.set i b).flatMap f := by
  induction l generalizing i with
  | nil => simp at ha
  | cons x l ih =>
    cases i with
    | zero =>
      simp at ha
      subst ha
      rw [List.flatMap_cons, List.set_cons_zero, List.flatMap_cons, hb, show 0 * m + j = j by omega, List.set_append_left _ _ (by rw [hf]; exact hj)]
    | succ i =>
      rw [List.getElem?_cons_succ] at ha
      rw [List.flatMap_cons, List.set_cons_succ, List.flatMap_cons, List.set_append_right _ _ (by rw [hf, Nat.add_mul]; omega), hf, ← ih i ha]
      congr 2
      rw [Nat.add_mul]
      omega
end
theorem has_put {w : World} {S : Nat → Prop} {e : TypeId} {size g n cap : Nat} {xs : List Value} (h : Has w S e size (.slice (some ⟨g, 0, none⟩) n cap) n xs) (i : Nat) (u : Value) :
    Has (w.setCell ⟨g, i, none⟩ u) S e size (.slice (some ⟨g, 0, none⟩) n cap) n (xs.set i u) := by
  rcases h.2 with ⟨hv, _⟩ | ⟨g', cap', cur, hv, hS, hg, h1, h2, h3, h4⟩
  · cases hv
  · cases hv
    refine ⟨by rw [List.length_set]; exact h.1, .inr ⟨g, cap, cur.setIfInBounds i u, rfl, hS, setBlk hg i u, h1, h2, by simpa using h3, ?_⟩⟩
    rw [Array.toList_setIfInBounds, ← h4]
    rw [List.take_set]

/-! ### what a machine is -/
/-- A call, as the book has it. -/
structure Cl where
  th : Int
  op : Int
  arg : Int
  data : Int
  beg : Int
  fin : Int
  pt : Int
  ak : Int
  av : Int
def Cl.cells (c : Cl) : List Value := [.int .i64 c.th, .int .i64 c.op, .int .i64 c.arg, .int .i64 c.data, .int .i64 c.beg, .int .i64 c.fin, .int .i64 c.pt, .int .i64 c.ak, .int .i64 c.av]
def Cl.val (c : Cl) : Value := .agg #[.int .i64 c.th, .int .i64 c.op, .int .i64 c.arg, .int .i64 c.data, .int .i64 c.beg, .int .i64 c.fin, .int .i64 c.pt, .int .i64 c.ak, .int .i64 c.av]
def clc (l : List Cl) : List Value := l.flatMap Cl.cells
theorem cl_len (c : Cl) : c.cells.length = 9 := rfl
/-- A thread: its task (an interface value), whether its call has made no step, its last call, what its task has told. -/
structure Th where
  tv : Value
  fr : Bool
  call : Int
  ak : Int
  av : Int
def Th.cells (t : Th) : List Value := [t.tv, .bool t.fr, .int .i64 t.call, .int .i64 t.ak, .int .i64 t.av]
def thc (l : List Th) : List Value := l.flatMap Th.cells
theorem th_len (t : Th) : t.cells.length = 5 := rfl
/-- A shift. -/
structure Sh where
  mv : Int
  th : Int
  slot : Int
  fr : Int
  to : Int
def Sh.cells (s : Sh) : List Value := [.int .i64 s.mv, .int .i64 s.th, .int .i64 s.slot, .int .i64 s.fr, .int .i64 s.to]
def shc (l : List Sh) : List Value := l.flatMap Sh.cells
theorem sh_len (s : Sh) : s.cells.length = 5 := rfl

structure Mac (W : World) (U S : Nat → Prop) (b bb bm : Nat) (vk vt vc vs vw vl va : Value) (ths : List Th) (n : Int) (cls : List Cl) (shs : List Sh) (ws : List Int) (mv : Int) (lg : List Acc) (ah : List Int) : Prop where
  blk : W.heap[b]? = some (.cells #[vk, vt, .int .i64 n, .pointer (some ⟨bb, 0, none⟩)] 81 (0, 0))
  bk : W.heap[bb]? = some (.cells #[.pointer (some ⟨bm, 0, none⟩), vc, vs] 93 (0, 0))
  mem : Mem W S bm vw vl va ws mv lg ah
  thr : Has W (fun k => U k ∧ ¬ S k) 87 5 vt ths.length (thc ths)
  cal : Has W (fun k => U k ∧ ¬ S k) 61 9 vc cls.length (clc cls)
  shf : Has W (fun k => U k ∧ ¬ S k) 68 5 vs shs.length (shc shs)
  ub : U b ∧ ¬ S b
  ubb : U bb ∧ ¬ S bb
  su : ∀ k, S k → U k
  ul : ∀ k, U k → k < W.heap.size

section
variable {W : World} {U S : Nat → Prop} {b bb bm : Nat} {vk vt vc vs vw vl va : Value} {ths : List Th} {n : Int} {cls : List Cl} {shs : List Sh} {ws : List Int} {mv : Int} {lg : List Acc} {ah : List Int}
theorem Mac.lt (h : Mac W U S b bb bm vk vt vc vs vw vl va ths n cls shs ws mv lg ah) : b < W.heap.size := (Array.getElem?_eq_some_iff.1 h.blk).1
theorem Mac.ltb (h : Mac W U S b bb bm vk vt vc vs vw vl va ths n cls shs ws mv lg ah) : bb < W.heap.size := (Array.getElem?_eq_some_iff.1 h.bk).1
theorem Mac.m0 (h : Mac W U S b bb bm vk vt vc vs vw vl va ths n cls shs ws mv lg ah) : W.cell? ⟨b, 0, none⟩ = some vk := by simp [World.cell?, h.blk]
theorem Mac.m1 (h : Mac W U S b bb bm vk vt vc vs vw vl va ths n cls shs ws mv lg ah) : W.cell? ⟨b, 1, none⟩ = some vt := by simp [World.cell?, h.blk]
theorem Mac.m2 (h : Mac W U S b bb bm vk vt vc vs vw vl va ths n cls shs ws mv lg ah) : W.cell? ⟨b, 2, none⟩ = some (.int .i64 n) := by simp [World.cell?, h.blk]
theorem Mac.m3 (h : Mac W U S b bb bm vk vt vc vs vw vl va ths n cls shs ws mv lg ah) : W.cell? ⟨b, 3, none⟩ = some (.pointer (some ⟨bb, 0, none⟩)) := by simp [World.cell?, h.blk]
theorem Mac.mz (h : Mac W U S b bb bm vk vt vc vs vw vl va ths n cls shs ws mv lg ah) (o : Nat) : W.frozen? ⟨b, o, none⟩ = false := by simp [World.frozen?, h.blk]
theorem Mac.b0 (h : Mac W U S b bb bm vk vt vc vs vw vl va ths n cls shs ws mv lg ah) : W.cell? ⟨bb, 0, none⟩ = some (.pointer (some ⟨bm, 0, none⟩)) := by simp [World.cell?, h.bk]
theorem Mac.b1 (h : Mac W U S b bb bm vk vt vc vs vw vl va ths n cls shs ws mv lg ah) : W.cell? ⟨bb, 1, none⟩ = some vc := by simp [World.cell?, h.bk]
theorem Mac.b2 (h : Mac W U S b bb bm vk vt vc vs vw vl va ths n cls shs ws mv lg ah) : W.cell? ⟨bb, 2, none⟩ = some vs := by simp [World.cell?, h.bk]
theorem Mac.bz (h : Mac W U S b bb bm vk vt vc vs vw vl va ths n cls shs ws mv lg ah) (o : Nat) : W.frozen? ⟨bb, o, none⟩ = false := by simp [World.frozen?, h.bk]
/-- Nothing of it has turned; it may count more blocks as its own. -/
theorem Mac.kept {W' : World} {U' : Nat → Prop} (h : Mac W U S b bb bm vk vt vc vs vw vl va ths n cls shs ws mv lg ah) (hk : ∀ k, U k → W'.heap[k]? = W.heap[k]?) (hU : ∀ k, U k → U' k) (hl : ∀ k, U' k → k < W'.heap.size) : Mac W' U' S b bb bm vk vt vc vs vw vl va ths n cls shs ws mv lg ah :=
  ⟨(hk b h.ub.1).trans h.blk, (hk bb h.ubb.1).trans h.bk, h.mem.kept (fun k hs _ => hk k (h.su k hs)), h.thr.kept (fun k e => hk k (h.thr.lt k e).1.1) (fun k e => ⟨hU k (h.thr.lt k e).1.1, (h.thr.lt k e).1.2⟩), h.cal.kept (fun k e => hk k (h.cal.lt k e).1.1) (fun k e => ⟨hU k (h.cal.lt k e).1.1, (h.cal.lt k e).1.2⟩), h.shf.kept (fun k e => hk k (h.shf.lt k e).1.1) (fun k e => ⟨hU k (h.shf.lt k e).1.1, (h.shf.lt k e).1.2⟩), ⟨hU b h.ub.1, h.ub.2⟩, ⟨hU bb h.ubb.1, h.ubb.2⟩, fun k hs => hU k (h.su k hs), hl⟩
theorem Mac.below {W' : World} (h : Mac W U S b bb bm vk vt vc vs vw vl va ths n cls shs ws mv lg ah) (hB : Below W.heap.size W W') : Mac W' U S b bb bm vk vt vc vs vw vl va ths n cls shs ws mv lg ah :=
  h.kept (fun k hk => hB.block k (h.ul k hk)) (fun _ hk => hk) (fun k hk => Nat.lt_of_lt_of_le (h.ul k hk) hB.size)
theorem Mac.fr {W' : World} {T : Nat → Prop} (h : Mac W U S b bb bm vk vt vc vs vw vl va ths n cls shs ws mv lg ah) (hf : Fr W W' T) (hd : ∀ k, U k → ¬ T k) : Mac W' U S b bb bm vk vt vc vs vw vl va ths n cls shs ws mv lg ah :=
  h.kept (fun k hk => hf.block k (h.ul k hk) (hd k hk)) (fun _ hk => hk) (fun k hk => Nat.lt_of_lt_of_le (h.ul k hk) hf.size)
/-- More blocks as its own. -/
theorem Mac.own {U' : Nat → Prop} (h : Mac W U S b bb bm vk vt vc vs vw vl va ths n cls shs ws mv lg ah) (hU : ∀ k, U k → U' k) (hl : ∀ k, U' k → k < W.heap.size) : Mac W U' S b bb bm vk vt vc vs vw vl va ths n cls shs ws mv lg ah :=
  h.kept (fun _ _ => rfl) hU hl
theorem Mac.bne (h : Mac W U S b bb bm vk vt vc vs vw vl va ths n cls shs ws mv lg ah) : b ≠ bb := fun e => by
  have h1 := h.blk
  rw [e, h.bk] at h1
  simp at h1
theorem not_row {W : World} {S : Nat → Prop} {k : Nat} {cs : Array Value} {t e : TypeId} {size m : Nat} {v : Value} {xs : List Value} (hk : W.heap[k]? = some (.cells cs t (0, 0))) (h : Has W S e size v m xs) (hte : t ≠ e) : v.ownBlock ≠ some k := fun ev => by
  rcases h.2 with ⟨rfl, _⟩ | ⟨g, cap, cur, rfl, _, hg, _⟩
  · simp [Value.ownBlock] at ev
  · simp [Value.ownBlock] at ev
    subst ev
    rw [hk] at hg
    simp at hg
    exact hte hg.2
/-- The memory alone has turned. -/
theorem Mac.turned {W' : World} {vl' va' : Value} {ws' : List Int} {mv' : Int} {lg' : List Acc} {ah' : List Int} (h : Mac W U S b bb bm vk vt vc vs vw vl va ths n cls shs ws mv lg ah) (hm : Mem W' (fun k => S k ∨ W.heap.size ≤ k) bm vw vl' va' ws' mv' lg' ah') (hf : Fr W W' S) :
    Mac W' (fun k => (U k ∨ W.heap.size ≤ k) ∧ k < W'.heap.size) (fun k => (S k ∨ W.heap.size ≤ k) ∧ k < W'.heap.size) b bb bm vk vt vc vs vw vl' va' ths n cls shs ws' mv' lg' ah' := by
  have hs := hf.size
  have hk : ∀ k, U k → ¬ S k → W'.heap[k]? = W.heap[k]? := fun k hU hS => hf.block k (h.ul k hU) hS
  have up : ∀ k, U k ∧ ¬ S k → ((U k ∨ W.heap.size ≤ k) ∧ k < W'.heap.size) ∧ ¬ ((S k ∨ W.heap.size ≤ k) ∧ k < W'.heap.size) := fun k hU => by
    have := h.ul k hU.1
    refine ⟨⟨.inl hU.1, by omega⟩, fun hn => ?_⟩
    rcases hn.1 with hn | hn
    · exact hU.2 hn
    · omega
  refine ⟨(hk b h.ub.1 h.ub.2).trans h.blk, (hk bb h.ubb.1 h.ubb.2).trans h.bk, hm.narrow, h.thr.kept (fun k e => hk k (h.thr.lt k e).1.1 (h.thr.lt k e).1.2) (fun k e => up k (h.thr.lt k e).1), h.cal.kept (fun k e => hk k (h.cal.lt k e).1.1 (h.cal.lt k e).1.2) (fun k e => up k (h.cal.lt k e).1), h.shf.kept (fun k e => hk k (h.shf.lt k e).1.1 (h.shf.lt k e).1.2) (fun k e => up k (h.shf.lt k e).1), up b h.ub, up bb h.ubb, ?_, fun k hk => hk.2⟩
  rintro k ⟨hk | hk, hl⟩
  · exact ⟨.inl (h.su k hk), hl⟩
  · exact ⟨.inr hk, hl⟩
end
end Go.Proofs.YtnapnhmmopajfaaGreat.Ma
/-
  THE DOCUMENT's DEQUE (reclaimref21) as it lies in the world.
-/
namespace Go.Proofs.YtnapnhmmopajfaaGreat.Rd
open Go.RowKit Mr Me Ma
set_option linter.unusedVariables false
/-- A thread: its call, the line, what it has read. -/
structure Rt where
  call : Int
  line : Int
  b : Int
  t : Int
  v : Int
def Rt.cells (t : Rt) : List Value := [.int .i64 t.call, .int .i64 t.line, .int .i64 t.b, .int .i64 t.t, .int .i64 t.v]
theorem rt_len (t : Rt) : t.cells.length = 5 := rfl
def nums (l : List Int) : List Value := l.map (Value.int .i64)
/-- What stays. -/
structure Rc where
  b : Nat
  nt : Nat
  r : Nat
  gw : Nat
  cw : Nat
  gt : Nat
  ct : Nat
/-- What changes. -/
structure Rs where
  ws : List Int
  ths : List Rt
  cls : List Cl
  lg : List Acc
  n : Int
  dn : Int
  la : Int
def Rc.box (q : Rc) (vc vl : Value) (n dn la : Int) : Obj := .cells #[.int .i64 (q.nt : Int), .int .i64 (q.r : Int), .slice (some ⟨q.gw, 0, none⟩) (2 + q.r) q.cw, .slice (some ⟨q.gt, 0, none⟩) q.nt q.ct, vc, vl, .int .i64 n, .int .i64 dn, .int .i64 la] 54 (0, 0)
structure Rm (W : World) (U : Nat → Prop) (q : Rc) (vc vl : Value) (s : Rs) : Prop where
  bx : W.heap[q.b]? = some (q.box vc vl s.n s.dn s.la)
  wd : Has W U 3 1 (.slice (some ⟨q.gw, 0, none⟩) (2 + q.r) q.cw) (2 + q.r) (nums s.ws)
  wn : s.ws.length = 2 + q.r
  th : Has W U 50 5 (.slice (some ⟨q.gt, 0, none⟩) q.nt q.ct) q.nt (s.ths.flatMap Rt.cells)
  tn : s.ths.length = q.nt
  cl : Has W U 61 9 vc s.cls.length (clc s.cls)
  lg : Has W U 65 7 vl s.lg.length (lgc s.lg)
  ub : U q.b
  ul : ∀ k, U k → k < W.heap.size
section
variable {W W' : World} {U U' : Nat → Prop} {q : Rc} {vc vl : Value} {s : Rs}
theorem Rm.kept (h : Rm W U q vc vl s) (hk : ∀ k, U k → W'.heap[k]? = W.heap[k]?) (hU : ∀ k, U k → U' k) (hl : ∀ k, U' k → k < W'.heap.size) : Rm W' U' q vc vl s :=
  have f : ∀ {e sz n : Nat} {v : Value} {xs : List Value}, Has W U e sz v n xs → Has W' U' e sz v n xs := fun hv => hv.kept (fun k e => hk k (hv.lt k e).1) (fun k e => hU k (hv.lt k e).1)
  ⟨(hk _ h.ub).trans h.bx, f h.wd, h.wn, f h.th, h.tn, f h.cl, f h.lg, hU _ h.ub, hl⟩
theorem Rm.below (h : Rm W U q vc vl s) (hB : Below W.heap.size W W') : Rm W' U q vc vl s :=
  h.kept (fun k hk => hB.block k (h.ul k hk)) (fun _ hk => hk) (fun k hk => Nat.lt_of_lt_of_le (h.ul k hk) hB.size)
theorem Rm.cells (h : Rm W U q vc vl s) : (W.cell? ⟨q.b, 0, none⟩ = some (.int .i64 (q.nt : Int)) ∧ W.cell? ⟨q.b, 1, none⟩ = some (.int .i64 (q.r : Int)) ∧ W.cell? ⟨q.b, 2, none⟩ = some (.slice (some ⟨q.gw, 0, none⟩) (2 + q.r) q.cw) ∧ W.cell? ⟨q.b, 3, none⟩ = some (.slice (some ⟨q.gt, 0, none⟩) q.nt q.ct)) ∧ W.cell? ⟨q.b, 4, none⟩ = some vc ∧ W.cell? ⟨q.b, 5, none⟩ = some vl ∧ W.cell? ⟨q.b, 6, none⟩ = some (.int .i64 s.n) ∧ W.cell? ⟨q.b, 7, none⟩ = some (.int .i64 s.dn) ∧ W.cell? ⟨q.b, 8, none⟩ = some (.int .i64 s.la) := by
  have h0 := h.bx
  unfold Rc.box at h0
  simp [World.cell?, h0]
theorem Rm.frz (h : Rm W U q vc vl s) (j : Nat) : W.frozen? ⟨q.b, j, none⟩ = false := by
  have h0 := h.bx
  unfold Rc.box at h0
  simp [World.frozen?, h0]
theorem Rm.lt (h : Rm W U q vc vl s) : q.b < W.heap.size := h.ul _ h.ub
theorem Rm.gtl (h : Rm W U q vc vl s) : U q.gt ∧ q.gt < W.heap.size := h.th.lt q.gt rfl
theorem Rm.gwl (h : Rm W U q vc vl s) : U q.gw ∧ q.gw < W.heap.size := h.wd.lt q.gw rfl
theorem Rm.gtb (h : Rm W U q vc vl s) : q.gt ≠ q.b := fun e => by
  have := not_row h.bx h.th (by decide)
  exact this (by rw [← e]; rfl)
theorem Rm.gwb (h : Rm W U q vc vl s) : q.gw ≠ q.b := fun e => by
  have := not_row h.bx h.wd (by decide)
  exact this (by rw [← e]; rfl)
theorem Rm.gwt (h : Rm W U q vc vl s) : q.gw ≠ q.gt := fun e => has_ne h.wd h.th (by decide) _ rfl (by rw [e]; rfl)
theorem Rm.tcell (h : Rm W U q vc vl s) {i : Nat} {t : Rt} (ht : s.ths[i]? = some t) (j : Nat) (hj : j < 5) {u : Value} (hu : t.cells[j]? = some u) : W.cell? ⟨q.gt, i * 5 + j, none⟩ = some u :=
  h.th.cells (g := q.gt) rfl _ _ (by rw [flat_get rt_len _ _ _ t ht hj]; exact hu)
theorem Rm.tcells (h : Rm W U q vc vl s) {i : Nat} {t : Rt} (ht : s.ths[i]? = some t) : W.cell? ⟨q.gt, i * 5, none⟩ = some (.int .i64 t.call) ∧ W.cell? ⟨q.gt, i * 5 + 1, none⟩ = some (.int .i64 t.line) ∧ W.cell? ⟨q.gt, i * 5 + 2, none⟩ = some (.int .i64 t.b) ∧ W.cell? ⟨q.gt, i * 5 + 3, none⟩ = some (.int .i64 t.t) ∧ W.cell? ⟨q.gt, i * 5 + 4, none⟩ = some (.int .i64 t.v) :=
  ⟨h.tcell ht 0 (by decide) rfl, h.tcell ht 1 (by decide) rfl, h.tcell ht 2 (by decide) rfl, h.tcell ht 3 (by decide) rfl, h.tcell ht 4 (by decide) rfl⟩
theorem Rm.tfrz (h : Rm W U q vc vl s) (j : Nat) : W.frozen? ⟨q.gt, j, none⟩ = false := h.th.frozen (g := q.gt) rfl j
theorem Rm.wfrz (h : Rm W U q vc vl s) (j : Nat) : W.frozen? ⟨q.gw, j, none⟩ = false := h.wd.frozen (g := q.gw) rfl j
theorem Rm.wcell (h : Rm W U q vc vl s) {a : Nat} {x : Int} (ha : s.ws[a]? = some x) : W.cell? ⟨q.gw, a, none⟩ = some (.int .i64 x) :=
  h.wd.cells (g := q.gw) rfl _ _ (by simp [nums, ha])
/-- A cell of a thread is written. -/
theorem Rm.putT (h : Rm W U q vc vl s) {i : Nat} {t t' : Rt} (ht : s.ths[i]? = some t) (j : Nat) (hj : j < 5) {u : Value} (hu : t'.cells = t.cells.set j u) : Rm (W.setCell ⟨q.gt, i * 5 + j, none⟩ u) U q vc vl { s with ths := s.ths.set i t' } := by
  have f : ∀ {e sz n : Nat} {v : Value} {xs : List Value}, Has W U e sz v n xs → e ≠ 50 → Has (W.setCell ⟨q.gt, i * 5 + j, none⟩ u) U e sz v n xs := fun hv hne => hv.setCell _ u (fun e => has_ne hv h.th hne _ e rfl)
  refine ⟨(Below.heap_setCell _ _ _ _ (fun e => h.gtb e.symm)).trans h.bx, f h.wd (by decide), h.wn, ?_, by show (s.ths.set i t').length = _; rw [List.length_set]; exact h.tn, f h.cl (by decide), f h.lg (by decide), h.ub, fun k hk => by simpa [World.setCell] using h.ul k hk⟩
  have hp := has_put h.th (i * 5 + j) u
  rw [flat_set rt_len _ _ _ t t' u ht hj hu] at hp
  exact hp
/-- A cell of a call is written. -/
theorem Rm.putC (h : Rm W U q vc vl s) {gc cc : Nat} (hv : vc = .slice (some ⟨gc, 0, none⟩) s.cls.length cc) {c : Nat} {x x' : Cl} (hx : s.cls[c]? = some x) (j : Nat) (hj : j < 9) {u : Value} (hu : x'.cells = x.cells.set j u) : Rm (W.setCell ⟨gc, c * 9 + j, none⟩ u) U q vc vl { s with cls := s.cls.set c x' } := by
  have hcl := h.cl
  rw [hv] at hcl
  have f : ∀ {e sz n : Nat} {v : Value} {xs : List Value}, Has W U e sz v n xs → e ≠ 61 → Has (W.setCell ⟨gc, c * 9 + j, none⟩ u) U e sz v n xs := fun hv hne => hv.setCell _ u (fun e => has_ne hv hcl hne _ e rfl)
  have hb : q.b ≠ gc := fun e => not_row h.bx hcl (by decide) (by rw [e]; rfl)
  refine ⟨(Below.heap_setCell _ _ _ _ hb).trans h.bx, f h.wd (by decide), h.wn, f h.th (by decide), h.tn, ?_, f h.lg (by decide), h.ub, fun k hk => by simpa [World.setCell] using h.ul k hk⟩
  have hp := has_put hcl (c * 9 + j) u
  rw [clc, flat_set cl_len _ _ _ x x' u hx hj hu] at hp
  show Has _ U _ 9 _ (s.cls.set c x').length _
  rw [List.length_set, hv]
  exact hp
/-- A word is written. -/
theorem Rm.putW (h : Rm W U q vc vl s) (ad : Nat) (x : Int) : Rm (W.setCell ⟨q.gw, ad, none⟩ (.int .i64 x)) U q vc vl { s with ws := s.ws.set ad x } := by
  have f : ∀ {e sz n : Nat} {v : Value} {xs : List Value}, Has W U e sz v n xs → e ≠ 3 → Has (W.setCell ⟨q.gw, ad, none⟩ (.int .i64 x)) U e sz v n xs := fun hv hne => hv.setCell _ _ (fun e => has_ne hv h.wd hne _ e rfl)
  refine ⟨(Below.heap_setCell _ _ _ _ (fun e => h.gwb e.symm)).trans h.bx, ?_, by show (s.ws.set ad x).length = _; rw [List.length_set]; exact h.wn, f h.th (by decide), h.tn, f h.cl (by decide), f h.lg (by decide), h.ub, fun k hk => by simpa [World.setCell] using h.ul k hk⟩
  have hp := has_put h.wd ad (.int .i64 x)
  have e : nums (s.ws.set ad x) = (nums s.ws).set ad (.int .i64 x) := by simp [nums, List.map_set]
  rw [e]
  exact hp
/-- A cell of the box is written. -/
theorem Rm.putB (h : Rm W U q vc vl s) (s' : Rs) (j : Nat) (u : Value) (h1 : s'.ws = s.ws) (h2 : s'.ths = s.ths) (h3 : s'.cls = s.cls) (h4 : s'.lg = s.lg) (hj : ∀ x, x = W.setCell ⟨q.b, j, none⟩ u → x.heap[q.b]? = some (q.box vc vl s'.n s'.dn s'.la)) : Rm (W.setCell ⟨q.b, j, none⟩ u) U q vc vl s' := by
  have f : ∀ {e sz n : Nat} {v : Value} {xs : List Value}, Has W U e sz v n xs → 54 ≠ e → Has (W.setCell ⟨q.b, j, none⟩ u) U e sz v n xs := fun hv hne => hv.setCell _ _ (not_row h.bx hv hne)
  refine ⟨hj _ rfl, by rw [h1]; exact f h.wd (by decide), by rw [h1]; exact h.wn, by rw [h2]; exact f h.th (by decide), by rw [h2]; exact h.tn, by rw [h3]; exact f h.cl (by decide), by rw [h4]; exact f h.lg (by decide), h.ub, fun k hk => by simpa [World.setCell] using h.ul k hk⟩
theorem Rm.putN (h : Rm W U q vc vl s) (x : Int) : Rm (W.setCell ⟨q.b, 6, none⟩ (.int .i64 x)) U q vc vl { s with n := x } :=
  h.putB _ 6 _ rfl rfl rfl rfl (fun w e => by have h0 := h.bx; unfold Rc.box at h0; rw [e, setBlk h0]; rfl)
theorem Rm.putD (h : Rm W U q vc vl s) (x : Int) : Rm (W.setCell ⟨q.b, 7, none⟩ (.int .i64 x)) U q vc vl { s with dn := x } :=
  h.putB _ 7 _ rfl rfl rfl rfl (fun w e => by have h0 := h.bx; unfold Rc.box at h0; rw [e, setBlk h0]; rfl)
theorem Rm.putL (h : Rm W U q vc vl s) (x : Int) : Rm (W.setCell ⟨q.b, 8, none⟩ (.int .i64 x)) U q vc vl { s with la := x } :=
  h.putB _ 8 _ rfl rfl rfl rfl (fun w e => by have h0 := h.bx; unfold Rc.box at h0; rw [e, setBlk h0]; rfl)
end
/-- What a part of a move leaves. -/
def OutR (W0 : World) (U : Nat → Prop) (q : Rc) (s' : Rs) (w : World) : Prop :=
  ∃ vc vl U', Rm w U' q vc vl s' ∧ (∀ k, U k → U' k) ∧ (∀ k, U' k → U k ∨ W0.heap.size ≤ k) ∧ Fr W0 w U
end Go.Proofs.YtnapnhmmopajfaaGreat.Rd
