import Derived.Test.YtkimmfdicohoiaaGreatJ02
import Derived.Deep.RegionHeld3
/-
  A MACHINE of the program as it lies in the world: its block, its book, its threads, its calls, its shifts, its memory. Tasks and the kit are values here: what lies behind them is told beside it.
-/
namespace Go.Proofs.YtkimmfdicohoiaaGreat.Ma
open Go.RowKit Mr Me
/-! ### rows of structs, flat -/
section
variable {α : Type} {f : α → List Value} {m : Nat}
theorem flat_length (hf : ∀ a, (f a).length = m) (l : List α) : (l.flatMap f).length = l.length * m := by
  induction l with
  | nil => simp
  | cons a l ih => rw [List.flatMap_cons, List.length_append, ih, hf, List.length_cons, Nat.add_mul]; omega
theorem flat_get (hf : ∀ a, (f a).length = m) (l : List α) (i j : Nat) (a : α) (ha : l[i]? = some a) (hj : j < m) : (l.flatMap f)[i * m + j]? = (f a)[j]? := by
  induction l generalizing i with
  | nil => simp at ha
  | cons x l ih =>
    cases i with
    | zero =>
      simp at ha
      subst ha
      rw [List.flatMap_cons, List.getElem?_append_left (by rw [hf]; omega)]
      congr 1
      omega
    | succ i =>
      rw [List.getElem?_cons_succ] at ha
      rw [List.flatMap_cons, List.getElem?_append_right (by rw [hf, Nat.add_mul]; omega), hf, ← ih i ha]
      congr 1
      rw [Nat.add_mul]
      omega
theorem flat_set (hf : ∀ a, (f a).length = m) (l : List α) (i j : Nat) (a b : α) (v : Value) (ha : l[i]? = some a) (hj : j < m) (hb : f b = (f a).set j v) : (l.flatMap f).set (i * m + j) v = (l.set i b).flatMap f := by
  induction l generalizing i with
  | nil => simp at ha
  | cons x l ih =>
    cases i with
    | zero =>
      simp at ha
      subst ha
      rw [List.flatMap_cons, List.set_cons_zero, List.flatMap_cons, hb, show 0 * m + j = j by omega, List.set_append_left _ _ (by rw [hf]; exact hj)]
    | succ i =>
      rw [List.getElem?_cons_succ] at ha
      rw [List.flatMap_cons, List.set_cons_succ, List.flatMap_cons, List.set_append_right _ _ (by rw [hf, Nat.add_mul]; omega), hf, ← ih i ha]
      congr 2
      rw [Nat.add_mul]
      omega
end
theorem has_put {w : World} {S : Nat → Prop} {e : TypeId} {size g n cap : Nat} {xs : List Value} (h : Has w S e size (.slice (some ⟨g, 0, none⟩) n cap) n xs) (i : Nat) (u : Value) :
    Has (w.setCell ⟨g, i, none⟩ u) S e size (.slice (some ⟨g, 0, none⟩) n cap) n (xs.set i u) := by
  rcases h.2 with ⟨hv, _⟩ | ⟨g', cap', cur, hv, hS, hg, h1, h2, h3, h4⟩
  · cases hv
  · cases hv
    refine ⟨by rw [List.length_set]; exact h.1, .inr ⟨g, cap, cur.setIfInBounds i u, rfl, hS, setBlk hg i u, h1, h2, by simpa using h3, ?_⟩⟩
    rw [Array.toList_setIfInBounds, ← h4]
    rw [List.take_set]

/-! ### what a machine is -/
/-- A call, as the book has it. -/
structure Cl where
  th : Int
  op : Int
  arg : Int
  data : Int
  beg : Int
  fin : Int
  pt : Int
  ak : Int
  av : Int
def Cl.cells (c : Cl) : List Value := [.int .i64 c.th, .int .i64 c.op, .int .i64 c.arg, .int .i64 c.data, .int .i64 c.beg, .int .i64 c.fin, .int .i64 c.pt, .int .i64 c.ak, .int .i64 c.av]
def Cl.val (c : Cl) : Value := .agg #[.int .i64 c.th, .int .i64 c.op, .int .i64 c.arg, .int .i64 c.data, .int .i64 c.beg, .int .i64 c.fin, .int .i64 c.pt, .int .i64 c.ak, .int .i64 c.av]
def clc (l : List Cl) : List Value := l.flatMap Cl.cells
theorem cl_len (c : Cl) : c.cells.length = 9 := rfl
/-- A thread: its task (an interface value), whether its call has made no step, its last call, what its task has told. -/
structure Th where
  tv : Value
  fr : Bool
  call : Int
  ak : Int
  av : Int
def Th.cells (t : Th) : List Value := [t.tv, .bool t.fr, .int .i64 t.call, .int .i64 t.ak, .int .i64 t.av]
def thc (l : List Th) : List Value := l.flatMap Th.cells
theorem th_len (t : Th) : t.cells.length = 5 := rfl
/-- A shift. -/
structure Sh where
  mv : Int
  th : Int
  slot : Int
  fr : Int
  to : Int
def Sh.cells (s : Sh) : List Value := [.int .i64 s.mv, .int .i64 s.th, .int .i64 s.slot, .int .i64 s.fr, .int .i64 s.to]
def shc (l : List Sh) : List Value := l.flatMap Sh.cells
theorem sh_len (s : Sh) : s.cells.length = 5 := rfl

structure Mac (W : World) (U S : Nat → Prop) (b bb bm : Nat) (vk vt vc vs vw vl va : Value) (ths : List Th) (n : Int) (cls : List Cl) (shs : List Sh) (ws : List Int) (mv : Int) (lg : List Acc) (ah : List Int) : Prop where
  blk : W.heap[b]? = some (.cells #[vk, vt, .int .i64 n, .pointer (some ⟨bb, 0, none⟩)] 114 (0, 0))
  bk : W.heap[bb]? = some (.cells #[.pointer (some ⟨bm, 0, none⟩), vc, vs] 112 (0, 0))
  mem : Mem W S bm vw vl va ws mv lg ah
  thr : Has W (fun k => U k ∧ ¬ S k) 109 5 vt ths.length (thc ths)
  cal : Has W (fun k => U k ∧ ¬ S k) 90 9 vc cls.length (clc cls)
  shf : Has W (fun k => U k ∧ ¬ S k) 96 5 vs shs.length (shc shs)
  ub : U b ∧ ¬ S b
  ubb : U bb ∧ ¬ S bb
  su : ∀ k, S k → U k
  ul : ∀ k, U k → k < W.heap.size

section
variable {W : World} {U S : Nat → Prop} {b bb bm : Nat} {vk vt vc vs vw vl va : Value} {ths : List Th} {n : Int} {cls : List Cl} {shs : List Sh} {ws : List Int} {mv : Int} {lg : List Acc} {ah : List Int}
theorem Mac.lt (h : Mac W U S b bb bm vk vt vc vs vw vl va ths n cls shs ws mv lg ah) : b < W.heap.size := (Array.getElem?_eq_some_iff.1 h.blk).1
theorem Mac.ltb (h : Mac W U S b bb bm vk vt vc vs vw vl va ths n cls shs ws mv lg ah) : bb < W.heap.size := (Array.getElem?_eq_some_iff.1 h.bk).1
theorem Mac.m0 (h : Mac W U S b bb bm vk vt vc vs vw vl va ths n cls shs ws mv lg ah) : W.cell? ⟨b, 0, none⟩ = some vk := by simp [World.cell?, h.blk]
theorem Mac.m1 (h : Mac W U S b bb bm vk vt vc vs vw vl va ths n cls shs ws mv lg ah) : W.cell? ⟨b, 1, none⟩ = some vt := by simp [World.cell?, h.blk]
theorem Mac.m2 (h : Mac W U S b bb bm vk vt vc vs vw vl va ths n cls shs ws mv lg ah) : W.cell? ⟨b, 2, none⟩ = some (.int .i64 n) := by simp [World.cell?, h.blk]
theorem Mac.m3 (h : Mac W U S b bb bm vk vt vc vs vw vl va ths n cls shs ws mv lg ah) : W.cell? ⟨b, 3, none⟩ = some (.pointer (some ⟨bb, 0, none⟩)) := by simp [World.cell?, h.blk]
theorem Mac.mz (h : Mac W U S b bb bm vk vt vc vs vw vl va ths n cls shs ws mv lg ah) (o : Nat) : W.frozen? ⟨b, o, none⟩ = false := by simp [World.frozen?, h.blk]
theorem Mac.b0 (h : Mac W U S b bb bm vk vt vc vs vw vl va ths n cls shs ws mv lg ah) : W.cell? ⟨bb, 0, none⟩ = some (.pointer (some ⟨bm, 0, none⟩)) := by simp [World.cell?, h.bk]
theorem Mac.b1 (h : Mac W U S b bb bm vk vt vc vs vw vl va ths n cls shs ws mv lg ah) : W.cell? ⟨bb, 1, none⟩ = some vc := by simp [World.cell?, h.bk]
theorem Mac.b2 (h : Mac W U S b bb bm vk vt vc vs vw vl va ths n cls shs ws mv lg ah) : W.cell? ⟨bb, 2, none⟩ = some vs := by simp [World.cell?, h.bk]
theorem Mac.bz (h : Mac W U S b bb bm vk vt vc vs vw vl va ths n cls shs ws mv lg ah) (o : Nat) : W.frozen? ⟨bb, o, none⟩ = false := by simp [World.frozen?, h.bk]
/-- Nothing of it has turned; it may count more blocks as its own. -/
theorem Mac.kept {W' : World} {U' : Nat → Prop} (h : Mac W U S b bb bm vk vt vc vs vw vl va ths n cls shs ws mv lg ah) (hk : ∀ k, U k → W'.heap[k]? = W.heap[k]?) (hU : ∀ k, U k → U' k) (hl : ∀ k, U' k → k < W'.heap.size) : Mac W' U' S b bb bm vk vt vc vs vw vl va ths n cls shs ws mv lg ah :=
  ⟨(hk b h.ub.1).trans h.blk, (hk bb h.ubb.1).trans h.bk, h.mem.kept (fun k hs _ => hk k (h.su k hs)), h.thr.kept (fun k e => hk k (h.thr.lt k e).1.1) (fun k e => ⟨hU k (h.thr.lt k e).1.1, (h.thr.lt k e).1.2⟩), h.cal.kept (fun k e => hk k (h.cal.lt k e).1.1) (fun k e => ⟨hU k (h.cal.lt k e).1.1, (h.cal.lt k e).1.2⟩), h.shf.kept (fun k e => hk k (h.shf.lt k e).1.1) (fun k e => ⟨hU k (h.shf.lt k e).1.1, (h.shf.lt k e).1.2⟩), ⟨hU b h.ub.1, h.ub.2⟩, ⟨hU bb h.ubb.1, h.ubb.2⟩, fun k hs => hU k (h.su k hs), hl⟩
theorem Mac.below {W' : World} (h : Mac W U S b bb bm vk vt vc vs vw vl va ths n cls shs ws mv lg ah) (hB : Below W.heap.size W W') : Mac W' U S b bb bm vk vt vc vs vw vl va ths n cls shs ws mv lg ah :=
  h.kept (fun k hk => hB.block k (h.ul k hk)) (fun _ hk => hk) (fun k hk => Nat.lt_of_lt_of_le (h.ul k hk) hB.size)
theorem Mac.fr {W' : World} {T : Nat → Prop} (h : Mac W U S b bb bm vk vt vc vs vw vl va ths n cls shs ws mv lg ah) (hf : Fr W W' T) (hd : ∀ k, U k → ¬ T k) : Mac W' U S b bb bm vk vt vc vs vw vl va ths n cls shs ws mv lg ah :=
  h.kept (fun k hk => hf.block k (h.ul k hk) (hd k hk)) (fun _ hk => hk) (fun k hk => Nat.lt_of_lt_of_le (h.ul k hk) hf.size)
/-- More blocks as its own. -/
theorem Mac.own {U' : Nat → Prop} (h : Mac W U S b bb bm vk vt vc vs vw vl va ths n cls shs ws mv lg ah) (hU : ∀ k, U k → U' k) (hl : ∀ k, U' k → k < W.heap.size) : Mac W U' S b bb bm vk vt vc vs vw vl va ths n cls shs ws mv lg ah :=
  h.kept (fun _ _ => rfl) hU hl
theorem Mac.bne (h : Mac W U S b bb bm vk vt vc vs vw vl va ths n cls shs ws mv lg ah) : b ≠ bb := fun e => by
  have h1 := h.blk
  rw [e, h.bk] at h1
  simp at h1
theorem not_row {W : World} {S : Nat → Prop} {k : Nat} {cs : Array Value} {t e : TypeId} {size m : Nat} {v : Value} {xs : List Value} (hk : W.heap[k]? = some (.cells cs t (0, 0))) (h : Has W S e size v m xs) (hte : t ≠ e) : v.ownBlock ≠ some k := fun ev => by
  rcases h.2 with ⟨rfl, _⟩ | ⟨g, cap, cur, rfl, _, hg, _⟩
  · simp [Value.ownBlock] at ev
  · simp [Value.ownBlock] at ev
    subst ev
    rw [hk] at hg
    simp at hg
    exact hte hg.2
/-- The memory alone has turned. -/
theorem Mac.turned {W' : World} {vl' va' : Value} {ws' : List Int} {mv' : Int} {lg' : List Acc} {ah' : List Int} (h : Mac W U S b bb bm vk vt vc vs vw vl va ths n cls shs ws mv lg ah) (hm : Mem W' (fun k => S k ∨ W.heap.size ≤ k) bm vw vl' va' ws' mv' lg' ah') (hf : Fr W W' S) :
    Mac W' (fun k => (U k ∨ W.heap.size ≤ k) ∧ k < W'.heap.size) (fun k => (S k ∨ W.heap.size ≤ k) ∧ k < W'.heap.size) b bb bm vk vt vc vs vw vl' va' ths n cls shs ws' mv' lg' ah' := by
  have hs := hf.size
  have hk : ∀ k, U k → ¬ S k → W'.heap[k]? = W.heap[k]? := fun k hU hS => hf.block k (h.ul k hU) hS
  have up : ∀ k, U k ∧ ¬ S k → ((U k ∨ W.heap.size ≤ k) ∧ k < W'.heap.size) ∧ ¬ ((S k ∨ W.heap.size ≤ k) ∧ k < W'.heap.size) := fun k hU => by
    have := h.ul k hU.1
    refine ⟨⟨.inl hU.1, by omega⟩, fun hn => ?_⟩
    rcases hn.1 with hn | hn
    · exact hU.2 hn
    · omega
  refine ⟨(hk b h.ub.1 h.ub.2).trans h.blk, (hk bb h.ubb.1 h.ubb.2).trans h.bk, hm.narrow, h.thr.kept (fun k e => hk k (h.thr.lt k e).1.1 (h.thr.lt k e).1.2) (fun k e => up k (h.thr.lt k e).1), h.cal.kept (fun k e => hk k (h.cal.lt k e).1.1 (h.cal.lt k e).1.2) (fun k e => up k (h.cal.lt k e).1), h.shf.kept (fun k e => hk k (h.shf.lt k e).1.1 (h.shf.lt k e).1.2) (fun k e => up k (h.shf.lt k e).1), up b h.ub, up bb h.ubb, ?_, fun k hk => hk.2⟩
  rintro k ⟨hk | hk, hl⟩
  · exact ⟨.inl (h.su k hk), hl⟩
  · exact ⟨.inr hk, hl⟩
end
end Go.Proofs.YtkimmfdicohoiaaGreat.Ma
/-
  THE DESK, for the time of one step: open, Now, access, Load, Swap, Point, Answer by their contracts.
-/
namespace Go.Proofs.YtkimmfdicohoiaaGreat.Ma
open Go.RowKit Mr Me
/-- Where the parts of a machine lie. -/
structure Ph where
  b : Nat
  bb : Nat
  bm : Nat
  bd : Nat
  be : Nat
  gt : Nat
  nt : Nat
  ct : Nat
  vk : Value
  vc : Value
  vs : Value
  vw : Value
/-- What a machine holds. -/
structure Ss where
  ths : List Th
  n : Int
  cls : List Cl
  shs : List Sh
  ws : List Int
  mv : Int
  lg : List Acc
  ah : List Int
structure Dk (W : World) (bd be bb : Nat) (pt : Addr) (i now : Int) (sp : Bool) : Prop where
  dk : W.heap[bd]? = some (.cells #[.pointer (some ⟨be, 0, none⟩)] 182 (0, 0))
  bn : W.heap[be]? = some (.cells #[.pointer (some ⟨bb, 0, none⟩), .pointer (some pt), .int .i64 i, .int .i64 now, .bool sp] 179 (0, 0))
section
variable {W : World} {bd be bb : Nat} {pt : Addr} {i now : Int} {sp : Bool}
theorem Dk.d0 (h : Dk W bd be bb pt i now sp) : W.cell? ⟨bd, 0, none⟩ = some (.pointer (some ⟨be, 0, none⟩)) := by simp [World.cell?, h.dk]
theorem Dk.e0 (h : Dk W bd be bb pt i now sp) : W.cell? ⟨be, 0, none⟩ = some (.pointer (some ⟨bb, 0, none⟩)) := by simp [World.cell?, h.bn]
theorem Dk.e1 (h : Dk W bd be bb pt i now sp) : W.cell? ⟨be, 1, none⟩ = some (.pointer (some pt)) := by simp [World.cell?, h.bn]
theorem Dk.e2 (h : Dk W bd be bb pt i now sp) : W.cell? ⟨be, 2, none⟩ = some (.int .i64 i) := by simp [World.cell?, h.bn]
theorem Dk.e3 (h : Dk W bd be bb pt i now sp) : W.cell? ⟨be, 3, none⟩ = some (.int .i64 now) := by simp [World.cell?, h.bn]
theorem Dk.e4 (h : Dk W bd be bb pt i now sp) : W.cell? ⟨be, 4, none⟩ = some (.bool sp) := by simp [World.cell?, h.bn]
theorem Dk.ez (h : Dk W bd be bb pt i now sp) (o : Nat) : W.frozen? ⟨be, o, none⟩ = false := by simp [World.frozen?, h.bn]
theorem Dk.ltd (h : Dk W bd be bb pt i now sp) : bd < W.heap.size := (Array.getElem?_eq_some_iff.1 h.dk).1
theorem Dk.lte (h : Dk W bd be bb pt i now sp) : be < W.heap.size := (Array.getElem?_eq_some_iff.1 h.bn).1
theorem Dk.ne (h : Dk W bd be bb pt i now sp) : bd ≠ be := fun e => by
  have h1 := h.dk
  rw [e, h.bn] at h1
  simp at h1
theorem Dk.kept {W' : World} (h : Dk W bd be bb pt i now sp) (h1 : W'.heap[bd]? = W.heap[bd]?) (h2 : W'.heap[be]? = W.heap[be]?) : Dk W' bd be bb pt i now sp := ⟨h1.trans h.dk, h2.trans h.bn⟩
theorem open_yes (h : Dk W bd be bb pt i now sp) : Calls Tryz.prog 96 #[.pointer (some ⟨bd, 0, none⟩)] W fun e w' => e = .returned (.bool true) ∧ w' = W := by
  have d0 := h.d0
  have e0 := h.e0
  clear h
  go_enter Tryz.func96, Tryz.ntmps96
  go_wp2
  go_ret
  exact ⟨rfl, rfl⟩
end
/-- Objects beside it: each lies where X says, no part of the machine but its own. -/
def Xs (W : World) (U S : Nat → Prop) (p : Ph) (X : Nat → Obj → Prop) : Prop :=
  ∀ k o, X k o → W.heap[k]? = some o ∧ U k ∧ ¬ S k ∧ k ≠ p.b ∧ k ≠ p.bb ∧ k ≠ p.gt ∧ p.vc.ownBlock ≠ some k ∧ p.vs.ownBlock ≠ some k
/-- The state within a step: since W0, when the memory had the blocks S0 and the machine U0, nothing else has turned but the rows of the threads and of the calls, the blocks X0, and new blocks. -/
def D (W0 : World) (U0 S0 X0 : Nat → Prop) (p : Ph) (i : Nat) (now : Int) (X : Nat → Obj → Prop) (sp : Bool) (s : Ss) (W : World) : Prop :=
  ∃ U S vl va, Xs W U S p X ∧ Mac W U S p.b p.bb p.bm p.vk (.slice (some ⟨p.gt, 0, none⟩) p.nt p.ct) p.vc p.vs p.vw vl va s.ths s.n s.cls s.shs s.ws s.mv s.lg s.ah ∧ Dk W p.bd p.be p.bb ⟨p.gt, i * 5, none⟩ i now sp ∧ (¬ U p.bd ∧ ¬ U p.be ∧ W0.heap.size ≤ p.bd ∧ W0.heap.size ≤ p.be) ∧
    (∀ k, S k → S0 k ∨ W0.heap.size ≤ k) ∧ (∀ k, U k → U0 k ∨ W0.heap.size ≤ k) ∧ (∀ k, U0 k → U k) ∧ Fr W0 W (fun k => S0 k ∨ X0 k ∨ k = p.gt ∨ p.vc.ownBlock = some k)
section
variable {W0 : World} {U0 S0 X0 : Nat → Prop} {p : Ph} {i : Nat} {now : Int} {X : Nat → Obj → Prop} {s : Ss} {W : World}
theorem D.dk {sp : Bool} (h : D W0 U0 S0 X0 p i now X sp s W) : Dk W p.bd p.be p.bb ⟨p.gt, i * 5, none⟩ i now sp := by obtain ⟨U, S, vl, va, hx, hm, hd, _⟩ := h; exact hd
/-- The memory alone has turned. -/
theorem D.turned {W' : World} {sp : Bool} {U S : Nat → Prop} {vl va vl' va' : Value} {ws' : List Int} {mv' : Int} {lg' : List Acc} {ah' : List Int}
    (hx : Xs W U S p X) (hm : Mac W U S p.b p.bb p.bm p.vk (.slice (some ⟨p.gt, 0, none⟩) p.nt p.ct) p.vc p.vs p.vw vl va s.ths s.n s.cls s.shs s.ws s.mv s.lg s.ah) (hd : Dk W p.bd p.be p.bb ⟨p.gt, i * 5, none⟩ i now sp) (hU : ¬ U p.bd ∧ ¬ U p.be ∧ W0.heap.size ≤ p.bd ∧ W0.heap.size ≤ p.be)
    (hS0 : ∀ k, S k → S0 k ∨ W0.heap.size ≤ k) (hU0 : ∀ k, U k → U0 k ∨ W0.heap.size ≤ k) (hU1 : ∀ k, U0 k → U k) (hf : Fr W0 W (fun k => S0 k ∨ X0 k ∨ k = p.gt ∨ p.vc.ownBlock = some k))
    (hm' : Mem W' (fun k => S k ∨ W.heap.size ≤ k) p.bm p.vw vl' va' ws' mv' lg' ah') (hf' : Fr W W' S) : D W0 U0 S0 X0 p i now X sp { s with ws := ws', mv := mv', lg := lg', ah := ah' } W' := by
  have h0 := hf.size
  have h1 := hf'.size
  have ld := hd.ltd
  have le := hd.lte
  have nd : ¬ S p.bd := fun e => hU.1 (hm.su _ e)
  have nb : ¬ S p.be := fun e => hU.2.1 (hm.su _ e)
  have hX : Xs W' (fun k => (U k ∨ W.heap.size ≤ k) ∧ k < W'.heap.size) (fun k => (S k ∨ W.heap.size ≤ k) ∧ k < W'.heap.size) p X := fun k o hk => by
    obtain ⟨x1, x2, x3, x4⟩ := hx k o hk
    have hl := hm.ul k x2
    refine ⟨(hf'.block k hl x3).trans x1, ⟨.inl x2, by omega⟩, ?_, x4⟩
    rintro ⟨h | h, _⟩
    · exact x3 h
    · omega
  refine ⟨_, _, vl', va', hX, hm.turned hm' hf', hd.kept (hf'.block _ ld nd) (hf'.block _ le nb), ⟨?_, ?_, hU.2.2⟩, ?_, ?_, ?_, ?_⟩
  · rintro ⟨h | h, _⟩
    · exact hU.1 h
    · omega
  · rintro ⟨h | h, _⟩
    · exact hU.2.1 h
    · omega
  · rintro k ⟨h | h, _⟩
    · exact hS0 k h
    · exact .inr (by omega)
  · rintro k ⟨h | h, _⟩
    · exact hU0 k h
    · exact .inr (by omega)
  · exact fun k hk => ⟨.inl (hU1 k hk), Nat.lt_of_lt_of_le (hm.ul k (hU1 k hk)) h1⟩
  · exact hf.trans (hf'.mono (fun k hk => (hS0 k hk).elim (fun h => .inl (.inl h)) .inr))
set_option maxRecDepth 100000 in
theorem access_yes (h : D W0 U0 S0 X0 p i now X false s W) :
    Calls Tryz.prog 124 #[.pointer (some ⟨p.bd, 0, none⟩)] W fun e w' => e = .returned (.bool true) ∧ D W0 U0 S0 X0 p i now X false { s with mv := now } w' := by
  obtain ⟨U, S, vl, va, hx, hm, hd, hU, hS0, hU0, hU1, hf⟩ := h
  have C := open_yes hd
  have N := fun (w1 : World) (B : Below W.heap.size W w1) => now_any (hm.mem.below B) now
  have hdr : Below W.heap.size W W.drew := (Below.refl _ _).drew
  have fin := fun (w' : World) (h1 : Mem w' S p.bm p.vw vl va s.ws now s.lg s.ah) (h2 : Fr W w' S) => D.turned hx hm hd hU hS0 hU0 hU1 hf (h1.mono (fun _ => .inl)) h2
  have d0 := hd.d0
  have e0 := hd.e0
  have e3 := hd.e3
  have e4 := hd.e4
  have b0 := hm.b0
  have ld := hd.ltd
  have le := hd.lte
  have lb := hm.ltb
  have nd : ¬ S p.bd := fun e => hU.1 (hm.su _ e)
  have nb : ¬ S p.be := fun e => hU.2.1 (hm.su _ e)
  have nbb := hm.ubb.2
  replace hm := Mr.hid hm
  replace hd := Mr.hid hd
  clear hf hS0 hU0 hU1
  go_enter Tryz.func124, Tryz.ntmps124
  go_wp2_with (go_at_call 96; refine C.mono ?_; clear C; rintro e w' ⟨rfl, hw⟩; obtain rfl := hw.symm)
  go_region_held3 (fun w' => w'.cell? ⟨p.bd, 0, none⟩ = some (.pointer (some ⟨p.be, 0, none⟩)) ∧ w'.cell? ⟨p.be, 0, none⟩ = some (.pointer (some ⟨p.bb, 0, none⟩)) ∧ w'.cell? ⟨p.be, 3, none⟩ = some (.int .i64 now) ∧ w'.cell? ⟨p.bb, 0, none⟩ = some (.pointer (some ⟨p.bm, 0, none⟩))) (go_keep)
    (first | (go_at_call 141; refine (N _ hdr).mono ?_; clear N; rintro e w1 ⟨rfl, h1, h2⟩; have g1 := (World.cell?_of_block (h2.block p.bd ld nd)).trans d0; have g2 := (World.cell?_of_block (h2.block p.be le nb)).trans e0; have g3 := (World.cell?_of_block (h2.block p.be le nb)).trans e3; have g4 := (World.cell?_of_block (h2.block p.bb lb nbb)).trans b0))
  go_wp2
  go_ret
  exact ⟨rfl, fin _ h1 ((Fr.refl W S).drew.trans (h2.mono (fun _ => .inl)))⟩
/-- What the desk's cells and the book's hold. -/
structure Dc (p : Ph) (i : Nat) (now : Int) (sp : Bool) (W : World) : Prop where
  d0 : W.cell? ⟨p.bd, 0, none⟩ = some (.pointer (some ⟨p.be, 0, none⟩))
  e0 : W.cell? ⟨p.be, 0, none⟩ = some (.pointer (some ⟨p.bb, 0, none⟩))
  e1 : W.cell? ⟨p.be, 1, none⟩ = some (.pointer (some ⟨p.gt, i * 5, none⟩))
  e2 : W.cell? ⟨p.be, 2, none⟩ = some (.int .i64 i)
  e3 : W.cell? ⟨p.be, 3, none⟩ = some (.int .i64 now)
  e4 : W.cell? ⟨p.be, 4, none⟩ = some (.bool sp)
  e4z : W.frozen? ⟨p.be, 4, none⟩ = false
  b0 : W.cell? ⟨p.bb, 0, none⟩ = some (.pointer (some ⟨p.bm, 0, none⟩))
  b1 : W.cell? ⟨p.bb, 1, none⟩ = some p.vc
theorem D.cells {sp : Bool} (h : D W0 U0 S0 X0 p i now X sp s W) : Dc p i now sp W := by
  obtain ⟨U, S, vl, va, hx, hm, hd, _⟩ := h
  exact ⟨hd.d0, hd.e0, hd.e1, hd.e2, hd.e3, hd.e4, hd.ez 4, hm.b0, hm.b1⟩
theorem D.drew {sp : Bool} (h : D W0 U0 S0 X0 p i now X sp s W) : D W0 U0 S0 X0 p i now X sp s W.drew := by
  obtain ⟨U, S, vl, va, hx, hm, hd, hU, hS0, hU0, hU1, hf⟩ := h
  exact ⟨U, S, vl, va, hx, hm.below (Below.refl _ _).drew, hd.kept rfl rfl, hU, hS0, hU0, hU1, hf.drew⟩
theorem D.alloc {sp : Bool} (h : D W0 U0 S0 X0 p i now X sp s W) (o : Obj) : D W0 U0 S0 X0 p i now X sp s (W.alloc o) := by
  obtain ⟨U, S, vl, va, hx, hm, hd, hU, hS0, hU0, hU1, hf⟩ := h
  exact ⟨U, S, vl, va, fun k o' hk => ⟨(Below.heap_alloc _ _ _ (hm.ul k (hx k o' hk).2.1)).trans (hx k o' hk).1, (hx k o' hk).2⟩, hm.below ((Below.refl _ _).alloc (Nat.le_refl _) o), hd.kept (Below.heap_alloc _ _ _ hd.ltd) (Below.heap_alloc _ _ _ hd.lte), hU, hS0, hU0, hU1, hf.alloc o⟩
theorem D.size {sp : Bool} (h : D W0 U0 S0 X0 p i now X sp s W) : W0.heap.size ≤ W.heap.size := by
  obtain ⟨U, S, vl, va, hx, hm, hd, hU, hS0, hU0, hU1, hf⟩ := h
  exact hf.size
theorem D.spent {sp : Bool} (h : D W0 U0 S0 X0 p i now X sp s W) (sp' : Bool) : D W0 U0 S0 X0 p i now X sp' s (W.setCell ⟨p.be, 4, none⟩ (.bool sp')) := by
  obtain ⟨U, S, vl, va, hx, hm, hd, hU, hS0, hU0, hU1, hf⟩ := h
  have hk : ∀ k, k ≠ p.be → (W.setCell ⟨p.be, 4, none⟩ (.bool sp')).heap[k]? = W.heap[k]? := fun k hne => Below.heap_setCell _ _ _ k hne
  refine ⟨U, S, vl, va, fun k o' hk' => ⟨(hk k (fun e => hU.2.1 (e ▸ (hx k o' hk').2.1))).trans (hx k o' hk').1, (hx k o' hk').2⟩, hm.kept (fun k hk' => hk k (fun e => hU.2.1 (e ▸ hk'))) (fun _ h => h) (fun k h => by simpa using hm.ul k h), ⟨(hk _ hd.ne).trans hd.dk, ?_⟩, hU, hS0, hU0, hU1, hf.setCell _ _ (.inr hU.2.2.2)⟩
  rw [setBlk hd.bn]; rfl
/-- What a load makes of it. -/
def Ss.loads (s : Ss) (i : Nat) (now : Int) (ad : Nat) : Ss := { s with mv := now, lg := s.lg ++ [⟨now, i, 1, ad, 0, 0, s.ws[ad]?.getD 0⟩] }
set_option maxRecDepth 100000 in
set_option maxHeartbeats 1000000 in
theorem desk_load (h : D W0 U0 S0 X0 p i now X false s W) (hb : Me.Roomy s.lg s.ah) (ad : Nat) (hi : ad < s.ws.length) :
    Calls Tryz.prog 101 #[.pointer (some ⟨p.bd, 0, none⟩), .int .i64 (ad : Int)] W fun e w' => e = .returned (.int .u64 (s.ws[ad]?.getD 0)) ∧ D W0 U0 S0 X0 p i now X true (s.loads i now ad) w' := by
  have C := access_yes h
  have L : ∀ w1, D W0 U0 S0 X0 p i now X false { s with mv := now } w1 → Calls Tryz.prog 125 #[.pointer (some ⟨p.bm, 0, none⟩), .int .i64 (i : Int), .int .i64 (ad : Int)] w1 fun e w' => e = .returned (.tuple #[.int .u64 (s.ws[ad]?.getD 0), .int .i64 0]) ∧ D W0 U0 S0 X0 p i now X false (s.loads i now ad) w' := fun w1 h1 => by
    obtain ⟨U, S, vl, va, hx, hm, hd, hU, hS0, hU0, hU1, hf⟩ := h1
    refine (load_ok hm.mem hb i ad hi).mono ?_
    rintro e w' ⟨rfl, ⟨vl', hm'⟩, hf'⟩
    exact ⟨rfl, D.turned (s := { s with mv := now }) hx hm hd hU hS0 hU0 hU1 hf hm' hf'⟩
  clear h hb
  generalize s.ws[ad]?.getD 0 = x at *
  generalize s.loads i now ad = s' at *
  generalize ({ s with mv := now } : Ss) = s1 at *
  clear hi
  go_enter Tryz.func101, Tryz.ntmps101
  go_wp2_with (go_at_call 124; refine C.mono ?_; clear C; rintro e w1 ⟨rfl, h1⟩; obtain ⟨d0, e0, e1, e2, e3, e4, e4z, b0, b1⟩ := h1.cells)
  replace h1 := Mr.hid h1
  go_region_held3 (fun w' => w'.cell? ⟨p.bd, 0, none⟩ = some (.pointer (some ⟨p.be, 0, none⟩)) ∧ w'.cell? ⟨p.be, 0, none⟩ = some (.pointer (some ⟨p.bb, 0, none⟩)) ∧ w'.cell? ⟨p.be, 2, none⟩ = some (.int .i64 (i : Int)) ∧ w'.cell? ⟨p.bb, 0, none⟩ = some (.pointer (some ⟨p.bm, 0, none⟩))) (go_keep)
    (first | (go_at_call 125; refine (L _ h1.out.drew).mono ?_; clear L; rintro e w2 ⟨rfl, h2⟩; obtain ⟨g0, g1, g2, g3, g4, g5, g5z, g6, g7⟩ := h2.cells; replace h2 := Mr.hid h2))
  go_wp2
  go_ret
  exact ⟨rfl, h2.out.spent true⟩
def Ss.hits (s : Ss) (i : Nat) (now : Int) (ad : Nat) (old x : Int) : Ss := { s with mv := now, ws := s.ws.set ad x, lg := s.lg ++ [⟨now, i, 3, ad, old, x, old⟩], ah := s.ah ++ [old] }
def Ss.misses (s : Ss) (i : Nat) (now : Int) (ad : Nat) (old x : Int) : Ss := { s with mv := now, lg := s.lg ++ [⟨now, i, 3, ad, old, x, s.ws[ad]?.getD 0⟩] }
set_option maxRecDepth 100000 in
set_option maxHeartbeats 1000000 in
theorem desk_swap {r : Bool} {s' s1 : Ss} {y : Int} (C : Calls Tryz.prog 124 #[.pointer (some ⟨p.bd, 0, none⟩)] W fun e w' => e = .returned (.bool true) ∧ D W0 U0 S0 X0 p i now X false s1 w') (ad : Nat) (old x : Int)
    (L : ∀ w1, D W0 U0 S0 X0 p i now X false s1 w1 → Calls Tryz.prog 128 #[.pointer (some ⟨p.bm, 0, none⟩), .int .i64 (i : Int), .int .i64 (ad : Int), .int .u64 old, .int .u64 x] w1 fun e w' => e = .returned (.tuple #[.int .u64 y, .bool r, .int .i64 0]) ∧ D W0 U0 S0 X0 p i now X false s' w') :
    Calls Tryz.prog 105 #[.pointer (some ⟨p.bd, 0, none⟩), .int .i64 (ad : Int), .int .u64 old, .int .u64 x] W fun e w' => e = .returned (.bool r) ∧ D W0 U0 S0 X0 p i now X true s' w' := by
  go_enter Tryz.func105, Tryz.ntmps105
  go_wp2_with (go_at_call 124; refine C.mono ?_; clear C; rintro e w1 ⟨rfl, h1⟩; obtain ⟨d0, e0, e1, e2, e3, e4, e4z, b0, b1⟩ := h1.cells)
  replace h1 := Mr.hid h1
  go_region_held3 (fun w' => w'.cell? ⟨p.bd, 0, none⟩ = some (.pointer (some ⟨p.be, 0, none⟩)) ∧ w'.cell? ⟨p.be, 0, none⟩ = some (.pointer (some ⟨p.bb, 0, none⟩)) ∧ w'.cell? ⟨p.be, 2, none⟩ = some (.int .i64 (i : Int)) ∧ w'.cell? ⟨p.bb, 0, none⟩ = some (.pointer (some ⟨p.bm, 0, none⟩))) (go_keep)
    (first | (go_at_call 128; refine (L _ h1.out.drew).mono ?_; clear L; rintro e w2 ⟨rfl, h2⟩; obtain ⟨g0, g1, g2, g3, g4, g5, g5z, g6, g7⟩ := h2.cells; replace h2 := Mr.hid h2))
  go_wp2
  go_ret
  exact ⟨rfl, h2.out.spent true⟩
theorem desk_hit (h : D W0 U0 S0 X0 p i now X false s W) (hb : Me.Roomy s.lg s.ah) (ad : Nat) (hi : ad < s.ws.length) (old x : Int) (ho : s.ws[ad]?.getD 0 = old) :
    Calls Tryz.prog 105 #[.pointer (some ⟨p.bd, 0, none⟩), .int .i64 (ad : Int), .int .u64 old, .int .u64 x] W fun e w' => e = .returned (.bool true) ∧ D W0 U0 S0 X0 p i now X true (s.hits i now ad old x) w' :=
  desk_swap (access_yes h) ad old x fun w1 h1 => by
    obtain ⟨U, S, vl, va, hx, hm, hd, hU, hS0, hU0, hU1, hf⟩ := h1
    refine (swap_hit hm.mem hb i old x ad hi ho).mono ?_
    rintro e w' ⟨rfl, ⟨vl', va', hm'⟩, hf'⟩
    exact ⟨rfl, D.turned (s := { s with mv := now }) hx hm hd hU hS0 hU0 hU1 hf hm' hf'⟩
theorem desk_miss (h : D W0 U0 S0 X0 p i now X false s W) (hb : Me.Roomy s.lg s.ah) (ad : Nat) (hi : ad < s.ws.length) (old x : Int) (ho : s.ws[ad]?.getD 0 ≠ old) :
    Calls Tryz.prog 105 #[.pointer (some ⟨p.bd, 0, none⟩), .int .i64 (ad : Int), .int .u64 old, .int .u64 x] W fun e w' => e = .returned (.bool false) ∧ D W0 U0 S0 X0 p i now X true (s.misses i now ad old x) w' :=
  desk_swap (access_yes h) ad old x fun w1 h1 => by
    obtain ⟨U, S, vl, va, hx, hm, hd, hU, hS0, hU0, hU1, hf⟩ := h1
    refine (swap_miss hm.mem hb i old x ad hi ho).mono ?_
    rintro e w' ⟨rfl, ⟨vl', hm'⟩, hf'⟩
    exact ⟨rfl, D.turned (s := { s with mv := now }) hx hm hd hU hS0 hU0 hU1 hf hm' hf'⟩
end
end Go.Proofs.YtkimmfdicohoiaaGreat.Ma
/-
  THE DESK: Answer by its contract (Point: SyPoint).
-/
namespace Go.Proofs.YtkimmfdicohoiaaGreat.Ma
open Go.RowKit Mr Me
section
variable {W : World} {U S : Nat → Prop} {b bb bm : Nat} {vk vt vc vs vw vl va : Value} {ths : List Th} {n : Int} {cls : List Cl} {shs : List Sh} {ws : List Int} {mv : Int} {lg : List Acc} {ah : List Int}
theorem Mac.putCl (h : Mac W U S b bb bm vk vt vc vs vw vl va ths n cls shs ws mv lg ah) {gc cc : Nat} (hv : vc = .slice (some ⟨gc, 0, none⟩) cls.length cc) (c j : Nat) (cl cl' : Cl) (u : Value) (hc : cls[c]? = some cl) (hj : j < 9) (hu : cl'.cells = cl.cells.set j u) :
    Mac (W.setCell ⟨gc, c * 9 + j, none⟩ u) U S b bb bm vk vt vc vs vw vl va ths n (cls.set c cl') shs ws mv lg ah := by
  have hg : vc.ownBlock = some gc := by rw [hv]; rfl
  obtain ⟨⟨hgU, hgS⟩, hgl⟩ := h.cal.lt gc hg
  have hk : ∀ k, k ≠ gc → (W.setCell ⟨gc, c * 9 + j, none⟩ u).heap[k]? = W.heap[k]? := fun k hne => Below.heap_setCell _ _ _ k hne
  have n1 : b ≠ gc := fun e => not_row h.blk h.cal (by decide) (e ▸ hg)
  have n2 : bb ≠ gc := fun e => not_row h.bk h.cal (by decide) (e ▸ hg)
  refine ⟨(hk b n1).trans h.blk, (hk bb n2).trans h.bk, h.mem.kept (fun k hs _ => hk k (fun e => hgS (e ▸ hs))), h.thr.setCell _ _ (fun e => has_ne h.thr h.cal (by decide) gc e hg), ?_, h.shf.setCell _ _ (fun e => has_ne h.shf h.cal (by decide) gc e hg), h.ub, h.ubb, h.su, fun k hk => by simpa using h.ul k hk⟩
  have hcal := h.cal
  rw [hv] at hcal ⊢
  have := has_put hcal (c * 9 + j) u
  unfold clc at this ⊢
  rw [flat_set cl_len cls c j cl cl' u hc hj hu] at this
  rw [List.length_set]
  exact this
theorem Mac.putTh (h : Mac W U S b bb bm vk vt vc vs vw vl va ths n cls shs ws mv lg ah) {gt nt ct : Nat} (hv : vt = .slice (some ⟨gt, 0, none⟩) nt ct) (i j : Nat) (t t' : Th) (u : Value) (ht : ths[i]? = some t) (hj : j < 5) (hu : t'.cells = t.cells.set j u) :
    Mac (W.setCell ⟨gt, i * 5 + j, none⟩ u) U S b bb bm vk vt vc vs vw vl va (ths.set i t') n cls shs ws mv lg ah := by
  have hg : vt.ownBlock = some gt := by rw [hv]; rfl
  obtain ⟨⟨hgU, hgS⟩, hgl⟩ := h.thr.lt gt hg
  have hk : ∀ k, k ≠ gt → (W.setCell ⟨gt, i * 5 + j, none⟩ u).heap[k]? = W.heap[k]? := fun k hne => Below.heap_setCell _ _ _ k hne
  have n1 : b ≠ gt := fun e => not_row h.blk h.thr (by decide) (e ▸ hg)
  have n2 : bb ≠ gt := fun e => not_row h.bk h.thr (by decide) (e ▸ hg)
  refine ⟨(hk b n1).trans h.blk, (hk bb n2).trans h.bk, h.mem.kept (fun k hs _ => hk k (fun e => hgS (e ▸ hs))), ?_, h.cal.setCell _ _ (fun e => has_ne h.cal h.thr (by decide) gt e hg), h.shf.setCell _ _ (fun e => has_ne h.shf h.thr (by decide) gt e hg), h.ub, h.ubb, h.su, fun k hk => by simpa using h.ul k hk⟩
  obtain ⟨a', c', e, _⟩ := h.thr.form
  have hthr := h.thr
  rw [hv] at e
  injection e with e1 e2 e3
  subst e2
  rw [hv] at hthr ⊢
  have := has_put hthr (i * 5 + j) u
  unfold thc at this ⊢
  rw [flat_set th_len ths i j t t' u ht hj hu] at this
  rw [List.length_set]
  exact this
theorem Mac.atTh (h : Mac W U S b bb bm vk vt vc vs vw vl va ths n cls shs ws mv lg ah) {gt nt ct : Nat} (hv : vt = .slice (some ⟨gt, 0, none⟩) nt ct) (i j : Nat) (t : Th) (u : Value) (ht : ths[i]? = some t) (hj : t.cells[j]? = some u) : W.cell? ⟨gt, i * 5 + j, none⟩ = some u := by
  have hj5 : j < 5 := by have := (List.getElem?_eq_some_iff.1 hj).1; rw [th_len] at this; exact this
  exact h.thr.cells (g := gt) (by rw [hv]; rfl) _ _ ((flat_get th_len ths i j t ht hj5).trans hj)
theorem Mac.atCl (h : Mac W U S b bb bm vk vt vc vs vw vl va ths n cls shs ws mv lg ah) {gc nc cc : Nat} (hv : vc = .slice (some ⟨gc, 0, none⟩) nc cc) (i j : Nat) (t : Cl) (u : Value) (ht : cls[i]? = some t) (hj : t.cells[j]? = some u) : W.cell? ⟨gc, i * 9 + j, none⟩ = some u := by
  have hj5 : j < 9 := by have := (List.getElem?_eq_some_iff.1 hj).1; rw [cl_len] at this; exact this
  exact h.cal.cells (g := gc) (by rw [hv]; rfl) _ _ ((flat_get cl_len cls i j t ht hj5).trans hj)
end
section
variable {W0 : World} {U0 S0 X0 : Nat → Prop} {p : Ph} {i : Nat} {now : Int} {X : Nat → Obj → Prop} {s : Ss} {W : World} {sp : Bool}
theorem D.putCl (h : D W0 U0 S0 X0 p i now X sp s W) {gc cc : Nat} (hv : p.vc = .slice (some ⟨gc, 0, none⟩) s.cls.length cc) (c j : Nat) (cl cl' : Cl) (u : Value) (hc : s.cls[c]? = some cl) (hj : j < 9) (hu : cl'.cells = cl.cells.set j u) :
    D W0 U0 S0 X0 p i now X sp { s with cls := s.cls.set c cl' } (W.setCell ⟨gc, c * 9 + j, none⟩ u) := by
  obtain ⟨U, S, vl, va, hx, hm, hd, hU, hS0, hU0, hU1, hf⟩ := h
  have hg : p.vc.ownBlock = some gc := by rw [hv]; rfl
  have hgU := (hm.cal.lt gc hg).1.1
  exact ⟨U, S, vl, va, fun k o hk => ⟨(Below.heap_setCell _ _ _ k (fun e => (hx k o hk).2.2.2.2.2.2.1 (e ▸ hg))).trans (hx k o hk).1, (hx k o hk).2⟩, hm.putCl hv c j cl cl' u hc hj hu, hd.kept (Below.heap_setCell _ _ _ _ (fun e => hU.1 (e ▸ hgU))) (Below.heap_setCell _ _ _ _ (fun e => hU.2.1 (e ▸ hgU))), hU, hS0, hU0, hU1, hf.setCell _ _ (.inl (.inr (.inr (.inr hg))))⟩
theorem D.putTh (h : D W0 U0 S0 X0 p i now X sp s W) (k j : Nat) (t t' : Th) (u : Value) (ht : s.ths[k]? = some t) (hj : j < 5) (hu : t'.cells = t.cells.set j u) :
    D W0 U0 S0 X0 p i now X sp { s with ths := s.ths.set k t' } (W.setCell ⟨p.gt, k * 5 + j, none⟩ u) := by
  obtain ⟨U, S, vl, va, hx, hm, hd, hU, hS0, hU0, hU1, hf⟩ := h
  have hgU := (hm.thr.lt p.gt rfl).1.1
  exact ⟨U, S, vl, va, fun k o hk => ⟨(Below.heap_setCell _ _ _ k (hx k o hk).2.2.2.2.2.1).trans (hx k o hk).1, (hx k o hk).2⟩, hm.putTh rfl k j t t' u ht hj hu, hd.kept (Below.heap_setCell _ _ _ _ (fun e => hU.1 (e ▸ hgU))) (Below.heap_setCell _ _ _ _ (fun e => hU.2.1 (e ▸ hgU))), hU, hS0, hU0, hU1, hf.setCell _ _ (.inl (.inr (.inr (.inl rfl))))⟩
theorem D.atTh (h : D W0 U0 S0 X0 p i now X sp s W) (k j : Nat) (t : Th) (u : Value) (ht : s.ths[k]? = some t) (hj : t.cells[j]? = some u) : W.cell? ⟨p.gt, k * 5 + j, none⟩ = some u ∧ W.frozen? ⟨p.gt, k * 5 + j, none⟩ = false := by
  obtain ⟨U, S, vl, va, hx, hm, hd, hU, hS0, hU0, hU1, hf⟩ := h
  exact ⟨hm.atTh rfl k j t u ht hj, hm.thr.frozen (g := p.gt) rfl _⟩
theorem D.atCl (h : D W0 U0 S0 X0 p i now X sp s W) {gc nc cc : Nat} (hv : p.vc = .slice (some ⟨gc, 0, none⟩) nc cc) (k j : Nat) (t : Cl) (u : Value) (ht : s.cls[k]? = some t) (hj : t.cells[j]? = some u) : W.cell? ⟨gc, k * 9 + j, none⟩ = some u ∧ W.frozen? ⟨gc, k * 9 + j, none⟩ = false := by
  obtain ⟨U, S, vl, va, hx, hm, hd, hU, hS0, hU0, hU1, hf⟩ := h
  exact ⟨hm.atCl hv k j t u ht hj, hm.cal.frozen (g := gc) (by rw [hv]; rfl) _⟩
theorem D.vc (h : D W0 U0 S0 X0 p i now X sp s W) (hn : 0 < s.cls.length) : ∃ gc cc, p.vc = .slice (some ⟨gc, 0, none⟩) s.cls.length cc := by
  obtain ⟨U, S, vl, va, hx, hm, hd, hU, hS0, hU0, hU1, hf⟩ := h
  obtain ⟨g, c, e, _⟩ := hm.cal.there hn
  exact ⟨g, c, e⟩
/-- Which blocks are not which. -/
theorem D.gcne (h : D W0 U0 S0 X0 p i now X sp s W) {gc nc cc : Nat} (hv : p.vc = .slice (some ⟨gc, 0, none⟩) nc cc) : gc ≠ p.bd ∧ gc ≠ p.be ∧ gc ≠ p.bb ∧ gc ≠ p.gt := by
  obtain ⟨U, S, vl, va, hx, hm, hd, hU, hS0, hU0, hU1, hf⟩ := h
  have hg : p.vc.ownBlock = some gc := by rw [hv]; rfl
  have hgU := (hm.cal.lt gc hg).1.1
  exact ⟨fun e => hU.1 (e ▸ hgU), fun e => hU.2.1 (e ▸ hgU), fun e => not_row hm.bk hm.cal (by decide) (e ▸ hg), fun e => has_ne hm.cal hm.thr (by decide) gc hg (by rw [e]; rfl)⟩
theorem D.gtne (h : D W0 U0 S0 X0 p i now X sp s W) : p.gt ≠ p.bd ∧ p.gt ≠ p.be ∧ p.gt ≠ p.bb := by
  obtain ⟨U, S, vl, va, hx, hm, hd, hU, hS0, hU0, hU1, hf⟩ := h
  have hgU := (hm.thr.lt p.gt rfl).1.1
  exact ⟨fun e => hU.1 (e ▸ hgU), fun e => hU.2.1 (e ▸ hgU), fun e => not_row hm.bk hm.thr (by decide) (by rw [← e]; rfl)⟩
set_option maxRecDepth 100000 in
set_option maxHeartbeats 1000000 in
theorem answer_any (h : D W0 U0 S0 X0 p i now X sp s W) (t : Th) (ht : s.ths[i]? = some t) (ak av : Int) :
    Calls Tryz.prog 169 #[.pointer (some ⟨p.bd, 0, none⟩), .agg #[.int .i64 ak, .int .i64 av]] W fun e w' => e = .returned (.tuple #[]) ∧ D W0 U0 S0 X0 p i now X sp { s with ths := s.ths.set i { t with ak := ak, av := av } } w' := by
  have h' := fun o => h.alloc o
  have fin := fun (w1 : World) (h1 : D W0 U0 S0 X0 p i now X sp s w1) => by
    have q1 := h1.putTh i 3 t { t with ak := ak } (.int .i64 ak) ht (by decide) rfl
    have q2 := q1.putTh i 4 { t with ak := ak } { t with ak := ak, av := av } (.int .i64 av) (by simp [(List.getElem?_eq_some_iff.1 ht).1]) (by decide) rfl
    simp only [List.set_set] at q2
    exact q2
  have C := fun o => open_yes (h' o).dk
  have c1 := fun o => (h' o).cells.d0
  have c2 := fun o => (h' o).cells.e1
  have a3 := fun o => (h' o).atTh i 3 t _ ht rfl
  have a4 := fun o => (h' o).atTh i 4 t _ ht rfl
  obtain ⟨n1, n2, n3⟩ := h.gtne
  have hn := Mr.hid h
  replace h' := Mr.hid h'
  have d0 := fun o => c1 o
  have lb : p.gt < W.heap.size := by
    obtain ⟨U, S, vl, va, hx, hm, _⟩ := h
    exact (hm.thr.lt p.gt rfl).2
  clear h c1
  go_enter Tryz.func169, Tryz.ntmps169
  go_wp2_with (go_at_call 96; refine (C _).mono ?_; clear C; rintro e w' ⟨rfl, hw⟩; obtain rfl := hw.symm)
  have d1 := d0 (.cells #[.int .i64 ak, .int .i64 av] 88)
  have d2 := c2 (.cells #[.int .i64 ak, .int .i64 av] 88)
  obtain ⟨d3, d3z⟩ := a3 (.cells #[.int .i64 ak, .int .i64 av] 88)
  obtain ⟨d4, d4z⟩ := a4 (.cells #[.int .i64 ak, .int .i64 av] 88)
  have x0 : (W.alloc (.cells #[.int .i64 ak, .int .i64 av] 88)).cell? ⟨W.heap.size, 0, none⟩ = some (.int .i64 ak) := newsAt W _ #[.int .i64 ak, .int .i64 av] 88 _ rfl rfl 0 _ rfl
  have x1 : (W.alloc (.cells #[.int .i64 ak, .int .i64 av] 88)).cell? ⟨W.heap.size, 1, none⟩ = some (.int .i64 av) := newsAt W _ #[.int .i64 ak, .int .i64 av] 88 _ rfl rfl 1 _ rfl
  have ne : p.gt ≠ W.heap.size := by omega
  have fin1 := fin _ (h'.out (.cells #[.int .i64 ak, .int .i64 av] 88))
  generalize (W.alloc (.cells #[.int .i64 ak, .int .i64 av] 88)) = W1 at *
  clear d0 c2 a3 a4 fin h'
  replace fin1 := Mr.hid fin1
  go_region_held3 (fun w' => w'.cell? ⟨p.bd, 0, none⟩ = some (.pointer (some ⟨p.be, 0, none⟩)) ∧ w'.cell? ⟨p.be, 1, none⟩ = some (.pointer (some ⟨p.gt, i * 5, none⟩)) ∧ w'.cell? ⟨W.heap.size, 0, none⟩ = some (.int .i64 ak) ∧ w'.cell? ⟨W.heap.size, 1, none⟩ = some (.int .i64 av)) (go_keep) (fail)
  go_wp2
  go_end0
  exact ⟨rfl, fin1.out.drew⟩
theorem D.at (h : D W0 U0 S0 X0 p i now X sp s W) {k : Nat} {o : Obj} (hk : X k o) : W.heap[k]? = some o := by
  obtain ⟨U, S, vl, va, hx, _⟩ := h
  exact (hx k o hk).1
theorem D.put (h : D W0 U0 S0 X0 p i now X sp s W) {k j : Nat} {cs : Array Value} {t : TypeId} (hk : X k (.cells cs t (0, 0))) (u : Value) (h0 : X0 k ∨ W0.heap.size ≤ k) {X' : Nat → Obj → Prop} (hX : ∀ k' o, X' k' o → (k' = k ∧ o = .cells (cs.setIfInBounds j u) t (0, 0)) ∨ (k' ≠ k ∧ X k' o)) :
    D W0 U0 S0 X0 p i now X' sp s (W.setCell ⟨k, j, none⟩ u) := by
  obtain ⟨U, S, vl, va, hx, hm, hd, hU, hS0, hU0, hU1, hf⟩ := h
  obtain ⟨q1, q2, q3, q4, q5, q6, q7, q8⟩ := hx k _ hk
  have ho : ∀ k', k' ≠ k → (W.setCell ⟨k, j, none⟩ u).heap[k']? = W.heap[k']? := fun k' hne => Below.heap_setCell _ _ _ k' hne
  refine ⟨U, S, vl, va, ?_, ?_, hd.kept (ho _ (fun e => hU.1 (e ▸ q2))) (ho _ (fun e => hU.2.1 (e ▸ q2))), hU, hS0, hU0, hU1, hf.setCell _ _ (h0.elim (fun h => .inl (.inr (.inl h))) .inr)⟩
  · intro k' o hk'
    rcases hX k' o hk' with ⟨rfl, rfl⟩ | ⟨hne, hx'⟩
    · exact ⟨setBlk q1 j u, q2, q3, q4, q5, q6, q7, q8⟩
    · obtain ⟨r1, r2⟩ := hx k' o hx'
      exact ⟨(ho k' hne).trans r1, r2⟩
  · refine ⟨(ho _ q4.symm).trans hm.blk, (ho _ q5.symm).trans hm.bk, hm.mem.kept (fun k' hs _ => ho k' (fun e => q3 (e ▸ hs))), hm.thr.setCell _ _ (fun e => ?_), hm.cal.setCell _ _ (fun e => q7 e), hm.shf.setCell _ _ (fun e => q8 e), hm.ub, hm.ubb, hm.su, fun k' hk' => by simpa using hm.ul k' hk'⟩
    simp [Value.ownBlock] at e
    exact q6 e.symm
end
end Go.Proofs.YtkimmfdicohoiaaGreat.Ma
