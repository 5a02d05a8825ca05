import Derived.Test.YtedaoljmcfbbpaaGreatJ03
import Derived.Deep.RegionHeld3
/-
  A MACHINE of the program as it lies in the world: its block, its book, its threads, its calls, its shifts, its memory. Tasks and the kit are values here: what lies behind them is told beside it.
-/
namespace Go.Proofs.YtedaoljmcfbbpaaGreat.Ma
open Go.RowKit Mr Me
/-! ### rows of structs, flat -/
section
variable {α : Type} {f : α → List Value} {m : Nat}
theorem flat_length (hf : ∀ a, (f a).length = m) (l : List α) : (l.flatMap f).length = l.length * m := by
  induction l with
  | nil => simp
  | cons a l ih => rw [List.flatMap_cons, List.length_append, ih, hf, List.length_cons, Nat.add_mul]; omega
theorem flat_get (hf : ∀ a, (f a).length = m) (l : List α) (i j : Nat) (a : α) (ha : l[i]? = some a) (hj : j < m) : (l.flatMap f)[i * m + j]? = (f a)[j]? := by
  induction l generalizing i with
  | nil => simp at ha
  | cons x l ih =>
    cases i with
    | zero =>
      simp at ha
      subst ha
      rw [List.flatMap_cons, List.getElem?_append_left (by rw [hf]; omega)]
      congr 1
      omega
    | succ i =>
      rw [List.getElem?_cons_succ] at ha
      rw [List.flatMap_cons, List.getElem?_append_right (by rw [hf, Nat.add_mul]; omega), hf, ← ih i ha]
      congr 1
      rw [Nat.add_mul]
      omega
theorem flat_set (hf : ∀ a, (f a).length = m) (l : List α) (i j : Nat) (a b : α) (v : Value) (ha : l[i]? = some a) (hj : j < m) (hb : f b = (f a).set j v) : (l.flatMap f).set (i * m + j) v = (l.set i b).flatMap f := by
  induction l generalizing i with
  | nil => simp at ha
  | cons x l ih =>
    cases i with
    | zero =>
      simp at ha
      subst ha
      rw [List.flatMap_cons, List.set_cons_zero, List.flatMap_cons, hb, show 0 * m + j = j by omega, List.set_append_left _ _ (by rw [hf]; exact hj)]
    | succ i =>
      rw [List.getElem?_cons_succ] at ha
      rw [List.flatMap_cons, List.set_cons_succ, List.flatMap_cons, List.set_append_right _ _ (by rw [hf, Nat.add_mul]; omega), hf, ← ih i ha]
      congr 2
      rw [Nat.add_mul]
      omega
end
theorem has_put {w : World} {S : Nat → Prop} {e : TypeId} {size g n cap : Nat} {xs : List Value} (h : Has w S e size (.slice (some ⟨g, 0, none⟩) n cap) n xs) (i : Nat) (u : Value) :
    Has (w.setCell ⟨g, i, none⟩ u) S e size (.slice (some ⟨g, 0, none⟩) n cap) n (xs.set i u) := by
  rcases h.2 with ⟨hv, _⟩ | ⟨g', cap', cur, hv, hS, hg, h1, h2, h3, h4⟩
  · cases hv
  · cases hv
    refine ⟨by rw [List.length_set]; exact h.1, .inr ⟨g, cap, cur.setIfInBounds i u, rfl, hS, setBlk hg i u, h1, h2, by simpa using h3, ?_⟩⟩
    rw [Array.toList_setIfInBounds, ← h4]
    rw [List.take_set]

/-! ### what a machine is -/
/-- A call, as the book has it. -/
structure Cl where
  th : Int
  op : Int
  arg : Int
  data : Int
  beg : Int
  fin : Int
  pt : Int
  ak : Int
  av : Int
def Cl.cells (c : Cl) : List Value := [.int .i64 c.th, .int .i64 c.op, .int .i64 c.arg, .int .i64 c.data, .int .i64 c.beg, .int .i64 c.fin, .int .i64 c.pt, .int .i64 c.ak, .int .i64 c.av]
def Cl.val (c : Cl) : Value := .agg #[.int .i64 c.th, .int .i64 c.op, .int .i64 c.arg, .int .i64 c.data, .int .i64 c.beg, .int .i64 c.fin, .int .i64 c.pt, .int .i64 c.ak, .int .i64 c.av]
def clc (l : List Cl) : List Value := l.flatMap Cl.cells
theorem cl_len (c : Cl) : c.cells.length = 9 := rfl
/-- A thread: its task (an interface value), whether its call has made no step, its last call, what its task has told. -/
structure Th where
  tv : Value
  fr : Bool
  call : Int
  ak : Int
  av : Int
def Th.cells (t : Th) : List Value := [t.tv, .bool t.fr, .int .i64 t.call, .int .i64 t.ak, .int .i64 t.av]
def thc (l : List Th) : List Value := l.flatMap Th.cells
theorem th_len (t : Th) : t.cells.length = 5 := rfl
/-- A shift. -/
structure Sh where
  mv : Int
  th : Int
  slot : Int
  fr : Int
  to : Int
def Sh.cells (s : Sh) : List Value := [.int .i64 s.mv, .int .i64 s.th, .int .i64 s.slot, .int .i64 s.fr, .int .i64 s.to]
def shc (l : List Sh) : List Value := l.flatMap Sh.cells
theorem sh_len (s : Sh) : s.cells.length = 5 := rfl

structure Mac (W : World) (U S : Nat → Prop) (b bb bm : Nat) (vk vt vc vs vw vl va : Value) (ths : List Th) (n : Int) (cls : List Cl) (shs : List Sh) (ws : List Int) (mv : Int) (lg : List Acc) (ah : List Int) : Prop where
  blk : W.heap[b]? = some (.cells #[vk, vt, .int .i64 n, .pointer (some ⟨bb, 0, none⟩)] 88 (0, 0))
  bk : W.heap[bb]? = some (.cells #[.pointer (some ⟨bm, 0, none⟩), vc, vs] 107 (0, 0))
  mem : Mem W S bm vw vl va ws mv lg ah
  thr : Has W (fun k => U k ∧ ¬ S k) 105 5 vt ths.length (thc ths)
  cal : Has W (fun k => U k ∧ ¬ S k) 45 9 vc cls.length (clc cls)
  shf : Has W (fun k => U k ∧ ¬ S k) 136 5 vs shs.length (shc shs)
  ub : U b ∧ ¬ S b
  ubb : U bb ∧ ¬ S bb
  su : ∀ k, S k → U k
  ul : ∀ k, U k → k < W.heap.size

section
variable {W : World} {U S : Nat → Prop} {b bb bm : Nat} {vk vt vc vs vw vl va : Value} {ths : List Th} {n : Int} {cls : List Cl} {shs : List Sh} {ws : List Int} {mv : Int} {lg : List Acc} {ah : List Int}
theorem Mac.lt (h : Mac W U S b bb bm vk vt vc vs vw vl va ths n cls shs ws mv lg ah) : b < W.heap.size := (Array.getElem?_eq_some_iff.1 h.blk).1
theorem Mac.ltb (h : Mac W U S b bb bm vk vt vc vs vw vl va ths n cls shs ws mv lg ah) : bb < W.heap.size := (Array.getElem?_eq_some_iff.1 h.bk).1
theorem Mac.m0 (h : Mac W U S b bb bm vk vt vc vs vw vl va ths n cls shs ws mv lg ah) : W.cell? ⟨b, 0, none⟩ = some vk := by simp [World.cell?, h.blk]
theorem Mac.m1 (h : Mac W U S b bb bm vk vt vc vs vw vl va ths n cls shs ws mv lg ah) : W.cell? ⟨b, 1, none⟩ = some vt := by simp [World.cell?, h.blk]
theorem Mac.m2 (h : Mac W U S b bb bm vk vt vc vs vw vl va ths n cls shs ws mv lg ah) : W.cell? ⟨b, 2, none⟩ = some (.int .i64 n) := by simp [World.cell?, h.blk]
theorem Mac.m3 (h : Mac W U S b bb bm vk vt vc vs vw vl va ths n cls shs ws mv lg ah) : W.cell? ⟨b, 3, none⟩ = some (.pointer (some ⟨bb, 0, none⟩)) := by simp [World.cell?, h.blk]
theorem Mac.mz (h : Mac W U S b bb bm vk vt vc vs vw vl va ths n cls shs ws mv lg ah) (o : Nat) : W.frozen? ⟨b, o, none⟩ = false := by simp [World.frozen?, h.blk]
theorem Mac.b0 (h : Mac W U S b bb bm vk vt vc vs vw vl va ths n cls shs ws mv lg ah) : W.cell? ⟨bb, 0, none⟩ = some (.pointer (some ⟨bm, 0, none⟩)) := by simp [World.cell?, h.bk]
theorem Mac.b1 (h : Mac W U S b bb bm vk vt vc vs vw vl va ths n cls shs ws mv lg ah) : W.cell? ⟨bb, 1, none⟩ = some vc := by simp [World.cell?, h.bk]
theorem Mac.b2 (h : Mac W U S b bb bm vk vt vc vs vw vl va ths n cls shs ws mv lg ah) : W.cell? ⟨bb, 2, none⟩ = some vs := by simp [World.cell?, h.bk]
theorem Mac.bz (h : Mac W U S b bb bm vk vt vc vs vw vl va ths n cls shs ws mv lg ah) (o : Nat) : W.frozen? ⟨bb, o, none⟩ = false := by simp [World.frozen?, h.bk]
/-- Nothing of it has turned; it may count more blocks as its own. -/
theorem Mac.kept {W' : World} {U' : Nat → Prop} (h : Mac W U S b bb bm vk vt vc vs vw vl va ths n cls shs ws mv lg ah) (hk : ∀ k, U k → W'.heap[k]? = W.heap[k]?) (hU : ∀ k, U k → U' k) (hl : ∀ k, U' k → k < W'.heap.size) : Mac W' U' S b bb bm vk vt vc vs vw vl va ths n cls shs ws mv lg ah :=
  ⟨(hk b h.ub.1).trans h.blk, (hk bb h.ubb.1).trans h.bk, h.mem.kept (fun k hs _ => hk k (h.su k hs)), h.thr.kept (fun k e => hk k (h.thr.lt k e).1.1) (fun k e => ⟨hU k (h.thr.lt k e).1.1, (h.thr.lt k e).1.2⟩), h.cal.kept (fun k e => hk k (h.cal.lt k e).1.1) (fun k e => ⟨hU k (h.cal.lt k e).1.1, (h.cal.lt k e).1.2⟩), h.shf.kept (fun k e => hk k (h.shf.lt k e).1.1) (fun k e => ⟨hU k (h.shf.lt k e).1.1, (h.shf.lt k e).1.2⟩), ⟨hU b h.ub.1, h.ub.2⟩, ⟨hU bb h.ubb.1, h.ubb.2⟩, fun k hs => hU k (h.su k hs), hl⟩
theorem Mac.below {W' : World} (h : Mac W U S b bb bm vk vt vc vs vw vl va ths n cls shs ws mv lg ah) (hB : Below W.heap.size W W') : Mac W' U S b bb bm vk vt vc vs vw vl va ths n cls shs ws mv lg ah :=
  h.kept (fun k hk => hB.block k (h.ul k hk)) (fun _ hk => hk) (fun k hk => Nat.lt_of_lt_of_le (h.ul k hk) hB.size)
theorem Mac.fr {W' : World} {T : Nat → Prop} (h : Mac W U S b bb bm vk vt vc vs vw vl va ths n cls shs ws mv lg ah) (hf : Fr W W' T) (hd : ∀ k, U k → ¬ T k) : Mac W' U S b bb bm vk vt vc vs vw vl va ths n cls shs ws mv lg ah :=
  h.kept (fun k hk => hf.block k (h.ul k hk) (hd k hk)) (fun _ hk => hk) (fun k hk => Nat.lt_of_lt_of_le (h.ul k hk) hf.size)
/-- More blocks as its own. -/
theorem Mac.own {U' : Nat → Prop} (h : Mac W U S b bb bm vk vt vc vs vw vl va ths n cls shs ws mv lg ah) (hU : ∀ k, U k → U' k) (hl : ∀ k, U' k → k < W.heap.size) : Mac W U' S b bb bm vk vt vc vs vw vl va ths n cls shs ws mv lg ah :=
  h.kept (fun _ _ => rfl) hU hl
theorem Mac.bne (h : Mac W U S b bb bm vk vt vc vs vw vl va ths n cls shs ws mv lg ah) : b ≠ bb := fun e => by
  have h1 := h.blk
  rw [e, h.bk] at h1
  simp at h1
theorem not_row {W : World} {S : Nat → Prop} {k : Nat} {cs : Array Value} {t e : TypeId} {size m : Nat} {v : Value} {xs : List Value} (hk : W.heap[k]? = some (.cells cs t (0, 0))) (h : Has W S e size v m xs) (hte : t ≠ e) : v.ownBlock ≠ some k := fun ev => by
  rcases h.2 with ⟨rfl, _⟩ | ⟨g, cap, cur, rfl, _, hg, _⟩
  · simp [Value.ownBlock] at ev
  · simp [Value.ownBlock] at ev
    subst ev
    rw [hk] at hg
    simp at hg
    exact hte hg.2
/-- The memory alone has turned. -/
theorem Mac.turned {W' : World} {vl' va' : Value} {ws' : List Int} {mv' : Int} {lg' : List Acc} {ah' : List Int} (h : Mac W U S b bb bm vk vt vc vs vw vl va ths n cls shs ws mv lg ah) (hm : Mem W' (fun k => S k ∨ W.heap.size ≤ k) bm vw vl' va' ws' mv' lg' ah') (hf : Fr W W' S) :
    Mac W' (fun k => (U k ∨ W.heap.size ≤ k) ∧ k < W'.heap.size) (fun k => (S k ∨ W.heap.size ≤ k) ∧ k < W'.heap.size) b bb bm vk vt vc vs vw vl' va' ths n cls shs ws' mv' lg' ah' := by
  have hs := hf.size
  have hk : ∀ k, U k → ¬ S k → W'.heap[k]? = W.heap[k]? := fun k hU hS => hf.block k (h.ul k hU) hS
  have up : ∀ k, U k ∧ ¬ S k → ((U k ∨ W.heap.size ≤ k) ∧ k < W'.heap.size) ∧ ¬ ((S k ∨ W.heap.size ≤ k) ∧ k < W'.heap.size) := fun k hU => by
    have := h.ul k hU.1
    refine ⟨⟨.inl hU.1, by omega⟩, fun hn => ?_⟩
    rcases hn.1 with hn | hn
    · exact hU.2 hn
    · omega
  refine ⟨(hk b h.ub.1 h.ub.2).trans h.blk, (hk bb h.ubb.1 h.ubb.2).trans h.bk, hm.narrow, h.thr.kept (fun k e => hk k (h.thr.lt k e).1.1 (h.thr.lt k e).1.2) (fun k e => up k (h.thr.lt k e).1), h.cal.kept (fun k e => hk k (h.cal.lt k e).1.1 (h.cal.lt k e).1.2) (fun k e => up k (h.cal.lt k e).1), h.shf.kept (fun k e => hk k (h.shf.lt k e).1.1 (h.shf.lt k e).1.2) (fun k e => up k (h.shf.lt k e).1), up b h.ub, up bb h.ubb, ?_, fun k hk => hk.2⟩
  rintro k ⟨hk | hk, hl⟩
  · exact ⟨.inl (h.su k hk), hl⟩
  · exact ⟨.inr hk, hl⟩
end
end Go.Proofs.YtedaoljmcfbbpaaGreat.Ma
/-
  THE DESK, for the time of one step: open, Now, access, Load, Swap, Point, Answer by their contracts.
-/
namespace Go.Proofs.YtedaoljmcfbbpaaGreat.Ma
open Go.RowKit Mr Me
/-- Where the parts of a machine lie. -/
structure Ph where
  b : Nat
  bb : Nat
  bm : Nat
  bd : Nat
  be : Nat
  gt : Nat
  nt : Nat
  ct : Nat
  vk : Value
  vc : Value
  vs : Value
  vw : Value
/-- What a machine holds. -/
structure Ss where
  ths : List Th
  n : Int
  cls : List Cl
  shs : List Sh
  ws : List Int
  mv : Int
  lg : List Acc
  ah : List Int
structure Dk (W : World) (bd be bb : Nat) (pt : Addr) (i now : Int) (sp : Bool) : Prop where
  dk : W.heap[bd]? = some (.cells #[.pointer (some ⟨be, 0, none⟩)] 128 (0, 0))
  bn : W.heap[be]? = some (.cells #[.pointer (some ⟨bb, 0, none⟩), .pointer (some pt), .int .i64 i, .int .i64 now, .bool sp] 124 (0, 0))
section
variable {W : World} {bd be bb : Nat} {pt : Addr} {i now : Int} {sp : Bool}
theorem Dk.d0 (h : Dk W bd be bb pt i now sp) : W.cell? ⟨bd, 0, none⟩ = some (.pointer (some ⟨be, 0, none⟩)) := by simp [World.cell?, h.dk]
theorem Dk.e0 (h : Dk W bd be bb pt i now sp) : W.cell? ⟨be, 0, none⟩ = some (.pointer (some ⟨bb, 0, none⟩)) := by simp [World.cell?, h.bn]
theorem Dk.e1 (h : Dk W bd be bb pt i now sp) : W.cell? ⟨be, 1, none⟩ = some (.pointer (some pt)) := by simp [World.cell?, h.bn]
theorem Dk.e2 (h : Dk W bd be bb pt i now sp) : W.cell? ⟨be, 2, none⟩ = some (.int .i64 i) := by simp [World.cell?, h.bn]
theorem Dk.e3 (h : Dk W bd be bb pt i now sp) : W.cell? ⟨be, 3, none⟩ = some (.int .i64 now) := by simp [World.cell?, h.bn]
theorem Dk.e4 (h : Dk W bd be bb pt i now sp) : W.cell? ⟨be, 4, none⟩ = some (.bool sp) := by simp [World.cell?, h.bn]
theorem Dk.ez (h : Dk W bd be bb pt i now sp) (o : Nat) : W.frozen? ⟨be, o, none⟩ = false := by simp [World.frozen?, h.bn]
theorem Dk.ltd (h : Dk W bd be bb pt i now sp) : bd < W.heap.size := (Array.getElem?_eq_some_iff.1 h.dk).1
theorem Dk.lte (h : Dk W bd be bb pt i now sp) : be < W.heap.size := (Array.getElem?_eq_some_iff.1 h.bn).1
theorem Dk.ne (h : Dk W bd be bb pt i now sp) : bd ≠ be := fun e => by
  have h1 := h.dk
  rw [e, h.bn] at h1
  simp at h1
theorem Dk.kept {W' : World} (h : Dk W bd be bb pt i now sp) (h1 : W'.heap[bd]? = W.heap[bd]?) (h2 : W'.heap[be]? = W.heap[be]?) : Dk W' bd be bb pt i now sp := ⟨h1.trans h.dk, h2.trans h.bn⟩
theorem open_yes (h : Dk W bd be bb pt i now sp) : Calls Tryz.prog 112 #[.pointer (some ⟨bd, 0, none⟩)] W fun e w' => e = .returned (.bool true) ∧ w' = W := by
  have d0 := h.d0
  have e0 := h.e0
  clear h
  go_enter Tryz.func112, Tryz.ntmps112
  go_wp2
  go_ret
  exact ⟨rfl, rfl⟩
end
/-- Objects beside it: each lies where X says, no part of the machine but its own. -/
def Xs (W : World) (U S : Nat → Prop) (p : Ph) (X : Nat → Obj → Prop) : Prop :=
  ∀ k o, X k o → W.heap[k]? = some o ∧ U k ∧ ¬ S k ∧ k ≠ p.b ∧ k ≠ p.bb ∧ k ≠ p.gt ∧ p.vc.ownBlock ≠ some k ∧ p.vs.ownBlock ≠ some k
/-- The state within a step: since W0, when the memory had the blocks S0 and the machine U0, nothing else has turned but the rows of the threads and of the calls, the blocks X0, and new blocks. -/
def D (W0 : World) (U0 S0 X0 : Nat → Prop) (p : Ph) (i : Nat) (now : Int) (X : Nat → Obj → Prop) (sp : Bool) (s : Ss) (W : World) : Prop :=
  ∃ U S vl va, Xs W U S p X ∧ Mac W U S p.b p.bb p.bm p.vk (.slice (some ⟨p.gt, 0, none⟩) p.nt p.ct) p.vc p.vs p.vw vl va s.ths s.n s.cls s.shs s.ws s.mv s.lg s.ah ∧ Dk W p.bd p.be p.bb ⟨p.gt, i * 5, none⟩ i now sp ∧ (¬ U p.bd ∧ ¬ U p.be ∧ W0.heap.size ≤ p.bd ∧ W0.heap.size ≤ p.be) ∧
    (∀ k, S k → S0 k ∨ W0.heap.size ≤ k) ∧ (∀ k, U k → U0 k ∨ W0.heap.size ≤ k) ∧ (∀ k, U0 k → U k) ∧ Fr W0 W (fun k => S0 k ∨ X0 k ∨ k = p.gt ∨ p.vc.ownBlock = some k)
section
variable {W0 : World} {U0 S0 X0 : Nat → Prop} {p : Ph} {i : Nat} {now : Int} {X : Nat → Obj → Prop} {s : Ss} {W : World}
theorem D.dk {sp : Bool} (h : D W0 U0 S0 X0 p i now X sp s W) : Dk W p.bd p.be p.bb ⟨p.gt, i * 5, none⟩ i now sp := by obtain ⟨U, S, vl, va, hx, hm, hd, _⟩ := h; exact hd
/-- The memory alone has turned. -/
theorem D.turned {W' : World} {sp : Bool} {U S : Nat → Prop} {vl va vl' va' : Value} {ws' : List Int} {mv' : Int} {lg' : List Acc} {ah' : List Int}
    (hx : Xs W U S p X) (hm : Mac W U S p.b p.bb p.bm p.vk (.slice (some ⟨p.gt, 0, none⟩) p.nt p.ct) p.vc p.vs p.vw vl va s.ths s.n s.cls s.shs s.ws s.mv s.lg s.ah) (hd : Dk W p.bd p.be p.bb ⟨p.gt, i * 5, none⟩ i now sp) (hU : ¬ U p.bd ∧ ¬ U p.be ∧ W0.heap.size ≤ p.bd ∧ W0.heap.size ≤ p.be)
    (hS0 : ∀ k, S k → S0 k ∨ W0.heap.size ≤ k) (hU0 : ∀ k, U k → U0 k ∨ W0.heap.size ≤ k) (hU1 : ∀ k, U0 k → U k) (hf : Fr W0 W (fun k => S0 k ∨ X0 k ∨ k = p.gt ∨ p.vc.ownBlock = some k))
    (hm' : Mem W' (fun k => S k ∨ W.heap.size ≤ k) p.bm p.vw vl' va' ws' mv' lg' ah') (hf' : Fr W W' S) : D W0 U0 S0 X0 p i now X sp { s with ws := ws', mv := mv', lg := lg', ah := ah' } W' := by
  have h0 := hf.size
  have h1 := hf'.size
  have ld := hd.ltd
  have le := hd.lte
  have nd : ¬ S p.bd := fun e => hU.1 (hm.su _ e)
  have nb : ¬ S p.be := fun e => hU.2.1 (hm.su _ e)
  have hX : Xs W' (fun k => (U k ∨ W.heap.size ≤ k) ∧ k < W'.heap.size) (fun k => (S k ∨ W.heap.size ≤ k) ∧ k < W'.heap.size) p X := fun k o hk => by
    obtain ⟨x1, x2, x3, x4⟩ := hx k o hk
    have hl := hm.ul k x2
    refine ⟨(hf'.block k hl x3).trans x1, ⟨.inl x2, by omega⟩, ?_, x4⟩
    rintro ⟨h | h, _⟩
    · exact x3 h
    · omega
  refine ⟨_, _, vl', va', hX, hm.turned hm' hf', hd.kept (hf'.block _ ld nd) (hf'.block _ le nb), ⟨?_, ?_, hU.2.2⟩, ?_, ?_, ?_, ?_⟩
  · rintro ⟨h | h, _⟩
    · exact hU.1 h
    · omega
  · rintro ⟨h | h, _⟩
    · exact hU.2.1 h
    · omega
  · rintro k ⟨h | h, _⟩
    · exact hS0 k h
    · exact .inr (by omega)
  · rintro k ⟨h | h, _⟩
    · exact hU0 k h
    · exact .inr (by omega)
  · exact fun k hk => ⟨.inl (hU1 k hk), Nat.lt_of_lt_of_le (hm.ul k (hU1 k hk)) h1⟩
  · exact hf.trans (hf'.mono (fun k hk => (hS0 k hk).elim (fun h => .inl (.inl h)) .inr))
set_option maxRecDepth 100000 in
theorem access_yes (h : D W0 U0 S0 X0 p i now X false s W) :
    Calls Tryz.prog 106 #[.pointer (some ⟨p.bd, 0, none⟩)] W fun e w' => e = .returned (.bool true) ∧ D W0 U0 S0 X0 p i now X false { s with mv := now } w' := by
  obtain ⟨U, S, vl, va, hx, hm, hd, hU, hS0, hU0, hU1, hf⟩ := h
  have C := open_yes hd
  have N := fun (w1 : World) (B : Below W.heap.size W w1) => now_any (hm.mem.below B) now
  have hdr : Below W.heap.size W W.drew := (Below.refl _ _).drew
  have fin := fun (w' : World) (h1 : Mem w' S p.bm p.vw vl va s.ws now s.lg s.ah) (h2 : Fr W w' S) => D.turned hx hm hd hU hS0 hU0 hU1 hf (h1.mono (fun _ => .inl)) h2
  have d0 := hd.d0
  have e0 := hd.e0
  have e3 := hd.e3
  have e4 := hd.e4
  have b0 := hm.b0
  have ld := hd.ltd
  have le := hd.lte
  have lb := hm.ltb
  have nd : ¬ S p.bd := fun e => hU.1 (hm.su _ e)
  have nb : ¬ S p.be := fun e => hU.2.1 (hm.su _ e)
  have nbb := hm.ubb.2
  replace hm := Mr.hid hm
  replace hd := Mr.hid hd
  clear hf hS0 hU0 hU1
  go_enter Tryz.func106, Tryz.ntmps106
  go_wp2_with (go_at_call 112; refine C.mono ?_; clear C; rintro e w' ⟨rfl, hw⟩; obtain rfl := hw.symm)
  go_region_held3 (fun w' => w'.cell? ⟨p.bd, 0, none⟩ = some (.pointer (some ⟨p.be, 0, none⟩)) ∧ w'.cell? ⟨p.be, 0, none⟩ = some (.pointer (some ⟨p.bb, 0, none⟩)) ∧ w'.cell? ⟨p.be, 3, none⟩ = some (.int .i64 now) ∧ w'.cell? ⟨p.bb, 0, none⟩ = some (.pointer (some ⟨p.bm, 0, none⟩))) (go_keep)
    (first | (go_at_call 117; refine (N _ hdr).mono ?_; clear N; rintro e w1 ⟨rfl, h1, h2⟩; have g1 := (World.cell?_of_block (h2.block p.bd ld nd)).trans d0; have g2 := (World.cell?_of_block (h2.block p.be le nb)).trans e0; have g3 := (World.cell?_of_block (h2.block p.be le nb)).trans e3; have g4 := (World.cell?_of_block (h2.block p.bb lb nbb)).trans b0))
  go_wp2
  go_ret
  exact ⟨rfl, fin _ h1 ((Fr.refl W S).drew.trans (h2.mono (fun _ => .inl)))⟩
/-- What the desk's cells and the book's hold. -/
structure Dc (p : Ph) (i : Nat) (now : Int) (sp : Bool) (W : World) : Prop where
  d0 : W.cell? ⟨p.bd, 0, none⟩ = some (.pointer (some ⟨p.be, 0, none⟩))
  e0 : W.cell? ⟨p.be, 0, none⟩ = some (.pointer (some ⟨p.bb, 0, none⟩))
  e1 : W.cell? ⟨p.be, 1, none⟩ = some (.pointer (some ⟨p.gt, i * 5, none⟩))
  e2 : W.cell? ⟨p.be, 2, none⟩ = some (.int .i64 i)
  e3 : W.cell? ⟨p.be, 3, none⟩ = some (.int .i64 now)
  e4 : W.cell? ⟨p.be, 4, none⟩ = some (.bool sp)
  e4z : W.frozen? ⟨p.be, 4, none⟩ = false
  b0 : W.cell? ⟨p.bb, 0, none⟩ = some (.pointer (some ⟨p.bm, 0, none⟩))
  b1 : W.cell? ⟨p.bb, 1, none⟩ = some p.vc
theorem D.cells {sp : Bool} (h : D W0 U0 S0 X0 p i now X sp s W) : Dc p i now sp W := by
  obtain ⟨U, S, vl, va, hx, hm, hd, _⟩ := h
  exact ⟨hd.d0, hd.e0, hd.e1, hd.e2, hd.e3, hd.e4, hd.ez 4, hm.b0, hm.b1⟩
theorem D.drew {sp : Bool} (h : D W0 U0 S0 X0 p i now X sp s W) : D W0 U0 S0 X0 p i now X sp s W.drew := by
  obtain ⟨U, S, vl, va, hx, hm, hd, hU, hS0, hU0, hU1, hf⟩ := h
  exact ⟨U, S, vl, va, hx, hm.below (Below.refl _ _).drew, hd.kept rfl rfl, hU, hS0, hU0, hU1, hf.drew⟩
theorem D.alloc {sp : Bool} (h : D W0 U0 S0 X0 p i now X sp s W) (o : Obj) : D W0 U0 S0 X0 p i now X sp s (W.alloc o) := by
  obtain ⟨U, S, vl, va, hx, hm, hd, hU, hS0, hU0, hU1, hf⟩ := h
  exact ⟨U, S, vl, va, fun k o' hk => ⟨(Below.heap_alloc _ _ _ (hm.ul k (hx k o' hk).2.1)).trans (hx k o' hk).1, (hx k o' hk).2⟩, hm.below ((Below.refl _ _).alloc (Nat.le_refl _) o), hd.kept (Below.heap_alloc _ _ _ hd.ltd) (Below.heap_alloc _ _ _ hd.lte), hU, hS0, hU0, hU1, hf.alloc o⟩
theorem D.size {sp : Bool} (h : D W0 U0 S0 X0 p i now X sp s W) : W0.heap.size ≤ W.heap.size := by
  obtain ⟨U, S, vl, va, hx, hm, hd, hU, hS0, hU0, hU1, hf⟩ := h
  exact hf.size
theorem D.spent {sp : Bool} (h : D W0 U0 S0 X0 p i now X sp s W) (sp' : Bool) : D W0 U0 S0 X0 p i now X sp' s (W.setCell ⟨p.be, 4, none⟩ (.bool sp')) := by
  obtain ⟨U, S, vl, va, hx, hm, hd, hU, hS0, hU0, hU1, hf⟩ := h
  have hk : ∀ k, k ≠ p.be → (W.setCell ⟨p.be, 4, none⟩ (.bool sp')).heap[k]? = W.heap[k]? := fun k hne => Below.heap_setCell _ _ _ k hne
  refine ⟨U, S, vl, va, fun k o' hk' => ⟨(hk k (fun e => hU.2.1 (e ▸ (hx k o' hk').2.1))).trans (hx k o' hk').1, (hx k o' hk').2⟩, hm.kept (fun k hk' => hk k (fun e => hU.2.1 (e ▸ hk'))) (fun _ h => h) (fun k h => by simpa using hm.ul k h), ⟨(hk _ hd.ne).trans hd.dk, ?_⟩, hU, hS0, hU0, hU1, hf.setCell _ _ (.inr hU.2.2.2)⟩
  rw [setBlk hd.bn]; rfl
/-- What a load makes of it. -/
def Ss.loads (s : Ss) (i : Nat) (now : Int) (ad : Nat) : Ss := { s with mv := now, lg := s.lg ++ [⟨now, i, 1, ad, 0, 0, s.ws[ad]?.getD 0⟩] }
set_option maxRecDepth 100000 in
set_option maxHeartbeats 1000000 in
theorem desk_load (h : D W0 U0 S0 X0 p i now X false s W) (hb : Me.Roomy s.lg s.ah) (ad : Nat) (hi : ad < s.ws.length) :
    Calls Tryz.prog 98 #[.pointer (some ⟨p.bd, 0, none⟩), .int .i64 (ad : Int)] W fun e w' => e = .returned (.int .u64 (s.ws[ad]?.getD 0)) ∧ D W0 U0 S0 X0 p i now X true (s.loads i now ad) w' := by
  have C := access_yes h
  have L : ∀ w1, D W0 U0 S0 X0 p i now X false { s with mv := now } w1 → Calls Tryz.prog 107 #[.pointer (some ⟨p.bm, 0, none⟩), .int .i64 (i : Int), .int .i64 (ad : Int)] w1 fun e w' => e = .returned (.tuple #[.int .u64 (s.ws[ad]?.getD 0), .int .i64 0]) ∧ D W0 U0 S0 X0 p i now X false (s.loads i now ad) w' := fun w1 h1 => by
    obtain ⟨U, S, vl, va, hx, hm, hd, hU, hS0, hU0, hU1, hf⟩ := h1
    refine (load_ok hm.mem hb i ad hi).mono ?_
    rintro e w' ⟨rfl, ⟨vl', hm'⟩, hf'⟩
    exact ⟨rfl, D.turned (s := { s with mv := now }) hx hm hd hU hS0 hU0 hU1 hf hm' hf'⟩
  clear h hb
  generalize s.ws[ad]?.getD 0 = x at *
  generalize s.loads i now ad = s' at *
  generalize ({ s with mv := now } : Ss) = s1 at *
  clear hi
  go_enter Tryz.func98, Tryz.ntmps98
  go_wp2_with (go_at_call 106; refine C.mono ?_; clear C; rintro e w1 ⟨rfl, h1⟩; obtain ⟨d0, e0, e1, e2, e3, e4, e4z, b0, b1⟩ := h1.cells)
  replace h1 := Mr.hid h1
  go_region_held3 (fun w' => w'.cell? ⟨p.bd, 0, none⟩ = some (.pointer (some ⟨p.be, 0, none⟩)) ∧ w'.cell? ⟨p.be, 0, none⟩ = some (.pointer (some ⟨p.bb, 0, none⟩)) ∧ w'.cell? ⟨p.be, 2, none⟩ = some (.int .i64 (i : Int)) ∧ w'.cell? ⟨p.bb, 0, none⟩ = some (.pointer (some ⟨p.bm, 0, none⟩))) (go_keep)
    (first | (go_at_call 107; refine (L _ h1.out.drew).mono ?_; clear L; rintro e w2 ⟨rfl, h2⟩; obtain ⟨g0, g1, g2, g3, g4, g5, g5z, g6, g7⟩ := h2.cells; replace h2 := Mr.hid h2))
  go_wp2
  go_ret
  exact ⟨rfl, h2.out.spent true⟩
def Ss.hits (s : Ss) (i : Nat) (now : Int) (ad : Nat) (old x : Int) : Ss := { s with mv := now, ws := s.ws.set ad x, lg := s.lg ++ [⟨now, i, 3, ad, old, x, old⟩], ah := s.ah ++ [old] }
def Ss.misses (s : Ss) (i : Nat) (now : Int) (ad : Nat) (old x : Int) : Ss := { s with mv := now, lg := s.lg ++ [⟨now, i, 3, ad, old, x, s.ws[ad]?.getD 0⟩] }
set_option maxRecDepth 100000 in
set_option maxHeartbeats 1000000 in
theorem desk_swap {r : Bool} {s' s1 : Ss} {y : Int} (C : Calls Tryz.prog 106 #[.pointer (some ⟨p.bd, 0, none⟩)] W fun e w' => e = .returned (.bool true) ∧ D W0 U0 S0 X0 p i now X false s1 w') (ad : Nat) (old x : Int)
    (L : ∀ w1, D W0 U0 S0 X0 p i now X false s1 w1 → Calls Tryz.prog 129 #[.pointer (some ⟨p.bm, 0, none⟩), .int .i64 (i : Int), .int .i64 (ad : Int), .int .u64 old, .int .u64 x] w1 fun e w' => e = .returned (.tuple #[.int .u64 y, .bool r, .int .i64 0]) ∧ D W0 U0 S0 X0 p i now X false s' w') :
    Calls Tryz.prog 128 #[.pointer (some ⟨p.bd, 0, none⟩), .int .i64 (ad : Int), .int .u64 old, .int .u64 x] W fun e w' => e = .returned (.bool r) ∧ D W0 U0 S0 X0 p i now X true s' w' := by
  go_enter Tryz.func128, Tryz.ntmps128
  go_wp2_with (go_at_call 106; refine C.mono ?_; clear C; rintro e w1 ⟨rfl, h1⟩; obtain ⟨d0, e0, e1, e2, e3, e4, e4z, b0, b1⟩ := h1.cells)
  replace h1 := Mr.hid h1
  go_region_held3 (fun w' => w'.cell? ⟨p.bd, 0, none⟩ = some (.pointer (some ⟨p.be, 0, none⟩)) ∧ w'.cell? ⟨p.be, 0, none⟩ = some (.pointer (some ⟨p.bb, 0, none⟩)) ∧ w'.cell? ⟨p.be, 2, none⟩ = some (.int .i64 (i : Int)) ∧ w'.cell? ⟨p.bb, 0, none⟩ = some (.pointer (some ⟨p.bm, 0, none⟩))) (go_keep)
    (first | (go_at_call 129; refine (L _ h1.out.drew).mono ?_; clear L; rintro e w2 ⟨rfl, h2⟩; obtain ⟨g0, g1, g2, g3, g4, g5, g5z, g6, g7⟩ := h2.cells; replace h2 := Mr.hid h2))
  go_wp2
  go_ret
  exact ⟨rfl, h2.out.spent true⟩
theorem desk_hit (h : D W0 U0 S0 X0 p i now X false s W) (hb : Me.Roomy s.lg s.ah) (ad : Nat) (hi : ad < s.ws.length) (old x : Int) (ho : s.ws[ad]?.getD 0 = old) :
    Calls Tryz.prog 128 #[.pointer (some ⟨p.bd, 0, none⟩), .int .i64 (ad : Int), .int .u64 old, .int .u64 x] W fun e w' => e = .returned (.bool true) ∧ D W0 U0 S0 X0 p i now X true (s.hits i now ad old x) w' :=
  desk_swap (access_yes h) ad old x fun w1 h1 => by
    obtain ⟨U, S, vl, va, hx, hm, hd, hU, hS0, hU0, hU1, hf⟩ := h1
    refine (swap_hit hm.mem hb i old x ad hi ho).mono ?_
    rintro e w' ⟨rfl, ⟨vl', va', hm'⟩, hf'⟩
    exact ⟨rfl, D.turned (s := { s with mv := now }) hx hm hd hU hS0 hU0 hU1 hf hm' hf'⟩
theorem desk_miss (h : D W0 U0 S0 X0 p i now X false s W) (hb : Me.Roomy s.lg s.ah) (ad : Nat) (hi : ad < s.ws.length) (old x : Int) (ho : s.ws[ad]?.getD 0 ≠ old) :
    Calls Tryz.prog 128 #[.pointer (some ⟨p.bd, 0, none⟩), .int .i64 (ad : Int), .int .u64 old, .int .u64 x] W fun e w' => e = .returned (.bool false) ∧ D W0 U0 S0 X0 p i now X true (s.misses i now ad old x) w' :=
  desk_swap (access_yes h) ad old x fun w1 h1 => by
    obtain ⟨U, S, vl, va, hx, hm, hd, hU, hS0, hU0, hU1, hf⟩ := h1
    refine (swap_miss hm.mem hb i old x ad hi ho).mono ?_
    rintro e w' ⟨rfl, ⟨vl', hm'⟩, hf'⟩
    exact ⟨rfl, D.turned (s := { s with mv := now }) hx hm hd hU hS0 hU0 hU1 hf hm' hf'⟩
end
end Go.Proofs.YtedaoljmcfbbpaaGreat.Ma
