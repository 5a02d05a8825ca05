import Derived.Test.YtkimmfdicohoiaaMacRep
/-
  THE DOCUMENT's MACHINE (reclaimref03) as it lies in the world.
-/
namespace Go.Proofs.Ytkimmfdicohoiaa.Rf
open Go.RowKit Mr Me Ma
def nilS : Value := .slice none 0 0
def u0 : Value := .int .u64 0
/-- A thread: busy, its call, where it stands, its registers; its way back, its cache, its record. -/
structure Rt where
  busy : Bool
  call : Int
  pc : Int
  R : Nat → Int
  bk : Value
  ch : Value
  rc : Int
def regs (R : Nat → Int) : List Value := (List.range 48).map (fun j => Value.int .u64 (R j))
theorem regs_len (R : Nat → Int) : (regs R).length = 48 := by rw [regs, List.length_map, List.length_range]
def tailC : List Value := List.replicate 600 u0 ++ [nilS, nilS]
theorem tailC_len : tailC.length = 602 := by rw [tailC, List.length_append, List.length_replicate]; rfl
def Rt.cells (t : Rt) : List Value := [.bool t.busy, .int .i64 t.call, .int .i64 t.pc] ++ (regs t.R ++ ([t.bk, t.ch, .int .i64 t.rc, nilS, nilS] ++ tailC))
theorem rt_len (t : Rt) : t.cells.length = 658 := by
  rw [Rt.cells, List.length_append, List.length_append, List.length_append, regs_len, tailC_len]
  simp only [List.length_cons, List.length_nil]
/-- An instruction. -/
structure Ins where
  kd : Int
  a : Int
  b : Int
  c : Int
  d : Int
  to : Int
def Ins.cells (x : Ins) : List Value := [.int .i64 x.kd, .int .i64 x.a, .int .i64 x.b, .int .i64 x.c, .int .i64 x.d, .int .i64 x.to]
def Ins.val (x : Ins) : Value := .agg #[.int .i64 x.kd, .int .i64 x.a, .int .i64 x.b, .int .i64 x.c, .int .i64 x.d, .int .i64 x.to]
theorem ins_len (x : Ins) : x.cells.length = 6 := rfl
/-- An entry. -/
structure En where
  op : Int
  lb : Int
  nd : Int
def En.cells (x : En) : List Value := [.int .i64 x.op, .int .i64 x.lb, .int .i64 x.nd]
def nums (l : List Int) : List Value := l.map (Value.int .i64)
/-- What stays: the box, the configuration, the code, the rows that are not made anew. -/
structure Rc where
  b : Nat
  c0 : Int
  c1 : Int
  c2 : Int
  c3 : Int
  c4 : Int
  c5 : Int
  c6 : Int
  vw : Value
  vcd : Value
  vlb : Value
  ven : Value
  gt : Nat
  nt : Nat
  ct : Nat
  vst : Value
  vho : Value
  vli : Value
  code : List Ins
  labs : List Int
  ens : List En
/-- What changes. -/
structure Rs where
  ws : List Int
  ths : List Rt
  n : Int
  cls : List Cl
  lg : List Acc
def Rc.box (q : Rc) (n : Int) (vc vl vs : Value) : Obj := .cells #[.int .i64 q.c0, .int .i64 q.c1, .int .i64 q.c2, .int .i64 q.c3, .int .i64 q.c4, .int .i64 q.c5, .int .i64 q.c6, q.vw, q.vcd, q.vlb, q.ven, .slice (some ⟨q.gt, 0, none⟩) q.nt q.ct, q.vst, q.vho, q.vli, u0, u0, u0, u0, u0, u0, u0, u0, .int .i64 n, vc, vl, vs] 60 (0, 0)
structure Rm (W : World) (U : Nat → Prop) (q : Rc) (vc vl vs : Value) (s : Rs) : Prop where
  bx : W.heap[q.b]? = some (q.box s.n vc vl vs)
  wd : Has W U 54 1 q.vw s.ws.length (wrd s.ws)
  cd : Has W U 74 6 q.vcd q.code.length (q.code.flatMap Ins.cells)
  lb : Has W U 3 1 q.vlb q.labs.length (nums q.labs)
  en : Has W U 80 3 q.ven q.ens.length (q.ens.flatMap En.cells)
  th : Has W U 66 658 (.slice (some ⟨q.gt, 0, none⟩) q.nt q.ct) q.nt (s.ths.flatMap Rt.cells)
  tn : s.ths.length = q.nt
  cl : Has W U 112 9 vc s.cls.length (clc s.cls)
  lg : Has W U 115 7 vl s.lg.length (lgc s.lg)
  ub : U q.b
  ul : ∀ k, U k → k < W.heap.size
section
variable {W W' : World} {U U' : Nat → Prop} {q : Rc} {vc vl vs : Value} {s : Rs}
theorem Rm.kept (h : Rm W U q vc vl vs s) (hk : ∀ k, U k → W'.heap[k]? = W.heap[k]?) (hU : ∀ k, U k → U' k) (hl : ∀ k, U' k → k < W'.heap.size) : Rm W' U' q vc vl vs s :=
  have f : ∀ {e sz n : Nat} {v : Value} {xs : List Value}, Has W U e sz v n xs → Has W' U' e sz v n xs := fun hv => hv.kept (fun k e => hk k (hv.lt k e).1) (fun k e => hU k (hv.lt k e).1)
  ⟨(hk _ h.ub).trans h.bx, f h.wd, f h.cd, f h.lb, f h.en, f h.th, h.tn, f h.cl, f h.lg, hU _ h.ub, hl⟩
theorem Rm.below (h : Rm W U q vc vl vs s) (hB : Below W.heap.size W W') : Rm W' U q vc vl vs s :=
  h.kept (fun k hk => hB.block k (h.ul k hk)) (fun _ hk => hk) (fun k hk => Nat.lt_of_lt_of_le (h.ul k hk) hB.size)
theorem Rm.cells (h : Rm W U q vc vl vs s) : (W.cell? ⟨q.b, 7, none⟩ = some q.vw ∧ W.cell? ⟨q.b, 8, none⟩ = some q.vcd ∧ W.cell? ⟨q.b, 9, none⟩ = some q.vlb ∧ W.cell? ⟨q.b, 10, none⟩ = some q.ven ∧ W.cell? ⟨q.b, 11, none⟩ = some (.slice (some ⟨q.gt, 0, none⟩) q.nt q.ct)) ∧ W.cell? ⟨q.b, 23, none⟩ = some (.int .i64 s.n) ∧ W.cell? ⟨q.b, 24, none⟩ = some vc ∧ W.cell? ⟨q.b, 25, none⟩ = some vl ∧ W.cell? ⟨q.b, 26, none⟩ = some vs := by
  have h0 := h.bx
  unfold Rc.box at h0
  simp [World.cell?, h0]
theorem Rm.lt (h : Rm W U q vc vl vs s) : q.b < W.heap.size := h.ul _ h.ub
end
end Go.Proofs.Ytkimmfdicohoiaa.Rf
