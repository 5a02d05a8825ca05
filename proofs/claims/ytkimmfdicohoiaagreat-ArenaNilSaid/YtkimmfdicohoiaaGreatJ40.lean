import Derived.Test.YtkimmfdicohoiaaGreatJ03
import Derived.Laws.Tables
import Derived.BigQuiet
import Derived.BigRegion
import Derived.Test.YtkimmfdicohoiaaGreatJ02
/-
  THE DOCUMENT's MACHINE (reclaimref03) as it lies in the world.
-/
namespace Go.Proofs.YtkimmfdicohoiaaGreat.Rf
open Go.RowKit Mr Me Ma
def nilS : Value := .slice none 0 0
def u0 : Value := .int .u64 0
/-- A thread: busy, its call, where it stands, its registers; its way back, its cache, its record. -/
structure Rt where
  busy : Bool
  call : Int
  pc : Int
  R : Nat → Int
  bk : Value
  ch : Value
  rc : Int
def upd (R : Nat → Int) (j : Nat) (x : Int) : Nat → Int := fun k => if k = j then x else R k
def regs (R : Nat → Int) : List Value := (List.range 48).map (fun j => Value.int .u64 (R j))
theorem regs_len (R : Nat → Int) : (regs R).length = 48 := by rw [regs, List.length_map, List.length_range]
def tailC : List Value := List.replicate 600 u0 ++ [nilS, nilS]
theorem tailC_len : tailC.length = 602 := by rw [tailC, List.length_append, List.length_replicate]; rfl
def Rt.cells (t : Rt) : List Value := [.bool t.busy, .int .i64 t.call, .int .i64 t.pc] ++ (regs t.R ++ ([t.bk, t.ch, .int .i64 t.rc, nilS, nilS] ++ tailC))
theorem rt_len (t : Rt) : t.cells.length = 658 := by
  rw [Rt.cells, List.length_append, List.length_append, List.length_append, regs_len, tailC_len]
  simp only [List.length_cons, List.length_nil]
theorem rt_busy (t : Rt) : t.cells[0]? = some (.bool t.busy) := rfl
theorem rt_call (t : Rt) : t.cells[1]? = some (.int .i64 t.call) := rfl
theorem rt_pc (t : Rt) : t.cells[2]? = some (.int .i64 t.pc) := rfl
theorem rt_R (t : Rt) (j : Nat) (hj : j < 48) : t.cells[3 + j]? = some (.int .u64 (t.R j)) := by
  unfold Rt.cells
  rw [List.getElem?_append_right (by simp), List.getElem?_append_left (by rw [regs_len]; simp; omega)]
  simp [regs, hj]
theorem rt_at (t : Rt) (k : Nat) (hk : k < 5) : t.cells[51 + k]? = [t.bk, t.ch, Value.int .i64 t.rc, nilS, nilS][k]? := by
  unfold Rt.cells
  rw [List.getElem?_append_right (by simp; omega), List.getElem?_append_right (by rw [regs_len]; simp; omega), List.getElem?_append_left (by rw [regs_len]; simp; omega)]
  congr 1
  rw [regs_len]
  simp
  omega
theorem rt_bk (t : Rt) : t.cells[51]? = some t.bk := rt_at t 0 (by decide)
theorem rt_ch (t : Rt) : t.cells[52]? = some t.ch := rt_at t 1 (by decide)
theorem rt_rc (t : Rt) : t.cells[53]? = some (.int .i64 t.rc) := rt_at t 2 (by decide)
theorem rt_setBusy (t : Rt) (x : Bool) : ({ t with busy := x } : Rt).cells = t.cells.set 0 (.bool x) := rfl
theorem rt_setCall (t : Rt) (x : Int) : ({ t with call := x } : Rt).cells = t.cells.set 1 (.int .i64 x) := rfl
theorem rt_setPc (t : Rt) (x : Int) : ({ t with pc := x } : Rt).cells = t.cells.set 2 (.int .i64 x) := rfl
theorem regs_set (R : Nat → Int) (j : Nat) (hj : j < 48) (x : Int) : regs (upd R j x) = (regs R).set j (.int .u64 x) := by
  apply List.ext_getElem?
  intro k
  rw [List.getElem?_set, regs_len]
  by_cases e : j = k
  · subst e
    simp [regs, hj, upd]
  · rw [if_neg e]
    by_cases hk : k < 48
    · have : ¬ k = j := fun e' => e e'.symm
      simp [regs, hk, upd, this]
    · rw [List.getElem?_eq_none (by rw [regs_len]; omega), List.getElem?_eq_none (by rw [regs_len]; omega)]
theorem rt_setR (t : Rt) (j : Nat) (hj : j < 48) (x : Int) : ({ t with R := upd t.R j x } : Rt).cells = t.cells.set (3 + j) (.int .u64 x) := by
  unfold Rt.cells
  rw [List.set_append_right _ _ (by simp), List.set_append_left _ _ (by rw [regs_len]; simp; omega)]
  simp only [regs_set _ j hj]
  congr 3
  simp
theorem rt_setAt (t t' : Rt) (k : Nat) (hk : k < 5) (x : Value) (h1 : t'.busy = t.busy ∧ t'.call = t.call ∧ t'.pc = t.pc ∧ t'.R = t.R) (h2 : [t'.bk, t'.ch, Value.int .i64 t'.rc, nilS, nilS] = [t.bk, t.ch, Value.int .i64 t.rc, nilS, nilS].set k x) : t'.cells = t.cells.set (51 + k) x := by
  unfold Rt.cells
  rw [List.set_append_right _ _ (by simp; omega), List.set_append_right _ _ (by rw [regs_len]; simp; omega), List.set_append_left _ _ (by rw [regs_len]; simp; omega), h2, h1.1, h1.2.1, h1.2.2.1, h1.2.2.2]
  congr 4
  rw [regs_len]
  simp
  omega
theorem rt_setBk (t : Rt) (x : Value) : ({ t with bk := x } : Rt).cells = t.cells.set 51 x := rt_setAt t _ 0 (by decide) x ⟨rfl, rfl, rfl, rfl⟩ rfl
theorem rt_setCh (t : Rt) (x : Value) : ({ t with ch := x } : Rt).cells = t.cells.set 52 x := rt_setAt t _ 1 (by decide) x ⟨rfl, rfl, rfl, rfl⟩ rfl
/-- An instruction. -/
structure Ins where
  kd : Int
  a : Int
  b : Int
  c : Int
  d : Int
  to : Int
def Ins.cells (x : Ins) : List Value := [.int .i64 x.kd, .int .i64 x.a, .int .i64 x.b, .int .i64 x.c, .int .i64 x.d, .int .i64 x.to]
def Ins.val (x : Ins) : Value := .agg #[.int .i64 x.kd, .int .i64 x.a, .int .i64 x.b, .int .i64 x.c, .int .i64 x.d, .int .i64 x.to]
theorem ins_len (x : Ins) : x.cells.length = 6 := rfl
/-- An entry. -/
structure En where
  op : Int
  lb : Int
  nd : Int
def En.cells (x : En) : List Value := [.int .i64 x.op, .int .i64 x.lb, .int .i64 x.nd]
theorem en_len (x : En) : x.cells.length = 3 := rfl
def nums (l : List Int) : List Value := l.map (Value.int .i64)
/-- What stays: the box, the configuration, the code, the rows that are not made anew. -/
structure Rc where
  b : Nat
  c0 : Int
  c1 : Int
  c2 : Int
  c3 : Int
  c4 : Int
  c5 : Int
  c6 : Int
  vw : Value
  vcd : Value
  vlb : Value
  ven : Value
  gt : Nat
  nt : Nat
  ct : Nat
  vst : Value
  vho : Value
  vli : Value
  code : List Ins
  labs : List Int
  ens : List En
/-- What changes. -/
structure Rs where
  ws : List Int
  ths : List Rt
  n : Int
  cls : List Cl
  lg : List Acc
def Rc.box (q : Rc) (n : Int) (vc vl vs : Value) : Obj := .cells #[.int .i64 q.c0, .int .i64 q.c1, .int .i64 q.c2, .int .i64 q.c3, .int .i64 q.c4, .int .i64 q.c5, .int .i64 q.c6, q.vw, q.vcd, q.vlb, q.ven, .slice (some ⟨q.gt, 0, none⟩) q.nt q.ct, q.vst, q.vho, q.vli, u0, u0, u0, u0, u0, u0, u0, u0, .int .i64 n, vc, vl, vs] 135 (0, 0)
structure Rm (W : World) (U : Nat → Prop) (q : Rc) (vc vl vs : Value) (s : Rs) : Prop where
  bx : W.heap[q.b]? = some (q.box s.n vc vl vs)
  wd : Has W U 92 1 q.vw s.ws.length (wrd s.ws)
  cd : Has W U 173 6 q.vcd q.code.length (q.code.flatMap Ins.cells)
  lb : Has W U 3 1 q.vlb q.labs.length (nums q.labs)
  en : Has W U 175 3 q.ven q.ens.length (q.ens.flatMap En.cells)
  th : Has W U 140 658 (.slice (some ⟨q.gt, 0, none⟩) q.nt q.ct) q.nt (s.ths.flatMap Rt.cells)
  tn : s.ths.length = q.nt
  cl : Has W U 90 9 vc s.cls.length (clc s.cls)
  lg : Has W U 94 7 vl s.lg.length (lgc s.lg)
  ub : U q.b
  ul : ∀ k, U k → k < W.heap.size
section
variable {W W' : World} {U U' : Nat → Prop} {q : Rc} {vc vl vs : Value} {s : Rs}
theorem Rm.kept (h : Rm W U q vc vl vs s) (hk : ∀ k, U k → W'.heap[k]? = W.heap[k]?) (hU : ∀ k, U k → U' k) (hl : ∀ k, U' k → k < W'.heap.size) : Rm W' U' q vc vl vs s :=
  have f : ∀ {e sz n : Nat} {v : Value} {xs : List Value}, Has W U e sz v n xs → Has W' U' e sz v n xs := fun hv => hv.kept (fun k e => hk k (hv.lt k e).1) (fun k e => hU k (hv.lt k e).1)
  ⟨(hk _ h.ub).trans h.bx, f h.wd, f h.cd, f h.lb, f h.en, f h.th, h.tn, f h.cl, f h.lg, hU _ h.ub, hl⟩
theorem Rm.below (h : Rm W U q vc vl vs s) (hB : Below W.heap.size W W') : Rm W' U q vc vl vs s :=
  h.kept (fun k hk => hB.block k (h.ul k hk)) (fun _ hk => hk) (fun k hk => Nat.lt_of_lt_of_le (h.ul k hk) hB.size)
theorem Rm.cells (h : Rm W U q vc vl vs s) : (W.cell? ⟨q.b, 7, none⟩ = some q.vw ∧ W.cell? ⟨q.b, 8, none⟩ = some q.vcd ∧ W.cell? ⟨q.b, 9, none⟩ = some q.vlb ∧ W.cell? ⟨q.b, 10, none⟩ = some q.ven ∧ W.cell? ⟨q.b, 11, none⟩ = some (.slice (some ⟨q.gt, 0, none⟩) q.nt q.ct)) ∧ W.cell? ⟨q.b, 23, none⟩ = some (.int .i64 s.n) ∧ W.cell? ⟨q.b, 24, none⟩ = some vc ∧ W.cell? ⟨q.b, 25, none⟩ = some vl ∧ W.cell? ⟨q.b, 26, none⟩ = some vs := by
  have h0 := h.bx
  unfold Rc.box at h0
  simp [World.cell?, h0]
theorem Rm.frz (h : Rm W U q vc vl vs s) (j : Nat) : W.frozen? ⟨q.b, j, none⟩ = false := by
  have h0 := h.bx
  unfold Rc.box at h0
  simp [World.frozen?, h0]
theorem Rm.lt (h : Rm W U q vc vl vs s) : q.b < W.heap.size := h.ul _ h.ub
theorem Rm.gtl (h : Rm W U q vc vl vs s) : U q.gt ∧ q.gt < W.heap.size := h.th.lt q.gt rfl
theorem Rm.gtb (h : Rm W U q vc vl vs s) : q.gt ≠ q.b := fun e => by
  have := not_row h.bx h.th (by decide)
  exact this (by rw [← e]; rfl)
theorem Rm.tcell (h : Rm W U q vc vl vs s) {i : Nat} {t : Rt} (ht : s.ths[i]? = some t) (j : Nat) (hj : j < 658) {u : Value} (hu : t.cells[j]? = some u) : W.cell? ⟨q.gt, i * 658 + j, none⟩ = some u :=
  h.th.cells (g := q.gt) rfl _ _ (by rw [flat_get rt_len _ _ _ t ht hj]; exact hu)
theorem Rm.tfrz (h : Rm W U q vc vl vs s) (j : Nat) : W.frozen? ⟨q.gt, j, none⟩ = false := h.th.frozen (g := q.gt) rfl j
/-- A cell of a thread is written. -/
theorem Rm.putT (h : Rm W U q vc vl vs s) {i : Nat} {t t' : Rt} (ht : s.ths[i]? = some t) (j : Nat) (hj : j < 658) {u : Value} (hu : t'.cells = t.cells.set j u) : Rm (W.setCell ⟨q.gt, i * 658 + j, none⟩ u) U q vc vl vs { s with ths := s.ths.set i t' } := by
  have f : ∀ {e sz n : Nat} {v : Value} {xs : List Value}, Has W U e sz v n xs → e ≠ 140 → Has (W.setCell ⟨q.gt, i * 658 + j, none⟩ u) U e sz v n xs := fun hv hne => hv.setCell _ u (fun e => has_ne hv h.th hne _ e rfl)
  refine ⟨(Below.heap_setCell _ _ _ _ (fun e => h.gtb e.symm)).trans h.bx, f h.wd (by decide), f h.cd (by decide), f h.lb (by decide), f h.en (by decide), ?_, by show (s.ths.set i t').length = _; rw [List.length_set]; exact h.tn, f h.cl (by decide), f h.lg (by decide), h.ub, fun k hk => by simpa [World.setCell] using h.ul k hk⟩
  have hp := has_put h.th (i * 658 + j) u
  rw [flat_set rt_len _ _ _ t t' u ht hj hu] at hp
  exact hp
/-- A cell of a call is written. -/
theorem Rm.putC (h : Rm W U q vc vl vs s) {gc cc : Nat} (hv : vc = .slice (some ⟨gc, 0, none⟩) s.cls.length cc) {c : Nat} {x x' : Cl} (hx : s.cls[c]? = some x) (j : Nat) (hj : j < 9) {u : Value} (hu : x'.cells = x.cells.set j u) : Rm (W.setCell ⟨gc, c * 9 + j, none⟩ u) U q vc vl vs { s with cls := s.cls.set c x' } := by
  have hcl := h.cl
  rw [hv] at hcl
  have f : ∀ {e sz n : Nat} {v : Value} {xs : List Value}, Has W U e sz v n xs → e ≠ 90 → Has (W.setCell ⟨gc, c * 9 + j, none⟩ u) U e sz v n xs := fun hv hne => hv.setCell _ u (fun e => has_ne hv hcl hne _ e rfl)
  have hb : q.b ≠ gc := fun e => not_row h.bx hcl (by decide) (by rw [e]; rfl)
  refine ⟨(Below.heap_setCell _ _ _ _ hb).trans h.bx, f h.wd (by decide), f h.cd (by decide), f h.lb (by decide), f h.en (by decide), f h.th (by decide), h.tn, ?_, f h.lg (by decide), h.ub, fun k hk => by simpa [World.setCell] using h.ul k hk⟩
  have hp := has_put hcl (c * 9 + j) u
  rw [clc, flat_set cl_len _ _ _ x x' u hx hj hu] at hp
  show Has _ U _ 9 _ (s.cls.set c x').length _
  rw [List.length_set, hv]
  exact hp
/-- A word is written. -/
theorem Rm.putW (h : Rm W U q vc vl vs s) {gw cw : Nat} (hv : q.vw = .slice (some ⟨gw, 0, none⟩) s.ws.length cw) (ad : Nat) (x : Int) : Rm (W.setCell ⟨gw, ad, none⟩ (.int .u64 x)) U q vc vl vs { s with ws := s.ws.set ad x } := by
  have hw := h.wd
  rw [hv] at hw
  have f : ∀ {e sz n : Nat} {v : Value} {xs : List Value}, Has W U e sz v n xs → e ≠ 92 → Has (W.setCell ⟨gw, ad, none⟩ (.int .u64 x)) U e sz v n xs := fun hv hne => hv.setCell _ _ (fun e => has_ne hv hw hne _ e rfl)
  have hb : q.b ≠ gw := fun e => not_row h.bx hw (by decide) (by rw [e]; rfl)
  refine ⟨(Below.heap_setCell _ _ _ _ hb).trans h.bx, ?_, f h.cd (by decide), f h.lb (by decide), f h.en (by decide), f h.th (by decide), h.tn, f h.cl (by decide), f h.lg (by decide), h.ub, fun k hk => by simpa [World.setCell] using h.ul k hk⟩
  have hp := has_put hw ad (.int .u64 x)
  show Has _ U _ 1 _ (s.ws.set ad x).length _
  rw [List.length_set, hv]
  have e : wrd (s.ws.set ad x) = (wrd s.ws).set ad (.int .u64 x) := by simp [wrd, List.map_set]
  rw [e]
  exact hp
end
end Go.Proofs.YtkimmfdicohoiaaGreat.Rf
/-
  THE DOCUMENT's MACHINE: a new thread's row, its 658 cells behind a name.
-/
namespace Go.Proofs.YtkimmfdicohoiaaGreat.Rf
open Go.RowKit Mr Me Ma
def rt0 : Rt := ⟨false, 0, 0, fun _ => 0, nilS, nilS, -1⟩
def tcA : Array Value := rt0.cells.toArray
set_option maxRecDepth 100000 in
theorem built_thr : Tryz.prog.built 140 [(6, .int .i64 (-1))] = some tcA := by kernel_rfl
theorem tcA_size : tcA.size = 658 := rt_len rt0
/-- What is written cell by cell from k on. -/
theorem fold_set : ∀ (l : List Value) (k : Nat) (A : Array Value), A.size = k + l.length → (l.zipIdx k).foldl (fun (cs : Array Value) (x : Value × Nat) => cs.setIfInBounds (0 + x.2) x.1) A = (A.toList.take k ++ l).toArray := by
  intro l
  induction l with
  | nil =>
    intro k A h
    simp only [List.zipIdx_nil, List.foldl_nil, List.append_nil]
    have : A.toList.take k = A.toList := List.take_of_length_le (by simp at h; simp; omega)
    rw [this]
  | cons c l ih =>
    intro k A h
    simp only [List.length_cons] at h
    simp only [List.zipIdx_cons, List.foldl_cons, Nat.zero_add]
    have h2 := ih (k + 1) (A.setIfInBounds k c) (by simp; omega)
    simp only [Nat.zero_add] at h2
    rw [h2]
    congr 1
    rw [Array.toList_setIfInBounds, List.take_set, List.take_add_one]
    have hk : k < A.toList.length := by simp; omega
    rw [List.getElem?_eq_getElem hk]
    have hl : (A.toList.take k).length = k := by simp; omega
    simp only [Option.toList_some]
    rw [List.set_append_right _ _ (by omega), hl, Nat.sub_self]
    simp
section
variable {P : Program}
theorem run_buildSlice_one (w : World) (t e : TypeId) (i : TypeInfo) (z : Value) (cells : Array Value) (ht : P.underlying t = some (.slice e)) (hi : P.info? e = some i) (hz : i.zero = some z) (hs : cells.size = i.size) (h0 : 0 < i.size) (hm : i.size ≤ 16777216) :
    (Instr.buildSlice t 1 #[(0, .agg cells)]).run P w = .ok (.slice (some ⟨w.heap.size, 0, none⟩) 1 1) (w.alloc (.cells cells e)) := by
  have hfill : ∀ A : Array Value, A.size = i.size → Instr.fill (fun j => some (j * i.size, i.size)) A [(0, .agg cells)] = some cells := fun A hA => by
    unfold Instr.fill
    simp only [Value.cells, Nat.zero_mul]
    rw [if_neg (by simp [hs, hA])]
    unfold Instr.fill
    congr 1
    have := fold_set cells.toList 0 A (by simp [hA, hs])
    rw [← Array.foldl_toList]
    simp only [Array.toList_zipIdx]
    rw [this]
    simp
  have hA : ((Array.range (1 * i.size)).map (fun j => z.cells[j % z.cells.size]!)).size = i.size := by simp
  have h1 : ¬ 16777216 < i.size := by omega
  have h2 : ¬ i.size = 0 := by omega
  have hF := hfill _ hA
  simp only [Nat.one_mul] at hF
  simp [Instr.buildSlice, run_underlying ht, sizeOf, typeInfo, hi, zeroValue, hz, newRow, h1, h2, hF]
end
def zA : Array Value := (⟨false, 0, 0, fun _ => 0, nilS, nilS, 0⟩ : Rt).cells.toArray
set_option maxRecDepth 100000 in
theorem info_thr : (Tryz.prog.info? 140).map (fun i => (i.zero, i.size, i.bytes)) = some (some (.agg zA), 658, 5360) := by kernel_rfl
theorem zA_size : zA.size = 658 := rt_len _
theorem one_cells (t : Rt) (h1 : t.bk.oneCell' = true) (h2 : t.ch.oneCell' = true) : ∀ u ∈ t.cells, u.oneCell' = true := by
  intro u hu
  unfold Rt.cells at hu
  simp only [List.mem_append, List.mem_cons, List.not_mem_nil, or_false] at hu
  rcases hu with (rfl | rfl | rfl) | hu | (rfl | rfl | rfl | rfl | rfl) | hu
  · rfl
  · rfl
  · rfl
  · unfold regs at hu
    obtain ⟨j, _, rfl⟩ := List.mem_map.1 hu
    rfl
  · exact h1
  · exact h2
  · rfl
  · rfl
  · rfl
  · unfold tailC at hu
    rcases List.mem_append.1 hu with hu | hu
    · rw [List.eq_of_mem_replicate hu]; rfl
    · simp only [List.mem_cons, List.not_mem_nil, or_false] at hu
      rcases hu with rfl | rfl <;> rfl
section
variable {w : World} {ops : Array Oper} {rest : List Oper} {o : Oper} {a : Act} {Q : Exit → Act → World → Prop}
theorem wpList_build_thr (hgd : o.guard = none) (ho : o.op = .build 140 #[(6, .const (.int .i64 (-1)))]) (h : wpList Tryz.prog ops Q rest (a.put o.dst (.agg tcA)) w) : wpList Tryz.prog ops Q (o :: rest) a w := by
  have e : (#[((6 : Nat), (Operand.const (.int .i64 (-1))))].map fun (i, x) => (i, a.eval x)).toList = [(6, .int .i64 (-1))] := by simp [Act.eval]
  refine wpList_build hgd _ _ ho (by rw [e, built_thr]; rfl) ?_
  rw [e, built_thr]
  exact h
theorem wpList_slice_thr (hgd : o.guard = none) (x : Operand) (ho : o.op = .buildSlice 131 1 #[(0, x)]) (hx : a.eval x = .agg tcA) (h : wpList Tryz.prog ops Q rest (a.put o.dst (.slice (some ⟨w.heap.size, 0, none⟩) 1 1)) (w.alloc (.cells tcA 140))) : wpList Tryz.prog ops Q (o :: rest) a w := by
  obtain ⟨i0, hi, hz0, hz1, hz2⟩ := info_parts info_thr
  have hr := run_buildSlice_one (P := Tryz.prog) w 131 140 i0 (.agg zA) tcA Tryz.underlying131 hi hz0 (by rw [tcA_size, hz1]) (by rw [hz1]; decide) (by rw [hz1]; decide)
  refine wpList_plain hgd fun _ hK => ?_
  unfold Oper.wp execOp
  simp only [ho, List.map_toArray, List.map_cons, List.map_nil, hx, Sem.run_bind, hr, Result.andThen_ok]
  exact hK _ _ h
end
end Go.Proofs.YtkimmfdicohoiaaGreat.Rf
/-
  THE DOCUMENT's MACHINE: what its instructions do that make no access.
-/
namespace Go.Proofs.YtkimmfdicohoiaaGreat.Rf
open Go.RowKit Mr Me Ma
theorem wrap64_sm (x : Int) (h1 : 0 ≤ x) (h2 : x ≤ 9223372036854775807) : wrap64 x = x := by unfold wrap64; omega
/-- What a piece of work makes of a machine. -/
def OutR (W : World) (U : Nat → Prop) (q : Rc) (vs : Value) (s' : Rs) (w' : World) : Prop :=
  ∃ U' vc vl, Rm w' U' q vc vl vs s' ∧ (∀ k, U k → U' k) ∧ (∀ k, U' k → U k ∨ W.heap.size ≤ k) ∧ Fr W w' U
theorem OutR.of {W w' : World} {U : Nat → Prop} {q : Rc} {vc vl vs : Value} {s' : Rs} (h : Rm w' U q vc vl vs s') (hf : Fr W w' U) : OutR W U q vs s' w' := ⟨U, vc, vl, h, fun _ h => h, fun _ h => .inl h, hf⟩
theorem OutR.trans {W w1 w2 : World} {U U1 : Nat → Prop} {q : Rc} {vs : Value} {s' : Rs} (h1 : ∀ k, U k → U1 k) (h2 : ∀ k, U1 k → U k ∨ W.heap.size ≤ k) (hF : Fr W w1 U) (ho : OutR w1 U1 q vs s' w2) : OutR W U q vs s' w2 := by
  obtain ⟨U2, vc, vl, hR, k1, k2, k3⟩ := ho
  have hs := hF.size
  refine ⟨U2, vc, vl, hR, fun k hk => k1 k (h1 k hk), fun k hk => ?_, hF.trans (k3.mono h2)⟩
  rcases k2 k hk with e | e
  · exact h2 k e
  · exact .inr (by omega)
def Rs.put (s : Rs) (i : Nat) (t : Rt) : Rs := { s with ths := s.ths.set i t }
section
variable {W : World} {U : Nat → Prop} {q : Rc} {vc vl vs : Value} {s : Rs} {i : Nat} {t : Rt}
theorem Rm.il (h : Rm W U q vc vl vs s) (ht : s.ths[i]? = some t) : i < q.nt := by
  have := (List.getElem?_eq_some_iff.1 ht).1
  rw [h.tn] at this
  exact this
theorem Rm.ntl (h : Rm W U q vc vl vs s) (ht : s.ths[i]? = some t) : q.nt ≤ 9223372036854775807 := by
  obtain ⟨_, _, e, _, _, _, hq⟩ := h.th.there (by have := h.il ht; omega)
  cases e
  unfold maxLen at hq
  omega
theorem Rm.reg (h : Rm W U q vc vl vs s) (ht : s.ths[i]? = some t) (a : Nat) (ha : a < 48) : W.cell? ⟨q.gt, i * 658 + 3 + a, none⟩ = some (.int .u64 (t.R a)) := by
  have := h.tcell ht (3 + a) (by omega) (rt_R t a ha)
  rw [← Nat.add_assoc] at this
  exact this
/-- The place. -/
theorem Rm.pcP (h : Rm W U q vc vl vs s) (ht : s.ths[i]? = some t) (p : Int) :
    Rm (W.setCell ⟨q.gt, i * 658 + 2, none⟩ (.int .i64 p)) U q vc vl vs (s.put i { t with pc := p }) ∧ Fr W (W.setCell ⟨q.gt, i * 658 + 2, none⟩ (.int .i64 p)) U :=
  ⟨h.putT ht 2 (by decide) (rt_setPc t p), (Fr.refl W U).setCell _ _ (.inl h.gtl.1)⟩
theorem put_get (s : Rs) (ht : s.ths[i]? = some t) (t' : Rt) : (s.put i t').ths[i]? = some t' := by simp [Rs.put, (List.getElem?_eq_some_iff.1 ht).1]
theorem put_put (s : Rs) (i : Nat) (t t' : Rt) : (s.put i t).put i t' = s.put i t' := by simp [Rs.put]
def Rs.putC (s : Rs) (c : Nat) (x : Cl) : Rs := { s with cls := s.cls.set c x }
/-- A call's cells. -/
theorem Rm.ccell (h : Rm W U q vc vl vs s) {n : Nat} {x : Cl} (hx : s.cls[n]? = some x) {gc cc : Nat} (hv : vc = .slice (some ⟨gc, 0, none⟩) s.cls.length cc) (j : Nat) (hj : j < 9) {u : Value} (hu : x.cells[j]? = some u) : W.cell? ⟨gc, n * 9 + j, none⟩ = some u :=
  h.cl.cells (g := gc) (by rw [hv]; rfl) _ _ (by rw [clc, flat_get cl_len _ _ _ x hx hj]; exact hu)
theorem Rm.cfrz (h : Rm W U q vc vl vs s) {gc cc : Nat} (hv : vc = .slice (some ⟨gc, 0, none⟩) s.cls.length cc) (j : Nat) : W.frozen? ⟨gc, j, none⟩ = false := h.cl.frozen (g := gc) (by rw [hv]; rfl) j
theorem Rm.cthere (h : Rm W U q vc vl vs s) {n : Nat} {x : Cl} (hx : s.cls[n]? = some x) : ∃ gc cc, vc = .slice (some ⟨gc, 0, none⟩) s.cls.length cc ∧ U gc ∧ gc < W.heap.size ∧ s.cls.length ≤ cc ∧ cc ≤ 9223372036854775807 ∧ gc ≠ q.gt ∧ gc ≠ q.b := by
  obtain ⟨gc, cc, hvc, hgU, hgl, hcn, hcx⟩ := h.cl.there (by have := (List.getElem?_eq_some_iff.1 hx).1; omega)
  unfold maxLen at hcx
  refine ⟨gc, cc, hvc, hgU, hgl, hcn, by omega, fun e => has_ne h.cl h.th (by decide) gc (by rw [hvc]; rfl) (by rw [e]; rfl), fun e => ?_⟩
  exact not_row h.bx h.cl (by decide) (by rw [hvc, e]; rfl)
/-- The place and a register. -/
theorem Rm.pcR (h : Rm W U q vc vl vs s) (ht : s.ths[i]? = some t) (p : Int) (a : Nat) (ha : a < 48) (x : Int) :
    Rm ((W.setCell ⟨q.gt, i * 658 + 2, none⟩ (.int .i64 p)).setCell ⟨q.gt, i * 658 + 3 + a, none⟩ (.int .u64 x)) U q vc vl vs (s.put i { t with pc := p, R := upd t.R a x }) ∧ Fr W ((W.setCell ⟨q.gt, i * 658 + 2, none⟩ (.int .i64 p)).setCell ⟨q.gt, i * 658 + 3 + a, none⟩ (.int .u64 x)) U := by
  have h1 := h.putT ht 2 (by decide) (rt_setPc t p)
  have hil := (List.getElem?_eq_some_iff.1 ht).1
  have h2 := h1.putT (i := i) (t := { t with pc := p }) (by simp [hil]) (3 + a) (by omega) (rt_setR { t with pc := p } a ha x)
  have e : i * 658 + 3 + a = i * 658 + (3 + a) := by omega
  rw [e]
  refine ⟨?_, ((Fr.refl W U).setCell _ _ (.inl h.gtl.1)).setCell _ _ (.inl h.gtl.1)⟩
  have hs : (s.ths.set i { t with pc := p }).set i { t with pc := p, R := upd t.R a x } = s.ths.set i { t with pc := p, R := upd t.R a x } := by simp
  unfold Rs.put
  rw [← hs]
  exact h2
theorem outs {w1 w' : World} {s' : Rs} (hh : Rm w1 U q vc vl vs s' ∧ Fr W w1 U) (hB : Below w1.heap.size w1 w') : OutR W U q vs s' w' := OutR.of (hh.1.below hB) (hh.2.trans (Fr.of_below hB))
set_option maxRecDepth 100000 in
set_option maxHeartbeats 2000000 in
theorem lists_label (h : Rm W U q vc vl vs s) (ht : s.ths[i]? = some t) (a b c d to : Int) :
    Calls Tryz.prog 139 #[.pointer (some ⟨q.b, 0, none⟩), .int .i64 (i : Int), .agg #[.int .i64 10, .int .i64 a, .int .i64 b, .int .i64 c, .int .i64 d, .int .i64 to]] W fun e w' => e = .returned (.tuple #[]) ∧ Below W.heap.size W w' := by
  obtain ⟨⟨x7, x8, x9, x10, x11⟩, x23, x24, x25, x26⟩ := h.cells
  have l1 := h.lt
  have l2 := h.gtl.2
  have hi : (i : Int) < (q.nt : Int) := by have := h.il ht; omega
  have hn := h.ntl ht
  have hB : Below W.heap.size W (W.alloc (.cells #[.int .i64 10, .int .i64 a, .int .i64 b, .int .i64 c, .int .i64 d, .int .i64 to] 173)) := (Below.refl _ _).alloc (Nat.le_refl _) _
  replace hB := Mr.hid hB
  replace ht := Mr.hid ht
  replace h := Mr.hid h
  go_enter Tryz.func139, Tryz.ntmps139
  go_wp2
  go_end0
  exact ⟨rfl, hB.out⟩
set_option maxRecDepth 100000 in
set_option maxHeartbeats 2000000 in
theorem local_label (h : Rm W U q vc vl vs s) (ht : s.ths[i]? = some t) (hp : 0 ≤ t.pc ∧ t.pc < 1000) (a b c d to : Int) :
    Calls Tryz.prog 119 #[.pointer (some ⟨q.b, 0, none⟩), .int .i64 (i : Int), .agg #[.int .i64 10, .int .i64 a, .int .i64 b, .int .i64 c, .int .i64 d, .int .i64 to]] W fun e w' => e = .returned (.tuple #[]) ∧ OutR W U q vs (s.put i { t with pc := t.pc + 1 }) w' := by
  obtain ⟨⟨x7, x8, x9, x10, x11⟩, x23, x24, x25, x26⟩ := h.cells
  have l1 := h.lt
  have l2 := h.gtl.2
  have hi : (i : Int) < (q.nt : Int) := by have := h.il ht; omega
  have hn := h.ntl ht
  have t2 := h.tcell ht 2 (by decide) (rt_pc t)
  have f2 := h.tfrz (i * 658 + 2)
  have h1 := h.putT ht 2 (by decide) (rt_setPc t (t.pc + 1))
  have F1 : Fr W (W.setCell ⟨q.gt, i * 658 + 2, none⟩ (.int .i64 (t.pc + 1))) U := (Fr.refl W U).setCell _ _ (.inl h.gtl.1)
  have ht1 : (s.put i { t with pc := t.pc + 1 }).ths[i]? = some { t with pc := t.pc + 1 } := by simp [Rs.put, (List.getElem?_eq_some_iff.1 ht).1]
  have LS := fun o => lists_label (h1.below ((Below.refl _ _).alloc (Nat.le_refl _) o)) ht1 a b c d to
  have FN := fun (o : Obj) (w' : World) (hB : Below ((W.setCell ⟨q.gt, i * 658 + 2, none⟩ (.int .i64 (t.pc + 1))).alloc o).heap.size ((W.setCell ⟨q.gt, i * 658 + 2, none⟩ (.int .i64 (t.pc + 1))).alloc o) w') => (show OutR W U q vs (s.put i { t with pc := t.pc + 1 }) w' from OutR.of ((h1.below ((Below.refl _ _).alloc (Nat.le_refl _) o)).below hB) ((F1.alloc o).trans (Fr.of_below hB)))
  have hw : wrap64 (t.pc + 1) = t.pc + 1 := wrap64_sm _ (by omega) (by omega)
  replace LS := Mr.hid LS
  replace FN := Mr.hid FN
  replace ht := Mr.hid ht
  replace h := Mr.hid h
  clear h1 F1 ht1
  go_enter Tryz.func119, Tryz.ntmps119
  go_wp2_with (go_at_call 139; refine (LS.out _).mono ?_; clear LS; rintro e w' ⟨rfl, hB⟩; have F9 := FN.out _ w' hB; clear FN hB; replace F9 := Mr.hid F9)
  go_end0
  exact ⟨rfl, F9.out⟩
end
end Go.Proofs.YtkimmfdicohoiaaGreat.Rf
/-
  THE DOCUMENT's MACHINE: what its instructions do that make no access.
-/
namespace Go.Proofs.YtkimmfdicohoiaaGreat.Rf
open Go.RowKit Mr Me Ma
section
variable {W : World} {U : Nat → Prop} {q : Rc} {vc vl vs : Value} {s : Rs} {i : Nat} {t : Rt}
set_option maxRecDepth 100000 in
set_option maxHeartbeats 2000000 in
theorem local_arg (h : Rm W U q vc vl vs s) (ht : s.ths[i]? = some t) (hp : 0 ≤ t.pc ∧ t.pc < 1000) (a : Nat) (ha : a < 48) (b c d to : Int) {n : Nat} {cl : Cl} (hc : t.call = n) (hcl : s.cls[n]? = some cl) :
    Calls Tryz.prog 119 #[.pointer (some ⟨q.b, 0, none⟩), .int .i64 (i : Int), .agg #[.int .i64 48, .int .i64 (a : Int), .int .i64 b, .int .i64 c, .int .i64 d, .int .i64 to]] W fun e w' => e = .returned (.tuple #[]) ∧ OutR W U q vs (s.put i { t with pc := t.pc + 1, R := upd t.R a (IntKind.u64.wrap cl.arg) }) w' := by
  obtain ⟨⟨x7, x8, x9, x10, x11⟩, x23, x24, x25, x26⟩ := h.cells
  have l1 := h.lt
  have l2 := h.gtl.2
  have hi : (i : Int) < (q.nt : Int) := by have := h.il ht; omega
  have hn := h.ntl ht
  have t1 := h.tcell ht 1 (by decide) (rt_call t)
  have t2 := h.tcell ht 2 (by decide) (rt_pc t)
  have f2 := h.tfrz
  have hw : wrap64 (t.pc + 1) = t.pc + 1 := wrap64_sm _ (by omega) (by omega)
  have ngb := h.gtb
  have ngb' := ngb.symm
  have hnl := (List.getElem?_eq_some_iff.1 hcl).1
  obtain ⟨gc, cc, hvc, hgU, hgl, hcn, hcx, ngc, ngd⟩ := h.cthere hcl
  have ngc' := ngc.symm
  have ngd' := ngd.symm
  have x24' := x24
  rw [hvc] at x24
  clear x24'
  rw [hc] at t1
  have hni : (n : Int) < (s.cls.length : Int) := by omega
  have k2 := h.ccell hcl hvc 2 (by decide) (u := .int .i64 cl.arg) rfl
  have hai : (a : Int) < 48 := by omega
  have rA := h.reg ht a ha
  have FN := fun w' => outs (w' := w') (h.pcR ht (t.pc + 1) a ha (IntKind.u64.wrap cl.arg))
  clear hcl hvc
  replace FN := Mr.hid FN
  replace ht := Mr.hid ht
  replace h := Mr.hid h
  go_enter Tryz.func119, Tryz.ntmps119
  go_wp2
  go_region
  all_goals go_wp2
  all_goals go_end0
  all_goals exact ⟨rfl, FN.out _ (by first | exact ((Below.refl _ _).alloc (Nat.le_refl _) _).drew | exact (Below.refl _ _).alloc (Nat.le_refl _) _)⟩
set_option maxRecDepth 100000 in
set_option maxHeartbeats 2000000 in
theorem local_add (h : Rm W U q vc vl vs s) (ht : s.ths[i]? = some t) (hp : 0 ≤ t.pc ∧ t.pc < 1000) (a b : Nat) (ha : a < 48) (hb : b < 48) (c d to : Int) :
    Calls Tryz.prog 119 #[.pointer (some ⟨q.b, 0, none⟩), .int .i64 (i : Int), .agg #[.int .i64 17, .int .i64 (a : Int), .int .i64 (b : Int), .int .i64 c, .int .i64 d, .int .i64 to]] W fun e w' => e = .returned (.tuple #[]) ∧ OutR W U q vs (s.put i { t with pc := t.pc + 1, R := upd t.R a (IntKind.u64.wrap (t.R b + IntKind.u64.wrap d)) }) w' := by
  obtain ⟨⟨x7, x8, x9, x10, x11⟩, x23, x24, x25, x26⟩ := h.cells
  have l1 := h.lt
  have l2 := h.gtl.2
  have hi : (i : Int) < (q.nt : Int) := by have := h.il ht; omega
  have hn := h.ntl ht
  have t1 := h.tcell ht 1 (by decide) (rt_call t)
  have t2 := h.tcell ht 2 (by decide) (rt_pc t)
  have f2 := h.tfrz
  have hw : wrap64 (t.pc + 1) = t.pc + 1 := wrap64_sm _ (by omega) (by omega)
  have ngb := h.gtb
  have ngb' := ngb.symm
  have hai : (a : Int) < 48 := by omega
  have hbi : (b : Int) < 48 := by omega
  have rA := h.reg ht a ha
  have rB := h.reg ht b hb
  have FN := fun w' => outs (w' := w') (h.pcR ht (t.pc + 1) a ha (IntKind.u64.wrap (t.R b + IntKind.u64.wrap d)))
  replace FN := Mr.hid FN
  replace ht := Mr.hid ht
  replace h := Mr.hid h
  go_enter Tryz.func119, Tryz.ntmps119
  go_wp2
  go_region
  all_goals go_wp2
  all_goals go_end0
  all_goals exact ⟨rfl, FN.out _ (by first | exact ((Below.refl _ _).alloc (Nat.le_refl _) _).drew | exact (Below.refl _ _).alloc (Nat.le_refl _) _)⟩
set_option maxRecDepth 100000 in
set_option maxHeartbeats 2000000 in
theorem local_point (h : Rm W U q vc vl vs s) (ht : s.ths[i]? = some t) (hp : 0 ≤ t.pc ∧ t.pc < 1000) (a b c d to : Int) {n : Nat} {cl : Cl} (hc : t.call = n) (hcl : s.cls[n]? = some cl) :
    Calls Tryz.prog 119 #[.pointer (some ⟨q.b, 0, none⟩), .int .i64 (i : Int), .agg #[.int .i64 27, .int .i64 a, .int .i64 b, .int .i64 c, .int .i64 d, .int .i64 to]] W fun e w' => e = .returned (.tuple #[]) ∧ OutR W U q vs ((s.put i { t with pc := t.pc + 1 }).putC n { cl with pt := s.n }) w' := by
  obtain ⟨⟨x7, x8, x9, x10, x11⟩, x23, x24, x25, x26⟩ := h.cells
  have l1 := h.lt
  have l2 := h.gtl.2
  have hi : (i : Int) < (q.nt : Int) := by have := h.il ht; omega
  have hn := h.ntl ht
  have t1 := h.tcell ht 1 (by decide) (rt_call t)
  have t2 := h.tcell ht 2 (by decide) (rt_pc t)
  have f2 := h.tfrz
  have hw : wrap64 (t.pc + 1) = t.pc + 1 := wrap64_sm _ (by omega) (by omega)
  have ngb := h.gtb
  have ngb' := ngb.symm
  have hnl := (List.getElem?_eq_some_iff.1 hcl).1
  obtain ⟨gc, cc, hvc, hgU, hgl, hcn, hcx, ngc, ngd⟩ := h.cthere hcl
  have ngc' := ngc.symm
  have ngd' := ngd.symm
  have x24' := x24
  rw [hvc] at x24
  clear x24'
  rw [hc] at t1
  have hni : (n : Int) < (s.cls.length : Int) := by omega
  have k6 := h.ccell hcl hvc 6 (by decide) (u := .int .i64 cl.pt) rfl
  have f6 := h.cfrz hvc
  have h1 := h.pcP ht (t.pc + 1)
  have h2 := h1.1.putC (x' := { cl with pt := s.n }) hvc hcl 6 (by decide) (u := .int .i64 s.n) rfl
  have FN := fun w' => outs (w' := w') ⟨h2, h1.2.setCell _ _ (.inl hgU)⟩
  clear hcl hvc h1 h2
  replace FN := Mr.hid FN
  replace ht := Mr.hid ht
  replace h := Mr.hid h
  go_enter Tryz.func119, Tryz.ntmps119
  go_wp2
  go_region
  all_goals go_wp2
  all_goals go_end0
  all_goals exact ⟨rfl, FN.out _ (by first | exact ((Below.refl _ _).alloc (Nat.le_refl _) _).drew | exact (Below.refl _ _).alloc (Nat.le_refl _) _)⟩
end
end Go.Proofs.YtkimmfdicohoiaaGreat.Rf
/-
  THE DOCUMENT's MACHINE: an access is noted.
-/
namespace Go.Proofs.YtkimmfdicohoiaaGreat.Rf
open Go.RowKit Mr Me Ma
/-- What is behind the first n statements of a row of them. -/
def tl : Nat → Code → Code
  | n + 1, .seq _ b => tl n b
  | _, c => c
/-- The last statement of access. -/
noncomputable def codeA : Code := tl 7 (Tryz.f118.body.getD .skip)
section
variable {W : World} {U : Nat → Prop} {q : Rc} {vc vl vs : Value} {s : Rs} {i : Nat} {t : Rt}
theorem Rm.grow1 (h : Rm W U q vc vl vs s) {w0 w1 : World} {row : Option Nat} (hB : Below W.heap.size W w0) (hgrow : w0.grownBy w1 row) (hne : row ≠ some q.b) : w1.heap[q.b]? = some (q.box s.n vc vl vs) := by
  have hl := h.lt
  have h0 : w0.heap[q.b]? = some (q.box s.n vc vl vs) := (hB.block _ hl).trans h.bx
  have hs := hB.size
  exact (hgrow.block _ (by omega) (fun e => hne e.symm)).trans h0
theorem Rm.noted (h : Rm W U q vc vl vs s) {w0 w1 : World} (hB : Below W.heap.size W w0) {v' : Value} {x : Acc} {n : Nat} (hn : n = s.lg.length + 1)
    (hown : Has w1 (fun k => U k ∨ (W.heap.size ≤ k ∧ k < w1.heap.size)) 94 7 v' n (lgc s.lg ++ x.cells)) (hgrow : w0.grownBy w1 vl.ownBlock) :
    Rm (w1.setCell ⟨q.b, 25, none⟩ v') (fun k => U k ∨ (W.heap.size ≤ k ∧ k < w1.heap.size)) q vc v' vs { s with lg := s.lg ++ [x] } ∧ Fr W (w1.setCell ⟨q.b, 25, none⟩ v') U := by
  subst hn
  have hbl : vl.ownBlock ≠ some q.b := not_row h.bx h.lg (by decide)
  have hb := h.grow1 hB hgrow hbl
  have hb' : v'.ownBlock ≠ some q.b := not_row hb hown (by decide)
  have hs : w0.heap.size ≤ w1.heap.size := hgrow.size
  have hs0 := hB.size
  have f : ∀ {e sz n : Nat} {v : Value} {xs : List Value}, Has W U e sz v n xs → e ≠ 94 → v.ownBlock ≠ some q.b → Has (w1.setCell ⟨q.b, 25, none⟩ v') (fun k => U k ∨ (W.heap.size ≤ k ∧ k < w1.heap.size)) e sz v n xs := fun hv hne hb2 => (((hv.below hB).grown hgrow (fun k hk e => has_ne hv h.lg hne k hk e)).setCell _ _ hb2).mono (fun _ => .inl)
  refine ⟨⟨?_, f h.wd (by decide) (not_row h.bx h.wd (by decide)), f h.cd (by decide) (not_row h.bx h.cd (by decide)), f h.lb (by decide) (not_row h.bx h.lb (by decide)), f h.en (by decide) (not_row h.bx h.en (by decide)), f h.th (by decide) (not_row h.bx h.th (by decide)), h.tn, f h.cl (by decide) (not_row h.bx h.cl (by decide)), ?_, .inl h.ub, fun k hk => ?_⟩, ?_⟩
  · unfold Rc.box at hb ⊢
    rw [setBlk hb]
    rfl
  · rw [lgc_snoc]
    have e : (s.lg ++ [x]).length = s.lg.length + 1 := by simp
    show Has _ _ _ 7 v' (s.lg ++ [x]).length _
    rw [e]
    exact hown.setCell _ _ hb'
  · have hz : (w1.setCell ⟨q.b, 25, none⟩ v').heap.size = w1.heap.size := by simp [World.setCell]
    rw [hz]
    rcases hk with hk | hk
    · have := h.ul k hk; omega
    · exact hk.2
  · exact ((Fr.of_below hB).grown hgrow (fun k hk => .inl (h.lg.lt k hk).1)).setCell _ _ (.inl h.ub)
set_option maxRecDepth 100000 in
set_option maxHeartbeats 4000000 in
theorem acc_tail {W0 : World} (h : Rm W U q vc vl vs s) (hF : Fr W0 W U) {bA : Nat} {x : Acc} (hx : W.heap[bA]? = some (.cells #[.int .i64 x.mv, .int .i64 x.th, .int .i64 x.kd, .int .i64 x.ad, .int .u64 x.old, .int .u64 x.new, .int .u64 x.saw] 94 (0, 0))) (hU : ¬ U bA) (hl : s.lg.length ≤ 100000) {z1 z2 z3 z4 z5 z6 z7 z9 z10 z11 z12 z13 z14 z15 z16 z17 z18 z19 z20 z21 z22 z23 z24 z25 z26 z27 z28 z29 z30 z31 z32 z33 z34 z35 z36 z37 z38 z39 z40 z41 z42 z43 z44 z45 z46 z47 z48 z49 z50 z51 z52 z53 z54 z55 z56 z57 z58 z59 z60 z61 z62 z63 z64 z65 z66 z67 z68 z69 z70 z71 z72 z73 z74 z75 z76 z77 z78 z79 z80 z81 z82 z83 z84 z85 z86 z87 z88 z89 z90 z91 z92 z93 z94 z95 z96 z97 z98 z99 z100 z101 z102 z103 z104 z105 z106 z107 z108 z109 z110 z111 z112 z113 z114 z115 z116 z117 z118 z119 z120 z121 z122 z123 z124 z125 z126 z127 z128 z129 z130 z131 z132 z133 z134 z135 z136 z137 z138 z139 z140 z141 z142 z143 z144 z145 z146 z147 z148 z149 : Value} :
    Code.wp Tryz.prog codeA (bodyPost Tryz.prog Tryz.f118 fun e w' => e = .returned (.tuple #[]) ∧ OutR W0 U q vs { s with lg := s.lg ++ [x] } w') ⟨#[.pointer (some ⟨q.b, 0, none⟩), z1, z2, z3, z4, z5, z6, z7, .pointer (some ⟨bA, 0, none⟩), z9, z10, z11, z12, z13, z14, z15, z16, z17, z18, z19, z20, z21, z22, z23, z24, z25, z26, z27, z28, z29, z30, z31, z32, z33, z34, z35, z36, z37, z38, z39, z40, z41, z42, z43, z44, z45, z46, z47, z48, z49, z50, z51, z52, z53, z54, z55, z56, z57, z58, z59, z60, z61, z62, z63, z64, z65, z66, z67, z68, z69, z70, z71, z72, z73, z74, z75, z76, z77, z78, z79, z80, z81, z82, z83, z84, z85, z86, z87, z88, z89, z90, z91, z92, z93, z94, z95, z96, z97, z98, z99, z100, z101, z102, z103, z104, z105, z106, z107, z108, z109, z110, z111, z112, z113, z114, z115, z116, z117, z118, z119, z120, z121, z122, z123, z124, z125, z126, z127, z128, z129, z130, z131, z132, z133, z134, z135, z136, z137, z138, z139, z140, z141, z142, z143, z144, z145, z146, z147, z148, z149], []⟩ W := by
  obtain ⟨i0, hi, hz0, hz1, hz2⟩ := info_parts info_acc
  obtain ⟨⟨x7, x8, x9, x10, x11⟩, x23, x24, x25, x26⟩ := h.cells
  have l1 := h.lt
  have l2 : bA < W.heap.size := (Array.getElem?_eq_some_iff.1 hx).1
  obtain ⟨a, cap, hv, hle⟩ := h.lg.form
  subst hv
  have y : W.cell? ⟨bA, 0, none⟩ = some (.int .i64 x.mv) ∧ W.cell? ⟨bA, 1, none⟩ = some (.int .i64 x.th) ∧ W.cell? ⟨bA, 2, none⟩ = some (.int .i64 x.kd) ∧ W.cell? ⟨bA, 3, none⟩ = some (.int .i64 x.ad) ∧ W.cell? ⟨bA, 4, none⟩ = some (.int .u64 x.old) ∧ W.cell? ⟨bA, 5, none⟩ = some (.int .u64 x.new) ∧ W.cell? ⟨bA, 6, none⟩ = some (.int .u64 x.saw) := by simp [World.cell?, hx]
  obtain ⟨y0, y1, y2, y3, y4, y5, y6⟩ := y
  have nb : bA ≠ q.b := fun e => hU (by rw [e]; exact h.ub)
  have nb' := nb.symm
  have law : ∀ (w0 : World), Below W.heap.size W w0 → Has w0 (fun k => U k ∨ W.heap.size ≤ k) 94 7 (.slice a s.lg.length cap) s.lg.length (lgc s.lg) := fun w0 B => (h.lg.below B).mono (fun _ => .inl)
  have hB1 : ∀ p, Below W.heap.size W (W.alloc p).drew := fun p => Below.drew ((Below.refl _ _).alloc (Nat.le_refl _) p)
  have hbl : (Value.slice a s.lg.length cap).ownBlock ≠ some q.b := not_row h.bx h.lg (by decide)
  have FN := fun (p : Obj) (w1 : World) (g cap' : Nat) (hown : Has w1 (fun k => U k ∨ W.heap.size ≤ k) 94 7 (.slice (some ⟨g, 0, none⟩) (s.lg.length + 1) cap') (s.lg.length + 1) (lgc s.lg ++ x.cells)) (hgrow : (W.alloc p).drew.grownBy w1 (Value.slice a s.lg.length cap).ownBlock) => (show OutR W0 U q vs { s with lg := s.lg ++ [x] } (w1.setCell ⟨q.b, 25, none⟩ (.slice (some ⟨g, 0, none⟩) (s.lg.length + 1) cap')) from by
    obtain ⟨r1, r2⟩ := h.noted (hB1 p) rfl (hown.kept (fun _ _ => rfl) (fun k hk => by
      have := hown.lt k hk
      rcases this.1 with e | e
      · exact .inl e
      · exact .inr ⟨e, this.2⟩)) hgrow
    have hs := hF.size
    exact ⟨_, _, _, r1, fun _ hk => .inl hk, fun k hk => by rcases hk with hk | hk; exact .inl hk; exact .inr (by omega), hF.trans (r2.mono (fun _ hk => .inl hk))⟩)
  have KB := fun (p : Obj) (w1 : World) (hgrow : (W.alloc p).drew.grownBy w1 (Value.slice a s.lg.length cap).ownBlock) => h.grow1 (hB1 p) hgrow hbl
  replace FN := Mr.hid FN
  replace KB := Mr.hid KB
  replace h := Mr.hid h
  clear hx hF hU hbl
  unfold codeA
  conv => arg 2; whnf
  go_region_law (refine step_append_has _ rfl (.tmp 144) (.tmp 146) 26 rfl (fun k => U k ∨ W.heap.size ≤ k) 94 i0 _ 7 56 Tryz.underlying26 hi hz0 hz1 hz2 rfl (.slice a s.lg.length cap) s.lg.length (lgc s.lg) (by simp [Act.eval]) (law _ (hB1 _)) ⟨W.heap.size, 0, none⟩ 1 1 [.int .i64 x.mv, .int .i64 x.th, .int .i64 x.kd, .int .i64 x.ad, .int .u64 x.old, .int .u64 x.new, .int .u64 x.saw] (by simp [Act.eval]) rfl (newsAt W _ #[.int .i64 x.mv, .int .i64 x.th, .int .i64 x.kd, .int .i64 x.ad, .int .u64 x.old, .int .u64 x.new, .int .u64 x.saw] 94 _ rfl rfl) (by simp [Value.oneCell']) (by omega) (by unfold maxLen; omega) (by omega) (by right; simp) ?_; intro g cap' w1 hown hgrow hat; have kb := KB.out _ w1 hgrow; unfold Rc.box at kb; have kc : w1.cell? ⟨q.b, 25, none⟩ = some (.slice a s.lg.length cap) := (by simp [World.cell?, kb]); have kf : w1.frozen? ⟨q.b, 25, none⟩ = false := (by simp [World.frozen?, kb]); have F9 := FN.out _ w1 g cap' hown hgrow; clear kb hown hgrow hat; replace F9 := Mr.hid F9)
  all_goals (go_wp2; go_end0; exact ⟨rfl, F9.out⟩)
end
end Go.Proofs.YtkimmfdicohoiaaGreat.Rf
