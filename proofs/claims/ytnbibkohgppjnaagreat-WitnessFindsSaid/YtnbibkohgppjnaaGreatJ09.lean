import Derived.Test.YtnbibkohgppjnaaGreatJ08
import Derived.Test.YtnbibkohgppjnaaGreatJ01
import Derived.RangeFuncNested
import Derived.RangeFuncBound
import Derived.RangeFuncCalls
import Derived.RangeFuncLeaves
set_option linter.unusedVariables false
set_option linter.unusedSimpArgs false
set_option maxRecDepth 100000
namespace Go.Proofs.YtnbibkohgppjnaaGreat.Md
open Go.RowKit Mr Me
def plays (x : Ct) : List Cq → Nat → Ct × Int
 | [], _ => (x, -1)
 | c :: cs, i => if (alw x c).2 = true then plays (alw x c).1 cs (i + 1) else (x, (i : Int))
def lefts (x : Ct) (cs : List Cq) (i : Nat) : Ct := (cs.take i).foldl (fun y c => (alw y c).1) x
def okTo (x : Ct) (cs : List Cq) (i : Nat) : Prop := ∀ j, j < i → ∀ c, cs[j]? = some c → (alw (lefts x cs j) c).2 = true
theorem lefts_succ (x : Ct) (cs : List Cq) (i : Nat) (c : Cq) (h : cs[i]? = some c) : lefts x cs (i + 1) = (alw (lefts x cs i) c).1 := by
 unfold lefts
 rw [List.take_add_one, h]
 simp
theorem plays_at (x : Ct) (cs : List Cq) (n : Nat) : ∀ (i : Nat), plays x cs n = if h : ∃ j, j < i ∧ ∃ c, cs[j]? = some c ∧ (alw (lefts x cs j) c).2 = false then plays x cs n else plays (lefts x cs i) (cs.drop i) (n + i) := by
 intro i
 split
 ·rfl
 ·rename_i hno
  induction cs generalizing x n i with
  | nil => simp [plays, lefts]
  | cons c cs ih =>
   cases i with
   | zero => simp [lefts]
   | succ i =>
    have h0 : (alw x c).2 = true := by
     cases h : (alw x c).2 with
     | true => rfl
     | false => exact absurd ⟨0, by omega, c, rfl, h⟩ hno
    have := ih (alw x c).1 (n + 1) i (fun ⟨j, hj, d, hd, hb⟩ => hno ⟨j + 1, by omega, d, by simpa using hd, by simpa [lefts] using hb⟩)
    simp only [plays, h0, if_true]
    rw [this]
    simp only [lefts, List.take_succ_cons, List.foldl_cons, List.drop_succ_cons]
    rw [show n + 1 + i = n + (i + 1) from by omega]
theorem plays_end {x : Ct} {cs : List Cq} (h : okTo x cs cs.length) : plays x cs 0 = (lefts x cs cs.length, -1) := by
 have := plays_at x cs 0 cs.length
 rw [dif_neg] at this
 ·rw [this, List.drop_length]; rfl
 ·rintro ⟨j, hj, c, hc, hb⟩
  rw [h j hj c hc] at hb; cases hb
theorem plays_no {x : Ct} {cs : List Cq} {i : Nat} {c : Cq} (h : okTo x cs i) (hc : cs[i]? = some c) (hn : (alw (lefts x cs i) c).2 = false) : plays x cs 0 = (lefts x cs i, (i : Int)) := by
 have := plays_at x cs 0 i
 rw [dif_neg] at this
 ·rw [this]
  have hi : i < cs.length := (List.getElem?_eq_some_iff.1 hc).1
  rw [List.drop_eq_getElem_cons hi]
  have e : cs[i] = c := (List.getElem?_eq_some_iff.1 hc).2
  rw [e]
  simp [plays, hn]
 ·rintro ⟨j, hj, d, hd, hb⟩
  rw [h j hj d hd] at hb; cases hb
theorem okTo.succ {x : Ct} {cs : List Cq} {i : Nat} {c : Cq} (h : okTo x cs i) (hc : cs[i]? = some c) (hy : (alw (lefts x cs i) c).2 = true) : okTo x cs (i + 1) := fun j hj d hd => by
 by_cases e : j = i
 ·subst e; rw [hc] at hd; cases hd; exact hy
 ·exact h j (by omega) d hd
theorem insL_len (l : List Int) (k : Int) : (insL l k).length = l.length + 1 := by
 have := plc_le l k
 simp [insL]; omega
theorem delL_len (l : List Int) (k : Int) : (delL l k).length ≤ l.length := by simp [delL]; omega
theorem insT_len (l : List (Int × Int)) (k d : Int) : (insT l k d).length = l.length + 1 := by
 have := plcT_le l k
 simp [insT, keysOf] at this ⊢; omega
theorem delT_len (l : List (Int × Int)) (k : Int) : (delT l k).length ≤ l.length := by simp [delT]; omega
theorem dnx_in {B : Nat} {x : Ct} (h : CtIn B x) (op arg data : Int) : CtIn (B + 16) (dnx x op arg data) := by
 obtain ⟨h0, h1, h2, h3, h4⟩ := h
 have i3 := insL_len x.set arg
 have d3 := delL_len x.set arg
 have i4 := insT_len x.table arg data
 have d4 := delT_len x.table arg
 have hw : CtIn (B + 16) x := ⟨by omega, by omega, by omega, by omega, by omega⟩
 obtain ⟨w0, w1, w2, w3, w4⟩ := hw
 unfold dnx
 split
 ·exact ⟨by show 1 * 8 ≤ _; omega, w1, w2, w3, w4⟩
 split
 ·exact ⟨w0, by simp; omega, w2, w3, w4⟩
 split
 ·exact ⟨w0, by simp; omega, w2, w3, w4⟩
 split
 ·exact ⟨w0, w1, by simp; omega, w3, w4⟩
 split
 ·exact ⟨w0, w1, by simp; omega, w3, w4⟩
 split
 ·refine ⟨w0, w1, w2, ?_, w4⟩
  show (if inB x.set arg = true then x.set else insL x.set arg).length * 8 ≤ _
  split <;> omega
 split
 ·refine ⟨w0, w1, w2, ?_, w4⟩
  show (if inB x.set arg = true then delL x.set arg else x.set).length * 8 ≤ _
  split <;> omega
 split
 ·refine ⟨w0, w1, w2, w3, ?_⟩
  show (if inB (keysOf x.table) arg = true then x.table else insT x.table arg data).length * 16 ≤ _
  split <;> omega
 split
 ·refine ⟨w0, w1, w2, w3, ?_⟩
  show (if inB (keysOf x.table) arg = true then delT x.table arg else x.table).length * 16 ≤ _
  split <;> omega
 ·exact ⟨w0, w1, w2, w3, w4⟩
theorem ct0_in (B : Nat) : CtIn B ct0 := ⟨by simp [ct0], by simp [ct0], by simp [ct0], by simp [ct0], by simp [ct0]⟩
theorem alw_in {B : Nat} {x : Ct} (h : CtIn B x) (c : Cq) : CtIn (B + 16) (alw x c).1 := by
 have h' := h.mono (Nat.le_add_right B 16)
 unfold alw
 split
 ·exact dnx_in h _ _ _
 split
 ·split
  ·exact h'
  ·exact ct0_in _
 split
 ·exact dnx_in h _ _ _
 ·exact ct0_in _
theorem lefts_in {B : Nat} {x : Ct} (h : CtIn B x) (cs : List Cq) : ∀ i, CtIn (B + 16 * i) (lefts x cs i) := by
 intro i
 induction i with
 | zero => simpa [lefts] using h
 | succ i ih =>
  cases hc : cs[i]? with
  | some c => rw [lefts_succ x cs i c hc]; exact (alw_in ih c).mono (by omega)
  | none =>
   have : lefts x cs (i + 1) = lefts x cs i := by unfold lefts; rw [List.take_add_one, hc]; simp
   rw [this]; exact ih.mono (by omega)
def Cq.row (c : Cq) : List Value := [.int .i64 c.th, .int .i64 c.op, .int .i64 c.arg, .int .i64 c.data, .int .i64 c.beg, .int .i64 c.fin, .int .i64 c.pt, .int .i64 c.ak, .int .i64 c.av]
def cqs (l : List Cq) : List Value := l.flatMap Cq.row
theorem cqs_get (l : List Cq) (i : Nat) (c : Cq) (h : l[i]? = some c) (j : Nat) (hj : j < 9) : (cqs l)[i * 9 + j]? = c.row[j]? := by
 induction l generalizing i with
 | nil => simp at h
 | cons x l ih =>
  cases i with
  | zero =>
   simp at h; subst h
   simp only [cqs, List.flatMap_cons]
   rw [List.getElem?_append_left (by simp [Cq.row]; omega)]
   simp
  | succ i =>
   have := ih i (by simpa using h)
   simp only [cqs, List.flatMap_cons] at this ⊢
   rw [List.getElem?_append_right (by simp [Cq.row]; omega)]
   rw [← this]
   congr 1
   simp [Cq.row]; omega
theorem cqs_length (l : List Cq) : (cqs l).length = l.length * 9 := by
 induction l with
 | nil => rfl
 | cons x l ih => simp only [cqs, List.flatMap_cons, List.length_append] at ih ⊢; simp [Cq.row] at ih ⊢; omega
end Go.Proofs.YtnbibkohgppjnaaGreat.Md
namespace Go.Proofs.YtnbibkohgppjnaaGreat.Md
open Go.ChangeShapes Go.WideShapes Go.ChangeAt Go.RowKit Go.Deep
open Mr
theorem cells_opC : Tryz.prog.cellsOf 40 = 1 := by kernel_rfl
theorem cells_ak : Tryz.prog.cellsOf 41 = 1 := by kernel_rfl
theorem cells_an : Tryz.prog.cellsOf 43 = 2 := by kernel_rfl
theorem cells_cq : Tryz.prog.cellsOf 45 = 9 := by kernel_rfl
theorem bytes_cq : Tryz.prog.bytesOf 45 = 72 := by kernel_rfl
theorem flat_get {α : Type} (row : α → List Value) (size : Nat) (hrow : ∀ a, (row a).length = size) (l : List α) (i : Nat) (a : α) (h : l[i]? = some a) (t : Nat) (ht : t < size) : (l.flatMap row)[i * size + t]? = (row a)[t]? := by
 induction l generalizing i with
 | nil => simp at h
 | cons x l ih =>
  cases i with
  | zero =>
   simp at h; subst h
   rw [List.flatMap_cons, List.getElem?_append_left (by rw [hrow]; omega)]
   simp
  | succ i =>
   have := ih i (by simpa using h)
   rw [List.flatMap_cons, List.getElem?_append_right (by rw [hrow, Nat.add_mul]; omega), ← this]
   congr 1
   rw [hrow, Nat.add_mul]; omega
theorem flat_len {α : Type} (row : α → List Value) (size : Nat) (hrow : ∀ a, (row a).length = size) (l : List α) : (l.flatMap row).length = l.length * size := by
 induction l with
 | nil => simp
 | cons x l ih => rw [List.flatMap_cons, List.length_append, ih, hrow, List.length_cons, Nat.add_mul]; omega
theorem sl_rows {α : Type} (d : α) (row : α → List Value) (size : Nat) (hsz : 0 < size) (hrow : ∀ a, (row a).length = size) {w : World} {ad : Addr} {n cap : Nat} (hcap : n ≤ cap) (each : ∀ i, i < n → ∃ a : α, ∀ t, t < size → w.cell? ((ad.add (i * size)).add t) = (row a)[t]?) :
  ∃ l : List α, Sl w (fun _ => True) size (.slice (some ad) l.length cap) l.length (l.flatMap row) ∧ l.length = n := by
 obtain ⟨f, hf⟩ := Classical.axiomOfChoice (fun i => (if h : i < n then (by obtain ⟨o, ho⟩ := each i h; exact ⟨o, fun _ => ho⟩) else ⟨d, fun h' => absurd h' h⟩ : ∃ o : α, i < n → ∀ t, t < size → w.cell? ((ad.add (i * size)).add t) = (row o)[t]?))
 have hlen : ((List.range n).map f).length = n := by simp
 refine ⟨(List.range n).map f, ⟨flat_len row size hrow _, some ad, cap, rfl, by omega, ?_⟩, hlen⟩
 by_cases hn : n = 0
 ·exact .inl (by omega)
 ·have c0 := hf 0 (by omega) 0 hsz
  have hr0 : (row (f 0))[0]? = some ((row (f 0))[0]'(by rw [hrow]; exact hsz)) := List.getElem?_eq_getElem _
  rw [hr0] at c0
  have hs : (ad.add (0 * size)).spot = none := spot0 c0
  obtain ⟨b, o, s⟩ := ad
  have hs' : s = none := by simpa [Addr.add] using hs
  subst hs'
  refine .inr ⟨b, o, rfl, trivial, ?_, fun j u hu => ?_⟩
  ·have := World.block_lt_of_cell? w _ c0
   rwa [blk_add, blk_add] at this
  ·have hj : j < n * size := by
    have := (List.getElem?_eq_some_iff.1 hu).1
    rw [flat_len row size hrow, hlen] at this; exact this
   have hi : j / size < n := by rw [Nat.div_lt_iff_lt_mul hsz]; exact hj
   have ht : j % size < size := Nat.mod_lt _ hsz
   have c := hf (j / size) hi (j % size) ht
   have g := flat_get row size hrow ((List.range n).map f) (j / size) (f (j / size)) (by simp [hi]) (j % size) ht
   have ej : j / size * size + j % size = j := by rw [Nat.mul_comm]; exact Nat.div_add_mod j size
   rw [ej, hu] at g
   rw [add1, add1, Nat.add_assoc, ej] at c
   rw [c, ← g]
section
variable {H : Type} {enc : TypeId × Value → H} {w : World} {base : Nat} {spare : Nat → Bool} {held : Bool}
theorem trod_an {fuel : Nat} {cs : List Value} {x : DataW H × List MemPlace} (hf : DataW.trod enc Tryz.prog w base spare held fuel 43 cs = some x) : ∃ a b : Int, cs = [.int .i64 a, .int .i64 b] := by
 obtain ⟨xs, n, _, hxx, hl, hxl, hx⟩ := DataW.trod_struct Tryz.underlying43 hf
 rw [cells_an] at hl
 match cs, hl with
 | [x0, x1], _ =>
  have q0 := hx 0 _ rfl
  have q1 := hx 1 _ rfl
  have hxs : xs.length = 2 := by simpa using hxl
  match xs, hxs with
  | [y0, y1], _ =>
   simp [cells_ak, cells_i64] at q0 q1
   obtain ⟨z0, e0, _⟩ := DataW.trod_int Tryz.underlying41 q0
   obtain ⟨z1, e1, _⟩ := DataW.trod_int Tryz.underlying3 q1
   simp at e0 e1
   subst e0; subst e1
   exact ⟨z0, z1, rfl⟩
theorem trod_cq {fuel : Nat} {cs : List Value} {x : DataW H × List MemPlace} (hf : DataW.trod enc Tryz.prog w base spare held fuel 45 cs = some x) : ∃ c : Cq, cs = c.row := by
 obtain ⟨xs, n, _, hxx, hl, hxl, hx⟩ := DataW.trod_struct Tryz.underlying45 hf
 rw [cells_cq] at hl
 match cs, hl with
 | [x0, x1, x2, x3, x4, x5, x6, x7, x8], _ =>
  have q0 := hx 0 _ rfl
  have q1 := hx 1 _ rfl
  have q2 := hx 2 _ rfl
  have q3 := hx 3 _ rfl
  have q4 := hx 4 _ rfl
  have q5 := hx 5 _ rfl
  have q6 := hx 6 _ rfl
  have q7 := hx 7 _ rfl
  have hxs : xs.length = 8 := by simpa using hxl
  match xs, hxs with
  | [y0, y1, y2, y3, y4, y5, y6, y7], _ =>
   simp [cells_opC, cells_i64, cells_an] at q0 q1 q2 q3 q4 q5 q6 q7
   obtain ⟨z0, e0, _⟩ := DataW.trod_int Tryz.underlying3 q0
   obtain ⟨z1, e1, _⟩ := DataW.trod_int Tryz.underlying40 q1
   obtain ⟨z2, e2, _⟩ := DataW.trod_int Tryz.underlying3 q2
   obtain ⟨z3, e3, _⟩ := DataW.trod_int Tryz.underlying3 q3
   obtain ⟨z4, e4, _⟩ := DataW.trod_int Tryz.underlying3 q4
   obtain ⟨z5, e5, _⟩ := DataW.trod_int Tryz.underlying3 q5
   obtain ⟨z6, e6, _⟩ := DataW.trod_int Tryz.underlying3 q6
   obtain ⟨z7, z8, e7⟩ := trod_an q7
   simp at e0 e1 e2 e3 e4 e5 e6 e7
   obtain ⟨e7, e8⟩ := e7
   subst e0; subst e1; subst e2; subst e3; subst e4; subst e5; subst e6; subst e7; subst e8
   exact ⟨⟨z0, z1, z2, z3, z4, z5, z6, z7, z8⟩, rfl⟩
end
end Go.Proofs.YtnbibkohgppjnaaGreat.Md
namespace Go.Proofs.YtnbibkohgppjnaaGreat.Ws
open Md
def pc (l r : List Int) : List Int := (l.length : Int) :: (l ++ r)
def flt (t : List (Int × Int)) : List Int := t.flatMap (fun p => [p.1, p.2])
theorem flt_len (t : List (Int × Int)) : (flt t).length = 2 * t.length := by
 induction t with
 | nil => rfl
 | cons p t ih => simp only [flt, List.flatMap_cons, List.length_append, List.length_cons, List.length_nil] at ih ⊢; omega
def sg0 (P : Nat) (x : Ct) : List Int := (P : Int) :: pc x.cell (pc x.stack (pc x.queue (pc x.set ((x.table.length : Int) :: flt x.table))))
def sgt (P : Nat) (x : Ct) : List Int := sg0 P x ++ List.replicate (22 - (sg0 P x).length) 0
theorem sg0_len (P : Nat) (x : Ct) : (sg0 P x).length = 6 + x.cell.length + x.stack.length + x.queue.length + x.set.length + 2 * x.table.length := by
 simp only [sg0, pc, List.length_cons, List.length_append, flt_len]; omega
def Few (k : Nat) (x : Ct) : Prop := x.cell.length + x.stack.length + x.queue.length + x.set.length + x.table.length ≤ k
theorem sgt_len {P : Nat} {x : Ct} (h : Few 8 x) : (sgt P x).length = 22 := by
 unfold sgt
 rw [List.length_append, List.length_replicate, sg0_len]
 unfold Few at h
 omega
theorem pc_inj {l r l' r' z z' : List Int} (h : pc l r ++ z = pc l' r' ++ z') : l = l' ∧ r ++ z = r' ++ z' := by
 unfold pc at h
 rw [List.cons_append, List.cons_append] at h
 injection h with h1 h2
 rw [List.append_assoc, List.append_assoc] at h2
 have hl : l.length = l'.length := by omega
 exact List.append_inj h2 hl
theorem flt_inj : ∀ {t t' : List (Int × Int)} {z z' : List Int}, t.length = t'.length → flt t ++ z = flt t' ++ z' → t = t' := by
 intro t
 induction t with
 | nil => intro t' z z' hl _; cases t' with | nil => rfl | cons _ _ => simp at hl
 | cons p t ih =>
  intro t' z z' hl h
  cases t' with
  | nil => simp at hl
  | cons q t' =>
   simp only [flt, List.flatMap_cons, List.cons_append, List.nil_append, List.append_assoc] at h
   injection h with h1 h2
   injection h2 with h2 h3
   have := ih (z := z) (z' := z') (by simpa using hl) (by simpa [flt] using h3)
   rw [this]
   congr 1
   exact Prod.ext h1 h2
theorem sgt_inj {P P' : Nat} {x x' : Ct} (h : sgt P x = sgt P' x') : P = P' ∧ x = x' := by
 unfold sgt sg0 at h
 rw [List.cons_append, List.cons_append] at h
 injection h with h1 h2
 obtain ⟨e1, h2⟩ := pc_inj h2
 obtain ⟨e2, h2⟩ := pc_inj h2
 obtain ⟨e3, h2⟩ := pc_inj h2
 obtain ⟨e4, h2⟩ := pc_inj h2
 rw [List.cons_append, List.cons_append] at h2
 injection h2 with h3 h4
 have e5 := flt_inj (by omega) h4
 refine ⟨by omega, ?_⟩
 cases x; cases x'
 simp_all
theorem few_dnx {k : Nat} {x : Ct} (h : Few k x) (op arg data : Int) : Few (k + 1) (dnx x op arg data) := by
 have i3 := insL_len x.set arg
 have d3 := delL_len x.set arg
 have i4 := insT_len x.table arg data
 have d4 := delT_len x.table arg
 unfold Few at h ⊢
 unfold dnx
 split
 ·show [arg].length + x.stack.length + x.queue.length + x.set.length + x.table.length ≤ _; simp; omega
 split
 ·show x.cell.length + (arg :: x.stack).length + x.queue.length + x.set.length + x.table.length ≤ _; simp; omega
 split
 ·show x.cell.length + (x.stack.drop 1).length + x.queue.length + x.set.length + x.table.length ≤ _; simp; omega
 split
 ·show x.cell.length + x.stack.length + (x.queue ++ [arg]).length + x.set.length + x.table.length ≤ _; simp; omega
 split
 ·show x.cell.length + x.stack.length + (x.queue.drop 1).length + x.set.length + x.table.length ≤ _; simp; omega
 split
 ·show x.cell.length + x.stack.length + x.queue.length + (if inB x.set arg = true then x.set else insL x.set arg).length + x.table.length ≤ _; split <;> omega
 split
 ·show x.cell.length + x.stack.length + x.queue.length + (if inB x.set arg = true then delL x.set arg else x.set).length + x.table.length ≤ _; split <;> omega
 split
 ·show x.cell.length + x.stack.length + x.queue.length + x.set.length + (if inB (keysOf x.table) arg = true then x.table else insT x.table arg data).length ≤ _; split <;> omega
 split
 ·show x.cell.length + x.stack.length + x.queue.length + x.set.length + (if inB (keysOf x.table) arg = true then delT x.table arg else x.table).length ≤ _; split <;> omega
 ·omega
theorem few_alw {k : Nat} {x : Ct} (h : Few k x) (c : Cq) : Few (k + 1) (alw x c).1 := by
 have h0 : Few (k + 1) ct0 := by simp [Few, ct0]
 have h1 : Few (k + 1) x := by unfold Few at *; omega
 unfold alw
 split
 ·exact few_dnx h _ _ _
 split
 ·split
  ·exact h1
  ·exact h0
 split
 ·exact few_dnx h _ _ _
 ·exact h0
end Go.Proofs.YtnbibkohgppjnaaGreat.Ws
namespace Go.Proofs.YtnbibkohgppjnaaGreat.Ws
open Md
def Wi (n : Int) : Prop := (Lit.int .i64 n).wf = true
def WfC (c : Cq) : Prop := Wi c.arg ∧ Wi c.data
structure WfX (x : Ct) : Prop where
 cell : ∀ n ∈ x.cell, Wi n
 stack : ∀ n ∈ x.stack, Wi n
 queue : ∀ n ∈ x.queue, Wi n
 set : ∀ n ∈ x.set, Wi n
 table : ∀ p ∈ x.table, Wi p.1 ∧ Wi p.2
theorem wf_ct0 : WfX ct0 := by constructor <;> (intro n h; simp [ct0] at h)
theorem wf_dnx {x : Ct} (h : WfX x) (op arg data : Int) (ha : Wi arg) (hd : Wi data) : WfX (dnx x op arg data) := by
 obtain ⟨h0, h1, h2, h3, h4⟩ := h
 unfold dnx
 split
 ·exact ⟨fun n hn => by simp at hn; subst hn; exact ha, h1, h2, h3, h4⟩
 split
 ·exact ⟨h0, fun n hn => by rcases List.mem_cons.1 hn with e | e; exact e ▸ ha; exact h1 n e, h2, h3, h4⟩
 split
 ·exact ⟨h0, fun n hn => h1 n (List.mem_of_mem_drop hn), h2, h3, h4⟩
 split
 ·exact ⟨h0, h1, fun n hn => by rcases List.mem_append.1 hn with e | e; exact h2 n e; simp at e; exact e ▸ ha, h3, h4⟩
 split
 ·exact ⟨h0, h1, fun n hn => h2 n (List.mem_of_mem_drop hn), h3, h4⟩
 split
 ·refine ⟨h0, h1, h2, fun n hn => ?_, h4⟩
  dsimp only at hn
  split at hn
  ·exact h3 n hn
  ·unfold insL at hn
   rcases List.mem_append.1 hn with e | e
   ·exact h3 n (List.mem_of_mem_take e)
   ·rcases List.mem_cons.1 e with e | e
    ·exact e ▸ ha
    ·exact h3 n (List.mem_of_mem_drop e)
 split
 ·refine ⟨h0, h1, h2, fun n hn => ?_, h4⟩
  dsimp only at hn
  split at hn
  ·unfold delL at hn
   rcases List.mem_append.1 hn with e | e
   ·exact h3 n (List.mem_of_mem_take e)
   ·exact h3 n (List.mem_of_mem_drop e)
  ·exact h3 n hn
 split
 ·refine ⟨h0, h1, h2, h3, fun n hn => ?_⟩
  dsimp only at hn
  split at hn
  ·exact h4 n hn
  ·unfold insT at hn
   rcases List.mem_append.1 hn with e | e
   ·exact h4 n (List.mem_of_mem_take e)
   ·rcases List.mem_cons.1 e with e | e
    ·subst e; exact ⟨ha, hd⟩
    ·exact h4 n (List.mem_of_mem_drop e)
 split
 ·refine ⟨h0, h1, h2, h3, fun n hn => ?_⟩
  dsimp only at hn
  split at hn
  ·unfold delT at hn
   rcases List.mem_append.1 hn with e | e
   ·exact h4 n (List.mem_of_mem_take e)
   ·exact h4 n (List.mem_of_mem_drop e)
  ·exact h4 n hn
 ·exact ⟨h0, h1, h2, h3, h4⟩
theorem wf_alw {x : Ct} (h : WfX x) {c : Cq} (hc : WfC c) : WfX (alw x c).1 := by
 unfold alw
 split
 ·exact wf_dnx h _ _ _ hc.1 hc.2
 split
 ·split
  ·exact h
  ·exact wf_ct0
 split
 ·exact wf_dnx h _ _ _ hc.1 hc.2
 ·exact wf_ct0
theorem wi_nat {n : Nat} (h : n < 1000) : Wi (n : Int) := by
 have h1 : IntKind.i64.min = -9223372036854775808 := by rfl
 have h2 : IntKind.i64.max = 9223372036854775807 := by rfl
 show (decide (IntKind.i64.min ≤ (n : Int)) && decide ((n : Int) ≤ IntKind.i64.max)) = true
 rw [h1, h2, Bool.and_eq_true, decide_eq_true_eq, decide_eq_true_eq]
 omega
theorem wf_sgt {P : Nat} {x : Ct} (hP : P < 256) (hF : Few 8 x) (h : WfX x) : ∀ n ∈ sgt P x, Wi n := by
 obtain ⟨h0, h1, h2, h3, h4⟩ := h
 unfold Few at hF
 intro n hn
 unfold sgt at hn
 rcases List.mem_append.1 hn with hn | hn
 ·unfold sg0 pc at hn
  simp only [List.mem_cons, List.mem_append] at hn
  rcases hn with rfl | rfl | hn | rfl | hn | rfl | hn | rfl | hn | rfl | hn
  ·exact wi_nat (by omega)
  ·exact wi_nat (by omega)
  ·exact h0 n hn
  ·exact wi_nat (by omega)
  ·exact h1 n hn
  ·exact wi_nat (by omega)
  ·exact h2 n hn
  ·exact wi_nat (by omega)
  ·exact h3 n hn
  ·exact wi_nat (by omega)
  ·unfold flt at hn
   obtain ⟨p, hp, hq⟩ := List.mem_flatMap.1 hn
   simp at hq
   rcases hq with rfl | rfl
   ·exact (h4 p hp).1
   ·exact (h4 p hp).2
 ·rw [List.eq_of_mem_replicate hn]
  exact wi_nat (n := 0) (by omega)
end Go.Proofs.YtnbibkohgppjnaaGreat.Ws
namespace Go.Proofs.YtnbibkohgppjnaaGreat.Ws
open Go.ChangeShapes Go.WideShapes Go.ChangeAt Go.RowKit Go.Deep
open Mr Md
section
variable {H : Type} {enc : TypeId × Value → H} {w : World} {base : Nat} {spare : Nat → Bool} {held : Bool}
theorem trod_cqW {fuel : Nat} {cs : List Value} {x : DataW H × List MemPlace} (hf : DataW.trod enc Tryz.prog w base spare held fuel 45 cs = some x) : ∃ c : Cq, cs = c.row ∧ WfC c := by
 obtain ⟨c, hc⟩ := trod_cq hf
 refine ⟨c, hc, ?_⟩
 subst hc
 obtain ⟨xs, n, _, hxx, hl, hxl, hx⟩ := DataW.trod_struct Tryz.underlying45 hf
 have q2 := hx 2 _ rfl
 have q3 := hx 3 _ rfl
 have hxs : xs.length = 8 := by simpa using hxl
 match xs, hxs with
 | [y0, y1, y2, y3, y4, y5, y6, y7], _ =>
  simp [cells_opC, cells_i64, cells_an, Cq.row] at q2 q3
  obtain ⟨z2, e2, _, w2⟩ := DataW.trod_int Tryz.underlying3 q2
  obtain ⟨z3, e3, _, w3⟩ := DataW.trod_int Tryz.underlying3 q3
  simp at e2 e3
  subst e2; subst e3
  exact ⟨w2, w3⟩
theorem wi0 : Wi 0 := wi_nat (n := 0) (by omega)
theorem open_cslW {fuel : Nat} {cs : List Value} {x : DataW H × List MemPlace} (hf : DataW.trod enc Tryz.prog w base spare held fuel 22 cs = some x) :
  ∃ v l, cs = [v] ∧ Sl w (fun _ => True) 9 v l.length (cqs l) ∧ ∀ c ∈ l, WfC c := by
 rcases open_slice Tryz.underlying22 hf with ⟨hc, hx⟩ | ⟨ad, n, cap, m, k, D, Pl, hc, _, hl, _, hm, hx, hel⟩
 ·exact ⟨_, [], hc, Sl.nil _ _ _, fun c hc => by simp at hc⟩
 ·have hle : n ≤ m := by rw [hm]; split <;> omega
  obtain ⟨l, hs, hn⟩ := sl_rows (α := { c : Cq // WfC c }) (w := w) (ad := ad) (n := n) (cap := cap) ⟨⟨0, 0, 0, 0, 0, 0, 0, 0, 0⟩, wi0, wi0⟩ (fun c => c.1.row) 9 (by omega) (fun _ => rfl) (by omega) (fun i hi => by
   obtain ⟨cs, h1, h2⟩ := hel i (by omega)
   rw [cells_cq] at h1
   obtain ⟨_, hcl, hce⟩ := World.cells?_some h1
   obtain ⟨c, hcc, hwc⟩ := trod_cqW h2
   exact ⟨⟨c, hwc⟩, fun t ht => by show _ = c.row[t]?; rw [← hcc]; exact hce t (by omega)⟩)
  refine ⟨_, l.map (·.1), hc, ?_, fun c hc => ?_⟩
  ·have e1 : cqs (l.map (·.1)) = l.flatMap (fun c => c.1.row) := by simp [cqs, List.flatMap_map]
   rw [e1, List.length_map]
   rw [hn] at hs
   rw [hn]
   exact hs
  ·obtain ⟨d, _, rfl⟩ := List.mem_map.1 hc
   exact d.2
theorem open_callsW {r : Reach} {b0 : Nat} {v : Value} {d : DataW H} {p : List MemPlace} (hv : Value.okWide Tryz.prog w r b0 22 v) (h : DataW.Trod enc Tryz.prog w base spare held 22 v d p) (hsz : (d.weights Tryz.prog 22).all (· ≤ reachBytes) = true) :
  ∃ l, Sl w (fun _ => True) 9 v l.length (cqs l) ∧ l.length * 72 ≤ 140737488351232 ∧ ∀ c ∈ l, WfC c := by
 obtain ⟨a, n, cap, rfl⟩ := okWide_slice Tryz.underlying22 hv
 obtain ⟨fuel, hf⟩ := h
 have e0 : (Value.slice a n cap).cells.toList = [.slice a n cap] := rfl
 rw [e0] at hf
 obtain ⟨w0, l, e1, hs, hw⟩ := open_cslW hf
 simp at e1
 subst e1
 have f := len_slice Tryz.underlying22 hf rfl hs
 refine ⟨l, hs, ?_, hw⟩
 rcases f with f | ⟨es, rs, hd, hl⟩
 ·omega
 ·simp only at hd
  subst hd
  simp only [DataW.weights, Tryz.underlying22, List.all_cons, Bool.and_eq_true, decide_eq_true_eq, bytes_cq] at hsz
  have e : reachBytes = 140737488351232 := by decide
  have := hsz.1
  rw [e, Nat.add_mul] at this
  omega
end
end Go.Proofs.YtnbibkohgppjnaaGreat.Ws
namespace Go.Proofs.YtnbibkohgppjnaaGreat.Ws
open Go.RowKit Mr
attribute [local go_sem] Oper.semAt_some
section
variable {P : Program}
def Keeps (B : Nat) (I : World → Prop) : Prop := ∀ W l o o', I W → B ≤ l → W.heap[l]? = some o → o.isCells = false → I (W.putObj l o')
def Grows (I : World → Prop) : Prop := ∀ W W', I W → Below W.heap.size W W' → I W'
def HandsR (n : Nat) (P : Program) (gf : Nat) (lb : Array Value) (N : Nat) (ok : Nat → Bool) (R : Nat → Array Value → World → Prop) (Kn : World → Prop) : Prop :=
 ∀ (l : Nat) (C : Nat → World → Prop) (X : World → Prop) (W : World), (∀ k, Grows (C k)) → Grows X → (∀ k W1, C k W1 → Kn W1) → (∀ k W1, k < N → ok k = false → C k W1 → C (k + 1) W1) → C 0 W →
  (∀ k args W1, k < N → ok k = true → R k args W1 → C k W1 → YieldAt Fence.wide (n - 1) P l args W1 fun e W' => (e = .returned (.bool true) ∧ C (k + 1) W') ∨ (e = .returned (.bool false) ∧ X W')) →
  CallsIn Fence.wide n P gf (#[.func (.yield l) #[] #[]] ++ lb) W fun e W' => (∃ v, e = .returned v) ∧ (C N W' ∨ X W')
theorem range_r {n : Nat} {g : Operand} {ps : Array Tmp} {assign body : Code} {Q : Exit → Act → World → Prop} {a : Act} {w : World} {gf : Nat} {lb : Array Value} (hg : a.eval g = .func (.func gf) #[] lb) (h1 : 1 ≤ n)
  (eg : ∀ args w, (callFunc gf args).run P w = .ok (.enter gf args) w) {N : Nat} {ok : Nat → Bool} {R : Nat → Array Value → World → Prop} {Kn : World → Prop} (hps : ∀ k args W, R k args W → args.size = ps.size)
  (hseq : HandsR (n - 1) P gf lb N ok R Kn)
  (C : Nat → World → Prop) (hC : ∀ k, Keeps w.heap.size (C k)) (hCg : ∀ k, Grows (C k)) (X : World → Prop) (hX : Keeps w.heap.size X) (hXg : Grows X) (hKn : ∀ k W1, C k W1 → Kn W1) (hskip : ∀ k W1, k < N → ok k = false → C k W1 → C (k + 1) W1) (h0 : C 0 w)
  (Ax : Nat → Act → World → Prop) (hAx : ∀ k a', Keeps w.heap.size (Ax k a'))
  (hassign : ∀ l k args W (K : Act → World → Prop), k < N → ok k = true → R k args W → C k W → (∀ a' W', KeepsFrom w.heap.size W W' → C k W' → Ax k a' W' → K a' W') →
   assign.wpIn (Fence.wide.inRound l) (n - 1 - 1) P (Exit.then K (fun _ _ _ => False)) { tmps := (ps.zip args).foldl (fun t (p, v) => t.setIfInBounds p v) a.tmps, defers := [] } W)
  (hbody : ∀ l k a' W, k < N → ok k = true → C k W → Ax k a' W → w.heap.size ≤ W.heap.size → body.wpIn (Fence.wide.inRound l) (n - 1 - 1) P (fun e _ W' => KeepsFrom w.heap.size W W' ∧ ((e = .normal ∧ C (k + 1) W') ∨ (e = .ret ∧ X W'))) a' W)
  (hdone : ∀ (D : Nat) (W : World), w.heap.size ≤ D → C N W → W.heap[D]? = some (.deferred (some [])) → Q .normal { a with defers := { target := .collected D, args := #[] } :: a.defers } W)
  (hleft : ∀ (D : Nat) (W : World), w.heap.size ≤ D → X W → W.heap[D]? = some (.deferred (some [])) → Code.ret.wpIn Fence.wide n P Q { a with defers := { target := .collected D, args := #[] } :: a.defers } W) :
  (Code.rangeFunc g ps assign body).wpIn Fence.wide n P Q a w := by
 refine wpIn_rangeFunc fun fn hfn => ?_
 obtain ⟨rec, hrec⟩ : ∃ rec : LoopState → Option Code → Loop, rec = fun st pe => { state := st, pending := pe, fn, tmps := a.tmps, params := ps, assign, body, defers := w.heap.size } := ⟨_, rfl⟩
 obtain ⟨W1, hW1⟩ : ∃ W1, (w.alloc (.deferred (some []))).alloc (.loop (rec .ready none)) = W1 := ⟨_, rfl⟩
 have hL1 : W1.heap[w.heap.size + 1]? = some (.loop (rec .ready none)) := by
  have := heap_alloc_new (w.alloc (.deferred (some []))) (.loop (rec .ready none))
  rw [World.size_alloc] at this
  rw [← hW1]; exact this
 have hD1 : W1.heap[w.heap.size]? = some (.deferred (some [])) := by
  rw [← hW1]; exact (Below.heap_alloc _ _ _ (by simp)).trans (heap_alloc_new w _)
 have hB1 : Below w.heap.size w W1 := by rw [← hW1]; exact ((Below.refl _ w).alloc (Nat.le_refl _) _).alloc (by simp) _
 refine ⟨w.heap.size + 1, [{ target := .collected w.heap.size, args := #[] }], W1, { target := .fn (.func gf) lb, args := #[.func (.yield (w.heap.size + 1)) #[] #[]] }, W1, gf, #[.func (.yield (w.heap.size + 1)) #[] #[]] ++ lb, W1, ?_, ?_, fun _ _ => trivial, ?_, fun _ => h1, ?_⟩
 ·rw [← hW1, hrec]; exact run_enterLoop_outer _ _ _ _ _
 ·simp only [resolve, hg]
  simp [go_sem]
 ·simp [invoke, go_sem, eg]
 ·refine (hseq (w.heap.size + 1) (fun k W => C k W ∧ W.heap[w.heap.size + 1]? = some (.loop (rec .ready none)) ∧ W.heap[w.heap.size]? = some (.deferred (some []))) (fun W => X W ∧ W.heap[w.heap.size + 1]? = some (.loop (rec .done (some .ret))) ∧ W.heap[w.heap.size]? = some (.deferred (some []))) W1 ?_ ?_ (fun k W h => hKn k W h.1) (fun k W hk ho h => ⟨hskip k W hk ho h.1, h.2⟩) ⟨hCg 0 _ _ h0 hB1, hL1, hD1⟩ ?_).mono ?_
  ·rintro k Wa Wb ⟨q1, q2, q3⟩ hf
   exact ⟨hCg k _ _ q1 hf, (hf.block _ (Array.getElem?_eq_some_iff.1 q2).1).trans q2, (hf.block _ (Array.getElem?_eq_some_iff.1 q3).1).trans q3⟩
  ·rintro Wa Wb ⟨q1, q2, q3⟩ hf
   exact ⟨hXg _ _ q1 hf, (hf.block _ (Array.getElem?_eq_some_iff.1 q2).1).trans q2, (hf.block _ (Array.getElem?_eq_some_iff.1 q3).1).trans q3⟩
  ·rintro k args W hk ho hR ⟨hi, hl, hD⟩
   have hy := run_yield (P := P) (args := args) hl (by rw [hrec]; exact hps k args W hR)
   rw [hrec] at hy
   refine ⟨fn, _, assign, body, hy, roundIn_of_wpIn hfn ?_⟩
   refine hassign _ k args W _ hk ho hR hi ?_
   intro a' Wa hka hia hax
   have hl' := hka.same _ _ (by omega) hl rfl
   have hD' := hka.same _ _ (Nat.le_refl _) hD rfl
   have hlt := (Array.getElem?_eq_some_iff.1 hl').1
   refine ⟨_, run_beginRound hl' (by rw [hrec]), ?_⟩
   have hl2 : (Wa.putObj (w.heap.size + 1) (.loop { rec .ready none with state := .busy })).heap[w.heap.size + 1]? = some (.loop { rec .ready none with state := .busy }) := World.putObj_heap_same hlt
   have hD2 : (Wa.putObj (w.heap.size + 1) (.loop { rec .ready none with state := .busy })).heap[w.heap.size]? = some (.deferred (some [])) := (World.putObj_heap_other (by omega)).trans hD'
   refine wpIn_mono (hbody _ k a' _ hk ho (hC k _ _ _ _ hia (by omega) hl' rfl) (hAx k a' _ _ _ _ hax (by omega) hl' rfl) (by simp [World.putObj]; omega)) ?_
   rintro e a3 W3 ⟨hk3, ⟨rfl, hi3⟩ | ⟨rfl, hi3⟩⟩
   ·have hl3 := hk3.same _ _ (by omega) hl2 rfl
    have hD3 := hk3.same _ _ (Nat.le_refl _) hD2 rfl
    have he := run_endRound (P := P) none hl3
    refine ⟨_, _, he, .inl ⟨rfl, hC _ _ _ _ _ hi3 (by omega) hl3 rfl, ?_, (World.putObj_heap_other (by omega)).trans hD3⟩⟩
    rw [World.putObj_heap_same (Array.getElem?_eq_some_iff.1 hl3).1, hrec]
    rfl
   ·have hl3 := hk3.same _ _ (by omega) hl2 rfl
    have hD3 := hk3.same _ _ (Nat.le_refl _) hD2 rfl
    have he := run_endRound (P := P) (some .ret) hl3
    refine ⟨_, _, he, .inr ⟨rfl, hX _ _ _ _ hi3 (by omega) hl3 rfl, ?_, (World.putObj_heap_other (by omega)).trans hD3⟩⟩
    rw [World.putObj_heap_same (Array.getElem?_eq_some_iff.1 hl3).1, hrec]
    rfl
  ·rintro e W2 ⟨⟨v, rfl⟩, ⟨hi, hl, hD⟩ | ⟨hi, hl, hD⟩⟩
   ·have he := run_endLoop (P := P) hl (by rw [hrec]; simp)
    refine ⟨none, _, by rw [he, hrec], hdone _ _ (Nat.le_refl _) (hC _ _ _ _ _ hi (by omega) hl rfl) ((World.putObj_heap_other (by omega)).trans hD)⟩
   ·have he := run_endLoop (P := P) hl (by rw [hrec]; simp)
    refine ⟨some .ret, _, by rw [he, hrec], hleft _ _ (Nat.le_refl _) (hX _ _ _ _ hi (by omega) hl rfl) ((World.putObj_heap_other (by omega)).trans hD)⟩
end
end Go.Proofs.YtnbibkohgppjnaaGreat.Ws
namespace Go.Proofs.YtnbibkohgppjnaaGreat.Ws
structure Sp (X : Type) where
 n : Nat
 ok : Nat → X → Nat → Bool
 nx : X → Nat → X
 whl : Nat → Bool
 new : ∀ P x i, ok P x i = true → P.testBit i = false
variable {X : Type}
def room (n P : Nat) : Nat := ((List.range n).filter (fun i => !P.testBit i)).length
def Sp.Go (s : Sp X) : Nat → X → List Nat → Prop
 | P, _, [] => s.whl P = true
 | P, x, i :: l => i < s.n ∧ s.ok P x i = true ∧ s.Go (P ||| 2 ^ i) (s.nx x i) l
def Sp.lst (s : Sp X) : Nat → Nat → X → Option (List Nat)
 | 0, P, _ => if s.whl P then some [] else none
 | f + 1, P, x => if s.whl P then some [] else (List.range s.n).findSome? (fun i => if s.ok P x i then (s.lst f (P ||| 2 ^ i) (s.nx x i)).map (i :: ·) else none)
def Sp.cnt (s : Sp X) : Nat → Nat → X → Nat
 | 0, P, _ => if s.whl P then 1 else 0
 | f + 1, P, x => (if s.whl P then 1 else 0) + ((List.range s.n).map (fun i => if s.ok P x i then s.cnt f (P ||| 2 ^ i) (s.nx x i) else 0)).sum
theorem test_or (P i j : Nat) : (P ||| 2 ^ i).testBit j = (P.testBit j || decide (i = j)) := by rw [Nat.testBit_or, Nat.testBit_two_pow]
theorem room_zero {n P : Nat} (h : room n P = 0) : ∀ i, i < n → P.testBit i = true := by
 intro i hi
 have h1 := List.eq_nil_of_length_eq_zero h
 have h2 := List.filter_eq_nil_iff.1 h1 i (List.mem_range.2 hi)
 simpa using h2
theorem count_flip (n : Nat) (p q : Nat → Bool) (i : Nat) (hi : i < n) (hp : p i = true) (hq : q i = false) (ho : ∀ j, j ≠ i → p j = q j) : ((List.range n).filter q).length + 1 = ((List.range n).filter p).length := by
 induction n with
 | zero => omega
 | succ n ih =>
  rw [List.range_succ, List.filter_append, List.filter_append, List.length_append, List.length_append]
  by_cases e : i = n
  ·subst e
   have : (List.range i).filter q = (List.range i).filter p := List.filter_congr (fun j hj => (ho j (by have := List.mem_range.1 hj; omega)).symm)
   rw [this]
   simp [hp, hq]
  ·have := ih (by omega)
   have h2 := ho n (fun h => e h.symm)
   simp only [List.filter_cons, List.filter_nil, h2]
   omega
theorem room_with {n P i : Nat} (hi : i < n) (h : P.testBit i = false) : room n (P ||| 2 ^ i) + 1 = room n P := by
 unfold room
 refine count_flip n _ _ i hi (by simp [h]) (by simp) (fun j hj => ?_)
 rw [test_or]
 simp [Ne.symm hj]
theorem room_le (n P : Nat) : room n P ≤ n := by
 unfold room
 exact Nat.le_trans (List.length_filter_le _ _) (by simp)
theorem with_lt {n P i : Nat} (hi : i < n) (h : P < 2 ^ n) : P ||| 2 ^ i < 2 ^ n := Nat.or_lt_two_pow h (Nat.pow_lt_pow_right (by omega) hi)
def lxl : List Nat → List Nat → Prop
 | [], _ => True
 | _ :: _, [] => False
 | a :: l, b :: m => a < b ∨ (a = b ∧ lxl l m)
theorem find_least {n : Nat} {g : Nat → Option (List Nat)} {l : List Nat} (h : (List.range n).findSome? g = some l) : ∃ i, i < n ∧ g i = some l ∧ ∀ j, j < i → g j = none := by
 induction n with
 | zero => simp at h
 | succ n ih =>
  rw [List.range_succ, List.findSome?_append] at h
  cases hq : (List.range n).findSome? g with
  | some m =>
   rw [hq] at h
   simp at h
   subst h
   obtain ⟨i, hi, h1, h2⟩ := ih hq
   exact ⟨i, by omega, h1, h2⟩
  | none =>
   rw [hq] at h
   simp at h
   exact ⟨n, by omega, h, fun j hj => List.findSome?_eq_none_iff.1 hq j (List.mem_range.2 hj)⟩
theorem Sp.lst_none (s : Sp X) : ∀ (f P : Nat) (x : X), room s.n P ≤ f → s.lst f P x = none → ∀ m, ¬ s.Go P x m := by
 intro f
 induction f with
 | zero =>
  intro P x hr h m hm
  unfold Sp.lst at h
  split at h
  ·cases h
  ·rename_i hw
   cases m with
   | nil => exact hw hm
   | cons j m =>
    obtain ⟨hj, hok, _⟩ := hm
    have h1 := s.new P x j hok
    rw [room_zero (by omega) j hj] at h1
    cases h1
 | succ f ih =>
  intro P x hr h m hm
  unfold Sp.lst at h
  split at h
  ·cases h
  ·rename_i hw
   cases m with
   | nil => exact hw hm
   | cons j m =>
    obtain ⟨hj, hok, hg⟩ := hm
    have h1 := List.findSome?_eq_none_iff.1 h j (List.mem_range.2 hj)
    simp only [hok, if_true] at h1
    have h2 : s.lst f (P ||| 2 ^ j) (s.nx x j) = none := by
     cases hz : s.lst f (P ||| 2 ^ j) (s.nx x j) with
     | none => rfl
     | some z => simp [hz] at h1
    have hrj := room_with hj (s.new P x j hok)
    exact ih _ _ (by omega) h2 m hg
theorem Sp.lst_some (s : Sp X) : ∀ (f P : Nat) (x : X) (l : List Nat), room s.n P ≤ f → s.lst f P x = some l → s.Go P x l ∧ ∀ m, s.Go P x m → lxl l m := by
 intro f
 induction f with
 | zero =>
  intro P x l hr h
  unfold Sp.lst at h
  split at h
  ·rename_i hw
   cases h
   exact ⟨hw, fun m _ => trivial⟩
  ·cases h
 | succ f ih =>
  intro P x l hr h
  unfold Sp.lst at h
  split at h
  ·rename_i hw
   cases h
   exact ⟨hw, fun m _ => trivial⟩
  ·rename_i hw
   obtain ⟨i, hi, h1, h2⟩ := find_least h
   have hok : s.ok P x i = true := by
    cases hq : s.ok P x i with
    | true => rfl
    | false => simp [hq] at h1
   simp only [hok, if_true] at h1
   cases hq : s.lst f (P ||| 2 ^ i) (s.nx x i) with
   | none => simp [hq] at h1
   | some k =>
    simp [hq] at h1
    subst h1
    have hr' := room_with hi (s.new P x i hok)
    have := ih _ _ k (by omega) hq
    refine ⟨⟨hi, hok, this.1⟩, fun m hm => ?_⟩
    cases m with
    | nil => exact absurd hm (by simpa [Sp.Go] using hw)
    | cons j m =>
     obtain ⟨hj, hok', hg⟩ := hm
     by_cases e : i < j
     ·exact .inl e
     ·by_cases e2 : i = j
      ·subst e2
       exact .inr ⟨rfl, this.2 m hg⟩
      ·exfalso
       have h3 := h2 j (by omega)
       simp only [hok', if_true] at h3
       have h4 : s.lst f (P ||| 2 ^ j) (s.nx x j) = none := by
        cases hz : s.lst f (P ||| 2 ^ j) (s.nx x j) with
        | none => rfl
        | some z => simp [hz] at h3
       have hrj := room_with hj (s.new P x j hok')
       exact absurd hg (s.lst_none f _ _ (by omega) h4 m)
end Go.Proofs.YtnbibkohgppjnaaGreat.Ws
