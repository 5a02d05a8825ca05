import Derived.Test.YtnbibkohgppjnaaGreatJ08
import Derived.Test.YtnbibkohgppjnaaGreatJ01
set_option linter.unusedVariables false
set_option linter.unusedSimpArgs false
set_option maxRecDepth 100000
namespace Go.Proofs.YtnbibkohgppjnaaGreat.Md
open Go.RowKit Mr Me
def plays (x : Ct) : List Cq → Nat → Ct × Int
 | [], _ => (x, -1)
 | c :: cs, i => if (alw x c).2 = true then plays (alw x c).1 cs (i + 1) else (x, (i : Int))
def lefts (x : Ct) (cs : List Cq) (i : Nat) : Ct := (cs.take i).foldl (fun y c => (alw y c).1) x
def okTo (x : Ct) (cs : List Cq) (i : Nat) : Prop := ∀ j, j < i → ∀ c, cs[j]? = some c → (alw (lefts x cs j) c).2 = true
theorem lefts_succ (x : Ct) (cs : List Cq) (i : Nat) (c : Cq) (h : cs[i]? = some c) : lefts x cs (i + 1) = (alw (lefts x cs i) c).1 := by
 unfold lefts
 rw [List.take_add_one, h]
 simp
theorem plays_at (x : Ct) (cs : List Cq) (n : Nat) : ∀ (i : Nat), plays x cs n = if h : ∃ j, j < i ∧ ∃ c, cs[j]? = some c ∧ (alw (lefts x cs j) c).2 = false then plays x cs n else plays (lefts x cs i) (cs.drop i) (n + i) := by
 intro i
 split
 ·rfl
 ·rename_i hno
  induction cs generalizing x n i with
  | nil => simp [plays, lefts]
  | cons c cs ih =>
   cases i with
   | zero => simp [lefts]
   | succ i =>
    have h0 : (alw x c).2 = true := by
     cases h : (alw x c).2 with
     | true => rfl
     | false => exact absurd ⟨0, by omega, c, rfl, h⟩ hno
    have := ih (alw x c).1 (n + 1) i (fun ⟨j, hj, d, hd, hb⟩ => hno ⟨j + 1, by omega, d, by simpa using hd, by simpa [lefts] using hb⟩)
    simp only [plays, h0, if_true]
    rw [this]
    simp only [lefts, List.take_succ_cons, List.foldl_cons, List.drop_succ_cons]
    rw [show n + 1 + i = n + (i + 1) from by omega]
theorem plays_end {x : Ct} {cs : List Cq} (h : okTo x cs cs.length) : plays x cs 0 = (lefts x cs cs.length, -1) := by
 have := plays_at x cs 0 cs.length
 rw [dif_neg] at this
 ·rw [this, List.drop_length]; rfl
 ·rintro ⟨j, hj, c, hc, hb⟩
  rw [h j hj c hc] at hb; cases hb
theorem plays_no {x : Ct} {cs : List Cq} {i : Nat} {c : Cq} (h : okTo x cs i) (hc : cs[i]? = some c) (hn : (alw (lefts x cs i) c).2 = false) : plays x cs 0 = (lefts x cs i, (i : Int)) := by
 have := plays_at x cs 0 i
 rw [dif_neg] at this
 ·rw [this]
  have hi : i < cs.length := (List.getElem?_eq_some_iff.1 hc).1
  rw [List.drop_eq_getElem_cons hi]
  have e : cs[i] = c := (List.getElem?_eq_some_iff.1 hc).2
  rw [e]
  simp [plays, hn]
 ·rintro ⟨j, hj, d, hd, hb⟩
  rw [h j hj d hd] at hb; cases hb
theorem okTo.succ {x : Ct} {cs : List Cq} {i : Nat} {c : Cq} (h : okTo x cs i) (hc : cs[i]? = some c) (hy : (alw (lefts x cs i) c).2 = true) : okTo x cs (i + 1) := fun j hj d hd => by
 by_cases e : j = i
 ·subst e; rw [hc] at hd; cases hd; exact hy
 ·exact h j (by omega) d hd
theorem insL_len (l : List Int) (k : Int) : (insL l k).length = l.length + 1 := by
 have := plc_le l k
 simp [insL]; omega
theorem delL_len (l : List Int) (k : Int) : (delL l k).length ≤ l.length := by simp [delL]; omega
theorem insT_len (l : List (Int × Int)) (k d : Int) : (insT l k d).length = l.length + 1 := by
 have := plcT_le l k
 simp [insT, keysOf] at this ⊢; omega
theorem delT_len (l : List (Int × Int)) (k : Int) : (delT l k).length ≤ l.length := by simp [delT]; omega
theorem dnx_in {B : Nat} {x : Ct} (h : CtIn B x) (op arg data : Int) : CtIn (B + 16) (dnx x op arg data) := by
 obtain ⟨h0, h1, h2, h3, h4⟩ := h
 have i3 := insL_len x.set arg
 have d3 := delL_len x.set arg
 have i4 := insT_len x.table arg data
 have d4 := delT_len x.table arg
 have hw : CtIn (B + 16) x := ⟨by omega, by omega, by omega, by omega, by omega⟩
 obtain ⟨w0, w1, w2, w3, w4⟩ := hw
 unfold dnx
 split
 ·exact ⟨by show 1 * 8 ≤ _; omega, w1, w2, w3, w4⟩
 split
 ·exact ⟨w0, by simp; omega, w2, w3, w4⟩
 split
 ·exact ⟨w0, by simp; omega, w2, w3, w4⟩
 split
 ·exact ⟨w0, w1, by simp; omega, w3, w4⟩
 split
 ·exact ⟨w0, w1, by simp; omega, w3, w4⟩
 split
 ·refine ⟨w0, w1, w2, ?_, w4⟩
  show (if inB x.set arg = true then x.set else insL x.set arg).length * 8 ≤ _
  split <;> omega
 split
 ·refine ⟨w0, w1, w2, ?_, w4⟩
  show (if inB x.set arg = true then delL x.set arg else x.set).length * 8 ≤ _
  split <;> omega
 split
 ·refine ⟨w0, w1, w2, w3, ?_⟩
  show (if inB (keysOf x.table) arg = true then x.table else insT x.table arg data).length * 16 ≤ _
  split <;> omega
 split
 ·refine ⟨w0, w1, w2, w3, ?_⟩
  show (if inB (keysOf x.table) arg = true then delT x.table arg else x.table).length * 16 ≤ _
  split <;> omega
 ·exact ⟨w0, w1, w2, w3, w4⟩
theorem ct0_in (B : Nat) : CtIn B ct0 := ⟨by simp [ct0], by simp [ct0], by simp [ct0], by simp [ct0], by simp [ct0]⟩
theorem alw_in {B : Nat} {x : Ct} (h : CtIn B x) (c : Cq) : CtIn (B + 16) (alw x c).1 := by
 have h' := h.mono (Nat.le_add_right B 16)
 unfold alw
 split
 ·exact dnx_in h _ _ _
 split
 ·split
  ·exact h'
  ·exact ct0_in _
 split
 ·exact dnx_in h _ _ _
 ·exact ct0_in _
theorem lefts_in {B : Nat} {x : Ct} (h : CtIn B x) (cs : List Cq) : ∀ i, CtIn (B + 16 * i) (lefts x cs i) := by
 intro i
 induction i with
 | zero => simpa [lefts] using h
 | succ i ih =>
  cases hc : cs[i]? with
  | some c => rw [lefts_succ x cs i c hc]; exact (alw_in ih c).mono (by omega)
  | none =>
   have : lefts x cs (i + 1) = lefts x cs i := by unfold lefts; rw [List.take_add_one, hc]; simp
   rw [this]; exact ih.mono (by omega)
def Cq.row (c : Cq) : List Value := [.int .i64 c.th, .int .i64 c.op, .int .i64 c.arg, .int .i64 c.data, .int .i64 c.beg, .int .i64 c.fin, .int .i64 c.pt, .int .i64 c.ak, .int .i64 c.av]
def cqs (l : List Cq) : List Value := l.flatMap Cq.row
theorem cqs_get (l : List Cq) (i : Nat) (c : Cq) (h : l[i]? = some c) (j : Nat) (hj : j < 9) : (cqs l)[i * 9 + j]? = c.row[j]? := by
 induction l generalizing i with
 | nil => simp at h
 | cons x l ih =>
  cases i with
  | zero =>
   simp at h; subst h
   simp only [cqs, List.flatMap_cons]
   rw [List.getElem?_append_left (by simp [Cq.row]; omega)]
   simp
  | succ i =>
   have := ih i (by simpa using h)
   simp only [cqs, List.flatMap_cons] at this ⊢
   rw [List.getElem?_append_right (by simp [Cq.row]; omega)]
   rw [← this]
   congr 1
   simp [Cq.row]; omega
theorem cqs_length (l : List Cq) : (cqs l).length = l.length * 9 := by
 induction l with
 | nil => rfl
 | cons x l ih => simp only [cqs, List.flatMap_cons, List.length_append] at ih ⊢; simp [Cq.row] at ih ⊢; omega
end Go.Proofs.YtnbibkohgppjnaaGreat.Md
namespace Go.Proofs.YtnbibkohgppjnaaGreat.Md
open Go.ChangeShapes Go.WideShapes Go.ChangeAt Go.RowKit Go.Deep
open Mr
theorem cells_opC : Tryz.prog.cellsOf 40 = 1 := by kernel_rfl
theorem cells_ak : Tryz.prog.cellsOf 41 = 1 := by kernel_rfl
theorem cells_an : Tryz.prog.cellsOf 43 = 2 := by kernel_rfl
theorem cells_cq : Tryz.prog.cellsOf 45 = 9 := by kernel_rfl
theorem bytes_cq : Tryz.prog.bytesOf 45 = 72 := by kernel_rfl
theorem flat_get {α : Type} (row : α → List Value) (size : Nat) (hrow : ∀ a, (row a).length = size) (l : List α) (i : Nat) (a : α) (h : l[i]? = some a) (t : Nat) (ht : t < size) : (l.flatMap row)[i * size + t]? = (row a)[t]? := by
 induction l generalizing i with
 | nil => simp at h
 | cons x l ih =>
  cases i with
  | zero =>
   simp at h; subst h
   rw [List.flatMap_cons, List.getElem?_append_left (by rw [hrow]; omega)]
   simp
  | succ i =>
   have := ih i (by simpa using h)
   rw [List.flatMap_cons, List.getElem?_append_right (by rw [hrow, Nat.add_mul]; omega), ← this]
   congr 1
   rw [hrow, Nat.add_mul]; omega
theorem flat_len {α : Type} (row : α → List Value) (size : Nat) (hrow : ∀ a, (row a).length = size) (l : List α) : (l.flatMap row).length = l.length * size := by
 induction l with
 | nil => simp
 | cons x l ih => rw [List.flatMap_cons, List.length_append, ih, hrow, List.length_cons, Nat.add_mul]; omega
theorem sl_rows {α : Type} (d : α) (row : α → List Value) (size : Nat) (hsz : 0 < size) (hrow : ∀ a, (row a).length = size) {w : World} {ad : Addr} {n cap : Nat} (hcap : n ≤ cap) (each : ∀ i, i < n → ∃ a : α, ∀ t, t < size → w.cell? ((ad.add (i * size)).add t) = (row a)[t]?) :
  ∃ l : List α, Sl w (fun _ => True) size (.slice (some ad) l.length cap) l.length (l.flatMap row) ∧ l.length = n := by
 obtain ⟨f, hf⟩ := Classical.axiomOfChoice (fun i => (if h : i < n then (by obtain ⟨o, ho⟩ := each i h; exact ⟨o, fun _ => ho⟩) else ⟨d, fun h' => absurd h' h⟩ : ∃ o : α, i < n → ∀ t, t < size → w.cell? ((ad.add (i * size)).add t) = (row o)[t]?))
 have hlen : ((List.range n).map f).length = n := by simp
 refine ⟨(List.range n).map f, ⟨flat_len row size hrow _, some ad, cap, rfl, by omega, ?_⟩, hlen⟩
 by_cases hn : n = 0
 ·exact .inl (by omega)
 ·have c0 := hf 0 (by omega) 0 hsz
  have hr0 : (row (f 0))[0]? = some ((row (f 0))[0]'(by rw [hrow]; exact hsz)) := List.getElem?_eq_getElem _
  rw [hr0] at c0
  have hs : (ad.add (0 * size)).spot = none := spot0 c0
  obtain ⟨b, o, s⟩ := ad
  have hs' : s = none := by simpa [Addr.add] using hs
  subst hs'
  refine .inr ⟨b, o, rfl, trivial, ?_, fun j u hu => ?_⟩
  ·have := World.block_lt_of_cell? w _ c0
   rwa [blk_add, blk_add] at this
  ·have hj : j < n * size := by
    have := (List.getElem?_eq_some_iff.1 hu).1
    rw [flat_len row size hrow, hlen] at this; exact this
   have hi : j / size < n := by rw [Nat.div_lt_iff_lt_mul hsz]; exact hj
   have ht : j % size < size := Nat.mod_lt _ hsz
   have c := hf (j / size) hi (j % size) ht
   have g := flat_get row size hrow ((List.range n).map f) (j / size) (f (j / size)) (by simp [hi]) (j % size) ht
   have ej : j / size * size + j % size = j := by rw [Nat.mul_comm]; exact Nat.div_add_mod j size
   rw [ej, hu] at g
   rw [add1, add1, Nat.add_assoc, ej] at c
   rw [c, ← g]
section
variable {H : Type} {enc : TypeId × Value → H} {w : World} {base : Nat} {spare : Nat → Bool} {held : Bool}
theorem trod_an {fuel : Nat} {cs : List Value} {x : DataW H × List MemPlace} (hf : DataW.trod enc Tryz.prog w base spare held fuel 43 cs = some x) : ∃ a b : Int, cs = [.int .i64 a, .int .i64 b] := by
 obtain ⟨xs, n, _, hxx, hl, hxl, hx⟩ := DataW.trod_struct Tryz.underlying43 hf
 rw [cells_an] at hl
 match cs, hl with
 | [x0, x1], _ =>
  have q0 := hx 0 _ rfl
  have q1 := hx 1 _ rfl
  have hxs : xs.length = 2 := by simpa using hxl
  match xs, hxs with
  | [y0, y1], _ =>
   simp [cells_ak, cells_i64] at q0 q1
   obtain ⟨z0, e0, _⟩ := DataW.trod_int Tryz.underlying41 q0
   obtain ⟨z1, e1, _⟩ := DataW.trod_int Tryz.underlying3 q1
   simp at e0 e1
   subst e0; subst e1
   exact ⟨z0, z1, rfl⟩
theorem trod_cq {fuel : Nat} {cs : List Value} {x : DataW H × List MemPlace} (hf : DataW.trod enc Tryz.prog w base spare held fuel 45 cs = some x) : ∃ c : Cq, cs = c.row := by
 obtain ⟨xs, n, _, hxx, hl, hxl, hx⟩ := DataW.trod_struct Tryz.underlying45 hf
 rw [cells_cq] at hl
 match cs, hl with
 | [x0, x1, x2, x3, x4, x5, x6, x7, x8], _ =>
  have q0 := hx 0 _ rfl
  have q1 := hx 1 _ rfl
  have q2 := hx 2 _ rfl
  have q3 := hx 3 _ rfl
  have q4 := hx 4 _ rfl
  have q5 := hx 5 _ rfl
  have q6 := hx 6 _ rfl
  have q7 := hx 7 _ rfl
  have hxs : xs.length = 8 := by simpa using hxl
  match xs, hxs with
  | [y0, y1, y2, y3, y4, y5, y6, y7], _ =>
   simp [cells_opC, cells_i64, cells_an] at q0 q1 q2 q3 q4 q5 q6 q7
   obtain ⟨z0, e0, _⟩ := DataW.trod_int Tryz.underlying3 q0
   obtain ⟨z1, e1, _⟩ := DataW.trod_int Tryz.underlying40 q1
   obtain ⟨z2, e2, _⟩ := DataW.trod_int Tryz.underlying3 q2
   obtain ⟨z3, e3, _⟩ := DataW.trod_int Tryz.underlying3 q3
   obtain ⟨z4, e4, _⟩ := DataW.trod_int Tryz.underlying3 q4
   obtain ⟨z5, e5, _⟩ := DataW.trod_int Tryz.underlying3 q5
   obtain ⟨z6, e6, _⟩ := DataW.trod_int Tryz.underlying3 q6
   obtain ⟨z7, z8, e7⟩ := trod_an q7
   simp at e0 e1 e2 e3 e4 e5 e6 e7
   obtain ⟨e7, e8⟩ := e7
   subst e0; subst e1; subst e2; subst e3; subst e4; subst e5; subst e6; subst e7; subst e8
   exact ⟨⟨z0, z1, z2, z3, z4, z5, z6, z7, z8⟩, rfl⟩
end
end Go.Proofs.YtnbibkohgppjnaaGreat.Md
namespace Go.Proofs.YtnbibkohgppjnaaGreat.Ws
open Md
def pc (l r : List Int) : List Int := (l.length : Int) :: (l ++ r)
def flt (t : List (Int × Int)) : List Int := t.flatMap (fun p => [p.1, p.2])
theorem flt_len (t : List (Int × Int)) : (flt t).length = 2 * t.length := by
 induction t with
 | nil => rfl
 | cons p t ih => simp only [flt, List.flatMap_cons, List.length_append, List.length_cons, List.length_nil] at ih ⊢; omega
def sg0 (P : Nat) (x : Ct) : List Int := (P : Int) :: pc x.cell (pc x.stack (pc x.queue (pc x.set ((x.table.length : Int) :: flt x.table))))
def sgt (P : Nat) (x : Ct) : List Int := sg0 P x ++ List.replicate (22 - (sg0 P x).length) 0
theorem sg0_len (P : Nat) (x : Ct) : (sg0 P x).length = 6 + x.cell.length + x.stack.length + x.queue.length + x.set.length + 2 * x.table.length := by
 simp only [sg0, pc, List.length_cons, List.length_append, flt_len]; omega
def Few (k : Nat) (x : Ct) : Prop := x.cell.length + x.stack.length + x.queue.length + x.set.length + x.table.length ≤ k
theorem sgt_len {P : Nat} {x : Ct} (h : Few 8 x) : (sgt P x).length = 22 := by
 unfold sgt
 rw [List.length_append, List.length_replicate, sg0_len]
 unfold Few at h
 omega
theorem pc_inj {l r l' r' z z' : List Int} (h : pc l r ++ z = pc l' r' ++ z') : l = l' ∧ r ++ z = r' ++ z' := by
 unfold pc at h
 rw [List.cons_append, List.cons_append] at h
 injection h with h1 h2
 rw [List.append_assoc, List.append_assoc] at h2
 have hl : l.length = l'.length := by omega
 exact List.append_inj h2 hl
theorem flt_inj : ∀ {t t' : List (Int × Int)} {z z' : List Int}, t.length = t'.length → flt t ++ z = flt t' ++ z' → t = t' := by
 intro t
 induction t with
 | nil => intro t' z z' hl _; cases t' with | nil => rfl | cons _ _ => simp at hl
 | cons p t ih =>
  intro t' z z' hl h
  cases t' with
  | nil => simp at hl
  | cons q t' =>
   simp only [flt, List.flatMap_cons, List.cons_append, List.nil_append, List.append_assoc] at h
   injection h with h1 h2
   injection h2 with h2 h3
   have := ih (z := z) (z' := z') (by simpa using hl) (by simpa [flt] using h3)
   rw [this]
   congr 1
   exact Prod.ext h1 h2
theorem sgt_inj {P P' : Nat} {x x' : Ct} (h : sgt P x = sgt P' x') : P = P' ∧ x = x' := by
 unfold sgt sg0 at h
 rw [List.cons_append, List.cons_append] at h
 injection h with h1 h2
 obtain ⟨e1, h2⟩ := pc_inj h2
 obtain ⟨e2, h2⟩ := pc_inj h2
 obtain ⟨e3, h2⟩ := pc_inj h2
 obtain ⟨e4, h2⟩ := pc_inj h2
 rw [List.cons_append, List.cons_append] at h2
 injection h2 with h3 h4
 have e5 := flt_inj (by omega) h4
 refine ⟨by omega, ?_⟩
 cases x; cases x'
 simp_all
theorem few_dnx {k : Nat} {x : Ct} (h : Few k x) (op arg data : Int) : Few (k + 1) (dnx x op arg data) := by
 have i3 := insL_len x.set arg
 have d3 := delL_len x.set arg
 have i4 := insT_len x.table arg data
 have d4 := delT_len x.table arg
 unfold Few at h ⊢
 unfold dnx
 split
 ·show [arg].length + x.stack.length + x.queue.length + x.set.length + x.table.length ≤ _; simp; omega
 split
 ·show x.cell.length + (arg :: x.stack).length + x.queue.length + x.set.length + x.table.length ≤ _; simp; omega
 split
 ·show x.cell.length + (x.stack.drop 1).length + x.queue.length + x.set.length + x.table.length ≤ _; simp; omega
 split
 ·show x.cell.length + x.stack.length + (x.queue ++ [arg]).length + x.set.length + x.table.length ≤ _; simp; omega
 split
 ·show x.cell.length + x.stack.length + (x.queue.drop 1).length + x.set.length + x.table.length ≤ _; simp; omega
 split
 ·show x.cell.length + x.stack.length + x.queue.length + (if inB x.set arg = true then x.set else insL x.set arg).length + x.table.length ≤ _; split <;> omega
 split
 ·show x.cell.length + x.stack.length + x.queue.length + (if inB x.set arg = true then delL x.set arg else x.set).length + x.table.length ≤ _; split <;> omega
 split
 ·show x.cell.length + x.stack.length + x.queue.length + x.set.length + (if inB (keysOf x.table) arg = true then x.table else insT x.table arg data).length ≤ _; split <;> omega
 split
 ·show x.cell.length + x.stack.length + x.queue.length + x.set.length + (if inB (keysOf x.table) arg = true then delT x.table arg else x.table).length ≤ _; split <;> omega
 ·omega
theorem few_alw {k : Nat} {x : Ct} (h : Few k x) (c : Cq) : Few (k + 1) (alw x c).1 := by
 have h0 : Few (k + 1) ct0 := by simp [Few, ct0]
 have h1 : Few (k + 1) x := by unfold Few at *; omega
 unfold alw
 split
 ·exact few_dnx h _ _ _
 split
 ·split
  ·exact h1
  ·exact h0
 split
 ·exact few_dnx h _ _ _
 ·exact h0
end Go.Proofs.YtnbibkohgppjnaaGreat.Ws
namespace Go.Proofs.YtnbibkohgppjnaaGreat.Ws
open Md
def Wi (n : Int) : Prop := (Lit.int .i64 n).wf = true
def WfC (c : Cq) : Prop := Wi c.arg ∧ Wi c.data
structure WfX (x : Ct) : Prop where
 cell : ∀ n ∈ x.cell, Wi n
 stack : ∀ n ∈ x.stack, Wi n
 queue : ∀ n ∈ x.queue, Wi n
 set : ∀ n ∈ x.set, Wi n
 table : ∀ p ∈ x.table, Wi p.1 ∧ Wi p.2
theorem wf_ct0 : WfX ct0 := by constructor <;> (intro n h; simp [ct0] at h)
theorem wf_dnx {x : Ct} (h : WfX x) (op arg data : Int) (ha : Wi arg) (hd : Wi data) : WfX (dnx x op arg data) := by
 obtain ⟨h0, h1, h2, h3, h4⟩ := h
 unfold dnx
 split
 ·exact ⟨fun n hn => by simp at hn; subst hn; exact ha, h1, h2, h3, h4⟩
 split
 ·exact ⟨h0, fun n hn => by rcases List.mem_cons.1 hn with e | e; exact e ▸ ha; exact h1 n e, h2, h3, h4⟩
 split
 ·exact ⟨h0, fun n hn => h1 n (List.mem_of_mem_drop hn), h2, h3, h4⟩
 split
 ·exact ⟨h0, h1, fun n hn => by rcases List.mem_append.1 hn with e | e; exact h2 n e; simp at e; exact e ▸ ha, h3, h4⟩
 split
 ·exact ⟨h0, h1, fun n hn => h2 n (List.mem_of_mem_drop hn), h3, h4⟩
 split
 ·refine ⟨h0, h1, h2, fun n hn => ?_, h4⟩
  dsimp only at hn
  split at hn
  ·exact h3 n hn
  ·unfold insL at hn
   rcases List.mem_append.1 hn with e | e
   ·exact h3 n (List.mem_of_mem_take e)
   ·rcases List.mem_cons.1 e with e | e
    ·exact e ▸ ha
    ·exact h3 n (List.mem_of_mem_drop e)
 split
 ·refine ⟨h0, h1, h2, fun n hn => ?_, h4⟩
  dsimp only at hn
  split at hn
  ·unfold delL at hn
   rcases List.mem_append.1 hn with e | e
   ·exact h3 n (List.mem_of_mem_take e)
   ·exact h3 n (List.mem_of_mem_drop e)
  ·exact h3 n hn
 split
 ·refine ⟨h0, h1, h2, h3, fun n hn => ?_⟩
  dsimp only at hn
  split at hn
  ·exact h4 n hn
  ·unfold insT at hn
   rcases List.mem_append.1 hn with e | e
   ·exact h4 n (List.mem_of_mem_take e)
   ·rcases List.mem_cons.1 e with e | e
    ·subst e; exact ⟨ha, hd⟩
    ·exact h4 n (List.mem_of_mem_drop e)
 split
 ·refine ⟨h0, h1, h2, h3, fun n hn => ?_⟩
  dsimp only at hn
  split at hn
  ·unfold delT at hn
   rcases List.mem_append.1 hn with e | e
   ·exact h4 n (List.mem_of_mem_take e)
   ·exact h4 n (List.mem_of_mem_drop e)
  ·exact h4 n hn
 ·exact ⟨h0, h1, h2, h3, h4⟩
theorem wf_alw {x : Ct} (h : WfX x) {c : Cq} (hc : WfC c) : WfX (alw x c).1 := by
 unfold alw
 split
 ·exact wf_dnx h _ _ _ hc.1 hc.2
 split
 ·split
  ·exact h
  ·exact wf_ct0
 split
 ·exact wf_dnx h _ _ _ hc.1 hc.2
 ·exact wf_ct0
theorem wi_nat {n : Nat} (h : n < 1000) : Wi (n : Int) := by
 have h1 : IntKind.i64.min = -9223372036854775808 := by rfl
 have h2 : IntKind.i64.max = 9223372036854775807 := by rfl
 show (decide (IntKind.i64.min ≤ (n : Int)) && decide ((n : Int) ≤ IntKind.i64.max)) = true
 rw [h1, h2, Bool.and_eq_true, decide_eq_true_eq, decide_eq_true_eq]
 omega
theorem wf_sgt {P : Nat} {x : Ct} (hP : P < 256) (hF : Few 8 x) (h : WfX x) : ∀ n ∈ sgt P x, Wi n := by
 obtain ⟨h0, h1, h2, h3, h4⟩ := h
 unfold Few at hF
 intro n hn
 unfold sgt at hn
 rcases List.mem_append.1 hn with hn | hn
 ·unfold sg0 pc at hn
  simp only [List.mem_cons, List.mem_append] at hn
  rcases hn with rfl | rfl | hn | rfl | hn | rfl | hn | rfl | hn | rfl | hn
  ·exact wi_nat (by omega)
  ·exact wi_nat (by omega)
  ·exact h0 n hn
  ·exact wi_nat (by omega)
  ·exact h1 n hn
  ·exact wi_nat (by omega)
  ·exact h2 n hn
  ·exact wi_nat (by omega)
  ·exact h3 n hn
  ·exact wi_nat (by omega)
  ·unfold flt at hn
   obtain ⟨p, hp, hq⟩ := List.mem_flatMap.1 hn
   simp at hq
   rcases hq with rfl | rfl
   ·exact (h4 p hp).1
   ·exact (h4 p hp).2
 ·rw [List.eq_of_mem_replicate hn]
  exact wi_nat (n := 0) (by omega)
end Go.Proofs.YtnbibkohgppjnaaGreat.Ws
namespace Go.Proofs.YtnbibkohgppjnaaGreat.Ws
open Go.ChangeShapes Go.WideShapes Go.ChangeAt Go.RowKit Go.Deep
open Mr Md
section
variable {H : Type} {enc : TypeId × Value → H} {w : World} {base : Nat} {spare : Nat → Bool} {held : Bool}
theorem trod_cqW {fuel : Nat} {cs : List Value} {x : DataW H × List MemPlace} (hf : DataW.trod enc Tryz.prog w base spare held fuel 45 cs = some x) : ∃ c : Cq, cs = c.row ∧ WfC c := by
 obtain ⟨c, hc⟩ := trod_cq hf
 refine ⟨c, hc, ?_⟩
 subst hc
 obtain ⟨xs, n, _, hxx, hl, hxl, hx⟩ := DataW.trod_struct Tryz.underlying45 hf
 have q2 := hx 2 _ rfl
 have q3 := hx 3 _ rfl
 have hxs : xs.length = 8 := by simpa using hxl
 match xs, hxs with
 | [y0, y1, y2, y3, y4, y5, y6, y7], _ =>
  simp [cells_opC, cells_i64, cells_an, Cq.row] at q2 q3
  obtain ⟨z2, e2, _, w2⟩ := DataW.trod_int Tryz.underlying3 q2
  obtain ⟨z3, e3, _, w3⟩ := DataW.trod_int Tryz.underlying3 q3
  simp at e2 e3
  subst e2; subst e3
  exact ⟨w2, w3⟩
theorem wi0 : Wi 0 := wi_nat (n := 0) (by omega)
theorem open_cslW {fuel : Nat} {cs : List Value} {x : DataW H × List MemPlace} (hf : DataW.trod enc Tryz.prog w base spare held fuel 22 cs = some x) :
  ∃ v l, cs = [v] ∧ Sl w (fun _ => True) 9 v l.length (cqs l) ∧ ∀ c ∈ l, WfC c := by
 rcases open_slice Tryz.underlying22 hf with ⟨hc, hx⟩ | ⟨ad, n, cap, m, k, D, Pl, hc, _, hl, _, hm, hx, hel⟩
 ·exact ⟨_, [], hc, Sl.nil _ _ _, fun c hc => by simp at hc⟩
 ·have hle : n ≤ m := by rw [hm]; split <;> omega
  obtain ⟨l, hs, hn⟩ := sl_rows (α := { c : Cq // WfC c }) (w := w) (ad := ad) (n := n) (cap := cap) ⟨⟨0, 0, 0, 0, 0, 0, 0, 0, 0⟩, wi0, wi0⟩ (fun c => c.1.row) 9 (by omega) (fun _ => rfl) (by omega) (fun i hi => by
   obtain ⟨cs, h1, h2⟩ := hel i (by omega)
   rw [cells_cq] at h1
   obtain ⟨_, hcl, hce⟩ := World.cells?_some h1
   obtain ⟨c, hcc, hwc⟩ := trod_cqW h2
   exact ⟨⟨c, hwc⟩, fun t ht => by show _ = c.row[t]?; rw [← hcc]; exact hce t (by omega)⟩)
  refine ⟨_, l.map (·.1), hc, ?_, fun c hc => ?_⟩
  ·have e1 : cqs (l.map (·.1)) = l.flatMap (fun c => c.1.row) := by simp [cqs, List.flatMap_map]
   rw [e1, List.length_map]
   rw [hn] at hs
   rw [hn]
   exact hs
  ·obtain ⟨d, _, rfl⟩ := List.mem_map.1 hc
   exact d.2
theorem open_callsW {r : Reach} {b0 : Nat} {v : Value} {d : DataW H} {p : List MemPlace} (hv : Value.okWide Tryz.prog w r b0 22 v) (h : DataW.Trod enc Tryz.prog w base spare held 22 v d p) (hsz : (d.weights Tryz.prog 22).all (· ≤ reachBytes) = true) :
  ∃ l, Sl w (fun _ => True) 9 v l.length (cqs l) ∧ l.length * 72 ≤ 140737488351232 ∧ ∀ c ∈ l, WfC c := by
 obtain ⟨a, n, cap, rfl⟩ := okWide_slice Tryz.underlying22 hv
 obtain ⟨fuel, hf⟩ := h
 have e0 : (Value.slice a n cap).cells.toList = [.slice a n cap] := rfl
 rw [e0] at hf
 obtain ⟨w0, l, e1, hs, hw⟩ := open_cslW hf
 simp at e1
 subst e1
 have f := len_slice Tryz.underlying22 hf rfl hs
 refine ⟨l, hs, ?_, hw⟩
 rcases f with f | ⟨es, rs, hd, hl⟩
 ·omega
 ·simp only at hd
  subst hd
  simp only [DataW.weights, Tryz.underlying22, List.all_cons, Bool.and_eq_true, decide_eq_true_eq, bytes_cq] at hsz
  have e : reachBytes = 140737488351232 := by decide
  have := hsz.1
  rw [e, Nat.add_mul] at this
  omega
end
end Go.Proofs.YtnbibkohgppjnaaGreat.Ws
namespace Go.Proofs.YtnbibkohgppjnaaGreat.Wt
open Md
def endB (c : Cq) : Bool := c.fin != -1
def ahB (c d : Cq) : Bool := c.fin != -1 && decide (c.fin < d.beg)
def Tim (c : Cq) : Prop := 0 ≤ c.beg ∧ (c.fin = -1 ∨ c.beg < c.fin) ∧ (c.pt = -1 ∨ c.beg < c.pt ∧ (c.fin = -1 ∨ c.pt ≤ c.fin))
def Anw (c : Cq) : Prop := 0 ≤ c.ak ∧ c.ak ≤ 6 ∧ (c.ak = 0 ↔ c.fin = -1) ∧ (c.ak = 2 ∨ c.av = 0)
def Fit (c : Cq) : Prop := 0 ≤ c.th ∧ c.th < 16 ∧ Tim c ∧ Anw c
instance (c : Cq) : Decidable (Tim c) := by unfold Tim; infer_instance
instance (c : Cq) : Decidable (Anw c) := by unfold Anw; infer_instance
instance (c : Cq) : Decidable (Fit c) := by unfold Fit; infer_instance
def Up (cs : List Cq) (n : Nat) : Prop := ∀ i, i < n → (∀ c, cs[i]? = some c → Fit c) ∧ ∀ c d, 0 < i → cs[i - 1]? = some c → cs[i]? = some d → c.beg < d.beg
theorem Up.zero (cs : List Cq) : Up cs 0 := fun i h => absurd h (Nat.not_lt_zero i)
theorem Up.mono {cs : List Cq} {m n : Nat} (h : Up cs n) (hm : m ≤ n) : Up cs m := fun i hi => h i (Nat.lt_of_lt_of_le hi hm)
theorem Up.succ {cs : List Cq} {n : Nat} {d : Cq} (h : Up cs n) (hd : cs[n]? = some d) (hf : Fit d) (hr : ∀ c, 0 < n → cs[n - 1]? = some c → c.beg < d.beg) : Up cs (n + 1) := fun i hi => by
 by_cases e : i < n
 ·exact h i e
 ·have : i = n := by omega
  subst this
  refine ⟨fun c hc => ?_, fun c d' h0 hc hd' => ?_⟩
  ·rw [hd] at hc; cases hc; exact hf
  ·rw [hd] at hd'; cases hd'; exact hr c h0 hc
theorem Up.fit {cs : List Cq} {n : Nat} (h : Up cs n) {i : Nat} (hi : i < n) {c : Cq} (hc : cs[i]? = some c) : Fit c := (h i hi).1 c hc
theorem get_of_lt {cs : List Cq} {i : Nat} (h : i < cs.length) : ∃ c, cs[i]? = some c := ⟨cs[i], List.getElem?_eq_getElem h⟩
theorem Up.lt {cs : List Cq} {n : Nat} (h : Up cs n) (hn : n ≤ cs.length) : ∀ (j i : Nat), i < j → j < n → ∀ c d, cs[i]? = some c → cs[j]? = some d → c.beg < d.beg := by
 intro j
 induction j with
 | zero => intro i hi; omega
 | succ j ih =>
  intro i hi hj c d hc hd
  obtain ⟨e, he⟩ := get_of_lt (cs := cs) (i := j) (by omega)
  have h2 := (h (j + 1) hj).2 e d (by omega) (by simpa using he) hd
  by_cases hij : i = j
  ·subst hij; rw [hc] at he; cases he; exact h2
  ·have := ih i (by omega) (by omega) c e hc he
   omega
def mvc (c : Cq) : List Int := c.beg :: ((if c.fin = -1 then [] else [c.fin]) ++ (if c.pt = -1 ∨ c.pt = c.fin then [] else [c.pt]))
def mvl (cs : List Cq) : List Int := cs.flatMap mvc
theorem mvc_len (c : Cq) : (mvc c).length ≤ 3 := by unfold mvc; split <;> split <;> simp
theorem mvl_len (cs : List Cq) : (mvl cs).length ≤ 3 * cs.length := by
 induction cs with
 | nil => simp [mvl]
 | cons c cs ih => have := mvc_len c; simp only [mvl, List.flatMap_cons, List.length_append, List.length_cons] at ih ⊢; omega
theorem mvl_take (cs : List Cq) (i : Nat) (c : Cq) (h : cs[i]? = some c) : mvl (cs.take (i + 1)) = mvl (cs.take i) ++ mvc c := by
 rw [List.take_add_one, h]; simp [mvl]
def Apart (cs : List Cq) : Prop := ∀ (i j : Nat) (c d : Cq) (x : Int), cs[i]? = some c → cs[j]? = some d → x ∈ mvc c → x ∈ mvc d → i = j
theorem fit_nodup {c : Cq} (h : Fit c) : (mvc c).Nodup := by
 obtain ⟨_, _, ⟨h0, h1, h2⟩, _⟩ := h
 unfold mvc
 split <;> split <;> simp <;> omega
theorem apart_mvl {cs : List Cq} (h : Up cs cs.length) : (mvl cs).Nodup ↔ Apart cs := by
 unfold mvl List.Nodup
 rw [List.pairwise_flatMap, List.pairwise_iff_getElem]
 constructor
 ·rintro ⟨_, h2⟩ i j c d x hc hd hx hy
  obtain ⟨hi, rfl⟩ := List.getElem?_eq_some_iff.1 hc
  obtain ⟨hj, rfl⟩ := List.getElem?_eq_some_iff.1 hd
  rcases Nat.lt_trichotomy i j with e | e | e
  ·exact absurd rfl (h2 i j hi hj e x hx x hy)
  ·exact e
  ·exact absurd rfl (h2 j i hj hi e x hy x hx)
 ·intro hA
  refine ⟨fun c hc => ?_, fun i j hi hj hij x hx y hy e => ?_⟩
  ·obtain ⟨i, hi, rfl⟩ := List.getElem_of_mem hc
   exact fit_nodup (h.fit hi (List.getElem?_eq_getElem hi))
  ·subst e
   exact absurd (hA i j _ _ x (List.getElem?_eq_getElem hi) (List.getElem?_eq_getElem hj) hx hy) (by omega)
def ApartR (l : List (Int × Int)) : Prop := ∀ x y, x ∈ l → y ∈ l → x.1 = y.1 → x.2 = y.2
theorem sorted_nodup {s : List Int} (h : s.Pairwise (· ≤ ·)) : s.Nodup ↔ ∀ i a b, s[i]? = some a → s[i + 1]? = some b → b ≠ a := by
 rw [List.pairwise_iff_getElem] at h
 unfold List.Nodup
 rw [List.pairwise_iff_getElem]
 constructor
 ·intro hn i a b ha hb
  obtain ⟨hi, rfl⟩ := List.getElem?_eq_some_iff.1 ha
  obtain ⟨hj, rfl⟩ := List.getElem?_eq_some_iff.1 hb
  exact fun e => hn i (i + 1) hi hj (by omega) e.symm
 ·intro hn i j hi hj hij e
  have h1 : s[i] ≤ s[j - 1] := by
   by_cases e2 : i = j - 1
   ·simp [← e2]
   ·exact h i (j - 1) hi (by omega) (by omega)
  have h2 := h (j - 1) j (by omega) hj (by omega)
  have h3 := hn (j - 1) s[j - 1] s[j] (List.getElem?_eq_getElem _) (by rw [show j - 1 + 1 = j from by omega]; exact List.getElem?_eq_getElem _)
  omega
theorem ApartR.perm {s l : List (Int × Int)} (p : s.Perm l) : ApartR s ↔ ApartR l := by
 unfold ApartR
 simp only [p.mem_iff]
def lastT (cs : List Cq) (t : Int) : Nat → Nat
 | 0 => 0
 | n + 1 => if (cs[n]?.map Cq.th) = some t then n + 1 else lastT cs t n
theorem lastT_le (cs : List Cq) (t : Int) : ∀ n, lastT cs t n ≤ n := by
 intro n
 induction n with
 | zero => simp [lastT]
 | succ n ih => unfold lastT; split <;> omega
theorem lastT_hit {cs : List Cq} {n : Nat} {c : Cq} (h : cs[n]? = some c) : lastT cs c.th (n + 1) = n + 1 := by simp [lastT, h]
theorem lastT_miss {cs : List Cq} {n : Nat} {c : Cq} (h : cs[n]? = some c) {t : Int} (ht : c.th ≠ t) : lastT cs t (n + 1) = lastT cs t n := by simp [lastT, h, ht]
def Turn (R : Cq → Cq → Prop) (cs : List Cq) (n : Nat) : Prop := ∀ i, i < n → ∀ c d, cs[i]? = some c → 0 < lastT cs c.th i → cs[lastT cs c.th i - 1]? = some d → R d c
theorem Turn.zero (R : Cq → Cq → Prop) (cs : List Cq) : Turn R cs 0 := fun i h => absurd h (Nat.not_lt_zero i)
theorem Turn.succ {R : Cq → Cq → Prop} {cs : List Cq} {n : Nat} {c : Cq} (h : Turn R cs n) (hc : cs[n]? = some c) (hr : ∀ d, 0 < lastT cs c.th n → cs[lastT cs c.th n - 1]? = some d → R d c) : Turn R cs (n + 1) := fun i hi => by
 by_cases e : i < n
 ·exact h i e
 ·have : i = n := by omega
  subst this
  intro c' d hc' h0 hd
  rw [hc] at hc'; cases hc'; exact hr d h0 hd
def AhP (d c : Cq) : Prop := d.fin ≠ -1 ∧ d.fin < c.beg
def AhR (d c : Cq) : Prop := d.fin ≠ -1 ∧ d.fin ≤ c.beg
theorem turn_same {cs : List Cq} (hA : Apart cs) : Turn AhP cs cs.length ↔ Turn AhR cs cs.length := by
 constructor
 ·intro h i hi c d hc h0 hd
  have := h i hi c d hc h0 hd
  exact ⟨this.1, Int.le_of_lt this.2⟩
 ·intro h i hi c d hc h0 hd
  have ⟨h1, h2⟩ := h i hi c d hc h0 hd
  refine ⟨h1, ?_⟩
  by_cases e : d.fin = c.beg
  ·have hm : d.fin ∈ mvc d := by simp [mvc, h1]
   have hb : d.fin ∈ mvc c := by simp [mvc, e]
   have := hA _ _ _ _ _ hd hc hm hb
   have := lastT_le cs c.th i
   omega
  ·omega
def MayC (cs : List Cq) : Prop := Up cs cs.length ∧ Apart cs ∧ Turn AhP cs cs.length
open Classical in
noncomputable def mayB (cs : List Cq) : Bool := decide (MayC cs)
theorem mayB_true {cs : List Cq} (h : MayC cs) : mayB cs = true := by simp [mayB, h]
theorem mayB_false {cs : List Cq} (h : ¬ MayC cs) : mayB cs = false := by simp [mayB, h]
theorem may_doc (cs : List Cq) : MayC cs ↔ Up cs cs.length ∧ Turn AhR cs cs.length ∧ Apart cs := by
 unfold MayC
 constructor
 ·rintro ⟨a, b, c⟩; exact ⟨a, (turn_same b).1 c, b⟩
 ·rintro ⟨a, b, c⟩; exact ⟨a, c, (turn_same c).2 b⟩
end Go.Proofs.YtnbibkohgppjnaaGreat.Wt
namespace Go.Proofs.YtnbibkohgppjnaaGreat.Md
open Go.RowKit Mr
set_option maxHeartbeats 4000000 in
theorem mObj (op : Int) (w : World) : Calls Tryz.prog 43 #[.int .i64 op] w fun e w' => e = .returned (.int .i64 (obj op)) ∧ w' = w := by
 by_cases h : op = 22 ∨ op = 23 ∨ op = 30 ∨ op = 31 ∨ op = 40 ∨ op = 41 ∨ op = 50 ∨ op = 51 ∨ op = 52 ∨ op = 60 ∨ op = 61 ∨ op = 62
 ·rcases h with rfl | rfl | rfl | rfl | rfl | rfl | rfl | rfl | rfl | rfl | rfl | rfl
  all_goals
   go_enter Tryz.func43, Tryz.ntmps43
   go_wp2
   go_ret
   exact ⟨rfl, rfl⟩
 ·have e : obj op = 0 := by
   unfold obj
   rw [if_neg (by omega), if_neg (by omega), if_neg (by omega), if_neg (by omega), if_neg (by omega)]
  rw [e]
  have d : ∀ k : Int, (k = 22 ∨ k = 23 ∨ k = 30 ∨ k = 31 ∨ k = 40 ∨ k = 41 ∨ k = 50 ∨ k = 51 ∨ k = 52 ∨ k = 60 ∨ k = 61 ∨ k = 62) → (op == k) = false := fun k hk => by
   rw [beq_eq_false_iff_ne]; rintro rfl; exact h hk
  have d0 := d 22 (by simp)
  have d1 := d 23 (by simp)
  have d2 := d 30 (by simp)
  have d3 := d 31 (by simp)
  have d4 := d 40 (by simp)
  have d5 := d 41 (by simp)
  have d6 := d 50 (by simp)
  have d7 := d 51 (by simp)
  have d8 := d 52 (by simp)
  have d9 := d 60 (by simp)
  have da := d 61 (by simp)
  have db := d 62 (by simp)
  clear d h e
  go_enter Tryz.func43, Tryz.ntmps43
  go_wp2
  go_ret
  exact ⟨rfl, rfl⟩
end Go.Proofs.YtnbibkohgppjnaaGreat.Md
