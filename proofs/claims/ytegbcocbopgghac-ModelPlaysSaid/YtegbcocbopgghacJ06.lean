import Derived.Test.YtegbcocbopgghacJ05
import Derived.Deep.Cut
import Derived.Test.YtegbcocbopgghacJ04
/-
  reclaimmodel.Part, of any contents.
-/
namespace Go.Proofs.Ytegbcocbopgghac.Md
open Go.RowKit Mr Me
set_option linter.unusedVariables false
set_option linter.unusedSimpArgs false
def nil5 : Obj := ctO (.slice none 0 0) (.slice none 0 0) (.slice none 0 0) (.slice none 0 0) (.slice none 0 0)
end Go.Proofs.Ytegbcocbopgghac.Md
/-
  What a call leaves and answers, purely; the boxes within Do and keyed; their endings.
-/
namespace Go.Proofs.Ytegbcocbopgghac.Md
open Go.RowKit Mr Me
set_option linter.unusedVariables false
set_option linter.unusedSimpArgs false
/-- A list's first one, or none. -/
def top (l : List Int) : Int × Int := if l = [] then (3, 0) else (2, l[0]?.getD 0)
def insL (l : List Int) (k : Int) : List Int := l.take (plc l k) ++ k :: l.drop (plc l k)
def delL (l : List Int) (k : Int) : List Int := l.take (plc l k) ++ l.drop (plc l k + 1)
def keysOf (l : List (Int × Int)) : List Int := l.map Prod.fst
def insT (l : List (Int × Int)) (k d : Int) : List (Int × Int) := l.take (plc (keysOf l) k) ++ (k, d) :: l.drop (plc (keysOf l) k)
def delT (l : List (Int × Int)) (k : Int) : List (Int × Int) := l.take (plc (keysOf l) k) ++ l.drop (plc (keysOf l) k + 1)
def getT (l : List (Int × Int)) (k : Int) : Int × Int := if inB (keysOf l) k then (2, (l[plc (keysOf l) k]?.getD (0, 0)).2) else (6, 0)
/-- What a call leaves. -/
def dnx (x : Ct) (op arg data : Int) : Ct :=
  if op = 22 then { x with cell := [arg] }
  else if op = 30 then { x with stack := arg :: x.stack }
  else if op = 31 then { x with stack := x.stack.drop 1 }
  else if op = 40 then { x with queue := x.queue ++ [arg] }
  else if op = 41 then { x with queue := x.queue.drop 1 }
  else if op = 50 then { x with set := if inB x.set arg then x.set else insL x.set arg }
  else if op = 51 then { x with set := if inB x.set arg then delL x.set arg else x.set }
  else if op = 60 then { x with table := if inB (keysOf x.table) arg then x.table else insT x.table arg data }
  else if op = 61 then { x with table := if inB (keysOf x.table) arg then delT x.table arg else x.table }
  else x
/-- What it answers. -/
def dan (x : Ct) (op arg : Int) : Int × Int :=
  if op = 22 then (1, 0) else if op = 23 then top x.cell else if op = 30 then (1, 0) else if op = 31 then top x.stack else if op = 40 then (1, 0) else if op = 41 then top x.queue
  else if op = 50 then (if inB x.set arg then 6 else 5, 0) else if op = 51 then (if inB x.set arg then 5 else 6, 0) else if op = 52 then (if inB x.set arg then 5 else 6, 0)
  else if op = 60 then (if inB (keysOf x.table) arg then 6 else 5, 0) else getT x.table arg
def ansO (k v : Int) : Obj := .cells #[.int .i64 k, .int .i64 v] 37 (0, 0)
theorem ansO_cells {W : World} {b : Nat} {k v : Int} (h : W.heap[b]? = some (ansO k v)) : W.cell? ⟨b, 0, none⟩ = some (.int .i64 k) ∧ W.cell? ⟨b, 1, none⟩ = some (.int .i64 v) ∧ b < W.heap.size ∧ W.frozen? ⟨b, 0, none⟩ = false ∧ W.frozen? ⟨b, 1, none⟩ = false := by
  have hlt := (Array.getElem?_eq_some_iff.1 h).1
  unfold ansO at h
  exact ⟨by simp [World.cell?, h], by simp [World.cell?, h], hlt, by simp [World.frozen?, h], by simp [World.frozen?, h]⟩
/-- Within Do and keyed: the contents' box, the two results' boxes. -/
structure Ds (W w : World) (T : Nat → Prop) (bs : Nat) (v0 v1 v2 v3 v4 : Value) (y : Ct) : Prop where
  bel : Below W.heap.size W w
  res : w.heap[W.heap.size + 1]? = some (ctO (.slice none 0 0) (.slice none 0 0) (.slice none 0 0) (.slice none 0 0) (.slice none 0 0))
  ans : w.heap[W.heap.size + 2]? = some (ansO 0 0)
  box : w.heap[bs]? = some (ctO v0 v1 v2 v3 v4)
  apart : bs = W.heap.size ∨ W.heap.size + 3 ≤ bs
  at_ : CtAt w (fun k => T k ∧ k ≠ bs ∧ (k < W.heap.size ∨ W.heap.size + 3 ≤ k)) v0 v1 v2 v3 v4 y
theorem Ds.below {W w w' : World} {T : Nat → Prop} {bs : Nat} {v0 v1 v2 v3 v4 : Value} {y : Ct} (h : Ds W w T bs v0 v1 v2 v3 v4 y) (hB : Below w.heap.size w w') : Ds W w' T bs v0 v1 v2 v3 v4 y :=
  ⟨h.bel.trans (hB.mono h.bel.size), (hB.block _ (Array.getElem?_eq_some_iff.1 h.res).1).trans h.res, (hB.block _ (Array.getElem?_eq_some_iff.1 h.ans).1).trans h.ans, (hB.block _ (Array.getElem?_eq_some_iff.1 h.box).1).trans h.box, h.apart, h.at_.below hB⟩
theorem Ds.put0 {W w : World} {T : Nat → Prop} {bs : Nat} {v0 v1 v2 v3 v4 : Value} {y : Ct} (h : Ds W w T bs v0 v1 v2 v3 v4 y) {v' : Value} {l : List Int} (ht : Sl w (fun k => T k ∧ k ≠ bs ∧ (k < W.heap.size ∨ W.heap.size + 3 ≤ k)) 1 v' l.length (ints l)) :
    Ds W (w.setCell ⟨bs, 0, none⟩ v') T bs v' v1 v2 v3 v4 { y with cell := l } := by
  have hfr : Fr w (w.setCell ⟨bs, 0, none⟩ v') (fun q => q = bs) := (Fr.refl w _).setCell ⟨bs, 0, none⟩ v' (Or.inl rfl)
  have hd : ∀ k, (T k ∧ k ≠ bs ∧ (k < W.heap.size ∨ W.heap.size + 3 ≤ k)) → k < w.heap.size → ¬ (fun q => q = bs) k := fun k hk _ e => hk.2.1 e
  have hb := setBlk h.box 0 v'
  have ha := h.apart
  exact ⟨h.bel.setCell (p := ⟨bs, 0, none⟩) (by show _ ≤ bs; omega) v', (Below.heap_setCell w ⟨bs, 0, none⟩ v' _ (by show _ ≠ bs; omega)).trans h.res, (Below.heap_setCell w ⟨bs, 0, none⟩ v' _ (by show _ ≠ bs; omega)).trans h.ans, hb, h.apart, ⟨ht.fr hfr hd, h.at_.stack.fr hfr hd, h.at_.queue.fr hfr hd, h.at_.set.fr hfr hd, h.at_.table.fr hfr hd⟩⟩
theorem Ds.put1 {W w : World} {T : Nat → Prop} {bs : Nat} {v0 v1 v2 v3 v4 : Value} {y : Ct} (h : Ds W w T bs v0 v1 v2 v3 v4 y) {v' : Value} {l : List Int} (ht : Sl w (fun k => T k ∧ k ≠ bs ∧ (k < W.heap.size ∨ W.heap.size + 3 ≤ k)) 1 v' l.length (ints l)) :
    Ds W (w.setCell ⟨bs, 1, none⟩ v') T bs v0 v' v2 v3 v4 { y with stack := l } := by
  have hfr : Fr w (w.setCell ⟨bs, 1, none⟩ v') (fun q => q = bs) := (Fr.refl w _).setCell ⟨bs, 1, none⟩ v' (Or.inl rfl)
  have hd : ∀ k, (T k ∧ k ≠ bs ∧ (k < W.heap.size ∨ W.heap.size + 3 ≤ k)) → k < w.heap.size → ¬ (fun q => q = bs) k := fun k hk _ e => hk.2.1 e
  have hb := setBlk h.box 1 v'
  have ha := h.apart
  exact ⟨h.bel.setCell (p := ⟨bs, 1, none⟩) (by show _ ≤ bs; omega) v', (Below.heap_setCell w ⟨bs, 1, none⟩ v' _ (by show _ ≠ bs; omega)).trans h.res, (Below.heap_setCell w ⟨bs, 1, none⟩ v' _ (by show _ ≠ bs; omega)).trans h.ans, hb, h.apart, ⟨h.at_.cell.fr hfr hd, ht.fr hfr hd, h.at_.queue.fr hfr hd, h.at_.set.fr hfr hd, h.at_.table.fr hfr hd⟩⟩
theorem Ds.put2 {W w : World} {T : Nat → Prop} {bs : Nat} {v0 v1 v2 v3 v4 : Value} {y : Ct} (h : Ds W w T bs v0 v1 v2 v3 v4 y) {v' : Value} {l : List Int} (ht : Sl w (fun k => T k ∧ k ≠ bs ∧ (k < W.heap.size ∨ W.heap.size + 3 ≤ k)) 1 v' l.length (ints l)) :
    Ds W (w.setCell ⟨bs, 2, none⟩ v') T bs v0 v1 v' v3 v4 { y with queue := l } := by
  have hfr : Fr w (w.setCell ⟨bs, 2, none⟩ v') (fun q => q = bs) := (Fr.refl w _).setCell ⟨bs, 2, none⟩ v' (Or.inl rfl)
  have hd : ∀ k, (T k ∧ k ≠ bs ∧ (k < W.heap.size ∨ W.heap.size + 3 ≤ k)) → k < w.heap.size → ¬ (fun q => q = bs) k := fun k hk _ e => hk.2.1 e
  have hb := setBlk h.box 2 v'
  have ha := h.apart
  exact ⟨h.bel.setCell (p := ⟨bs, 2, none⟩) (by show _ ≤ bs; omega) v', (Below.heap_setCell w ⟨bs, 2, none⟩ v' _ (by show _ ≠ bs; omega)).trans h.res, (Below.heap_setCell w ⟨bs, 2, none⟩ v' _ (by show _ ≠ bs; omega)).trans h.ans, hb, h.apart, ⟨h.at_.cell.fr hfr hd, h.at_.stack.fr hfr hd, ht.fr hfr hd, h.at_.set.fr hfr hd, h.at_.table.fr hfr hd⟩⟩
theorem Ds.put3 {W w : World} {T : Nat → Prop} {bs : Nat} {v0 v1 v2 v3 v4 : Value} {y : Ct} (h : Ds W w T bs v0 v1 v2 v3 v4 y) {v' : Value} {l : List Int} (ht : Sl w (fun k => T k ∧ k ≠ bs ∧ (k < W.heap.size ∨ W.heap.size + 3 ≤ k)) 1 v' l.length (ints l)) :
    Ds W (w.setCell ⟨bs, 3, none⟩ v') T bs v0 v1 v2 v' v4 { y with set := l } := by
  have hfr : Fr w (w.setCell ⟨bs, 3, none⟩ v') (fun q => q = bs) := (Fr.refl w _).setCell ⟨bs, 3, none⟩ v' (Or.inl rfl)
  have hd : ∀ k, (T k ∧ k ≠ bs ∧ (k < W.heap.size ∨ W.heap.size + 3 ≤ k)) → k < w.heap.size → ¬ (fun q => q = bs) k := fun k hk _ e => hk.2.1 e
  have hb := setBlk h.box 3 v'
  have ha := h.apart
  exact ⟨h.bel.setCell (p := ⟨bs, 3, none⟩) (by show _ ≤ bs; omega) v', (Below.heap_setCell w ⟨bs, 3, none⟩ v' _ (by show _ ≠ bs; omega)).trans h.res, (Below.heap_setCell w ⟨bs, 3, none⟩ v' _ (by show _ ≠ bs; omega)).trans h.ans, hb, h.apart, ⟨h.at_.cell.fr hfr hd, h.at_.stack.fr hfr hd, h.at_.queue.fr hfr hd, ht.fr hfr hd, h.at_.table.fr hfr hd⟩⟩
theorem Ds.put4 {W w : World} {T : Nat → Prop} {bs : Nat} {v0 v1 v2 v3 v4 : Value} {y : Ct} (h : Ds W w T bs v0 v1 v2 v3 v4 y) {v' : Value} {l : List (Int × Int)} (ht : Sl w (fun k => T k ∧ k ≠ bs ∧ (k < W.heap.size ∨ W.heap.size + 3 ≤ k)) 2 v' l.length (prs l)) :
    Ds W (w.setCell ⟨bs, 4, none⟩ v') T bs v0 v1 v2 v3 v' { y with table := l } := by
  have hfr : Fr w (w.setCell ⟨bs, 4, none⟩ v') (fun q => q = bs) := (Fr.refl w _).setCell ⟨bs, 4, none⟩ v' (Or.inl rfl)
  have hd : ∀ k, (T k ∧ k ≠ bs ∧ (k < W.heap.size ∨ W.heap.size + 3 ≤ k)) → k < w.heap.size → ¬ (fun q => q = bs) k := fun k hk _ e => hk.2.1 e
  have hb := setBlk h.box 4 v'
  have ha := h.apart
  exact ⟨h.bel.setCell (p := ⟨bs, 4, none⟩) (by show _ ≤ bs; omega) v', (Below.heap_setCell w ⟨bs, 4, none⟩ v' _ (by show _ ≠ bs; omega)).trans h.res, (Below.heap_setCell w ⟨bs, 4, none⟩ v' _ (by show _ ≠ bs; omega)).trans h.ans, hb, h.apart, ⟨h.at_.cell.fr hfr hd, h.at_.stack.fr hfr hd, h.at_.queue.fr hfr hd, h.at_.set.fr hfr hd, ht.fr hfr hd⟩⟩
theorem Ds.alloc {W w : World} {T : Nat → Prop} {bs : Nat} {v0 v1 v2 v3 v4 : Value} {y : Ct} (h : Ds W w T bs v0 v1 v2 v3 v4 y) (o : Obj) : Ds W (w.alloc o) T bs v0 v1 v2 v3 v4 y := h.below ((Below.refl _ _).alloc (Nat.le_refl _) o)
theorem Ds.drew {W w : World} {T : Nat → Prop} {bs : Nat} {v0 v1 v2 v3 v4 : Value} {y : Ct} (h : Ds W w T bs v0 v1 v2 v3 v4 y) : Ds W w.drew T bs v0 v1 v2 v3 v4 y := h.below (Below.refl _ _).drew
/-- The two results written. -/
def set7 (w : World) (b : Nat) (v0 v1 v2 v3 v4 : Value) (c : Nat) (k v : Int) : World := ((set5 w b v0 v1 v2 v3 v4).setCell ⟨c, 0, none⟩ (.int .i64 k)).setCell ⟨c, 1, none⟩ (.int .i64 v)
theorem set5_fr (w : World) (b : Nat) (v0 v1 v2 v3 v4 : Value) : Fr w (set5 w b v0 v1 v2 v3 v4) (fun q => q = b) := by
  unfold set5
  exact (((((Fr.refl w (fun q => q = b)).setCell ⟨b, 0, none⟩ v0 (Or.inl rfl)).setCell ⟨b, 1, none⟩ v1 (Or.inl rfl)).setCell ⟨b, 2, none⟩ v2 (Or.inl rfl)).setCell ⟨b, 3, none⟩ v3 (Or.inl rfl)).setCell ⟨b, 4, none⟩ v4 (Or.inl rfl)
theorem Ds.ends {W w : World} {T : Nat → Prop} {bs : Nat} {v0 v1 v2 v3 v4 : Value} {y : Ct} (h : Ds W w T bs v0 v1 v2 v3 v4 y) (k v : Int) :
    CtAt (set7 w (W.heap.size + 1) v0 v1 v2 v3 v4 (W.heap.size + 2) k v) T v0 v1 v2 v3 v4 y ∧ Below W.heap.size W (set7 w (W.heap.size + 1) v0 v1 v2 v3 v4 (W.heap.size + 2) k v) ∧
    (set7 w (W.heap.size + 1) v0 v1 v2 v3 v4 (W.heap.size + 2) k v).heap[W.heap.size + 1]? = some (ctO v0 v1 v2 v3 v4) ∧ (set7 w (W.heap.size + 1) v0 v1 v2 v3 v4 (W.heap.size + 2) k v).heap[W.heap.size + 2]? = some (ansO k v) := by
  have h1 := set5_at v0 v1 v2 v3 v4 h.res
  have h2 := set5_below v0 v1 v2 v3 v4 h.bel (Nat.le_succ _)
  have h3 := (set5_far w (W.heap.size + 1) v0 v1 v2 v3 v4 (W.heap.size + 2) (by omega)).trans h.ans
  have hf := (set5_fr w (W.heap.size + 1) v0 v1 v2 v3 v4).mono (T := fun q => q = W.heap.size + 1 ∨ q = W.heap.size + 2) (fun q hq => .inl hq)
  unfold set7
  generalize set5 w (W.heap.size + 1) v0 v1 v2 v3 v4 = w5 at *
  have h4 := setBlk (setBlk h3 0 (.int .i64 k)) 1 (.int .i64 v)
  have hf2 : ∀ q, q ≠ W.heap.size + 2 → ((w5.setCell ⟨W.heap.size + 2, 0, none⟩ (.int .i64 k)).setCell ⟨W.heap.size + 2, 1, none⟩ (.int .i64 v)).heap[q]? = w5.heap[q]? := fun q hq => by
    rw [Below.heap_setCell _ _ _ q hq, Below.heap_setCell _ _ _ q hq]
  have hfr : Fr w ((w5.setCell ⟨W.heap.size + 2, 0, none⟩ (.int .i64 k)).setCell ⟨W.heap.size + 2, 1, none⟩ (.int .i64 v)) (fun q => q = W.heap.size + 1 ∨ q = W.heap.size + 2) :=
    (hf.setCell ⟨W.heap.size + 2, 0, none⟩ (.int .i64 k) (Or.inl (Or.inr rfl))).setCell ⟨W.heap.size + 2, 1, none⟩ (.int .i64 v) (Or.inl (Or.inr rfl))
  exact ⟨(h.at_.fr hfr (fun q hq hl e => by omega)).mono (fun q hq => hq.1), (h2.setCell (p := ⟨W.heap.size + 2, 0, none⟩) (Nat.le_add_right _ 2) _).setCell (p := ⟨W.heap.size + 2, 1, none⟩) (Nat.le_add_right _ 2) _, (hf2 _ (by omega)).trans h1, h4⟩
theorem Ds.held {W w : World} {T : Nat → Prop} {bs : Nat} {v0 v1 v2 v3 v4 : Value} {y : Ct} (h : Ds W w T bs v0 v1 v2 v3 v4 y) (k v : Int) :
    ((set5 w (W.heap.size + 1) v0 v1 v2 v3 v4).cell? ⟨bs, 0, none⟩ = some v0 ∧ (set5 w (W.heap.size + 1) v0 v1 v2 v3 v4).cell? ⟨bs, 1, none⟩ = some v1 ∧ (set5 w (W.heap.size + 1) v0 v1 v2 v3 v4).cell? ⟨bs, 2, none⟩ = some v2 ∧ (set5 w (W.heap.size + 1) v0 v1 v2 v3 v4).cell? ⟨bs, 3, none⟩ = some v3 ∧ (set5 w (W.heap.size + 1) v0 v1 v2 v3 v4).cell? ⟨bs, 4, none⟩ = some v4) ∧
    ((set7 w (W.heap.size + 1) v0 v1 v2 v3 v4 (W.heap.size + 2) k v).cell? ⟨bs, 0, none⟩ = some v0 ∧ (set7 w (W.heap.size + 1) v0 v1 v2 v3 v4 (W.heap.size + 2) k v).cell? ⟨bs, 1, none⟩ = some v1 ∧ (set7 w (W.heap.size + 1) v0 v1 v2 v3 v4 (W.heap.size + 2) k v).cell? ⟨bs, 2, none⟩ = some v2 ∧ (set7 w (W.heap.size + 1) v0 v1 v2 v3 v4 (W.heap.size + 2) k v).cell? ⟨bs, 3, none⟩ = some v3 ∧ (set7 w (W.heap.size + 1) v0 v1 v2 v3 v4 (W.heap.size + 2) k v).cell? ⟨bs, 4, none⟩ = some v4) := by
  have ha := h.apart
  have h5 := (set5_far w (W.heap.size + 1) v0 v1 v2 v3 v4 bs (by omega)).trans h.box
  have h7 : (set7 w (W.heap.size + 1) v0 v1 v2 v3 v4 (W.heap.size + 2) k v).heap[bs]? = some (ctO v0 v1 v2 v3 v4) := by
    unfold set7
    rw [Below.heap_setCell _ _ _ bs (by show bs ≠ W.heap.size + 2; omega), Below.heap_setCell _ _ _ bs (by show bs ≠ W.heap.size + 2; omega)]
    exact h5
  obtain ⟨p0, p1, p2, p3, p4, _⟩ := ctO_cells h5
  obtain ⟨q0, q1, q2, q3, q4, _⟩ := ctO_cells h7
  exact ⟨⟨p0, p1, p2, p3, p4⟩, ⟨q0, q1, q2, q3, q4⟩⟩
end Go.Proofs.Ytegbcocbopgghac.Md
