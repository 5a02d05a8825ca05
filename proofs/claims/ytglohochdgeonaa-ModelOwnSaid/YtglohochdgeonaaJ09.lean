import Derived.Test.YtglohochdgeonaaJ08
import Derived.Deep.RegionHeld3
import Derived.Deep.RegionLaw
/-
  reclaimmodel.Do: the plain objects.
-/
namespace Go.Proofs.Ytglohochdgeonaa.Md
open Go.RowKit Mr Me
set_option linter.unusedVariables false
set_option linter.unusedSimpArgs false
theorem sl_one (w : World) {lo bs : Nat} (arg : Int) (h : lo + 3 ≤ w.heap.size ∧ bs < w.heap.size) : Sl (w.alloc (.cells #[.int .i64 arg] 3 (0, 0))) (fun k => (fun k => lo ≤ k) k ∧ k ≠ bs ∧ (k < lo ∨ lo + 3 ≤ k)) 1 (.slice (some ⟨w.heap.size, 0, none⟩) 1 1) ([arg] : List Int).length (ints [arg]) := by
  refine ⟨rfl, _, _, rfl, Nat.le_refl _, .inr ⟨w.heap.size, 0, rfl, ⟨by show _ ≤ _; omega, by omega, by omega⟩, by simp, fun j u hu => ?_⟩⟩
  match j, hu with
  | 0, hu => simp [ints] at hu; subst hu; exact cell_blk (new_at w _ _ rfl) 0
  | j + 1, hu => simp [ints] at hu
/-- The rows within Do. -/
def Tr (lo bs : Nat) : Nat → Prop := fun k => lo ≤ k ∧ k ≠ bs ∧ (k < lo ∨ lo + 3 ≤ k)
theorem do_pre {W w1 : World} {o : Obj} {x : Ct} {v0 v1 v2 v3 v4 : Value} (hv : CtHas w1 (fun k => W.heap.size + 3 ≤ k) v0 v1 v2 v3 v4 x) (hB : Below (W.heap.size + 3) (((W.alloc o).alloc (ctO (.slice none 0 0) (.slice none 0 0) (.slice none 0 0) (.slice none 0 0) (.slice none 0 0))).alloc (ansO 0 0)) w1) :
    Ds W (w1.alloc (ctO v0 v1 v2 v3 v4)) (fun k => W.heap.size ≤ k) w1.heap.size v0 v1 v2 v3 v4 x ∧ CtHas (w1.alloc (ctO v0 v1 v2 v3 v4)) (Tr W.heap.size w1.heap.size) v0 v1 v2 v3 v4 x := by
  have hs := hB.size
  simp only [World.size_alloc] at hs
  have B0 := (((Below.refl W.heap.size W).alloc (Nat.le_refl _) o).alloc (by simp) (ctO (.slice none 0 0) (.slice none 0 0) (.slice none 0 0) (.slice none 0 0) (.slice none 0 0))).alloc (by simp; omega) (ansO 0 0)
  have g1 := (hB.block (W.heap.size + 1) (by omega)).trans (old_at (new_at (W.alloc o) (ctO (.slice none 0 0) (.slice none 0 0) (.slice none 0 0) (.slice none 0 0) (.slice none 0 0)) _ (by simp)) (ansO 0 0))
  have g2 := (hB.block (W.heap.size + 2) (by omega)).trans (new_at ((W.alloc o).alloc (ctO (.slice none 0 0) (.slice none 0 0) (.slice none 0 0) (.slice none 0 0) (.slice none 0 0))) (ansO 0 0) _ (by simp))
  have B1 := B0.trans (hB.mono (by omega))
  have keep : ∀ {e size m : Nat} {v : Value} {xs : List Value}, Has w1 (fun k => W.heap.size + 3 ≤ k) e size v m xs → Has (w1.alloc (ctO v0 v1 v2 v3 v4)) (Tr W.heap.size w1.heap.size) e size v m xs := fun {e size m v xs} hh => hh.kept (fun k hk => Below.heap_alloc w1 _ k (hh.lt k hk).2) (fun k hk => by have := (hh.lt k hk); unfold Tr; omega)
  have H : CtHas (w1.alloc (ctO v0 v1 v2 v3 v4)) (Tr W.heap.size w1.heap.size) v0 v1 v2 v3 v4 x := ⟨keep hv.cell, keep hv.stack, keep hv.queue, keep hv.set, keep hv.table⟩
  exact ⟨⟨B1.alloc B1.size _, old_at g1 _, old_at g2 _, new_at _ _ _ rfl, .inr (by omega), H.at⟩, H⟩
/-- A row without its first one. -/
theorem sl_tail {w : World} {T : Nat → Prop} {e : TypeId} {g cap : Nat} {l : List Int} (h : Has w T e 1 (.slice (some ⟨g, 0, none⟩) l.length cap) l.length (ints l)) (hn : 0 < l.length) (a : Option Addr) (ha : l.length = 1 ∨ a = some ⟨g, 1, none⟩) :
    Sl w T 1 (.slice a (l.length - 1) (cap - 1)) (l.drop 1).length (ints (l.drop 1)) := by
  obtain ⟨hS, hl⟩ := h.lt g rfl
  obtain ⟨_, _, e', hc⟩ := h.form
  cases e'
  refine ⟨by simp [ints], a, cap - 1, by simp, by simp; omega, ?_⟩
  rcases ha with ha | rfl
  · exact .inl (by simp; omega)
  · refine .inr ⟨g, 1, rfl, hS, hl, fun j u hu => ?_⟩
    refine h.cells rfl (1 + j) u ?_
    rw [← hu]
    simp [ints, Nat.add_comm]
theorem has_one {w : World} {S : Nat → Prop} (arg : Int) (hS : S w.heap.size) : Has (w.alloc (.cells #[.int .i64 arg] 3 (0, 0))) S 3 1 (.slice (some ⟨w.heap.size, 0, none⟩) 1 1) 1 [.int .i64 arg] :=
  ⟨rfl, .inr ⟨w.heap.size, 1, #[.int .i64 arg], rfl, hS, new_at w _ _ rfl, Nat.le_refl _, by decide, by simp, by simp⟩⟩
theorem CtHas.alloc' {W : World} {S : Nat → Prop} {v0 v1 v2 v3 v4 : Value} {x : Ct} (h : CtHas W S v0 v1 v2 v3 v4 x) (o : Obj) : CtHas (W.alloc o) S v0 v1 v2 v3 v4 x := ⟨h.cell.alloc o, h.stack.alloc o, h.queue.alloc o, h.set.alloc o, h.table.alloc o⟩
theorem Ds.app_box {W w w' : World} {bs : Nat} {v0 v1 v2 v3 v4 : Value} {y : Ct} (h : Ds W w (fun k => W.heap.size ≤ k) bs v0 v1 v2 v3 v4 y) (hH : CtHas w (Tr W.heap.size bs) v0 v1 v2 v3 v4 y) (hg : w.grownBy w' v2.ownBlock) :
    w'.heap[bs]? = some (ctO v0 v1 v2 v3 v4) ∧ True := by
  refine ⟨(hg.block bs (Array.getElem?_eq_some_iff.1 h.box).1 (fun e => ?_)).trans h.box, trivial⟩
  have := (hH.queue.lt bs e.symm).1
  unfold Tr at this
  omega
theorem Ds.app {W w w' : World} {bs : Nat} {v0 v1 v2 v3 v4 : Value} {y : Ct} {arg : Int} (h : Ds W w (fun k => W.heap.size ≤ k) bs v0 v1 v2 v3 v4 y) (hH : CtHas w (Tr W.heap.size bs) v0 v1 v2 v3 v4 y) (hJ : Dj v0 v1 v2 v3 v4) (hg : w.grownBy w' v2.ownBlock) {v' : Value}
    (hs : Has w' (Tr W.heap.size bs) 3 1 v' (y.queue.length + 1) (ints y.queue ++ [.int .i64 arg])) : Ds W (w'.setCell ⟨bs, 2, none⟩ v') (fun k => W.heap.size ≤ k) bs v0 v1 v' v3 v4 { y with queue := y.queue ++ [arg] } := by
  have hq : ∀ k, v2.ownBlock = some k → W.heap.size + 3 ≤ k ∧ k ≠ bs := fun k hk => by have := (hH.queue.lt k hk).1; unfold Tr at this; omega
  have hbel : Below W.heap.size W w' := h.bel.grown hg h.bel.size (fun k e => by have := hq k e; omega)
  have hbx := (Ds.app_box h hH hg).1
  have ha := h.apart
  have hfr : Fr w' (w'.setCell ⟨bs, 2, none⟩ v') (fun q => q = bs) := (Fr.refl w' _).setCell ⟨bs, 2, none⟩ v' (Or.inl rfl)
  have hd : ∀ k, Tr W.heap.size bs k → k < w'.heap.size → ¬ (fun q => q = bs) k := fun k hk _ e => hk.2.1 e
  have g : ∀ {e size m : Nat} {v : Value} {xs : List Value}, Has w (Tr W.heap.size bs) e size v m xs → (∀ k, v.ownBlock = some k → v2.ownBlock ≠ some k) → Sl (w'.setCell ⟨bs, 2, none⟩ v') (Tr W.heap.size bs) size v m xs := fun {e size m v xs} hh hn => (Sl.of_has (hh.grown hg hn)).fr hfr hd
  have hb2 := setBlk hbx 2 v'
  refine ⟨hbel.setCell (p := ⟨bs, 2, none⟩) (by show _ ≤ bs; omega) v', (Below.heap_setCell w' ⟨bs, 2, none⟩ v' _ (by show _ ≠ bs; omega)).trans ((hg.block _ (Array.getElem?_eq_some_iff.1 h.res).1 (fun e => by have := hq _ e.symm; omega)).trans h.res), (Below.heap_setCell w' ⟨bs, 2, none⟩ v' _ (by show _ ≠ bs; omega)).trans ((hg.block _ (Array.getElem?_eq_some_iff.1 h.ans).1 (fun e => by have := hq _ e.symm; omega)).trans h.ans), hb2, h.apart, ?_⟩
  refine ⟨g hH.cell (fun k hk e => (hJ k e).1 hk), g hH.stack (fun k hk e => (hJ k e).2.1 hk), ?_, g hH.set (fun k hk e => (hJ k e).2.2.1 hk), g hH.table (fun k hk e => (hJ k e).2.2.2 hk)⟩
  have := (Sl.of_has hs).fr hfr hd
  show Sl _ (Tr W.heap.size bs) 1 v' _ _
  simpa [ints] using this
theorem far5 {w : World} {b : Nat} {v0 v1 v2 v3 v4 u : Value} {g o : Nat} (h : w.cell? ⟨g, o, none⟩ = some u) (hg : g ≠ b) : (set5 w b v0 v1 v2 v3 v4).cell? ⟨g, o, none⟩ = some u := by
  rw [← h]
  have := set5_far w b v0 v1 v2 v3 v4 g hg
  simp [World.cell?, this]
theorem far7 {w : World} {b c : Nat} {v0 v1 v2 v3 v4 u : Value} {k v : Int} {g o : Nat} (h : w.cell? ⟨g, o, none⟩ = some u) (hg : g ≠ b) (hc : g ≠ c) : (set7 w b v0 v1 v2 v3 v4 c k v).cell? ⟨g, o, none⟩ = some u := by
  have h5 := far5 (v0 := v0) (v1 := v1) (v2 := v2) (v3 := v3) (v4 := v4) h hg
  rw [← h5]
  have e : (set7 w b v0 v1 v2 v3 v4 c k v).heap[g]? = (set5 w b v0 v1 v2 v3 v4).heap[g]? := by
    unfold set7
    rw [Below.heap_setCell _ _ _ g (by show g ≠ c; exact hc), Below.heap_setCell _ _ _ g (by show g ≠ c; exact hc)]
  simp [World.cell?, e]
theorem top_e {l : List Int} (h : l = []) : top l = (3, 0) := by subst h; rfl
theorem top_n {l : List Int} (h : 0 < l.length) : top l = (2, l[0]?.getD 0) := by
  unfold top; rw [if_neg (by intro e; subst e; simp at h)]
theorem dan_23e {x : Ct} (h : x.cell = []) (arg : Int) : dan x 23 arg = (3, 0) := by show top x.cell = _; exact top_e h
theorem dan_31e {x : Ct} (h : x.stack = []) (arg : Int) : dan x 31 arg = (3, 0) := by show top x.stack = _; exact top_e h
theorem dan_41e {x : Ct} (h : x.queue = []) (arg : Int) : dan x 41 arg = (3, 0) := by show top x.queue = _; exact top_e h
theorem dan_23n {x : Ct} (h : 0 < x.cell.length) (arg : Int) : dan x 23 arg = (2, x.cell[0]?.getD 0) := by show top x.cell = _; exact top_n h
theorem dan_31n {x : Ct} (h : 0 < x.stack.length) (arg : Int) : dan x 31 arg = (2, x.stack[0]?.getD 0) := by show top x.stack = _; exact top_n h
theorem dan_41n {x : Ct} (h : 0 < x.queue.length) (arg : Int) : dan x 41 arg = (2, x.queue[0]?.getD 0) := by show top x.queue = _; exact top_n h
theorem dnx_23e {x : Ct} (h : x.cell = []) (arg data : Int) : dnx x 23 arg data = x := rfl
theorem dnx_31e {x : Ct} (h : x.stack = []) (arg data : Int) : dnx x 31 arg data = x := by show { x with stack := x.stack.drop 1 } = x; rw [h]; cases x; simp at h; subst h; rfl
theorem dnx_41e {x : Ct} (h : x.queue = []) (arg data : Int) : dnx x 41 arg data = x := by show { x with queue := x.queue.drop 1 } = x; rw [h]; cases x; simp at h; subst h; rfl









end Go.Proofs.Ytglohochdgeonaa.Md
/-
  reclaimmodel.keyed: the list's and the table's.
-/
namespace Go.Proofs.Ytglohochdgeonaa.Md
open Go.RowKit Mr Me
set_option linter.unusedVariables false
set_option linter.unusedSimpArgs false
def Tk (S : Nat → Prop) (lo : Nat) : Nat → Prop := fun k => (S k ∧ k < lo) ∨ lo + 3 ≤ k

theorem key_pre {W : World} {S : Nat → Prop} {u0 u1 u2 u3 u4 : Value} {x : Ct} (hu : CtHas W S u0 u1 u2 u3 u4 x) :
    Ds W (((W.alloc (ctO u0 u1 u2 u3 u4)).alloc (ctO (.slice none 0 0) (.slice none 0 0) (.slice none 0 0) (.slice none 0 0) (.slice none 0 0))).alloc (ansO 0 0)) (Tk S W.heap.size) W.heap.size u0 u1 u2 u3 u4 x := by
  have B0 := (((Below.refl W.heap.size W).alloc (Nat.le_refl _) (ctO u0 u1 u2 u3 u4)).alloc (by simp) (ctO (.slice none 0 0) (.slice none 0 0) (.slice none 0 0) (.slice none 0 0) (.slice none 0 0))).alloc (by simp; omega) (ansO 0 0)
  have keep : ∀ {e size m : Nat} {v : Value} {xs : List Value}, Has W S e size v m xs → Has (((W.alloc (ctO u0 u1 u2 u3 u4)).alloc (ctO (.slice none 0 0) (.slice none 0 0) (.slice none 0 0) (.slice none 0 0) (.slice none 0 0))).alloc (ansO 0 0)) (fun k => Tk S W.heap.size k ∧ k ≠ W.heap.size ∧ (k < W.heap.size ∨ W.heap.size + 3 ≤ k)) e size v m xs := fun {e size m v xs} hh => hh.kept (fun k hk => B0.block k (hh.lt k hk).2) (fun k hk => by have := (hh.lt k hk); exact ⟨.inl this, by omega, .inl this.2⟩)
  exact ⟨B0, old_at (new_at _ _ _ (by simp)) _, new_at _ _ _ (by simp), old_at (old_at (new_at W _ _ rfl) _) _, .inl rfl, CtHas.at ⟨keep hu.cell, keep hu.stack, keep hu.queue, keep hu.set, keep hu.table⟩⟩
theorem dan_50 (x : Ct) (arg : Int) : dan x 50 arg = (if inB x.set arg then 6 else 5, 0) := rfl
theorem dan_51 (x : Ct) (arg : Int) : dan x 51 arg = (if inB x.set arg then 5 else 6, 0) := rfl
theorem dan_60 (x : Ct) (arg : Int) : dan x 60 arg = (if inB (keysOf x.table) arg then 6 else 5, 0) := rfl
theorem dan_61 (x : Ct) (arg : Int) : dan x 61 arg = getT x.table arg := rfl
theorem dan_62 (x : Ct) (arg : Int) : dan x 62 arg = getT x.table arg := rfl
theorem getT_n {l : List (Int × Int)} {k : Int} (h : inB (keysOf l) k = false) : getT l k = (6, 0) := by unfold getT; rw [h]; rfl
theorem getT_y {l : List (Int × Int)} {k : Int} (h : inB (keysOf l) k = true) : getT l k = (2, (l[plc (keysOf l) k]?.getD (0, 0)).2) := by unfold getT; rw [h]; rfl
theorem dnx_50 (x : Ct) (arg data : Int) : dnx x 50 arg data = { x with set := if inB x.set arg then x.set else insL x.set arg } := rfl
theorem dnx_51 (x : Ct) (arg data : Int) : dnx x 51 arg data = { x with set := if inB x.set arg then delL x.set arg else x.set } := rfl
theorem dnx_60 (x : Ct) (arg data : Int) : dnx x 60 arg data = { x with table := if inB (keysOf x.table) arg then x.table else insT x.table arg data } := rfl
theorem dnx_61 (x : Ct) (arg data : Int) : dnx x 61 arg data = { x with table := if inB (keysOf x.table) arg then delT x.table arg else x.table } := rfl
theorem inB_lt {l : List Int} {k : Int} (h : inB l k = true) : plc l k < l.length := by
  unfold inB at h
  by_cases hl : plc l k < l.length
  · exact hl
  · rw [in_no (by omega)] at h; cases h
theorem plc_le (l : List Int) (k : Int) : plc l k ≤ l.length := by unfold plc; exact (List.takeWhile_sublist _).length_le
/-- The rows within keyed. -/
def Tn (S : Nat → Prop) (lo : Nat) : Nat → Prop := fun k => Tk S lo k ∧ k ≠ lo ∧ (k < lo ∨ lo + 3 ≤ k)
theorem tn_new {S : Nat → Prop} {lo k : Nat} (h : lo + 3 ≤ k) : Tn S lo k := ⟨.inr h, by omega, .inr h⟩
theorem has_take {w : World} {S : Nat → Prop} {e : TypeId} {size n cap : Nat} {a : Option Addr} {xs : List Value} (h : Has w S e size (.slice a n cap) n xs) (p : Nat) (hp : p ≤ n) :
    (a = none → p = 0) ∧ ∀ w', Below w.heap.size w w' → ∀ ad, a = some ad → ∀ (j : Nat) (u : Value), (xs.take (p * size))[j]? = some u → w'.cell? (ad.add j) = some u := by
  rcases h.2 with ⟨e1, rfl⟩ | ⟨g, cap', cur, e1, hS, hg, _⟩
  · cases e1
    exact ⟨fun _ => (by omega), fun w' _ ad e => (by cases e)⟩
  · cases e1
    refine ⟨fun e => (by cases e), fun w' hB ad e j u hu => ?_⟩
    cases e
    rw [add1, Nat.zero_add]
    refine (hB.cell (p := ⟨g, j, none⟩) (Array.getElem?_eq_some_iff.1 hg).1).trans (h.cells rfl j u ?_)
    rw [List.getElem?_take] at hu
    split at hu
    · exact hu
    · cases hu
theorem has_drop {w : World} {S : Nat → Prop} {e : TypeId} {size n cap : Nat} {a : Option Addr} {xs : List Value} (h : Has w S e size (.slice a n cap) n xs) (p : Nat) (hp : p ≤ n) (b : Option Addr) (hb : p = n ∨ b = a.map (·.add (p * size))) :
    (b = none → n - p = 0) ∧ ∀ w', Below w.heap.size w w' → ∀ ad, b = some ad → ∀ (j : Nat) (u : Value), (xs.drop (p * size))[j]? = some u → w'.cell? (ad.add j) = some u := by
  have hl := h.1
  rcases hb with rfl | rfl
  · refine ⟨fun _ => by omega, fun w' _ ad _ j u hu => ?_⟩
    rw [List.drop_of_length_le (by omega)] at hu
    simp at hu
  · rcases h.2 with ⟨e1, rfl⟩ | ⟨g, cap', cur, e1, hS, hg, _⟩
    · cases e1
      exact ⟨fun _ => (by omega), fun w' _ ad e => (by cases e)⟩
    · cases e1
      refine ⟨fun e => (by cases e), fun w' hB ad e j u hu => ?_⟩
      simp only [Option.map_some, Option.some.injEq] at e
      subst e
      rw [add1, add1, Nat.zero_add]
      refine (hB.cell (p := ⟨g, p * size + j, none⟩) (Array.getElem?_eq_some_iff.1 hg).1).trans (h.cells rfl (p * size + j) u ?_)
      rw [List.getElem?_drop] at hu
      exact hu
theorem ints_take (l : List Int) (p : Nat) : (ints l).take (p * 1) = ints (l.take p) := by simp [ints, List.map_take]
theorem ints_drop (l : List Int) (p : Nat) : (ints l).drop (p * 1) = ints (l.drop p) := by simp [ints, List.map_drop]
theorem own_ge {a : Nat} {v : Value} {g : Nat} {n cap : Nat} {o : Obj} {w6 : World} (h6 : ∀ k, v.ownBlock = some k → k = a) (h7 : v.ownBlock = some g ∨ g = (w6.drew.alloc o).heap.size) (hs : a ≤ w6.heap.size) : ∀ k, (Value.slice (some ⟨g, 0, none⟩) n cap).ownBlock = some k → a ≤ k := fun k hk => by
  simp [Value.ownBlock] at hk
  subst hk
  rcases h7 with h | h
  · exact Nat.le_of_eq (h6 _ h).symm
  · simp at h; omega
theorem ins_eq {l : List Int} {p : Nat} {k : Int} (h : p = plc l k) (hp : p ≤ l.length) : p + 1 + (l.length - p) = (insL l k).length ∧ ints (l.take p) ++ [.int .i64 k] ++ ints (l.drop p) = ints (insL l k) := by
  subst h
  refine ⟨by simp [insL]; omega, by simp [insL, ints]⟩
theorem news_one (w : World) (o : Obj) (arg : Int) (ho : o = .cells #[.int .i64 arg] 3 (0, 0)) : ∀ (j : Nat) (u : Value), ([.int .i64 arg] : List Value)[j]? = some u → (w.alloc o).cell? ((⟨w.heap.size, 0, none⟩ : Addr).add j) = some u := fun j u hu => by
  subst ho
  match j, hu with
  | 0, hu => simp at hu; subst hu; rw [add1]; exact cell_blk (new_at w _ _ rfl) 0
  | j + 1, hu => simp at hu
theorem add_pos (a : Option Addr) (n : Nat) : Option.map (fun x : Addr => { block := x.block, off := x.off + (n + 1) }) a = Option.map (fun x => x.add (n + 1)) a := by cases a <;> simp [Addr.add]
theorem del_eq {l : List Int} {p : Nat} {k : Int} (h : p = plc l k) (hp : p < l.length) : p + (l.length - (p + 1)) = (delL l k).length ∧ ints (l.take p) ++ ints (l.drop (p + 1)) = ints (delL l k) := by
  subst h
  refine ⟨by simp [delL]; omega, by simp [delL, ints]⟩
theorem prs_take (l : List (Int × Int)) (p : Nat) : (prs l).take (p * 2) = prs (l.take p) := by
  induction l generalizing p with
  | nil => simp [prs]
  | cons x l ih =>
    cases p with
    | zero => simp [prs]
    | succ p =>
      have := ih p
      simp only [prs, pr, List.flatMap_cons, List.take_succ_cons] at this ⊢
      rw [show (p + 1) * 2 = p * 2 + 2 from by omega]
      simp [this]
theorem prs_drop (l : List (Int × Int)) (p : Nat) : (prs l).drop (p * 2) = prs (l.drop p) := by
  induction l generalizing p with
  | nil => simp [prs]
  | cons x l ih =>
    cases p with
    | zero => simp [prs]
    | succ p =>
      have := ih p
      simp only [prs, pr, List.flatMap_cons, List.drop_succ_cons] at this ⊢
      rw [show (p + 1) * 2 = p * 2 + 2 from by omega]
      simp [this]
theorem insT_eq {l : List (Int × Int)} {p : Nat} {k d : Int} (h : p = plc (l.map Prod.fst) k) (hp : p ≤ l.length) : p + 1 + (l.length - p) = (insT l k d).length ∧ prs (l.take p) ++ [.int .i64 k, .int .i64 d] ++ prs (l.drop p) = prs (insT l k d) := by
  subst h
  refine ⟨by simp [insT, keysOf] at hp ⊢; omega, by simp [insT, prs, pr, keysOf]⟩
theorem delT_eq {l : List (Int × Int)} {p : Nat} {k : Int} (h : p = plc (l.map Prod.fst) k) (hp : p < l.length) : p + (l.length - (p + 1)) = (delT l k).length ∧ prs (l.take p) ++ prs (l.drop (p + 1)) = prs (delT l k) := by
  subst h
  refine ⟨by simp [delT, keysOf] at hp ⊢; omega, by simp [delT, prs, keysOf]⟩
theorem news_pr (w : World) (o : Obj) (arg data : Int) (ho : o = .cells #[.int .i64 arg, .int .i64 data] 71 (0, 0)) : ∀ (j : Nat) (u : Value), ([.int .i64 arg, .int .i64 data] : List Value)[j]? = some u → (w.alloc o).cell? ((⟨w.heap.size, 0, none⟩ : Addr).add j) = some u := fun j u hu => by
  subst ho
  match j, hu with
  | 0, hu => simp at hu; subst hu; rw [add1]; exact cell_blk (new_at w _ _ rfl) 0
  | 1, hu => simp at hu; subst hu; rw [add1]; exact cell_blk (new_at w _ _ rfl) 1
  | j + 2, hu => simp at hu
theorem plcT_le (l : List (Int × Int)) (k : Int) : plc (l.map Prod.fst) k ≤ l.length := by have := plc_le (l.map Prod.fst) k; simpa using this
theorem inT_lt {l : List (Int × Int)} {k : Int} (h : inB (keysOf l) k = true) : plc (l.map Prod.fst) k < l.length := by have := inB_lt h; simpa [keysOf] using this











end Go.Proofs.Ytglohochdgeonaa.Md
