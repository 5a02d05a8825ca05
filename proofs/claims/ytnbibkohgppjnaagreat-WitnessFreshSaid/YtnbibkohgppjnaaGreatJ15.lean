import Derived.Test.YtnbibkohgppjnaaGreatJ09
import Derived.Test.YtnbibkohgppjnaaGreatJ14
import Derived.Deep.LoopGhost
import Derived.Deep.CutRange
import Derived.Deep.MidRow
set_option linter.unusedVariables false
set_option linter.unusedSimpArgs false
set_option maxRecDepth 100000
namespace Go.Proofs.YtnbibkohgppjnaaGreat.Ws
open Go.RowKit Mr Md
def lsi (x : Ct) (i : Nat) : List Int := match i with | 0 => x.cell | 1 => x.stack | 2 => x.queue | 3 => x.set | _ => []
def sgp (P : Nat) (x : Ct) : Nat → List Int
 | 0 => [(P : Int)]
 | i + 1 => sgp P x i ++ [((lsi x i).length : Int)] ++ lsi x i
theorem sgp_len (P : Nat) (x : Ct) : ∀ i, (sgp P x i).length ≤ 1 + i + (x.cell.length + x.stack.length + x.queue.length + x.set.length) := by
 have : (sgp P x 1).length = 2 + x.cell.length := by simp [sgp, lsi]; omega
 have h2 : (sgp P x 2).length = 3 + x.cell.length + x.stack.length := by rw [sgp]; simp [this, lsi]; omega
 have h3 : (sgp P x 3).length = 4 + x.cell.length + x.stack.length + x.queue.length := by rw [sgp]; simp [h2, lsi]; omega
 have h4 : (sgp P x 4).length = 5 + x.cell.length + x.stack.length + x.queue.length + x.set.length := by rw [sgp]; simp [h3, lsi]; omega
 have h5 : ∀ j, (sgp P x (4 + j)).length = 5 + x.cell.length + x.stack.length + x.queue.length + x.set.length + j := by
  intro j
  induction j with
  | zero => exact h4
  | succ j ih =>
   rw [show 4 + (j + 1) = (4 + j) + 1 from rfl, sgp, List.length_append, List.length_append, ih, show lsi x (4 + j) = [] from by rw [show 4 + j = j + 4 from by omega]; rfl]
   simp; omega
 intro i
 match i with
 | 0 => simp [sgp]
 | 1 => omega
 | 2 => omega
 | 3 => omega
 | i + 4 => have := h5 i; rw [show 4 + i = i + 4 from by omega] at this; omega
theorem sgp_sg0 (P : Nat) (x : Ct) : sg0 P x = sgp P x 4 ++ [(x.table.length : Int)] ++ flt x.table := by
 simp [sg0, pc, sgp, lsi]
theorem flt_snoc (t : List (Int × Int)) (i : Nat) (h : i < t.length) : flt (t.take (i + 1)) = flt (t.take i) ++ [(t[i]?.getD (0, 0)).1, (t[i]?.getD (0, 0)).2] := by
 rw [List.take_add_one, flt, List.flatMap_append, List.getElem?_eq_getElem h]
 simp [flt]
def stO (P : Nat) (v0 v1 v2 v3 v4 : Value) : Obj := .cells #[gv P, v0, v1, v2, v3, v4] 57 (0, 0)
structure Sg (w W : World) (S0 : Obj) (k : Nat) (xs : List Int) : Prop where
 box : W.heap[w.heap.size]? = some S0
 res : ∃ cur, W.heap[w.heap.size + 1]? = some (.cells cur 73 (0, 0)) ∧ cur.size = 22
 pt : Pt W (w.heap.size + 2) (w.heap.size + 3) k xs
 bl : Below w.heap.size w W
theorem Sg.put {w W W' : World} {S0 : Obj} {k k' : Nat} {xs xs' : List Int} (h : Sg w W S0 k xs) (hp : Pt W' (w.heap.size + 2) (w.heap.size + 3) k' xs') (hf : Fr W W' (fun b => b = w.heap.size + 2 ∨ b = w.heap.size + 3)) : Sg w W' S0 k' xs' := by
 have hl : w.heap.size + 3 < W.heap.size := by obtain ⟨v, t, hb⟩ := h.pt.box; exact (Array.getElem?_eq_some_iff.1 hb).1
 obtain ⟨cur, hc, hs⟩ := h.res
 exact ⟨(hf.block _ (by omega) (by omega)).trans h.box, ⟨cur, (hf.block _ (by omega) (by omega)).trans hc, hs⟩, hp, h.bl.trans (hf.below (fun k hk => by omega) (by omega))⟩
theorem Sg.more {w W W' : World} {S0 : Obj} {k : Nat} {xs : List Int} (h : Sg w W S0 k xs) (hf : Below W.heap.size W W') : Sg w W' S0 k xs := by
 have hl : w.heap.size + 3 < W.heap.size := by obtain ⟨v, t, hb⟩ := h.pt.box; exact (Array.getElem?_eq_some_iff.1 hb).1
 obtain ⟨cur, hc, hs⟩ := h.res
 obtain ⟨p1, ⟨pc, pt, p2, p3⟩, p4, p5, ⟨pv, pt', p6⟩, p7⟩ := h.pt
 exact ⟨(hf.block _ (by omega)).trans h.box, ⟨cur, (hf.block _ (by omega)).trans hc, hs⟩, ⟨p1, ⟨pc, pt, (hf.block _ (by omega)).trans p2, p3⟩, p4, fun e => (hf.cell (p := ⟨_, 0, none⟩) (by show _ < _; omega)).trans (p5 e), ⟨pv, pt', (hf.block _ (by omega)).trans p6⟩, p7⟩, h.bl.trans (hf.mono (by omega))⟩
theorem putl {w W : World} {S0 : Obj} {k : Nat} {xs ys : List Int} {T : Nat → Prop} {v : Value} (h : Sg w W S0 k xs) (hk : k < 22) (hy : k + ys.length ≤ 22) (hs : Sl W T 1 v ys.length (ints ys)) :
  Calls Tryz.prog 48 #[v, .pointer (some ⟨w.heap.size + 1 + 1 + 1, 0, none⟩)] W fun e w' => e = .returned (.tuple #[]) ∧ Sg w w' S0 (k + ys.length) (xs ++ ys) ∧ Fr W w' (fun b => b = w.heap.size + 2 ∨ b = w.heap.size + 3) :=
 (put_any h.pt hk hy hs).mono (fun e w' ⟨h1, h2, h3⟩ => ⟨h1, h.put h2 h3, h3⟩)
theorem new_row (W : World) (ys : List Int) : Sl (W.alloc (.cells (ints ys).toArray 3 (0, 0))) (fun _ => True) 1 (.slice (some ⟨W.heap.size, 0, none⟩) ys.length ys.length) ys.length (ints ys) := by
 refine ⟨by simp [ints], _, _, rfl, Nat.le_refl _, .inr ⟨_, _, rfl, trivial, by simp, fun j u hu => ?_⟩⟩
 unfold World.cell?
 rw [heap_alloc_new]
 simpa using hu
theorem put1 {w W : World} {S0 : Obj} {k : Nat} {xs : List Int} (h : Sg w W S0 k xs) (hk : k < 22) (n : Int) :
  Calls Tryz.prog 48 #[.slice (some ⟨W.heap.size, 0, none⟩) 1 1, .pointer (some ⟨w.heap.size + 1 + 1 + 1, 0, none⟩)] (W.alloc (.cells #[.int .i64 n] 3 (0, 0))) fun e w' => e = .returned (.tuple #[]) ∧ Sg w w' S0 (k + 1) (xs ++ [n]) ∧ Fr W w' (fun b => b = w.heap.size + 2 ∨ b = w.heap.size + 3) :=
 (putl (ys := [n]) (h.more ((Below.refl _ _).alloc (Nat.le_refl _) _)) hk (by simp; omega) (new_row W [n])).mono (fun e w' ⟨h1, h2, h3⟩ => ⟨h1, h2, ((Fr.refl W (fun b => b = w.heap.size + 2 ∨ b = w.heap.size + 3)).alloc _).trans (h3.mono (fun _ h => .inl h))⟩)
theorem put2 {w W : World} {S0 : Obj} {k : Nat} {xs : List Int} (h : Sg w W S0 k xs) (hk : k + 2 ≤ 22) (n m : Int) :
  Calls Tryz.prog 48 #[.slice (some ⟨W.heap.size, 0, none⟩) 2 2, .pointer (some ⟨w.heap.size + 1 + 1 + 1, 0, none⟩)] (W.alloc (.cells #[.int .i64 n, .int .i64 m] 3 (0, 0))) fun e w' => e = .returned (.tuple #[]) ∧ Sg w w' S0 (k + 2) (xs ++ [n, m]) ∧ Fr W w' (fun b => b = w.heap.size + 2 ∨ b = w.heap.size + 3) :=
 (putl (ys := [n, m]) (h.more ((Below.refl _ _).alloc (Nat.le_refl _) _)) (by omega) (by simp; omega) (new_row W [n, m])).mono (fun e w' ⟨h1, h2, h3⟩ => ⟨h1, h2, ((Fr.refl W (fun b => b = w.heap.size + 2 ∨ b = w.heap.size + 3)).alloc _).trans (h3.mono (fun _ h => .inl h))⟩)
theorem sg_begin {w : World} (S0 : Obj) : Sg w ((((w.alloc S0).alloc (.cells (ints (List.replicate 22 0)).toArray 73 (0, 0))).alloc (.cells (ints (List.replicate 22 0)).toArray 73 (0, 0))).alloc (.cells #[.slice (some ⟨w.heap.size + 1 + 1, 0, none⟩) 22 22] 24 (0, 0))) S0 0 [] := by
 refine ⟨?_, ⟨(ints (List.replicate 22 0)).toArray, ?_, by simp [ints]⟩, ⟨rfl, ⟨(ints (List.replicate 22 0)).toArray, 73, ?_, ?_⟩, by omega, fun _ => ?_, ⟨.slice (some ⟨w.heap.size + 1 + 1, 0, none⟩) 22 22, 24, ?_⟩, by omega⟩, ?_⟩
 ·rw [heap_alloc_old _ _ (by simp; omega), heap_alloc_old _ _ (by simp; omega), heap_alloc_old _ _ (by simp), heap_alloc_new]
 ·rw [heap_alloc_old _ _ (by simp), heap_alloc_old _ _ (by simp)]
  exact new_at _ _ _ (by simp)
 ·rw [heap_alloc_old _ _ (by simp)]
  exact new_at _ _ _ (by simp)
 ·rfl
 ·have : ∀ (W : World) (o : Obj) (b : Nat) (v : Value), b = W.heap.size → o = .cells #[v] 24 (0, 0) → (W.alloc o).cell? ⟨b, 0, none⟩ = some v := by
   rintro W o b v rfl rfl
   unfold World.cell?
   rw [heap_alloc_new]; rfl
  exact this _ _ _ _ (by simp) rfl
 ·exact new_at _ _ _ (by simp)
 ·exact ((((Below.refl _ _).alloc (Nat.le_refl _) _).alloc (by simp) _).alloc (by simp; omega) _).alloc (by simp; omega) _
structure Lq (w w1 W : World) (T : Nat → Prop) (S0 : Obj) (P : Nat) (x : Ct) (i : Nat) : Prop where
 sg : Sg w W S0 (sgp P x i).length (sgp P x i)
 row : ∀ j, j < 4 → ∃ a c, W.cell? ⟨w1.heap.size, j, none⟩ = some (.slice a (lsi x j).length c) ∧ Sl w T 1 (.slice a (lsi x j).length c) (lsi x j).length (ints (lsi x j))
 lt : w.heap.size + 3 < w1.heap.size ∧ w1.heap.size < W.heap.size
theorem Lq.begin {w w1 : World} {T : Nat → Prop} {S0 : Obj} {P : Nat} {x : Ct} {a0 a1 a2 a3 : Option Addr} {c0 c1 c2 c3 : Nat} {v4 : Value} (hx : CtAt w T (.slice a0 x.cell.length c0) (.slice a1 x.stack.length c1) (.slice a2 x.queue.length c2) (.slice a3 x.set.length c3) v4 x) (h : Sg w w1 S0 1 [(P : Int)]) :
  Lq w w1 (w1.alloc (.cells #[.slice a0 x.cell.length c0, .slice a1 x.stack.length c1, .slice a2 x.queue.length c2, .slice a3 x.set.length c3] 24 (0, 0))) T S0 P x 0 := by
 have hl : w.heap.size + 3 < w1.heap.size := by obtain ⟨v, t, hb⟩ := h.pt.box; exact (Array.getElem?_eq_some_iff.1 hb).1
 refine ⟨h.more ((Below.refl _ _).alloc (Nat.le_refl _) _), fun j hj => ?_, hl, by simp⟩
 have hc : ∀ (j : Nat) (v : Value), (#[Value.slice a0 x.cell.length c0, .slice a1 x.stack.length c1, .slice a2 x.queue.length c2, .slice a3 x.set.length c3] : Array Value)[j]? = some v → (w1.alloc (.cells #[.slice a0 x.cell.length c0, .slice a1 x.stack.length c1, .slice a2 x.queue.length c2, .slice a3 x.set.length c3] 24 (0, 0))).cell? ⟨w1.heap.size, j, none⟩ = some v := by
  intro j v hv
  unfold World.cell?
  rw [heap_alloc_new]
  exact hv
 match j, hj with
 | 0, _ => exact ⟨a0, c0, hc 0 _ rfl, hx.cell⟩
 | 1, _ => exact ⟨a1, c1, hc 1 _ rfl, hx.stack⟩
 | 2, _ => exact ⟨a2, c2, hc 2 _ rfl, hx.queue⟩
 | 3, _ => exact ⟨a3, c3, hc 3 _ rfl, hx.set⟩
theorem Lq.next {w w1 W W2 W3 : World} {T : Nat → Prop} {S0 : Obj} {P : Nat} {x : Ct} {i : Nat} (h : Lq w w1 W T S0 P x i) (f2 : Fr W W2 (fun b => b = w.heap.size + 2 ∨ b = w.heap.size + 3)) (f3 : Fr W2 W3 (fun b => b = w.heap.size + 2 ∨ b = w.heap.size + 3)) (hs : Sg w W3 S0 ((sgp P x i).length + 1 + (lsi x i).length) (sgp P x i ++ [((lsi x i).length : Int)] ++ lsi x i)) : Lq w w1 W3 T S0 P x (i + 1) := by
 have hF := f2.trans (f3.mono (fun _ h => .inl h))
 have h1 := h.lt
 refine ⟨by rw [sgp]; simpa [Nat.add_assoc, Nat.add_comm, Nat.add_left_comm] using hs, fun j hj => ?_, h1.1, Nat.lt_of_lt_of_le h1.2 hF.size⟩
 obtain ⟨a, c, hc, hsl⟩ := h.row j hj
 refine ⟨a, c, ?_, hsl⟩
 rw [← hc]
 have := hF.block w1.heap.size h1.2 (by omega)
 simp [World.cell?, this]
def sgq (P : Nat) (x : Ct) (i : Nat) : List Int := sgp P x 4 ++ [(x.table.length : Int)] ++ flt (x.table.take i)
theorem sgq_len (P : Nat) (x : Ct) (i : Nat) (hi : i ≤ x.table.length) : (sgq P x i).length ≤ 6 + 2 * i + (x.cell.length + x.stack.length + x.queue.length + x.set.length) := by
 have := sgp_len P x 4
 unfold sgq
 rw [List.length_append, List.length_append, flt_len, List.length_take]
 simp; omega
theorem sgq_snoc (P : Nat) (x : Ct) (i : Nat) (h : i < x.table.length) : sgq P x (i + 1) = sgq P x i ++ [(x.table[i]?.getD (0, 0)).1, (x.table[i]?.getD (0, 0)).2] := by
 unfold sgq; rw [flt_snoc _ _ h]; simp
theorem sgq_all (P : Nat) (x : Ct) : sgq P x x.table.length = sg0 P x := by
 unfold sgq; rw [sgp_sg0, List.take_length]
theorem Sg.range {w W : World} {S0 : Obj} {P : Nat} {x : Ct} (h : Sg w W S0 (sg0 P x).length (sg0 P x)) : W.rangeAt (w.heap.size + 1 + 1) 0 (ints (sgt P x)) := by
 obtain ⟨cur, t, h1, h2⟩ := h.pt.arr
 intro j v hv
 unfold World.cell?
 rw [show w.heap.size + 1 + 1 = w.heap.size + 2 from rfl, h1]
 show cur[0 + j]? = some v
 rw [Nat.zero_add, ← Array.getElem?_toList, h2]
 exact hv
theorem Sg.there {w W : World} {S0 : Obj} {k : Nat} {xs : List Int} (h : Sg w W S0 k xs) : W.there (w.heap.size + 1) 0 22 := by
 obtain ⟨cur, h1, h2⟩ := h.res
 intro j hj
 refine ⟨?_, by simp [World.frozen?, h1]⟩
 unfold World.cell?
 rw [h1]
 show (cur[0 + j]?).isSome = true
 rw [Nat.zero_add, Array.getElem?_eq_getElem (by omega)]; rfl
theorem ints_one' (l : List Int) : ∀ v ∈ ints l, v.oneCell' = true := fun v hv => by
 obtain ⟨n, _, rfl⟩ := List.mem_map.1 hv
 rfl
theorem results_cell1 {fn : Func} {t : Tmp} {ty : TypeId} (h : fn.results = #[.cell t ty]) (tmps : Array Value) (P : Program) (w : World) (ad : Addr) (v : Value) (ha : tmps.getD t undef = .pointer (some ad)) (hl : (loadVar ty ad).run P w = .ok v w) :
  (results fn tmps).run P w = .ok v w := by
 have ha' : tmps[t]?.getD undef = .pointer (some ad) := by rw [← ha]; simp
 simp [results, h, ha', asAddr, hl]
theorem below_cells {n b : Nat} {w : World} : ∀ (vs : List Value) (o : Nat) (W : World), Below n w W → n ≤ b → Below n w (W.setCells b o vs) := by
 intro vs
 induction vs with
 | nil => intro o W h _; exact h
 | cons v vs ih => intro o W h hb; exact ih _ _ (h.setCell (p := ⟨b, o, none⟩) hb v) hb
set_option maxHeartbeats 4000000 in
theorem sight_any {w : World} {T : Nat → Prop} {v0 v1 v2 v3 v4 : Value} {x : Ct} {P : Nat} (hP : P < 256) (hx : CtAt w T v0 v1 v2 v3 v4 x) (hF : Few 8 x) :
  Calls Tryz.prog 31 #[.agg #[gv P, v0, v1, v2, v3, v4]] w fun e w' => e = .returned (.agg (ints (sgt P x)).toArray) ∧ Below w.heap.size w w' := by
 obtain ⟨a0, c0, rfl, h0⟩ := hx.cell.form
 obtain ⟨a1, c1, rfl, h1⟩ := hx.stack.form
 obtain ⟨a2, c2, rfl, h2⟩ := hx.queue.form
 obtain ⟨a3, c3, rfl, h3⟩ := hx.set.form
 obtain ⟨a4, c4, rfl, h4⟩ := hx.table.form
 have hS0 : ∀ W0 : World, W0 = (((w.alloc (stO P (.slice a0 x.cell.length c0) (.slice a1 x.stack.length c1) (.slice a2 x.queue.length c2) (.slice a3 x.set.length c3) (.slice a4 x.table.length c4))).alloc (.cells (ints (List.replicate 22 0)).toArray 73 (0, 0))).alloc (.cells (ints (List.replicate 22 0)).toArray 73 (0, 0))).alloc (.cells #[.slice (some ⟨w.heap.size + 1 + 1, 0, none⟩) 22 22] 24 (0, 0)) → Sg w W0 (stO P (.slice a0 x.cell.length c0) (.slice a1 x.stack.length c1) (.slice a2 x.queue.length c2) (.slice a3 x.set.length c3) (.slice a4 x.table.length c4)) 0 [] := by
  rintro _ rfl
  exact sg_begin _
 replace hS0 := Mr.hid hS0
 unfold gv
 go_enter Tryz.func31, Tryz.ntmps31
 go_upto_region 4 with (fail)
 generalize hW0 : ((((w.alloc _).alloc _).alloc _).alloc _) = W0
 have G0 := Mr.hid (hS0.out W0 hW0.symm)
 clear hW0 hS0
 have b0 : W0.cell? ⟨w.heap.size, 0, none⟩ = some (.int .u64 (P : Int)) := by unfold World.cell?; rw [G0.out.box]; rfl
 have b1 : W0.cell? ⟨w.heap.size, 1, none⟩ = some (.slice a0 x.cell.length c0) := by unfold World.cell?; rw [G0.out.box]; rfl
 go_upto_region 5 with (go_at_call 48; refine (put1 G0.out (by omega) _).mono ?_; rintro e w1 ⟨rfl, G1, F1⟩)
 replace G1 := Mr.hid G1
 have hx1 : Hid (CtAt w1 T (.slice a0 x.cell.length c0) (.slice a1 x.stack.length c1) (.slice a2 x.queue.length c2) (.slice a3 x.set.length c3) (.slice a4 x.table.length c4) x) := hx.below G1.out.bl
 clear F1 G0 b0 b1
 have b1 : w1.cell? ⟨w.heap.size, 1, none⟩ = some (.slice a0 x.cell.length c0) := by unfold World.cell?; rw [G1.out.box]; rfl
 have b2 : w1.cell? ⟨w.heap.size, 2, none⟩ = some (.slice a1 x.stack.length c1) := by unfold World.cell?; rw [G1.out.box]; rfl
 have b3 : w1.cell? ⟨w.heap.size, 3, none⟩ = some (.slice a2 x.queue.length c2) := by unfold World.cell?; rw [G1.out.box]; rfl
 have b4 : w1.cell? ⟨w.heap.size, 4, none⟩ = some (.slice a3 x.set.length c3) := by unfold World.cell?; rw [G1.out.box]; rfl
 have L0 := Mr.hid (Lq.begin hx G1.out)
 go_upto_region 6 with (fail)
 have h22 := hF
 unfold Few at h22
 have hlen := sgp_len P x
 go_loopg [32] 4 (fun gk s32 wr => ∃ i : Nat, s32 = .int .i64 (i : Int) ∧ i + gk = 4 ∧ Lq w w1 wr T (stO P (.slice a0 x.cell.length c0) (.slice a1 x.stack.length c1) (.slice a2 x.queue.length c2) (.slice a3 x.set.length c3) (.slice a4 x.table.length c4)) P x i)
 case atStart => exact ⟨0, rfl, by omega, L0.out⟩
 case round =>
  obtain ⟨i, rfl, hi, L⟩ := hrel
  have hli := hlen i
  by_cases hi4 : i < 4
  ·have hll : (lsi x i).length ≤ 8 ∧ (sgp P x i).length + 1 + (lsi x i).length ≤ 21 := by
    have := hlen (i + 1)
    rw [sgp] at this
    simp only [List.length_append, List.length_cons, List.length_nil] at this
    refine ⟨?_, by omega⟩
    match i, hi4 with
    | 0, _ => show x.cell.length ≤ 8; omega
    | 1, _ => show x.stack.length ≤ 8; omega
    | 2, _ => show x.queue.length ≤ 8; omega
    | 3, _ => show x.set.length ≤ 8; omega
   obtain ⟨a, c, hcell, hsl⟩ := L.row i hi4
   have qi : (0 : Int) ≤ (i : Int) := by omega
   have qj : (i : Int) < 4 := by omega
   have hlt := L.lt.2
   have GL := Mr.hid L.sg
   have NX := Mr.hid (fun W2 W3 => L.next (W2 := W2) (W3 := W3))
   clear L
   generalize sgp P x i = xs0 at *
   generalize lsi x i = ls at *
   generalize hn : ls.length = n at *
   generalize hm : xs0.length = m at *
   replace hsl := Mr.hid hsl
   clear h22 hlen L0 G1 hx1 hF b1 b2 b3 b4
   go_upto_region 9 with (go_at_call 48; refine (put1 GL.out (by omega) _).mono ?_; rintro e w2 ⟨rfl, G2, F2⟩)
   have CP := Mr.hid (putl (ys := ls) G2 (by omega) (by omega) (by rw [hn]; exact hsl.out.below G2.bl))
   replace F2 := Mr.hid F2
   clear G2
   go_wp2_with (go_at_call 48; refine CP.out.mono ?_; rintro e w3 ⟨rfl, G3, F3⟩; replace G3 := Mr.hid G3; replace F3 := Mr.hid F3)
   go_roundg (gk - 1)
   case measure => omega
   case rel => exact ⟨i + 1, by simp, by omega, NX.out _ _ F2.out F3.out (hn ▸ G3.out)⟩
  ·have e4 : i = 4 := by omega
   subst e4
   clear L0 G1 hx1
   have G4 := Mr.hid L.sg
   clear L
   have b5 : wr.cell? ⟨w.heap.size, 5, none⟩ = some (.slice a4 x.table.length c4) := by unfold World.cell?; rw [G4.out.box]; rfl
   go_upto_region 12 with (go_at_call 48; refine (put1 G4.out (by omega) _).mono ?_; rintro e w2 ⟨rfl, G5, F5⟩; replace G5 := Mr.hid G5)
   clear b5 F5
   have b5 : w2.cell? ⟨w.heap.size, 5, none⟩ = some (.slice a4 x.table.length c4) := by unfold World.cell?; rw [G5.out.box]; rfl
   have G6 : Hid (Sg w w2 (stO P (.slice a0 x.cell.length c0) (.slice a1 x.stack.length c1) (.slice a2 x.queue.length c2) (.slice a3 x.set.length c3) (.slice a4 x.table.length c4)) (sgq P x 0).length (sgq P x 0)) := by
    have := G5.out
    show Sg _ _ _ _ _
    simpa [sgq, flt] using this
   go_upto_region 13 with (fail)
   clear G4 G5
   go_loopg [56] x.table.length (fun gk s56 wr => ∃ i : Nat, s56 = .int .i64 (i : Int) ∧ i + gk = x.table.length ∧ Sg w wr (stO P (.slice a0 x.cell.length c0) (.slice a1 x.stack.length c1) (.slice a2 x.queue.length c2) (.slice a3 x.set.length c3) (.slice a4 x.table.length c4)) (sgq P x i).length (sgq P x i))
   case atStart => exact ⟨0, rfl, by omega, G6.out⟩
   case round =>
    obtain ⟨i, rfl, hi, G⟩ := hrel
    clear G6
    by_cases hin : i < x.table.length
    ·have hq := sgq_len P x i (by omega)
     obtain ⟨b, o, cap, hv, hc, hT, hb, hr⟩ := hx.table.there (by omega)
     cases hv
     obtain ⟨g1, g2⟩ := prs_get x.table i hin
     have r1 := (G.bl.cell (p := ⟨b, o + i * 2, none⟩) hb).trans (hr _ _ g1)
     have r2 := (G.bl.cell (p := ⟨b, o + (i * 2 + 1), none⟩) hb).trans (hr _ _ g2)
     have r3 : wr.cell? ⟨b, o + i * 2 + 1, none⟩ = some (.int .i64 (x.table[i]?.getD (0, 0)).2) := by rw [Nat.add_assoc]; exact r2
     have qi : (0 : Int) ≤ (i : Int) := by omega
     have qj : (i : Int) < (x.table.length : Int) := by omega
     have hlt : b < wr.heap.size := Nat.lt_of_lt_of_le hb G.bl.size
     have hsn := sgq_snoc P x i hin
     clear g1 g2 r2
     generalize (x.table[i]?.getD (0, 0)).1 = n1 at *
     generalize (x.table[i]?.getD (0, 0)).2 = n2 at *
     generalize sgq P x i = xs0 at *
     generalize hxs : sgq P x (i + 1) = xs1 at *
     have CP := Mr.hid (put2 (G.more ((Below.refl _ _).alloc (Nat.le_refl _) (.cells #[.int .i64 n1, .int .i64 n2] 92 (0, 0)))) (by omega) n1 n2)
     rw [show (wr.alloc (.cells #[.int .i64 n1, .int .i64 n2] 92 (0, 0))).heap.size = wr.heap.size + 1 from by simp] at CP
     have hi8 : i < 8 := by omega
     clear hr hT hc h22 hlen hx hq G hF
     replace hxs := Mr.hid hxs
     replace hsn := Mr.hid hsn
     go_wp2_with (go_at_call 48; refine CP.out.mono ?_; rintro e w3 ⟨rfl, G3, F3⟩; replace G3 := Mr.hid G3)
     go_roundg (gk - 1)
     case measure => omega
     case rel => exact ⟨i + 1, by simp, by omega, by rw [hxs.out, hsn.out]; simpa using G3.out⟩
    ·obtain rfl : i = x.table.length := by omega
     rw [sgq_all] at G
     have hle : (ints (sgt P x)).length = 22 := by rw [ints, List.length_map]; exact sgt_len hF
     have RG := Mr.hid G.range
     have TH := Mr.hid G.there
     have GB := Mr.hid G.bl
     have h1c := Mr.hid (ints_one' (sgt P x))
     clear G
     generalize hcs : ints (sgt P x) = cs at *
     go_wp2_with (first | (refine wpList_load_mid rfl 73 (.tmp 3) rfl (w.heap.size + 1 + 1) 0 rfl cs (.array 22 3) RG.out (by kernel_rfl) rfl (by rw [hle]; kernel_rfl) ?_) | (refine wpList_store_mid rfl 73 (.tmp 2) (.tmp 68) rfl (w.heap.size + 1) 0 cs.toArray rfl rfl (by simpa [hle] using TH.out) (by simp only [List.size_toArray, hle]; kernel_rfl) (all_oneCell_toArray h1c.out) ?_))
     refine bodyPost_ret (results_cell1 Tryz.results31 _ _ _ ⟨w.heap.size + 1, 0, none⟩ (.agg cs.toArray) rfl (run_loadVar_mid _ _ _ _ cs (.array 22 3) (World.rangeAt_setCells_same _ _ _ _ (by rw [hle]; exact TH.out)) (by kernel_rfl) rfl (by rw [hle]; kernel_rfl))) rfl ?_
     exact ⟨by rw [hcs], below_cells _ _ _ GB.out (by omega)⟩
end Go.Proofs.YtnbibkohgppjnaaGreat.Ws
