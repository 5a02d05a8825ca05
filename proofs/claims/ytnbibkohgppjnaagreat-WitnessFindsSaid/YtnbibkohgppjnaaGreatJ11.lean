import Derived.Test.YtnbibkohgppjnaaGreatJ10
import Derived.Deep.RegionLaw
import Derived.Test.YtnbibkohgppjnaaGreatJ01
set_option linter.unusedVariables false
set_option linter.unusedSimpArgs false
set_option maxRecDepth 100000
namespace Go.Proofs.YtnbibkohgppjnaaGreat.Md
open Go.RowKit Mr
section
variable {P : Program} (w : World)
theorem wp_run2 {o : Oper} {a : Act} {K : Act → World → Prop} {Q : Exit → Act → World → Prop} (s x : Operand) (t t' : TypeId) (v u v' : Value) (w' : World)
  (ho : o.op = .call { callee := .builtin .append, args := #[s, x], argTypes := #[t, t'] }) (hs : a.eval s = v) (hx : a.eval x = u) (hr : (Builtin.append_ #[t, t'] o.type #[v, u]).run P w = .ok v' w') (h : K (a.put o.dst v') w') : o.wp P a w K Q := by
 unfold Oper.wp execOp
 simp only [ho, resolve, invoke, builtin, Sem.run_bind, Sem.run_pure, Result.andThen_ok, List.map_toArray, List.map_cons, List.map_nil, hs, hx, hr]
 exact h
theorem step_run2 {ops : Array Oper} {o : Oper} {a : Act} {K : Act → World → Prop} {Q : Exit → Act → World → Prop} {E : Prop} (hgd : o.guard = none) (s x : Operand) (t t' : TypeId) (v u v' : Value) (w' : World)
  (ho : o.op = .call { callee := .builtin .append, args := #[s, x], argTypes := #[t, t'] }) (hs : a.eval s = v) (hx : a.eval x = u) (hr : (Builtin.append_ #[t, t'] o.type #[v, u]).run P w = .ok v' w') (h : K (a.put o.dst v') w') :
  if Region.wanted o (yielded ops a.tmps) = true then Oper.wp P o a w K Q else E := by
 have hw : Region.wanted o (yielded ops a.tmps) = true := by simp [Region.wanted, hgd]
 rw [if_pos hw]
 exact wp_run2 w s x t t' v u v' w' ho hs hx hr h
theorem wpList_run2 {ops : Array Oper} {rest : List Oper} {o : Oper} {a : Act} {Q : Exit → Act → World → Prop} (hgd : o.guard = none) (s x : Operand) (t t' : TypeId) (v u v' : Value) (w' : World)
  (ho : o.op = .call { callee := .builtin .append, args := #[s, x], argTypes := #[t, t'] }) (hs : a.eval s = v) (hx : a.eval x = u) (hr : (Builtin.append_ #[t, t'] o.type #[v, u]).run P w = .ok v' w') (h : wpList P ops Q rest (a.put o.dst v') w') : wpList P ops Q (o :: rest) a w :=
 wpList_plain hgd fun _ hK => wp_run2 w s x t t' v u v' w' ho hs hx hr (hK _ _ h)
theorem wp_copy2 {o : Oper} {a : Act} {K : Act → World → Prop} {Q : Exit → Act → World → Prop} (s x : Operand) (t t' : TypeId) (v u v' : Value) (w' : World)
  (ho : o.op = .call { callee := .builtin .copy, args := #[s, x], argTypes := #[t, t'] }) (hs : a.eval s = v) (hx : a.eval x = u) (hr : (Builtin.copy_ #[t, t'] o.type #[v, u]).run P w = .ok v' w') (h : K (a.put o.dst v') w') : o.wp P a w K Q := by
 unfold Oper.wp execOp
 simp only [ho, resolve, invoke, builtin, Sem.run_bind, Sem.run_pure, Result.andThen_ok, List.map_toArray, List.map_cons, List.map_nil, hs, hx, hr]
 exact h
theorem step_copy2 {ops : Array Oper} {o : Oper} {a : Act} {K : Act → World → Prop} {Q : Exit → Act → World → Prop} {E : Prop} (hgd : o.guard = none) (s x : Operand) (t t' : TypeId) (v u v' : Value) (w' : World)
  (ho : o.op = .call { callee := .builtin .copy, args := #[s, x], argTypes := #[t, t'] }) (hs : a.eval s = v) (hx : a.eval x = u) (hr : (Builtin.copy_ #[t, t'] o.type #[v, u]).run P w = .ok v' w') (h : K (a.put o.dst v') w') :
  if Region.wanted o (yielded ops a.tmps) = true then Oper.wp P o a w K Q else E := by
 have hw : Region.wanted o (yielded ops a.tmps) = true := by simp [Region.wanted, hgd]
 rw [if_pos hw]
 exact wp_copy2 w s x t t' v u v' w' ho hs hx hr h
end
theorem seg_keep (cur zs : List Value) (o k p q : Nat) (h : o + k ≤ p) (hp : p ≤ cur.length) : ((cur.take p ++ zs ++ cur.drop q).drop o).take k = (cur.drop o).take k := by
 rw [List.append_assoc, List.drop_append_of_le_length (by rw [List.length_take]; omega), List.take_append_of_le_length (by rw [List.length_drop, List.length_take]; omega), List.drop_take, List.take_take, Nat.min_eq_left (by omega)]
theorem seg_take (cur xs : List Value) (o k m : Nat) (hx : (cur.drop o).take k = xs) (hm : m ≤ k) : (cur.drop o).take m = xs.take m := by
 rw [← hx, List.take_take, Nat.min_eq_left hm]
theorem seg_size (cur zs : List Value) (p : Nat) (h : p + zs.length ≤ cur.length) : (cur.take p ++ zs ++ cur.drop (p + zs.length)).length = cur.length := by
 simp; omega
theorem ints_cut (l : List Int) (i : Nat) : (ints l).take (i * 1) ++ (ints l).drop ((i + 1) * 1) = ints (l.take i ++ l.drop (i + 1)) := by simp [ints]
theorem prsM_take (l : List (Int × Int)) (i : Nat) : (prs l).take (i * 2) = prs (l.take i) := by
 induction l generalizing i with
 | nil => simp [prs]
 | cons x l ih =>
  cases i with
  | zero => simp [prs]
  | succ i =>
   have := ih i
   simp only [prs, List.flatMap_cons, pr] at this ⊢
   rw [show (i + 1) * 2 = i * 2 + 2 from by omega]
   simp only [List.cons_append, List.nil_append, List.take_succ_cons, List.flatMap_cons, pr]
   rw [this]
theorem prsM_drop (l : List (Int × Int)) (i : Nat) : (prs l).drop (i * 2) = prs (l.drop i) := by
 induction l generalizing i with
 | nil => simp [prs]
 | cons x l ih =>
  cases i with
  | zero => simp [prs]
  | succ i =>
   have := ih i
   simp only [prs, List.flatMap_cons, pr] at this ⊢
   rw [show (i + 1) * 2 = i * 2 + 2 from by omega]
   simp only [List.cons_append, List.nil_append, List.drop_succ_cons]
   exact this
theorem prs_app (l m : List (Int × Int)) : prs l ++ prs m = prs (l ++ m) := by simp [prs]
theorem prs_cut (l : List (Int × Int)) (i : Nat) : (prs l).take (i * 2) ++ (prs l).drop ((i + 1) * 2) = prs (l.take i ++ l.drop (i + 1)) := by
 rw [prsM_take, prsM_drop, prs_app]
end Go.Proofs.YtnbibkohgppjnaaGreat.Md
namespace Go.Proofs.YtnbibkohgppjnaaGreat.Ws
open Go.RowKit Mr Md
structure Pt (w : World) (A R : Nat) (k : Nat) (xs : List Int) : Prop where
 len : xs.length = k
 arr : ∃ cur t, w.heap[A]? = some (.cells cur t (0, 0)) ∧ cur.toList = ints (xs ++ List.replicate (22 - k) 0)
 le : k ≤ 22
 room : k < 22 → w.cell? ⟨R, 0, none⟩ = some (.slice (some ⟨A, k, none⟩) (22 - k) (22 - k))
 box : ∃ v t, w.heap[R]? = some (.cells #[v] t (0, 0))
 ne : A ≠ R
theorem copy_zero {P : Program} (w : World) (dT sT ty elem : TypeId) (b : Addr) (a : Option Addr) (dLen dCap c : Nat) (hu : P.underlying dT = some (.slice elem)) (hs : ((P.info? elem).map (·.size)).isSome = true) :
  (Builtin.copy_ #[dT, sT] ty #[.slice (some b) dLen dCap, .slice a 0 c]).run P w = .ok (goInt 0) w := by
 cases hq : P.info? elem with
 | none => simp [hq] at hs
 | some i =>
  cases a with
  | none => simp [Builtin.copy_, run_underlying hu, Builtin.lenOf, Builtin.firstCells, sizeOf, typeInfo, hq, storeCells]
  | some a =>
   have := run_loadCells_list (P := P) w a [] (by simp)
   simp at this
   simp [Builtin.copy_, run_underlying hu, Builtin.lenOf, Builtin.firstCells, sizeOf, typeInfo, hq, storeCells, this]
theorem put_list (xs ys : List Int) (k : Nat) (hk : xs.length = k) (hy : k + ys.length ≤ 22) (cur : List Value) (hc : cur = ints (xs ++ List.replicate (22 - k) 0)) :
  cur.take k ++ ints ys ++ cur.drop (k + (ints ys).length) = ints ((xs ++ ys) ++ List.replicate (22 - (k + ys.length)) 0) := by
 subst hc
 have e : (ints ys).length = ys.length := by simp [ints]
 rw [e]
 unfold ints
 rw [← List.map_take, ← List.map_drop, ← List.map_append, ← List.map_append]
 congr 1
 rw [List.take_append_of_le_length (by omega), List.take_of_length_le (by omega), List.drop_append, List.drop_eq_nil_of_le (by omega), List.nil_append, List.drop_replicate]
 congr 2
 omega
theorem put_copy {w : World} {A R k : Nat} {xs ys : List Int} {T : Nat → Prop} {a : Option Addr} {cap : Nat} (h : Pt w A R k xs) (hk : k < 22) (hy : k + ys.length ≤ 22) (hs : Sl w T 1 (.slice a ys.length cap) ys.length (ints ys)) :
  ∃ w1, (∀ ty, (Builtin.copy_ #[24, 24] ty #[.slice (some ⟨A, k, none⟩) (22 - k) (22 - k), .slice a ys.length cap]).run Tryz.prog w = .ok (.int .i64 (ys.length : Int)) w1) ∧
   (∃ cur t, w1.heap[A]? = some (.cells cur t (0, 0)) ∧ cur.toList = ints ((xs ++ ys) ++ List.replicate (22 - (k + ys.length)) 0)) ∧ Fr w w1 (fun b => b = A) := by
 obtain ⟨h1, a', cap', hv, hc, h2⟩ := hs
 cases hv
 obtain ⟨cur, t, hA, hcur⟩ := h.arr
 have hl := h.len
 rcases Nat.eq_zero_or_pos ys.length with h0 | h0
 ·have : ys = [] := List.eq_nil_of_length_eq_zero h0
  subst this
  refine ⟨w, fun ty => copy_zero w _ _ _ 3 _ _ _ _ _ Tryz.underlying24 (by kernel_rfl), ⟨cur, t, hA, ?_⟩, Fr.refl _ _⟩
  simpa using hcur
 ·rcases h2 with h2 | ⟨b, o, rfl, hT, hb, hr⟩
  ·omega
  ·have hcl : cur.size = 22 := by
    rw [← Array.length_toList, hcur]
    simp [ints, hl]; omega
   have hone : ∀ v ∈ ints ys, v.oneCell' = true := fun v hv => by
    obtain ⟨n, _, rfl⟩ := List.mem_map.1 hv
    rfl
   have hrun : ∀ ty, (Builtin.copy_ #[24, 24] ty #[.slice (some ⟨A, k, none⟩) (22 - k) (22 - k), .slice (some ⟨b, o, none⟩) ys.length cap]).run Tryz.prog w = .ok (goInt (ints ys).length) (w.setRow A (cur.toList.take k ++ ints ys ++ cur.toList.drop (k + (ints ys).length)).toArray) := fun ty =>
    run_copy_row Tryz.prog w 24 24 ty 3 A k (22 - k) (22 - k) ⟨b, o, none⟩ ys.length cap cur t (ints ys) Tryz.underlying24 (by kernel_rfl) hA (by rw [h1, Nat.mul_one]; exact (Nat.min_eq_left (by omega)).symm) (fun j v hj => by rw [Addr.add_lit]; exact hr j v hj) (by rw [hcl, h1]; omega) hone
   refine ⟨w.setRow A (cur.toList.take k ++ ints ys ++ cur.toList.drop (k + (ints ys).length)).toArray, fun ty => ?_, ⟨_, t, setRow_heap w A cur _ t _ hA, ?_⟩, setRow_fr (S := fun b => b = A) rfl _⟩
   ·rw [hrun, h1, Nat.mul_one]; rfl
   ·exact put_list xs ys k hl hy cur.toList hcur
theorem put_end {w w1 : World} {A R k m rt : Nat} {xs ys : List Int} {r0 v : Value} (hl : xs.length = k) (hm : ys.length = m) (hy : k + m ≤ 22) (hne : A ≠ R) (hA : ∃ cur t, w1.heap[A]? = some (.cells cur t (0, 0)) ∧ cur.toList = ints ((xs ++ ys) ++ List.replicate (22 - (k + m)) 0)) (hR : w1.heap[R]? = some (.cells #[r0] rt (0, 0))) (hF : Fr w w1 (fun b => b = A)) (hv : k + m < 22 → v = .slice (some ⟨A, k + m, none⟩) (22 - (k + m)) (22 - (k + m))) :
  Pt (w1.setCell ⟨R, 0, none⟩ v) A R (k + m) (xs ++ ys) ∧ Fr w (w1.setCell ⟨R, 0, none⟩ v) (fun b => b = A ∨ b = R) := by
 obtain ⟨cur, t, hA, hc⟩ := hA
 have hb := heap_setCell_same w1 R 0 _ _ v hR
 refine ⟨⟨by simp [hl, hm], ⟨cur, t, (heap_setCell_other w1 _ A v hne).trans hA, hc⟩, hy, fun h => ?_, ⟨v, rt, by simpa using hb⟩, hne⟩, (hF.mono (fun _ h => .inl h)).setCell _ _ (.inl (.inr rfl))⟩
 rw [← hv h]
 exact World.cell?_setCell_same' _ _ _ (by simp [World.cell?, hR])
set_option maxHeartbeats 4000000 in
theorem put_any {w : World} {A R k : Nat} {xs ys : List Int} {T : Nat → Prop} {v : Value} (h : Pt w A R k xs) (hk : k < 22) (hy : k + ys.length ≤ 22) (hs : Sl w T 1 v ys.length (ints ys)) :
  Calls Tryz.prog 48 #[v, .pointer (some ⟨R, 0, none⟩)] w fun e w' => e = .returned (.tuple #[]) ∧ Pt w' A R (k + ys.length) (xs ++ ys) ∧ Fr w w' (fun b => b = A ∨ b = R) := by
 obtain ⟨a, cap, rfl, hc⟩ := hs.form
 have h' : Pt w.drew A R k xs := ⟨h.len, h.arr, h.le, h.room, h.box, h.ne⟩
 have hs' : Sl w.drew T 1 (.slice a ys.length cap) ys.length (ints ys) := hs.below (Below.refl _ _).drew
 obtain ⟨w1, hr, hA1, hF1⟩ := put_copy h' hk hy hs'
 have hR := h.room hk
 obtain ⟨rv, rt, hRb⟩ := h.box
 have hRl : R < w.heap.size := (Array.getElem?_eq_some_iff.1 hRb).1
 obtain rfl : rv = .slice (some ⟨A, k, none⟩) (22 - k) (22 - k) := by
  have : w.cell? ⟨R, 0, none⟩ = some rv := by simp [World.cell?, hRb]
  rw [this] at hR; exact Option.some.inj hR
 have hRb1 : w1.heap[R]? = some (.cells #[.slice (some ⟨A, k, none⟩) (22 - k) (22 - k)] rt (0, 0)) := (hF1.block R hRl (fun e => h.ne e.symm)).trans hRb
 have hR1 : w1.cell? ⟨R, 0, none⟩ = some (.slice (some ⟨A, k, none⟩) (22 - k) (22 - k)) := by simp [World.cell?, hRb1]
 have hRz : w1.frozen? ⟨R, 0, none⟩ = false := by simp [World.frozen?, hRb1]
 have hF0 : Hid (Fr w w1 (fun b => b = A)) := ((Fr.refl w (fun b => b = A)).drew.trans (hF1.mono (fun _ h => .inl h)))
 have hl := h.len
 have hne := h.ne
 replace hr := Mr.hid hr
 replace hA1 := Mr.hid hA1
 replace hRb1 := Mr.hid hRb1
 have qk : 22 - k ≠ 0 := by omega
 clear hs hs' h' hF1 hRb h
 generalize hm : ys.length = m at *
 generalize hL : 22 - k = L at *
 have q1 : (0 : Int) ≤ (m : Int) := by omega
 have q2 : (m : Int) ≤ (L : Int) := by omega
 by_cases e : L = m
 ·subst e
  go_enter Tryz.func48, Tryz.ntmps48
  go_region_law (refine step_copy2 _ rfl (.tmp 4) (.tmp 5) 24 24 (.slice (some ⟨A, k, none⟩) L L) (.slice a L cap) (.int .i64 (L : Int)) w1 rfl (by simp [Act.eval, Act.put]) (by simp [Act.eval, Act.put]) (hr.out _) ?_)
  all_goals go_wp2
  all_goals go_end0
  all_goals exact ⟨rfl, put_end hl hm hy hne hA1.out hRb1.out hF0.out (fun h => by omega)⟩
 ·have e2 : L - m ≠ 0 := by omega
  go_enter Tryz.func48, Tryz.ntmps48
  go_region_law (refine step_copy2 _ rfl (.tmp 4) (.tmp 5) 24 24 (.slice (some ⟨A, k, none⟩) L L) (.slice a m cap) (.int .i64 (m : Int)) w1 rfl (by simp [Act.eval, Act.put]) (by simp [Act.eval, Act.put]) (hr.out _) ?_)
  all_goals go_wp2
  all_goals go_end0
  all_goals exact ⟨rfl, put_end hl hm hy hne hA1.out hRb1.out hF0.out (fun h => by rw [show 22 - (k + m) = L - m from by omega])⟩
end Go.Proofs.YtnbibkohgppjnaaGreat.Ws
