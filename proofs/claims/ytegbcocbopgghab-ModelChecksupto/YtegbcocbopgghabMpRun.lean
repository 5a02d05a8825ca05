/-
  Builtins by their runs; pieces of rows.
-/
import Derived.Test.YtegbcocbopgghabMpClone
import Derived.Deep.RegionLaw
namespace Go.Proofs.Ytegbcocbopgghab.Md
open Go.RowKit Mr
set_option linter.unusedVariables false
section
variable {P : Program} (w : World)
theorem wp_run2 {o : Oper} {a : Act} {K : Act → World → Prop} {Q : Exit → Act → World → Prop} (s x : Operand) (t t' : TypeId) (v u v' : Value) (w' : World)
    (ho : o.op = .call { callee := .builtin .append, args := #[s, x], argTypes := #[t, t'] }) (hs : a.eval s = v) (hx : a.eval x = u) (hr : (Builtin.append_ #[t, t'] o.type #[v, u]).run P w = .ok v' w') (h : K (a.put o.dst v') w') : o.wp P a w K Q := by
  unfold Oper.wp execOp
  simp only [ho, resolve, invoke, builtin, Sem.run_bind, Sem.run_pure, Result.andThen_ok, List.map_toArray, List.map_cons, List.map_nil, hs, hx, hr]
  exact h
theorem step_run2 {ops : Array Oper} {o : Oper} {a : Act} {K : Act → World → Prop} {Q : Exit → Act → World → Prop} {E : Prop} (hgd : o.guard = none) (s x : Operand) (t t' : TypeId) (v u v' : Value) (w' : World)
    (ho : o.op = .call { callee := .builtin .append, args := #[s, x], argTypes := #[t, t'] }) (hs : a.eval s = v) (hx : a.eval x = u) (hr : (Builtin.append_ #[t, t'] o.type #[v, u]).run P w = .ok v' w') (h : K (a.put o.dst v') w') :
    if Region.wanted o (yielded ops a.tmps) = true then Oper.wp P o a w K Q else E := by
  have hw : Region.wanted o (yielded ops a.tmps) = true := by simp [Region.wanted, hgd]
  rw [if_pos hw]
  exact wp_run2 w s x t t' v u v' w' ho hs hx hr h
theorem wpList_run2 {ops : Array Oper} {rest : List Oper} {o : Oper} {a : Act} {Q : Exit → Act → World → Prop} (hgd : o.guard = none) (s x : Operand) (t t' : TypeId) (v u v' : Value) (w' : World)
    (ho : o.op = .call { callee := .builtin .append, args := #[s, x], argTypes := #[t, t'] }) (hs : a.eval s = v) (hx : a.eval x = u) (hr : (Builtin.append_ #[t, t'] o.type #[v, u]).run P w = .ok v' w') (h : wpList P ops Q rest (a.put o.dst v') w') : wpList P ops Q (o :: rest) a w :=
  wpList_plain hgd fun _ hK => wp_run2 w s x t t' v u v' w' ho hs hx hr (hK _ _ h)
theorem wp_copy2 {o : Oper} {a : Act} {K : Act → World → Prop} {Q : Exit → Act → World → Prop} (s x : Operand) (t t' : TypeId) (v u v' : Value) (w' : World)
    (ho : o.op = .call { callee := .builtin .copy, args := #[s, x], argTypes := #[t, t'] }) (hs : a.eval s = v) (hx : a.eval x = u) (hr : (Builtin.copy_ #[t, t'] o.type #[v, u]).run P w = .ok v' w') (h : K (a.put o.dst v') w') : o.wp P a w K Q := by
  unfold Oper.wp execOp
  simp only [ho, resolve, invoke, builtin, Sem.run_bind, Sem.run_pure, Result.andThen_ok, List.map_toArray, List.map_cons, List.map_nil, hs, hx, hr]
  exact h
theorem step_copy2 {ops : Array Oper} {o : Oper} {a : Act} {K : Act → World → Prop} {Q : Exit → Act → World → Prop} {E : Prop} (hgd : o.guard = none) (s x : Operand) (t t' : TypeId) (v u v' : Value) (w' : World)
    (ho : o.op = .call { callee := .builtin .copy, args := #[s, x], argTypes := #[t, t'] }) (hs : a.eval s = v) (hx : a.eval x = u) (hr : (Builtin.copy_ #[t, t'] o.type #[v, u]).run P w = .ok v' w') (h : K (a.put o.dst v') w') :
    if Region.wanted o (yielded ops a.tmps) = true then Oper.wp P o a w K Q else E := by
  have hw : Region.wanted o (yielded ops a.tmps) = true := by simp [Region.wanted, hgd]
  rw [if_pos hw]
  exact wp_copy2 w s x t t' v u v' w' ho hs hx hr h
theorem wpList_copy2 {ops : Array Oper} {rest : List Oper} {o : Oper} {a : Act} {Q : Exit → Act → World → Prop} (hgd : o.guard = none) (s x : Operand) (t t' : TypeId) (v u v' : Value) (w' : World)
    (ho : o.op = .call { callee := .builtin .copy, args := #[s, x], argTypes := #[t, t'] }) (hs : a.eval s = v) (hx : a.eval x = u) (hr : (Builtin.copy_ #[t, t'] o.type #[v, u]).run P w = .ok v' w') (h : wpList P ops Q rest (a.put o.dst v') w') : wpList P ops Q (o :: rest) a w :=
  wpList_plain hgd fun _ hK => wp_copy2 w s x t t' v u v' w' ho hs hx hr (hK _ _ h)
theorem wpList_clear1 {ops : Array Oper} {rest : List Oper} {o : Oper} {a : Act} {Q : Exit → Act → World → Prop} (hgd : o.guard = none) (s : Operand) (t : TypeId) (v v' : Value) (w' : World)
    (ho : o.op = .call { callee := .builtin .clear, args := #[s], argTypes := #[t] }) (hs : a.eval s = v) (hr : (Builtin.clear_ #[t] o.type #[v]).run P w = .ok v' w') (h : wpList P ops Q rest (a.put o.dst v') w') : wpList P ops Q (o :: rest) a w :=
  wpList_plain hgd fun _ hK => by
    unfold Oper.wp execOp
    simp only [ho, resolve, invoke, builtin, Sem.run_bind, Sem.run_pure, Result.andThen_ok, List.map_toArray, List.map_cons, List.map_nil, hs, hr]
    exact hK _ _ h
end
/-- What lies from o on, k cells, where p and all behind it was written. -/
theorem seg_keep (cur zs : List Value) (o k p q : Nat) (h : o + k ≤ p) (hp : p ≤ cur.length) : ((cur.take p ++ zs ++ cur.drop q).drop o).take k = (cur.drop o).take k := by
  rw [List.append_assoc, List.drop_append_of_le_length (by rw [List.length_take]; omega), List.take_append_of_le_length (by rw [List.length_drop, List.length_take]; omega), List.drop_take, List.take_take, Nat.min_eq_left (by omega)]
theorem seg_take (cur xs : List Value) (o k m : Nat) (hx : (cur.drop o).take k = xs) (hm : m ≤ k) : (cur.drop o).take m = xs.take m := by
  rw [← hx, List.take_take, Nat.min_eq_left hm]
theorem seg_size (cur zs : List Value) (p : Nat) (h : p + zs.length ≤ cur.length) : (cur.take p ++ zs ++ cur.drop (p + zs.length)).length = cur.length := by
  simp; omega
theorem ints_cut (l : List Int) (i : Nat) : (ints l).take (i * 1) ++ (ints l).drop ((i + 1) * 1) = ints (l.take i ++ l.drop (i + 1)) := by simp [ints]
theorem prsM_take (l : List (Int × Int)) (i : Nat) : (prs l).take (i * 2) = prs (l.take i) := by
  induction l generalizing i with
  | nil => simp [prs]
  | cons x l ih =>
    cases i with
    | zero => simp [prs]
    | succ i =>
      have := ih i
      simp only [prs, List.flatMap_cons, pr] at this ⊢
      rw [show (i + 1) * 2 = i * 2 + 2 from by omega]
      simp only [List.cons_append, List.nil_append, List.take_succ_cons, List.flatMap_cons, pr]
      rw [this]
theorem prsM_drop (l : List (Int × Int)) (i : Nat) : (prs l).drop (i * 2) = prs (l.drop i) := by
  induction l generalizing i with
  | nil => simp [prs]
  | cons x l ih =>
    cases i with
    | zero => simp [prs]
    | succ i =>
      have := ih i
      simp only [prs, List.flatMap_cons, pr] at this ⊢
      rw [show (i + 1) * 2 = i * 2 + 2 from by omega]
      simp only [List.cons_append, List.nil_append, List.drop_succ_cons]
      exact this
theorem prs_app (l m : List (Int × Int)) : prs l ++ prs m = prs (l ++ m) := by simp [prs]
theorem prs_cut (l : List (Int × Int)) (i : Nat) : (prs l).take (i * 2) ++ (prs l).drop ((i + 1) * 2) = prs (l.take i ++ l.drop (i + 1)) := by
  rw [prsM_take, prsM_drop, prs_app]
end Go.Proofs.Ytegbcocbopgghab.Md
