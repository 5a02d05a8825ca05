import Derived.Test.YtegbcocbopgghabJ13
import Derived.Deep.RegionLaw
import Derived.Test.YtegbcocbopgghabJ11
import Derived.Test.YtegbcocbopgghabJ06
/-
  Builtins by their runs; pieces of rows.
-/
namespace Go.Proofs.Ytegbcocbopgghab.Md
open Go.RowKit Mr
set_option linter.unusedVariables false
section
variable {P : Program} (w : World)
theorem wp_run2 {o : Oper} {a : Act} {K : Act → World → Prop} {Q : Exit → Act → World → Prop} (s x : Operand) (t t' : TypeId) (v u v' : Value) (w' : World)
    (ho : o.op = .call { callee := .builtin .append, args := #[s, x], argTypes := #[t, t'] }) (hs : a.eval s = v) (hx : a.eval x = u) (hr : (Builtin.append_ #[t, t'] o.type #[v, u]).run P w = .ok v' w') (h : K (a.put o.dst v') w') : o.wp P a w K Q := by
  unfold Oper.wp execOp
  simp only [ho, resolve, invoke, builtin, Sem.run_bind, Sem.run_pure, Result.andThen_ok, List.map_toArray, List.map_cons, List.map_nil, hs, hx, hr]
  exact h
theorem step_run2 {ops : Array Oper} {o : Oper} {a : Act} {K : Act → World → Prop} {Q : Exit → Act → World → Prop} {E : Prop} (hgd : o.guard = none) (s x : Operand) (t t' : TypeId) (v u v' : Value) (w' : World)
    (ho : o.op = .call { callee := .builtin .append, args := #[s, x], argTypes := #[t, t'] }) (hs : a.eval s = v) (hx : a.eval x = u) (hr : (Builtin.append_ #[t, t'] o.type #[v, u]).run P w = .ok v' w') (h : K (a.put o.dst v') w') :
    if Region.wanted o (yielded ops a.tmps) = true then Oper.wp P o a w K Q else E := by
  have hw : Region.wanted o (yielded ops a.tmps) = true := by simp [Region.wanted, hgd]
  rw [if_pos hw]
  exact wp_run2 w s x t t' v u v' w' ho hs hx hr h
theorem wpList_run2 {ops : Array Oper} {rest : List Oper} {o : Oper} {a : Act} {Q : Exit → Act → World → Prop} (hgd : o.guard = none) (s x : Operand) (t t' : TypeId) (v u v' : Value) (w' : World)
    (ho : o.op = .call { callee := .builtin .append, args := #[s, x], argTypes := #[t, t'] }) (hs : a.eval s = v) (hx : a.eval x = u) (hr : (Builtin.append_ #[t, t'] o.type #[v, u]).run P w = .ok v' w') (h : wpList P ops Q rest (a.put o.dst v') w') : wpList P ops Q (o :: rest) a w :=
  wpList_plain hgd fun _ hK => wp_run2 w s x t t' v u v' w' ho hs hx hr (hK _ _ h)
theorem wp_copy2 {o : Oper} {a : Act} {K : Act → World → Prop} {Q : Exit → Act → World → Prop} (s x : Operand) (t t' : TypeId) (v u v' : Value) (w' : World)
    (ho : o.op = .call { callee := .builtin .copy, args := #[s, x], argTypes := #[t, t'] }) (hs : a.eval s = v) (hx : a.eval x = u) (hr : (Builtin.copy_ #[t, t'] o.type #[v, u]).run P w = .ok v' w') (h : K (a.put o.dst v') w') : o.wp P a w K Q := by
  unfold Oper.wp execOp
  simp only [ho, resolve, invoke, builtin, Sem.run_bind, Sem.run_pure, Result.andThen_ok, List.map_toArray, List.map_cons, List.map_nil, hs, hx, hr]
  exact h
theorem step_copy2 {ops : Array Oper} {o : Oper} {a : Act} {K : Act → World → Prop} {Q : Exit → Act → World → Prop} {E : Prop} (hgd : o.guard = none) (s x : Operand) (t t' : TypeId) (v u v' : Value) (w' : World)
    (ho : o.op = .call { callee := .builtin .copy, args := #[s, x], argTypes := #[t, t'] }) (hs : a.eval s = v) (hx : a.eval x = u) (hr : (Builtin.copy_ #[t, t'] o.type #[v, u]).run P w = .ok v' w') (h : K (a.put o.dst v') w') :
    if Region.wanted o (yielded ops a.tmps) = true then Oper.wp P o a w K Q else E := by
  have hw : Region.wanted o (yielded ops a.tmps) = true := by simp [Region.wanted, hgd]
  rw [if_pos hw]
  exact wp_copy2 w s x t t' v u v' w' ho hs hx hr h
theorem wpList_copy2 {ops : Array Oper} {rest : List Oper} {o : Oper} {a : Act} {Q : Exit → Act → World → Prop} (hgd : o.guard = none) (s x : Operand) (t t' : TypeId) (v u v' : Value) (w' : World)
    (ho : o.op = .call { callee := .builtin .copy, args := #[s, x], argTypes := #[t, t'] }) (hs : a.eval s = v) (hx : a.eval x = u) (hr : (Builtin.copy_ #[t, t'] o.type #[v, u]).run P w = .ok v' w') (h : wpList P ops Q rest (a.put o.dst v') w') : wpList P ops Q (o :: rest) a w :=
  wpList_plain hgd fun _ hK => wp_copy2 w s x t t' v u v' w' ho hs hx hr (hK _ _ h)
theorem wpList_clear1 {ops : Array Oper} {rest : List Oper} {o : Oper} {a : Act} {Q : Exit → Act → World → Prop} (hgd : o.guard = none) (s : Operand) (t : TypeId) (v v' : Value) (w' : World)
    (ho : o.op = .call { callee := .builtin .clear, args := #[s], argTypes := #[t] }) (hs : a.eval s = v) (hr : (Builtin.clear_ #[t] o.type #[v]).run P w = .ok v' w') (h : wpList P ops Q rest (a.put o.dst v') w') : wpList P ops Q (o :: rest) a w :=
  wpList_plain hgd fun _ hK => by
    unfold Oper.wp execOp
    simp only [ho, resolve, invoke, builtin, Sem.run_bind, Sem.run_pure, Result.andThen_ok, List.map_toArray, List.map_cons, List.map_nil, hs, hr]
    exact hK _ _ h
end
/-- What lies from o on, k cells, where p and all behind it was written. -/
theorem seg_keep (cur zs : List Value) (o k p q : Nat) (h : o + k ≤ p) (hp : p ≤ cur.length) : ((cur.take p ++ zs ++ cur.drop q).drop o).take k = (cur.drop o).take k := by
  rw [List.append_assoc, List.drop_append_of_le_length (by rw [List.length_take]; omega), List.take_append_of_le_length (by rw [List.length_drop, List.length_take]; omega), List.drop_take, List.take_take, Nat.min_eq_left (by omega)]
theorem seg_take (cur xs : List Value) (o k m : Nat) (hx : (cur.drop o).take k = xs) (hm : m ≤ k) : (cur.drop o).take m = xs.take m := by
  rw [← hx, List.take_take, Nat.min_eq_left hm]
theorem seg_size (cur zs : List Value) (p : Nat) (h : p + zs.length ≤ cur.length) : (cur.take p ++ zs ++ cur.drop (p + zs.length)).length = cur.length := by
  simp; omega
theorem ints_cut (l : List Int) (i : Nat) : (ints l).take (i * 1) ++ (ints l).drop ((i + 1) * 1) = ints (l.take i ++ l.drop (i + 1)) := by simp [ints]
theorem prsM_take (l : List (Int × Int)) (i : Nat) : (prs l).take (i * 2) = prs (l.take i) := by
  induction l generalizing i with
  | nil => simp [prs]
  | cons x l ih =>
    cases i with
    | zero => simp [prs]
    | succ i =>
      have := ih i
      simp only [prs, List.flatMap_cons, pr] at this ⊢
      rw [show (i + 1) * 2 = i * 2 + 2 from by omega]
      simp only [List.cons_append, List.nil_append, List.take_succ_cons, List.flatMap_cons, pr]
      rw [this]
theorem prsM_drop (l : List (Int × Int)) (i : Nat) : (prs l).drop (i * 2) = prs (l.drop i) := by
  induction l generalizing i with
  | nil => simp [prs]
  | cons x l ih =>
    cases i with
    | zero => simp [prs]
    | succ i =>
      have := ih i
      simp only [prs, List.flatMap_cons, pr] at this ⊢
      rw [show (i + 1) * 2 = i * 2 + 2 from by omega]
      simp only [List.cons_append, List.nil_append, List.drop_succ_cons]
      exact this
theorem prs_app (l m : List (Int × Int)) : prs l ++ prs m = prs (l ++ m) := by simp [prs]
theorem prs_cut (l : List (Int × Int)) (i : Nat) : (prs l).take (i * 2) ++ (prs l).drop ((i + 1) * 2) = prs (l.take i ++ l.drop (i + 1)) := by
  rw [prsM_take, prsM_drop, prs_app]
end Go.Proofs.Ytegbcocbopgghab.Md
/-
  Package model: slices.BinarySearch, slices.BinarySearchFunc, find.
-/
namespace Go.Proofs.Ytegbcocbopgghab.Md
open Go.RowKit Mr
set_option linter.unusedVariables false
set_option linter.unusedSimpArgs false
theorem ris_lt {l : List Int} (h : Ris l) (a d : Nat) (hb : a + d + 1 < l.length) : l[a]?.getD 0 < l[a + d + 1]?.getD 0 := by
  induction d with
  | zero => exact h a hb
  | succ d ih => exact Int.lt_trans (ih (by omega)) (h (a + d + 1) (by omega))
theorem ris_le {l : List Int} (h : Ris l) (a b : Nat) (hab : a ≤ b) (hb : b < l.length) : l[a]?.getD 0 ≤ l[b]?.getD 0 := by
  by_cases e : a = b
  · subst e; exact Int.le_refl _
  · have := ris_lt h a (b - a - 1) (by omega)
    rw [show a + (b - a - 1) + 1 = b from by omega] at this
    omega
theorem bs_up {l : List Int} (h : Ris l) {x : Int} {m : Nat} (hm : m < l.length) (hx : l[m]?.getD 0 < x) : ∀ t, t < m + 1 → l[t]?.getD 0 < x := fun t ht => by
  have := ris_le h t m (by omega) hm
  omega
theorem bs_down {l : List Int} (h : Ris l) {x : Int} {m : Nat} (hx : ¬ l[m]?.getD 0 < x) : ∀ t, m ≤ t → t < l.length → x ≤ l[t]?.getD 0 := fun t ht hl => by
  have := ris_le h m t ht hl
  omega
theorem bs_end {l : List Int} {x : Int} {i : Nat} (hi : i ≤ l.length) (h1 : ∀ t, t < i → l[t]?.getD 0 < x) (h2 : ∀ t, i ≤ t → t < l.length → x ≤ l[t]?.getD 0) : plc l x = i := by
  refine plc_eq h1 ?_
  by_cases e : i < l.length
  · exact .inr ⟨e, by have := h2 i (Nat.le_refl _) e; omega⟩
  · exact .inl (by omega)
theorem bs_in {l : List Int} {x : Int} {i : Nat} (h : plc l x = i) : (i < l.length → inB l x = (l[i]?.getD 0 == x)) ∧ (¬ i < l.length → inB l x = false) := by
  unfold inB
  rw [h]
  exact ⟨fun hl => in_eq hl, fun hl => in_no (by omega)⟩
set_option maxHeartbeats 1000000 in
theorem less_any (x y : Int) (w : World) : Calls Try.prog 93 #[.int .i64 x, .int .i64 y] w fun e w' => e = .returned (.bool (decide (x < y))) ∧ w' = w := by
  go_enter Try.func93, Try.ntmps93
  go_wp2
  go_ret
  exact ⟨by simp, rfl⟩
set_option maxHeartbeats 1000000 in
theorem nan_any (x : Int) (w : World) : Calls Try.prog 94 #[.int .i64 x] w fun e w' => e = .returned (.bool false) ∧ w' = w := by
  go_enter Try.func94, Try.ntmps94
  go_wp2
  go_ret
  exact ⟨by simp, rfl⟩
set_option maxRecDepth 1000000 in
set_option maxHeartbeats 4000000 in
theorem bsI_any {w : World} {S : Nat → Prop} {u : Value} {l : List Int} (hu : Sl w S 1 u l.length (ints l)) (hsm : l.length * 8 ≤ 281474976710656) (hR : Ris l) (x : Int) :
    Calls Try.prog 89 #[u, .int .i64 x] w fun e w' => e = .returned (.tuple #[.int .i64 (plc l x : Nat), .bool (inB l x)]) ∧ Below w.heap.size w w' := by
  obtain ⟨au, cu, rfl, hcu⟩ := hu.form
  obtain ⟨n, hn⟩ : ∃ n, n = l.length := ⟨_, rfl⟩
  rw [← hn] at hu hsm hcu ⊢
  obtain ⟨pp, hpp⟩ : ∃ p, p = plc l x := ⟨_, rfl⟩
  obtain ⟨bb, hbb⟩ : ∃ b, b = inB l x := ⟨_, rfl⟩
  rw [← hpp, ← hbb]
  replace hn := Mr.hid hn
  replace hu := Mr.hid hu
  replace hR := Mr.hid hR
  replace hpp := Mr.hid hpp
  replace hbb := Mr.hid hbb
  go_enter Try.func89, Try.ntmps89
  go_wp2
  go_loopg [7, 8] n (fun g s7 s8 wr => ∃ lo hi : Nat, s7 = .int .i64 lo ∧ s8 = .int .i64 hi ∧ lo ≤ hi ∧ hi ≤ n ∧ hi - lo ≤ g ∧ Below w.heap.size w wr ∧ (∀ t, t < lo → l[t]?.getD 0 < x) ∧ (∀ t, hi ≤ t → t < n → x ≤ l[t]?.getD 0))
  case atStart => exact ⟨0, n, rfl, rfl, Nat.zero_le _, Nat.le_refl _, by omega, Below.refl _ _, fun t ht => absurd ht (Nat.not_lt_zero _), fun t h1 h2 => by omega⟩
  case round =>
    obtain ⟨lo, hi, rfl, rfl, hlh, hin, hg, B, h1, h2⟩ := hrel
    replace h1 := Mr.hid h1
    replace h2 := Mr.hid h2
    by_cases hlt : lo < hi
    · obtain ⟨gu, ou, cu', hgu, _, _, hul, ru⟩ := (hu.out.below B).there (by omega)
      cases hgu
      have cm := ru ((lo + hi) / 2) _ (ints_get l ((lo + hi) / 2) (by have := hn.out; omega))
      by_cases hyx : l[(lo + hi) / 2]?.getD 0 < x
      · have I := Mr.hid (bs_up hR.out (by have := hn.out; omega) hyx)
        generalize l[(lo + hi) / 2]?.getD 0 = y at *
        replace B := Mr.hid B
        clear ru
        go_wp2_with (first | (go_at_call 93; refine (less_any _ _ _).mono ?_; rintro e w' ⟨rfl, rfl⟩) | (go_at_call 94; refine (nan_any _ _).mono ?_; rintro e w' ⟨rfl, rfl⟩))
        go_roundg (hi - ((lo + hi) / 2 + 1))
        case measure => omega
        case rel => exact ⟨(lo + hi) / 2 + 1, hi, by rw [show ((lo : Int) + (hi : Int)) / 2 + 1 = (((lo + hi) / 2 + 1 : Nat) : Int) by omega], rfl, by omega, hin, Nat.le_refl _, B.out, I.out, h2.out⟩
      · have I := Mr.hid (bs_down hR.out hyx)
        generalize l[(lo + hi) / 2]?.getD 0 = y at *
        replace B := Mr.hid B
        clear ru
        go_wp2_with (first | (go_at_call 93; refine (less_any _ _ _).mono ?_; rintro e w' ⟨rfl, rfl⟩) | (go_at_call 94; refine (nan_any _ _).mono ?_; rintro e w' ⟨rfl, rfl⟩))
        go_roundg ((lo + hi) / 2 - lo)
        case measure => omega
        case rel => exact ⟨lo, (lo + hi) / 2, rfl, by rw [show ((lo : Int) + (hi : Int)) / 2 = (((lo + hi) / 2 : Nat) : Int) by omega], by omega, by omega, Nat.le_refl _, B.out, h1.out, fun t ht hl => I.out t ht (by have := hn.out; omega)⟩
    · have e : hi = lo := by omega
      subst e
      have he := bs_end (by have := hn.out; omega) h1.out (fun t ht hl => h2.out t ht (by have := hn.out; omega))
      obtain ⟨i1, i2⟩ := bs_in he
      rw [← hbb.out] at i1 i2
      have hp2 := hpp.out
      rw [he] at hp2
      by_cases hnn : hi < n
      · obtain ⟨gu, ou, cu', hgu, _, _, hul, ru⟩ := (hu.out.below B).there (by omega)
        cases hgu
        have cm := ru hi _ (ints_get l hi (by have := hn.out; omega))
        have i3 := i1 (by have := hn.out; omega)
        generalize l[hi]?.getD 0 = y at *
        have E := Mr.hid (show pp = hi ∧ bb = (y == x) from ⟨hp2, i3⟩)
        replace B := Mr.hid B
        clear ru i1 i2 i3 hp2 he hpp hbb
        by_cases hyx : y = x
        · have dq : (y == x) = true := by simpa using hyx
          go_wp2_with (first | (go_at_call 93; refine (less_any _ _ _).mono ?_; rintro e w' ⟨rfl, rfl⟩) | (go_at_call 94; refine (nan_any _ _).mono ?_; rintro e w' ⟨rfl, rfl⟩))
          go_ret2
          refine ⟨?_, B.out⟩
          rw [E.out.1, E.out.2, dq]
          rfl
        · have dq : (y == x) = false := by simpa using hyx
          go_wp2_with (first | (go_at_call 93; refine (less_any _ _ _).mono ?_; rintro e w' ⟨rfl, rfl⟩) | (go_at_call 94; refine (nan_any _ _).mono ?_; rintro e w' ⟨rfl, rfl⟩))
          go_ret2
          refine ⟨?_, B.out⟩
          rw [E.out.1, E.out.2, dq]
          rfl
      · have i3 := i2 (by have := hn.out; omega)
        have E := Mr.hid (show pp = hi ∧ bb = false from ⟨hp2, i3⟩)
        replace B := Mr.hid B
        clear i1 i2 i3 hp2 he hpp hbb
        go_wp2_with (first | (go_at_call 93; refine (less_any _ _ _).mono ?_; rintro e w' ⟨rfl, rfl⟩) | (go_at_call 94; refine (nan_any _ _).mono ?_; rintro e w' ⟨rfl, rfl⟩))
        go_ret2
        refine ⟨?_, B.out⟩
        rw [E.out.1, E.out.2]
        rfl
set_option maxRecDepth 1000000 in
set_option maxHeartbeats 8000000 in
theorem bsP_any {w : World} {S : Nat → Prop} {u : Value} {t : List (Int × Int)} (hu : Sl w S 2 u t.length (prs t)) (hsm : t.length * 16 ≤ 281474976710656) (hR : Ris (keysOf t)) (x : Int) :
    Calls Try.prog 101 #[u, .agg #[.int .i64 x, .int .i64 0], .func (.func 36) #[] #[]] w fun e w' => e = .returned (.tuple #[.int .i64 (plc (keysOf t) x : Nat), .bool (inB (keysOf t) x)]) ∧ Below w.heap.size w w' := by
  obtain ⟨au, cu, rfl, hcu⟩ := hu.form
  obtain ⟨n, hn⟩ : ∃ n, n = t.length := ⟨_, rfl⟩
  rw [← hn] at hu hsm hcu ⊢
  obtain ⟨l, hl⟩ : ∃ l, l = keysOf t := ⟨_, rfl⟩
  have hln : l.length = n := by rw [hl]; unfold keysOf; rw [List.length_map]; exact hn.symm
  have hkey : ∀ i : Nat, (l[i]?.getD 0 : Int) = (t[i]?.getD (0, 0)).1 := fun i => by rw [hl]; exact key_get t i
  rw [← hl] at hR ⊢
  obtain ⟨pp, hpp⟩ : ∃ p, p = plc l x := ⟨_, rfl⟩
  obtain ⟨bb, hbb⟩ : ∃ b, b = inB l x := ⟨_, rfl⟩
  rw [← hpp, ← hbb]
  have BX : ∀ w', Below (w.heap.size + 1) (w.alloc (.cells #[.int .i64 x, .int .i64 0] 81 (0, 0))) w' → w'.cell? ⟨w.heap.size, 0, none⟩ = some (.int .i64 x) ∧ w'.cell? ⟨w.heap.size, 1, none⟩ = some (.int .i64 0) ∧ w.heap.size < w'.heap.size := fun w' hB => by
    have h := (hB.block w.heap.size (by omega)).trans (heap_alloc_new w _)
    exact ⟨cell_blk h 0, cell_blk h 1, (Array.getElem?_eq_some_iff.1 h).1⟩
  have BW : ∀ w', Below (w.heap.size + 1) (w.alloc (.cells #[.int .i64 x, .int .i64 0] 81 (0, 0))) w' → Below w.heap.size w w' := fun w' hB => ((Below.refl w.heap.size w).alloc (Nat.le_refl _) _).trans (hB.mono (by omega))
  have B0 := Mr.hid (Below.refl (w.heap.size + 1) (w.alloc (.cells #[.int .i64 x, .int .i64 0] 81 (0, 0))))
  clear hl
  replace BX := Mr.hid BX
  replace BW := Mr.hid BW
  replace hn := Mr.hid hn
  replace hln := Mr.hid hln
  replace hkey := Mr.hid hkey
  replace hu := Mr.hid hu
  replace hR := Mr.hid hR
  replace hpp := Mr.hid hpp
  replace hbb := Mr.hid hbb
  go_enter Try.func101, Try.ntmps101
  go_wp2
  go_loopg [9, 10] n (fun g s7 s8 wr => ∃ lo hi : Nat, s7 = .int .i64 lo ∧ s8 = .int .i64 hi ∧ lo ≤ hi ∧ hi ≤ n ∧ hi - lo ≤ g ∧ Below (w.heap.size + 1) (w.alloc (.cells #[.int .i64 x, .int .i64 0] 81 (0, 0))) wr ∧ (∀ t, t < lo → l[t]?.getD 0 < x) ∧ (∀ t, hi ≤ t → t < n → x ≤ l[t]?.getD 0))
  case atStart => exact ⟨0, n, rfl, rfl, Nat.zero_le _, Nat.le_refl _, by omega, B0.out, fun t ht => absurd ht (Nat.not_lt_zero _), fun t h1 h2 => by omega⟩
  case round =>
    obtain ⟨lo, hi, rfl, rfl, hlh, hin, hg, B, h1, h2⟩ := hrel
    replace h1 := Mr.hid h1
    replace h2 := Mr.hid h2
    by_cases hlt : lo < hi
    · obtain ⟨md, hmd⟩ : ∃ m, m = (lo + hi) / 2 := ⟨_, rfl⟩
      have hmz : ((lo : Int) + (hi : Int)) / 2 = (md : Int) := by omega
      have hm1 : lo ≤ md := by omega
      have hm2 : md < hi := by omega
      have hm3 : (0 : Int) ≤ (md : Int) := by omega
      have hm4 : (md : Int) < (n : Int) := by omega
      replace hmd := Mr.hid hmd
      obtain ⟨gu, ou, cu', hgu, _, _, hul, ru⟩ := (hu.out.below (BW.out _ B)).there (by omega)
      cases hgu
      have c1 := ru _ _ (prs_get t md (by have := hn.out; omega)).1
      have c2 := ru _ _ (prs_get t md (by have := hn.out; omega)).2
      rw [← Nat.add_assoc] at c2
      rw [← hkey.out] at c1
      obtain ⟨x1, x2, hxl⟩ := BX.out _ B
      generalize (t[md]?.getD (0, 0)).2 = y' at *
      by_cases hyx : l[md]?.getD 0 < x
      · have I := Mr.hid (bs_up hR.out (by have := hln.out; omega) hyx)
        generalize l[md]?.getD 0 = y at *
        have C := fun w => byKey_any y y' x 0 w
        rw [cmpI_lt hyx] at C
        replace C := Mr.hid C
        replace B := Mr.hid B
        clear ru hyx
        go_wp2
        have KK : Hid (∀ w', Below wr.heap.size wr w' → w'.cell? ⟨gu, ou + md * 2, none⟩ = some (.int .i64 y) ∧ w'.cell? ⟨gu, ou + md * 2 + 1, none⟩ = some (.int .i64 y') ∧ w'.cell? ⟨w.heap.size, 0, none⟩ = some (.int .i64 x) ∧ w'.cell? ⟨w.heap.size, 1, none⟩ = some (.int .i64 0)) := fun w' hB => ⟨(hB.cell (p := ⟨gu, _, none⟩) hul).trans c1, (hB.cell (p := ⟨gu, _, none⟩) hul).trans c2, (hB.cell (p := ⟨w.heap.size, _, none⟩) hxl).trans x1, (hB.cell (p := ⟨w.heap.size, _, none⟩) hxl).trans x2⟩
        have K0 := Mr.hid (KK.out _ (Below.refl _ _).drew)
        go_region_held3 (fun w' => w'.cell? ⟨gu, ou + md * 2, none⟩ = some (.int .i64 y) ∧ w'.cell? ⟨gu, ou + md * 2 + 1, none⟩ = some (.int .i64 y') ∧ w'.cell? ⟨w.heap.size, 0, none⟩ = some (.int .i64 x) ∧ w'.cell? ⟨w.heap.size, 1, none⟩ = some (.int .i64 0)) (first | with_reducible exact KK.out _ hB6 | with_reducible exact K0.out | go_keep) (first | (go_at_call 36; refine (C.out _).mono ?_; rintro e w6 ⟨rfl, hB6⟩; replace hB6 : Below wr.heap.size wr w6 := ⟨hB6.os, hB6.tape, hB6.output, hB6.size, hB6.block⟩))
        have hB := Mr.hid (B.out.trans (hB6.mono (by have := B.out.size; simpa using this)))
        clear c1 c2 x1 x2 hxl hul B C KK K0 hB6
        go_wp2
        go_roundg (hi - (md + 1))
        case measure => omega
        case rel => exact ⟨md + 1, hi, by simp, rfl, by omega, hin, Nat.le_refl _, hB.out, I.out, h2.out⟩
      · have I := Mr.hid (bs_down hR.out hyx)
        generalize l[md]?.getD 0 = y at *
        have C := fun w => byKey_any y y' x 0 w
        have hq := cmpI_neg y x
        rw [decide_eq_false hyx] at hq
        generalize cmpI y x = r at *
        replace C := Mr.hid C
        replace B := Mr.hid B
        clear ru hyx
        go_wp2
        have KK : Hid (∀ w', Below wr.heap.size wr w' → w'.cell? ⟨gu, ou + md * 2, none⟩ = some (.int .i64 y) ∧ w'.cell? ⟨gu, ou + md * 2 + 1, none⟩ = some (.int .i64 y') ∧ w'.cell? ⟨w.heap.size, 0, none⟩ = some (.int .i64 x) ∧ w'.cell? ⟨w.heap.size, 1, none⟩ = some (.int .i64 0)) := fun w' hB => ⟨(hB.cell (p := ⟨gu, _, none⟩) hul).trans c1, (hB.cell (p := ⟨gu, _, none⟩) hul).trans c2, (hB.cell (p := ⟨w.heap.size, _, none⟩) hxl).trans x1, (hB.cell (p := ⟨w.heap.size, _, none⟩) hxl).trans x2⟩
        have K0 := Mr.hid (KK.out _ (Below.refl _ _).drew)
        go_region_held3 (fun w' => w'.cell? ⟨gu, ou + md * 2, none⟩ = some (.int .i64 y) ∧ w'.cell? ⟨gu, ou + md * 2 + 1, none⟩ = some (.int .i64 y') ∧ w'.cell? ⟨w.heap.size, 0, none⟩ = some (.int .i64 x) ∧ w'.cell? ⟨w.heap.size, 1, none⟩ = some (.int .i64 0)) (first | with_reducible exact KK.out _ hB6 | with_reducible exact K0.out | go_keep) (first | (go_at_call 36; refine (C.out _).mono ?_; rintro e w6 ⟨rfl, hB6⟩; replace hB6 : Below wr.heap.size wr w6 := ⟨hB6.os, hB6.tape, hB6.output, hB6.size, hB6.block⟩))
        have hB := Mr.hid (B.out.trans (hB6.mono (by have := B.out.size; simpa using this)))
        clear c1 c2 x1 x2 hxl hul B C KK K0 hB6
        go_wp2
        go_roundg (md - lo)
        case measure => omega
        case rel => exact ⟨lo, md, rfl, rfl, by omega, by omega, Nat.le_refl _, hB.out, h1.out, fun t ht hl => I.out t ht (by have := hln.out; omega)⟩
    · have e : hi = lo := by omega
      subst e
      have he := bs_end (by have := hln.out; omega) h1.out (fun t ht hl => h2.out t ht (by have := hln.out; omega))
      obtain ⟨i1, i2⟩ := bs_in he
      rw [← hbb.out] at i1 i2
      have hp2 := hpp.out
      rw [he] at hp2
      by_cases hnn : hi < n
      · obtain ⟨gu, ou, cu', hgu, _, _, hul, ru⟩ := (hu.out.below (BW.out _ B)).there (by omega)
        cases hgu
        have c1 := ru _ _ (prs_get t hi (by have := hn.out; omega)).1
        have c2 := ru _ _ (prs_get t hi (by have := hn.out; omega)).2
        rw [← Nat.add_assoc] at c2
        rw [← hkey.out] at c1
        obtain ⟨x1, x2, hxl⟩ := BX.out _ B
        generalize (t[hi]?.getD (0, 0)).2 = y' at *
        have i3 := i1 (by have := hln.out; omega)
        generalize l[hi]?.getD 0 = y at *
        have hm4 : (hi : Int) < (n : Int) := by omega
        have hm3 : (0 : Int) ≤ (hi : Int) := by omega
        have E := Mr.hid (show pp = hi ∧ bb = (y == x) from ⟨hp2, i3⟩)
        have C := fun w => byKey_any y y' x 0 w
        have hq := cmpI_zero y x
        generalize cmpI y x = r at *
        replace C := Mr.hid C
        replace B := Mr.hid B
        clear ru i1 i2 i3 hp2 he hpp hbb
        by_cases hyx : y = x
        · have dq : (y == x) = true := by simpa using hyx
          rw [dq] at hq
          clear hyx
          go_wp2
          have KK : Hid (∀ w', Below wr.heap.size wr w' → w'.cell? ⟨gu, ou + hi * 2, none⟩ = some (.int .i64 y) ∧ w'.cell? ⟨gu, ou + hi * 2 + 1, none⟩ = some (.int .i64 y') ∧ w'.cell? ⟨w.heap.size, 0, none⟩ = some (.int .i64 x) ∧ w'.cell? ⟨w.heap.size, 1, none⟩ = some (.int .i64 0)) := fun w' hB => ⟨(hB.cell (p := ⟨gu, _, none⟩) hul).trans c1, (hB.cell (p := ⟨gu, _, none⟩) hul).trans c2, (hB.cell (p := ⟨w.heap.size, _, none⟩) hxl).trans x1, (hB.cell (p := ⟨w.heap.size, _, none⟩) hxl).trans x2⟩
          have K0 := Mr.hid (KK.out _ (Below.refl _ _).drew)
          go_region_held3 (fun w' => w'.cell? ⟨gu, ou + hi * 2, none⟩ = some (.int .i64 y) ∧ w'.cell? ⟨gu, ou + hi * 2 + 1, none⟩ = some (.int .i64 y') ∧ w'.cell? ⟨w.heap.size, 0, none⟩ = some (.int .i64 x) ∧ w'.cell? ⟨w.heap.size, 1, none⟩ = some (.int .i64 0)) (first | with_reducible exact KK.out _ hB6 | with_reducible exact K0.out | go_keep) (first | (go_at_call 36; refine (C.out _).mono ?_; rintro e w6 ⟨rfl, hB6⟩; replace hB6 : Below wr.heap.size wr w6 := ⟨hB6.os, hB6.tape, hB6.output, hB6.size, hB6.block⟩))
          have hB := Mr.hid (B.out.trans (hB6.mono (by have := B.out.size; simpa using this)))
          clear c1 c2 x1 x2 hxl hul B C KK K0 hB6
          go_wp2
          go_ret2
          refine ⟨?_, BW.out _ hB.out⟩
          rw [E.out.1, E.out.2, dq]
          rfl
        · have dq : (y == x) = false := by simpa using hyx
          rw [dq] at hq
          clear hyx
          go_wp2
          have KK : Hid (∀ w', Below wr.heap.size wr w' → w'.cell? ⟨gu, ou + hi * 2, none⟩ = some (.int .i64 y) ∧ w'.cell? ⟨gu, ou + hi * 2 + 1, none⟩ = some (.int .i64 y') ∧ w'.cell? ⟨w.heap.size, 0, none⟩ = some (.int .i64 x) ∧ w'.cell? ⟨w.heap.size, 1, none⟩ = some (.int .i64 0)) := fun w' hB => ⟨(hB.cell (p := ⟨gu, _, none⟩) hul).trans c1, (hB.cell (p := ⟨gu, _, none⟩) hul).trans c2, (hB.cell (p := ⟨w.heap.size, _, none⟩) hxl).trans x1, (hB.cell (p := ⟨w.heap.size, _, none⟩) hxl).trans x2⟩
          have K0 := Mr.hid (KK.out _ (Below.refl _ _).drew)
          go_region_held3 (fun w' => w'.cell? ⟨gu, ou + hi * 2, none⟩ = some (.int .i64 y) ∧ w'.cell? ⟨gu, ou + hi * 2 + 1, none⟩ = some (.int .i64 y') ∧ w'.cell? ⟨w.heap.size, 0, none⟩ = some (.int .i64 x) ∧ w'.cell? ⟨w.heap.size, 1, none⟩ = some (.int .i64 0)) (first | with_reducible exact KK.out _ hB6 | with_reducible exact K0.out | go_keep) (first | (go_at_call 36; refine (C.out _).mono ?_; rintro e w6 ⟨rfl, hB6⟩; replace hB6 : Below wr.heap.size wr w6 := ⟨hB6.os, hB6.tape, hB6.output, hB6.size, hB6.block⟩))
          have hB := Mr.hid (B.out.trans (hB6.mono (by have := B.out.size; simpa using this)))
          clear c1 c2 x1 x2 hxl hul B C KK K0 hB6
          go_wp2
          go_ret2
          refine ⟨?_, BW.out _ hB.out⟩
          rw [E.out.1, E.out.2, dq]
          rfl
      · have i3 := i2 (by have := hln.out; omega)
        have E := Mr.hid (show pp = hi ∧ bb = false from ⟨hp2, i3⟩)
        have dn : decide ((hi : Int) < (n : Int)) = false := decide_eq_false (by omega)
        have BB := Mr.hid (BW.out _ B)
        clear i1 i2 i3 hp2 he hpp hbb B
        go_wp2
        go_quiet (fail)
        have hBq := Bx.draws w.heap.size wr nq
        have hB := Mr.hid (BB.out.trans hBq)
        clear hBq BB
        generalize wr.drewN nq = W6 at *
        go_wp2
        go_ret2
        refine ⟨?_, hB.out⟩
        rw [E.out.1, E.out.2]
        rfl
end Go.Proofs.Ytegbcocbopgghab.Md
