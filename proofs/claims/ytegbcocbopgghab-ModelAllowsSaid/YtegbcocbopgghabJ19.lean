import Derived.Test.YtegbcocbopgghabJ18
import Derived.Test.YtegbcocbopgghabJ17
import Derived.Test.YtegbcocbopgghabJ08
/-
  Package model: slices.Delete of one element.
-/
namespace Go.Proofs.Ytegbcocbopgghab.Md
open Go.RowKit Mr
set_option linter.unusedVariables false
set_option linter.unusedSimpArgs false
set_option maxRecDepth 100000 in
set_option maxHeartbeats 4000000 in
theorem deleteI_any {w : World} {S : Nat → Prop} {v : Value} {l : List Int} (hv : Own w S 3 1 v l.length (ints l)) (i : Nat) (hi : i < l.length) :
    Calls Try.prog 92 #[v, .int .i64 (i : Int), .int .i64 ((i : Int) + 1)] w fun e w' => ∃ v', e = .returned v' ∧ Own w' S 3 1 v' (l.length - 1) (ints (l.take i ++ l.drop (i + 1))) ∧ Fr w w' S := by
  obtain ⟨i0, hinf, hz0, hz1, hz2⟩ := info_parts mp_int
  obtain ⟨g, o, cap, cur, rfl, hc, hm, hS, hg, hs, hx⟩ := hv.there (by omega)
  have hlen := hv.1
  have h1 := ints_one l
  have hcut := ints_cut l i
  clear hv
  generalize ints (l.take i ++ l.drop (i + 1)) = ys at *
  generalize ints l = xs at *
  generalize l.length = n at *
  unfold maxLen at hm
  have hgl := (Array.getElem?_eq_some_iff.1 hg).1
  -- the append
  obtain ⟨A, hA, hsrc⟩ : ∃ A : Addr, (if cap = i + 1 then some (⟨g, o, none⟩ : Addr) else some ⟨g, o + (i + 1), none⟩) = some A ∧ ∀ t u, (xs.drop ((i + 1) * 1))[t]? = some u → w.drew.cell? (A.add t) = some u := by
    by_cases h : cap = i + 1
    · refine ⟨_, if_pos h, fun t u hu => ?_⟩
      rw [List.getElem?_drop, List.getElem?_eq_none (by omega)] at hu
      cases hu
    · refine ⟨_, if_neg h, fun t u hu => ?_⟩
      rw [List.getElem?_drop] at hu
      have := own_cells hg hx _ u hu
      rw [add1]
      rw [show o + (i + 1) + t = o + ((i + 1) * 1 + t) from by omega]
      exact this
  obtain ⟨cur1, hcur1⟩ : ∃ c1, c1 = (cur.toList.take (o + i * i0.size) ++ xs.drop ((i + 1) * 1) ++ cur.toList.drop (o + i * i0.size + (xs.drop ((i + 1) * 1)).length)).toArray := ⟨_, rfl⟩
  have hr1 := fun ty => run_append_at (P := Try.prog) w.drew 22 ty 3 3 i0 Try.underlying22 hinf g o i cap cur hg A (n - (i + 1)) (cap - (i + 1)) (xs.drop ((i + 1) * 1)) (by rw [hz1, List.length_drop, hlen, Nat.sub_mul]) hsrc (fun u hu => h1 u (List.mem_of_mem_drop hu)) (by omega) (by rw [hz1, List.length_drop]; omega)
  rw [← hcur1] at hr1
  have hg1 : (w.drew.setRow g cur1).heap[g]? = some (.cells cur1 3 (0, 0)) := setRow_heap w.drew g cur _ _ _ hg
  have hs1 : cur1.size = cur.size := by
    rw [hcur1, hz1]
    have := seg_size cur.toList (xs.drop ((i + 1) * 1)) (o + i * 1) (by rw [List.length_drop]; simp; omega)
    simpa using this
  have hx1 : (cur1.toList.drop o).take ((n - 1) * 1) = ys := by
    have h2 := seg_put cur.toList o (i * 1) (xs.drop ((i + 1) * 1)) (xs.take (i * 1)) (seg_take _ _ _ _ _ hx (by omega)) (by rw [List.length_take]; omega) (by rw [List.length_drop]; simp; omega)
    rw [hcur1, hz1, ← hcut]
    rw [List.length_drop, hlen] at h2
    rw [List.length_drop, hlen]
    rw [show (n - 1) * 1 = i * 1 + (n * 1 - (i + 1) * 1) from by omega]
    simpa using h2
  -- the clearing
  have hr2 := fun ty c => run_clear_at (P := Try.prog) (w.drew.setRow g cur1) 22 3 3 ty (.int .i64 0) Try.underlying22 (fun w => by simp [zeroValue, typeInfo, hinf, hz0]) g (o + (n - 1)) 1 c (by omega) cur1 [Value.int .i64 0] (by kernel_rfl) hg1 (by simp; omega) (by intro u hu; simp at hu; subst hu; rfl)
  obtain ⟨cur2, hcur2⟩ : ∃ c2, c2 = (cur1.toList.take (o + (n - 1)) ++ [Value.int .i64 0] ++ cur1.toList.drop (o + (n - 1) + ([Value.int .i64 0] : List Value).length)).toArray := ⟨_, rfl⟩
  rw [← hcur2] at hr2
  have hE : (Own ((w.drew.setRow g cur1).setRow g cur2) S 3 1 (.slice (some ⟨g, o, none⟩) (n - 1) cap) (n - 1) ys ∧ Fr w ((w.drew.setRow g cur1).setRow g cur2) S) := by
    refine ⟨⟨by rw [← hcut, List.length_append, List.length_take, List.length_drop, hlen]; omega, _, cap, rfl, by omega, by unfold maxLen; omega, .inr ⟨g, o, cur2, rfl, hS, setRow_heap _ g cur1 _ _ _ hg1, ?_, ?_⟩⟩, ?_⟩
    · rw [hcur2]
      have := seg_size cur1.toList [Value.int .i64 0] (o + (n - 1)) (by simp; omega)
      simp only [List.size_toArray]
      rw [this]
      simp; omega
    · rw [hcur2]
      have := seg_keep cur1.toList [Value.int .i64 0] o ((n - 1) * 1) (o + (n - 1)) (o + (n - 1) + ([Value.int .i64 0] : List Value).length) (by omega) (by simp; omega)
      rw [this]
      exact hx1
    · exact (Fr.refl w S).drew.trans ((setRow_fr (Or.inl hS) _).trans (setRow_fr (Or.inl (Or.inl hS)) _))
  clear hcur1 hcur2 hx1 hs1 hg1 hsrc hx hs hg hcut h1 hlen
  have q1 : (0 : Int) ≤ (i : Int) := by omega
  have q2 : (i : Int) ≤ (i : Int) + 1 := by omega
  have q3 : (i : Int) + 1 ≤ (n : Int) := by omega
  have q4 : (n : Int) ≤ (cap : Int) := by omega
  have q5 : (i : Int) ≤ (cap : Int) := by omega
  have q6 : ¬ ((i : Int) = (i : Int) + 1) := by omega
  have q7 : ((i : Int) == (i : Int) + 1) = false := by simpa using q6
  have q8 : (0 : Int) ≤ (i : Int) + 1 := by omega
  obtain ⟨k, rfl⟩ : ∃ k, n = k + 1 := ⟨n - 1, by omega⟩
  simp only [Nat.add_sub_cancel, Nat.add_sub_add_right] at hr1 hr2 hE ⊢
  rw [show i + (k - i) = k from by omega] at hr1
  have q9 : (0 : Int) ≤ (k : Int) := by omega
  have qa : (k : Int) ≤ (k : Int) + 1 := by omega
  have qb : (k : Int) + 1 ≤ (cap : Int) := by omega
  have qc : ¬ cap = k := by omega
  have qd : i ≤ k := by omega
  replace hr1 := Mr.hid hr1
  replace hr2 := Mr.hid hr2
  replace hE := Mr.hid hE
  go_enter Try.func92, Try.ntmps92
  go_wp2
  go_region_law (first | (refine step_run2 _ rfl (.tmp 22) (.tmp 25) 22 22 (.slice (some ⟨g, o, none⟩) i cap) (.slice (some A) (k - i) (cap - (i + 1))) _ _ rfl (by simp [Act.eval, Act.put]) (by simp [Act.eval, Act.put, hA]) (hr1.out _) ?_))
  all_goals
    have hr3 := hr2.out 0
    go_wp2
    go_ret
    exact ⟨_, rfl, hE.out.1, hE.out.2⟩
set_option maxRecDepth 100000 in
set_option maxHeartbeats 4000000 in
theorem deleteP_any {w : World} {S : Nat → Prop} {v : Value} {l : List (Int × Int)} (hv : Own w S 81 2 v l.length (prs l)) (i : Nat) (hi : i < l.length) :
    Calls Try.prog 103 #[v, .int .i64 (i : Int), .int .i64 ((i : Int) + 1)] w fun e w' => ∃ v', e = .returned v' ∧ Own w' S 81 2 v' (l.length - 1) (prs (l.take i ++ l.drop (i + 1))) ∧ Fr w w' S := by
  obtain ⟨i0, hinf, hz0, hz1, hz2⟩ := info_parts mp_pair
  obtain ⟨g, o, cap, cur, rfl, hc, hm, hS, hg, hs, hx⟩ := hv.there (by omega)
  have hlen := hv.1
  have h1 := prs_one l
  have hcut := prs_cut l i
  clear hv
  generalize prs (l.take i ++ l.drop (i + 1)) = ys at *
  generalize prs l = xs at *
  generalize l.length = n at *
  unfold maxLen at hm
  have hgl := (Array.getElem?_eq_some_iff.1 hg).1
  -- the append
  obtain ⟨A, hA, hsrc⟩ : ∃ A : Addr, (if cap = i + 1 then some (⟨g, o, none⟩ : Addr) else some ⟨g, o + (i + 1) * 2, none⟩) = some A ∧ ∀ t u, (xs.drop ((i + 1) * 2))[t]? = some u → w.drew.cell? (A.add t) = some u := by
    by_cases h : cap = i + 1
    · refine ⟨_, if_pos h, fun t u hu => ?_⟩
      rw [List.getElem?_drop, List.getElem?_eq_none (by omega)] at hu
      cases hu
    · refine ⟨_, if_neg h, fun t u hu => ?_⟩
      rw [List.getElem?_drop] at hu
      have := own_cells hg hx _ u hu
      rw [add1]
      rw [show o + (i + 1) * 2 + t = o + ((i + 1) * 2 + t) from by omega]
      exact this
  obtain ⟨cur1, hcur1⟩ : ∃ c1, c1 = (cur.toList.take (o + i * i0.size) ++ xs.drop ((i + 1) * 2) ++ cur.toList.drop (o + i * i0.size + (xs.drop ((i + 1) * 2)).length)).toArray := ⟨_, rfl⟩
  have hr1 := fun ty => run_append_at (P := Try.prog) w.drew 23 ty 81 81 i0 Try.underlying23 hinf g o i cap cur hg A (n - (i + 1)) (cap - (i + 1)) (xs.drop ((i + 1) * 2)) (by rw [hz1, List.length_drop, hlen, Nat.sub_mul]) hsrc (fun u hu => h1 u (List.mem_of_mem_drop hu)) (by omega) (by rw [hz1, List.length_drop]; omega)
  rw [← hcur1] at hr1
  have hg1 : (w.drew.setRow g cur1).heap[g]? = some (.cells cur1 81 (0, 0)) := setRow_heap w.drew g cur _ _ _ hg
  have hs1 : cur1.size = cur.size := by
    rw [hcur1, hz1]
    have := seg_size cur.toList (xs.drop ((i + 1) * 2)) (o + i * 2) (by rw [List.length_drop]; simp; omega)
    simpa using this
  have hx1 : (cur1.toList.drop o).take ((n - 1) * 2) = ys := by
    have h2 := seg_put cur.toList o (i * 2) (xs.drop ((i + 1) * 2)) (xs.take (i * 2)) (seg_take _ _ _ _ _ hx (by omega)) (by rw [List.length_take]; omega) (by rw [List.length_drop]; simp; omega)
    rw [hcur1, hz1, ← hcut]
    rw [List.length_drop, hlen] at h2
    rw [List.length_drop, hlen]
    rw [show (n - 1) * 2 = i * 2 + (n * 2 - (i + 1) * 2) from by omega]
    simpa using h2
  -- the clearing
  have hr2 := fun ty c => run_clear_at (P := Try.prog) (w.drew.setRow g cur1) 23 81 81 ty (.agg #[.int .i64 0, .int .i64 0]) Try.underlying23 (fun w => by simp [zeroValue, typeInfo, hinf, hz0]) g (o + (n - 1) * 2) 1 c (by omega) cur1 [Value.int .i64 0, Value.int .i64 0] (by kernel_rfl) hg1 (by simp; omega) (by intro u hu; simp at hu; rcases hu with rfl | rfl <;> rfl)
  obtain ⟨cur2, hcur2⟩ : ∃ c2, c2 = (cur1.toList.take (o + (n - 1) * 2) ++ [Value.int .i64 0, Value.int .i64 0] ++ cur1.toList.drop (o + (n - 1) * 2 + ([Value.int .i64 0, Value.int .i64 0] : List Value).length)).toArray := ⟨_, rfl⟩
  rw [← hcur2] at hr2
  have hE : (Own ((w.drew.setRow g cur1).setRow g cur2) S 81 2 (.slice (some ⟨g, o, none⟩) (n - 1) cap) (n - 1) ys ∧ Fr w ((w.drew.setRow g cur1).setRow g cur2) S) := by
    refine ⟨⟨by rw [← hcut, List.length_append, List.length_take, List.length_drop, hlen]; omega, _, cap, rfl, by omega, by unfold maxLen; omega, .inr ⟨g, o, cur2, rfl, hS, setRow_heap _ g cur1 _ _ _ hg1, ?_, ?_⟩⟩, ?_⟩
    · rw [hcur2]
      have := seg_size cur1.toList [Value.int .i64 0, Value.int .i64 0] (o + (n - 1) * 2) (by simp; omega)
      simp only [List.size_toArray]
      rw [this]
      simp; omega
    · rw [hcur2]
      have := seg_keep cur1.toList [Value.int .i64 0, Value.int .i64 0] o ((n - 1) * 2) (o + (n - 1) * 2) (o + (n - 1) * 2 + ([Value.int .i64 0, Value.int .i64 0] : List Value).length) (by omega) (by simp; omega)
      rw [this]
      exact hx1
    · exact (Fr.refl w S).drew.trans ((setRow_fr (Or.inl hS) _).trans (setRow_fr (Or.inl (Or.inl hS)) _))
  clear hcur1 hcur2 hx1 hs1 hg1 hsrc hx hs hg hcut h1 hlen
  have q1 : (0 : Int) ≤ (i : Int) := by omega
  have q2 : (i : Int) ≤ (i : Int) + 1 := by omega
  have q3 : (i : Int) + 1 ≤ (n : Int) := by omega
  have q4 : (n : Int) ≤ (cap : Int) := by omega
  have q5 : (i : Int) ≤ (cap : Int) := by omega
  have q6 : ¬ ((i : Int) = (i : Int) + 1) := by omega
  have q7 : ((i : Int) == (i : Int) + 1) = false := by simpa using q6
  have q8 : (0 : Int) ≤ (i : Int) + 1 := by omega
  obtain ⟨k, rfl⟩ : ∃ k, n = k + 1 := ⟨n - 1, by omega⟩
  simp only [Nat.add_sub_cancel, Nat.add_sub_add_right] at hr1 hr2 hE ⊢
  rw [show i + (k - i) = k from by omega] at hr1
  have q9 : (0 : Int) ≤ (k : Int) := by omega
  have qa : (k : Int) ≤ (k : Int) + 1 := by omega
  have qb : (k : Int) + 1 ≤ (cap : Int) := by omega
  have qc : ¬ cap = k := by omega
  have qd : i ≤ k := by omega
  replace hr1 := Mr.hid hr1
  replace hr2 := Mr.hid hr2
  replace hE := Mr.hid hE
  go_enter Try.func103, Try.ntmps103
  go_wp2
  go_region_law (first | (refine step_run2 _ rfl (.tmp 22) (.tmp 25) 23 23 (.slice (some ⟨g, o, none⟩) i cap) (.slice (some A) (k - i) (cap - (i + 1))) _ _ rfl (by simp [Act.eval, Act.put]) (by simp [Act.eval, Act.put, hA]) (hr1.out _) ?_))
  all_goals
    have hr3 := hr2.out 0
    go_wp2
    go_ret
    exact ⟨_, rfl, hE.out.1, hE.out.2⟩
set_option maxRecDepth 100000 in
set_option maxHeartbeats 2000000 in
theorem find_any {W : World} {S : Nat → Prop} {g : Nat} {t : List (Int × Int)} (ho : Ob W S g 111 81 2 t.length (prs t)) (hsm : t.length * 16 ≤ 281474976710656) (hR : Ris (keysOf t)) (x : Int) :
    Calls Try.prog 99 #[.pointer (some ⟨g, 0, none⟩), .int .i64 x] W fun e w' => e = .returned (.tuple #[.int .i64 (plc (keysOf t) x : Nat), .bool (inB (keysOf t) x)]) ∧ Below W.heap.size W w' := by
  obtain ⟨v, hS, hg, hO⟩ := ho
  have hgl := (Array.getElem?_eq_some_iff.1 hg).1
  have cg : W.cell? ⟨g, 0, none⟩ = some v := cell_blk hg 0
  have C := bsP_any hO.sl hsm hR x
  obtain ⟨a, c, rfl, _, _⟩ := hO.form
  replace C := Mr.hid C
  clear hg hO hR
  go_enter Try.func99, Try.ntmps99
  go_wp2_with (go_at_call 101; refine C.out.mono ?_; rintro e w1 ⟨rfl, hB⟩)
  go_ret2
  exact ⟨rfl, hB⟩
end Go.Proofs.Ytegbcocbopgghab.Md
/-
  Package model: what the calls of the set and of the table answer.
-/
namespace Go.Proofs.Ytegbcocbopgghab.Md
open Go.RowKit Mr
set_option linter.unusedVariables false
set_option linter.unusedSimpArgs false
theorem plcM_le (l : List Int) (k : Int) : plc l k ≤ l.length := by
  unfold plc
  exact (List.takeWhile_prefix _).length_le
theorem plcM_lt {l : List Int} {k : Int} (h : inB l k = true) : plc l k < l.length := by
  unfold inB at h
  by_cases c : plc l k < l.length
  · exact c
  · rw [in_no (by omega)] at h; cases h
set_option maxRecDepth 100000 in
set_option maxHeartbeats 4000000 in
theorem ans_set4 {W : World} {S : Nat → Prop} {g : Nat} {l : List Int} (ho : Ob W S g 109 3 1 l.length (ints l)) (hsm : l.length * 8 ≤ 281474976710656) (hR : Ris l) (th op arg data beg fin pt ak av : Int) (k : Int) (hk : k = if op = 50 then (if inB l arg then 6 else 5) else (if inB l arg then 5 else 6)) :
    Calls Try.prog 87 #[.pointer (some ⟨g, 0, none⟩), .agg #[.int .i64 th, .int .i64 op, .int .i64 arg, .int .i64 data, .int .i64 beg, .int .i64 fin, .int .i64 pt, .int .i64 ak, .int .i64 av]] W fun e w' => e = .returned (ans k 0) ∧ Below W.heap.size W w' := by
  obtain ⟨v, hS, hg, hO⟩ := ho
  have hgl := (Array.getElem?_eq_some_iff.1 hg).1
  have hT0 := Tq.new W (.cells #[.int .i64 th, .int .i64 op, .int .i64 arg, .int .i64 data, .int .i64 beg, .int .i64 fin, .int .i64 pt, .int .i64 ak, .int .i64 av] 50 (0, 0)) (.cells #[.int .i64 0, .int .i64 0] 31 (0, 0))
  obtain ⟨k1, k2, k3, k4⟩ := nine_cells hT0.2.1
  have cg : ((W.alloc (.cells #[.int .i64 th, .int .i64 op, .int .i64 arg, .int .i64 data, .int .i64 beg, .int .i64 fin, .int .i64 pt, .int .i64 ak, .int .i64 av] 50 (0, 0))).alloc (.cells #[.int .i64 0, .int .i64 0] 31 (0, 0))).cell? ⟨g, 0, none⟩ = some v := cell_blk (old_at (old_at hg _) _) 0
  have C := fun w' (hB : Below W.heap.size W w') => bsI_any (hO.sl.below hB) hsm hR arg
  obtain ⟨a, c, rfl, _, _⟩ := hO.form
  have KS : ∀ w' : World, Below ((W.alloc (.cells #[.int .i64 th, .int .i64 op, .int .i64 arg, .int .i64 data, .int .i64 beg, .int .i64 fin, .int .i64 pt, .int .i64 ak, .int .i64 av] 50 (0, 0))).alloc (.cells #[.int .i64 0, .int .i64 0] 31 (0, 0))).heap.size ((W.alloc (.cells #[.int .i64 th, .int .i64 op, .int .i64 arg, .int .i64 data, .int .i64 beg, .int .i64 fin, .int .i64 pt, .int .i64 ak, .int .i64 av] 50 (0, 0))).alloc (.cells #[.int .i64 0, .int .i64 0] 31 (0, 0))) w' → w'.cell? ⟨g, 0, none⟩ = some (.slice a l.length c) ∧ w'.cell? ⟨W.heap.size, 2, none⟩ = some (.int .i64 arg) := fun w' hB => ⟨(hB.cell (p := ⟨g, 0, none⟩) (by simp; omega)).trans cg, (nine_cells (hT0.below hB).2.1).2.1⟩
  have KT := fun w' (hB : Below ((W.alloc (.cells #[.int .i64 th, .int .i64 op, .int .i64 arg, .int .i64 data, .int .i64 beg, .int .i64 fin, .int .i64 pt, .int .i64 ak, .int .i64 av] 50 (0, 0))).alloc (.cells #[.int .i64 0, .int .i64 0] 31 (0, 0))).heap.size ((W.alloc (.cells #[.int .i64 th, .int .i64 op, .int .i64 arg, .int .i64 data, .int .i64 beg, .int .i64 fin, .int .i64 pt, .int .i64 ak, .int .i64 av] 50 (0, 0))).alloc (.cells #[.int .i64 0, .int .i64 0] 31 (0, 0))) w') => hT0.below hB
  have K := fun (w1 : World) (k v : Int) (hT : Tq W w1 W.heap.size (W.heap.size + 1) (.cells #[.int .i64 th, .int .i64 op, .int .i64 arg, .int .i64 data, .int .i64 beg, .int .i64 fin, .int .i64 pt, .int .i64 ak, .int .i64 av] 50 (0, 0)) (.cells #[.int .i64 0, .int .i64 0] 31 (0, 0))) => (⟨ans_set hT.2.2.1 k v, ans_below hT.1 (by omega : W.heap.size ≤ W.heap.size + 1) k v⟩ : _ ∧ _)
  have KS0 := Mr.hid (KS _ (Below.refl _ _).drew)
  have B0 := Mr.hid (hT0.drew.1)
  replace KS := Mr.hid KS
  replace KT := Mr.hid KT
  replace K := Mr.hid K
  replace C := Mr.hid C
  clear hg hO hT0 cg hR
  obtain ⟨p, hp⟩ : ∃ p, p = plc l arg := ⟨_, rfl⟩
  obtain ⟨b, hb⟩ : ∃ b, b = inB l arg := ⟨_, rfl⟩
  rw [← hb] at hk
  rw [← hp, ← hb] at C
  clear hp hb
  go_enter Try.func87, Try.ntmps87
  go_wp2
  generalize ((W.alloc (.cells #[.int .i64 th, .int .i64 op, .int .i64 arg, .int .i64 data, .int .i64 beg, .int .i64 fin, .int .i64 pt, .int .i64 ak, .int .i64 av] 50 (0, 0))).alloc (.cells #[.int .i64 0, .int .i64 0] 31 (0, 0))) = w0 at *
  go_region_held3 (fun w' => w'.cell? ⟨g, 0, none⟩ = some (.slice a l.length c) ∧ w'.cell? ⟨W.heap.size, 2, none⟩ = some (.int .i64 arg)) (first | with_reducible exact KY.out | with_reducible exact KS0.out | go_keep) (first | (go_at_call 89; refine (C.out _ B0.out).mono ?_; rintro e w1 ⟨rfl, hB⟩; replace hB : Below w0.heap.size w0 w1 := ⟨hB.os, hB.tape, hB.output, hB.size, hB.block⟩; have KY := Mr.hid (KS.out w1 hB); have hT1 := Mr.hid (KT.out w1 hB); clear k1 k2 k3 k4; obtain ⟨k1, k2, k3, k4⟩ := nine_cells hT1.out.2.1))
  by_cases h : op = 50
  · rw [if_pos h] at hk
    have d1 : (op == 50) = true := by simpa using h
    replace h := Mr.hid h
    cases b with
    | false =>
      simp only [Bool.false_eq_true, if_false] at hk
      subst hk
      go_wp2_with (go_at_call 90; refine (whether_any _ _).mono ?_; rintro e w2 ⟨rfl, hB2⟩; unfold ans; simp only [Bool.not_false, Bool.not_true, Bool.false_eq_true, if_true, if_false]; obtain ⟨⟨c0, c1, f0, f1, l1, d0, d1⟩, hE⟩ := K.out w2 5 0 (hT1.out.below hB2); replace hE := Mr.hid hE)
      refine bodyPost_ret (v := ans 5 0) (by simp [results, Try.results87, go_sem, ans, d0, d1]) rfl ?_
      exact ⟨rfl, hE.out⟩
    | true =>
      simp only [if_true] at hk
      subst hk
      go_wp2_with (go_at_call 90; refine (whether_any _ _).mono ?_; rintro e w2 ⟨rfl, hB2⟩; unfold ans; simp only [Bool.not_false, Bool.not_true, Bool.false_eq_true, if_true, if_false]; obtain ⟨⟨c0, c1, f0, f1, l1, d0, d1⟩, hE⟩ := K.out w2 6 0 (hT1.out.below hB2); replace hE := Mr.hid hE)
      refine bodyPost_ret (v := ans 6 0) (by simp [results, Try.results87, go_sem, ans, d0, d1]) rfl ?_
      exact ⟨rfl, hE.out⟩
  · rw [if_neg h] at hk
    have d1 : (op == 50) = false := by simpa using h
    replace h := Mr.hid h
    cases b with
    | false =>
      simp only [Bool.false_eq_true, if_false] at hk
      subst hk
      go_wp2_with (go_at_call 90; refine (whether_any _ _).mono ?_; rintro e w2 ⟨rfl, hB2⟩; unfold ans; simp only [Bool.not_false, Bool.not_true, Bool.false_eq_true, if_true, if_false]; obtain ⟨⟨c0, c1, f0, f1, l1, d0, d1⟩, hE⟩ := K.out w2 6 0 (hT1.out.below hB2); replace hE := Mr.hid hE)
      refine bodyPost_ret (v := ans 6 0) (by simp [results, Try.results87, go_sem, ans, d0, d1]) rfl ?_
      exact ⟨rfl, hE.out⟩
    | true =>
      simp only [if_true] at hk
      subst hk
      go_wp2_with (go_at_call 90; refine (whether_any _ _).mono ?_; rintro e w2 ⟨rfl, hB2⟩; unfold ans; simp only [Bool.not_false, Bool.not_true, Bool.false_eq_true, if_true, if_false]; obtain ⟨⟨c0, c1, f0, f1, l1, d0, d1⟩, hE⟩ := K.out w2 5 0 (hT1.out.below hB2); replace hE := Mr.hid hE)
      refine bodyPost_ret (v := ans 5 0) (by simp [results, Try.results87, go_sem, ans, d0, d1]) rfl ?_
      exact ⟨rfl, hE.out⟩
set_option maxRecDepth 100000 in
set_option maxHeartbeats 4000000 in
theorem ans_table {W : World} {S : Nat → Prop} {g : Nat} {t : List (Int × Int)} (ho : Ob W S g 111 81 2 t.length (prs t)) (hsm : t.length * 16 ≤ 281474976710656) (hR : Ris (keysOf t)) (th op arg data beg fin pt ak av : Int) (q : Int × Int) (hq : q = if op = 60 then (if inB (keysOf t) arg then 6 else 5, 0) else getT t arg) :
    Calls Try.prog 98 #[.pointer (some ⟨g, 0, none⟩), .agg #[.int .i64 th, .int .i64 op, .int .i64 arg, .int .i64 data, .int .i64 beg, .int .i64 fin, .int .i64 pt, .int .i64 ak, .int .i64 av]] W fun e w' => e = .returned (ans q.1 q.2) ∧ Below W.heap.size W w' := by
  have ho' := ho
  obtain ⟨v, hS, hg, hO⟩ := ho
  have hgl := (Array.getElem?_eq_some_iff.1 hg).1
  have hT0 := Tq.new W (.cells #[.int .i64 th, .int .i64 op, .int .i64 arg, .int .i64 data, .int .i64 beg, .int .i64 fin, .int .i64 pt, .int .i64 ak, .int .i64 av] 50 (0, 0)) (.cells #[.int .i64 0, .int .i64 0] 31 (0, 0))
  obtain ⟨k1, k2, k3, k4⟩ := nine_cells hT0.2.1
  have C := fun w' (hB : Below W.heap.size W w') => find_any (ho'.kept (T := S) (fun k _ hl => hB.block k hl) (fun k hk _ => hk)) hsm hR arg
  have hpl : inB (keysOf t) arg = true → plc (keysOf t) arg < t.length := fun h => by have := plcM_lt h; unfold keysOf at this ⊢; rwa [List.length_map] at this
  have hG : getT t arg = if inB (keysOf t) arg then (2, (t[plc (keysOf t) arg]?.getD (0, 0)).2) else (6, 0) := rfl
  rw [hG] at hq
  have KT := fun w' (hB : Below ((W.alloc (.cells #[.int .i64 th, .int .i64 op, .int .i64 arg, .int .i64 data, .int .i64 beg, .int .i64 fin, .int .i64 pt, .int .i64 ak, .int .i64 av] 50 (0, 0))).alloc (.cells #[.int .i64 0, .int .i64 0] 31 (0, 0))).heap.size ((W.alloc (.cells #[.int .i64 th, .int .i64 op, .int .i64 arg, .int .i64 data, .int .i64 beg, .int .i64 fin, .int .i64 pt, .int .i64 ak, .int .i64 av] 50 (0, 0))).alloc (.cells #[.int .i64 0, .int .i64 0] 31 (0, 0))) w') => hT0.below hB
  have K := fun (w1 : World) (k v : Int) (hT : Tq W w1 W.heap.size (W.heap.size + 1) (.cells #[.int .i64 th, .int .i64 op, .int .i64 arg, .int .i64 data, .int .i64 beg, .int .i64 fin, .int .i64 pt, .int .i64 ak, .int .i64 av] 50 (0, 0)) (.cells #[.int .i64 0, .int .i64 0] 31 (0, 0))) => (⟨ans_set hT.2.2.1 k v, ans_below hT.1 (by omega : W.heap.size ≤ W.heap.size + 1) k v⟩ : _ ∧ _)
  have hB0 := Mr.hid hT0.1
  obtain ⟨p, hp⟩ : ∃ p, p = plc (keysOf t) arg := ⟨_, rfl⟩
  obtain ⟨b, hb⟩ : ∃ b, b = inB (keysOf t) arg := ⟨_, rfl⟩
  rw [← hb, ← hp] at hq hpl
  rw [← hp, ← hb] at C
  replace KT := Mr.hid KT
  replace K := Mr.hid K
  replace C := Mr.hid C
  clear hp hb hG hT0 ho' hR
  replace hg := Mr.hid hg
  by_cases h : op = 60
  · rw [if_pos h] at hq
    have d1 : (op == 60) = true := by simpa using h
    replace h := Mr.hid h
    clear hO hg hpl
    cases b with
    | false =>
      simp only [Bool.false_eq_true, if_false] at hq
      subst hq
      go_enter Try.func98, Try.ntmps98
      go_wp2_with (first | (go_at_call 99; refine (C.out _ hB0.out).mono ?_; rintro e w1 ⟨rfl, hB⟩; have hT1 := Mr.hid (KT.out w1 hB); clear k1 k2 k3 k4; obtain ⟨k1, k2, k3, k4⟩ := nine_cells hT1.out.2.1) | (go_at_call 90; refine (whether_any _ _).mono ?_; rintro e w2 ⟨rfl, hB2⟩; unfold ans; simp only [Bool.not_false, Bool.not_true, Bool.false_eq_true, if_true, if_false]; obtain ⟨⟨c0, c1, f0, f1, l1, d0, d1⟩, hE⟩ := K.out w2 5 0 (hT1.out.below hB2); replace hE := Mr.hid hE))
      refine bodyPost_ret (v := ans 5 0) (by simp [results, Try.results98, go_sem, ans, d0, d1]) rfl ?_
      exact ⟨rfl, hE.out⟩
    | true =>
      simp only [if_true] at hq
      subst hq
      go_enter Try.func98, Try.ntmps98
      go_wp2_with (first | (go_at_call 99; refine (C.out _ hB0.out).mono ?_; rintro e w1 ⟨rfl, hB⟩; have hT1 := Mr.hid (KT.out w1 hB); clear k1 k2 k3 k4; obtain ⟨k1, k2, k3, k4⟩ := nine_cells hT1.out.2.1) | (go_at_call 90; refine (whether_any _ _).mono ?_; rintro e w2 ⟨rfl, hB2⟩; unfold ans; simp only [Bool.not_false, Bool.not_true, Bool.false_eq_true, if_true, if_false]; obtain ⟨⟨c0, c1, f0, f1, l1, d0, d1⟩, hE⟩ := K.out w2 6 0 (hT1.out.below hB2); replace hE := Mr.hid hE))
      refine bodyPost_ret (v := ans 6 0) (by simp [results, Try.results98, go_sem, ans, d0, d1]) rfl ?_
      exact ⟨rfl, hE.out⟩
  · rw [if_neg h] at hq
    have d1 : (op == 60) = false := by simpa using h
    replace h := Mr.hid h
    cases b with
    | false =>
      simp only [Bool.false_eq_true, if_false] at hq
      subst hq
      clear hO hg hpl
      go_enter Try.func98, Try.ntmps98
      go_wp2_with (first | (go_at_call 99; refine (C.out _ hB0.out).mono ?_; rintro e w1 ⟨rfl, hB⟩; have hT1 := Mr.hid (KT.out w1 hB); clear k1 k2 k3 k4; obtain ⟨k1, k2, k3, k4⟩ := nine_cells hT1.out.2.1) | (go_at_call 81; refine (only_any 6 _).mono ?_; rintro e w2 ⟨rfl, hB2⟩; unfold ans; obtain ⟨⟨c0, c1, f0, f1, l1, d0, d1⟩, hE⟩ := K.out w2 6 0 (hT1.out.below hB2); replace hE := Mr.hid hE))
      refine bodyPost_ret (v := ans 6 0) (by simp [results, Try.results98, go_sem, ans, d0, d1]) rfl ?_
      exact ⟨rfl, hE.out⟩
    | true =>
      simp only [if_true] at hq
      subst hq
      have hpl := hpl rfl
      obtain ⟨g2, o2, cap, cur, rfl, hc, hm, hS2, hg2, hs, hx⟩ := hO.there (by omega)
      have cx := own_cells hg2 hx _ _ (prs_get t p hpl).2
      have hg2l := (Array.getElem?_eq_some_iff.1 hg2).1
      have KC : Hid (∀ w', Below W.heap.size W w' → w'.cell? ⟨g, 0, none⟩ = some (.slice (some ⟨g2, o2, none⟩) t.length cap) ∧ w'.cell? ⟨g2, o2 + p * 2 + 1, none⟩ = some (.int .i64 (t[p]?.getD (0, 0)).2)) := fun w' hB => ⟨(hB.cell (p := ⟨g, 0, none⟩) hgl).trans (cell_blk hg.out 0), (hB.cell (p := ⟨g2, o2 + p * 2 + 1, none⟩) hg2l).trans cx⟩
      generalize (t[p]?.getD (0, 0)).2 = y at *
      have q1 : (0 : Int) ≤ (p : Int) := by omega
      have q2 : (p : Int) < (t.length : Int) := by omega
      clear hO hg hg2 hs hx cx
      go_enter Try.func98, Try.ntmps98
      go_wp2_with (first | (go_at_call 99; refine (C.out _ hB0.out).mono ?_; rintro e w1 ⟨rfl, hB⟩; have hT1 := Mr.hid (KT.out w1 hB); clear k1 k2 k3 k4; obtain ⟨k1, k2, k3, k4⟩ := nine_cells hT1.out.2.1; obtain ⟨e1, e2⟩ := KC.out w1 hT1.out.1) | (go_at_call 82; refine (valueM_any y _).mono ?_; rintro e w2 ⟨rfl, hB2⟩; unfold ans; obtain ⟨⟨c0, c1, f0, f1, l1, d0, d1⟩, hE⟩ := K.out w2 2 y (hT1.out.below hB2); replace hE := Mr.hid hE))
      refine bodyPost_ret (v := ans 2 y) (by simp [results, Try.results98, go_sem, ans, d0, d1]) rfl ?_
      exact ⟨rfl, hE.out⟩
end Go.Proofs.Ytegbcocbopgghab.Md
