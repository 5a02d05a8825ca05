/-
  Package model: slices.Delete of one element.
-/
import Derived.Test.YtegbcocbopgghabMpRun
import Derived.Test.YtegbcocbopgghabMpSearch
namespace Go.Proofs.Ytegbcocbopgghab.Md
open Go.RowKit Mr
set_option linter.unusedVariables false
set_option linter.unusedSimpArgs false
set_option maxRecDepth 100000 in
set_option maxHeartbeats 4000000 in
theorem deleteI_any {w : World} {S : Nat → Prop} {v : Value} {l : List Int} (hv : Own w S 3 1 v l.length (ints l)) (i : Nat) (hi : i < l.length) :
    Calls Try.prog 92 #[v, .int .i64 (i : Int), .int .i64 ((i : Int) + 1)] w fun e w' => ∃ v', e = .returned v' ∧ Own w' S 3 1 v' (l.length - 1) (ints (l.take i ++ l.drop (i + 1))) ∧ Fr w w' S := by
  obtain ⟨i0, hinf, hz0, hz1, hz2⟩ := info_parts mp_int
  obtain ⟨g, o, cap, cur, rfl, hc, hm, hS, hg, hs, hx⟩ := hv.there (by omega)
  have hlen := hv.1
  have h1 := ints_one l
  have hcut := ints_cut l i
  clear hv
  generalize ints (l.take i ++ l.drop (i + 1)) = ys at *
  generalize ints l = xs at *
  generalize l.length = n at *
  unfold maxLen at hm
  have hgl := (Array.getElem?_eq_some_iff.1 hg).1
  -- the append
  obtain ⟨A, hA, hsrc⟩ : ∃ A : Addr, (if cap = i + 1 then some (⟨g, o, none⟩ : Addr) else some ⟨g, o + (i + 1), none⟩) = some A ∧ ∀ t u, (xs.drop ((i + 1) * 1))[t]? = some u → w.drew.cell? (A.add t) = some u := by
    by_cases h : cap = i + 1
    · refine ⟨_, if_pos h, fun t u hu => ?_⟩
      rw [List.getElem?_drop, List.getElem?_eq_none (by omega)] at hu
      cases hu
    · refine ⟨_, if_neg h, fun t u hu => ?_⟩
      rw [List.getElem?_drop] at hu
      have := own_cells hg hx _ u hu
      rw [add1]
      rw [show o + (i + 1) + t = o + ((i + 1) * 1 + t) from by omega]
      exact this
  obtain ⟨cur1, hcur1⟩ : ∃ c1, c1 = (cur.toList.take (o + i * i0.size) ++ xs.drop ((i + 1) * 1) ++ cur.toList.drop (o + i * i0.size + (xs.drop ((i + 1) * 1)).length)).toArray := ⟨_, rfl⟩
  have hr1 := fun ty => run_append_at (P := Try.prog) w.drew 22 ty 3 3 i0 Try.underlying22 hinf g o i cap cur hg A (n - (i + 1)) (cap - (i + 1)) (xs.drop ((i + 1) * 1)) (by rw [hz1, List.length_drop, hlen, Nat.sub_mul]) hsrc (fun u hu => h1 u (List.mem_of_mem_drop hu)) (by omega) (by rw [hz1, List.length_drop]; omega)
  rw [← hcur1] at hr1
  have hg1 : (w.drew.setRow g cur1).heap[g]? = some (.cells cur1 3 (0, 0)) := setRow_heap w.drew g cur _ _ _ hg
  have hs1 : cur1.size = cur.size := by
    rw [hcur1, hz1]
    have := seg_size cur.toList (xs.drop ((i + 1) * 1)) (o + i * 1) (by rw [List.length_drop]; simp; omega)
    simpa using this
  have hx1 : (cur1.toList.drop o).take ((n - 1) * 1) = ys := by
    have h2 := seg_put cur.toList o (i * 1) (xs.drop ((i + 1) * 1)) (xs.take (i * 1)) (seg_take _ _ _ _ _ hx (by omega)) (by rw [List.length_take]; omega) (by rw [List.length_drop]; simp; omega)
    rw [hcur1, hz1, ← hcut]
    rw [List.length_drop, hlen] at h2
    rw [List.length_drop, hlen]
    rw [show (n - 1) * 1 = i * 1 + (n * 1 - (i + 1) * 1) from by omega]
    simpa using h2
  -- the clearing
  have hr2 := fun ty c => run_clear_at (P := Try.prog) (w.drew.setRow g cur1) 22 3 3 ty (.int .i64 0) Try.underlying22 (fun w => by simp [zeroValue, typeInfo, hinf, hz0]) g (o + (n - 1)) 1 c (by omega) cur1 [Value.int .i64 0] (by kernel_rfl) hg1 (by simp; omega) (by intro u hu; simp at hu; subst hu; rfl)
  obtain ⟨cur2, hcur2⟩ : ∃ c2, c2 = (cur1.toList.take (o + (n - 1)) ++ [Value.int .i64 0] ++ cur1.toList.drop (o + (n - 1) + ([Value.int .i64 0] : List Value).length)).toArray := ⟨_, rfl⟩
  rw [← hcur2] at hr2
  have hE : (Own ((w.drew.setRow g cur1).setRow g cur2) S 3 1 (.slice (some ⟨g, o, none⟩) (n - 1) cap) (n - 1) ys ∧ Fr w ((w.drew.setRow g cur1).setRow g cur2) S) := by
    refine ⟨⟨by rw [← hcut, List.length_append, List.length_take, List.length_drop, hlen]; omega, _, cap, rfl, by omega, by unfold maxLen; omega, .inr ⟨g, o, cur2, rfl, hS, setRow_heap _ g cur1 _ _ _ hg1, ?_, ?_⟩⟩, ?_⟩
    · rw [hcur2]
      have := seg_size cur1.toList [Value.int .i64 0] (o + (n - 1)) (by simp; omega)
      simp only [List.size_toArray]
      rw [this]
      simp; omega
    · rw [hcur2]
      have := seg_keep cur1.toList [Value.int .i64 0] o ((n - 1) * 1) (o + (n - 1)) (o + (n - 1) + ([Value.int .i64 0] : List Value).length) (by omega) (by simp; omega)
      rw [this]
      exact hx1
    · exact (Fr.refl w S).drew.trans ((setRow_fr (Or.inl hS) _).trans (setRow_fr (Or.inl (Or.inl hS)) _))
  clear hcur1 hcur2 hx1 hs1 hg1 hsrc hx hs hg hcut h1 hlen
  have q1 : (0 : Int) ≤ (i : Int) := by omega
  have q2 : (i : Int) ≤ (i : Int) + 1 := by omega
  have q3 : (i : Int) + 1 ≤ (n : Int) := by omega
  have q4 : (n : Int) ≤ (cap : Int) := by omega
  have q5 : (i : Int) ≤ (cap : Int) := by omega
  have q6 : ¬ ((i : Int) = (i : Int) + 1) := by omega
  have q7 : ((i : Int) == (i : Int) + 1) = false := by simpa using q6
  have q8 : (0 : Int) ≤ (i : Int) + 1 := by omega
  obtain ⟨k, rfl⟩ : ∃ k, n = k + 1 := ⟨n - 1, by omega⟩
  simp only [Nat.add_sub_cancel, Nat.add_sub_add_right] at hr1 hr2 hE ⊢
  rw [show i + (k - i) = k from by omega] at hr1
  have q9 : (0 : Int) ≤ (k : Int) := by omega
  have qa : (k : Int) ≤ (k : Int) + 1 := by omega
  have qb : (k : Int) + 1 ≤ (cap : Int) := by omega
  have qc : ¬ cap = k := by omega
  have qd : i ≤ k := by omega
  replace hr1 := Mr.hid hr1
  replace hr2 := Mr.hid hr2
  replace hE := Mr.hid hE
  go_enter Try.func92, Try.ntmps92
  go_wp2
  go_region_law (first | (refine step_run2 _ rfl (.tmp 22) (.tmp 25) 22 22 (.slice (some ⟨g, o, none⟩) i cap) (.slice (some A) (k - i) (cap - (i + 1))) _ _ rfl (by simp [Act.eval, Act.put]) (by simp [Act.eval, Act.put, hA]) (hr1.out _) ?_))
  all_goals
    have hr3 := hr2.out 0
    go_wp2
    go_ret
    exact ⟨_, rfl, hE.out.1, hE.out.2⟩
set_option maxRecDepth 100000 in
set_option maxHeartbeats 4000000 in
theorem deleteP_any {w : World} {S : Nat → Prop} {v : Value} {l : List (Int × Int)} (hv : Own w S 81 2 v l.length (prs l)) (i : Nat) (hi : i < l.length) :
    Calls Try.prog 103 #[v, .int .i64 (i : Int), .int .i64 ((i : Int) + 1)] w fun e w' => ∃ v', e = .returned v' ∧ Own w' S 81 2 v' (l.length - 1) (prs (l.take i ++ l.drop (i + 1))) ∧ Fr w w' S := by
  obtain ⟨i0, hinf, hz0, hz1, hz2⟩ := info_parts mp_pair
  obtain ⟨g, o, cap, cur, rfl, hc, hm, hS, hg, hs, hx⟩ := hv.there (by omega)
  have hlen := hv.1
  have h1 := prs_one l
  have hcut := prs_cut l i
  clear hv
  generalize prs (l.take i ++ l.drop (i + 1)) = ys at *
  generalize prs l = xs at *
  generalize l.length = n at *
  unfold maxLen at hm
  have hgl := (Array.getElem?_eq_some_iff.1 hg).1
  -- the append
  obtain ⟨A, hA, hsrc⟩ : ∃ A : Addr, (if cap = i + 1 then some (⟨g, o, none⟩ : Addr) else some ⟨g, o + (i + 1) * 2, none⟩) = some A ∧ ∀ t u, (xs.drop ((i + 1) * 2))[t]? = some u → w.drew.cell? (A.add t) = some u := by
    by_cases h : cap = i + 1
    · refine ⟨_, if_pos h, fun t u hu => ?_⟩
      rw [List.getElem?_drop, List.getElem?_eq_none (by omega)] at hu
      cases hu
    · refine ⟨_, if_neg h, fun t u hu => ?_⟩
      rw [List.getElem?_drop] at hu
      have := own_cells hg hx _ u hu
      rw [add1]
      rw [show o + (i + 1) * 2 + t = o + ((i + 1) * 2 + t) from by omega]
      exact this
  obtain ⟨cur1, hcur1⟩ : ∃ c1, c1 = (cur.toList.take (o + i * i0.size) ++ xs.drop ((i + 1) * 2) ++ cur.toList.drop (o + i * i0.size + (xs.drop ((i + 1) * 2)).length)).toArray := ⟨_, rfl⟩
  have hr1 := fun ty => run_append_at (P := Try.prog) w.drew 23 ty 81 81 i0 Try.underlying23 hinf g o i cap cur hg A (n - (i + 1)) (cap - (i + 1)) (xs.drop ((i + 1) * 2)) (by rw [hz1, List.length_drop, hlen, Nat.sub_mul]) hsrc (fun u hu => h1 u (List.mem_of_mem_drop hu)) (by omega) (by rw [hz1, List.length_drop]; omega)
  rw [← hcur1] at hr1
  have hg1 : (w.drew.setRow g cur1).heap[g]? = some (.cells cur1 81 (0, 0)) := setRow_heap w.drew g cur _ _ _ hg
  have hs1 : cur1.size = cur.size := by
    rw [hcur1, hz1]
    have := seg_size cur.toList (xs.drop ((i + 1) * 2)) (o + i * 2) (by rw [List.length_drop]; simp; omega)
    simpa using this
  have hx1 : (cur1.toList.drop o).take ((n - 1) * 2) = ys := by
    have h2 := seg_put cur.toList o (i * 2) (xs.drop ((i + 1) * 2)) (xs.take (i * 2)) (seg_take _ _ _ _ _ hx (by omega)) (by rw [List.length_take]; omega) (by rw [List.length_drop]; simp; omega)
    rw [hcur1, hz1, ← hcut]
    rw [List.length_drop, hlen] at h2
    rw [List.length_drop, hlen]
    rw [show (n - 1) * 2 = i * 2 + (n * 2 - (i + 1) * 2) from by omega]
    simpa using h2
  -- the clearing
  have hr2 := fun ty c => run_clear_at (P := Try.prog) (w.drew.setRow g cur1) 23 81 81 ty (.agg #[.int .i64 0, .int .i64 0]) Try.underlying23 (fun w => by simp [zeroValue, typeInfo, hinf, hz0]) g (o + (n - 1) * 2) 1 c (by omega) cur1 [Value.int .i64 0, Value.int .i64 0] (by kernel_rfl) hg1 (by simp; omega) (by intro u hu; simp at hu; rcases hu with rfl | rfl <;> rfl)
  obtain ⟨cur2, hcur2⟩ : ∃ c2, c2 = (cur1.toList.take (o + (n - 1) * 2) ++ [Value.int .i64 0, Value.int .i64 0] ++ cur1.toList.drop (o + (n - 1) * 2 + ([Value.int .i64 0, Value.int .i64 0] : List Value).length)).toArray := ⟨_, rfl⟩
  rw [← hcur2] at hr2
  have hE : (Own ((w.drew.setRow g cur1).setRow g cur2) S 81 2 (.slice (some ⟨g, o, none⟩) (n - 1) cap) (n - 1) ys ∧ Fr w ((w.drew.setRow g cur1).setRow g cur2) S) := by
    refine ⟨⟨by rw [← hcut, List.length_append, List.length_take, List.length_drop, hlen]; omega, _, cap, rfl, by omega, by unfold maxLen; omega, .inr ⟨g, o, cur2, rfl, hS, setRow_heap _ g cur1 _ _ _ hg1, ?_, ?_⟩⟩, ?_⟩
    · rw [hcur2]
      have := seg_size cur1.toList [Value.int .i64 0, Value.int .i64 0] (o + (n - 1) * 2) (by simp; omega)
      simp only [List.size_toArray]
      rw [this]
      simp; omega
    · rw [hcur2]
      have := seg_keep cur1.toList [Value.int .i64 0, Value.int .i64 0] o ((n - 1) * 2) (o + (n - 1) * 2) (o + (n - 1) * 2 + ([Value.int .i64 0, Value.int .i64 0] : List Value).length) (by omega) (by simp; omega)
      rw [this]
      exact hx1
    · exact (Fr.refl w S).drew.trans ((setRow_fr (Or.inl hS) _).trans (setRow_fr (Or.inl (Or.inl hS)) _))
  clear hcur1 hcur2 hx1 hs1 hg1 hsrc hx hs hg hcut h1 hlen
  have q1 : (0 : Int) ≤ (i : Int) := by omega
  have q2 : (i : Int) ≤ (i : Int) + 1 := by omega
  have q3 : (i : Int) + 1 ≤ (n : Int) := by omega
  have q4 : (n : Int) ≤ (cap : Int) := by omega
  have q5 : (i : Int) ≤ (cap : Int) := by omega
  have q6 : ¬ ((i : Int) = (i : Int) + 1) := by omega
  have q7 : ((i : Int) == (i : Int) + 1) = false := by simpa using q6
  have q8 : (0 : Int) ≤ (i : Int) + 1 := by omega
  obtain ⟨k, rfl⟩ : ∃ k, n = k + 1 := ⟨n - 1, by omega⟩
  simp only [Nat.add_sub_cancel, Nat.add_sub_add_right] at hr1 hr2 hE ⊢
  rw [show i + (k - i) = k from by omega] at hr1
  have q9 : (0 : Int) ≤ (k : Int) := by omega
  have qa : (k : Int) ≤ (k : Int) + 1 := by omega
  have qb : (k : Int) + 1 ≤ (cap : Int) := by omega
  have qc : ¬ cap = k := by omega
  have qd : i ≤ k := by omega
  replace hr1 := Mr.hid hr1
  replace hr2 := Mr.hid hr2
  replace hE := Mr.hid hE
  go_enter Try.func103, Try.ntmps103
  go_wp2
  go_region_law (first | (refine step_run2 _ rfl (.tmp 22) (.tmp 25) 23 23 (.slice (some ⟨g, o, none⟩) i cap) (.slice (some A) (k - i) (cap - (i + 1))) _ _ rfl (by simp [Act.eval, Act.put]) (by simp [Act.eval, Act.put, hA]) (hr1.out _) ?_))
  all_goals
    have hr3 := hr2.out 0
    go_wp2
    go_ret
    exact ⟨_, rfl, hE.out.1, hE.out.2⟩
set_option maxRecDepth 100000 in
set_option maxHeartbeats 2000000 in
theorem find_any {W : World} {S : Nat → Prop} {g : Nat} {t : List (Int × Int)} (ho : Ob W S g 111 81 2 t.length (prs t)) (hsm : t.length * 16 ≤ 281474976710656) (hR : Ris (keysOf t)) (x : Int) :
    Calls Try.prog 99 #[.pointer (some ⟨g, 0, none⟩), .int .i64 x] W fun e w' => e = .returned (.tuple #[.int .i64 (plc (keysOf t) x : Nat), .bool (inB (keysOf t) x)]) ∧ Below W.heap.size W w' := by
  obtain ⟨v, hS, hg, hO⟩ := ho
  have hgl := (Array.getElem?_eq_some_iff.1 hg).1
  have cg : W.cell? ⟨g, 0, none⟩ = some v := cell_blk hg 0
  have C := bsP_any hO.sl hsm hR x
  obtain ⟨a, c, rfl, _, _⟩ := hO.form
  replace C := Mr.hid C
  clear hg hO hR
  go_enter Try.func99, Try.ntmps99
  go_wp2_with (go_at_call 101; refine C.out.mono ?_; rintro e w1 ⟨rfl, hB⟩)
  go_ret2
  exact ⟨rfl, hB⟩
end Go.Proofs.Ytegbcocbopgghab.Md
