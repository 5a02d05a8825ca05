import Derived.Test.YtegbcocbopgghacJ18
import Derived.Lib.Overlaps
import Derived.Lib.AppendZerosOnto
import Derived.Laws.Externs
import Derived.Test.YtegbcocbopgghacJ16
import Derived.Deep.RegionHeldLaw
import Derived.Deep.RegionLaw
/-
  Package model: slices.Insert of one element.
-/
namespace Go.Proofs.Ytegbcocbopgghac.Md
open Go.RowKit Go.Lib Mr
set_option linter.unusedVariables false
set_option linter.unusedSimpArgs false
theorem seg_mid (cur X Y D vs : List Value) (o : Nat) (h : (cur.drop o).take (X.length + Y.length + D.length) = X ++ Y ++ D) (hv : vs.length = Y.length) (hl : o + X.length + Y.length + D.length ≤ cur.length) :
    ((cur.take (o + X.length) ++ vs ++ cur.drop (o + X.length + vs.length)).drop o).take (X.length + vs.length + D.length) = X ++ vs ++ D := by
  have e1 : cur.take (o + X.length) = cur.take o ++ X := by
    rw [List.take_add]
    have := seg_take cur (X ++ Y ++ D) o _ X.length h (by omega)
    rw [this, List.append_assoc, List.take_left]
  have e2 : (cur.drop (o + X.length + vs.length)).take D.length = D := by
    have h2 : ((cur.drop o).take (X.length + Y.length + D.length)).drop (X.length + Y.length) = D := by
      rw [h, List.drop_append_of_le_length (by simp), List.drop_of_length_le (by simp), List.nil_append]
    rw [List.drop_take, List.drop_drop] at h2
    rw [hv, show o + X.length + Y.length = o + (X.length + Y.length) from by omega]
    rw [show X.length + Y.length + D.length - (X.length + Y.length) = D.length from by omega] at h2
    exact h2
  have lo : (cur.take o).length = o := by rw [List.length_take]; omega
  rw [e1, List.append_assoc, List.append_assoc, List.drop_append_of_le_length (by omega), List.drop_of_length_le (by omega), List.nil_append, ← List.append_assoc]
  rw [show X.length + vs.length + D.length = (X ++ vs).length + D.length from by simp, List.take_length_add_append, e2]
theorem mid_len (cur : List Value) (p : Nat) (vs : List Value) (h : p + vs.length ≤ cur.length) : (cur.take p ++ vs ++ cur.drop (p + vs.length)).length = cur.length := by simp; omega
theorem ints_ins (l : List Int) (i : Nat) (x : Int) : (ints l).take (i * 1) ++ [.int .i64 x] ++ (ints l).drop (i * 1) = ints (l.take i ++ x :: l.drop i) := by simp [ints]
theorem prs_ins (l : List (Int × Int)) (i : Nat) (x : Int × Int) : (prs l).take (i * 2) ++ [.int .i64 x.1, .int .i64 x.2] ++ (prs l).drop (i * 2) = prs (l.take i ++ x :: l.drop i) := by
  rw [prsM_take, prsM_drop]
  simp [prs, pr]
set_option maxRecDepth 100000 in
set_option maxHeartbeats 4000000 in
theorem insertI_end {w : World} {S : Nat → Prop} {v : Value} {l : List Int} (hv : Own w S 3 1 v l.length (ints l)) (hsm : l.length * 8 ≤ 225000000000000) {bv : Nat} (x : Int) (hb : w.heap[bv]? = some (.cells #[.int .i64 x] 3 (0, 0))) :
    Calls Try.prog 76 #[v, .int .i64 (l.length : Int), .slice (some ⟨bv, 0, none⟩) 1 1] w fun e w' => ∃ v', e = .returned v' ∧ Own w' (fun k => S k ∨ w.heap.size ≤ k) 3 1 v' (l.length + 1) (ints (l.take l.length ++ x :: l.drop l.length)) ∧ Fr w w' S := by
  obtain ⟨i0, hinf, hz0, hz1, hz2⟩ := info_parts mp_int
  have hcut := ints_ins l l.length x
  have hlen := hv.1
  obtain ⟨a, cap, rfl, hc, hm⟩ := hv.form
  have hnews : ∀ ad, some (⟨bv, 0, none⟩ : Addr) = some ad → ∀ j u, ([Value.int .i64 x])[j]? = some u → w.cell? (ad.add j) = some u := by
    rintro ad e j u hu
    cases e
    rw [add1, Nat.zero_add, cell_blk hb]
    simpa using hu
  rw [← hlen, List.take_of_length_le (Nat.le_refl _), List.drop_of_length_le (Nat.le_refl _), List.append_nil] at hcut
  rw [← hcut]
  clear hcut
  generalize ints l = xs at *
  generalize l.length = n at *
  unfold maxLen at hm
  have q1 : (0 : Int) ≤ (n : Int) := by omega
  have q2 : (n : Int) ≤ (cap : Int) := by omega
  replace hv := Mr.hid hv
  replace hnews := Mr.hid hnews
  replace hlen := Mr.hid hlen
  clear hb
  go_enter Try.func76, Try.ntmps76
  go_wp2_with (at_builtin; refine wpList_append_mine _ rfl (.tmp 23) (.tmp 24) 22 rfl S 3 i0 _ 1 8 Try.underlying22 hinf hz0 hz1 hz2 rfl (.slice a n cap) n xs rfl hv.out (some ⟨bv, 0, none⟩) 1 1 [Value.int .i64 x] rfl rfl (fun e => by cases e) hnews.out (by simp [Value.oneCell']) (by unfold maxLen; omega) (by omega) ?_; intro b' cap' w1 hown hfr)
  all_goals
    go_ret
    exact ⟨_, rfl, hown.mono (fun k h => h.imp id (fun e => by omega)), hfr⟩
set_option maxRecDepth 100000 in
set_option maxHeartbeats 4000000 in
theorem insertI_room {w : World} {S : Nat → Prop} {g o cap : Nat} {l : List Int} (hv : Own w S 3 1 (.slice (some ⟨g, o, none⟩) l.length cap) l.length (ints l)) (i : Nat) (hi : i < l.length) (hroom : l.length + 1 ≤ cap) {bv : Nat} (x : Int) (hb : w.heap[bv]? = some (.cells #[.int .i64 x] 3 (0, 0))) (hbS : ¬ S bv) :
    Calls Try.prog 76 #[.slice (some ⟨g, o, none⟩) l.length cap, .int .i64 (i : Int), .slice (some ⟨bv, 0, none⟩) 1 1] w fun e w' => ∃ v', e = .returned v' ∧ Own w' (fun k => S k ∨ w.heap.size ≤ k) 3 1 v' (l.length + 1) (ints (l.take i ++ x :: l.drop i)) ∧ Fr w w' S := by
  obtain ⟨i0, hinf, hz0, hz1, hz2⟩ := info_parts mp_int
  have hcut := ints_ins l i x
  have hlen := hv.1
  have h1 := ints_one l
  obtain ⟨g', o', cap', cur, hvv, hc, hm, hS, hg, hs, hx⟩ := hv.there (by omega)
  cases hvv
  rw [← hcut]
  clear hcut hv
  generalize ints l = xs at *
  generalize l.length = n at *
  unfold maxLen at hm
  have hne : bv ≠ g := fun e => hbS (e ▸ hS)
  have hgl := (Array.getElem?_eq_some_iff.1 hg).1
  have hbl := (Array.getElem?_eq_some_iff.1 hb).1
  have hov : ∀ lb cb, (callFunc 80 #[.slice (some ⟨bv, 0, none⟩) 1 1, .slice (some ⟨g, o + (i + 1), none⟩) lb cb]).run Try.prog w = .ok (.value (.bool false)) w := fun lb cb => by
    rw [run_callFunc_extern Try.func80 (by kernel_rfl) (by kernel_rfl) (by kernel_rfl) (e := Extern.SlicesOverlaps.overlaps #[22, 22] #[4]) (by kernel_rfl),
      Lib.run_overlaps_apart w 22 4 3 Try.underlying22 1 (fun w => by simp [Go.sizeOf, typeInfo, hinf, hz1]) ⟨bv, 0, none⟩ ⟨g, o + (i + 1), none⟩ 1 1 lb cb hne 3 3 1 cur.size (by simp [World.shape?, hb]) (by simp [World.shape?, hg]) (by omega) (by simp [World.frozen?, hb]) (by simp [World.frozen?, hb])]
    rfl
  obtain ⟨D, hD⟩ : ∃ D, D = xs.drop (i * 1) := ⟨_, rfl⟩
  have hDl : D.length = (n - i) * 1 := by rw [hD, List.length_drop, hlen]; omega
  obtain ⟨cur1, hcur1⟩ : ∃ c1, c1 = (cur.toList.take (o + (i + 1)) ++ D ++ cur.toList.drop (o + (i + 1) + D.length)).toArray := ⟨_, rfl⟩
  have hr1 := fun ty => run_copy_at (P := Try.prog) w.drew 22 22 ty 3 3 i0 Try.underlying22 hinf g (o + (i + 1)) (n - i) (cap - (i + 1)) ⟨g, o + i, none⟩ (n + 1 - i) (cap - i) cur D hg (by rw [hDl, hz1, show Nat.min (n + 1 - i) (n - i) = n - i from Nat.min_eq_right (by omega)]) (fun j v hj => by
    rw [hD, List.getElem?_drop] at hj
    have := own_cells hg hx _ v hj
    rw [add1, show o + i + j = o + (i * 1 + j) from by omega]
    exact this) (by rw [hDl]; omega) (fun u hu => h1 u (by rw [hD] at hu; exact List.mem_of_mem_drop hu))
  rw [← hcur1] at hr1
  have hg1 : (w.drew.setRow g cur1).heap[g]? = some (.cells cur1 3 (0, 0)) := setRow_heap w.drew g cur _ _ _ hg
  have hb1 : (w.drew.setRow g cur1).heap[bv]? = some (.cells #[.int .i64 x] 3 (0, 0)) := (setRow_other w.drew g bv _ hne).trans hb
  have hs1 : cur1.size = cur.size := by
    rw [hcur1]
    have := mid_len cur.toList (o + (i + 1)) D (by rw [hDl]; simp; omega)
    simpa using this
  obtain ⟨cur2, hcur2⟩ : ∃ c2, c2 = (cur1.toList.take (o + i) ++ [Value.int .i64 x] ++ cur1.toList.drop (o + i + ([Value.int .i64 x]).length)).toArray := ⟨_, rfl⟩
  have hr2 := fun ty => run_copy_at (P := Try.prog) (w.drew.setRow g cur1) 22 22 ty 3 3 i0 Try.underlying22 hinf g (o + i) (n + 1 - i) (cap - i) ⟨bv, 0, none⟩ 1 1 cur1 [Value.int .i64 x] hg1 (by rw [hz1, show Nat.min 1 (n + 1 - i) = 1 from Nat.min_eq_left (by omega)]; rfl) (fun j v hj => by
    rw [add1, Nat.zero_add, cell_blk hb1]
    simpa using hj) (by simp; omega) (by simp [Value.oneCell'])
  rw [← hcur2] at hr2
  have hE : (Own ((w.drew.setRow g cur1).setRow g cur2) (fun k => S k ∨ w.heap.size ≤ k) 3 1 (.slice (some ⟨g, o, none⟩) (n + 1) cap) (n + 1) (xs.take (i * 1) ++ [Value.int .i64 x] ++ xs.drop (i * 1)) ∧ Fr w ((w.drew.setRow g cur1).setRow g cur2) S) := by
    refine ⟨⟨by simp [hlen]; omega, _, cap, rfl, hroom, by unfold maxLen; omega, .inr ⟨g, o, cur2, rfl, .inl hS, setRow_heap _ g cur1 _ _ _ hg1, ?_, ?_⟩⟩, ?_⟩
    · rw [hcur2]
      have := mid_len cur1.toList (o + i) [Value.int .i64 x] (by simp; omega)
      simp only [List.size_toArray]
      rw [this]
      simp; omega
    · obtain ⟨Y, hY⟩ : ∃ Y, Y = (cur.toList.drop (o + i * 1)).take 1 := ⟨_, rfl⟩
      have hYl : Y.length = 1 := by rw [hY, List.length_take, List.length_drop]; simp; omega
      have hXl : (xs.take (i * 1)).length = i * 1 := by rw [List.length_take]; omega
      have p1 : (cur.toList.drop o).take (i * 1 + 1) = xs.take (i * 1) ++ Y := by
        rw [List.take_add, seg_take _ _ _ _ _ hx (by omega), List.drop_drop, hY]
      have p2 := seg_put cur.toList o (i * 1 + 1) D (xs.take (i * 1) ++ Y) p1 (by rw [List.length_append, hXl, hYl]) (by rw [hDl]; simp; omega)
      have p3 := seg_mid cur1.toList (xs.take (i * 1)) Y D [Value.int .i64 x] o (by
        rw [hcur1, hXl, hYl]
        simpa [show o + (i * 1 + 1) = o + (i + 1) from by omega] using p2) (by rw [hYl]; rfl) (by rw [hXl, hYl, hDl]; simp; omega)
      rw [hXl, hDl] at p3
      rw [hcur2, ← hD]
      rw [show (n + 1) * 1 = i * 1 + ([Value.int .i64 x]).length + (n - i) * 1 from by simp; omega]
      simpa using p3
    · exact (Fr.refl w S).drew.trans ((setRow_fr (Or.inl hS) _).trans (setRow_fr (Or.inl (Or.inl hS)) _))
  clear hcur1 hcur2 hs1 hg1 hb1 hx hs hg hb hD hDl h1 hlen
  have q1 : (0 : Int) ≤ (i : Int) := by omega
  have q2 : (i : Int) ≤ (n : Int) := by omega
  have q3 : (n : Int) ≤ (cap : Int) := by omega
  have q4 : ((i : Int) == (n : Int)) = false := by simp; omega
  have q5 : ¬ ((cap : Int) < (n : Int) + 1) := by omega
  have q6 : (n : Int) + 1 ≤ (cap : Int) := by omega
  have q7 : (0 : Int) ≤ (i : Int) + 1 := by omega
  have q8 : (i : Int) + 1 ≤ (n : Int) + 1 := by omega
  have q9 : (0 : Int) ≤ (n : Int) + 1 := by omega
  have qa : ¬ cap = i + 1 := by omega
  have qb : ¬ cap = i := by omega
  have qc : (i : Int) ≤ (n : Int) + 1 := by omega
  have qd : i ≤ n := by omega
  have qe : i ≤ n + 1 := by omega
  have ew1 : IntKind.i64.wrap ((i : Int) + 1) = (i : Int) + 1 := i64w _ (by omega) (by omega)
  have ew2 : IntKind.i64.wrap ((n : Int) + 1) = (n : Int) + 1 := i64w _ (by omega) (by omega)
  replace hr1 := Mr.hid hr1
  replace hr2 := Mr.hid hr2
  replace hE := Mr.hid hE
  go_enter Try.func76, Try.ntmps76
  go_wp2_with (simp only [hov])
  go_region_law (first | (refine step_copy2 _ rfl (.tmp 73) (.tmp 76) 22 22 (.slice (some ⟨g, o + (i + 1), none⟩) (n - i) (cap - (i + 1))) (.slice (some ⟨g, o + i, none⟩) (n + 1 - i) (cap - i)) _ _ rfl (by simp [Act.eval, Act.put]) (by simp [Act.eval, Act.put]) (hr1.out _) ?_))
  all_goals
    have hr3 := hr2.out 3
    go_wp2
    go_ret
    exact ⟨_, rfl, hE.out.1, hE.out.2⟩
set_option maxRecDepth 100000 in
set_option maxHeartbeats 4000000 in
theorem insertI_grow {w : World} {S : Nat → Prop} {g o cap : Nat} {l : List Int} (hv : Own w S 3 1 (.slice (some ⟨g, o, none⟩) l.length cap) l.length (ints l)) (hsm : l.length * 8 ≤ 225000000000000) (i : Nat) (hi : i < l.length) (hroom : cap < l.length + 1) {bv : Nat} (x : Int) (hb : w.heap[bv]? = some (.cells #[.int .i64 x] 3 (0, 0))) :
    Calls Try.prog 76 #[.slice (some ⟨g, o, none⟩) l.length cap, .int .i64 (i : Int), .slice (some ⟨bv, 0, none⟩) 1 1] w fun e w' => ∃ v', e = .returned v' ∧ Own w' (fun k => S k ∨ w.heap.size ≤ k) 3 1 v' (l.length + 1) (ints (l.take i ++ x :: l.drop i)) ∧ Fr w w' S := by
  obtain ⟨i0, hinf, hz0, hz1, hz2⟩ := info_parts mp_int
  have hcut := ints_ins l i x
  have hlen := hv.1
  have h1 := ints_one l
  obtain ⟨g', o', cap', cur, hvv, hc, hm, hS, hg, hs, hx⟩ := hv.there (by omega)
  cases hvv
  rw [← hcut]
  clear hcut hv
  generalize ints l = xs at *
  generalize l.length = n at *
  unfold maxLen at hm
  obtain rfl : cap = n := by omega
  have hgl := (Array.getElem?_eq_some_iff.1 hg).1
  have hbl := (Array.getElem?_eq_some_iff.1 hb).1
  obtain ⟨X, hX⟩ : ∃ X, X = xs.take (i * 1) := ⟨_, rfl⟩
  have hXl : X.length = i * 1 := by rw [hX, List.length_take]; omega
  obtain ⟨D, hD⟩ : ∃ D, D = xs.drop (i * 1) := ⟨_, rfl⟩
  have hDl : D.length = (cap - i) * 1 := by rw [hD, List.length_drop, hlen]; omega
  have hr0 := run_append_grow_zeros (P := Try.prog) w 22 3 22 3 i0 _ .i64 .i64 Try.underlying22 Try.underlying3 hinf hz0 (some ⟨g, o, none⟩) i cap X
    (run_firstCells_some (P := Try.prog) w.drew i0.size i ⟨g, o, none⟩ i cap X (by rw [hXl, hz1]) (fun j u hu => by
      rw [hX, List.getElem?_take] at hu
      split at hu
      · rw [add1]; exact own_cells hg hx j u hu
      · cases hu)) (cap + 1 - i) (by omega) (by omega) (by omega) (by omega) (by rw [hz2]; omega) (growslice_fits_wide (by omega) (by rw [hz2]; omega))
  rw [show i + (cap + 1 - i) = cap + 1 from by omega, show (((cap + 1 - i : Nat)) : Int) = (cap : Int) + 1 - (i : Int) from by omega] at hr0
  have hC1 := grownCap_ge w (cap + 1) cap 3
  have hC2 := grownCap_le_maxLen w (cap + 1) cap 3 (by unfold maxLen; omega)
  generalize grownCap w (cap + 1) cap 3 = C at *
  obtain ⟨cur0, hcur0⟩ : ∃ c0, c0 = X.toArray ++ Builtin.zeroCells (Value.int .i64 0 : Value).cells (cap + 1 - i) ++ Builtin.zeroCells (Value.int .i64 0 : Value).cells (C - (cap + 1)) := ⟨_, rfl⟩
  rw [← hcur0] at hr0
  have hs0 : cur0.size = C * 1 := by
    rw [hcur0, Array.size_append, Array.size_append, size_zeroCells, size_zeroCells]
    simp only [List.size_toArray, hXl]
    show i * 1 + (cap + 1 - i) * 1 + (C - (cap + 1)) * 1 = C * 1
    omega
  have hx0 : (cur0.toList.drop 0).take (i * 1) = X := by
    rw [hcur0, List.drop_zero, Array.append_assoc, Array.toList_append, ← hXl]
    exact List.take_left
  unfold maxLen at hC2
  have hg0 : (w.drew.alloc (.cells cur0 3 (0, 0))).heap[w.heap.size]? = some (.cells cur0 3 (0, 0)) := heap_alloc_new w.drew _
  have hbv0 : (w.drew.alloc (.cells cur0 3 (0, 0))).heap[bv]? = some (.cells #[.int .i64 x] 3 (0, 0)) := (Below.heap_alloc w.drew _ bv hbl).trans hb
  have hgg0 : (w.drew.alloc (.cells cur0 3 (0, 0))).heap[g]? = some (.cells cur 3 (0, 0)) := (Below.heap_alloc w.drew _ g hgl).trans hg
  have hF0 : Fr w (w.drew.alloc (.cells cur0 3 (0, 0))) S := (Fr.refl w S).drew.alloc _
  generalize w.drew.alloc (.cells cur0 3 (0, 0)) = W1 at *
  obtain ⟨cur1, hcur1⟩ : ∃ c1, c1 = (cur0.toList.take (i) ++ [Value.int .i64 x] ++ cur0.toList.drop (i + ([Value.int .i64 x]).length)).toArray := ⟨_, rfl⟩
  have hr1 := run_copy_at (P := Try.prog) W1 22 22 3 3 3 i0 Try.underlying22 hinf w.heap.size (i) (cap + 1 - i) (C - i) ⟨bv, 0, none⟩ 1 1 cur0 [Value.int .i64 x] hg0 (by rw [hz1, show Nat.min 1 (cap + 1 - i) = 1 from Nat.min_eq_left (by omega)]; rfl) (fun j v hj => by
    rw [add1, Nat.zero_add, cell_blk hbv0]
    simpa using hj) (by rw [hs0]; simp; omega) (by simp [Value.oneCell'])
  rw [← hcur1] at hr1
  have hg1 : (W1.setRow w.heap.size cur1).heap[w.heap.size]? = some (.cells cur1 3 (0, 0)) := setRow_heap W1 w.heap.size cur0 _ _ _ hg0
  have hgg1 : (W1.setRow w.heap.size cur1).heap[g]? = some (.cells cur 3 (0, 0)) := (setRow_other W1 w.heap.size g _ (by omega)).trans hgg0
  have hs1 : cur1.size = C * 1 := by
    rw [hcur1, ← hs0]
    have := mid_len cur0.toList (i) [Value.int .i64 x] (by simp [hs0]; omega)
    simpa using this
  obtain ⟨cur2, hcur2⟩ : ∃ c2, c2 = (cur1.toList.take ((i + 1)) ++ D ++ cur1.toList.drop ((i + 1) + D.length)).toArray := ⟨_, rfl⟩
  have hr2 := fun ty => run_copy_at (P := Try.prog) (W1.setRow w.heap.size cur1).drew 22 22 ty 3 3 i0 Try.underlying22 hinf w.heap.size ((i + 1)) (cap - i) (C - (i + 1)) ⟨g, o + i, none⟩ (cap - i) (cap - i) cur1 D hg1 (by rw [hDl, hz1, show Nat.min (cap - i) (cap - i) = cap - i from Nat.min_self _]) (fun j v hj => by
    rw [hD, List.getElem?_drop] at hj
    have := own_cells hgg1 hx _ v hj
    rw [add1, show o + i + j = o + (i * 1 + j) from by omega]
    exact this) (by rw [hDl, hs1]; omega) (fun u hu => h1 u (by rw [hD] at hu; exact List.mem_of_mem_drop hu))
  rw [← hcur2] at hr2
  have hE : (Own ((W1.setRow w.heap.size cur1).drew.setRow w.heap.size cur2) (fun k => S k ∨ w.heap.size ≤ k) 3 1 (.slice (some ⟨w.heap.size, 0, none⟩) (cap + 1) C) (cap + 1) (xs.take (i * 1) ++ [Value.int .i64 x] ++ xs.drop (i * 1)) ∧ Fr w ((W1.setRow w.heap.size cur1).drew.setRow w.heap.size cur2) S) := by
    rw [← hX, ← hD]
    refine ⟨⟨by simp [hXl, hDl]; omega, _, C, rfl, hC1, by unfold maxLen; omega, .inr ⟨w.heap.size, 0, cur2, rfl, .inr (Nat.le_refl _), setRow_heap _ _ cur1 _ _ _ hg1, ?_, ?_⟩⟩, ?_⟩
    · rw [hcur2]
      have := mid_len cur1.toList ((i + 1)) D (by rw [hDl]; simp [hs1]; omega)
      simp only [List.size_toArray]
      rw [this]
      simp [hs1]
    · have p1 := seg_put cur0.toList 0 (i * 1) [Value.int .i64 x] X hx0 hXl (by simp [hs0]; omega)
      have p2 := seg_put cur1.toList 0 (i * 1 + ([Value.int .i64 x]).length) D (X ++ [Value.int .i64 x]) (by rw [hcur1]; simpa using p1) (by simp [hXl]) (by rw [hDl]; simp [hs1]; omega)
      rw [hcur2]
      rw [hDl] at p2
      rw [show (cap + 1) * 1 = i * 1 + ([Value.int .i64 x]).length + (cap - i) * 1 from by simp; omega]
      simpa [hDl] using p2
    · exact hF0.trans (((setRow_fr (Or.inr (Nat.le_refl _)) _ : Fr W1 (W1.setRow w.heap.size cur1) (fun k => S k ∨ w.heap.size ≤ k)).drew).trans (setRow_fr (Or.inl (Or.inr (Nat.le_refl _))) _))
  clear hcur0 hcur1 hcur2 hs0 hs1 hg0 hg1 hgg0 hgg1 hbv0 hx hs hg hb hX hXl hD hDl h1 hlen hx0 hF0
  have q1 : (0 : Int) ≤ (i : Int) := by omega
  have q2 : (i : Int) ≤ (cap : Int) := by omega
  have q4 : ((i : Int) == (cap : Int)) = false := by simp; omega
  have q5 : (cap : Int) < (cap : Int) + 1 := by omega
  have q7 : (0 : Int) ≤ (i : Int) + 1 := by omega
  have q8 : (i : Int) + 1 ≤ (cap : Int) + 1 := by omega
  have qa : ¬ C = i + 1 := by omega
  have qb : ¬ C = i := by omega
  have qb2 : ¬ cap = i := by omega
  have qc : (i : Int) ≤ (cap : Int) + 1 := by omega
  have qd : i ≤ cap := by omega
  have qe : i ≤ cap + 1 := by omega
  have qf : (cap : Int) + 1 ≤ (C : Int) := by omega
  have ew1 : IntKind.i64.wrap ((i : Int) + 1) = (i : Int) + 1 := i64w _ (by omega) (by omega)
  have ew2 : IntKind.i64.wrap ((cap : Int) + 1) = (cap : Int) + 1 := i64w _ (by omega) (by omega)
  have ew3 : IntKind.i64.wrap ((cap : Int) + 1 - (i : Int)) = (cap : Int) + 1 - (i : Int) := i64w _ (by omega) (by omega)
  replace hr2 := Mr.hid hr2
  replace hE := Mr.hid hE
  replace hr0 := Mr.hid hr0
  go_enter Try.func76, Try.ntmps76
  go_wp2_with (at_builtin; refine wpList_run2 _ rfl (.tmp 34) (.tmp 39) 22 3 (.slice (some ⟨g, o, none⟩) i cap) (.int .i64 ((cap : Int) + 1 - (i : Int))) _ _ rfl rfl rfl hr0.out ?_)
  go_region_law (first | (refine step_copy2 _ rfl (.tmp 50) (.tmp 53) 22 22 (.slice (some ⟨w.heap.size, (i + 1), none⟩) (cap - i) (C - (i + 1))) (.slice (some ⟨g, o + i, none⟩) (cap - i) (cap - i)) _ _ rfl (by simp [Act.eval, Act.put]) (by simp [Act.eval, Act.put]) (hr2.out _) ?_))
  all_goals
    go_wp2
    go_ret
    exact ⟨_, rfl, hE.out.1, hE.out.2⟩
theorem insertI_any {w : World} {S : Nat → Prop} {v : Value} {l : List Int} (hv : Own w S 3 1 v l.length (ints l)) (hsm : l.length * 8 ≤ 225000000000000) (i : Nat) (hi : i ≤ l.length) {bv : Nat} (x : Int) (hb : w.heap[bv]? = some (.cells #[.int .i64 x] 3 (0, 0))) (hbS : ¬ S bv) :
    Calls Try.prog 76 #[v, .int .i64 (i : Int), .slice (some ⟨bv, 0, none⟩) 1 1] w fun e w' => ∃ v', e = .returned v' ∧ Own w' (fun k => S k ∨ w.heap.size ≤ k) 3 1 v' (l.length + 1) (ints (l.take i ++ x :: l.drop i)) ∧ Fr w w' S := by
  by_cases h : i = l.length
  · subst h
    exact insertI_end hv hsm x hb
  · obtain ⟨g, o, cap, cur, rfl, _⟩ := hv.there (by omega)
    by_cases hr : l.length + 1 ≤ cap
    · exact insertI_room hv i (by omega) hr x hb hbS
    · exact insertI_grow hv hsm i (by omega) (by omega) x hb
set_option maxRecDepth 100000 in
set_option maxHeartbeats 4000000 in
theorem insertP_end {w : World} {S : Nat → Prop} {v : Value} {l : List (Int × Int)} (hv : Own w S 73 2 v l.length (prs l)) (hsm : l.length * 16 ≤ 225000000000000) {bv : Nat} (x : Int × Int) (hb : w.heap[bv]? = some (.cells #[.int .i64 x.1, .int .i64 x.2] 73 (0, 0))) :
    Calls Try.prog 87 #[v, .int .i64 (l.length : Int), .slice (some ⟨bv, 0, none⟩) 1 1] w fun e w' => ∃ v', e = .returned v' ∧ Own w' (fun k => S k ∨ w.heap.size ≤ k) 73 2 v' (l.length + 1) (prs (l.take l.length ++ x :: l.drop l.length)) ∧ Fr w w' S := by
  obtain ⟨i0, hinf, hz0, hz1, hz2⟩ := info_parts mp_pair
  have hcut := prs_ins l l.length x
  have hlen := hv.1
  obtain ⟨a, cap, rfl, hc, hm⟩ := hv.form
  have hnews : ∀ ad, some (⟨bv, 0, none⟩ : Addr) = some ad → ∀ j u, ([Value.int .i64 x.1, Value.int .i64 x.2])[j]? = some u → w.cell? (ad.add j) = some u := by
    rintro ad e j u hu
    cases e
    rw [add1, Nat.zero_add, cell_blk hb]
    simpa using hu
  rw [← hlen, List.take_of_length_le (Nat.le_refl _), List.drop_of_length_le (Nat.le_refl _), List.append_nil] at hcut
  rw [← hcut]
  clear hcut
  generalize prs l = xs at *
  generalize l.length = n at *
  unfold maxLen at hm
  have q1 : (0 : Int) ≤ (n : Int) := by omega
  have q2 : (n : Int) ≤ (cap : Int) := by omega
  replace hv := Mr.hid hv
  replace hnews := Mr.hid hnews
  replace hlen := Mr.hid hlen
  clear hb
  go_enter Try.func87, Try.ntmps87
  go_wp2_with (at_builtin; refine wpList_append_mine _ rfl (.tmp 23) (.tmp 24) 23 rfl S 73 i0 _ 2 16 Try.underlying23 hinf hz0 hz1 hz2 rfl (.slice a n cap) n xs rfl hv.out (some ⟨bv, 0, none⟩) 1 1 [Value.int .i64 x.1, Value.int .i64 x.2] rfl rfl (fun e => by cases e) hnews.out (by simp [Value.oneCell']) (by unfold maxLen; omega) (by omega) ?_; intro b' cap' w1 hown hfr)
  all_goals
    go_ret
    exact ⟨_, rfl, hown.mono (fun k h => h.imp id (fun e => by omega)), hfr⟩
set_option maxRecDepth 100000 in
set_option maxHeartbeats 4000000 in
theorem insertP_room {w : World} {S : Nat → Prop} {g o cap : Nat} {l : List (Int × Int)} (hv : Own w S 73 2 (.slice (some ⟨g, o, none⟩) l.length cap) l.length (prs l)) (i : Nat) (hi : i < l.length) (hroom : l.length + 1 ≤ cap) {bv : Nat} (x : Int × Int) (hb : w.heap[bv]? = some (.cells #[.int .i64 x.1, .int .i64 x.2] 73 (0, 0))) (hbS : ¬ S bv) :
    Calls Try.prog 87 #[.slice (some ⟨g, o, none⟩) l.length cap, .int .i64 (i : Int), .slice (some ⟨bv, 0, none⟩) 1 1] w fun e w' => ∃ v', e = .returned v' ∧ Own w' (fun k => S k ∨ w.heap.size ≤ k) 73 2 v' (l.length + 1) (prs (l.take i ++ x :: l.drop i)) ∧ Fr w w' S := by
  obtain ⟨i0, hinf, hz0, hz1, hz2⟩ := info_parts mp_pair
  have hcut := prs_ins l i x
  have hlen := hv.1
  have h1 := prs_one l
  obtain ⟨g', o', cap', cur, hvv, hc, hm, hS, hg, hs, hx⟩ := hv.there (by omega)
  cases hvv
  rw [← hcut]
  clear hcut hv
  generalize prs l = xs at *
  generalize l.length = n at *
  unfold maxLen at hm
  have hne : bv ≠ g := fun e => hbS (e ▸ hS)
  have hgl := (Array.getElem?_eq_some_iff.1 hg).1
  have hbl := (Array.getElem?_eq_some_iff.1 hb).1
  have hov : ∀ lb cb, (callFunc 89 #[.slice (some ⟨bv, 0, none⟩) 1 1, .slice (some ⟨g, o + (i + 1) * 2, none⟩) lb cb]).run Try.prog w = .ok (.value (.bool false)) w := fun lb cb => by
    rw [run_callFunc_extern Try.func89 (by kernel_rfl) (by kernel_rfl) (by kernel_rfl) (e := Extern.SlicesOverlaps.overlaps #[23, 23] #[4]) (by kernel_rfl),
      Lib.run_overlaps_apart w 23 4 73 Try.underlying23 2 (fun w => by simp [Go.sizeOf, typeInfo, hinf, hz1]) ⟨bv, 0, none⟩ ⟨g, o + (i + 1) * 2, none⟩ 1 1 lb cb hne 73 73 2 cur.size (by simp [World.shape?, hb]) (by simp [World.shape?, hg]) (by omega) (by simp [World.frozen?, hb]) (by simp [World.frozen?, hb])]
    rfl
  obtain ⟨D, hD⟩ : ∃ D, D = xs.drop (i * 2) := ⟨_, rfl⟩
  have hDl : D.length = (n - i) * 2 := by rw [hD, List.length_drop, hlen]; omega
  obtain ⟨cur1, hcur1⟩ : ∃ c1, c1 = (cur.toList.take (o + (i + 1) * 2) ++ D ++ cur.toList.drop (o + (i + 1) * 2 + D.length)).toArray := ⟨_, rfl⟩
  have hr1 := fun ty => run_copy_at (P := Try.prog) w.drew 23 23 ty 73 73 i0 Try.underlying23 hinf g (o + (i + 1) * 2) (n - i) (cap - (i + 1)) ⟨g, o + i * 2, none⟩ (n + 1 - i) (cap - i) cur D hg (by rw [hDl, hz1, show Nat.min (n + 1 - i) (n - i) = n - i from Nat.min_eq_right (by omega)]) (fun j v hj => by
    rw [hD, List.getElem?_drop] at hj
    have := own_cells hg hx _ v hj
    rw [add1, show o + i * 2 + j = o + (i * 2 + j) from by omega]
    exact this) (by rw [hDl]; omega) (fun u hu => h1 u (by rw [hD] at hu; exact List.mem_of_mem_drop hu))
  rw [← hcur1] at hr1
  have hg1 : (w.drew.setRow g cur1).heap[g]? = some (.cells cur1 73 (0, 0)) := setRow_heap w.drew g cur _ _ _ hg
  have hb1 : (w.drew.setRow g cur1).heap[bv]? = some (.cells #[.int .i64 x.1, .int .i64 x.2] 73 (0, 0)) := (setRow_other w.drew g bv _ hne).trans hb
  have hs1 : cur1.size = cur.size := by
    rw [hcur1]
    have := mid_len cur.toList (o + (i + 1) * 2) D (by rw [hDl]; simp; omega)
    simpa using this
  obtain ⟨cur2, hcur2⟩ : ∃ c2, c2 = (cur1.toList.take (o + i * 2) ++ [Value.int .i64 x.1, Value.int .i64 x.2] ++ cur1.toList.drop (o + i * 2 + ([Value.int .i64 x.1, Value.int .i64 x.2]).length)).toArray := ⟨_, rfl⟩
  have hr2 := fun ty => run_copy_at (P := Try.prog) (w.drew.setRow g cur1) 23 23 ty 73 73 i0 Try.underlying23 hinf g (o + i * 2) (n + 1 - i) (cap - i) ⟨bv, 0, none⟩ 1 1 cur1 [Value.int .i64 x.1, Value.int .i64 x.2] hg1 (by rw [hz1, show Nat.min 1 (n + 1 - i) = 1 from Nat.min_eq_left (by omega)]; rfl) (fun j v hj => by
    rw [add1, Nat.zero_add, cell_blk hb1]
    simpa using hj) (by simp; omega) (by simp [Value.oneCell'])
  rw [← hcur2] at hr2
  have hE : (Own ((w.drew.setRow g cur1).setRow g cur2) (fun k => S k ∨ w.heap.size ≤ k) 73 2 (.slice (some ⟨g, o, none⟩) (n + 1) cap) (n + 1) (xs.take (i * 2) ++ [Value.int .i64 x.1, Value.int .i64 x.2] ++ xs.drop (i * 2)) ∧ Fr w ((w.drew.setRow g cur1).setRow g cur2) S) := by
    refine ⟨⟨by simp [hlen]; omega, _, cap, rfl, hroom, by unfold maxLen; omega, .inr ⟨g, o, cur2, rfl, .inl hS, setRow_heap _ g cur1 _ _ _ hg1, ?_, ?_⟩⟩, ?_⟩
    · rw [hcur2]
      have := mid_len cur1.toList (o + i * 2) [Value.int .i64 x.1, Value.int .i64 x.2] (by simp; omega)
      simp only [List.size_toArray]
      rw [this]
      simp; omega
    · obtain ⟨Y, hY⟩ : ∃ Y, Y = (cur.toList.drop (o + i * 2)).take 2 := ⟨_, rfl⟩
      have hYl : Y.length = 2 := by rw [hY, List.length_take, List.length_drop]; simp; omega
      have hXl : (xs.take (i * 2)).length = i * 2 := by rw [List.length_take]; omega
      have p1 : (cur.toList.drop o).take (i * 2 + 2) = xs.take (i * 2) ++ Y := by
        rw [List.take_add, seg_take _ _ _ _ _ hx (by omega), List.drop_drop, hY]
      have p2 := seg_put cur.toList o (i * 2 + 2) D (xs.take (i * 2) ++ Y) p1 (by rw [List.length_append, hXl, hYl]) (by rw [hDl]; simp; omega)
      have p3 := seg_mid cur1.toList (xs.take (i * 2)) Y D [Value.int .i64 x.1, Value.int .i64 x.2] o (by
        rw [hcur1, hXl, hYl]
        simpa [show o + (i * 2 + 2) = o + (i + 1) * 2 from by omega] using p2) (by rw [hYl]; rfl) (by rw [hXl, hYl, hDl]; simp; omega)
      rw [hXl, hDl] at p3
      rw [hcur2, ← hD]
      rw [show (n + 1) * 2 = i * 2 + ([Value.int .i64 x.1, Value.int .i64 x.2]).length + (n - i) * 2 from by simp; omega]
      simpa using p3
    · exact (Fr.refl w S).drew.trans ((setRow_fr (Or.inl hS) _).trans (setRow_fr (Or.inl (Or.inl hS)) _))
  clear hcur1 hcur2 hs1 hg1 hb1 hx hs hg hb hD hDl h1 hlen
  have q1 : (0 : Int) ≤ (i : Int) := by omega
  have q2 : (i : Int) ≤ (n : Int) := by omega
  have q3 : (n : Int) ≤ (cap : Int) := by omega
  have q4 : ((i : Int) == (n : Int)) = false := by simp; omega
  have q5 : ¬ ((cap : Int) < (n : Int) + 1) := by omega
  have q6 : (n : Int) + 1 ≤ (cap : Int) := by omega
  have q7 : (0 : Int) ≤ (i : Int) + 1 := by omega
  have q8 : (i : Int) + 1 ≤ (n : Int) + 1 := by omega
  have q9 : (0 : Int) ≤ (n : Int) + 1 := by omega
  have qa : ¬ cap = i + 1 := by omega
  have qb : ¬ cap = i := by omega
  have qc : (i : Int) ≤ (n : Int) + 1 := by omega
  have qd : i ≤ n := by omega
  have qe : i ≤ n + 1 := by omega
  have ew1 : IntKind.i64.wrap ((i : Int) + 1) = (i : Int) + 1 := i64w _ (by omega) (by omega)
  have ew2 : IntKind.i64.wrap ((n : Int) + 1) = (n : Int) + 1 := i64w _ (by omega) (by omega)
  replace hr1 := Mr.hid hr1
  replace hr2 := Mr.hid hr2
  replace hE := Mr.hid hE
  go_enter Try.func87, Try.ntmps87
  go_wp2_with (simp only [hov])
  go_region_law (first | (refine step_copy2 _ rfl (.tmp 73) (.tmp 76) 23 23 (.slice (some ⟨g, o + (i + 1) * 2, none⟩) (n - i) (cap - (i + 1))) (.slice (some ⟨g, o + i * 2, none⟩) (n + 1 - i) (cap - i)) _ _ rfl (by simp [Act.eval, Act.put]) (by simp [Act.eval, Act.put]) (hr1.out _) ?_))
  all_goals
    have hr3 := hr2.out 3
    go_wp2
    go_ret
    exact ⟨_, rfl, hE.out.1, hE.out.2⟩
set_option maxRecDepth 100000 in
set_option maxHeartbeats 4000000 in
theorem insertP_grow {w : World} {S : Nat → Prop} {g o cap : Nat} {l : List (Int × Int)} (hv : Own w S 73 2 (.slice (some ⟨g, o, none⟩) l.length cap) l.length (prs l)) (hsm : l.length * 16 ≤ 225000000000000) (i : Nat) (hi : i < l.length) (hroom : cap < l.length + 1) {bv : Nat} (x : Int × Int) (hb : w.heap[bv]? = some (.cells #[.int .i64 x.1, .int .i64 x.2] 73 (0, 0))) :
    Calls Try.prog 87 #[.slice (some ⟨g, o, none⟩) l.length cap, .int .i64 (i : Int), .slice (some ⟨bv, 0, none⟩) 1 1] w fun e w' => ∃ v', e = .returned v' ∧ Own w' (fun k => S k ∨ w.heap.size ≤ k) 73 2 v' (l.length + 1) (prs (l.take i ++ x :: l.drop i)) ∧ Fr w w' S := by
  obtain ⟨i0, hinf, hz0, hz1, hz2⟩ := info_parts mp_pair
  have hcut := prs_ins l i x
  have hlen := hv.1
  have h1 := prs_one l
  obtain ⟨g', o', cap', cur, hvv, hc, hm, hS, hg, hs, hx⟩ := hv.there (by omega)
  cases hvv
  rw [← hcut]
  clear hcut hv
  generalize prs l = xs at *
  generalize l.length = n at *
  unfold maxLen at hm
  obtain rfl : cap = n := by omega
  have hgl := (Array.getElem?_eq_some_iff.1 hg).1
  have hbl := (Array.getElem?_eq_some_iff.1 hb).1
  obtain ⟨X, hX⟩ : ∃ X, X = xs.take (i * 2) := ⟨_, rfl⟩
  have hXl : X.length = i * 2 := by rw [hX, List.length_take]; omega
  obtain ⟨D, hD⟩ : ∃ D, D = xs.drop (i * 2) := ⟨_, rfl⟩
  have hDl : D.length = (cap - i) * 2 := by rw [hD, List.length_drop, hlen]; omega
  have hr0 := run_append_grow_zeros (P := Try.prog) w 23 3 23 73 i0 _ .i64 .i64 Try.underlying23 Try.underlying3 hinf hz0 (some ⟨g, o, none⟩) i cap X
    (run_firstCells_some (P := Try.prog) w.drew i0.size i ⟨g, o, none⟩ i cap X (by rw [hXl, hz1]) (fun j u hu => by
      rw [hX, List.getElem?_take] at hu
      split at hu
      · rw [add1]; exact own_cells hg hx j u hu
      · cases hu)) (cap + 1 - i) (by omega) (by omega) (by omega) (by omega) (by rw [hz2]; omega) (growslice_fits_wide (by omega) (by rw [hz2]; omega))
  rw [show i + (cap + 1 - i) = cap + 1 from by omega, show (((cap + 1 - i : Nat)) : Int) = (cap : Int) + 1 - (i : Int) from by omega] at hr0
  have hC1 := grownCap_ge w (cap + 1) cap 73
  have hC2 := grownCap_le_maxLen w (cap + 1) cap 73 (by unfold maxLen; omega)
  generalize grownCap w (cap + 1) cap 73 = C at *
  obtain ⟨cur0, hcur0⟩ : ∃ c0, c0 = X.toArray ++ Builtin.zeroCells (Value.agg #[.int .i64 0, .int .i64 0] : Value).cells (cap + 1 - i) ++ Builtin.zeroCells (Value.agg #[.int .i64 0, .int .i64 0] : Value).cells (C - (cap + 1)) := ⟨_, rfl⟩
  rw [← hcur0] at hr0
  have hs0 : cur0.size = C * 2 := by
    rw [hcur0, Array.size_append, Array.size_append, size_zeroCells, size_zeroCells]
    simp only [List.size_toArray, hXl]
    show i * 2 + (cap + 1 - i) * 2 + (C - (cap + 1)) * 2 = C * 2
    omega
  have hx0 : (cur0.toList.drop 0).take (i * 2) = X := by
    rw [hcur0, List.drop_zero, Array.append_assoc, Array.toList_append, ← hXl]
    exact List.take_left
  unfold maxLen at hC2
  have hg0 : (w.drew.alloc (.cells cur0 73 (0, 0))).heap[w.heap.size]? = some (.cells cur0 73 (0, 0)) := heap_alloc_new w.drew _
  have hbv0 : (w.drew.alloc (.cells cur0 73 (0, 0))).heap[bv]? = some (.cells #[.int .i64 x.1, .int .i64 x.2] 73 (0, 0)) := (Below.heap_alloc w.drew _ bv hbl).trans hb
  have hgg0 : (w.drew.alloc (.cells cur0 73 (0, 0))).heap[g]? = some (.cells cur 73 (0, 0)) := (Below.heap_alloc w.drew _ g hgl).trans hg
  have hF0 : Fr w (w.drew.alloc (.cells cur0 73 (0, 0))) S := (Fr.refl w S).drew.alloc _
  generalize w.drew.alloc (.cells cur0 73 (0, 0)) = W1 at *
  obtain ⟨cur1, hcur1⟩ : ∃ c1, c1 = (cur0.toList.take (i * 2) ++ [Value.int .i64 x.1, Value.int .i64 x.2] ++ cur0.toList.drop (i * 2 + ([Value.int .i64 x.1, Value.int .i64 x.2]).length)).toArray := ⟨_, rfl⟩
  have hr1 := run_copy_at (P := Try.prog) W1 23 23 3 73 73 i0 Try.underlying23 hinf w.heap.size (i * 2) (cap + 1 - i) (C - i) ⟨bv, 0, none⟩ 1 1 cur0 [Value.int .i64 x.1, Value.int .i64 x.2] hg0 (by rw [hz1, show Nat.min 1 (cap + 1 - i) = 1 from Nat.min_eq_left (by omega)]; rfl) (fun j v hj => by
    rw [add1, Nat.zero_add, cell_blk hbv0]
    simpa using hj) (by rw [hs0]; simp; omega) (by simp [Value.oneCell'])
  rw [← hcur1] at hr1
  have hg1 : (W1.setRow w.heap.size cur1).heap[w.heap.size]? = some (.cells cur1 73 (0, 0)) := setRow_heap W1 w.heap.size cur0 _ _ _ hg0
  have hgg1 : (W1.setRow w.heap.size cur1).heap[g]? = some (.cells cur 73 (0, 0)) := (setRow_other W1 w.heap.size g _ (by omega)).trans hgg0
  have hs1 : cur1.size = C * 2 := by
    rw [hcur1, ← hs0]
    have := mid_len cur0.toList (i * 2) [Value.int .i64 x.1, Value.int .i64 x.2] (by simp [hs0]; omega)
    simpa using this
  obtain ⟨cur2, hcur2⟩ : ∃ c2, c2 = (cur1.toList.take ((i + 1) * 2) ++ D ++ cur1.toList.drop ((i + 1) * 2 + D.length)).toArray := ⟨_, rfl⟩
  have hr2 := fun ty => run_copy_at (P := Try.prog) (W1.setRow w.heap.size cur1).drew 23 23 ty 73 73 i0 Try.underlying23 hinf w.heap.size ((i + 1) * 2) (cap - i) (C - (i + 1)) ⟨g, o + i * 2, none⟩ (cap - i) (cap - i) cur1 D hg1 (by rw [hDl, hz1, show Nat.min (cap - i) (cap - i) = cap - i from Nat.min_self _]) (fun j v hj => by
    rw [hD, List.getElem?_drop] at hj
    have := own_cells hgg1 hx _ v hj
    rw [add1, show o + i * 2 + j = o + (i * 2 + j) from by omega]
    exact this) (by rw [hDl, hs1]; omega) (fun u hu => h1 u (by rw [hD] at hu; exact List.mem_of_mem_drop hu))
  rw [← hcur2] at hr2
  have hE : (Own ((W1.setRow w.heap.size cur1).drew.setRow w.heap.size cur2) (fun k => S k ∨ w.heap.size ≤ k) 73 2 (.slice (some ⟨w.heap.size, 0, none⟩) (cap + 1) C) (cap + 1) (xs.take (i * 2) ++ [Value.int .i64 x.1, Value.int .i64 x.2] ++ xs.drop (i * 2)) ∧ Fr w ((W1.setRow w.heap.size cur1).drew.setRow w.heap.size cur2) S) := by
    rw [← hX, ← hD]
    refine ⟨⟨by simp [hXl, hDl]; omega, _, C, rfl, hC1, by unfold maxLen; omega, .inr ⟨w.heap.size, 0, cur2, rfl, .inr (Nat.le_refl _), setRow_heap _ _ cur1 _ _ _ hg1, ?_, ?_⟩⟩, ?_⟩
    · rw [hcur2]
      have := mid_len cur1.toList ((i + 1) * 2) D (by rw [hDl]; simp [hs1]; omega)
      simp only [List.size_toArray]
      rw [this]
      simp [hs1]
    · have p1 := seg_put cur0.toList 0 (i * 2) [Value.int .i64 x.1, Value.int .i64 x.2] X hx0 hXl (by simp [hs0]; omega)
      have p2 := seg_put cur1.toList 0 (i * 2 + ([Value.int .i64 x.1, Value.int .i64 x.2]).length) D (X ++ [Value.int .i64 x.1, Value.int .i64 x.2]) (by rw [hcur1]; simpa using p1) (by simp [hXl]) (by rw [hDl]; simp [hs1]; omega)
      rw [hcur2]
      rw [hDl] at p2
      rw [show (cap + 1) * 2 = i * 2 + ([Value.int .i64 x.1, Value.int .i64 x.2]).length + (cap - i) * 2 from by simp; omega]
      simpa [hDl, show (i + 1) * 2 = i * 2 + 2 from by omega] using p2
    · exact hF0.trans (((setRow_fr (Or.inr (Nat.le_refl _)) _ : Fr W1 (W1.setRow w.heap.size cur1) (fun k => S k ∨ w.heap.size ≤ k)).drew).trans (setRow_fr (Or.inl (Or.inr (Nat.le_refl _))) _))
  clear hcur0 hcur1 hcur2 hs0 hs1 hg0 hg1 hgg0 hgg1 hbv0 hx hs hg hb hX hXl hD hDl h1 hlen hx0 hF0
  have q1 : (0 : Int) ≤ (i : Int) := by omega
  have q2 : (i : Int) ≤ (cap : Int) := by omega
  have q4 : ((i : Int) == (cap : Int)) = false := by simp; omega
  have q5 : (cap : Int) < (cap : Int) + 1 := by omega
  have q7 : (0 : Int) ≤ (i : Int) + 1 := by omega
  have q8 : (i : Int) + 1 ≤ (cap : Int) + 1 := by omega
  have qa : ¬ C = i + 1 := by omega
  have qb : ¬ C = i := by omega
  have qb2 : ¬ cap = i := by omega
  have qc : (i : Int) ≤ (cap : Int) + 1 := by omega
  have qd : i ≤ cap := by omega
  have qe : i ≤ cap + 1 := by omega
  have qf : (cap : Int) + 1 ≤ (C : Int) := by omega
  have ew1 : IntKind.i64.wrap ((i : Int) + 1) = (i : Int) + 1 := i64w _ (by omega) (by omega)
  have ew2 : IntKind.i64.wrap ((cap : Int) + 1) = (cap : Int) + 1 := i64w _ (by omega) (by omega)
  have ew3 : IntKind.i64.wrap ((cap : Int) + 1 - (i : Int)) = (cap : Int) + 1 - (i : Int) := i64w _ (by omega) (by omega)
  replace hr2 := Mr.hid hr2
  replace hE := Mr.hid hE
  replace hr0 := Mr.hid hr0
  go_enter Try.func87, Try.ntmps87
  go_wp2_with (at_builtin; refine wpList_run2 _ rfl (.tmp 34) (.tmp 39) 23 3 (.slice (some ⟨g, o, none⟩) i cap) (.int .i64 ((cap : Int) + 1 - (i : Int))) _ _ rfl rfl rfl hr0.out ?_)
  go_region_law (first | (refine step_copy2 _ rfl (.tmp 50) (.tmp 53) 23 23 (.slice (some ⟨w.heap.size, (i + 1) * 2, none⟩) (cap - i) (C - (i + 1))) (.slice (some ⟨g, o + i * 2, none⟩) (cap - i) (cap - i)) _ _ rfl (by simp [Act.eval, Act.put]) (by simp [Act.eval, Act.put]) (hr2.out _) ?_))
  all_goals
    go_wp2
    go_ret
    exact ⟨_, rfl, hE.out.1, hE.out.2⟩
theorem insertP_any {w : World} {S : Nat → Prop} {v : Value} {l : List (Int × Int)} (hv : Own w S 73 2 v l.length (prs l)) (hsm : l.length * 16 ≤ 225000000000000) (i : Nat) (hi : i ≤ l.length) {bv : Nat} (x : Int × Int) (hb : w.heap[bv]? = some (.cells #[.int .i64 x.1, .int .i64 x.2] 73 (0, 0))) (hbS : ¬ S bv) :
    Calls Try.prog 87 #[v, .int .i64 (i : Int), .slice (some ⟨bv, 0, none⟩) 1 1] w fun e w' => ∃ v', e = .returned v' ∧ Own w' (fun k => S k ∨ w.heap.size ≤ k) 73 2 v' (l.length + 1) (prs (l.take i ++ x :: l.drop i)) ∧ Fr w w' S := by
  by_cases h : i = l.length
  · subst h
    exact insertP_end hv hsm x hb
  · obtain ⟨g, o, cap, cur, rfl, _⟩ := hv.there (by omega)
    by_cases hr : l.length + 1 ≤ cap
    · exact insertP_room hv i (by omega) hr x hb hbS
    · exact insertP_grow hv hsm i (by omega) (by omega) x hb
end Go.Proofs.Ytegbcocbopgghac.Md
/-
  Package model: what the calls of the cell, the stack, the queue leave.
-/
namespace Go.Proofs.Ytegbcocbopgghac.Md
open Go.RowKit Mr
set_option linter.unusedVariables false
set_option linter.unusedSimpArgs false
theorem Ob.put {w : World} {S : Nat → Prop} {g : Nat} {tb e : TypeId} {size n : Nat} {xs : List Value} {v v0 : Value} (hS : S g) (hg : w.heap[g]? = some (.cells #[v0] tb (0, 0))) (hO : Own w (fun k => S k ∧ k ≠ g) e size v n xs) : Ob (w.setCell ⟨g, 0, none⟩ v) S g tb e size n xs :=
  ⟨v, hS, setBlk hg 0 v, hO.kept2 (fun k hk _ => Below.heap_setCell w _ v k hk.2) (fun k hk _ => hk)⟩
theorem news1 (w : World) (x : Value) (t : TypeId) : ∀ ad, some (⟨w.heap.size, 0, none⟩ : Addr) = some ad → ∀ j u, [x][j]? = some u → (w.alloc (.cells #[x] t (0, 0))).cell? (ad.add j) = some u := by
  rintro ad e j u hu
  cases e
  rw [add1, Nat.zero_add, cell_blk (heap_alloc_new w _)]
  simpa using hu
/-- A row cut: its first m, or what is behind its first one. -/
theorem Own.take {W : World} {S : Nat → Prop} {e : TypeId} {size n : Nat} {a : Option Addr} {cap : Nat} {xs : List Value} (h : Own W S e size (.slice a n cap) n xs) (m : Nat) (hm : m ≤ n) : Own W S e size (.slice a m cap) m (xs.take (m * size)) := by
  obtain ⟨h1, a', cap', hv, hc, hx, h2⟩ := h
  cases hv
  have hms : m * size ≤ n * size := Nat.mul_le_mul_right _ hm
  refine ⟨by rw [List.length_take]; omega, a, cap, rfl, by omega, hx, h2.imp id ?_⟩
  rintro ⟨g, o, cur, ha, hS, hg, hs, he⟩
  refine ⟨g, o, cur, ha, hS, hg, hs, ?_⟩
  rw [← he, List.take_take, Nat.min_eq_left hms]
theorem Own.tail {W : World} {S : Nat → Prop} {e : TypeId} {n : Nat} {g o cap : Nat} {xs : List Value} (h : Own W S e 1 (.slice (some ⟨g, o, none⟩) n cap) n xs) (hn : 0 < n) (A : Option Addr) (hA : A = if cap = 1 then some ⟨g, o, none⟩ else some ⟨g, o + 1, none⟩) : Own W S e 1 (.slice A (n - 1) (cap - 1)) (n - 1) (xs.drop 1) := by
  obtain ⟨g', o', cap', cur, hv, hc, hm, hS, hg, hs, hx⟩ := h.there hn
  cases hv
  refine ⟨by rw [List.length_drop, h.1]; omega, A, cap - 1, rfl, by omega, by omega, ?_⟩
  by_cases e : cap = 1
  · exact .inl (by omega)
  · rw [if_neg e] at hA
    refine .inr ⟨g, o + 1, cur, hA, hS, hg, by omega, ?_⟩
    rw [← hx, List.drop_take, List.drop_drop]
    simp
set_option maxRecDepth 100000 in
set_option maxHeartbeats 2000000 in
theorem leave_cell {W : World} {S : Nat → Prop} {g : Nat} {l : List Int} (ho : Ob W S g 82 3 1 l.length (ints l)) (th op arg data beg fin pt ak av : Int) (l' : List Int) (hl' : l' = if op = 22 then [arg] else l) :
    Calls Try.prog 65 #[.pointer (some ⟨g, 0, none⟩), .agg #[.int .i64 th, .int .i64 op, .int .i64 arg, .int .i64 data, .int .i64 beg, .int .i64 fin, .int .i64 pt, .int .i64 ak, .int .i64 av]] W fun e w' => e = .returned (.tuple #[]) ∧ Ob w' (fun k => S k ∨ W.heap.size ≤ k) g 82 3 1 l'.length (ints l') ∧ Fr W w' S := by
  have ho' := ho
  obtain ⟨v, hS, hg, hO⟩ := ho
  have hgl := (Array.getElem?_eq_some_iff.1 hg).1
  obtain ⟨k1, k2, k3, k4⟩ := nine_cells (heap_alloc_new W (.cells #[.int .i64 th, .int .i64 op, .int .i64 arg, .int .i64 data, .int .i64 beg, .int .i64 fin, .int .i64 pt, .int .i64 ak, .int .i64 av] 39 (0, 0)))
  by_cases h : op = 22
  · rw [if_pos h] at hl'
    subst hl'
    subst h
    have cg : W.cell? ⟨g, 0, none⟩ = some v := cell_blk hg 0
    have fg : W.frozen? ⟨g, 0, none⟩ = false := by simp [World.frozen?, hg]
    obtain ⟨a, c, rfl, _, _⟩ := hO.form
    have hE : Hid (Ob (((W.setCell ⟨g, 0, none⟩ (.slice (some ⟨W.heap.size + 1, 0, none⟩) 1 1)).alloc (.cells #[.int .i64 th, .int .i64 22, .int .i64 arg, .int .i64 data, .int .i64 beg, .int .i64 fin, .int .i64 pt, .int .i64 ak, .int .i64 av] 39 (0, 0))).alloc (.cells #[.int .i64 arg] 3 (0, 0))) (fun k => S k ∨ W.heap.size ≤ k) g 82 3 1 1 (ints [arg]) ∧ Fr W (((W.setCell ⟨g, 0, none⟩ (.slice (some ⟨W.heap.size + 1, 0, none⟩) 1 1)).alloc (.cells #[.int .i64 th, .int .i64 22, .int .i64 arg, .int .i64 data, .int .i64 beg, .int .i64 fin, .int .i64 pt, .int .i64 ak, .int .i64 av] 39 (0, 0))).alloc (.cells #[.int .i64 arg] 3 (0, 0))) S) :=
      ⟨⟨_, .inl hS, old_at (old_at (setBlk hg 0 _) _) _, rfl, _, 1, rfl, Nat.le_refl _, by decide, .inr ⟨W.heap.size + 1, 0, _, rfl, ⟨.inr (by omega), by omega⟩, new_at _ _ _ (by simp), by simp, by simp [ints]⟩⟩, (((Fr.refl W S).setCell _ _ (.inl hS)).alloc _).alloc _⟩
    clear hg hO ho'
    go_enter Try.func65, Try.ntmps65
    go_wp2
    go_end0
    exact ⟨rfl, hE.out.1, hE.out.2⟩
  · rw [if_neg h] at hl'
    subst hl'
    have d1 : (op == 22) = false := by simpa using h
    have hE : Hid (Ob (W.alloc (.cells #[.int .i64 th, .int .i64 op, .int .i64 arg, .int .i64 data, .int .i64 beg, .int .i64 fin, .int .i64 pt, .int .i64 ak, .int .i64 av] 39 (0, 0))) (fun k => S k ∨ W.heap.size ≤ k) g 82 3 1 l'.length (ints l') ∧ Fr W (W.alloc (.cells #[.int .i64 th, .int .i64 op, .int .i64 arg, .int .i64 data, .int .i64 beg, .int .i64 fin, .int .i64 pt, .int .i64 ak, .int .i64 av] 39 (0, 0))) S) := ⟨ho'.kept (fun k _ hl => Below.heap_alloc W _ k hl) (fun k hk _ => .inl hk), (Fr.refl W S).alloc _⟩
    clear hg hO ho' h
    go_enter Try.func65, Try.ntmps65
    go_wp2
    go_end0
    exact ⟨rfl, hE.out.1, hE.out.2⟩
set_option maxRecDepth 100000 in
set_option maxHeartbeats 4000000 in
theorem leave_stack {W : World} {S : Nat → Prop} {g : Nat} {l : List Int} (ho : Ob W S g 83 3 1 l.length (ints l.reverse)) (hsm : l.length * 8 ≤ 225000000000000) (th op arg data beg fin pt ak av : Int) (l' : List Int) (hl' : l' = if op = 30 then arg :: l else l.drop 1) :
    Calls Try.prog 69 #[.pointer (some ⟨g, 0, none⟩), .agg #[.int .i64 th, .int .i64 op, .int .i64 arg, .int .i64 data, .int .i64 beg, .int .i64 fin, .int .i64 pt, .int .i64 ak, .int .i64 av]] W fun e w' => e = .returned (.tuple #[]) ∧ Ob w' (fun k => S k ∨ W.heap.size ≤ k) g 83 3 1 l'.length (ints l'.reverse) ∧ Fr W w' S := by
  have ho' := ho
  obtain ⟨v, hS, hg, hO⟩ := ho
  have hgl := (Array.getElem?_eq_some_iff.1 hg).1
  obtain ⟨i0, hi, hz0, hz1, hz2⟩ := info_parts mp_int
  obtain ⟨k1, k2, k3, k4⟩ := nine_cells (heap_alloc_new W (.cells #[.int .i64 th, .int .i64 op, .int .i64 arg, .int .i64 data, .int .i64 beg, .int .i64 fin, .int .i64 pt, .int .i64 ak, .int .i64 av] 39 (0, 0)))
  have cg : (W.alloc (.cells #[.int .i64 th, .int .i64 op, .int .i64 arg, .int .i64 data, .int .i64 beg, .int .i64 fin, .int .i64 pt, .int .i64 ak, .int .i64 av] 39 (0, 0))).cell? ⟨g, 0, none⟩ = some v := cell_blk (old_at hg _) 0
  have fg : (W.alloc (.cells #[.int .i64 th, .int .i64 op, .int .i64 arg, .int .i64 data, .int .i64 beg, .int .i64 fin, .int .i64 pt, .int .i64 ak, .int .i64 av] 39 (0, 0))).frozen? ⟨g, 0, none⟩ = false := by simp [World.frozen?, old_at hg]
  by_cases h : op = 30
  · rw [if_pos h] at hl'
    subst hl'
    have d1 : (op == 30) = true := by simpa using h
    replace h := Mr.hid h
    obtain ⟨a, c, rfl, hc, hm⟩ := hO.form
    have LO : Hid (∀ o, Own ((W.alloc (.cells #[.int .i64 th, .int .i64 op, .int .i64 arg, .int .i64 data, .int .i64 beg, .int .i64 fin, .int .i64 pt, .int .i64 ak, .int .i64 av] 39 (0, 0))).drew.alloc o) (fun k => S k ∧ k ≠ g) 3 1 (.slice a l.length c) l.length (ints l.reverse)) := fun o => hO.kept2 (fun k _ hl => (Below.heap_alloc _ o k (by simp; omega)).trans (Below.heap_alloc W _ k hl)) (fun k hk _ => hk)
    have NW := Mr.hid (news1 (W.alloc (.cells #[.int .i64 th, .int .i64 op, .int .i64 arg, .int .i64 data, .int .i64 beg, .int .i64 fin, .int .i64 pt, .int .i64 ak, .int .i64 av] 39 (0, 0))).drew (.int .i64 arg) 3)
    have HG : Hid (∀ o, ((W.alloc (.cells #[.int .i64 th, .int .i64 op, .int .i64 arg, .int .i64 data, .int .i64 beg, .int .i64 fin, .int .i64 pt, .int .i64 ak, .int .i64 av] 39 (0, 0))).drew.alloc o).heap[g]? = some (.cells #[.slice a l.length c] 83 (0, 0))) := fun o => old_at (old_at hg _) _
    have FR : Hid (∀ o, Fr W ((W.alloc (.cells #[.int .i64 th, .int .i64 op, .int .i64 arg, .int .i64 data, .int .i64 beg, .int .i64 fin, .int .i64 pt, .int .i64 ak, .int .i64 av] 39 (0, 0))).drew.alloc o) S) := fun o => (((Fr.refl W S).alloc _).drew).alloc o
    have SZ : Hid (W.heap.size + 1 = (W.alloc (.cells #[.int .i64 th, .int .i64 op, .int .i64 arg, .int .i64 data, .int .i64 beg, .int .i64 fin, .int .i64 pt, .int .i64 ak, .int .i64 av] 39 (0, 0))).heap.size) := by show _ = _; simp
    have hsz : (ints l.reverse ++ [Value.int .i64 arg]) = ints ((arg :: l).reverse) := by simp [ints]
    replace hsz := Mr.hid hsz
    have hk3 : g ≠ W.heap.size := by omega
    rw [show (arg :: l).length = l.length + 1 from by simp]
    have hgl0 : g < (W.alloc (.cells #[.int .i64 th, .int .i64 op, .int .i64 arg, .int .i64 data, .int .i64 beg, .int .i64 fin, .int .i64 pt, .int .i64 ak, .int .i64 av] 39 (0, 0))).heap.size := by simp; omega
    clear hg hO ho'
    go_enter Try.func69, Try.ntmps69
    go_wp2
    generalize W.alloc (.cells #[.int .i64 th, .int .i64 op, .int .i64 arg, .int .i64 data, .int .i64 beg, .int .i64 fin, .int .i64 pt, .int .i64 ak, .int .i64 av] 39 (0, 0)) = w0 at *
    go_region_law (first | (refine step_append_mine _ rfl (.tmp 12) (.tmp 15) 22 rfl (fun k => S k ∧ k ≠ g) 3 i0 _ 1 8 Try.underlying22 hi hz0 hz1 hz2 rfl (.slice a l.length c) l.length (ints l.reverse) (by first | rfl | simp [Act.eval]) (LO.out _) (some ⟨w0.drew.heap.size, 0, none⟩) 1 1 [.int .i64 arg] (by first | rfl | simp [Act.eval]) rfl (fun e => by cases e) NW.out (by simp [Value.oneCell']) (by unfold maxLen; omega) (by omega) ?_; intro b3 c3 w3 hown3 hfr3; have hg3 := (hfr3.block g (Array.getElem?_eq_some_iff.1 (HG.out _)).1 (fun e => e.2 rfl)).trans (HG.out _); have cg3 := cell_blk hg3 0; have fg3 : w3.frozen? ⟨g, 0, none⟩ = false := by simp [World.frozen?, hg3]))
    all_goals
      have hO4 := hown3.mono (T := fun k => (S k ∨ W.heap.size ≤ k) ∧ k ≠ g) (fun k hk => by
        rcases hk with hk | hk
        · exact ⟨.inl hk.1, hk.2⟩
        · have := SZ.out
          simp at hk
          exact ⟨.inr (by omega), by omega⟩)
      rw [hsz.out] at hO4
      go_end0
      exact ⟨rfl, Ob.put (.inl hS) hg3 hO4, ((FR.out _).trans (hfr3.mono (fun k h => .inl h.1))).setCell _ _ (.inl hS)⟩
  · rw [if_neg h] at hl'
    subst hl'
    have d1 : (op == 30) = false := by simpa using h
    replace h := Mr.hid h
    by_cases hl : l = []
    · subst hl
      have hE : Hid (Ob (W.alloc (.cells #[.int .i64 th, .int .i64 op, .int .i64 arg, .int .i64 data, .int .i64 beg, .int .i64 fin, .int .i64 pt, .int .i64 ak, .int .i64 av] 39 (0, 0))) (fun k => S k ∨ W.heap.size ≤ k) g 83 3 1 (List.drop 1 ([] : List Int)).length (ints ((List.drop 1 ([] : List Int)).reverse)) ∧ Fr W (W.alloc (.cells #[.int .i64 th, .int .i64 op, .int .i64 arg, .int .i64 data, .int .i64 beg, .int .i64 fin, .int .i64 pt, .int .i64 ak, .int .i64 av] 39 (0, 0))) S) := ⟨ho'.kept (fun k _ hl => Below.heap_alloc W _ k hl) (fun k hk _ => .inl hk), (Fr.refl W S).alloc _⟩
      obtain ⟨a, c, rfl, _, _⟩ := hO.form
      simp only [List.length_nil] at *
      clear hg hO ho'
      go_enter Try.func69, Try.ntmps69
      go_wp2
      go_end0
      exact ⟨rfl, hE.out.1, hE.out.2⟩
    · have hn : 0 < l.length := by cases l with | nil => exact absurd rfl hl | cons => simp
      obtain ⟨m, hm⟩ : ∃ m, l.length = m + 1 := ⟨l.length - 1, by omega⟩
      have hO2 := hO
      obtain ⟨g2, o2, cap, cur, rfl, hc, hmx, _, _, _, _⟩ := hO.there hn
      clear hO
      have hO3 : Own (W.alloc (.cells #[.int .i64 th, .int .i64 op, .int .i64 arg, .int .i64 data, .int .i64 beg, .int .i64 fin, .int .i64 pt, .int .i64 ak, .int .i64 av] 39 (0, 0))) (fun k => (S k ∨ W.heap.size ≤ k) ∧ k ≠ g) 3 1 (.slice (some ⟨g2, o2, none⟩) m cap) m (ints (l.drop 1).reverse) := by
        have h1 := (hO2.kept2 (W' := W.alloc (.cells #[.int .i64 th, .int .i64 op, .int .i64 arg, .int .i64 data, .int .i64 beg, .int .i64 fin, .int .i64 pt, .int .i64 ak, .int .i64 av] 39 (0, 0))) (T := fun k => (S k ∨ W.heap.size ≤ k) ∧ k ≠ g) (fun k _ hl => Below.heap_alloc W _ k hl) (fun k hk _ => ⟨.inl hk.1, hk.2⟩)).take m (by omega)
        have e1 : (ints l.reverse).take (m * 1) = ints (l.drop 1).reverse := by
          cases l with
          | nil => exact absurd rfl hl
          | cons y r =>
            simp only [List.length_cons] at hm
            simp [ints, List.take_append_of_le_length, show m = r.length from by omega]
        rw [e1] at h1
        exact h1
      rw [hm] at hO2 hc cg hn
      have hg0 := Mr.hid (old_at hg (.cells #[.int .i64 th, .int .i64 op, .int .i64 arg, .int .i64 data, .int .i64 beg, .int .i64 fin, .int .i64 pt, .int .i64 ak, .int .i64 av] 39 (0, 0)))
      unfold maxLen at hmx
      have hlm : (l.drop 1).length = m := by rw [List.length_drop]; omega
      rw [hlm]
      have dg : decide ((0 : Int) < (m : Int) + 1) = true := decide_eq_true (by omega)
      have q1 : (0 : Int) ≤ (m : Int) := by omega
      have q2 : (m : Int) < (m : Int) + 1 := by omega
      have q3 : (m : Int) ≤ (cap : Int) := by omega
      have q4 : (1 : Int) ≤ (m : Int) + 1 := by omega
      have q5 : (m : Int) + 1 ≤ (cap : Int) := by omega
      have eW : IntKind.i64.wrap ((m : Int) + 1 - 1) = (m : Int) := by rw [show (m : Int) + 1 - 1 = (m : Int) from by omega]; exact i64w _ (by omega) (by omega)
      have eW2 : IntKind.i64.wrap (m : Int) = (m : Int) := i64w _ (by omega) (by omega)
      have hgl0 : g < (W.alloc (.cells #[.int .i64 th, .int .i64 op, .int .i64 arg, .int .i64 data, .int .i64 beg, .int .i64 fin, .int .i64 pt, .int .i64 ak, .int .i64 av] 39 (0, 0))).heap.size := by simp; omega
      have FR : Hid (Fr W (W.alloc (.cells #[.int .i64 th, .int .i64 op, .int .i64 arg, .int .i64 data, .int .i64 beg, .int .i64 fin, .int .i64 pt, .int .i64 ak, .int .i64 av] 39 (0, 0))) S) := (Fr.refl W S).alloc _
      replace hlm := Mr.hid hlm
      replace hO3 := Mr.hid hO3
      clear hg hO2 ho' hm hl
      go_enter Try.func69, Try.ntmps69
      go_wp2
      generalize W.alloc (.cells #[.int .i64 th, .int .i64 op, .int .i64 arg, .int .i64 data, .int .i64 beg, .int .i64 fin, .int .i64 pt, .int .i64 ak, .int .i64 av] 39 (0, 0)) = w0 at *
      go_region
      all_goals
        go_end0
        exact ⟨rfl, Ob.put (.inl hS) hg0.out hO3.out.drew, FR.out.drew.setCell _ _ (.inl hS)⟩
set_option maxRecDepth 100000 in
set_option maxHeartbeats 4000000 in
theorem leave_queue {W : World} {S : Nat → Prop} {g : Nat} {l : List Int} (ho : Ob W S g 84 3 1 l.length (ints l)) (hsm : l.length * 8 ≤ 225000000000000) (th op arg data beg fin pt ak av : Int) (l' : List Int) (hl' : l' = if op = 40 then l ++ [arg] else l.drop 1) :
    Calls Try.prog 71 #[.pointer (some ⟨g, 0, none⟩), .agg #[.int .i64 th, .int .i64 op, .int .i64 arg, .int .i64 data, .int .i64 beg, .int .i64 fin, .int .i64 pt, .int .i64 ak, .int .i64 av]] W fun e w' => e = .returned (.tuple #[]) ∧ Ob w' (fun k => S k ∨ W.heap.size ≤ k) g 84 3 1 l'.length (ints l') ∧ Fr W w' S := by
  have ho' := ho
  obtain ⟨v, hS, hg, hO⟩ := ho
  have hgl := (Array.getElem?_eq_some_iff.1 hg).1
  obtain ⟨i0, hi, hz0, hz1, hz2⟩ := info_parts mp_int
  obtain ⟨k1, k2, k3, k4⟩ := nine_cells (heap_alloc_new W (.cells #[.int .i64 th, .int .i64 op, .int .i64 arg, .int .i64 data, .int .i64 beg, .int .i64 fin, .int .i64 pt, .int .i64 ak, .int .i64 av] 39 (0, 0)))
  have cg : (W.alloc (.cells #[.int .i64 th, .int .i64 op, .int .i64 arg, .int .i64 data, .int .i64 beg, .int .i64 fin, .int .i64 pt, .int .i64 ak, .int .i64 av] 39 (0, 0))).cell? ⟨g, 0, none⟩ = some v := cell_blk (old_at hg _) 0
  have fg : (W.alloc (.cells #[.int .i64 th, .int .i64 op, .int .i64 arg, .int .i64 data, .int .i64 beg, .int .i64 fin, .int .i64 pt, .int .i64 ak, .int .i64 av] 39 (0, 0))).frozen? ⟨g, 0, none⟩ = false := by simp [World.frozen?, old_at hg]
  by_cases h : op = 40
  · rw [if_pos h] at hl'
    subst hl'
    have d1 : (op == 40) = true := by simpa using h
    replace h := Mr.hid h
    obtain ⟨a, c, rfl, hc, hm⟩ := hO.form
    have LO : Hid (∀ o, Own ((W.alloc (.cells #[.int .i64 th, .int .i64 op, .int .i64 arg, .int .i64 data, .int .i64 beg, .int .i64 fin, .int .i64 pt, .int .i64 ak, .int .i64 av] 39 (0, 0))).drew.alloc o) (fun k => S k ∧ k ≠ g) 3 1 (.slice a l.length c) l.length (ints l)) := fun o => hO.kept2 (fun k _ hl => (Below.heap_alloc _ o k (by simp; omega)).trans (Below.heap_alloc W _ k hl)) (fun k hk _ => hk)
    have NW := Mr.hid (news1 (W.alloc (.cells #[.int .i64 th, .int .i64 op, .int .i64 arg, .int .i64 data, .int .i64 beg, .int .i64 fin, .int .i64 pt, .int .i64 ak, .int .i64 av] 39 (0, 0))).drew (.int .i64 arg) 3)
    have HG : Hid (∀ o, ((W.alloc (.cells #[.int .i64 th, .int .i64 op, .int .i64 arg, .int .i64 data, .int .i64 beg, .int .i64 fin, .int .i64 pt, .int .i64 ak, .int .i64 av] 39 (0, 0))).drew.alloc o).heap[g]? = some (.cells #[.slice a l.length c] 84 (0, 0))) := fun o => old_at (old_at hg _) _
    have FR : Hid (∀ o, Fr W ((W.alloc (.cells #[.int .i64 th, .int .i64 op, .int .i64 arg, .int .i64 data, .int .i64 beg, .int .i64 fin, .int .i64 pt, .int .i64 ak, .int .i64 av] 39 (0, 0))).drew.alloc o) S) := fun o => (((Fr.refl W S).alloc _).drew).alloc o
    have SZ : Hid (W.heap.size + 1 = (W.alloc (.cells #[.int .i64 th, .int .i64 op, .int .i64 arg, .int .i64 data, .int .i64 beg, .int .i64 fin, .int .i64 pt, .int .i64 ak, .int .i64 av] 39 (0, 0))).heap.size) := by show _ = _; simp
    have hsz : (ints l ++ [Value.int .i64 arg]) = ints (l ++ [arg]) := by simp [ints]
    replace hsz := Mr.hid hsz
    have hk3 : g ≠ W.heap.size := by omega
    rw [show (l ++ [arg]).length = l.length + 1 from by simp]
    have hgl0 : g < (W.alloc (.cells #[.int .i64 th, .int .i64 op, .int .i64 arg, .int .i64 data, .int .i64 beg, .int .i64 fin, .int .i64 pt, .int .i64 ak, .int .i64 av] 39 (0, 0))).heap.size := by simp; omega
    clear hg hO ho'
    go_enter Try.func71, Try.ntmps71
    go_wp2
    generalize W.alloc (.cells #[.int .i64 th, .int .i64 op, .int .i64 arg, .int .i64 data, .int .i64 beg, .int .i64 fin, .int .i64 pt, .int .i64 ak, .int .i64 av] 39 (0, 0)) = w0 at *
    go_region_law (first | (refine step_append_mine _ rfl (.tmp 12) (.tmp 15) 22 rfl (fun k => S k ∧ k ≠ g) 3 i0 _ 1 8 Try.underlying22 hi hz0 hz1 hz2 rfl (.slice a l.length c) l.length (ints l) (by first | rfl | simp [Act.eval]) (LO.out _) (some ⟨w0.drew.heap.size, 0, none⟩) 1 1 [.int .i64 arg] (by first | rfl | simp [Act.eval]) rfl (fun e => by cases e) NW.out (by simp [Value.oneCell']) (by unfold maxLen; omega) (by omega) ?_; intro b3 c3 w3 hown3 hfr3; have hg3 := (hfr3.block g (Array.getElem?_eq_some_iff.1 (HG.out _)).1 (fun e => e.2 rfl)).trans (HG.out _); have cg3 := cell_blk hg3 0; have fg3 : w3.frozen? ⟨g, 0, none⟩ = false := by simp [World.frozen?, hg3]))
    all_goals
      have hO4 := hown3.mono (T := fun k => (S k ∨ W.heap.size ≤ k) ∧ k ≠ g) (fun k hk => by
        rcases hk with hk | hk
        · exact ⟨.inl hk.1, hk.2⟩
        · have := SZ.out
          simp at hk
          exact ⟨.inr (by omega), by omega⟩)
      rw [hsz.out] at hO4
      go_end0
      exact ⟨rfl, Ob.put (.inl hS) hg3 hO4, ((FR.out _).trans (hfr3.mono (fun k h => .inl h.1))).setCell _ _ (.inl hS)⟩
  · rw [if_neg h] at hl'
    subst hl'
    have d1 : (op == 40) = false := by simpa using h
    replace h := Mr.hid h
    by_cases hl : l = []
    · subst hl
      have hE : Hid (Ob (W.alloc (.cells #[.int .i64 th, .int .i64 op, .int .i64 arg, .int .i64 data, .int .i64 beg, .int .i64 fin, .int .i64 pt, .int .i64 ak, .int .i64 av] 39 (0, 0))) (fun k => S k ∨ W.heap.size ≤ k) g 84 3 1 (List.drop 1 ([] : List Int)).length (ints (List.drop 1 ([] : List Int))) ∧ Fr W (W.alloc (.cells #[.int .i64 th, .int .i64 op, .int .i64 arg, .int .i64 data, .int .i64 beg, .int .i64 fin, .int .i64 pt, .int .i64 ak, .int .i64 av] 39 (0, 0))) S) := ⟨ho'.kept (fun k _ hl => Below.heap_alloc W _ k hl) (fun k hk _ => .inl hk), (Fr.refl W S).alloc _⟩
      obtain ⟨a, c, rfl, _, _⟩ := hO.form
      simp only [List.length_nil] at *
      clear hg hO ho'
      go_enter Try.func71, Try.ntmps71
      go_wp2
      go_end0
      exact ⟨rfl, hE.out.1, hE.out.2⟩
    · have hn : 0 < l.length := by cases l with | nil => exact absurd rfl hl | cons => simp
      obtain ⟨m, hm⟩ : ∃ m, l.length = m + 1 := ⟨l.length - 1, by omega⟩
      have hO2 := hO
      obtain ⟨g2, o2, cap, cur, rfl, hc, hmx, _, _, _, _⟩ := hO.there hn
      clear hO
      have hO3 : ∀ A : Option Addr, A = (if cap = 1 then some ⟨g2, o2, none⟩ else some ⟨g2, o2 + 1, none⟩) → Ob ((W.setCell ⟨g, 0, none⟩ (.slice A m (cap - 1))).alloc (.cells #[.int .i64 th, .int .i64 op, .int .i64 arg, .int .i64 data, .int .i64 beg, .int .i64 fin, .int .i64 pt, .int .i64 ak, .int .i64 av] 39 (0, 0))) (fun k => S k ∨ W.heap.size ≤ k) g 84 3 1 m (ints (l.drop 1)) ∧ Fr W ((W.setCell ⟨g, 0, none⟩ (.slice A m (cap - 1))).alloc (.cells #[.int .i64 th, .int .i64 op, .int .i64 arg, .int .i64 data, .int .i64 beg, .int .i64 fin, .int .i64 pt, .int .i64 ak, .int .i64 av] 39 (0, 0))) S := fun A hA => by
        have h1 := hO2.tail hn A hA
        have e1 : (ints l).drop 1 = ints (l.drop 1) := by simp [ints]
        rw [e1, show l.length - 1 = m from by omega] at h1
        have h2 := Ob.put hS hg h1
        exact ⟨h2.kept (fun k _ hl => Below.heap_alloc _ _ k hl) (fun k hk _ => .inl hk), ((Fr.refl W S).setCell _ _ (.inl hS)).alloc _⟩
      rw [hm] at hO2 hc cg hn
      have hg0 := Mr.hid (old_at hg (.cells #[.int .i64 th, .int .i64 op, .int .i64 arg, .int .i64 data, .int .i64 beg, .int .i64 fin, .int .i64 pt, .int .i64 ak, .int .i64 av] 39 (0, 0)))
      unfold maxLen at hmx
      have hlm : (l.drop 1).length = m := by rw [List.length_drop]; omega
      rw [hlm]
      have dg : decide ((0 : Int) < (m : Int) + 1) = true := decide_eq_true (by omega)
      have q1 : (0 : Int) ≤ (m : Int) := by omega
      have q2 : (m : Int) < (m : Int) + 1 := by omega
      have q3 : (m : Int) ≤ (cap : Int) := by omega
      have q4 : (1 : Int) ≤ (m : Int) + 1 := by omega
      have q5 : (m : Int) + 1 ≤ (cap : Int) := by omega
      have eW : IntKind.i64.wrap ((m : Int) + 1 - 1) = (m : Int) := by rw [show (m : Int) + 1 - 1 = (m : Int) from by omega]; exact i64w _ (by omega) (by omega)
      have eW2 : IntKind.i64.wrap (m : Int) = (m : Int) := i64w _ (by omega) (by omega)
      have hgl0 : g < (W.alloc (.cells #[.int .i64 th, .int .i64 op, .int .i64 arg, .int .i64 data, .int .i64 beg, .int .i64 fin, .int .i64 pt, .int .i64 ak, .int .i64 av] 39 (0, 0))).heap.size := by simp; omega
      have FR : Hid (Fr W (W.alloc (.cells #[.int .i64 th, .int .i64 op, .int .i64 arg, .int .i64 data, .int .i64 beg, .int .i64 fin, .int .i64 pt, .int .i64 ak, .int .i64 av] 39 (0, 0))) S) := (Fr.refl W S).alloc _
      replace hlm := Mr.hid hlm
      clear hg hO2 ho' hm hl
      by_cases hcap : cap = 1
      · subst hcap
        obtain rfl : m = 0 := by omega
        have hE := hO3 (some ⟨g2, o2, none⟩) (by simp)
        rw [show (1 : Nat) - 1 = 0 from rfl] at hE
        clear hO3 hg0 FR
        replace hE := Mr.hid hE
        go_enter Try.func71, Try.ntmps71
        go_wp2
        go_end0
        exact ⟨rfl, hE.out.1, hE.out.2⟩
      · have hE := hO3 (some ⟨g2, o2 + 1, none⟩) (by rw [if_neg hcap])
        clear hO3 hg0 FR
        replace hE := Mr.hid hE
        go_enter Try.func71, Try.ntmps71
        go_wp2
        go_end0
        exact ⟨rfl, hE.out.1, hE.out.2⟩
end Go.Proofs.Ytegbcocbopgghac.Md
