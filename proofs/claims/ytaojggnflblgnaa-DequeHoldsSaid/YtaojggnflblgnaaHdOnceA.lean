/-
  DEQUE: atOnce, walked by its cases.
-/
import Derived.Test.YtaojggnflblgnaaHdOnce
namespace Go.Proofs.Ytaojggnflblgnaa.Hd
open Go.RowKit Mr Md
set_option linter.unusedVariables false
set_option linter.unusedSimpArgs false
set_option maxRecDepth 100000
/-- What atOnce does. -/
def AtO (th rm : Int) (vs : List Int) (c : Cq) : Prop := ∀ (S : Nat → Prop) (v : Value) (w : World), Own w S 3 1 v vs.length (ints vs) →
    Calls Try.prog 25 #[Dq.dV th rm, v, c.val] w fun e w' => ∃ v', e = .returned (.tuple #[v', anV (atO rm vs c).2.1 (atO rm vs c).2.2]) ∧ Own w' (fun k => S k ∨ w.heap.size ≤ k) 3 1 v' (atO rm vs c).1.length (ints (atO rm vs c).1) ∧ Fr w w' S
set_option maxHeartbeats 16000000 in
theorem atOnce_full (th rm : Int) (vs : List Int) (c : Cq) (hn : vs.length ≤ 100000) (h1 : c.op = 90) (h2 : rm ≤ (vs.length : Int)) : AtO th rm vs c := by
  intro S v w hv
  have O := ow_new hv th rm c
  obtain ⟨a, cap, rfl, hcap, hcm⟩ := hv.form
  have e1 : atO rm vs c = (vs, 4, 0) := by exact if_pos ⟨h1, h2⟩
  rw [e1]
  clear e1 hv
  obtain ⟨n, hnn⟩ : ∃ n, n = vs.length := ⟨_, rfl⟩
  rw [← hnn] at hn O hcap
  obtain ⟨a0, a1, a2, a3, a4, a5, a6, a7, a8⟩ := c
  unfold cqO anO at O
  unfold Cq.val Dq.dV
  simp only at *
  rw [← hnn] at h2
  have q1 : (a1 == 90) = true := by simp [h1]
  have q2 : decide (rm ≤ (n : Int)) = true := by simp [h2]
  clear h1 h2
  replace hnn := Mr.hid hnn
  rw [← hnn.out]
  go_enter Try.func25, Try.ntmps25
  go_upto_region 1 with (fail)
  generalize ((World.alloc _ _).alloc _) = wb at *
  have f1 := O.call.c1
  simp only [Nat.zero_add] at f1
  have d1 := O.d1
  have hA := O.ans
  have gA := (Array.getElem?_eq_some_iff.1 hA).1
  have c0 := Dq.cell_blk hA 0
  have c1 := Dq.cell_blk hA 1
  have k0 : wb.frozen? ⟨w.heap.size + 2, 0, none⟩ = false := by simp [World.frozen?, hA, anO]
  have k1 : wb.frozen? ⟨w.heap.size + 2, 1, none⟩ = false := by simp [World.frozen?, hA, anO]
  replace O := Mr.hid O
  clear hA
  go_wp2
  obtain ⟨e2, e3, e4⟩ := O.out.fin 4 0 _ rfl
  refine bodyPost_ret (results_tmpcell rfl _ _ ⟨w.heap.size + 2, 0, none⟩ _ rfl (loadAn e2)) rfl ⟨.slice a n cap, rfl, by rw [hnn.out] at *; exact e3, e4⟩
set_option maxHeartbeats 16000000 in
theorem atOnce_done (th rm : Int) (vs : List Int) (c : Cq) (hn : vs.length ≤ 100000) (h1 : c.op = 90) (h2 : ¬ rm ≤ (vs.length : Int)) : AtO th rm vs c := by
  intro S v w hv
  have O := ow_new hv th rm c
  obtain ⟨a, cap, rfl, hcap, hcm⟩ := hv.form
  have e1 : atO rm vs c = (vs ++ [c.arg], 1, 0) := by unfold atO; rw [if_neg (fun h => h2 h.2), if_pos h1]
  rw [e1]
  clear e1 hv
  obtain ⟨n, hnn⟩ : ∃ n, n = vs.length := ⟨_, rfl⟩
  rw [← hnn] at hn O hcap
  obtain ⟨a0, a1, a2, a3, a4, a5, a6, a7, a8⟩ := c
  unfold cqO anO at O
  unfold Cq.val Dq.dV
  simp only at *
  rw [← hnn] at h2
  have q1 : (a1 == 90) = true := by simp [h1]
  have q2 : decide (rm ≤ (n : Int)) = false := by simp; omega
  clear h1 h2
  obtain ⟨i0, hi0, hz0, hz1, hz2⟩ := Dq.info_i
  replace hnn := Mr.hid hnn
  rw [← hnn.out]
  go_enter Try.func25, Try.ntmps25
  go_upto_region 1 with (fail)
  generalize ((World.alloc _ _).alloc _) = wb at *
  have f1 := O.call.c1
  simp only [Nat.zero_add] at f1
  have d1 := O.d1
  have hA := O.ans
  have gA := (Array.getElem?_eq_some_iff.1 hA).1
  have c0 := Dq.cell_blk hA 0
  have c1 := Dq.cell_blk hA 1
  have k0 : wb.frozen? ⟨w.heap.size + 2, 0, none⟩ = false := by simp [World.frozen?, hA, anO]
  have k1 : wb.frozen? ⟨w.heap.size + 2, 1, none⟩ = false := by simp [World.frozen?, hA, anO]
  replace O := Mr.hid O
  clear hA
  have hvl : vs.length ≤ 100000 := by rw [← hnn.out]; exact hn
  have f2 := O.out.call.c2
  simp only [Nat.zero_add] at f2
  go_wp2_with (at_builtin; refine wpList_append_mine _ rfl (.tmp 27) (.tmp 30) 37 rfl (fun b => (S b ∧ b < w.heap.size) ∨ w.heap.size + 3 ≤ b) 3 i0 _ 1 8 Try.underlying37 hi0 hz0 hz1 hz2 rfl _ vs.length (ints vs) rfl (O.out.own.below (b1b _)) (some ⟨wb.heap.size, 0, none⟩) 1 1 [.int .i64 a2] rfl rfl (fun e => by cases e) (new1 rfl) (by simp [Value.oneCell']) (by unfold maxLen; omega) (by omega) ?_; intro b9 cap9 w9 hown hfr; have O2 := Mr.hid (O.out.app hown hfr); clear hown hfr; have g2 := O2.out.ans; have lA2 := (Array.getElem?_eq_some_iff.1 g2).1; have c02 := Dq.cell_blk g2 0; have c12 := Dq.cell_blk g2 1; have k02 : w9.frozen? ⟨w.heap.size + 2, 0, none⟩ = false := (by simp [World.frozen?, g2, anO]); have k12 : w9.frozen? ⟨w.heap.size + 2, 1, none⟩ = false := (by simp [World.frozen?, g2, anO]); clear g2)
  obtain ⟨e2, e3, e4⟩ := O2.out.fin 1 0 _ rfl
  rw [List.length_append] at e3
  refine bodyPost_ret (results_tmpcell rfl _ _ ⟨w.heap.size + 2, 0, none⟩ _ rfl (loadAn e2)) rfl ⟨.slice b9 (vs.length + 1) cap9, rfl, ?_, e4⟩
  rw [List.length_append]
  exact e3
set_option maxHeartbeats 16000000 in
theorem atOnce_empty (th rm : Int) (vs : List Int) (c : Cq) (hn : vs.length ≤ 100000) (h1 : c.op ≠ 90) (h2 : vs.length = 0) : AtO th rm vs c := by
  intro S v w hv
  have O := ow_new hv th rm c
  obtain ⟨a, cap, rfl, hcap, hcm⟩ := hv.form
  have e1 : atO rm vs c = ([], 3, 0) := by unfold atO; rw [if_neg (fun h => h1 h.1), if_neg h1, if_pos h2]
  rw [e1]
  clear e1 hv
  obtain ⟨n, hnn⟩ : ∃ n, n = vs.length := ⟨_, rfl⟩
  rw [← hnn] at hn O hcap
  obtain ⟨a0, a1, a2, a3, a4, a5, a6, a7, a8⟩ := c
  unfold cqO anO at O
  unfold Cq.val Dq.dV
  simp only at *
  rw [← hnn] at h2
  have q1 : (a1 == 90) = false := by simp [h1]
  subst h2
  clear h1
  replace hnn := Mr.hid hnn
  rw [← hnn.out]
  go_enter Try.func25, Try.ntmps25
  go_upto_region 1 with (fail)
  generalize ((World.alloc _ _).alloc _) = wb at *
  have f1 := O.call.c1
  simp only [Nat.zero_add] at f1
  have d1 := O.d1
  have hA := O.ans
  have gA := (Array.getElem?_eq_some_iff.1 hA).1
  have c0 := Dq.cell_blk hA 0
  have c1 := Dq.cell_blk hA 1
  have k0 : wb.frozen? ⟨w.heap.size + 2, 0, none⟩ = false := by simp [World.frozen?, hA, anO]
  have k1 : wb.frozen? ⟨w.heap.size + 2, 1, none⟩ = false := by simp [World.frozen?, hA, anO]
  replace O := Mr.hid O
  clear hA
  go_wp2
  obtain ⟨e2, e3, e4⟩ := (O.out.sub (.slice none 0 0) [] (Own.zero _ _ _ _ _)).fin 3 0 _ rfl
  refine bodyPost_ret (results_tmpcell rfl _ _ ⟨w.heap.size + 2, 0, none⟩ _ rfl (loadAn e2)) rfl ⟨.slice none 0 0, rfl, e3, e4⟩
set_option maxHeartbeats 16000000 in
theorem atOnce_take (th rm : Int) (vs : List Int) (c : Cq) (hn : vs.length ≤ 100000) (h1 : c.op = 91) (h2 : vs.length ≠ 0) : AtO th rm vs c := by
  intro S v w hv
  have O := ow_new hv th rm c
  obtain ⟨a, cap, rfl, hcap, hcm⟩ := hv.form
  have e1 : atO rm vs c = (vs.take (vs.length - 1), 2, (vs[vs.length - 1]?).getD 0) := by unfold atO; rw [if_neg (fun h => by rw [h1] at h; exact absurd h.1 (by decide)), if_neg (by rw [h1]; decide), if_neg h2, if_pos h1]
  rw [e1]
  clear e1 hv
  obtain ⟨n, hnn⟩ : ∃ n, n = vs.length := ⟨_, rfl⟩
  rw [← hnn] at hn O hcap
  obtain ⟨a0, a1, a2, a3, a4, a5, a6, a7, a8⟩ := c
  unfold cqO anO at O
  unfold Cq.val Dq.dV
  simp only at *
  have hx : vs[vs.length - 1]? = some (vs[vs.length - 1]'(by omega)) := List.getElem?_eq_getElem (by omega)
  generalize vs[vs.length - 1]'(by omega) = x at hx
  rw [hx]
  rw [← hnn] at h2 hx
  simp only [Option.getD_some]
  have q1 : (a1 == 90) = false := by simp [h1]
  have q2 : (a1 == 91) = true := by simp [h1]
  have q3 : ((n : Int) == 0) = false := by simp [h2]
  obtain ⟨m, hm⟩ : ∃ m, m + 1 = n := ⟨n - 1, by omega⟩
  have hm1 : n - 1 = m := by omega
  rw [hm1] at hx
  rw [show vs.length - 1 = m from by omega]
  have q4 : m < n := by omega
  have q5 : (m : Int) < (n : Int) := by omega
  have q6 : m ≤ cap := by omega
  have q7 : wrap64 ((n : Int) - 1) = (m : Int) := by simp only [wrap64]; omega
  have q8 : (m : Int) ≤ (cap : Int) := by omega
  have q9 : IntKind.i64.wrap ((n : Int) - 1) = (m : Int) := by rw [show (n : Int) - 1 = (m : Int) from by omega]; exact Dq.i64x _ (by omega) (by omega)
  clear h1
  replace hnn := Mr.hid hnn
  rw [← hnn.out]
  go_enter Try.func25, Try.ntmps25
  go_upto_region 1 with (fail)
  generalize ((World.alloc _ _).alloc _) = wb at *
  have f1 := O.call.c1
  simp only [Nat.zero_add] at f1
  have d1 := O.d1
  have hA := O.ans
  have gA := (Array.getElem?_eq_some_iff.1 hA).1
  have c0 := Dq.cell_blk hA 0
  have c1 := Dq.cell_blk hA 1
  have k0 : wb.frozen? ⟨w.heap.size + 2, 0, none⟩ = false := by simp [World.frozen?, hA, anO]
  have k1 : wb.frozen? ⟨w.heap.size + 2, 1, none⟩ = false := by simp [World.frozen?, hA, anO]
  replace O := Mr.hid O
  clear hA
  have hO1 : Own wb (fun k => (S k ∧ k < w.heap.size) ∨ w.heap.size + 3 ≤ k) 3 1 (.slice a n cap) n (ints vs) := by have := O.out.own; rwa [← hnn.out] at this
  have hT := Mr.hid (Own.take hO1 m (by omega))
  obtain ⟨g, o, cap', hv', hnc, hgS, hgl, hcell⟩ := hO1.sl.there (by omega)
  clear hO1
  cases hv'
  have cx := hcell m (.int .i64 x) (by simp [ints, hx])
  have hl3 := O.out.lt
  have hne : g ≠ w.heap.size + 2 := by rcases hgS with hgS | hgS <;> omega
  have VA : Hid (∀ (x : Int) (W : World), Below wb.heap.size wb W → Calls Try.prog 37 #[.int .i64 x] W fun e w' => e = .returned (anV 2 x) ∧ Below wb.heap.size wb w') := fun x W h => (valueAnswer_any x W).mono (fun e w' ⟨h1, hB⟩ => ⟨h1, h.trans (hB.mono h.size)⟩)
  have hD : Below wb.heap.size wb wb.drew := (Below.refl _ _).drew
  unfold anV at VA
  go_upto_region 9 with (fail)
  refine wp_region_held_drew (S := (fun W => W.cell? ⟨g, o + m, none⟩ = some (.int .i64 x))) (by kernel_rfl) cx (fun hHeld => ?_)
  try simp only [Act.put, List.setIfInBounds_toArray, List.set_cons_zero, List.set_cons_succ]
  refine wpAnyH_take (i := 0) (oi := (⟨_, _, _, _, _, _⟩ : Oper)) (v := ?_) rfl (by kernel_rfl) (by kernel_rfl) (by kernel_rfl) (fun _ _ _ h => h) (Or.inl ⟨by rfl, ?_⟩) (by assumption) ?_
  rotate_left
  · intro w9 hSw
    (try dsimp only at hSw)
    go_simp
    all_goals (with_reducible rfl)
  try simp only [Act.put, List.setIfInBounds_toArray, List.set_cons_zero, List.set_cons_succ]
  refine wpAnyH_take (i := 1) (oi := (⟨_, _, _, _, _, _⟩ : Oper)) (v := ?_) rfl (by kernel_rfl) (by kernel_rfl) (by kernel_rfl) (fun _ _ _ h => h) (Or.inl ⟨by rfl, ?_⟩) (by assumption) ?_
  rotate_left
  · intro w9 hSw
    (try dsimp only at hSw)
    go_simp
    all_goals (with_reducible rfl)
  try simp only [Act.put, List.setIfInBounds_toArray, List.set_cons_zero, List.set_cons_succ]
  refine wpAnyH_take (i := 2) (oi := (⟨_, _, _, _, _, _⟩ : Oper)) (v := ?_) rfl (by kernel_rfl) (by kernel_rfl) (by kernel_rfl) (fun _ _ _ h => h) (Or.inl ⟨by rfl, ?_⟩) (by assumption) ?_
  rotate_left
  · intro w9 hSw
    (try dsimp only at hSw)
    go_simp
    all_goals (with_reducible rfl)
  try simp only [Act.put, List.setIfInBounds_toArray, List.set_cons_zero, List.set_cons_succ]
  refine wpAnyH_take (i := 3) (oi := (⟨_, _, _, _, _, _⟩ : Oper)) (v := ?_) rfl (by kernel_rfl) (by kernel_rfl) (by kernel_rfl) (fun _ _ _ h => h) (Or.inl ⟨by rfl, ?_⟩) (by assumption) ?_
  rotate_left
  · intro w9 hSw
    (try dsimp only at hSw)
    go_simp
    all_goals (with_reducible rfl)
  try simp only [Act.put, List.setIfInBounds_toArray, List.set_cons_zero, List.set_cons_succ]
  refine wpAnyH_take (i := 4) (oi := (⟨_, _, _, _, _, _⟩ : Oper)) (v := ?_) rfl (by kernel_rfl) (by kernel_rfl) (by kernel_rfl) (fun _ _ _ h => h) (Or.inl ⟨by rfl, ?_⟩) (by assumption) ?_
  rotate_left
  · intro w9 hSw
    (try dsimp only at hSw)
    go_simp
    all_goals (with_reducible rfl)
  try simp only [Act.put, List.setIfInBounds_toArray, List.set_cons_zero, List.set_cons_succ]
  refine wpAnyH_take (i := 5) (oi := (⟨_, _, _, _, _, _⟩ : Oper)) (v := ?_) rfl (by kernel_rfl) (by kernel_rfl) (by kernel_rfl) (fun _ _ _ h => h) (Or.inl ⟨by rfl, ?_⟩) (by assumption) ?_
  rotate_left
  · intro w9 hSw
    (try dsimp only at hSw)
    go_simp
    all_goals (with_reducible rfl)
  try simp only [Act.put, List.setIfInBounds_toArray, List.set_cons_zero, List.set_cons_succ]
  refine wpAnyH_take (i := 6) (oi := (⟨_, _, _, _, _, _⟩ : Oper)) (v := ?_) rfl (by kernel_rfl) (by kernel_rfl) (by kernel_rfl) (fun _ _ _ h => h) (Or.inl ⟨by rfl, ?_⟩) (by assumption) ?_
  rotate_left
  · intro w9 hSw
    (try dsimp only at hSw)
    go_simp
    all_goals (with_reducible rfl)
  try simp only [Act.put, List.setIfInBounds_toArray, List.set_cons_zero, List.set_cons_succ]
  refine wpAnyH_take (i := 7) (oi := (⟨_, _, _, _, _, _⟩ : Oper)) (v := ?_) rfl (by kernel_rfl) (by kernel_rfl) (by kernel_rfl) (fun _ _ _ h => h) (Or.inl ⟨by rfl, ?_⟩) (by assumption) ?_
  rotate_left
  · intro w9 hSw
    (try dsimp only at hSw)
    go_simp
    all_goals (with_reducible rfl)
  try simp only [Act.put, List.setIfInBounds_toArray, List.set_cons_zero, List.set_cons_succ]
  refine wpAnyH_take (i := 8) (oi := (⟨_, _, _, _, _, _⟩ : Oper)) (v := ?_) rfl (by kernel_rfl) (by kernel_rfl) (by kernel_rfl) (fun _ _ _ h => h) (Or.inl ⟨by rfl, ?_⟩) (by assumption) ?_
  rotate_left
  · intro w9 hSw
    (try dsimp only at hSw)
    go_simp
    all_goals (with_reducible rfl)
  try simp only [Act.put, List.setIfInBounds_toArray, List.set_cons_zero, List.set_cons_succ]
  refine wpAnyH_ready (rs := [9]) (by kernel_rfl) (by simp) ?_
  refine AllReadyH.cons (o := (⟨_, _, _, _, _, _⟩ : Oper)) rfl (fun K hK => ?_) (AllReadyH.nil)
  go_simp
  go_at_call 37
  refine (VA.out _ _ hD).mono ?_
  rintro e w6 ⟨rfl, hB6⟩
  have cx6 := (hB6.cell (p := ⟨g, _, none⟩) hgl).trans cx
  have c06 := (hB6.cell (p := ⟨w.heap.size + 2, _, none⟩) gA).trans c0
  have c16 := (hB6.cell (p := ⟨w.heap.size + 2, _, none⟩) gA).trans c1
  have k06 := (frz (j := 0) (hB6.block _ gA)).trans k0
  have k16 := (frz (j := 1) (hB6.block _ gA)).trans k1
  try (go_wp2_with fail)
  refine hK.out _ _ cx6 (fun hHeld9 => ?_)
  clear hK K hHeld
  have hHeld := hHeld9
  clear hHeld9
  try simp only [Act.put, List.setIfInBounds_toArray, List.set_cons_zero, List.set_cons_succ]
  refine wpAnyH_take (i := 10) (oi := (⟨_, _, _, _, _, _⟩ : Oper)) (v := ?_) rfl (by kernel_rfl) (by kernel_rfl) (by kernel_rfl) (fun _ _ _ h => h) (Or.inl ⟨by rfl, ?_⟩) (by assumption) ?_
  rotate_left
  · intro w9 hSw
    (try dsimp only at hSw)
    go_simp
    all_goals (with_reducible rfl)
  try simp only [Act.put, List.setIfInBounds_toArray, List.set_cons_zero, List.set_cons_succ]
  refine wpAnyH_ready (rs := [11]) (by kernel_rfl) (by simp) ?_
  refine AllReadyH.cons (o := (⟨_, _, _, _, _, _⟩ : Oper)) rfl (fun K hK => ?_) (AllReadyH.nil)
  go_simp
  refine hK.out _ _ ((cell_ne hne).trans ((cell_ne hne).trans cx6)) (fun hHeld9 => ?_)
  clear hK K hHeld
  have hHeld := hHeld9
  clear hHeld9
  try simp only [Act.put, List.setIfInBounds_toArray, List.set_cons_zero, List.set_cons_succ]
  refine wpAnyH_done (by kernel_rfl) ?_ _
  go_wp2
  have hlm : (vs.take m).length = m := by rw [List.length_take, ← hnn.out]; omega
  obtain ⟨e2, e3, e4⟩ := ((O.out.sub (.slice (some ⟨g, o, none⟩) m cap) (vs.take m) (by rw [hlm]; have := hT.out; simpa [ints, List.map_take] using this)).below hB6).fin 2 x _ rfl
  refine bodyPost_ret (results_tmpcell rfl _ _ ⟨w.heap.size + 2, 0, none⟩ _ rfl (loadAn e2)) rfl ⟨.slice (some ⟨g, o, none⟩) m cap, rfl, e3, e4⟩
end Go.Proofs.Ytaojggnflblgnaa.Hd
