import Derived.Test.YtedaoljmcfbbpaaGreatJ38
/-
  DEQUE: atOnce, walked by its cases.
-/
namespace Go.Proofs.YtedaoljmcfbbpaaGreat.Hd
open Go.RowKit Mr Md
set_option linter.unusedVariables false
set_option linter.unusedSimpArgs false
set_option maxRecDepth 100000
/-- What atOnce does at rooms of a kind. -/
def AtOc (P : Nat → Prop) (th rm : Int) (vs : List Int) (c : Cq) : Prop := ∀ (S : Nat → Prop) (a : Option Addr) (cap : Nat) (w : World), P cap → Md.Own w S 3 1 (.slice a vs.length cap) vs.length (ints vs) →
    Calls Tryz.prog 31 #[Dq.dV th rm, .slice a vs.length cap, c.val] w fun e w' => ∃ v', e = .returned (.tuple #[v', anV (atO rm vs c).2.1 (atO rm vs c).2.2]) ∧ Md.Own w' (fun k => S k ∨ w.heap.size ≤ k) 3 1 v' (atO rm vs c).1.length (ints (atO rm vs c).1) ∧ Fr w w' S
set_option maxHeartbeats 16000000 in
theorem atOnce_tail1 (th rm : Int) (vs : List Int) (c : Cq) (hn : vs.length ≤ 100000) (h1 : c.op ≠ 90) (h0 : c.op ≠ 91) (h2 : vs.length ≠ 0) : AtOc (fun cap => cap = 1) th rm vs c := by
  intro S a cap w hcp hv
  have O := ow_new hv th rm c
  have hcap : vs.length ≤ cap := by obtain ⟨a8, cap8, e8, h8, h9⟩ := hv.form; cases e8; exact h8
  have hcm : cap ≤ maxLen := by obtain ⟨a8, cap8, e8, h8, h9⟩ := hv.form; cases e8; exact h9
  have e1 : atO rm vs c = (vs.drop 1, 2, (vs[0]?).getD 0) := by unfold atO; rw [if_neg (fun h => h1 h.1), if_neg h1, if_neg h2, if_neg h0]
  rw [e1]
  clear e1 hv
  obtain ⟨n, hnn⟩ : ∃ n, n = vs.length := ⟨_, rfl⟩
  rw [← hnn] at hn O hcap
  obtain ⟨a0, a1, a2, a3, a4, a5, a6, a7, a8⟩ := c
  unfold cqO anO at O
  unfold Cq.val Dq.dV
  simp only at *
  have hx : vs[0]? = some (vs[0]'(by omega)) := List.getElem?_eq_getElem (by omega)
  generalize vs[0]'(by omega) = x at hx
  rw [hx]
  rw [← hnn] at h2
  simp only [Option.getD_some]
  have q1 : (a1 == 90) = false := by simp [h1]
  have q2 : (a1 == 91) = false := by simp [h0]
  obtain ⟨m, rfl⟩ : ∃ m, n = m + 1 := ⟨n - 1, by omega⟩
  obtain rfl : m = 0 := by omega
  subst hcp
  rw [show (0 + 1 : Nat) = 1 from rfl] at *
  clear h1 h0 h2
  replace hnn := Mr.hid hnn
  rw [← hnn.out]
  go_enter Tryz.func31, Tryz.ntmps31
  go_upto_region 1 with (fail)
  generalize ((World.alloc _ _).alloc _) = wb at *
  have f1 := O.call.c1
  simp only [Nat.zero_add] at f1
  have d1 := O.d1
  have hA := O.ans
  have gA := (Array.getElem?_eq_some_iff.1 hA).1
  have c0 := Dq.cell_blk hA 0
  have c1 := Dq.cell_blk hA 1
  have k0 : wb.frozen? ⟨w.heap.size + 2, 0, none⟩ = false := by simp [World.frozen?, hA, anO]
  have k1 : wb.frozen? ⟨w.heap.size + 2, 1, none⟩ = false := by simp [World.frozen?, hA, anO]
  replace O := Mr.hid O
  clear hA
  have hO1 : Md.Own wb (fun k => (S k ∧ k < w.heap.size) ∨ w.heap.size + 3 ≤ k) 3 1 (.slice a 1 1) 1 (ints vs) := by have := O.out.own; rwa [← hnn.out] at this
  obtain ⟨g, o, cap', hv', hnc, hgS, hgl, hcell⟩ := hO1.sl.there (by omega)
  cases hv'
  have hT := Mr.hid (Own.tail hO1 (by omega) (some ⟨g, o, none⟩) (by simp))
  clear hO1
  have cx := hcell 0 (.int .i64 x) (by simp [ints, hx])
  rw [Nat.add_zero] at cx
  have hl3 := O.out.lt
  have hne : g ≠ w.heap.size + 2 := by rcases hgS with hgS | hgS <;> omega
  have VA : Hid (∀ (x : Int) (W : World), Below wb.heap.size wb W → Calls Tryz.prog 46 #[.int .i64 x] W fun e w' => e = .returned (anV 2 x) ∧ Below wb.heap.size wb w') := fun x W h => (valueAnswer_any x W).mono (fun e w' ⟨h1, hB⟩ => ⟨h1, h.trans (hB.mono h.size)⟩)
  have hD : Below wb.heap.size wb wb.drew := (Below.refl _ _).drew
  unfold anV at VA
  go_upto_region 10 with (fail)
  refine wp_region_held_drew (S := (fun W => W.cell? ⟨g, o, none⟩ = some (.int .i64 x))) (by kernel_rfl) cx (fun hHeld => ?_)
  try simp only [Act.put, List.setIfInBounds_toArray, List.set_cons_zero, List.set_cons_succ]
  refine wpAnyH_take (i := 0) (oi := (⟨_, _, _, _, _, _⟩ : Oper)) (v := ?_) rfl (by kernel_rfl) (by kernel_rfl) (by kernel_rfl) (fun _ _ _ h => h) (Or.inl ⟨by rfl, ?_⟩) (by assumption) ?_
  rotate_left
  · intro w9 hSw
    (try dsimp only at hSw)
    go_simp
    all_goals (with_reducible rfl)
  try simp only [Act.put, List.setIfInBounds_toArray, List.set_cons_zero, List.set_cons_succ]
  refine wpAnyH_take (i := 1) (oi := (⟨_, _, _, _, _, _⟩ : Oper)) (v := ?_) rfl (by kernel_rfl) (by kernel_rfl) (by kernel_rfl) (fun _ _ _ h => h) (Or.inl ⟨by rfl, ?_⟩) (by assumption) ?_
  rotate_left
  · intro w9 hSw
    (try dsimp only at hSw)
    go_simp
    all_goals (with_reducible rfl)
  try simp only [Act.put, List.setIfInBounds_toArray, List.set_cons_zero, List.set_cons_succ]
  refine wpAnyH_take (i := 2) (oi := (⟨_, _, _, _, _, _⟩ : Oper)) (v := ?_) rfl (by kernel_rfl) (by kernel_rfl) (by kernel_rfl) (fun _ _ _ h => h) (Or.inl ⟨by rfl, ?_⟩) (by assumption) ?_
  rotate_left
  · intro w9 hSw
    (try dsimp only at hSw)
    go_simp
    all_goals (with_reducible rfl)
  try simp only [Act.put, List.setIfInBounds_toArray, List.set_cons_zero, List.set_cons_succ]
  refine wpAnyH_take (i := 3) (oi := (⟨_, _, _, _, _, _⟩ : Oper)) (v := ?_) rfl (by kernel_rfl) (by kernel_rfl) (by kernel_rfl) (fun _ _ _ h => h) (Or.inl ⟨by rfl, ?_⟩) (by assumption) ?_
  rotate_left
  · intro w9 hSw
    (try dsimp only at hSw)
    go_simp
    all_goals (with_reducible rfl)
  try simp only [Act.put, List.setIfInBounds_toArray, List.set_cons_zero, List.set_cons_succ]
  refine wpAnyH_take (i := 4) (oi := (⟨_, _, _, _, _, _⟩ : Oper)) (v := ?_) rfl (by kernel_rfl) (by kernel_rfl) (by kernel_rfl) (fun _ _ _ h => h) (Or.inl ⟨by rfl, ?_⟩) (by assumption) ?_
  rotate_left
  · intro w9 hSw
    (try dsimp only at hSw)
    go_simp
    all_goals (with_reducible rfl)
  try simp only [Act.put, List.setIfInBounds_toArray, List.set_cons_zero, List.set_cons_succ]
  refine wpAnyH_ready (rs := [5]) (by kernel_rfl) (by simp) ?_
  refine AllReadyH.cons (o := (⟨_, _, _, _, _, _⟩ : Oper)) rfl (fun K hK => ?_) (AllReadyH.nil)
  go_simp
  go_at_call 46
  refine (VA.out _ _ hD).mono ?_
  rintro e w6 ⟨rfl, hB6⟩
  have cx6 := (hB6.cell (p := ⟨g, _, none⟩) hgl).trans cx
  have c06 := (hB6.cell (p := ⟨w.heap.size + 2, _, none⟩) gA).trans c0
  have c16 := (hB6.cell (p := ⟨w.heap.size + 2, _, none⟩) gA).trans c1
  have k06 := (frz (j := 0) (hB6.block _ gA)).trans k0
  have k16 := (frz (j := 1) (hB6.block _ gA)).trans k1
  try (go_wp2_with fail)
  refine hK.out _ _ cx6 (fun hHeld9 => ?_)
  clear hK K hHeld
  have hHeld := hHeld9
  clear hHeld9
  try simp only [Act.put, List.setIfInBounds_toArray, List.set_cons_zero, List.set_cons_succ]
  refine wpAnyH_take (i := 6) (oi := (⟨_, _, _, _, _, _⟩ : Oper)) (v := ?_) rfl (by kernel_rfl) (by kernel_rfl) (by kernel_rfl) (fun _ _ _ h => h) (Or.inl ⟨by rfl, ?_⟩) (by assumption) ?_
  rotate_left
  · intro w9 hSw
    (try dsimp only at hSw)
    go_simp
    all_goals (with_reducible rfl)
  try simp only [Act.put, List.setIfInBounds_toArray, List.set_cons_zero, List.set_cons_succ]
  refine wpAnyH_ready (rs := [7]) (by kernel_rfl) (by simp) ?_
  refine AllReadyH.cons (o := (⟨_, _, _, _, _, _⟩ : Oper)) rfl (fun K hK => ?_) (AllReadyH.nil)
  go_simp
  refine hK.out _ _ ((cell_ne hne).trans ((cell_ne hne).trans cx6)) (fun hHeld9 => ?_)
  clear hK K hHeld
  have hHeld := hHeld9
  clear hHeld9
  try simp only [Act.put, List.setIfInBounds_toArray, List.set_cons_zero, List.set_cons_succ]
  refine wpAnyH_done (by kernel_rfl) ?_ _
  go_wp2
  have hlm : (vs.drop 1).length = 0 := by rw [List.length_drop, ← hnn.out]
  obtain ⟨e2, e3, e4⟩ := ((O.out.sub (.slice (some ⟨g, o, none⟩) 0 (0)) (vs.drop 1) (by rw [hlm]; have := hT.out; simpa [ints, List.map_drop] using this)).below hB6).fin 2 x _ rfl
  refine bodyPost_ret (results_tmpcell rfl _ _ ⟨w.heap.size + 2, 0, none⟩ _ rfl (loadAn e2)) rfl ⟨.slice (some ⟨g, o, none⟩) 0 (0), rfl, e3, e4⟩
set_option maxHeartbeats 16000000 in
theorem atOnce_tail2 (th rm : Int) (vs : List Int) (c : Cq) (hn : vs.length ≤ 100000) (h1 : c.op ≠ 90) (h0 : c.op ≠ 91) (h2 : vs.length ≠ 0) : AtOc (fun cap => cap ≠ 1) th rm vs c := by
  intro S a cap w hcp hv
  have O := ow_new hv th rm c
  have hcap : vs.length ≤ cap := by obtain ⟨a8, cap8, e8, h8, h9⟩ := hv.form; cases e8; exact h8
  have hcm : cap ≤ maxLen := by obtain ⟨a8, cap8, e8, h8, h9⟩ := hv.form; cases e8; exact h9
  have e1 : atO rm vs c = (vs.drop 1, 2, (vs[0]?).getD 0) := by unfold atO; rw [if_neg (fun h => h1 h.1), if_neg h1, if_neg h2, if_neg h0]
  rw [e1]
  clear e1 hv
  obtain ⟨n, hnn⟩ : ∃ n, n = vs.length := ⟨_, rfl⟩
  rw [← hnn] at hn O hcap
  obtain ⟨a0, a1, a2, a3, a4, a5, a6, a7, a8⟩ := c
  unfold cqO anO at O
  unfold Cq.val Dq.dV
  simp only at *
  have hx : vs[0]? = some (vs[0]'(by omega)) := List.getElem?_eq_getElem (by omega)
  generalize vs[0]'(by omega) = x at hx
  rw [hx]
  rw [← hnn] at h2
  simp only [Option.getD_some]
  have q1 : (a1 == 90) = false := by simp [h1]
  have q2 : (a1 == 91) = false := by simp [h0]
  obtain ⟨m, rfl⟩ : ∃ m, n = m + 1 := ⟨n - 1, by omega⟩
  have q3 : ((m : Int) + 1 == 0) = false := by simp; omega
  have q4 : (0 : Int) < (m : Int) + 1 := by omega
  have q5 : (1 : Int) ≤ (m : Int) + 1 := by omega
  have q6 : (m : Int) + 1 ≤ (cap : Int) := by omega
  have q7 : ¬ cap = 1 := hcp
  clear h1 h0 h2
  replace hnn := Mr.hid hnn
  rw [← hnn.out]
  go_enter Tryz.func31, Tryz.ntmps31
  go_upto_region 1 with (fail)
  generalize ((World.alloc _ _).alloc _) = wb at *
  have f1 := O.call.c1
  simp only [Nat.zero_add] at f1
  have d1 := O.d1
  have hA := O.ans
  have gA := (Array.getElem?_eq_some_iff.1 hA).1
  have c0 := Dq.cell_blk hA 0
  have c1 := Dq.cell_blk hA 1
  have k0 : wb.frozen? ⟨w.heap.size + 2, 0, none⟩ = false := by simp [World.frozen?, hA, anO]
  have k1 : wb.frozen? ⟨w.heap.size + 2, 1, none⟩ = false := by simp [World.frozen?, hA, anO]
  replace O := Mr.hid O
  clear hA
  have hO1 : Md.Own wb (fun k => (S k ∧ k < w.heap.size) ∨ w.heap.size + 3 ≤ k) 3 1 (.slice a (m + 1) cap) (m + 1) (ints vs) := by have := O.out.own; rwa [← hnn.out] at this
  obtain ⟨g, o, cap', hv', hnc, hgS, hgl, hcell⟩ := hO1.sl.there (by omega)
  cases hv'
  have hT := Mr.hid (Own.tail hO1 (by omega) (some ⟨g, o + 1, none⟩) (by rw [if_neg q7]))
  clear hO1
  have cx := hcell 0 (.int .i64 x) (by simp [ints, hx])
  rw [Nat.add_zero] at cx
  have hl3 := O.out.lt
  have hne : g ≠ w.heap.size + 2 := by rcases hgS with hgS | hgS <;> omega
  have VA : Hid (∀ (x : Int) (W : World), Below wb.heap.size wb W → Calls Tryz.prog 46 #[.int .i64 x] W fun e w' => e = .returned (anV 2 x) ∧ Below wb.heap.size wb w') := fun x W h => (valueAnswer_any x W).mono (fun e w' ⟨h1, hB⟩ => ⟨h1, h.trans (hB.mono h.size)⟩)
  have hD : Below wb.heap.size wb wb.drew := (Below.refl _ _).drew
  unfold anV at VA
  go_upto_region 10 with (fail)
  refine wp_region_held_drew (S := (fun W => W.cell? ⟨g, o, none⟩ = some (.int .i64 x))) (by kernel_rfl) cx (fun hHeld => ?_)
  try simp only [Act.put, List.setIfInBounds_toArray, List.set_cons_zero, List.set_cons_succ]
  refine wpAnyH_take (i := 0) (oi := (⟨_, _, _, _, _, _⟩ : Oper)) (v := ?_) rfl (by kernel_rfl) (by kernel_rfl) (by kernel_rfl) (fun _ _ _ h => h) (Or.inl ⟨by rfl, ?_⟩) (by assumption) ?_
  rotate_left
  · intro w9 hSw
    (try dsimp only at hSw)
    go_simp
    all_goals (with_reducible rfl)
  try simp only [Act.put, List.setIfInBounds_toArray, List.set_cons_zero, List.set_cons_succ]
  refine wpAnyH_take (i := 1) (oi := (⟨_, _, _, _, _, _⟩ : Oper)) (v := ?_) rfl (by kernel_rfl) (by kernel_rfl) (by kernel_rfl) (fun _ _ _ h => h) (Or.inl ⟨by rfl, ?_⟩) (by assumption) ?_
  rotate_left
  · intro w9 hSw
    (try dsimp only at hSw)
    go_simp
    all_goals (with_reducible rfl)
  try simp only [Act.put, List.setIfInBounds_toArray, List.set_cons_zero, List.set_cons_succ]
  refine wpAnyH_take (i := 2) (oi := (⟨_, _, _, _, _, _⟩ : Oper)) (v := ?_) rfl (by kernel_rfl) (by kernel_rfl) (by kernel_rfl) (fun _ _ _ h => h) (Or.inl ⟨by rfl, ?_⟩) (by assumption) ?_
  rotate_left
  · intro w9 hSw
    (try dsimp only at hSw)
    go_simp
    all_goals (with_reducible rfl)
  try simp only [Act.put, List.setIfInBounds_toArray, List.set_cons_zero, List.set_cons_succ]
  refine wpAnyH_take (i := 3) (oi := (⟨_, _, _, _, _, _⟩ : Oper)) (v := ?_) rfl (by kernel_rfl) (by kernel_rfl) (by kernel_rfl) (fun _ _ _ h => h) (Or.inl ⟨by rfl, ?_⟩) (by assumption) ?_
  rotate_left
  · intro w9 hSw
    (try dsimp only at hSw)
    go_simp
    all_goals (with_reducible rfl)
  try simp only [Act.put, List.setIfInBounds_toArray, List.set_cons_zero, List.set_cons_succ]
  refine wpAnyH_take (i := 4) (oi := (⟨_, _, _, _, _, _⟩ : Oper)) (v := ?_) rfl (by kernel_rfl) (by kernel_rfl) (by kernel_rfl) (fun _ _ _ h => h) (Or.inl ⟨by rfl, ?_⟩) (by assumption) ?_
  rotate_left
  · intro w9 hSw
    (try dsimp only at hSw)
    go_simp
    all_goals (with_reducible rfl)
  try simp only [Act.put, List.setIfInBounds_toArray, List.set_cons_zero, List.set_cons_succ]
  refine wpAnyH_ready (rs := [5]) (by kernel_rfl) (by simp) ?_
  refine AllReadyH.cons (o := (⟨_, _, _, _, _, _⟩ : Oper)) rfl (fun K hK => ?_) (AllReadyH.nil)
  go_simp
  go_at_call 46
  refine (VA.out _ _ hD).mono ?_
  rintro e w6 ⟨rfl, hB6⟩
  have cx6 := (hB6.cell (p := ⟨g, _, none⟩) hgl).trans cx
  have c06 := (hB6.cell (p := ⟨w.heap.size + 2, _, none⟩) gA).trans c0
  have c16 := (hB6.cell (p := ⟨w.heap.size + 2, _, none⟩) gA).trans c1
  have k06 := (frz (j := 0) (hB6.block _ gA)).trans k0
  have k16 := (frz (j := 1) (hB6.block _ gA)).trans k1
  try (go_wp2_with fail)
  refine hK.out _ _ cx6 (fun hHeld9 => ?_)
  clear hK K hHeld
  have hHeld := hHeld9
  clear hHeld9
  try simp only [Act.put, List.setIfInBounds_toArray, List.set_cons_zero, List.set_cons_succ]
  refine wpAnyH_take (i := 6) (oi := (⟨_, _, _, _, _, _⟩ : Oper)) (v := ?_) rfl (by kernel_rfl) (by kernel_rfl) (by kernel_rfl) (fun _ _ _ h => h) (Or.inl ⟨by rfl, ?_⟩) (by assumption) ?_
  rotate_left
  · intro w9 hSw
    (try dsimp only at hSw)
    go_simp
    all_goals (with_reducible rfl)
  try simp only [Act.put, List.setIfInBounds_toArray, List.set_cons_zero, List.set_cons_succ]
  refine wpAnyH_ready (rs := [7]) (by kernel_rfl) (by simp) ?_
  refine AllReadyH.cons (o := (⟨_, _, _, _, _, _⟩ : Oper)) rfl (fun K hK => ?_) (AllReadyH.nil)
  go_simp
  refine hK.out _ _ ((cell_ne hne).trans ((cell_ne hne).trans cx6)) (fun hHeld9 => ?_)
  clear hK K hHeld
  have hHeld := hHeld9
  clear hHeld9
  try simp only [Act.put, List.setIfInBounds_toArray, List.set_cons_zero, List.set_cons_succ]
  refine wpAnyH_done (by kernel_rfl) ?_ _
  go_wp2
  have hlm : (vs.drop 1).length = m := by rw [List.length_drop, ← hnn.out]; omega
  obtain ⟨e2, e3, e4⟩ := ((O.out.sub (.slice (some ⟨g, o + 1, none⟩) m (cap - 1)) (vs.drop 1) (by rw [hlm]; have := hT.out; simpa [ints, List.map_drop] using this)).below hB6).fin 2 x _ rfl
  refine bodyPost_ret (results_tmpcell rfl _ _ ⟨w.heap.size + 2, 0, none⟩ _ rfl (loadAn e2)) rfl ⟨.slice (some ⟨g, o + 1, none⟩) m (cap - 1), rfl, e3, e4⟩
end Go.Proofs.YtedaoljmcfbbpaaGreat.Hd
/-
  DEQUE: explained.
-/
namespace Go.Proofs.YtedaoljmcfbbpaaGreat.Hd
open Go.RowKit Mr Md
set_option linter.unusedVariables false
set_option linter.unusedSimpArgs false
set_option maxRecDepth 100000
theorem atOnce_any (th rm : Int) (vs : List Int) (c : Cq) (hn : vs.length ≤ 100000) : AtO th rm vs c := by
  by_cases h1 : c.op = 90
  · by_cases h2 : rm ≤ (vs.length : Int)
    · exact atOnce_full th rm vs c hn h1 h2
    · exact atOnce_done th rm vs c hn h1 h2
  · by_cases h2 : vs.length = 0
    · exact atOnce_empty th rm vs c hn h1 h2
    · by_cases h0 : c.op = 91
      · exact atOnce_take th rm vs c hn h0 h2
      · intro S v w hv
        obtain ⟨a, cap, rfl, hcap, hcm⟩ := hv.form
        by_cases hc : cap = 1
        · exact atOnce_tail1 th rm vs c hn h1 h0 h2 S a cap w hc hv
        · exact atOnce_tail2 th rm vs c hn h1 h0 h2 S a cap w hc hv
theorem atO_len {rm : Int} {vs : List Int} (c : Cq) (hr : rm ≤ 256) (h : vs.length ≤ 256) : (atO rm vs c).1.length ≤ 256 := by
  unfold atO
  split
  · exact h
  · split
    · rename_i h1 h2
      have : ¬ rm ≤ (vs.length : Int) := fun h3 => h1 ⟨h2, h3⟩
      simp only [List.length_append, List.length_cons, List.length_nil]
      omega
    · split
      · simp
      · split
        · simp only [List.length_take]; omega
        · simp only [List.length_drop]; omega
theorem expl_step (rm : Int) (vs : List Int) (l : List Cq) (i : Nat) (x : Cq) (hx : l[i]? = some x) : expl rm vs (l.drop i) = (okA x (atO rm vs x).2 && expl rm (atO rm vs x).1 (l.drop (i + 1))) := by
  obtain ⟨h1, rfl⟩ := List.getElem?_eq_some_iff.1 hx
  rw [List.drop_eq_getElem_cons h1, expl]
theorem fr_cell {W W' : World} {S : Nat → Prop} (h : Fr W W' S) {b j : Nat} (hl : b < W.heap.size) (hS : ¬ S b) : W'.cell? ⟨b, j, none⟩ = W.cell? ⟨b, j, none⟩ := by
  unfold World.cell?
  rw [show (⟨b, j, none⟩ : Addr).block = b from rfl, h.block b hl hS]
set_option maxHeartbeats 16000000 in
theorem explained_any {T : Nat → Prop} (th rm : Int) (hr : rm ≤ 256) (l : List Cq) (a : Option Addr) (cap : Nat) (w : World) (hv : Sl w T 9 (.slice a l.length cap) l.length (cqs l)) (hn : l.length < 1152921504606846976) :
    Calls Tryz.prog 18 #[Dq.dV th rm, .slice a l.length cap] w fun e w' => e = .returned (.bool (expl rm [] l)) ∧ Below w.heap.size w w' := by
  obtain ⟨n, hnn⟩ : ∃ n, n = l.length := ⟨_, rfl⟩
  obtain ⟨r, hrr⟩ : ∃ r, r = expl rm [] l := ⟨_, rfl⟩
  have hv0 := Mr.hid hv
  rw [← hnn] at hn ⊢
  rw [← hrr]
  clear hv
  have B0 := Dq.bxd_below w th rm
  have b0 := Dq.bxd_0 w th rm
  have c0 := Dq.cell_blk b0 0
  have c1 := Dq.cell_blk b0 1
  have lb := (Array.getElem?_eq_some_iff.1 b0).1
  replace hnn := Mr.hid hnn
  replace hrr := Mr.hid hrr
  have B0' := Mr.hid B0
  clear B0 b0
  unfold Dq.dV
  go_enter Tryz.func18, Tryz.ntmps18
  go_upto_region 1 with fail
  generalize w.alloc (.cells #[.int .i64 th, .int .i64 rm] 23) = w1 at *
  go_wp2
  go_loopg [5, 12] n (fun gk s5 s12 wr => ∃ (i : Nat) (vs : List Int), s12 = .int .i64 (i : Int) ∧ (i + gk = n) ∧ vs.length ≤ 256 ∧ Md.Own wr (fun k => w1.heap.size ≤ k) 3 1 s5 vs.length (ints vs) ∧ Hid (expl rm vs (l.drop i) = expl rm [] l) ∧ Below w1.heap.size w1 wr)
  case atStart => exact ⟨0, [], rfl, by omega, by simp, Md.Own.zero _ _ _ _ _, Mr.hid rfl, Below.refl _ _⟩
  case round =>
    obtain ⟨i, vs, rfl, hi, hvl, hO, hz, hB⟩ := hrel
    by_cases hlt : i < n
    · have q3 : (i : Int) < (n : Int) := by omega
      obtain ⟨x, hx⟩ : ∃ x, l[i]? = some x := ⟨_, List.getElem?_eq_getElem (by rw [← hnn.out]; omega)⟩
      obtain ⟨b, o, rfl, _, C1⟩ := cqx_at hv0.out hx
      have D1 := C1.below (B0'.out.trans (hB.mono B0'.out.size))
      have hs := expl_step rm vs l i x hx
      rw [hs] at hz
      clear hs hx C1
      have hAl := atO_len x hr hvl
      obtain ⟨av, cv, rfl, hcv, hcm⟩ := hO.form
      have AO : ∀ W, Md.Own W (fun k => w1.heap.size ≤ k ∧ k < wr.heap.size) 3 1 (.slice av vs.length cv) vs.length (ints vs) → Calls Tryz.prog 31 #[Dq.dV th rm, .slice av vs.length cv, x.val] W fun e w' => ∃ v', e = .returned (.tuple #[v', anV (atO rm vs x).2.1 (atO rm vs x).2.2]) ∧ Md.Own w' (fun k => (w1.heap.size ≤ k ∧ k < wr.heap.size) ∨ W.heap.size ≤ k) 3 1 v' (atO rm vs x).1.length (ints (atO rm vs x).1) ∧ Fr W w' (fun k => w1.heap.size ≤ k ∧ k < wr.heap.size) :=
        fun W hW => atOnce_any th rm vs x (by omega) _ _ W hW
      unfold anV Dq.dV Cq.val at AO
      have hok : okA x (atO rm vs x).2 = okA x ((atO rm vs x).2.1, (atO rm vs x).2.2) := rfl
      rw [hok] at hz
      clear hok
      generalize (atO rm vs x).1 = vs' at *
      generalize (atO rm vs x).2.1 = kk at *
      generalize (atO rm vs x).2.2 = xx at *
      obtain ⟨l1, x0, x1, x2, x3, x4, x5, x6, x7, x8⟩ := D1
      have k0 := (hB.cell (p := ⟨w.heap.size, 0, none⟩) lb).trans c0
      have k1 := (hB.cell (p := ⟨w.heap.size, 1, none⟩) lb).trans c1
      have h1s := hB.size
      have hO' := Mr.hid (own_inb hO)
      have hB' := Mr.hid hB
      replace hAl := Mr.hid hAl
      replace AO := Mr.hid AO
      clear hO hB hcv hcm
      go_upto_region 5 with fail
      have cq := cqO_cells (new_at wr (cqO x) wr.heap.size rfl)
      have BQ := b1b (w := wr) (cqO x)
      have sQ : (wr.alloc (cqO x)).heap.size = wr.heap.size + 1 := by simp
      unfold cqO at cq BQ sQ
      generalize wr.alloc _ = wq at *
      clear x0 x1 x2 x3 x4 x5 x6 x7 x8
      replace k0 := (BQ.cell (p := ⟨w.heap.size, 0, none⟩) (by show w.heap.size < _; omega)).trans k0
      replace k1 := (BQ.cell (p := ⟨w.heap.size, 1, none⟩) (by show w.heap.size < _; omega)).trans k1
      obtain ⟨l2, x0, x1, x2, x3, x4, x5, x6, x7, x8⟩ := cq
      simp only [Nat.zero_add] at x1 x2 x3 x4 x5 x6 x7 x8
      replace BQ := Mr.hid BQ
      replace sQ := Mr.hid sQ
      obtain ⟨a0, a1, a2, a3, a4, a5, a6, a7, a8⟩ := x
      simp only at *
      go_upto_region 6 with (go_at_call 31; refine (AO.out _ (hO'.out.below BQ.out)).mono ?_; rintro e w6 ⟨v6, rfl, hO6, hF6⟩)
      have nS : ¬ (w1.heap.size ≤ wr.heap.size ∧ wr.heap.size < wr.heap.size) := by omega
      have y5 := (fr_cell (j := 5) hF6 l2 nS).trans x5
      have y7 := (fr_cell (j := 7) hF6 l2 nS).trans x7
      have y8 := (fr_cell (j := 8) hF6 l2 nS).trans x8
      have s6 := hF6.size
      have l6 : wr.heap.size < w6.heap.size := by omega
      have BA := b1b (w := w6) (anO kk xx)
      have hA := new_at w6 (anO kk xx) w6.heap.size rfl
      unfold anO at BA hA
      replace y5 := (BA.cell (p := ⟨wr.heap.size, _, none⟩) l6).trans y5
      replace y7 := (BA.cell (p := ⟨wr.heap.size, _, none⟩) l6).trans y7
      replace y8 := (BA.cell (p := ⟨wr.heap.size, _, none⟩) l6).trans y8
      have z0 := Dq.cell_blk hA 0
      have z1 := Dq.cell_blk hA 1
      generalize w6.alloc _ = w7 at *
      clear x0 x1 x2 x3 x4 x5 x6 x7 x8 k0 k1
      have hB7 : Hid (Below w1.heap.size w1 w7) := by
        have q := hB'.out
        have q2 := q.trans (BQ.out.mono q.size)
        refine Mr.hid ((q2.trans ?_).trans (BA.mono (by omega)))
        exact hF6.below (fun k hk => hk.1) (by have := sQ.out; omega)
      have hO7 := Mr.hid ((hO6.below BA).mono (T := fun k => w1.heap.size ≤ k) (fun k hk => by
        have := sQ.out
        rcases hk with hk | hk <;> omega))
      clear hO6 hF6 BA hA
      by_cases h5 : a5 = -1
      · have e5 : (a5 != -1) = false := by simp [h5]
        have hz' : Hid (expl rm vs' (List.drop (i + 1) l) = expl rm [] l) := Mr.hid (by have := hz.out; simpa [okA, h5] using this)
        clear hz
        go_wp2
        go_roundg (gk - 1)
        case measure => omega
        case rel => exact ⟨i + 1, vs', by simp, by omega, hAl.out, hO7.out, hz', hB7.out⟩
      · have e5 : (a5 != -1) = true := by simp [h5]
        by_cases h7 : a7 = kk
        · have e7 : (a7 == kk) = true := by simp [h7]
          have e7' : (a7 != kk) = false := by simp [h7]
          by_cases h8 : a8 = xx
          · have e8 : (a8 == xx) = true := by simp [h8]
            have e8' : (a8 != xx) = false := by simp [h8]
            have hz' : Hid (expl rm vs' (List.drop (i + 1) l) = expl rm [] l) := Mr.hid (by have := hz.out; simpa [okA, h5, h7, h8] using this)
            clear hz
            go_wp2
            go_roundg (gk - 1)
            case measure => omega
            case rel => exact ⟨i + 1, vs', by simp, by omega, hAl.out, hO7.out, hz', hB7.out⟩
          · have e8 : (a8 == xx) = false := by simp [h8]
            have e8' : (a8 != xx) = true := by simp [h8]
            have hz' : Hid (false = expl rm [] l) := Mr.hid (by have := hz.out; simpa [okA, h5, h7, h8] using this)
            clear hz
            go_wp2
            go_ret
            exact ⟨by rw [hrr.out, ← hz'.out]; rfl, B0'.out.trans (hB7.out.mono B0'.out.size)⟩
        · have e7 : (a7 == kk) = false := by simp [h7]
          have e7' : (a7 != kk) = true := by simp [h7]
          have hz' : Hid (false = expl rm [] l) := Mr.hid (by have := hz.out; simpa [okA, h5, h7] using this)
          clear hz
          go_wp2
          go_ret
          exact ⟨by rw [hrr.out, ← hz'.out]; rfl, B0'.out.trans (hB7.out.mono B0'.out.size)⟩
    · have q1 : decide ((i : Int) < (n : Int)) = false := decide_eq_false (by omega)
      have q2 : decide (i < n) = false := decide_eq_false hlt
      go_wp2
      go_ret
      refine ⟨?_, B0'.out.trans (hB.mono B0'.out.size)⟩
      rw [hrr.out, ← hz.out, List.drop_of_length_le (by rw [← hnn.out]; omega)]
      rfl
end Go.Proofs.YtedaoljmcfbbpaaGreat.Hd
