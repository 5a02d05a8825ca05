/-
  DEQUE: atOnce, walked by its cases.
-/
import Derived.Test.YtaojggnflblgnaaHdOnceA
namespace Go.Proofs.Ytaojggnflblgnaa.Hd
open Go.RowKit Mr Md
set_option linter.unusedVariables false
set_option linter.unusedSimpArgs false
set_option maxRecDepth 100000
/-- What atOnce does at rooms of a kind. -/
def AtOc (P : Nat → Prop) (th rm : Int) (vs : List Int) (c : Cq) : Prop := ∀ (S : Nat → Prop) (a : Option Addr) (cap : Nat) (w : World), P cap → Own w S 3 1 (.slice a vs.length cap) vs.length (ints vs) →
    Calls Try.prog 25 #[Dq.dV th rm, .slice a vs.length cap, c.val] w fun e w' => ∃ v', e = .returned (.tuple #[v', anV (atO rm vs c).2.1 (atO rm vs c).2.2]) ∧ Own w' (fun k => S k ∨ w.heap.size ≤ k) 3 1 v' (atO rm vs c).1.length (ints (atO rm vs c).1) ∧ Fr w w' S
set_option maxHeartbeats 16000000 in
theorem atOnce_tail1 (th rm : Int) (vs : List Int) (c : Cq) (hn : vs.length ≤ 100000) (h1 : c.op ≠ 90) (h0 : c.op ≠ 91) (h2 : vs.length ≠ 0) : AtOc (fun cap => cap = 1) th rm vs c := by
  intro S a cap w hcp hv
  have O := ow_new hv th rm c
  have hcap : vs.length ≤ cap := by obtain ⟨a8, cap8, e8, h8, h9⟩ := hv.form; cases e8; exact h8
  have hcm : cap ≤ maxLen := by obtain ⟨a8, cap8, e8, h8, h9⟩ := hv.form; cases e8; exact h9
  have e1 : atO rm vs c = (vs.drop 1, 2, (vs[0]?).getD 0) := by unfold atO; rw [if_neg (fun h => h1 h.1), if_neg h1, if_neg h2, if_neg h0]
  rw [e1]
  clear e1 hv
  obtain ⟨n, hnn⟩ : ∃ n, n = vs.length := ⟨_, rfl⟩
  rw [← hnn] at hn O hcap
  obtain ⟨a0, a1, a2, a3, a4, a5, a6, a7, a8⟩ := c
  unfold cqO anO at O
  unfold Cq.val Dq.dV
  simp only at *
  have hx : vs[0]? = some (vs[0]'(by omega)) := List.getElem?_eq_getElem (by omega)
  generalize vs[0]'(by omega) = x at hx
  rw [hx]
  rw [← hnn] at h2
  simp only [Option.getD_some]
  have q1 : (a1 == 90) = false := by simp [h1]
  have q2 : (a1 == 91) = false := by simp [h0]
  obtain ⟨m, rfl⟩ : ∃ m, n = m + 1 := ⟨n - 1, by omega⟩
  obtain rfl : m = 0 := by omega
  subst hcp
  rw [show (0 + 1 : Nat) = 1 from rfl] at *
  clear h1 h0 h2
  replace hnn := Mr.hid hnn
  rw [← hnn.out]
  go_enter Try.func25, Try.ntmps25
  go_upto_region 1 with (fail)
  generalize ((World.alloc _ _).alloc _) = wb at *
  have f1 := O.call.c1
  simp only [Nat.zero_add] at f1
  have d1 := O.d1
  have hA := O.ans
  have gA := (Array.getElem?_eq_some_iff.1 hA).1
  have c0 := Dq.cell_blk hA 0
  have c1 := Dq.cell_blk hA 1
  have k0 : wb.frozen? ⟨w.heap.size + 2, 0, none⟩ = false := by simp [World.frozen?, hA, anO]
  have k1 : wb.frozen? ⟨w.heap.size + 2, 1, none⟩ = false := by simp [World.frozen?, hA, anO]
  replace O := Mr.hid O
  clear hA
  have hO1 : Own wb (fun k => (S k ∧ k < w.heap.size) ∨ w.heap.size + 3 ≤ k) 3 1 (.slice a 1 1) 1 (ints vs) := by have := O.out.own; rwa [← hnn.out] at this
  obtain ⟨g, o, cap', hv', hnc, hgS, hgl, hcell⟩ := hO1.sl.there (by omega)
  cases hv'
  have hT := Mr.hid (Own.tail hO1 (by omega) (some ⟨g, o, none⟩) (by simp))
  clear hO1
  have cx := hcell 0 (.int .i64 x) (by simp [ints, hx])
  rw [Nat.add_zero] at cx
  have hl3 := O.out.lt
  have hne : g ≠ w.heap.size + 2 := by rcases hgS with hgS | hgS <;> omega
  have VA : Hid (∀ (x : Int) (W : World), Below wb.heap.size wb W → Calls Try.prog 37 #[.int .i64 x] W fun e w' => e = .returned (anV 2 x) ∧ Below wb.heap.size wb w') := fun x W h => (valueAnswer_any x W).mono (fun e w' ⟨h1, hB⟩ => ⟨h1, h.trans (hB.mono h.size)⟩)
  have hD : Below wb.heap.size wb wb.drew := (Below.refl _ _).drew
  unfold anV at VA
  go_upto_region 10 with (fail)
  refine wp_region_held_drew (S := (fun W => W.cell? ⟨g, o, none⟩ = some (.int .i64 x))) (by kernel_rfl) cx (fun hHeld => ?_)
  try simp only [Act.put, List.setIfInBounds_toArray, List.set_cons_zero, List.set_cons_succ]
  refine wpAnyH_take (i := 0) (oi := (⟨_, _, _, _, _, _⟩ : Oper)) (v := ?_) rfl (by kernel_rfl) (by kernel_rfl) (by kernel_rfl) (fun _ _ _ h => h) (Or.inl ⟨by rfl, ?_⟩) (by assumption) ?_
  rotate_left
  · intro w9 hSw
    (try dsimp only at hSw)
    go_simp
    all_goals (with_reducible rfl)
  try simp only [Act.put, List.setIfInBounds_toArray, List.set_cons_zero, List.set_cons_succ]
  refine wpAnyH_take (i := 1) (oi := (⟨_, _, _, _, _, _⟩ : Oper)) (v := ?_) rfl (by kernel_rfl) (by kernel_rfl) (by kernel_rfl) (fun _ _ _ h => h) (Or.inl ⟨by rfl, ?_⟩) (by assumption) ?_
  rotate_left
  · intro w9 hSw
    (try dsimp only at hSw)
    go_simp
    all_goals (with_reducible rfl)
  try simp only [Act.put, List.setIfInBounds_toArray, List.set_cons_zero, List.set_cons_succ]
  refine wpAnyH_take (i := 2) (oi := (⟨_, _, _, _, _, _⟩ : Oper)) (v := ?_) rfl (by kernel_rfl) (by kernel_rfl) (by kernel_rfl) (fun _ _ _ h => h) (Or.inl ⟨by rfl, ?_⟩) (by assumption) ?_
  rotate_left
  · intro w9 hSw
    (try dsimp only at hSw)
    go_simp
    all_goals (with_reducible rfl)
  try simp only [Act.put, List.setIfInBounds_toArray, List.set_cons_zero, List.set_cons_succ]
  refine wpAnyH_take (i := 3) (oi := (⟨_, _, _, _, _, _⟩ : Oper)) (v := ?_) rfl (by kernel_rfl) (by kernel_rfl) (by kernel_rfl) (fun _ _ _ h => h) (Or.inl ⟨by rfl, ?_⟩) (by assumption) ?_
  rotate_left
  · intro w9 hSw
    (try dsimp only at hSw)
    go_simp
    all_goals (with_reducible rfl)
  try simp only [Act.put, List.setIfInBounds_toArray, List.set_cons_zero, List.set_cons_succ]
  refine wpAnyH_take (i := 4) (oi := (⟨_, _, _, _, _, _⟩ : Oper)) (v := ?_) rfl (by kernel_rfl) (by kernel_rfl) (by kernel_rfl) (fun _ _ _ h => h) (Or.inl ⟨by rfl, ?_⟩) (by assumption) ?_
  rotate_left
  · intro w9 hSw
    (try dsimp only at hSw)
    go_simp
    all_goals (with_reducible rfl)
  try simp only [Act.put, List.setIfInBounds_toArray, List.set_cons_zero, List.set_cons_succ]
  refine wpAnyH_ready (rs := [5]) (by kernel_rfl) (by simp) ?_
  refine AllReadyH.cons (o := (⟨_, _, _, _, _, _⟩ : Oper)) rfl (fun K hK => ?_) (AllReadyH.nil)
  go_simp
  go_at_call 37
  refine (VA.out _ _ hD).mono ?_
  rintro e w6 ⟨rfl, hB6⟩
  have cx6 := (hB6.cell (p := ⟨g, _, none⟩) hgl).trans cx
  have c06 := (hB6.cell (p := ⟨w.heap.size + 2, _, none⟩) gA).trans c0
  have c16 := (hB6.cell (p := ⟨w.heap.size + 2, _, none⟩) gA).trans c1
  have k06 := (frz (j := 0) (hB6.block _ gA)).trans k0
  have k16 := (frz (j := 1) (hB6.block _ gA)).trans k1
  try (go_wp2_with fail)
  refine hK.out _ _ cx6 (fun hHeld9 => ?_)
  clear hK K hHeld
  have hHeld := hHeld9
  clear hHeld9
  try simp only [Act.put, List.setIfInBounds_toArray, List.set_cons_zero, List.set_cons_succ]
  refine wpAnyH_take (i := 6) (oi := (⟨_, _, _, _, _, _⟩ : Oper)) (v := ?_) rfl (by kernel_rfl) (by kernel_rfl) (by kernel_rfl) (fun _ _ _ h => h) (Or.inl ⟨by rfl, ?_⟩) (by assumption) ?_
  rotate_left
  · intro w9 hSw
    (try dsimp only at hSw)
    go_simp
    all_goals (with_reducible rfl)
  try simp only [Act.put, List.setIfInBounds_toArray, List.set_cons_zero, List.set_cons_succ]
  refine wpAnyH_ready (rs := [7]) (by kernel_rfl) (by simp) ?_
  refine AllReadyH.cons (o := (⟨_, _, _, _, _, _⟩ : Oper)) rfl (fun K hK => ?_) (AllReadyH.nil)
  go_simp
  refine hK.out _ _ ((cell_ne hne).trans ((cell_ne hne).trans cx6)) (fun hHeld9 => ?_)
  clear hK K hHeld
  have hHeld := hHeld9
  clear hHeld9
  try simp only [Act.put, List.setIfInBounds_toArray, List.set_cons_zero, List.set_cons_succ]
  refine wpAnyH_done (by kernel_rfl) ?_ _
  go_wp2
  have hlm : (vs.drop 1).length = 0 := by rw [List.length_drop, ← hnn.out]
  obtain ⟨e2, e3, e4⟩ := ((O.out.sub (.slice (some ⟨g, o, none⟩) 0 (0)) (vs.drop 1) (by rw [hlm]; have := hT.out; simpa [ints, List.map_drop] using this)).below hB6).fin 2 x _ rfl
  refine bodyPost_ret (results_tmpcell rfl _ _ ⟨w.heap.size + 2, 0, none⟩ _ rfl (loadAn e2)) rfl ⟨.slice (some ⟨g, o, none⟩) 0 (0), rfl, e3, e4⟩
set_option maxHeartbeats 16000000 in
theorem atOnce_tail2 (th rm : Int) (vs : List Int) (c : Cq) (hn : vs.length ≤ 100000) (h1 : c.op ≠ 90) (h0 : c.op ≠ 91) (h2 : vs.length ≠ 0) : AtOc (fun cap => cap ≠ 1) th rm vs c := by
  intro S a cap w hcp hv
  have O := ow_new hv th rm c
  have hcap : vs.length ≤ cap := by obtain ⟨a8, cap8, e8, h8, h9⟩ := hv.form; cases e8; exact h8
  have hcm : cap ≤ maxLen := by obtain ⟨a8, cap8, e8, h8, h9⟩ := hv.form; cases e8; exact h9
  have e1 : atO rm vs c = (vs.drop 1, 2, (vs[0]?).getD 0) := by unfold atO; rw [if_neg (fun h => h1 h.1), if_neg h1, if_neg h2, if_neg h0]
  rw [e1]
  clear e1 hv
  obtain ⟨n, hnn⟩ : ∃ n, n = vs.length := ⟨_, rfl⟩
  rw [← hnn] at hn O hcap
  obtain ⟨a0, a1, a2, a3, a4, a5, a6, a7, a8⟩ := c
  unfold cqO anO at O
  unfold Cq.val Dq.dV
  simp only at *
  have hx : vs[0]? = some (vs[0]'(by omega)) := List.getElem?_eq_getElem (by omega)
  generalize vs[0]'(by omega) = x at hx
  rw [hx]
  rw [← hnn] at h2
  simp only [Option.getD_some]
  have q1 : (a1 == 90) = false := by simp [h1]
  have q2 : (a1 == 91) = false := by simp [h0]
  obtain ⟨m, rfl⟩ : ∃ m, n = m + 1 := ⟨n - 1, by omega⟩
  have q3 : ((m : Int) + 1 == 0) = false := by simp; omega
  have q4 : (0 : Int) < (m : Int) + 1 := by omega
  have q5 : (1 : Int) ≤ (m : Int) + 1 := by omega
  have q6 : (m : Int) + 1 ≤ (cap : Int) := by omega
  have q7 : ¬ cap = 1 := hcp
  clear h1 h0 h2
  replace hnn := Mr.hid hnn
  rw [← hnn.out]
  go_enter Try.func25, Try.ntmps25
  go_upto_region 1 with (fail)
  generalize ((World.alloc _ _).alloc _) = wb at *
  have f1 := O.call.c1
  simp only [Nat.zero_add] at f1
  have d1 := O.d1
  have hA := O.ans
  have gA := (Array.getElem?_eq_some_iff.1 hA).1
  have c0 := Dq.cell_blk hA 0
  have c1 := Dq.cell_blk hA 1
  have k0 : wb.frozen? ⟨w.heap.size + 2, 0, none⟩ = false := by simp [World.frozen?, hA, anO]
  have k1 : wb.frozen? ⟨w.heap.size + 2, 1, none⟩ = false := by simp [World.frozen?, hA, anO]
  replace O := Mr.hid O
  clear hA
  have hO1 : Own wb (fun k => (S k ∧ k < w.heap.size) ∨ w.heap.size + 3 ≤ k) 3 1 (.slice a (m + 1) cap) (m + 1) (ints vs) := by have := O.out.own; rwa [← hnn.out] at this
  obtain ⟨g, o, cap', hv', hnc, hgS, hgl, hcell⟩ := hO1.sl.there (by omega)
  cases hv'
  have hT := Mr.hid (Own.tail hO1 (by omega) (some ⟨g, o + 1, none⟩) (by rw [if_neg q7]))
  clear hO1
  have cx := hcell 0 (.int .i64 x) (by simp [ints, hx])
  rw [Nat.add_zero] at cx
  have hl3 := O.out.lt
  have hne : g ≠ w.heap.size + 2 := by rcases hgS with hgS | hgS <;> omega
  have VA : Hid (∀ (x : Int) (W : World), Below wb.heap.size wb W → Calls Try.prog 37 #[.int .i64 x] W fun e w' => e = .returned (anV 2 x) ∧ Below wb.heap.size wb w') := fun x W h => (valueAnswer_any x W).mono (fun e w' ⟨h1, hB⟩ => ⟨h1, h.trans (hB.mono h.size)⟩)
  have hD : Below wb.heap.size wb wb.drew := (Below.refl _ _).drew
  unfold anV at VA
  go_upto_region 10 with (fail)
  refine wp_region_held_drew (S := (fun W => W.cell? ⟨g, o, none⟩ = some (.int .i64 x))) (by kernel_rfl) cx (fun hHeld => ?_)
  try simp only [Act.put, List.setIfInBounds_toArray, List.set_cons_zero, List.set_cons_succ]
  refine wpAnyH_take (i := 0) (oi := (⟨_, _, _, _, _, _⟩ : Oper)) (v := ?_) rfl (by kernel_rfl) (by kernel_rfl) (by kernel_rfl) (fun _ _ _ h => h) (Or.inl ⟨by rfl, ?_⟩) (by assumption) ?_
  rotate_left
  · intro w9 hSw
    (try dsimp only at hSw)
    go_simp
    all_goals (with_reducible rfl)
  try simp only [Act.put, List.setIfInBounds_toArray, List.set_cons_zero, List.set_cons_succ]
  refine wpAnyH_take (i := 1) (oi := (⟨_, _, _, _, _, _⟩ : Oper)) (v := ?_) rfl (by kernel_rfl) (by kernel_rfl) (by kernel_rfl) (fun _ _ _ h => h) (Or.inl ⟨by rfl, ?_⟩) (by assumption) ?_
  rotate_left
  · intro w9 hSw
    (try dsimp only at hSw)
    go_simp
    all_goals (with_reducible rfl)
  try simp only [Act.put, List.setIfInBounds_toArray, List.set_cons_zero, List.set_cons_succ]
  refine wpAnyH_take (i := 2) (oi := (⟨_, _, _, _, _, _⟩ : Oper)) (v := ?_) rfl (by kernel_rfl) (by kernel_rfl) (by kernel_rfl) (fun _ _ _ h => h) (Or.inl ⟨by rfl, ?_⟩) (by assumption) ?_
  rotate_left
  · intro w9 hSw
    (try dsimp only at hSw)
    go_simp
    all_goals (with_reducible rfl)
  try simp only [Act.put, List.setIfInBounds_toArray, List.set_cons_zero, List.set_cons_succ]
  refine wpAnyH_take (i := 3) (oi := (⟨_, _, _, _, _, _⟩ : Oper)) (v := ?_) rfl (by kernel_rfl) (by kernel_rfl) (by kernel_rfl) (fun _ _ _ h => h) (Or.inl ⟨by rfl, ?_⟩) (by assumption) ?_
  rotate_left
  · intro w9 hSw
    (try dsimp only at hSw)
    go_simp
    all_goals (with_reducible rfl)
  try simp only [Act.put, List.setIfInBounds_toArray, List.set_cons_zero, List.set_cons_succ]
  refine wpAnyH_take (i := 4) (oi := (⟨_, _, _, _, _, _⟩ : Oper)) (v := ?_) rfl (by kernel_rfl) (by kernel_rfl) (by kernel_rfl) (fun _ _ _ h => h) (Or.inl ⟨by rfl, ?_⟩) (by assumption) ?_
  rotate_left
  · intro w9 hSw
    (try dsimp only at hSw)
    go_simp
    all_goals (with_reducible rfl)
  try simp only [Act.put, List.setIfInBounds_toArray, List.set_cons_zero, List.set_cons_succ]
  refine wpAnyH_ready (rs := [5]) (by kernel_rfl) (by simp) ?_
  refine AllReadyH.cons (o := (⟨_, _, _, _, _, _⟩ : Oper)) rfl (fun K hK => ?_) (AllReadyH.nil)
  go_simp
  go_at_call 37
  refine (VA.out _ _ hD).mono ?_
  rintro e w6 ⟨rfl, hB6⟩
  have cx6 := (hB6.cell (p := ⟨g, _, none⟩) hgl).trans cx
  have c06 := (hB6.cell (p := ⟨w.heap.size + 2, _, none⟩) gA).trans c0
  have c16 := (hB6.cell (p := ⟨w.heap.size + 2, _, none⟩) gA).trans c1
  have k06 := (frz (j := 0) (hB6.block _ gA)).trans k0
  have k16 := (frz (j := 1) (hB6.block _ gA)).trans k1
  try (go_wp2_with fail)
  refine hK.out _ _ cx6 (fun hHeld9 => ?_)
  clear hK K hHeld
  have hHeld := hHeld9
  clear hHeld9
  try simp only [Act.put, List.setIfInBounds_toArray, List.set_cons_zero, List.set_cons_succ]
  refine wpAnyH_take (i := 6) (oi := (⟨_, _, _, _, _, _⟩ : Oper)) (v := ?_) rfl (by kernel_rfl) (by kernel_rfl) (by kernel_rfl) (fun _ _ _ h => h) (Or.inl ⟨by rfl, ?_⟩) (by assumption) ?_
  rotate_left
  · intro w9 hSw
    (try dsimp only at hSw)
    go_simp
    all_goals (with_reducible rfl)
  try simp only [Act.put, List.setIfInBounds_toArray, List.set_cons_zero, List.set_cons_succ]
  refine wpAnyH_ready (rs := [7]) (by kernel_rfl) (by simp) ?_
  refine AllReadyH.cons (o := (⟨_, _, _, _, _, _⟩ : Oper)) rfl (fun K hK => ?_) (AllReadyH.nil)
  go_simp
  refine hK.out _ _ ((cell_ne hne).trans ((cell_ne hne).trans cx6)) (fun hHeld9 => ?_)
  clear hK K hHeld
  have hHeld := hHeld9
  clear hHeld9
  try simp only [Act.put, List.setIfInBounds_toArray, List.set_cons_zero, List.set_cons_succ]
  refine wpAnyH_done (by kernel_rfl) ?_ _
  go_wp2
  have hlm : (vs.drop 1).length = m := by rw [List.length_drop, ← hnn.out]; omega
  obtain ⟨e2, e3, e4⟩ := ((O.out.sub (.slice (some ⟨g, o + 1, none⟩) m (cap - 1)) (vs.drop 1) (by rw [hlm]; have := hT.out; simpa [ints, List.map_drop] using this)).below hB6).fin 2 x _ rfl
  refine bodyPost_ret (results_tmpcell rfl _ _ ⟨w.heap.size + 2, 0, none⟩ _ rfl (loadAn e2)) rfl ⟨.slice (some ⟨g, o + 1, none⟩) m (cap - 1), rfl, e3, e4⟩
end Go.Proofs.Ytaojggnflblgnaa.Hd
