import Derived.Test.YtedaoljmcfbbpaaGreatJ41
/-
  DequeLinear: made (full, empty; made by mk_dmmade.py).
-/
namespace Go.Proofs.YtedaoljmcfbbpaaGreat.Dm
open Go.RowKit Go.Shelf Mr Me Ma Gm Dq
set_option linter.unusedVariables false
set_option linter.unusedSimpArgs false
set_option maxRecDepth 100000
set_option maxHeartbeats 8000000 in
theorem made_full_opn (rm : Int) (vs : List Int) (x : Cl) (hn : vs.length ≤ 100000) (hf : x.fin = -1) (hop : x.op = 90) (hr : rm ≤ (vs.length : Int)) : MdC rm vs x := by
  intro a cap w hv hcap
  have e1 : Hd.atO rm vs (qq x) = (vs, 4, 0) := by exact at_f hop hr
  rw [e1]
  clear e1
  obtain ⟨a0, a1, a2, a3, a4, a5, a6, a7, a8⟩ := x
  obtain rfl : a5 = -1 := hf
  obtain rfl : a1 = 90 := hop
  have hr1 : decide (rm ≤ (vs.length : Int)) = true := decide_eq_true hr
  dsimp only
  have B0 := Mr.hid ((Below.refl w.heap.size w).alloc (Nat.le_refl _) (.cells #[.int .i64 a0, .int .i64 90, .int .i64 a2, .int .i64 a3, .int .i64 a4, .int .i64 (-1), .int .i64 a6, .int .i64 a7, .int .i64 a8] 45 (0, 0)))
  have hv0 := Mr.hid hv
  have hcap0 := Mr.hid hcap
  clear hv hcap
  go_enter Tryz.func9, Tryz.ntmps9
  go_wp2
  go_ret2
  exact ⟨a, cap, rfl, hv0.out.below B0.out, hcap0.out, B0.out⟩
set_option maxHeartbeats 8000000 in
theorem made_empty_opn (rm : Int) (vs : List Int) (x : Cl) (hn : vs.length ≤ 100000) (hf : x.fin = -1) (hop : x.op ≠ 90) (h0 : vs = []) : MdC rm vs x := by
  intro a cap w hv hcap
  have e1 : Hd.atO rm vs (qq x) = ([], 3, 0) := by rw [h0]; exact at_e rm hop
  rw [e1]
  clear e1
  obtain ⟨a0, a1, a2, a3, a4, a5, a6, a7, a8⟩ := x
  obtain rfl : a5 = -1 := hf
  have ho : (a1 == 90) = false := by have : a1 ≠ 90 := hop; simp [this]
  subst h0
  clear hop
  dsimp only
  have B0 := Mr.hid ((Below.refl w.heap.size w).alloc (Nat.le_refl _) (.cells #[.int .i64 a0, .int .i64 a1, .int .i64 a2, .int .i64 a3, .int .i64 a4, .int .i64 (-1), .int .i64 a6, .int .i64 a7, .int .i64 a8] 45 (0, 0)))
  have hv0 := Mr.hid hv
  have hcap0 := Mr.hid hcap
  clear hv hcap
  go_enter Tryz.func9, Tryz.ntmps9
  go_wp2
  go_ret2
  exact ⟨a, cap, rfl, hv0.out.below B0.out, hcap0.out, B0.out⟩
set_option maxHeartbeats 8000000 in
theorem made_full_end (rm : Int) (vs : List Int) (x : Cl) (hn : vs.length ≤ 100000) (hf : 0 ≤ x.fin) (hop : x.op = 90) (hr : rm ≤ (vs.length : Int)) (hk : x.ak = 4) : MdC rm vs x := by
  intro a cap w hv hcap
  have e1 : Hd.atO rm vs (qq x) = (vs, 4, 0) := by exact at_f hop hr
  rw [e1]
  clear e1
  obtain ⟨a0, a1, a2, a3, a4, a5, a6, a7, a8⟩ := x
  have hfd : decide (a5 < 0) = false := decide_eq_false (by have := hf; simp only at this; omega)
  obtain rfl : a1 = 90 := hop
  obtain rfl : a7 = 4 := hk
  have hr1 : decide (rm ≤ (vs.length : Int)) = true := decide_eq_true hr
  clear hf
  dsimp only
  have B0 := Mr.hid ((Below.refl w.heap.size w).alloc (Nat.le_refl _) (.cells #[.int .i64 a0, .int .i64 90, .int .i64 a2, .int .i64 a3, .int .i64 a4, .int .i64 a5, .int .i64 a6, .int .i64 4, .int .i64 a8] 45 (0, 0)))
  have hv0 := Mr.hid hv
  have hcap0 := Mr.hid hcap
  clear hv hcap
  go_enter Tryz.func9, Tryz.ntmps9
  go_wp2
  go_ret2
  exact ⟨a, cap, rfl, hv0.out.below B0.out, hcap0.out, B0.out⟩
set_option maxHeartbeats 8000000 in
theorem made_empty_end (rm : Int) (vs : List Int) (x : Cl) (hn : vs.length ≤ 100000) (hf : 0 ≤ x.fin) (hop : x.op ≠ 90) (h0 : vs = []) (hk : x.ak = 3) : MdC rm vs x := by
  intro a cap w hv hcap
  have e1 : Hd.atO rm vs (qq x) = ([], 3, 0) := by rw [h0]; exact at_e rm hop
  rw [e1]
  clear e1
  obtain ⟨a0, a1, a2, a3, a4, a5, a6, a7, a8⟩ := x
  have hfd : decide (a5 < 0) = false := decide_eq_false (by have := hf; simp only at this; omega)
  have ho : (a1 == 90) = false := by have : a1 ≠ 90 := hop; simp [this]
  obtain rfl : a7 = 3 := hk
  subst h0
  clear hop hf
  dsimp only
  have B0 := Mr.hid ((Below.refl w.heap.size w).alloc (Nat.le_refl _) (.cells #[.int .i64 a0, .int .i64 a1, .int .i64 a2, .int .i64 a3, .int .i64 a4, .int .i64 a5, .int .i64 a6, .int .i64 3, .int .i64 a8] 45 (0, 0)))
  have hv0 := Mr.hid hv
  have hcap0 := Mr.hid hcap
  clear hv hcap
  go_enter Tryz.func9, Tryz.ntmps9
  go_wp2
  go_ret2
  exact ⟨a, cap, rfl, hv0.out.below B0.out, hcap0.out, B0.out⟩
end Go.Proofs.YtedaoljmcfbbpaaGreat.Dm
/-
  DequeLinear: made (a take; made by mk_dmmade.py).
-/
namespace Go.Proofs.YtedaoljmcfbbpaaGreat.Dm
open Go.RowKit Go.Shelf Mr Me Ma Gm Dq
set_option linter.unusedVariables false
set_option linter.unusedSimpArgs false
set_option maxRecDepth 100000
set_option maxHeartbeats 8000000 in
theorem made_take_opn (rm : Int) (C : List Int) (u : Int) (x : Cl) (hn : C.length ≤ 100000) (hf : x.fin = -1) (hop : x.op = 91) : MdC rm (C ++ [u]) x := by
  intro a cap w hv hcap
  have e1 : Hd.atO rm (C ++ [u]) (qq x) = (C, 2, u) := by exact at_t rm hop C u
  rw [e1]
  clear e1
  obtain ⟨a0, a1, a2, a3, a4, a5, a6, a7, a8⟩ := x
  obtain rfl : a5 = -1 := hf
  obtain rfl : a1 = 91 := hop
  dsimp only
  obtain ⟨b, o, rfl, hb, hcc⟩ := hv.2.resolve_left (by simp)
  have B0 : Below w.heap.size w (w.alloc (.cells #[.int .i64 a0, .int .i64 91, .int .i64 a2, .int .i64 a3, .int .i64 a4, .int .i64 (-1), .int .i64 a6, .int .i64 a7, .int .i64 a8] 45 (0, 0))) := (Below.refl w.heap.size w).alloc (Nat.le_refl _) _
  have ca := heap_alloc_new w (.cells #[.int .i64 a0, .int .i64 91, .int .i64 a2, .int .i64 a3, .int .i64 a4, .int .i64 (-1), .int .i64 a6, .int .i64 a7, .int .i64 a8] 45 (0, 0))
  have hv1 := Mr.hid (hv.below B0)
  have hcap0 := Mr.hid hcap
  have hlen : (C ++ [u]).length = C.length + 1 := by simp
  have hlast : w.cell? ⟨b, o + C.length, none⟩ = some (.int .i64 u) := hcc C.length _ (by simp)
  have cl := ((B0.cell (p := ⟨b, o + C.length, none⟩) hb)).trans hlast
  have lb2 := Nat.lt_of_lt_of_le hb B0.size
  rw [hlen]
  rw [hlen] at hcap
  have HT := isAt_take (hv.below B0) C.length (by simp)
  rw [List.take_left' rfl] at HT
  have HS := Mr.hid HT
  generalize hm : C.length = m at *
  replace hm := Mr.hid hm
  have hm1 : IntKind.i64.wrap (m : Int) = (m : Int) := i64x _ (by omega) (by omega)
  have hmc : m ≤ cap := by omega
  have hmc2 : (m : Int) ≤ (cap : Int) := by omega
  have hmm : m < m + 1 := by omega
  have hmm2 : (m : Int) < (m : Int) + 1 := by omega
  clear hcc hlast HT hlen
  go_enter Tryz.func9, Tryz.ntmps9
  go_upto_region 11 with fail
  generalize w.alloc _ = w1 at *
  have lb : w.heap.size < w1.heap.size := (Array.getElem?_eq_some_iff.1 ca).1
  have c8 := cell_at ca 8
  have c2 := cell_at ca 2
  simp only [List.getElem?_toArray, List.getElem?_cons_zero, List.getElem?_cons_succ] at c8 c2
  clear ca hv
  have S0 : Hid (Below w1.heap.size w1 w1) := Mr.hid (Below.refl _ _)
  have hE := Mr.hid (empty_has w1 w1.heap.size rfl w1.heap.size (Nat.le_refl _))
  have BA : Hid (Below w1.heap.size w1 (w1.alloc (.cells #[] 3))) := Mr.hid ((Below.refl _ _).alloc (Nat.le_refl _) _)
  refine wp_region_held_drew (S := (fun W => Below w1.heap.size w1 W)) (by kernel_rfl) S0.out.drew (fun hHeld => ?_)
  try simp only [Act.put, List.setIfInBounds_toArray, List.set_cons_zero, List.set_cons_succ]
  refine wpAnyH_take (i := 1) (oi := (⟨_, _, _, _, _, _⟩ : Oper)) (v := ?_) rfl (by kernel_rfl) (by kernel_rfl) (by kernel_rfl) (fun _ _ _ h => h) (Or.inl ⟨by rfl, ?_⟩) (by assumption) ?_
  rotate_left
  · intro w9 hSw
    (try dsimp only at hSw)
    go_simp
    all_goals (with_reducible rfl)
  try simp only [Act.put, List.setIfInBounds_toArray, List.set_cons_zero, List.set_cons_succ]
  refine wpAnyH_take (i := 2) (oi := (⟨_, _, _, _, _, _⟩ : Oper)) (v := ?_) rfl (by kernel_rfl) (by kernel_rfl) (by kernel_rfl) (fun _ _ _ h => h) (Or.inl ⟨by rfl, ?_⟩) (by assumption) ?_
  rotate_left
  · intro w9 hSw
    (try dsimp only at hSw)
    go_simp
    all_goals (with_reducible rfl)
  try simp only [Act.put, List.setIfInBounds_toArray, List.set_cons_zero, List.set_cons_succ]
  refine wpAnyH_take (i := 3) (oi := (⟨_, _, _, _, _, _⟩ : Oper)) (v := ?_) rfl (by kernel_rfl) (by kernel_rfl) (by kernel_rfl) (fun _ _ _ h => h) (Or.inl ⟨by rfl, ?_⟩) (by assumption) ?_
  rotate_left
  · intro w9 hSw
    (try dsimp only at hSw)
    go_simp
    all_goals (with_reducible rfl)
  try simp only [Act.put, List.setIfInBounds_toArray, List.set_cons_zero, List.set_cons_succ]
  refine wpAnyH_take (i := 4) (oi := (⟨_, _, _, _, _, _⟩ : Oper)) (v := ?_) rfl (by kernel_rfl) (by kernel_rfl) (by kernel_rfl) (fun _ _ _ h => h) (Or.inl ⟨by rfl, ?_⟩) (by assumption) ?_
  rotate_left
  · intro w9 hSw
    (try dsimp only at hSw)
    go_simp
    all_goals (with_reducible rfl)
  try simp only [Act.put, List.setIfInBounds_toArray, List.set_cons_zero, List.set_cons_succ]
  refine wpAnyH_take (i := 6) (oi := (⟨_, _, _, _, _, _⟩ : Oper)) (v := ?_) rfl (by kernel_rfl) (by kernel_rfl) (by kernel_rfl) (fun _ _ _ h => h) (Or.inl ⟨by rfl, ?_⟩) (by assumption) ?_
  rotate_left
  · intro w9 hSw
    (try dsimp only at hSw)
    go_simp
    all_goals (with_reducible rfl)
  try simp only [Act.put, List.setIfInBounds_toArray, List.set_cons_zero, List.set_cons_succ]
  refine wpAnyH_ready (rs := [0]) (by kernel_rfl) (by simp) ?_
  refine AllReadyH.cons (o := (⟨_, _, _, _, _, _⟩ : Oper)) rfl (fun K hK => ?_) (AllReadyH.nil)
  go_simp
  refine hK.out _ _ (by first | exact BA.out | exact BA.out.drew) (fun hHeld9 => ?_)
  clear hK K hHeld
  have hHeld := hHeld9
  clear hHeld9
  try simp only [Act.put, List.setIfInBounds_toArray, List.set_cons_zero, List.set_cons_succ]
  refine wpAnyH_ready (rs := [5]) (by kernel_rfl) (by simp) ?_
  refine AllReadyH.cons (o := (⟨_, _, _, _, _, _⟩ : Oper)) rfl (fun K hK => ?_) (AllReadyH.nil)
  refine app_wp _ _ rfl w1.heap.size w1.heap.size rfl (by first | exact hE.out | exact hE.out.below (Below.refl _ _).drew) (some ⟨b, o, none⟩) m cap (C) rfl (by have h9 := HS.out.below BA.out; first | exact h9 | exact h9.below (Below.refl _ _).drew) (by omega) (by have := BA.out.size; first | exact this | exact (BA.out.drew).size) ?_
  intro ga ka w3 hh3 hk3 hg3 hgr
  have B3 : Hid (Below w1.heap.size w1 w3) := Mr.hid (by have h9 : Below w1.heap.size w1 (w1.alloc (.cells #[] 3)).drew := BA.out.drew; exact h9.grown hgr h9.size (fun k e => by cases e; exact Nat.le_refl _))
  refine hK.out _ _ B3.out (fun hHeld9 => ?_)
  clear hK K hHeld
  have hHeld := hHeld9
  clear hHeld9
  try simp only [Act.put, List.setIfInBounds_toArray, List.set_cons_zero, List.set_cons_succ]
  refine wpAnyH_take (i := 7) (oi := (⟨_, _, _, _, _, _⟩ : Oper)) (v := ?_) rfl (by kernel_rfl) (by kernel_rfl) (by kernel_rfl) (fun _ _ _ h => h) (Or.inl ⟨by rfl, ?_⟩) (by assumption) ?_
  rotate_left
  · intro w9 hSw
    (try dsimp only at hSw)
    go_simp
    all_goals (with_reducible rfl)
  try simp only [Act.put, List.setIfInBounds_toArray, List.set_cons_zero, List.set_cons_succ]
  refine wpAnyH_take (i := 8) (oi := (⟨_, _, _, _, _, _⟩ : Oper)) (v := undef) rfl (by kernel_rfl) (by kernel_rfl) (by kernel_rfl) (fun _ _ _ h => h) (Or.inr ⟨by kernel_rfl, rfl⟩) (by assumption) ?_
  try simp only [Act.put, List.setIfInBounds_toArray, List.set_cons_zero, List.set_cons_succ]
  refine wpAnyH_take (i := 9) (oi := (⟨_, _, _, _, _, _⟩ : Oper)) (v := undef) rfl (by kernel_rfl) (by kernel_rfl) (by kernel_rfl) (fun _ _ _ h => h) (Or.inr ⟨by kernel_rfl, rfl⟩) (by assumption) ?_
  try simp only [Act.put, List.setIfInBounds_toArray, List.set_cons_zero, List.set_cons_succ]
  refine wpAnyH_take (i := 10) (oi := (⟨_, _, _, _, _, _⟩ : Oper)) (v := undef) rfl (by kernel_rfl) (by kernel_rfl) (by kernel_rfl) (fun _ _ _ h => h) (Or.inr ⟨by kernel_rfl, rfl⟩) (by assumption) ?_
  try simp only [Act.put, List.setIfInBounds_toArray, List.set_cons_zero, List.set_cons_succ]
  refine wpAnyH_take (i := 11) (oi := (⟨_, _, _, _, _, _⟩ : Oper)) (v := undef) rfl (by kernel_rfl) (by kernel_rfl) (by kernel_rfl) (fun _ _ _ h => h) (Or.inr ⟨by kernel_rfl, rfl⟩) (by assumption) ?_
  try simp only [Act.put, List.setIfInBounds_toArray, List.set_cons_zero, List.set_cons_succ]
  refine wpAnyH_take (i := 12) (oi := (⟨_, _, _, _, _, _⟩ : Oper)) (v := undef) rfl (by kernel_rfl) (by kernel_rfl) (by kernel_rfl) (fun _ _ _ h => h) (Or.inr ⟨by kernel_rfl, rfl⟩) (by assumption) ?_
  try simp only [Act.put, List.setIfInBounds_toArray, List.set_cons_zero, List.set_cons_succ]
  refine wpAnyH_take (i := 13) (oi := (⟨_, _, _, _, _, _⟩ : Oper)) (v := undef) rfl (by kernel_rfl) (by kernel_rfl) (by kernel_rfl) (fun _ _ _ h => h) (Or.inr ⟨by kernel_rfl, rfl⟩) (by assumption) ?_
  try simp only [Act.put, List.setIfInBounds_toArray, List.set_cons_zero, List.set_cons_succ]
  refine wpAnyH_take (i := 14) (oi := (⟨_, _, _, _, _, _⟩ : Oper)) (v := undef) rfl (by kernel_rfl) (by kernel_rfl) (by kernel_rfl) (fun _ _ _ h => h) (Or.inr ⟨by kernel_rfl, rfl⟩) (by assumption) ?_
  try simp only [Act.put, List.setIfInBounds_toArray, List.set_cons_zero, List.set_cons_succ]
  refine wpAnyH_take (i := 15) (oi := (⟨_, _, _, _, _, _⟩ : Oper)) (v := undef) rfl (by kernel_rfl) (by kernel_rfl) (by kernel_rfl) (fun _ _ _ h => h) (Or.inr ⟨by kernel_rfl, rfl⟩) (by assumption) ?_
  try simp only [Act.put, List.setIfInBounds_toArray, List.set_cons_zero, List.set_cons_succ]
  refine wpAnyH_take (i := 16) (oi := (⟨_, _, _, _, _, _⟩ : Oper)) (v := undef) rfl (by kernel_rfl) (by kernel_rfl) (by kernel_rfl) (fun _ _ _ h => h) (Or.inr ⟨by kernel_rfl, rfl⟩) (by assumption) ?_
  try simp only [Act.put, List.setIfInBounds_toArray, List.set_cons_zero, List.set_cons_succ]
  refine wpAnyH_take (i := 17) (oi := (⟨_, _, _, _, _, _⟩ : Oper)) (v := undef) rfl (by kernel_rfl) (by kernel_rfl) (by kernel_rfl) (fun _ _ _ h => h) (Or.inr ⟨by kernel_rfl, rfl⟩) (by assumption) ?_
  try simp only [Act.put, List.setIfInBounds_toArray, List.set_cons_zero, List.set_cons_succ]
  refine wpAnyH_take (i := 18) (oi := (⟨_, _, _, _, _, _⟩ : Oper)) (v := undef) rfl (by kernel_rfl) (by kernel_rfl) (by kernel_rfl) (fun _ _ _ h => h) (Or.inr ⟨by kernel_rfl, rfl⟩) (by assumption) ?_
  try simp only [Act.put, List.setIfInBounds_toArray, List.set_cons_zero, List.set_cons_succ]
  refine wpAnyH_take (i := 19) (oi := (⟨_, _, _, _, _, _⟩ : Oper)) (v := undef) rfl (by kernel_rfl) (by kernel_rfl) (by kernel_rfl) (fun _ _ _ h => h) (Or.inr ⟨by kernel_rfl, rfl⟩) (by assumption) ?_
  try simp only [Act.put, List.setIfInBounds_toArray, List.set_cons_zero, List.set_cons_succ]
  refine wpAnyH_take (i := 20) (oi := (⟨_, _, _, _, _, _⟩ : Oper)) (v := undef) rfl (by kernel_rfl) (by kernel_rfl) (by kernel_rfl) (fun _ _ _ h => h) (Or.inr ⟨by kernel_rfl, rfl⟩) (by assumption) ?_
  try simp only [Act.put, List.setIfInBounds_toArray, List.set_cons_zero, List.set_cons_succ]
  refine wpAnyH_take (i := 21) (oi := (⟨_, _, _, _, _, _⟩ : Oper)) (v := ?_) rfl (by kernel_rfl) (by kernel_rfl) (by kernel_rfl) (fun _ _ _ h => h) (Or.inl ⟨by rfl, ?_⟩) (by assumption) ?_
  rotate_left
  · intro w9 hSw
    (try dsimp only at hSw)
    go_simp
    all_goals (with_reducible rfl)
  try simp only [Act.put, List.setIfInBounds_toArray, List.set_cons_zero, List.set_cons_succ]
  refine wpAnyH_take (i := 22) (oi := (⟨_, _, _, _, _, _⟩ : Oper)) (v := ?_) rfl (by kernel_rfl) (by kernel_rfl) (by kernel_rfl) (fun _ _ _ h => h) (Or.inl ⟨by rfl, ?_⟩) (by assumption) ?_
  rotate_left
  · intro w9 hSw
    (try dsimp only at hSw)
    go_simp
    all_goals (with_reducible rfl)
  try simp only [Act.put, List.setIfInBounds_toArray, List.set_cons_zero, List.set_cons_succ]
  refine wpAnyH_take (i := 23) (oi := (⟨_, _, _, _, _, _⟩ : Oper)) (v := ?_) rfl (by kernel_rfl) (by kernel_rfl) (by kernel_rfl) (fun _ _ _ h => h) (Or.inl ⟨by rfl, ?_⟩) (by assumption) ?_
  rotate_left
  · intro w9 hSw
    (try dsimp only at hSw)
    go_simp
    all_goals (with_reducible rfl)
  try simp only [Act.put, List.setIfInBounds_toArray, List.set_cons_zero, List.set_cons_succ]
  refine wpAnyH_done (by kernel_rfl) ?_ _
  have hI := Mr.hid (has_is hh3)
  have hk4 := Mr.hid hk3
  have BB := Mr.hid (B0.trans (B3.out.mono B0.size))
  clear hh3 hgr hg3 hHeld hE BA B3
  go_wp2
  go_ret2
  exact ⟨some ⟨ga, 0, none⟩, ka, rfl, hI.out, hk4.out, BB.out⟩
set_option maxHeartbeats 8000000 in
theorem made_take_end (rm : Int) (C : List Int) (u : Int) (x : Cl) (hn : C.length ≤ 100000) (hf : 0 ≤ x.fin) (hop : x.op = 91) (hk : x.ak = 2) (hw : x.av = u) : MdC rm (C ++ [u]) x := by
  intro a cap w hv hcap
  have e1 : Hd.atO rm (C ++ [u]) (qq x) = (C, 2, u) := by exact at_t rm hop C u
  rw [e1]
  clear e1
  obtain ⟨a0, a1, a2, a3, a4, a5, a6, a7, a8⟩ := x
  have hfd : decide (a5 < 0) = false := decide_eq_false (by have := hf; simp only at this; omega)
  obtain rfl : a1 = 91 := hop
  obtain rfl : a7 = 2 := hk
  obtain rfl : a8 = u := hw
  clear hf
  dsimp only
  obtain ⟨b, o, rfl, hb, hcc⟩ := hv.2.resolve_left (by simp)
  have B0 : Below w.heap.size w (w.alloc (.cells #[.int .i64 a0, .int .i64 91, .int .i64 a2, .int .i64 a3, .int .i64 a4, .int .i64 a5, .int .i64 a6, .int .i64 2, .int .i64 a8] 45 (0, 0))) := (Below.refl w.heap.size w).alloc (Nat.le_refl _) _
  have ca := heap_alloc_new w (.cells #[.int .i64 a0, .int .i64 91, .int .i64 a2, .int .i64 a3, .int .i64 a4, .int .i64 a5, .int .i64 a6, .int .i64 2, .int .i64 a8] 45 (0, 0))
  have hv1 := Mr.hid (hv.below B0)
  have hcap0 := Mr.hid hcap
  have hlen : (C ++ [a8]).length = C.length + 1 := by simp
  have hlast : w.cell? ⟨b, o + C.length, none⟩ = some (.int .i64 a8) := hcc C.length _ (by simp)
  have cl := ((B0.cell (p := ⟨b, o + C.length, none⟩) hb)).trans hlast
  have lb2 := Nat.lt_of_lt_of_le hb B0.size
  rw [hlen]
  rw [hlen] at hcap
  have HT := isAt_take (hv.below B0) C.length (by simp)
  rw [List.take_left' rfl] at HT
  have HS := Mr.hid HT
  generalize hm : C.length = m at *
  replace hm := Mr.hid hm
  have hm1 : IntKind.i64.wrap (m : Int) = (m : Int) := i64x _ (by omega) (by omega)
  have hmc : m ≤ cap := by omega
  have hmc2 : (m : Int) ≤ (cap : Int) := by omega
  have hmm : m < m + 1 := by omega
  have hmm2 : (m : Int) < (m : Int) + 1 := by omega
  clear hcc hlast HT hlen
  go_enter Tryz.func9, Tryz.ntmps9
  go_upto_region 11 with fail
  generalize w.alloc _ = w1 at *
  have lb : w.heap.size < w1.heap.size := (Array.getElem?_eq_some_iff.1 ca).1
  have c8 := cell_at ca 8
  have c2 := cell_at ca 2
  simp only [List.getElem?_toArray, List.getElem?_cons_zero, List.getElem?_cons_succ] at c8 c2
  clear ca hv
  have S0 : Hid (Below w1.heap.size w1 w1) := Mr.hid (Below.refl _ _)
  have hE := Mr.hid (empty_has w1 w1.heap.size rfl w1.heap.size (Nat.le_refl _))
  have BA : Hid (Below w1.heap.size w1 (w1.alloc (.cells #[] 3))) := Mr.hid ((Below.refl _ _).alloc (Nat.le_refl _) _)
  refine wp_region_held_drew (S := (fun W => Below w1.heap.size w1 W)) (by kernel_rfl) S0.out.drew (fun hHeld => ?_)
  try simp only [Act.put, List.setIfInBounds_toArray, List.set_cons_zero, List.set_cons_succ]
  refine wpAnyH_take (i := 1) (oi := (⟨_, _, _, _, _, _⟩ : Oper)) (v := ?_) rfl (by kernel_rfl) (by kernel_rfl) (by kernel_rfl) (fun _ _ _ h => h) (Or.inl ⟨by rfl, ?_⟩) (by assumption) ?_
  rotate_left
  · intro w9 hSw
    (try dsimp only at hSw)
    go_simp
    all_goals (with_reducible rfl)
  try simp only [Act.put, List.setIfInBounds_toArray, List.set_cons_zero, List.set_cons_succ]
  refine wpAnyH_take (i := 2) (oi := (⟨_, _, _, _, _, _⟩ : Oper)) (v := ?_) rfl (by kernel_rfl) (by kernel_rfl) (by kernel_rfl) (fun _ _ _ h => h) (Or.inl ⟨by rfl, ?_⟩) (by assumption) ?_
  rotate_left
  · intro w9 hSw
    (try dsimp only at hSw)
    go_simp
    all_goals (with_reducible rfl)
  try simp only [Act.put, List.setIfInBounds_toArray, List.set_cons_zero, List.set_cons_succ]
  refine wpAnyH_take (i := 3) (oi := (⟨_, _, _, _, _, _⟩ : Oper)) (v := ?_) rfl (by kernel_rfl) (by kernel_rfl) (by kernel_rfl) (fun _ _ _ h => h) (Or.inl ⟨by rfl, ?_⟩) (by assumption) ?_
  rotate_left
  · intro w9 hSw
    (try dsimp only at hSw)
    go_simp
    all_goals (with_reducible rfl)
  try simp only [Act.put, List.setIfInBounds_toArray, List.set_cons_zero, List.set_cons_succ]
  refine wpAnyH_take (i := 4) (oi := (⟨_, _, _, _, _, _⟩ : Oper)) (v := ?_) rfl (by kernel_rfl) (by kernel_rfl) (by kernel_rfl) (fun _ _ _ h => h) (Or.inl ⟨by rfl, ?_⟩) (by assumption) ?_
  rotate_left
  · intro w9 hSw
    (try dsimp only at hSw)
    go_simp
    all_goals (with_reducible rfl)
  try simp only [Act.put, List.setIfInBounds_toArray, List.set_cons_zero, List.set_cons_succ]
  refine wpAnyH_take (i := 6) (oi := (⟨_, _, _, _, _, _⟩ : Oper)) (v := ?_) rfl (by kernel_rfl) (by kernel_rfl) (by kernel_rfl) (fun _ _ _ h => h) (Or.inl ⟨by rfl, ?_⟩) (by assumption) ?_
  rotate_left
  · intro w9 hSw
    (try dsimp only at hSw)
    go_simp
    all_goals (with_reducible rfl)
  try simp only [Act.put, List.setIfInBounds_toArray, List.set_cons_zero, List.set_cons_succ]
  refine wpAnyH_ready (rs := [0]) (by kernel_rfl) (by simp) ?_
  refine AllReadyH.cons (o := (⟨_, _, _, _, _, _⟩ : Oper)) rfl (fun K hK => ?_) (AllReadyH.nil)
  go_simp
  refine hK.out _ _ (by first | exact BA.out | exact BA.out.drew) (fun hHeld9 => ?_)
  clear hK K hHeld
  have hHeld := hHeld9
  clear hHeld9
  try simp only [Act.put, List.setIfInBounds_toArray, List.set_cons_zero, List.set_cons_succ]
  refine wpAnyH_ready (rs := [5]) (by kernel_rfl) (by simp) ?_
  refine AllReadyH.cons (o := (⟨_, _, _, _, _, _⟩ : Oper)) rfl (fun K hK => ?_) (AllReadyH.nil)
  refine app_wp _ _ rfl w1.heap.size w1.heap.size rfl (by first | exact hE.out | exact hE.out.below (Below.refl _ _).drew) (some ⟨b, o, none⟩) m cap (C) rfl (by have h9 := HS.out.below BA.out; first | exact h9 | exact h9.below (Below.refl _ _).drew) (by omega) (by have := BA.out.size; first | exact this | exact (BA.out.drew).size) ?_
  intro ga ka w3 hh3 hk3 hg3 hgr
  have B3 : Hid (Below w1.heap.size w1 w3) := Mr.hid (by have h9 : Below w1.heap.size w1 (w1.alloc (.cells #[] 3)).drew := BA.out.drew; exact h9.grown hgr h9.size (fun k e => by cases e; exact Nat.le_refl _))
  refine hK.out _ _ B3.out (fun hHeld9 => ?_)
  clear hK K hHeld
  have hHeld := hHeld9
  clear hHeld9
  try simp only [Act.put, List.setIfInBounds_toArray, List.set_cons_zero, List.set_cons_succ]
  refine wpAnyH_take (i := 7) (oi := (⟨_, _, _, _, _, _⟩ : Oper)) (v := ?_) rfl (by kernel_rfl) (by kernel_rfl) (by kernel_rfl) (fun _ _ _ h => h) (Or.inl ⟨by rfl, ?_⟩) (by assumption) ?_
  rotate_left
  · intro w9 hSw
    (try dsimp only at hSw)
    go_simp
    all_goals (with_reducible rfl)
  try simp only [Act.put, List.setIfInBounds_toArray, List.set_cons_zero, List.set_cons_succ]
  refine wpAnyH_take (i := 8) (oi := (⟨_, _, _, _, _, _⟩ : Oper)) (v := ?_) rfl (by kernel_rfl) (by kernel_rfl) (by kernel_rfl) (fun _ _ _ h => h) (Or.inl ⟨by rfl, ?_⟩) (by assumption) ?_
  rotate_left
  · intro w9 hSw
    (try dsimp only at hSw)
    go_simp
    all_goals (with_reducible rfl)
  try simp only [Act.put, List.setIfInBounds_toArray, List.set_cons_zero, List.set_cons_succ]
  refine wpAnyH_take (i := 9) (oi := (⟨_, _, _, _, _, _⟩ : Oper)) (v := ?_) rfl (by kernel_rfl) (by kernel_rfl) (by kernel_rfl) (fun _ _ _ h => h) (Or.inl ⟨by rfl, ?_⟩) (by assumption) ?_
  rotate_left
  · intro w9 hSw
    (try dsimp only at hSw)
    go_simp
    all_goals (with_reducible rfl)
  try simp only [Act.put, List.setIfInBounds_toArray, List.set_cons_zero, List.set_cons_succ]
  refine wpAnyH_take (i := 10) (oi := (⟨_, _, _, _, _, _⟩ : Oper)) (v := ?_) rfl (by kernel_rfl) (by kernel_rfl) (by kernel_rfl) (fun _ _ _ h => h) (Or.inl ⟨by rfl, ?_⟩) (by assumption) ?_
  rotate_left
  · intro w9 hSw
    (try dsimp only at hSw)
    go_simp
    all_goals (with_reducible rfl)
  try simp only [Act.put, List.setIfInBounds_toArray, List.set_cons_zero, List.set_cons_succ]
  refine wpAnyH_take (i := 11) (oi := (⟨_, _, _, _, _, _⟩ : Oper)) (v := ?_) rfl (by kernel_rfl) (by kernel_rfl) (by kernel_rfl) (fun _ _ _ h => h) (Or.inl ⟨by rfl, ?_⟩) (by assumption) ?_
  rotate_left
  · intro w9 hSw
    (try dsimp only at hSw)
    go_simp
    all_goals (with_reducible rfl)
  try simp only [Act.put, List.setIfInBounds_toArray, List.set_cons_zero, List.set_cons_succ]
  refine wpAnyH_take (i := 12) (oi := (⟨_, _, _, _, _, _⟩ : Oper)) (v := ?_) rfl (by kernel_rfl) (by kernel_rfl) (by kernel_rfl) (fun _ _ _ h => h) (Or.inl ⟨by rfl, ?_⟩) (by assumption) ?_
  rotate_left
  · intro w9 hSw
    (try dsimp only at hSw)
    go_simp
    all_goals (with_reducible rfl)
  try simp only [Act.put, List.setIfInBounds_toArray, List.set_cons_zero, List.set_cons_succ]
  refine wpAnyH_take (i := 13) (oi := (⟨_, _, _, _, _, _⟩ : Oper)) (v := ?_) rfl (by kernel_rfl) (by kernel_rfl) (by kernel_rfl) (fun _ _ _ h => h) (Or.inl ⟨by rfl, ?_⟩) (by assumption) ?_
  rotate_left
  · intro w9 hSw
    (try dsimp only at hSw)
    have q := (hSw.cell (p := ⟨w.heap.size, 8, none⟩) lb).trans c8
    go_simp
    all_goals (with_reducible rfl)
  try simp only [Act.put, List.setIfInBounds_toArray, List.set_cons_zero, List.set_cons_succ]
  refine wpAnyH_take (i := 14) (oi := (⟨_, _, _, _, _, _⟩ : Oper)) (v := ?_) rfl (by kernel_rfl) (by kernel_rfl) (by kernel_rfl) (fun _ _ _ h => h) (Or.inl ⟨by rfl, ?_⟩) (by assumption) ?_
  rotate_left
  · intro w9 hSw
    (try dsimp only at hSw)
    go_simp
    all_goals (with_reducible rfl)
  try simp only [Act.put, List.setIfInBounds_toArray, List.set_cons_zero, List.set_cons_succ]
  refine wpAnyH_take (i := 15) (oi := (⟨_, _, _, _, _, _⟩ : Oper)) (v := ?_) rfl (by kernel_rfl) (by kernel_rfl) (by kernel_rfl) (fun _ _ _ h => h) (Or.inl ⟨by rfl, ?_⟩) (by assumption) ?_
  rotate_left
  · intro w9 hSw
    (try dsimp only at hSw)
    go_simp
    all_goals (with_reducible rfl)
  try simp only [Act.put, List.setIfInBounds_toArray, List.set_cons_zero, List.set_cons_succ]
  refine wpAnyH_take (i := 16) (oi := (⟨_, _, _, _, _, _⟩ : Oper)) (v := ?_) rfl (by kernel_rfl) (by kernel_rfl) (by kernel_rfl) (fun _ _ _ h => h) (Or.inl ⟨by rfl, ?_⟩) (by assumption) ?_
  rotate_left
  · intro w9 hSw
    (try dsimp only at hSw)
    go_simp
    all_goals (with_reducible rfl)
  try simp only [Act.put, List.setIfInBounds_toArray, List.set_cons_zero, List.set_cons_succ]
  refine wpAnyH_take (i := 17) (oi := (⟨_, _, _, _, _, _⟩ : Oper)) (v := ?_) rfl (by kernel_rfl) (by kernel_rfl) (by kernel_rfl) (fun _ _ _ h => h) (Or.inl ⟨by rfl, ?_⟩) (by assumption) ?_
  rotate_left
  · intro w9 hSw
    (try dsimp only at hSw)
    go_simp
    all_goals (with_reducible rfl)
  try simp only [Act.put, List.setIfInBounds_toArray, List.set_cons_zero, List.set_cons_succ]
  refine wpAnyH_take (i := 18) (oi := (⟨_, _, _, _, _, _⟩ : Oper)) (v := ?_) rfl (by kernel_rfl) (by kernel_rfl) (by kernel_rfl) (fun _ _ _ h => h) (Or.inl ⟨by rfl, ?_⟩) (by assumption) ?_
  rotate_left
  · intro w9 hSw
    (try dsimp only at hSw)
    have q := (hSw.cell (p := ⟨b, o + m, none⟩) lb2).trans cl
    go_simp
    all_goals (with_reducible rfl)
  try simp only [Act.put, List.setIfInBounds_toArray, List.set_cons_zero, List.set_cons_succ]
  refine wpAnyH_take (i := 19) (oi := (⟨_, _, _, _, _, _⟩ : Oper)) (v := ?_) rfl (by kernel_rfl) (by kernel_rfl) (by kernel_rfl) (fun _ _ _ h => h) (Or.inl ⟨by rfl, ?_⟩) (by assumption) ?_
  rotate_left
  · intro w9 hSw
    (try dsimp only at hSw)
    go_simp
    all_goals (with_reducible rfl)
  try simp only [Act.put, List.setIfInBounds_toArray, List.set_cons_zero, List.set_cons_succ]
  refine wpAnyH_take (i := 20) (oi := (⟨_, _, _, _, _, _⟩ : Oper)) (v := ?_) rfl (by kernel_rfl) (by kernel_rfl) (by kernel_rfl) (fun _ _ _ h => h) (Or.inl ⟨by rfl, ?_⟩) (by assumption) ?_
  rotate_left
  · intro w9 hSw
    (try dsimp only at hSw)
    go_simp
    all_goals (with_reducible rfl)
  try simp only [Act.put, List.setIfInBounds_toArray, List.set_cons_zero, List.set_cons_succ]
  refine wpAnyH_take (i := 21) (oi := (⟨_, _, _, _, _, _⟩ : Oper)) (v := ?_) rfl (by kernel_rfl) (by kernel_rfl) (by kernel_rfl) (fun _ _ _ h => h) (Or.inl ⟨by rfl, ?_⟩) (by assumption) ?_
  rotate_left
  · intro w9 hSw
    (try dsimp only at hSw)
    go_simp
    all_goals (with_reducible rfl)
  try simp only [Act.put, List.setIfInBounds_toArray, List.set_cons_zero, List.set_cons_succ]
  refine wpAnyH_take (i := 22) (oi := (⟨_, _, _, _, _, _⟩ : Oper)) (v := ?_) rfl (by kernel_rfl) (by kernel_rfl) (by kernel_rfl) (fun _ _ _ h => h) (Or.inl ⟨by rfl, ?_⟩) (by assumption) ?_
  rotate_left
  · intro w9 hSw
    (try dsimp only at hSw)
    go_simp
    all_goals (with_reducible rfl)
  try simp only [Act.put, List.setIfInBounds_toArray, List.set_cons_zero, List.set_cons_succ]
  refine wpAnyH_take (i := 23) (oi := (⟨_, _, _, _, _, _⟩ : Oper)) (v := ?_) rfl (by kernel_rfl) (by kernel_rfl) (by kernel_rfl) (fun _ _ _ h => h) (Or.inl ⟨by rfl, ?_⟩) (by assumption) ?_
  rotate_left
  · intro w9 hSw
    (try dsimp only at hSw)
    go_simp
    all_goals (with_reducible rfl)
  try simp only [Act.put, List.setIfInBounds_toArray, List.set_cons_zero, List.set_cons_succ]
  refine wpAnyH_done (by kernel_rfl) ?_ _
  have hI := Mr.hid (has_is hh3)
  have hk4 := Mr.hid hk3
  have BB := Mr.hid (B0.trans (B3.out.mono B0.size))
  clear hh3 hgr hg3 hHeld hE BA B3
  go_wp2
  go_ret2
  exact ⟨some ⟨ga, 0, none⟩, ka, rfl, hI.out, hk4.out, BB.out⟩
end Go.Proofs.YtedaoljmcfbbpaaGreat.Dm
