import Derived.Test.YtedaoljmcfbbpaaGreatJ41
/-
  DequeLinear: made (a steal; made by mk_dmmade.py).
-/
namespace Go.Proofs.YtedaoljmcfbbpaaGreat.Dm
open Go.RowKit Go.Shelf Mr Me Ma Gm Dq
set_option linter.unusedVariables false
set_option linter.unusedSimpArgs false
set_option maxRecDepth 100000
set_option maxHeartbeats 8000000 in
theorem made_steal_opn (rm : Int) (u : Int) (C : List Int) (x : Cl) (hn : C.length ≤ 100000) (hf : x.fin = -1) (hop : x.op = 92) : MdC rm (u :: C) x := by
  intro a cap w hv hcap
  have e1 : Hd.atO rm (u :: C) (qq x) = (C, 2, u) := by exact at_s rm hop u C
  rw [e1]
  clear e1
  obtain ⟨a0, a1, a2, a3, a4, a5, a6, a7, a8⟩ := x
  obtain rfl : a5 = -1 := hf
  obtain rfl : a1 = 92 := hop
  dsimp only
  obtain ⟨b, o, rfl, hb, hcc⟩ := hv.2.resolve_left (by simp)
  have B0 : Below w.heap.size w (w.alloc (.cells #[.int .i64 a0, .int .i64 92, .int .i64 a2, .int .i64 a3, .int .i64 a4, .int .i64 (-1), .int .i64 a6, .int .i64 a7, .int .i64 a8] 45 (0, 0))) := (Below.refl w.heap.size w).alloc (Nat.le_refl _) _
  have ca := heap_alloc_new w (.cells #[.int .i64 a0, .int .i64 92, .int .i64 a2, .int .i64 a3, .int .i64 a4, .int .i64 (-1), .int .i64 a6, .int .i64 a7, .int .i64 a8] 45 (0, 0))
  have hv1 := Mr.hid (hv.below B0)
  have hcap0 := Mr.hid hcap
  have hlen : (u :: C).length = C.length + 1 := rfl
  have hlast : w.cell? ⟨b, o, none⟩ = some (.int .i64 u) := hcc 0 _ rfl
  have cl := ((B0.cell (p := ⟨b, o, none⟩) hb)).trans hlast
  have lb2 := Nat.lt_of_lt_of_le hb B0.size
  rw [hlen]
  rw [hlen] at hcap
  have HS : Hid (IsAt (w.alloc (.cells #[.int .i64 a0, .int .i64 92, .int .i64 a2, .int .i64 a3, .int .i64 a4, .int .i64 (-1), .int .i64 a6, .int .i64 a7, .int .i64 a8] 45 (0, 0))) (if cap = 1 then some ⟨b, o, none⟩ else some ⟨b, o + 1, none⟩) C.length C) := Mr.hid (by
    by_cases hc1 : cap = 1
    · rw [if_pos hc1]; exact ⟨rfl, .inl (List.eq_nil_of_length_eq_zero (by omega))⟩
    · rw [if_neg hc1]; exact isAt_drop (hv.below B0))
  generalize hm : C.length = m at *
  replace hm := Mr.hid hm
  have hmc : m + 1 ≤ cap := by omega
  have h1c : 1 ≤ cap := by omega
  have h1m : (1 : Int) ≤ (m : Int) + 1 := by omega
  have hmc2 : (m : Int) + 1 ≤ (cap : Int) := by omega
  have hmm2 : (0 : Int) < (m : Int) + 1 := by omega
  have hne : ((m : Int) + 1 == 0) = false := by simp; omega
  have hne2 : (m + 1 == 0) = false := by simp
  clear hcc hlast hlen
  go_enter Tryz.func9, Tryz.ntmps9
  go_upto_region 12 with fail
  generalize w.alloc _ = w1 at *
  have lb : w.heap.size < w1.heap.size := (Array.getElem?_eq_some_iff.1 ca).1
  have c8 := cell_at ca 8
  have c2 := cell_at ca 2
  simp only [List.getElem?_toArray, List.getElem?_cons_zero, List.getElem?_cons_succ] at c8 c2
  clear ca hv
  have S0 : Hid (Below w1.heap.size w1 w1) := Mr.hid (Below.refl _ _)
  have hE := Mr.hid (empty_has w1 w1.heap.size rfl w1.heap.size (Nat.le_refl _))
  have BA : Hid (Below w1.heap.size w1 (w1.alloc (.cells #[] 3))) := Mr.hid ((Below.refl _ _).alloc (Nat.le_refl _) _)
  refine wp_region_held_drew (S := (fun W => Below w1.heap.size w1 W)) (by kernel_rfl) S0.out.drew (fun hHeld => ?_)
  try simp only [Act.put, List.setIfInBounds_toArray, List.set_cons_zero, List.set_cons_succ]
  refine wpAnyH_take (i := 1) (oi := (⟨_, _, _, _, _, _⟩ : Oper)) (v := ?_) rfl (by kernel_rfl) (by kernel_rfl) (by kernel_rfl) (fun _ _ _ h => h) (Or.inl ⟨by rfl, ?_⟩) (by assumption) ?_
  rotate_left
  · intro w9 hSw
    (try dsimp only at hSw)
    go_simp
    all_goals (with_reducible rfl)
  try simp only [Act.put, List.setIfInBounds_toArray, List.set_cons_zero, List.set_cons_succ]
  refine wpAnyH_take (i := 2) (oi := (⟨_, _, _, _, _, _⟩ : Oper)) (v := ?_) rfl (by kernel_rfl) (by kernel_rfl) (by kernel_rfl) (fun _ _ _ h => h) (Or.inl ⟨by rfl, ?_⟩) (by assumption) ?_
  rotate_left
  · intro w9 hSw
    (try dsimp only at hSw)
    go_simp
    all_goals (with_reducible rfl)
  try simp only [Act.put, List.setIfInBounds_toArray, List.set_cons_zero, List.set_cons_succ]
  generalize (if cap = 1 then (some ⟨b, o, none⟩ : Option Addr) else some ⟨b, o + 1, none⟩) = RA at *
  refine wpAnyH_take (i := 4) (oi := (⟨_, _, _, _, _, _⟩ : Oper)) (v := ?_) rfl (by kernel_rfl) (by kernel_rfl) (by kernel_rfl) (fun _ _ _ h => h) (Or.inl ⟨by rfl, ?_⟩) (by assumption) ?_
  rotate_left
  · intro w9 hSw
    (try dsimp only at hSw)
    go_simp
    all_goals (with_reducible rfl)
  try simp only [Act.put, List.setIfInBounds_toArray, List.set_cons_zero, List.set_cons_succ]
  refine wpAnyH_ready (rs := [0]) (by kernel_rfl) (by simp) ?_
  refine AllReadyH.cons (o := (⟨_, _, _, _, _, _⟩ : Oper)) rfl (fun K hK => ?_) (AllReadyH.nil)
  go_simp
  refine hK.out _ _ (by first | exact BA.out | exact BA.out.drew) (fun hHeld9 => ?_)
  clear hK K hHeld
  have hHeld := hHeld9
  clear hHeld9
  try simp only [Act.put, List.setIfInBounds_toArray, List.set_cons_zero, List.set_cons_succ]
  refine wpAnyH_ready (rs := [3]) (by kernel_rfl) (by simp) ?_
  refine AllReadyH.cons (o := (⟨_, _, _, _, _, _⟩ : Oper)) rfl (fun K hK => ?_) (AllReadyH.nil)
  refine app_wp _ _ rfl w1.heap.size w1.heap.size rfl (by first | exact hE.out | exact hE.out.below (Below.refl _ _).drew) (RA) m (cap - 1) (C) rfl (by have h9 := HS.out.below BA.out; first | exact h9 | exact h9.below (Below.refl _ _).drew) (by omega) (by have := BA.out.size; first | exact this | exact (BA.out.drew).size) ?_
  intro ga ka w3 hh3 hk3 hg3 hgr
  have B3 : Hid (Below w1.heap.size w1 w3) := Mr.hid (by have h9 : Below w1.heap.size w1 (w1.alloc (.cells #[] 3)).drew := BA.out.drew; exact h9.grown hgr h9.size (fun k e => by cases e; exact Nat.le_refl _))
  refine hK.out _ _ B3.out (fun hHeld9 => ?_)
  clear hK K hHeld
  have hHeld := hHeld9
  clear hHeld9
  try simp only [Act.put, List.setIfInBounds_toArray, List.set_cons_zero, List.set_cons_succ]
  refine wpAnyH_take (i := 5) (oi := (⟨_, _, _, _, _, _⟩ : Oper)) (v := ?_) rfl (by kernel_rfl) (by kernel_rfl) (by kernel_rfl) (fun _ _ _ h => h) (Or.inl ⟨by rfl, ?_⟩) (by assumption) ?_
  rotate_left
  · intro w9 hSw
    (try dsimp only at hSw)
    go_simp
    all_goals (with_reducible rfl)
  try simp only [Act.put, List.setIfInBounds_toArray, List.set_cons_zero, List.set_cons_succ]
  refine wpAnyH_take (i := 6) (oi := (⟨_, _, _, _, _, _⟩ : Oper)) (v := undef) rfl (by kernel_rfl) (by kernel_rfl) (by kernel_rfl) (fun _ _ _ h => h) (Or.inr ⟨by kernel_rfl, rfl⟩) (by assumption) ?_
  try simp only [Act.put, List.setIfInBounds_toArray, List.set_cons_zero, List.set_cons_succ]
  refine wpAnyH_take (i := 7) (oi := (⟨_, _, _, _, _, _⟩ : Oper)) (v := undef) rfl (by kernel_rfl) (by kernel_rfl) (by kernel_rfl) (fun _ _ _ h => h) (Or.inr ⟨by kernel_rfl, rfl⟩) (by assumption) ?_
  try simp only [Act.put, List.setIfInBounds_toArray, List.set_cons_zero, List.set_cons_succ]
  refine wpAnyH_take (i := 8) (oi := (⟨_, _, _, _, _, _⟩ : Oper)) (v := undef) rfl (by kernel_rfl) (by kernel_rfl) (by kernel_rfl) (fun _ _ _ h => h) (Or.inr ⟨by kernel_rfl, rfl⟩) (by assumption) ?_
  try simp only [Act.put, List.setIfInBounds_toArray, List.set_cons_zero, List.set_cons_succ]
  refine wpAnyH_take (i := 9) (oi := (⟨_, _, _, _, _, _⟩ : Oper)) (v := undef) rfl (by kernel_rfl) (by kernel_rfl) (by kernel_rfl) (fun _ _ _ h => h) (Or.inr ⟨by kernel_rfl, rfl⟩) (by assumption) ?_
  try simp only [Act.put, List.setIfInBounds_toArray, List.set_cons_zero, List.set_cons_succ]
  refine wpAnyH_take (i := 10) (oi := (⟨_, _, _, _, _, _⟩ : Oper)) (v := undef) rfl (by kernel_rfl) (by kernel_rfl) (by kernel_rfl) (fun _ _ _ h => h) (Or.inr ⟨by kernel_rfl, rfl⟩) (by assumption) ?_
  try simp only [Act.put, List.setIfInBounds_toArray, List.set_cons_zero, List.set_cons_succ]
  refine wpAnyH_take (i := 11) (oi := (⟨_, _, _, _, _, _⟩ : Oper)) (v := undef) rfl (by kernel_rfl) (by kernel_rfl) (by kernel_rfl) (fun _ _ _ h => h) (Or.inr ⟨by kernel_rfl, rfl⟩) (by assumption) ?_
  try simp only [Act.put, List.setIfInBounds_toArray, List.set_cons_zero, List.set_cons_succ]
  refine wpAnyH_take (i := 12) (oi := (⟨_, _, _, _, _, _⟩ : Oper)) (v := undef) rfl (by kernel_rfl) (by kernel_rfl) (by kernel_rfl) (fun _ _ _ h => h) (Or.inr ⟨by kernel_rfl, rfl⟩) (by assumption) ?_
  try simp only [Act.put, List.setIfInBounds_toArray, List.set_cons_zero, List.set_cons_succ]
  refine wpAnyH_take (i := 13) (oi := (⟨_, _, _, _, _, _⟩ : Oper)) (v := undef) rfl (by kernel_rfl) (by kernel_rfl) (by kernel_rfl) (fun _ _ _ h => h) (Or.inr ⟨by kernel_rfl, rfl⟩) (by assumption) ?_
  try simp only [Act.put, List.setIfInBounds_toArray, List.set_cons_zero, List.set_cons_succ]
  refine wpAnyH_take (i := 14) (oi := (⟨_, _, _, _, _, _⟩ : Oper)) (v := undef) rfl (by kernel_rfl) (by kernel_rfl) (by kernel_rfl) (fun _ _ _ h => h) (Or.inr ⟨by kernel_rfl, rfl⟩) (by assumption) ?_
  try simp only [Act.put, List.setIfInBounds_toArray, List.set_cons_zero, List.set_cons_succ]
  refine wpAnyH_take (i := 15) (oi := (⟨_, _, _, _, _, _⟩ : Oper)) (v := undef) rfl (by kernel_rfl) (by kernel_rfl) (by kernel_rfl) (fun _ _ _ h => h) (Or.inr ⟨by kernel_rfl, rfl⟩) (by assumption) ?_
  try simp only [Act.put, List.setIfInBounds_toArray, List.set_cons_zero, List.set_cons_succ]
  refine wpAnyH_take (i := 16) (oi := (⟨_, _, _, _, _, _⟩ : Oper)) (v := undef) rfl (by kernel_rfl) (by kernel_rfl) (by kernel_rfl) (fun _ _ _ h => h) (Or.inr ⟨by kernel_rfl, rfl⟩) (by assumption) ?_
  try simp only [Act.put, List.setIfInBounds_toArray, List.set_cons_zero, List.set_cons_succ]
  refine wpAnyH_take (i := 17) (oi := (⟨_, _, _, _, _, _⟩ : Oper)) (v := ?_) rfl (by kernel_rfl) (by kernel_rfl) (by kernel_rfl) (fun _ _ _ h => h) (Or.inl ⟨by rfl, ?_⟩) (by assumption) ?_
  rotate_left
  · intro w9 hSw
    (try dsimp only at hSw)
    go_simp
    all_goals (with_reducible rfl)
  try simp only [Act.put, List.setIfInBounds_toArray, List.set_cons_zero, List.set_cons_succ]
  refine wpAnyH_take (i := 18) (oi := (⟨_, _, _, _, _, _⟩ : Oper)) (v := ?_) rfl (by kernel_rfl) (by kernel_rfl) (by kernel_rfl) (fun _ _ _ h => h) (Or.inl ⟨by rfl, ?_⟩) (by assumption) ?_
  rotate_left
  · intro w9 hSw
    (try dsimp only at hSw)
    go_simp
    all_goals (with_reducible rfl)
  try simp only [Act.put, List.setIfInBounds_toArray, List.set_cons_zero, List.set_cons_succ]
  refine wpAnyH_take (i := 19) (oi := (⟨_, _, _, _, _, _⟩ : Oper)) (v := ?_) rfl (by kernel_rfl) (by kernel_rfl) (by kernel_rfl) (fun _ _ _ h => h) (Or.inl ⟨by rfl, ?_⟩) (by assumption) ?_
  rotate_left
  · intro w9 hSw
    (try dsimp only at hSw)
    go_simp
    all_goals (with_reducible rfl)
  try simp only [Act.put, List.setIfInBounds_toArray, List.set_cons_zero, List.set_cons_succ]
  refine wpAnyH_done (by kernel_rfl) ?_ _
  have hI := Mr.hid (has_is hh3)
  have hk4 := Mr.hid hk3
  have BB := Mr.hid (B0.trans (B3.out.mono B0.size))
  clear hh3 hgr hg3 hHeld hE BA B3
  go_wp2
  go_ret2
  exact ⟨some ⟨ga, 0, none⟩, ka, rfl, hI.out, hk4.out, BB.out⟩
set_option maxHeartbeats 8000000 in
theorem made_steal_end (rm : Int) (u : Int) (C : List Int) (x : Cl) (hn : C.length ≤ 100000) (hf : 0 ≤ x.fin) (hop : x.op = 92) (hk : x.ak = 2) (hw : x.av = u) : MdC rm (u :: C) x := by
  intro a cap w hv hcap
  have e1 : Hd.atO rm (u :: C) (qq x) = (C, 2, u) := by exact at_s rm hop u C
  rw [e1]
  clear e1
  obtain ⟨a0, a1, a2, a3, a4, a5, a6, a7, a8⟩ := x
  have hfd : decide (a5 < 0) = false := decide_eq_false (by have := hf; simp only at this; omega)
  obtain rfl : a1 = 92 := hop
  obtain rfl : a7 = 2 := hk
  obtain rfl : a8 = u := hw
  clear hf
  dsimp only
  obtain ⟨b, o, rfl, hb, hcc⟩ := hv.2.resolve_left (by simp)
  have B0 : Below w.heap.size w (w.alloc (.cells #[.int .i64 a0, .int .i64 92, .int .i64 a2, .int .i64 a3, .int .i64 a4, .int .i64 a5, .int .i64 a6, .int .i64 2, .int .i64 a8] 45 (0, 0))) := (Below.refl w.heap.size w).alloc (Nat.le_refl _) _
  have ca := heap_alloc_new w (.cells #[.int .i64 a0, .int .i64 92, .int .i64 a2, .int .i64 a3, .int .i64 a4, .int .i64 a5, .int .i64 a6, .int .i64 2, .int .i64 a8] 45 (0, 0))
  have hv1 := Mr.hid (hv.below B0)
  have hcap0 := Mr.hid hcap
  have hlen : (a8 :: C).length = C.length + 1 := rfl
  have hlast : w.cell? ⟨b, o, none⟩ = some (.int .i64 a8) := hcc 0 _ rfl
  have cl := ((B0.cell (p := ⟨b, o, none⟩) hb)).trans hlast
  have lb2 := Nat.lt_of_lt_of_le hb B0.size
  rw [hlen]
  rw [hlen] at hcap
  have HS : Hid (IsAt (w.alloc (.cells #[.int .i64 a0, .int .i64 92, .int .i64 a2, .int .i64 a3, .int .i64 a4, .int .i64 a5, .int .i64 a6, .int .i64 2, .int .i64 a8] 45 (0, 0))) (if cap = 1 then some ⟨b, o, none⟩ else some ⟨b, o + 1, none⟩) C.length C) := Mr.hid (by
    by_cases hc1 : cap = 1
    · rw [if_pos hc1]; exact ⟨rfl, .inl (List.eq_nil_of_length_eq_zero (by omega))⟩
    · rw [if_neg hc1]; exact isAt_drop (hv.below B0))
  generalize hm : C.length = m at *
  replace hm := Mr.hid hm
  have hmc : m + 1 ≤ cap := by omega
  have h1c : 1 ≤ cap := by omega
  have h1m : (1 : Int) ≤ (m : Int) + 1 := by omega
  have hmc2 : (m : Int) + 1 ≤ (cap : Int) := by omega
  have hmm2 : (0 : Int) < (m : Int) + 1 := by omega
  have hne : ((m : Int) + 1 == 0) = false := by simp; omega
  have hne2 : (m + 1 == 0) = false := by simp
  clear hcc hlast hlen
  go_enter Tryz.func9, Tryz.ntmps9
  go_upto_region 12 with fail
  generalize w.alloc _ = w1 at *
  have lb : w.heap.size < w1.heap.size := (Array.getElem?_eq_some_iff.1 ca).1
  have c8 := cell_at ca 8
  have c2 := cell_at ca 2
  simp only [List.getElem?_toArray, List.getElem?_cons_zero, List.getElem?_cons_succ] at c8 c2
  clear ca hv
  have S0 : Hid (Below w1.heap.size w1 w1) := Mr.hid (Below.refl _ _)
  have hE := Mr.hid (empty_has w1 w1.heap.size rfl w1.heap.size (Nat.le_refl _))
  have BA : Hid (Below w1.heap.size w1 (w1.alloc (.cells #[] 3))) := Mr.hid ((Below.refl _ _).alloc (Nat.le_refl _) _)
  refine wp_region_held_drew (S := (fun W => Below w1.heap.size w1 W)) (by kernel_rfl) S0.out.drew (fun hHeld => ?_)
  try simp only [Act.put, List.setIfInBounds_toArray, List.set_cons_zero, List.set_cons_succ]
  refine wpAnyH_take (i := 1) (oi := (⟨_, _, _, _, _, _⟩ : Oper)) (v := ?_) rfl (by kernel_rfl) (by kernel_rfl) (by kernel_rfl) (fun _ _ _ h => h) (Or.inl ⟨by rfl, ?_⟩) (by assumption) ?_
  rotate_left
  · intro w9 hSw
    (try dsimp only at hSw)
    go_simp
    all_goals (with_reducible rfl)
  try simp only [Act.put, List.setIfInBounds_toArray, List.set_cons_zero, List.set_cons_succ]
  refine wpAnyH_take (i := 2) (oi := (⟨_, _, _, _, _, _⟩ : Oper)) (v := ?_) rfl (by kernel_rfl) (by kernel_rfl) (by kernel_rfl) (fun _ _ _ h => h) (Or.inl ⟨by rfl, ?_⟩) (by assumption) ?_
  rotate_left
  · intro w9 hSw
    (try dsimp only at hSw)
    go_simp
    all_goals (with_reducible rfl)
  try simp only [Act.put, List.setIfInBounds_toArray, List.set_cons_zero, List.set_cons_succ]
  generalize (if cap = 1 then (some ⟨b, o, none⟩ : Option Addr) else some ⟨b, o + 1, none⟩) = RA at *
  refine wpAnyH_take (i := 4) (oi := (⟨_, _, _, _, _, _⟩ : Oper)) (v := ?_) rfl (by kernel_rfl) (by kernel_rfl) (by kernel_rfl) (fun _ _ _ h => h) (Or.inl ⟨by rfl, ?_⟩) (by assumption) ?_
  rotate_left
  · intro w9 hSw
    (try dsimp only at hSw)
    go_simp
    all_goals (with_reducible rfl)
  try simp only [Act.put, List.setIfInBounds_toArray, List.set_cons_zero, List.set_cons_succ]
  refine wpAnyH_ready (rs := [0]) (by kernel_rfl) (by simp) ?_
  refine AllReadyH.cons (o := (⟨_, _, _, _, _, _⟩ : Oper)) rfl (fun K hK => ?_) (AllReadyH.nil)
  go_simp
  refine hK.out _ _ (by first | exact BA.out | exact BA.out.drew) (fun hHeld9 => ?_)
  clear hK K hHeld
  have hHeld := hHeld9
  clear hHeld9
  try simp only [Act.put, List.setIfInBounds_toArray, List.set_cons_zero, List.set_cons_succ]
  refine wpAnyH_ready (rs := [3]) (by kernel_rfl) (by simp) ?_
  refine AllReadyH.cons (o := (⟨_, _, _, _, _, _⟩ : Oper)) rfl (fun K hK => ?_) (AllReadyH.nil)
  refine app_wp _ _ rfl w1.heap.size w1.heap.size rfl (by first | exact hE.out | exact hE.out.below (Below.refl _ _).drew) (RA) m (cap - 1) (C) rfl (by have h9 := HS.out.below BA.out; first | exact h9 | exact h9.below (Below.refl _ _).drew) (by omega) (by have := BA.out.size; first | exact this | exact (BA.out.drew).size) ?_
  intro ga ka w3 hh3 hk3 hg3 hgr
  have B3 : Hid (Below w1.heap.size w1 w3) := Mr.hid (by have h9 : Below w1.heap.size w1 (w1.alloc (.cells #[] 3)).drew := BA.out.drew; exact h9.grown hgr h9.size (fun k e => by cases e; exact Nat.le_refl _))
  refine hK.out _ _ B3.out (fun hHeld9 => ?_)
  clear hK K hHeld
  have hHeld := hHeld9
  clear hHeld9
  try simp only [Act.put, List.setIfInBounds_toArray, List.set_cons_zero, List.set_cons_succ]
  refine wpAnyH_take (i := 5) (oi := (⟨_, _, _, _, _, _⟩ : Oper)) (v := ?_) rfl (by kernel_rfl) (by kernel_rfl) (by kernel_rfl) (fun _ _ _ h => h) (Or.inl ⟨by rfl, ?_⟩) (by assumption) ?_
  rotate_left
  · intro w9 hSw
    (try dsimp only at hSw)
    go_simp
    all_goals (with_reducible rfl)
  try simp only [Act.put, List.setIfInBounds_toArray, List.set_cons_zero, List.set_cons_succ]
  refine wpAnyH_take (i := 6) (oi := (⟨_, _, _, _, _, _⟩ : Oper)) (v := ?_) rfl (by kernel_rfl) (by kernel_rfl) (by kernel_rfl) (fun _ _ _ h => h) (Or.inl ⟨by rfl, ?_⟩) (by assumption) ?_
  rotate_left
  · intro w9 hSw
    (try dsimp only at hSw)
    go_simp
    all_goals (with_reducible rfl)
  try simp only [Act.put, List.setIfInBounds_toArray, List.set_cons_zero, List.set_cons_succ]
  refine wpAnyH_take (i := 7) (oi := (⟨_, _, _, _, _, _⟩ : Oper)) (v := ?_) rfl (by kernel_rfl) (by kernel_rfl) (by kernel_rfl) (fun _ _ _ h => h) (Or.inl ⟨by rfl, ?_⟩) (by assumption) ?_
  rotate_left
  · intro w9 hSw
    (try dsimp only at hSw)
    go_simp
    all_goals (with_reducible rfl)
  try simp only [Act.put, List.setIfInBounds_toArray, List.set_cons_zero, List.set_cons_succ]
  refine wpAnyH_take (i := 8) (oi := (⟨_, _, _, _, _, _⟩ : Oper)) (v := ?_) rfl (by kernel_rfl) (by kernel_rfl) (by kernel_rfl) (fun _ _ _ h => h) (Or.inl ⟨by rfl, ?_⟩) (by assumption) ?_
  rotate_left
  · intro w9 hSw
    (try dsimp only at hSw)
    go_simp
    all_goals (with_reducible rfl)
  try simp only [Act.put, List.setIfInBounds_toArray, List.set_cons_zero, List.set_cons_succ]
  refine wpAnyH_take (i := 9) (oi := (⟨_, _, _, _, _, _⟩ : Oper)) (v := ?_) rfl (by kernel_rfl) (by kernel_rfl) (by kernel_rfl) (fun _ _ _ h => h) (Or.inl ⟨by rfl, ?_⟩) (by assumption) ?_
  rotate_left
  · intro w9 hSw
    (try dsimp only at hSw)
    go_simp
    all_goals (with_reducible rfl)
  try simp only [Act.put, List.setIfInBounds_toArray, List.set_cons_zero, List.set_cons_succ]
  refine wpAnyH_take (i := 10) (oi := (⟨_, _, _, _, _, _⟩ : Oper)) (v := ?_) rfl (by kernel_rfl) (by kernel_rfl) (by kernel_rfl) (fun _ _ _ h => h) (Or.inl ⟨by rfl, ?_⟩) (by assumption) ?_
  rotate_left
  · intro w9 hSw
    (try dsimp only at hSw)
    go_simp
    all_goals (with_reducible rfl)
  try simp only [Act.put, List.setIfInBounds_toArray, List.set_cons_zero, List.set_cons_succ]
  refine wpAnyH_take (i := 11) (oi := (⟨_, _, _, _, _, _⟩ : Oper)) (v := ?_) rfl (by kernel_rfl) (by kernel_rfl) (by kernel_rfl) (fun _ _ _ h => h) (Or.inl ⟨by rfl, ?_⟩) (by assumption) ?_
  rotate_left
  · intro w9 hSw
    (try dsimp only at hSw)
    have q := (hSw.cell (p := ⟨w.heap.size, 8, none⟩) lb).trans c8
    go_simp
    all_goals (with_reducible rfl)
  try simp only [Act.put, List.setIfInBounds_toArray, List.set_cons_zero, List.set_cons_succ]
  refine wpAnyH_take (i := 12) (oi := (⟨_, _, _, _, _, _⟩ : Oper)) (v := ?_) rfl (by kernel_rfl) (by kernel_rfl) (by kernel_rfl) (fun _ _ _ h => h) (Or.inl ⟨by rfl, ?_⟩) (by assumption) ?_
  rotate_left
  · intro w9 hSw
    (try dsimp only at hSw)
    go_simp
    all_goals (with_reducible rfl)
  try simp only [Act.put, List.setIfInBounds_toArray, List.set_cons_zero, List.set_cons_succ]
  refine wpAnyH_take (i := 13) (oi := (⟨_, _, _, _, _, _⟩ : Oper)) (v := ?_) rfl (by kernel_rfl) (by kernel_rfl) (by kernel_rfl) (fun _ _ _ h => h) (Or.inl ⟨by rfl, ?_⟩) (by assumption) ?_
  rotate_left
  · intro w9 hSw
    (try dsimp only at hSw)
    go_simp
    all_goals (with_reducible rfl)
  try simp only [Act.put, List.setIfInBounds_toArray, List.set_cons_zero, List.set_cons_succ]
  refine wpAnyH_take (i := 14) (oi := (⟨_, _, _, _, _, _⟩ : Oper)) (v := ?_) rfl (by kernel_rfl) (by kernel_rfl) (by kernel_rfl) (fun _ _ _ h => h) (Or.inl ⟨by rfl, ?_⟩) (by assumption) ?_
  rotate_left
  · intro w9 hSw
    (try dsimp only at hSw)
    have q := (hSw.cell (p := ⟨b, o, none⟩) lb2).trans cl
    go_simp
    all_goals (with_reducible rfl)
  try simp only [Act.put, List.setIfInBounds_toArray, List.set_cons_zero, List.set_cons_succ]
  refine wpAnyH_take (i := 15) (oi := (⟨_, _, _, _, _, _⟩ : Oper)) (v := ?_) rfl (by kernel_rfl) (by kernel_rfl) (by kernel_rfl) (fun _ _ _ h => h) (Or.inl ⟨by rfl, ?_⟩) (by assumption) ?_
  rotate_left
  · intro w9 hSw
    (try dsimp only at hSw)
    go_simp
    all_goals (with_reducible rfl)
  try simp only [Act.put, List.setIfInBounds_toArray, List.set_cons_zero, List.set_cons_succ]
  refine wpAnyH_take (i := 16) (oi := (⟨_, _, _, _, _, _⟩ : Oper)) (v := ?_) rfl (by kernel_rfl) (by kernel_rfl) (by kernel_rfl) (fun _ _ _ h => h) (Or.inl ⟨by rfl, ?_⟩) (by assumption) ?_
  rotate_left
  · intro w9 hSw
    (try dsimp only at hSw)
    go_simp
    all_goals (with_reducible rfl)
  try simp only [Act.put, List.setIfInBounds_toArray, List.set_cons_zero, List.set_cons_succ]
  refine wpAnyH_take (i := 17) (oi := (⟨_, _, _, _, _, _⟩ : Oper)) (v := ?_) rfl (by kernel_rfl) (by kernel_rfl) (by kernel_rfl) (fun _ _ _ h => h) (Or.inl ⟨by rfl, ?_⟩) (by assumption) ?_
  rotate_left
  · intro w9 hSw
    (try dsimp only at hSw)
    go_simp
    all_goals (with_reducible rfl)
  try simp only [Act.put, List.setIfInBounds_toArray, List.set_cons_zero, List.set_cons_succ]
  refine wpAnyH_take (i := 18) (oi := (⟨_, _, _, _, _, _⟩ : Oper)) (v := ?_) rfl (by kernel_rfl) (by kernel_rfl) (by kernel_rfl) (fun _ _ _ h => h) (Or.inl ⟨by rfl, ?_⟩) (by assumption) ?_
  rotate_left
  · intro w9 hSw
    (try dsimp only at hSw)
    go_simp
    all_goals (with_reducible rfl)
  try simp only [Act.put, List.setIfInBounds_toArray, List.set_cons_zero, List.set_cons_succ]
  refine wpAnyH_take (i := 19) (oi := (⟨_, _, _, _, _, _⟩ : Oper)) (v := ?_) rfl (by kernel_rfl) (by kernel_rfl) (by kernel_rfl) (fun _ _ _ h => h) (Or.inl ⟨by rfl, ?_⟩) (by assumption) ?_
  rotate_left
  · intro w9 hSw
    (try dsimp only at hSw)
    go_simp
    all_goals (with_reducible rfl)
  try simp only [Act.put, List.setIfInBounds_toArray, List.set_cons_zero, List.set_cons_succ]
  refine wpAnyH_done (by kernel_rfl) ?_ _
  have hI := Mr.hid (has_is hh3)
  have hk4 := Mr.hid hk3
  have BB := Mr.hid (B0.trans (B3.out.mono B0.size))
  clear hh3 hgr hg3 hHeld hE BA B3
  go_wp2
  go_ret2
  exact ⟨some ⟨ga, 0, none⟩, ka, rfl, hI.out, hk4.out, BB.out⟩
end Go.Proofs.YtedaoljmcfbbpaaGreat.Dm
/-
  DequeLinear: made (a push; made by mk_dmmade.py).
-/
namespace Go.Proofs.YtedaoljmcfbbpaaGreat.Dm
open Go.RowKit Go.Shelf Mr Me Ma Gm Dq
set_option linter.unusedVariables false
set_option linter.unusedSimpArgs false
set_option maxRecDepth 100000
set_option maxHeartbeats 8000000 in
theorem made_push_opn (rm : Int) (vs : List Int) (x : Cl) (hn : vs.length ≤ 100000) (hf : x.fin = -1) (hop : x.op = 90) (hr : ¬ rm ≤ (vs.length : Int)) : MdC rm vs x := by
  intro a cap w hv hcap
  have e1 : Hd.atO rm vs (qq x) = (vs ++ [x.arg], 1, 0) := by exact at_p hop hr
  rw [e1]
  clear e1
  obtain ⟨a0, a1, a2, a3, a4, a5, a6, a7, a8⟩ := x
  obtain rfl : a5 = -1 := hf
  obtain rfl : a1 = 90 := hop
  dsimp only
  have B0 : Below w.heap.size w (w.alloc (.cells #[.int .i64 a0, .int .i64 90, .int .i64 a2, .int .i64 a3, .int .i64 a4, .int .i64 (-1), .int .i64 a6, .int .i64 a7, .int .i64 a8] 45 (0, 0))) := (Below.refl w.heap.size w).alloc (Nat.le_refl _) _
  have ca := heap_alloc_new w (.cells #[.int .i64 a0, .int .i64 90, .int .i64 a2, .int .i64 a3, .int .i64 a4, .int .i64 (-1), .int .i64 a6, .int .i64 a7, .int .i64 a8] 45 (0, 0))
  have HS := Mr.hid (hv.below B0)
  have hr1 : decide (rm ≤ (vs.length : Int)) = false := decide_eq_false hr
  obtain ⟨ii, hii, hz0, hz1, hz2⟩ := Dq.info_i
  generalize hm : vs.length = n at *
  replace hm := Mr.hid hm
  clear hv hr
  go_enter Tryz.func9, Tryz.ntmps9
  go_upto_region 7 with fail
  generalize w.alloc _ = w1 at *
  have lb : w.heap.size < w1.heap.size := (Array.getElem?_eq_some_iff.1 ca).1
  have c2 := cell_at ca 2
  simp only [List.getElem?_toArray, List.getElem?_cons_zero, List.getElem?_cons_succ] at c2
  clear ca
  have S0 : Hid (Below w1.heap.size w1 w1) := Mr.hid (Below.refl _ _)
  have E1 := fun o => Mr.hid (((Below.refl w1.heap.size w1).alloc (Nat.le_refl _) o).drew)
  have E2 := fun o o' => Mr.hid ((((Below.refl w1.heap.size w1).alloc (Nat.le_refl _) o).alloc (by simp) o').drew)
  refine wp_region_held_drew (S := (fun W => Below w1.heap.size w1 W)) (by kernel_rfl) S0.out.drew (fun hHeld => ?_)
  try simp only [Act.put, List.setIfInBounds_toArray, List.set_cons_zero, List.set_cons_succ]
  refine wpAnyH_take (i := 1) (oi := (⟨_, _, _, _, _, _⟩ : Oper)) (v := ?_) rfl (by kernel_rfl) (by kernel_rfl) (by kernel_rfl) (fun _ _ _ h => h) (Or.inl ⟨by rfl, ?_⟩) (by assumption) ?_
  rotate_left
  · intro w9 hSw
    (try dsimp only at hSw)
    go_simp
    all_goals (with_reducible rfl)
  try simp only [Act.put, List.setIfInBounds_toArray, List.set_cons_zero, List.set_cons_succ]
  refine wpAnyH_take (i := 3) (oi := (⟨_, _, _, _, _, _⟩ : Oper)) (v := ?_) rfl (by kernel_rfl) (by kernel_rfl) (by kernel_rfl) (fun _ _ _ h => h) (Or.inl ⟨by rfl, ?_⟩) (by assumption) ?_
  rotate_left
  · intro w9 hSw
    (try dsimp only at hSw)
    go_simp
    all_goals (with_reducible rfl)
  try simp only [Act.put, List.setIfInBounds_toArray, List.set_cons_zero, List.set_cons_succ]
  refine wpAnyH_take (i := 4) (oi := (⟨_, _, _, _, _, _⟩ : Oper)) (v := ?_) rfl (by kernel_rfl) (by kernel_rfl) (by kernel_rfl) (fun _ _ _ h => h) (Or.inl ⟨by rfl, ?_⟩) (by assumption) ?_
  rotate_left
  · intro w9 hSw
    (try dsimp only at hSw)
    have q := (hSw.cell (p := ⟨w.heap.size, 2, none⟩) lb).trans c2
    go_simp
    all_goals (with_reducible rfl)
  try simp only [Act.put, List.setIfInBounds_toArray, List.set_cons_zero, List.set_cons_succ]
  refine wpAnyH_take (i := 7) (oi := (⟨_, _, _, _, _, _⟩ : Oper)) (v := ?_) rfl (by kernel_rfl) (by kernel_rfl) (by kernel_rfl) (fun _ _ _ h => h) (Or.inl ⟨by rfl, ?_⟩) (by assumption) ?_
  rotate_left
  · intro w9 hSw
    (try dsimp only at hSw)
    go_simp
    all_goals (with_reducible rfl)
  try simp only [Act.put, List.setIfInBounds_toArray, List.set_cons_zero, List.set_cons_succ]
  refine wpAnyH_ready (rs := [0, 5]) (by kernel_rfl) (by simp) ?_
  refine AllReadyH.cons (o := (⟨_, _, _, _, _, _⟩ : Oper)) rfl (fun K hK => ?_) (AllReadyH.cons (o := (⟨_, _, _, _, _, _⟩ : Oper)) rfl (fun K hK => ?_) AllReadyH.nil)
  · go_simp
    refine hK.out _ _ (E1 (.cells #[] 3)).out (fun hHeld9 => ?_)
    clear hK K hHeld
    have hHeld := hHeld9
    clear hHeld9
    try simp only [Act.put, List.setIfInBounds_toArray, List.set_cons_zero, List.set_cons_succ]
    refine wpAnyH_ready (rs := [2, 5]) (by kernel_rfl) (by simp) ?_
    refine AllReadyH.cons (o := (⟨_, _, _, _, _, _⟩ : Oper)) rfl (fun K hK => ?_) (AllReadyH.cons (o := (⟨_, _, _, _, _, _⟩ : Oper)) rfl (fun K hK => ?_) AllReadyH.nil)
    · refine app_wp _ _ rfl w1.heap.size (w1.heap.size) rfl ((empty_has w1 w1.heap.size rfl w1.heap.size (Nat.le_refl _)).below (Below.refl _ _).drew) a n cap vs rfl (HS.out.below (E1 (.cells #[] 3)).out) (by omega) ((E1 (.cells #[] 3)).out.size) ?_
      intro ga ka w3 hh3 hk3 hg3 hgr
      have B3 : Hid (Below w1.heap.size w1 w3) := Mr.hid ((E1 (.cells #[] 3)).out.grown hgr (E1 (.cells #[] 3)).out.size (fun k e => by cases e; exact Nat.le_refl _))
      refine hK.out _ _ B3.out (fun hHeld9 => ?_)
      clear hK K hHeld
      have hHeld := hHeld9
      clear hHeld9
      try simp only [Act.put, List.setIfInBounds_toArray, List.set_cons_zero, List.set_cons_succ]
      refine wpAnyH_ready (rs := [5]) (by kernel_rfl) (by simp) ?_
      refine AllReadyH.cons (o := (⟨_, _, _, _, _, _⟩ : Oper)) rfl (fun K hK => ?_) (AllReadyH.nil)
      go_simp
      have BX : Hid (Below w1.heap.size w1 (w3.alloc (.cells #[.int .i64 a2] 3))) := Mr.hid (B3.out.alloc B3.out.size _)
      refine hK.out _ _ (by first | exact BX.out | exact BX.out.drew) (fun hHeld9 => ?_)
      clear hK K hHeld
      have hHeld := hHeld9
      clear hHeld9
      try simp only [Act.put, List.setIfInBounds_toArray, List.set_cons_zero, List.set_cons_succ]
      refine wpAnyH_ready (rs := [6]) (by kernel_rfl) (by simp) ?_
      refine AllReadyH.cons (o := (⟨_, _, _, _, _, _⟩ : Oper)) rfl (fun K hK => ?_) (AllReadyH.nil)
      refine wp_append_has _ _ _ 39 rfl (fun k => w1.heap.size ≤ k) 3 ii _ 1 8 Tryz.underlying39 hii hz0 hz1 hz2 rfl _ n (intsV vs) rfl (hh3.alloc _) ⟨w3.heap.size, 0, none⟩ 1 1 [.int .i64 a2] rfl rfl (newsOne _ _ (cell_at (heap_alloc_new w3 (.cells #[.int .i64 a2] 3)) 0)) (by intro u hu; simp at hu; subst hu; rfl) (by decide) (by unfold maxLen; omega) (by omega) (by have := BX.out.size; first | exact this | (simp; omega) | omega) ?_
      intro g5 k5 w5 hh5 hgr5 hgg5
      have B5 : Hid (Below w1.heap.size w1 w5) := Mr.hid (BX.out.grown hgr5 BX.out.size (fun k e => by cases e; exact (hh3.lt ga rfl).1))
      refine hK.out _ _ B5.out (fun hHeld9 => ?_)
      clear hK K hHeld
      have hHeld := hHeld9
      clear hHeld9
      try simp only [Act.put, List.setIfInBounds_toArray, List.set_cons_zero, List.set_cons_succ]
      refine wpAnyH_take (i := 8) (oi := (⟨_, _, _, _, _, _⟩ : Oper)) (v := ?_) rfl (by kernel_rfl) (by kernel_rfl) (by kernel_rfl) (fun _ _ _ h => h) (Or.inl ⟨by rfl, ?_⟩) (by assumption) ?_
      rotate_left
      · intro w9 hSw
        (try dsimp only at hSw)
        go_simp
        all_goals (with_reducible rfl)
      try simp only [Act.put, List.setIfInBounds_toArray, List.set_cons_zero, List.set_cons_succ]
      refine wpAnyH_take (i := 9) (oi := (⟨_, _, _, _, _, _⟩ : Oper)) (v := undef) rfl (by kernel_rfl) (by kernel_rfl) (by kernel_rfl) (fun _ _ _ h => h) (Or.inr ⟨by kernel_rfl, rfl⟩) (by assumption) ?_
      try simp only [Act.put, List.setIfInBounds_toArray, List.set_cons_zero, List.set_cons_succ]
      refine wpAnyH_take (i := 10) (oi := (⟨_, _, _, _, _, _⟩ : Oper)) (v := undef) rfl (by kernel_rfl) (by kernel_rfl) (by kernel_rfl) (fun _ _ _ h => h) (Or.inr ⟨by kernel_rfl, rfl⟩) (by assumption) ?_
      try simp only [Act.put, List.setIfInBounds_toArray, List.set_cons_zero, List.set_cons_succ]
      refine wpAnyH_take (i := 11) (oi := (⟨_, _, _, _, _, _⟩ : Oper)) (v := ?_) rfl (by kernel_rfl) (by kernel_rfl) (by kernel_rfl) (fun _ _ _ h => h) (Or.inl ⟨by rfl, ?_⟩) (by assumption) ?_
      rotate_left
      · intro w9 hSw
        (try dsimp only at hSw)
        go_simp
        all_goals (with_reducible rfl)
      try simp only [Act.put, List.setIfInBounds_toArray, List.set_cons_zero, List.set_cons_succ]
      refine wpAnyH_take (i := 12) (oi := (⟨_, _, _, _, _, _⟩ : Oper)) (v := ?_) rfl (by kernel_rfl) (by kernel_rfl) (by kernel_rfl) (fun _ _ _ h => h) (Or.inl ⟨by rfl, ?_⟩) (by assumption) ?_
      rotate_left
      · intro w9 hSw
        (try dsimp only at hSw)
        go_simp
        all_goals (with_reducible rfl)
      try simp only [Act.put, List.setIfInBounds_toArray, List.set_cons_zero, List.set_cons_succ]
      refine wpAnyH_take (i := 13) (oi := (⟨_, _, _, _, _, _⟩ : Oper)) (v := ?_) rfl (by kernel_rfl) (by kernel_rfl) (by kernel_rfl) (fun _ _ _ h => h) (Or.inl ⟨by rfl, ?_⟩) (by assumption) ?_
      rotate_left
      · intro w9 hSw
        (try dsimp only at hSw)
        go_simp
        all_goals (with_reducible rfl)
      try simp only [Act.put, List.setIfInBounds_toArray, List.set_cons_zero, List.set_cons_succ]
      refine wpAnyH_done (by kernel_rfl) ?_ _
      have e9 : intsV (vs ++ [a2]) = intsV vs ++ [.int .i64 a2] := by simp [intsV]
      rw [← e9] at hh5
      have hI := Mr.hid (has_is hh5)
      have hk5 : Hid (n + 1 ≤ k5) := Mr.hid (by obtain ⟨g9, cp9, hv9, -, -, hc9, -⟩ := hh5.there (by omega); cases hv9; exact hc9)
      have BB := Mr.hid (B0.trans (B5.out.mono B0.size))
      clear hh5 hgr5 hgg5 hh3 hgr hg3 hHeld B5 BX
      go_wp2
      go_ret2
      have el : (vs ++ [a2]).length = n + 1 := by rw [List.length_append, hm.out]; rfl
      exact ⟨some ⟨g5, 0, none⟩, k5, by rw [el]; rfl, by rw [el]; exact hI.out, by rw [el]; exact hk5.out, BB.out⟩
    · go_simp
      refine hK.out _ _ (E2 (.cells #[] 3) (.cells #[.int .i64 a2] 3)).out (fun hHeld9 => ?_)
      clear hK K hHeld
      have hHeld := hHeld9
      clear hHeld9
      try simp only [Act.put, List.setIfInBounds_toArray, List.set_cons_zero, List.set_cons_succ]
      refine wpAnyH_ready (rs := [2]) (by kernel_rfl) (by simp) ?_
      refine AllReadyH.cons (o := (⟨_, _, _, _, _, _⟩ : Oper)) rfl (fun K hK => ?_) (AllReadyH.nil)
      refine app_wp _ _ rfl w1.heap.size (w1.heap.size) rfl (((empty_has w1 w1.heap.size rfl w1.heap.size (Nat.le_refl _)).alloc _).below (Below.refl _ _).drew) a n cap vs rfl (HS.out.below (E2 (.cells #[] 3) (.cells #[.int .i64 a2] 3)).out) (by omega) ((E2 (.cells #[] 3) (.cells #[.int .i64 a2] 3)).out.size) ?_
      intro ga ka w3 hh3 hk3 hg3 hgr
      have BX : Hid (Below w1.heap.size w1 w3) := Mr.hid ((E2 (.cells #[] 3) (.cells #[.int .i64 a2] 3)).out.grown hgr (E2 (.cells #[] 3) (.cells #[.int .i64 a2] 3)).out.size (fun k e => by cases e; exact Nat.le_refl _))
      refine hK.out _ _ BX.out (fun hHeld9 => ?_)
      clear hK K hHeld
      have hHeld := hHeld9
      clear hHeld9
      try simp only [Act.put, List.setIfInBounds_toArray, List.set_cons_zero, List.set_cons_succ]
      refine wpAnyH_ready (rs := [6]) (by kernel_rfl) (by simp) ?_
      refine AllReadyH.cons (o := (⟨_, _, _, _, _, _⟩ : Oper)) rfl (fun K hK => ?_) (AllReadyH.nil)
      refine wp_append_has _ _ _ 39 rfl (fun k => w1.heap.size ≤ k) 3 ii _ 1 8 Tryz.underlying39 hii hz0 hz1 hz2 rfl _ n (intsV vs) rfl (hh3) ⟨w1.heap.size + 1, 0, none⟩ 1 1 [.int .i64 a2] rfl rfl (newsOne _ _ (hgr.cell (cell_at (by have h9 := heap_alloc_new (w1.alloc (.cells #[] 3)) (.cells #[.int .i64 a2] 3); rw [World.size_alloc] at h9; exact h9) 0) (by simp))) (by intro u hu; simp at hu; subst hu; rfl) (by decide) (by unfold maxLen; omega) (by omega) (by have := BX.out.size; first | exact this | (simp; omega) | omega) ?_
      intro g5 k5 w5 hh5 hgr5 hgg5
      have B5 : Hid (Below w1.heap.size w1 w5) := Mr.hid (BX.out.grown hgr5 BX.out.size (fun k e => by cases e; exact (hh3.lt ga rfl).1))
      refine hK.out _ _ B5.out (fun hHeld9 => ?_)
      clear hK K hHeld
      have hHeld := hHeld9
      clear hHeld9
      try simp only [Act.put, List.setIfInBounds_toArray, List.set_cons_zero, List.set_cons_succ]
      refine wpAnyH_take (i := 8) (oi := (⟨_, _, _, _, _, _⟩ : Oper)) (v := ?_) rfl (by kernel_rfl) (by kernel_rfl) (by kernel_rfl) (fun _ _ _ h => h) (Or.inl ⟨by rfl, ?_⟩) (by assumption) ?_
      rotate_left
      · intro w9 hSw
        (try dsimp only at hSw)
        go_simp
        all_goals (with_reducible rfl)
      try simp only [Act.put, List.setIfInBounds_toArray, List.set_cons_zero, List.set_cons_succ]
      refine wpAnyH_take (i := 9) (oi := (⟨_, _, _, _, _, _⟩ : Oper)) (v := undef) rfl (by kernel_rfl) (by kernel_rfl) (by kernel_rfl) (fun _ _ _ h => h) (Or.inr ⟨by kernel_rfl, rfl⟩) (by assumption) ?_
      try simp only [Act.put, List.setIfInBounds_toArray, List.set_cons_zero, List.set_cons_succ]
      refine wpAnyH_take (i := 10) (oi := (⟨_, _, _, _, _, _⟩ : Oper)) (v := undef) rfl (by kernel_rfl) (by kernel_rfl) (by kernel_rfl) (fun _ _ _ h => h) (Or.inr ⟨by kernel_rfl, rfl⟩) (by assumption) ?_
      try simp only [Act.put, List.setIfInBounds_toArray, List.set_cons_zero, List.set_cons_succ]
      refine wpAnyH_take (i := 11) (oi := (⟨_, _, _, _, _, _⟩ : Oper)) (v := ?_) rfl (by kernel_rfl) (by kernel_rfl) (by kernel_rfl) (fun _ _ _ h => h) (Or.inl ⟨by rfl, ?_⟩) (by assumption) ?_
      rotate_left
      · intro w9 hSw
        (try dsimp only at hSw)
        go_simp
        all_goals (with_reducible rfl)
      try simp only [Act.put, List.setIfInBounds_toArray, List.set_cons_zero, List.set_cons_succ]
      refine wpAnyH_take (i := 12) (oi := (⟨_, _, _, _, _, _⟩ : Oper)) (v := ?_) rfl (by kernel_rfl) (by kernel_rfl) (by kernel_rfl) (fun _ _ _ h => h) (Or.inl ⟨by rfl, ?_⟩) (by assumption) ?_
      rotate_left
      · intro w9 hSw
        (try dsimp only at hSw)
        go_simp
        all_goals (with_reducible rfl)
      try simp only [Act.put, List.setIfInBounds_toArray, List.set_cons_zero, List.set_cons_succ]
      refine wpAnyH_take (i := 13) (oi := (⟨_, _, _, _, _, _⟩ : Oper)) (v := ?_) rfl (by kernel_rfl) (by kernel_rfl) (by kernel_rfl) (fun _ _ _ h => h) (Or.inl ⟨by rfl, ?_⟩) (by assumption) ?_
      rotate_left
      · intro w9 hSw
        (try dsimp only at hSw)
        go_simp
        all_goals (with_reducible rfl)
      try simp only [Act.put, List.setIfInBounds_toArray, List.set_cons_zero, List.set_cons_succ]
      refine wpAnyH_done (by kernel_rfl) ?_ _
      have e9 : intsV (vs ++ [a2]) = intsV vs ++ [.int .i64 a2] := by simp [intsV]
      rw [← e9] at hh5
      have hI := Mr.hid (has_is hh5)
      have hk5 : Hid (n + 1 ≤ k5) := Mr.hid (by obtain ⟨g9, cp9, hv9, -, -, hc9, -⟩ := hh5.there (by omega); cases hv9; exact hc9)
      have BB := Mr.hid (B0.trans (B5.out.mono B0.size))
      clear hh5 hgr5 hgg5 hh3 hgr hg3 hHeld B5 BX
      go_wp2
      go_ret2
      have el : (vs ++ [a2]).length = n + 1 := by rw [List.length_append, hm.out]; rfl
      exact ⟨some ⟨g5, 0, none⟩, k5, by rw [el]; rfl, by rw [el]; exact hI.out, by rw [el]; exact hk5.out, BB.out⟩
  · go_simp
    refine hK.out _ _ (E1 (.cells #[.int .i64 a2] 3)).out (fun hHeld9 => ?_)
    clear hK K hHeld
    have hHeld := hHeld9
    clear hHeld9
    try simp only [Act.put, List.setIfInBounds_toArray, List.set_cons_zero, List.set_cons_succ]
    refine wpAnyH_ready (rs := [0]) (by kernel_rfl) (by simp) ?_
    refine AllReadyH.cons (o := (⟨_, _, _, _, _, _⟩ : Oper)) rfl (fun K hK => ?_) (AllReadyH.nil)
    go_simp
    refine hK.out _ _ (E2 (.cells #[.int .i64 a2] 3) (.cells #[] 3)).out (fun hHeld9 => ?_)
    clear hK K hHeld
    have hHeld := hHeld9
    clear hHeld9
    try simp only [Act.put, List.setIfInBounds_toArray, List.set_cons_zero, List.set_cons_succ]
    refine wpAnyH_ready (rs := [2]) (by kernel_rfl) (by simp) ?_
    refine AllReadyH.cons (o := (⟨_, _, _, _, _, _⟩ : Oper)) rfl (fun K hK => ?_) (AllReadyH.nil)
    refine app_wp _ _ rfl w1.heap.size (w1.heap.size + 1) rfl (((empty_has (w1.alloc (.cells #[.int .i64 a2] 3)) (w1.heap.size + 1) (by simp) w1.heap.size (by omega))).below (Below.refl _ _).drew) a n cap vs rfl (HS.out.below (E2 (.cells #[.int .i64 a2] 3) (.cells #[] 3)).out) (by omega) ((E2 (.cells #[.int .i64 a2] 3) (.cells #[] 3)).out.size) ?_
    intro ga ka w3 hh3 hk3 hg3 hgr
    have BX : Hid (Below w1.heap.size w1 w3) := Mr.hid ((E2 (.cells #[.int .i64 a2] 3) (.cells #[] 3)).out.grown hgr (E2 (.cells #[.int .i64 a2] 3) (.cells #[] 3)).out.size (fun k e => by cases e; omega))
    refine hK.out _ _ BX.out (fun hHeld9 => ?_)
    clear hK K hHeld
    have hHeld := hHeld9
    clear hHeld9
    try simp only [Act.put, List.setIfInBounds_toArray, List.set_cons_zero, List.set_cons_succ]
    refine wpAnyH_ready (rs := [6]) (by kernel_rfl) (by simp) ?_
    refine AllReadyH.cons (o := (⟨_, _, _, _, _, _⟩ : Oper)) rfl (fun K hK => ?_) (AllReadyH.nil)
    refine wp_append_has _ _ _ 39 rfl (fun k => w1.heap.size ≤ k) 3 ii _ 1 8 Tryz.underlying39 hii hz0 hz1 hz2 rfl _ n (intsV vs) rfl (hh3) ⟨w1.heap.size, 0, none⟩ 1 1 [.int .i64 a2] rfl rfl (newsOne _ _ (hgr.cell (cell_at (by have := old_at9 (heap_alloc_new w1 (.cells #[.int .i64 a2] 3)) (.cells #[] 3); exact this) 0) (by simp))) (by intro u hu; simp at hu; subst hu; rfl) (by decide) (by unfold maxLen; omega) (by omega) (by have := BX.out.size; first | exact this | (simp; omega) | omega) ?_
    intro g5 k5 w5 hh5 hgr5 hgg5
    have B5 : Hid (Below w1.heap.size w1 w5) := Mr.hid (BX.out.grown hgr5 BX.out.size (fun k e => by cases e; exact (hh3.lt ga rfl).1))
    refine hK.out _ _ B5.out (fun hHeld9 => ?_)
    clear hK K hHeld
    have hHeld := hHeld9
    clear hHeld9
    try simp only [Act.put, List.setIfInBounds_toArray, List.set_cons_zero, List.set_cons_succ]
    refine wpAnyH_take (i := 8) (oi := (⟨_, _, _, _, _, _⟩ : Oper)) (v := ?_) rfl (by kernel_rfl) (by kernel_rfl) (by kernel_rfl) (fun _ _ _ h => h) (Or.inl ⟨by rfl, ?_⟩) (by assumption) ?_
    rotate_left
    · intro w9 hSw
      (try dsimp only at hSw)
      go_simp
      all_goals (with_reducible rfl)
    try simp only [Act.put, List.setIfInBounds_toArray, List.set_cons_zero, List.set_cons_succ]
    refine wpAnyH_take (i := 9) (oi := (⟨_, _, _, _, _, _⟩ : Oper)) (v := undef) rfl (by kernel_rfl) (by kernel_rfl) (by kernel_rfl) (fun _ _ _ h => h) (Or.inr ⟨by kernel_rfl, rfl⟩) (by assumption) ?_
    try simp only [Act.put, List.setIfInBounds_toArray, List.set_cons_zero, List.set_cons_succ]
    refine wpAnyH_take (i := 10) (oi := (⟨_, _, _, _, _, _⟩ : Oper)) (v := undef) rfl (by kernel_rfl) (by kernel_rfl) (by kernel_rfl) (fun _ _ _ h => h) (Or.inr ⟨by kernel_rfl, rfl⟩) (by assumption) ?_
    try simp only [Act.put, List.setIfInBounds_toArray, List.set_cons_zero, List.set_cons_succ]
    refine wpAnyH_take (i := 11) (oi := (⟨_, _, _, _, _, _⟩ : Oper)) (v := ?_) rfl (by kernel_rfl) (by kernel_rfl) (by kernel_rfl) (fun _ _ _ h => h) (Or.inl ⟨by rfl, ?_⟩) (by assumption) ?_
    rotate_left
    · intro w9 hSw
      (try dsimp only at hSw)
      go_simp
      all_goals (with_reducible rfl)
    try simp only [Act.put, List.setIfInBounds_toArray, List.set_cons_zero, List.set_cons_succ]
    refine wpAnyH_take (i := 12) (oi := (⟨_, _, _, _, _, _⟩ : Oper)) (v := ?_) rfl (by kernel_rfl) (by kernel_rfl) (by kernel_rfl) (fun _ _ _ h => h) (Or.inl ⟨by rfl, ?_⟩) (by assumption) ?_
    rotate_left
    · intro w9 hSw
      (try dsimp only at hSw)
      go_simp
      all_goals (with_reducible rfl)
    try simp only [Act.put, List.setIfInBounds_toArray, List.set_cons_zero, List.set_cons_succ]
    refine wpAnyH_take (i := 13) (oi := (⟨_, _, _, _, _, _⟩ : Oper)) (v := ?_) rfl (by kernel_rfl) (by kernel_rfl) (by kernel_rfl) (fun _ _ _ h => h) (Or.inl ⟨by rfl, ?_⟩) (by assumption) ?_
    rotate_left
    · intro w9 hSw
      (try dsimp only at hSw)
      go_simp
      all_goals (with_reducible rfl)
    try simp only [Act.put, List.setIfInBounds_toArray, List.set_cons_zero, List.set_cons_succ]
    refine wpAnyH_done (by kernel_rfl) ?_ _
    have e9 : intsV (vs ++ [a2]) = intsV vs ++ [.int .i64 a2] := by simp [intsV]
    rw [← e9] at hh5
    have hI := Mr.hid (has_is hh5)
    have hk5 : Hid (n + 1 ≤ k5) := Mr.hid (by obtain ⟨g9, cp9, hv9, -, -, hc9, -⟩ := hh5.there (by omega); cases hv9; exact hc9)
    have BB := Mr.hid (B0.trans (B5.out.mono B0.size))
    clear hh5 hgr5 hgg5 hh3 hgr hg3 hHeld B5 BX
    go_wp2
    go_ret2
    have el : (vs ++ [a2]).length = n + 1 := by rw [List.length_append, hm.out]; rfl
    exact ⟨some ⟨g5, 0, none⟩, k5, by rw [el]; rfl, by rw [el]; exact hI.out, by rw [el]; exact hk5.out, BB.out⟩
set_option maxHeartbeats 8000000 in
theorem made_push_end (rm : Int) (vs : List Int) (x : Cl) (hn : vs.length ≤ 100000) (hf : 0 ≤ x.fin) (hop : x.op = 90) (hr : ¬ rm ≤ (vs.length : Int)) (hk : x.ak = 1) : MdC rm vs x := by
  intro a cap w hv hcap
  have e1 : Hd.atO rm vs (qq x) = (vs ++ [x.arg], 1, 0) := by exact at_p hop hr
  rw [e1]
  clear e1
  obtain ⟨a0, a1, a2, a3, a4, a5, a6, a7, a8⟩ := x
  have hfd : decide (a5 < 0) = false := decide_eq_false (by have := hf; simp only at this; omega)
  obtain rfl : a1 = 90 := hop
  obtain rfl : a7 = 1 := hk
  clear hf
  dsimp only
  have B0 : Below w.heap.size w (w.alloc (.cells #[.int .i64 a0, .int .i64 90, .int .i64 a2, .int .i64 a3, .int .i64 a4, .int .i64 a5, .int .i64 a6, .int .i64 1, .int .i64 a8] 45 (0, 0))) := (Below.refl w.heap.size w).alloc (Nat.le_refl _) _
  have ca := heap_alloc_new w (.cells #[.int .i64 a0, .int .i64 90, .int .i64 a2, .int .i64 a3, .int .i64 a4, .int .i64 a5, .int .i64 a6, .int .i64 1, .int .i64 a8] 45 (0, 0))
  have HS := Mr.hid (hv.below B0)
  have hr1 : decide (rm ≤ (vs.length : Int)) = false := decide_eq_false hr
  obtain ⟨ii, hii, hz0, hz1, hz2⟩ := Dq.info_i
  generalize hm : vs.length = n at *
  replace hm := Mr.hid hm
  clear hv hr
  go_enter Tryz.func9, Tryz.ntmps9
  go_upto_region 7 with fail
  generalize w.alloc _ = w1 at *
  have lb : w.heap.size < w1.heap.size := (Array.getElem?_eq_some_iff.1 ca).1
  have c2 := cell_at ca 2
  simp only [List.getElem?_toArray, List.getElem?_cons_zero, List.getElem?_cons_succ] at c2
  clear ca
  have S0 : Hid (Below w1.heap.size w1 w1) := Mr.hid (Below.refl _ _)
  have E1 := fun o => Mr.hid (((Below.refl w1.heap.size w1).alloc (Nat.le_refl _) o).drew)
  have E2 := fun o o' => Mr.hid ((((Below.refl w1.heap.size w1).alloc (Nat.le_refl _) o).alloc (by simp) o').drew)
  refine wp_region_held_drew (S := (fun W => Below w1.heap.size w1 W)) (by kernel_rfl) S0.out.drew (fun hHeld => ?_)
  try simp only [Act.put, List.setIfInBounds_toArray, List.set_cons_zero, List.set_cons_succ]
  refine wpAnyH_take (i := 1) (oi := (⟨_, _, _, _, _, _⟩ : Oper)) (v := ?_) rfl (by kernel_rfl) (by kernel_rfl) (by kernel_rfl) (fun _ _ _ h => h) (Or.inl ⟨by rfl, ?_⟩) (by assumption) ?_
  rotate_left
  · intro w9 hSw
    (try dsimp only at hSw)
    go_simp
    all_goals (with_reducible rfl)
  try simp only [Act.put, List.setIfInBounds_toArray, List.set_cons_zero, List.set_cons_succ]
  refine wpAnyH_take (i := 3) (oi := (⟨_, _, _, _, _, _⟩ : Oper)) (v := ?_) rfl (by kernel_rfl) (by kernel_rfl) (by kernel_rfl) (fun _ _ _ h => h) (Or.inl ⟨by rfl, ?_⟩) (by assumption) ?_
  rotate_left
  · intro w9 hSw
    (try dsimp only at hSw)
    go_simp
    all_goals (with_reducible rfl)
  try simp only [Act.put, List.setIfInBounds_toArray, List.set_cons_zero, List.set_cons_succ]
  refine wpAnyH_take (i := 4) (oi := (⟨_, _, _, _, _, _⟩ : Oper)) (v := ?_) rfl (by kernel_rfl) (by kernel_rfl) (by kernel_rfl) (fun _ _ _ h => h) (Or.inl ⟨by rfl, ?_⟩) (by assumption) ?_
  rotate_left
  · intro w9 hSw
    (try dsimp only at hSw)
    have q := (hSw.cell (p := ⟨w.heap.size, 2, none⟩) lb).trans c2
    go_simp
    all_goals (with_reducible rfl)
  try simp only [Act.put, List.setIfInBounds_toArray, List.set_cons_zero, List.set_cons_succ]
  refine wpAnyH_take (i := 7) (oi := (⟨_, _, _, _, _, _⟩ : Oper)) (v := ?_) rfl (by kernel_rfl) (by kernel_rfl) (by kernel_rfl) (fun _ _ _ h => h) (Or.inl ⟨by rfl, ?_⟩) (by assumption) ?_
  rotate_left
  · intro w9 hSw
    (try dsimp only at hSw)
    go_simp
    all_goals (with_reducible rfl)
  try simp only [Act.put, List.setIfInBounds_toArray, List.set_cons_zero, List.set_cons_succ]
  refine wpAnyH_ready (rs := [0, 5]) (by kernel_rfl) (by simp) ?_
  refine AllReadyH.cons (o := (⟨_, _, _, _, _, _⟩ : Oper)) rfl (fun K hK => ?_) (AllReadyH.cons (o := (⟨_, _, _, _, _, _⟩ : Oper)) rfl (fun K hK => ?_) AllReadyH.nil)
  · go_simp
    refine hK.out _ _ (E1 (.cells #[] 3)).out (fun hHeld9 => ?_)
    clear hK K hHeld
    have hHeld := hHeld9
    clear hHeld9
    try simp only [Act.put, List.setIfInBounds_toArray, List.set_cons_zero, List.set_cons_succ]
    refine wpAnyH_ready (rs := [2, 5]) (by kernel_rfl) (by simp) ?_
    refine AllReadyH.cons (o := (⟨_, _, _, _, _, _⟩ : Oper)) rfl (fun K hK => ?_) (AllReadyH.cons (o := (⟨_, _, _, _, _, _⟩ : Oper)) rfl (fun K hK => ?_) AllReadyH.nil)
    · refine app_wp _ _ rfl w1.heap.size (w1.heap.size) rfl ((empty_has w1 w1.heap.size rfl w1.heap.size (Nat.le_refl _)).below (Below.refl _ _).drew) a n cap vs rfl (HS.out.below (E1 (.cells #[] 3)).out) (by omega) ((E1 (.cells #[] 3)).out.size) ?_
      intro ga ka w3 hh3 hk3 hg3 hgr
      have B3 : Hid (Below w1.heap.size w1 w3) := Mr.hid ((E1 (.cells #[] 3)).out.grown hgr (E1 (.cells #[] 3)).out.size (fun k e => by cases e; exact Nat.le_refl _))
      refine hK.out _ _ B3.out (fun hHeld9 => ?_)
      clear hK K hHeld
      have hHeld := hHeld9
      clear hHeld9
      try simp only [Act.put, List.setIfInBounds_toArray, List.set_cons_zero, List.set_cons_succ]
      refine wpAnyH_ready (rs := [5]) (by kernel_rfl) (by simp) ?_
      refine AllReadyH.cons (o := (⟨_, _, _, _, _, _⟩ : Oper)) rfl (fun K hK => ?_) (AllReadyH.nil)
      go_simp
      have BX : Hid (Below w1.heap.size w1 (w3.alloc (.cells #[.int .i64 a2] 3))) := Mr.hid (B3.out.alloc B3.out.size _)
      refine hK.out _ _ (by first | exact BX.out | exact BX.out.drew) (fun hHeld9 => ?_)
      clear hK K hHeld
      have hHeld := hHeld9
      clear hHeld9
      try simp only [Act.put, List.setIfInBounds_toArray, List.set_cons_zero, List.set_cons_succ]
      refine wpAnyH_ready (rs := [6]) (by kernel_rfl) (by simp) ?_
      refine AllReadyH.cons (o := (⟨_, _, _, _, _, _⟩ : Oper)) rfl (fun K hK => ?_) (AllReadyH.nil)
      refine wp_append_has _ _ _ 39 rfl (fun k => w1.heap.size ≤ k) 3 ii _ 1 8 Tryz.underlying39 hii hz0 hz1 hz2 rfl _ n (intsV vs) rfl (hh3.alloc _) ⟨w3.heap.size, 0, none⟩ 1 1 [.int .i64 a2] rfl rfl (newsOne _ _ (cell_at (heap_alloc_new w3 (.cells #[.int .i64 a2] 3)) 0)) (by intro u hu; simp at hu; subst hu; rfl) (by decide) (by unfold maxLen; omega) (by omega) (by have := BX.out.size; first | exact this | (simp; omega) | omega) ?_
      intro g5 k5 w5 hh5 hgr5 hgg5
      have B5 : Hid (Below w1.heap.size w1 w5) := Mr.hid (BX.out.grown hgr5 BX.out.size (fun k e => by cases e; exact (hh3.lt ga rfl).1))
      refine hK.out _ _ B5.out (fun hHeld9 => ?_)
      clear hK K hHeld
      have hHeld := hHeld9
      clear hHeld9
      try simp only [Act.put, List.setIfInBounds_toArray, List.set_cons_zero, List.set_cons_succ]
      refine wpAnyH_take (i := 8) (oi := (⟨_, _, _, _, _, _⟩ : Oper)) (v := ?_) rfl (by kernel_rfl) (by kernel_rfl) (by kernel_rfl) (fun _ _ _ h => h) (Or.inl ⟨by rfl, ?_⟩) (by assumption) ?_
      rotate_left
      · intro w9 hSw
        (try dsimp only at hSw)
        go_simp
        all_goals (with_reducible rfl)
      try simp only [Act.put, List.setIfInBounds_toArray, List.set_cons_zero, List.set_cons_succ]
      refine wpAnyH_take (i := 9) (oi := (⟨_, _, _, _, _, _⟩ : Oper)) (v := ?_) rfl (by kernel_rfl) (by kernel_rfl) (by kernel_rfl) (fun _ _ _ h => h) (Or.inl ⟨by rfl, ?_⟩) (by assumption) ?_
      rotate_left
      · intro w9 hSw
        (try dsimp only at hSw)
        go_simp
        all_goals (with_reducible rfl)
      try simp only [Act.put, List.setIfInBounds_toArray, List.set_cons_zero, List.set_cons_succ]
      refine wpAnyH_take (i := 10) (oi := (⟨_, _, _, _, _, _⟩ : Oper)) (v := ?_) rfl (by kernel_rfl) (by kernel_rfl) (by kernel_rfl) (fun _ _ _ h => h) (Or.inl ⟨by rfl, ?_⟩) (by assumption) ?_
      rotate_left
      · intro w9 hSw
        (try dsimp only at hSw)
        go_simp
        all_goals (with_reducible rfl)
      try simp only [Act.put, List.setIfInBounds_toArray, List.set_cons_zero, List.set_cons_succ]
      refine wpAnyH_take (i := 11) (oi := (⟨_, _, _, _, _, _⟩ : Oper)) (v := ?_) rfl (by kernel_rfl) (by kernel_rfl) (by kernel_rfl) (fun _ _ _ h => h) (Or.inl ⟨by rfl, ?_⟩) (by assumption) ?_
      rotate_left
      · intro w9 hSw
        (try dsimp only at hSw)
        go_simp
        all_goals (with_reducible rfl)
      try simp only [Act.put, List.setIfInBounds_toArray, List.set_cons_zero, List.set_cons_succ]
      refine wpAnyH_take (i := 12) (oi := (⟨_, _, _, _, _, _⟩ : Oper)) (v := ?_) rfl (by kernel_rfl) (by kernel_rfl) (by kernel_rfl) (fun _ _ _ h => h) (Or.inl ⟨by rfl, ?_⟩) (by assumption) ?_
      rotate_left
      · intro w9 hSw
        (try dsimp only at hSw)
        go_simp
        all_goals (with_reducible rfl)
      try simp only [Act.put, List.setIfInBounds_toArray, List.set_cons_zero, List.set_cons_succ]
      refine wpAnyH_take (i := 13) (oi := (⟨_, _, _, _, _, _⟩ : Oper)) (v := ?_) rfl (by kernel_rfl) (by kernel_rfl) (by kernel_rfl) (fun _ _ _ h => h) (Or.inl ⟨by rfl, ?_⟩) (by assumption) ?_
      rotate_left
      · intro w9 hSw
        (try dsimp only at hSw)
        go_simp
        all_goals (with_reducible rfl)
      try simp only [Act.put, List.setIfInBounds_toArray, List.set_cons_zero, List.set_cons_succ]
      refine wpAnyH_done (by kernel_rfl) ?_ _
      have e9 : intsV (vs ++ [a2]) = intsV vs ++ [.int .i64 a2] := by simp [intsV]
      rw [← e9] at hh5
      have hI := Mr.hid (has_is hh5)
      have hk5 : Hid (n + 1 ≤ k5) := Mr.hid (by obtain ⟨g9, cp9, hv9, -, -, hc9, -⟩ := hh5.there (by omega); cases hv9; exact hc9)
      have BB := Mr.hid (B0.trans (B5.out.mono B0.size))
      clear hh5 hgr5 hgg5 hh3 hgr hg3 hHeld B5 BX
      go_wp2
      go_ret2
      have el : (vs ++ [a2]).length = n + 1 := by rw [List.length_append, hm.out]; rfl
      exact ⟨some ⟨g5, 0, none⟩, k5, by rw [el]; rfl, by rw [el]; exact hI.out, by rw [el]; exact hk5.out, BB.out⟩
    · go_simp
      refine hK.out _ _ (E2 (.cells #[] 3) (.cells #[.int .i64 a2] 3)).out (fun hHeld9 => ?_)
      clear hK K hHeld
      have hHeld := hHeld9
      clear hHeld9
      try simp only [Act.put, List.setIfInBounds_toArray, List.set_cons_zero, List.set_cons_succ]
      refine wpAnyH_ready (rs := [2]) (by kernel_rfl) (by simp) ?_
      refine AllReadyH.cons (o := (⟨_, _, _, _, _, _⟩ : Oper)) rfl (fun K hK => ?_) (AllReadyH.nil)
      refine app_wp _ _ rfl w1.heap.size (w1.heap.size) rfl (((empty_has w1 w1.heap.size rfl w1.heap.size (Nat.le_refl _)).alloc _).below (Below.refl _ _).drew) a n cap vs rfl (HS.out.below (E2 (.cells #[] 3) (.cells #[.int .i64 a2] 3)).out) (by omega) ((E2 (.cells #[] 3) (.cells #[.int .i64 a2] 3)).out.size) ?_
      intro ga ka w3 hh3 hk3 hg3 hgr
      have BX : Hid (Below w1.heap.size w1 w3) := Mr.hid ((E2 (.cells #[] 3) (.cells #[.int .i64 a2] 3)).out.grown hgr (E2 (.cells #[] 3) (.cells #[.int .i64 a2] 3)).out.size (fun k e => by cases e; exact Nat.le_refl _))
      refine hK.out _ _ BX.out (fun hHeld9 => ?_)
      clear hK K hHeld
      have hHeld := hHeld9
      clear hHeld9
      try simp only [Act.put, List.setIfInBounds_toArray, List.set_cons_zero, List.set_cons_succ]
      refine wpAnyH_ready (rs := [6]) (by kernel_rfl) (by simp) ?_
      refine AllReadyH.cons (o := (⟨_, _, _, _, _, _⟩ : Oper)) rfl (fun K hK => ?_) (AllReadyH.nil)
      refine wp_append_has _ _ _ 39 rfl (fun k => w1.heap.size ≤ k) 3 ii _ 1 8 Tryz.underlying39 hii hz0 hz1 hz2 rfl _ n (intsV vs) rfl (hh3) ⟨w1.heap.size + 1, 0, none⟩ 1 1 [.int .i64 a2] rfl rfl (newsOne _ _ (hgr.cell (cell_at (by have h9 := heap_alloc_new (w1.alloc (.cells #[] 3)) (.cells #[.int .i64 a2] 3); rw [World.size_alloc] at h9; exact h9) 0) (by simp))) (by intro u hu; simp at hu; subst hu; rfl) (by decide) (by unfold maxLen; omega) (by omega) (by have := BX.out.size; first | exact this | (simp; omega) | omega) ?_
      intro g5 k5 w5 hh5 hgr5 hgg5
      have B5 : Hid (Below w1.heap.size w1 w5) := Mr.hid (BX.out.grown hgr5 BX.out.size (fun k e => by cases e; exact (hh3.lt ga rfl).1))
      refine hK.out _ _ B5.out (fun hHeld9 => ?_)
      clear hK K hHeld
      have hHeld := hHeld9
      clear hHeld9
      try simp only [Act.put, List.setIfInBounds_toArray, List.set_cons_zero, List.set_cons_succ]
      refine wpAnyH_take (i := 8) (oi := (⟨_, _, _, _, _, _⟩ : Oper)) (v := ?_) rfl (by kernel_rfl) (by kernel_rfl) (by kernel_rfl) (fun _ _ _ h => h) (Or.inl ⟨by rfl, ?_⟩) (by assumption) ?_
      rotate_left
      · intro w9 hSw
        (try dsimp only at hSw)
        go_simp
        all_goals (with_reducible rfl)
      try simp only [Act.put, List.setIfInBounds_toArray, List.set_cons_zero, List.set_cons_succ]
      refine wpAnyH_take (i := 9) (oi := (⟨_, _, _, _, _, _⟩ : Oper)) (v := ?_) rfl (by kernel_rfl) (by kernel_rfl) (by kernel_rfl) (fun _ _ _ h => h) (Or.inl ⟨by rfl, ?_⟩) (by assumption) ?_
      rotate_left
      · intro w9 hSw
        (try dsimp only at hSw)
        go_simp
        all_goals (with_reducible rfl)
      try simp only [Act.put, List.setIfInBounds_toArray, List.set_cons_zero, List.set_cons_succ]
      refine wpAnyH_take (i := 10) (oi := (⟨_, _, _, _, _, _⟩ : Oper)) (v := ?_) rfl (by kernel_rfl) (by kernel_rfl) (by kernel_rfl) (fun _ _ _ h => h) (Or.inl ⟨by rfl, ?_⟩) (by assumption) ?_
      rotate_left
      · intro w9 hSw
        (try dsimp only at hSw)
        go_simp
        all_goals (with_reducible rfl)
      try simp only [Act.put, List.setIfInBounds_toArray, List.set_cons_zero, List.set_cons_succ]
      refine wpAnyH_take (i := 11) (oi := (⟨_, _, _, _, _, _⟩ : Oper)) (v := ?_) rfl (by kernel_rfl) (by kernel_rfl) (by kernel_rfl) (fun _ _ _ h => h) (Or.inl ⟨by rfl, ?_⟩) (by assumption) ?_
      rotate_left
      · intro w9 hSw
        (try dsimp only at hSw)
        go_simp
        all_goals (with_reducible rfl)
      try simp only [Act.put, List.setIfInBounds_toArray, List.set_cons_zero, List.set_cons_succ]
      refine wpAnyH_take (i := 12) (oi := (⟨_, _, _, _, _, _⟩ : Oper)) (v := ?_) rfl (by kernel_rfl) (by kernel_rfl) (by kernel_rfl) (fun _ _ _ h => h) (Or.inl ⟨by rfl, ?_⟩) (by assumption) ?_
      rotate_left
      · intro w9 hSw
        (try dsimp only at hSw)
        go_simp
        all_goals (with_reducible rfl)
      try simp only [Act.put, List.setIfInBounds_toArray, List.set_cons_zero, List.set_cons_succ]
      refine wpAnyH_take (i := 13) (oi := (⟨_, _, _, _, _, _⟩ : Oper)) (v := ?_) rfl (by kernel_rfl) (by kernel_rfl) (by kernel_rfl) (fun _ _ _ h => h) (Or.inl ⟨by rfl, ?_⟩) (by assumption) ?_
      rotate_left
      · intro w9 hSw
        (try dsimp only at hSw)
        go_simp
        all_goals (with_reducible rfl)
      try simp only [Act.put, List.setIfInBounds_toArray, List.set_cons_zero, List.set_cons_succ]
      refine wpAnyH_done (by kernel_rfl) ?_ _
      have e9 : intsV (vs ++ [a2]) = intsV vs ++ [.int .i64 a2] := by simp [intsV]
      rw [← e9] at hh5
      have hI := Mr.hid (has_is hh5)
      have hk5 : Hid (n + 1 ≤ k5) := Mr.hid (by obtain ⟨g9, cp9, hv9, -, -, hc9, -⟩ := hh5.there (by omega); cases hv9; exact hc9)
      have BB := Mr.hid (B0.trans (B5.out.mono B0.size))
      clear hh5 hgr5 hgg5 hh3 hgr hg3 hHeld B5 BX
      go_wp2
      go_ret2
      have el : (vs ++ [a2]).length = n + 1 := by rw [List.length_append, hm.out]; rfl
      exact ⟨some ⟨g5, 0, none⟩, k5, by rw [el]; rfl, by rw [el]; exact hI.out, by rw [el]; exact hk5.out, BB.out⟩
  · go_simp
    refine hK.out _ _ (E1 (.cells #[.int .i64 a2] 3)).out (fun hHeld9 => ?_)
    clear hK K hHeld
    have hHeld := hHeld9
    clear hHeld9
    try simp only [Act.put, List.setIfInBounds_toArray, List.set_cons_zero, List.set_cons_succ]
    refine wpAnyH_ready (rs := [0]) (by kernel_rfl) (by simp) ?_
    refine AllReadyH.cons (o := (⟨_, _, _, _, _, _⟩ : Oper)) rfl (fun K hK => ?_) (AllReadyH.nil)
    go_simp
    refine hK.out _ _ (E2 (.cells #[.int .i64 a2] 3) (.cells #[] 3)).out (fun hHeld9 => ?_)
    clear hK K hHeld
    have hHeld := hHeld9
    clear hHeld9
    try simp only [Act.put, List.setIfInBounds_toArray, List.set_cons_zero, List.set_cons_succ]
    refine wpAnyH_ready (rs := [2]) (by kernel_rfl) (by simp) ?_
    refine AllReadyH.cons (o := (⟨_, _, _, _, _, _⟩ : Oper)) rfl (fun K hK => ?_) (AllReadyH.nil)
    refine app_wp _ _ rfl w1.heap.size (w1.heap.size + 1) rfl (((empty_has (w1.alloc (.cells #[.int .i64 a2] 3)) (w1.heap.size + 1) (by simp) w1.heap.size (by omega))).below (Below.refl _ _).drew) a n cap vs rfl (HS.out.below (E2 (.cells #[.int .i64 a2] 3) (.cells #[] 3)).out) (by omega) ((E2 (.cells #[.int .i64 a2] 3) (.cells #[] 3)).out.size) ?_
    intro ga ka w3 hh3 hk3 hg3 hgr
    have BX : Hid (Below w1.heap.size w1 w3) := Mr.hid ((E2 (.cells #[.int .i64 a2] 3) (.cells #[] 3)).out.grown hgr (E2 (.cells #[.int .i64 a2] 3) (.cells #[] 3)).out.size (fun k e => by cases e; omega))
    refine hK.out _ _ BX.out (fun hHeld9 => ?_)
    clear hK K hHeld
    have hHeld := hHeld9
    clear hHeld9
    try simp only [Act.put, List.setIfInBounds_toArray, List.set_cons_zero, List.set_cons_succ]
    refine wpAnyH_ready (rs := [6]) (by kernel_rfl) (by simp) ?_
    refine AllReadyH.cons (o := (⟨_, _, _, _, _, _⟩ : Oper)) rfl (fun K hK => ?_) (AllReadyH.nil)
    refine wp_append_has _ _ _ 39 rfl (fun k => w1.heap.size ≤ k) 3 ii _ 1 8 Tryz.underlying39 hii hz0 hz1 hz2 rfl _ n (intsV vs) rfl (hh3) ⟨w1.heap.size, 0, none⟩ 1 1 [.int .i64 a2] rfl rfl (newsOne _ _ (hgr.cell (cell_at (by have := old_at9 (heap_alloc_new w1 (.cells #[.int .i64 a2] 3)) (.cells #[] 3); exact this) 0) (by simp))) (by intro u hu; simp at hu; subst hu; rfl) (by decide) (by unfold maxLen; omega) (by omega) (by have := BX.out.size; first | exact this | (simp; omega) | omega) ?_
    intro g5 k5 w5 hh5 hgr5 hgg5
    have B5 : Hid (Below w1.heap.size w1 w5) := Mr.hid (BX.out.grown hgr5 BX.out.size (fun k e => by cases e; exact (hh3.lt ga rfl).1))
    refine hK.out _ _ B5.out (fun hHeld9 => ?_)
    clear hK K hHeld
    have hHeld := hHeld9
    clear hHeld9
    try simp only [Act.put, List.setIfInBounds_toArray, List.set_cons_zero, List.set_cons_succ]
    refine wpAnyH_take (i := 8) (oi := (⟨_, _, _, _, _, _⟩ : Oper)) (v := ?_) rfl (by kernel_rfl) (by kernel_rfl) (by kernel_rfl) (fun _ _ _ h => h) (Or.inl ⟨by rfl, ?_⟩) (by assumption) ?_
    rotate_left
    · intro w9 hSw
      (try dsimp only at hSw)
      go_simp
      all_goals (with_reducible rfl)
    try simp only [Act.put, List.setIfInBounds_toArray, List.set_cons_zero, List.set_cons_succ]
    refine wpAnyH_take (i := 9) (oi := (⟨_, _, _, _, _, _⟩ : Oper)) (v := ?_) rfl (by kernel_rfl) (by kernel_rfl) (by kernel_rfl) (fun _ _ _ h => h) (Or.inl ⟨by rfl, ?_⟩) (by assumption) ?_
    rotate_left
    · intro w9 hSw
      (try dsimp only at hSw)
      go_simp
      all_goals (with_reducible rfl)
    try simp only [Act.put, List.setIfInBounds_toArray, List.set_cons_zero, List.set_cons_succ]
    refine wpAnyH_take (i := 10) (oi := (⟨_, _, _, _, _, _⟩ : Oper)) (v := ?_) rfl (by kernel_rfl) (by kernel_rfl) (by kernel_rfl) (fun _ _ _ h => h) (Or.inl ⟨by rfl, ?_⟩) (by assumption) ?_
    rotate_left
    · intro w9 hSw
      (try dsimp only at hSw)
      go_simp
      all_goals (with_reducible rfl)
    try simp only [Act.put, List.setIfInBounds_toArray, List.set_cons_zero, List.set_cons_succ]
    refine wpAnyH_take (i := 11) (oi := (⟨_, _, _, _, _, _⟩ : Oper)) (v := ?_) rfl (by kernel_rfl) (by kernel_rfl) (by kernel_rfl) (fun _ _ _ h => h) (Or.inl ⟨by rfl, ?_⟩) (by assumption) ?_
    rotate_left
    · intro w9 hSw
      (try dsimp only at hSw)
      go_simp
      all_goals (with_reducible rfl)
    try simp only [Act.put, List.setIfInBounds_toArray, List.set_cons_zero, List.set_cons_succ]
    refine wpAnyH_take (i := 12) (oi := (⟨_, _, _, _, _, _⟩ : Oper)) (v := ?_) rfl (by kernel_rfl) (by kernel_rfl) (by kernel_rfl) (fun _ _ _ h => h) (Or.inl ⟨by rfl, ?_⟩) (by assumption) ?_
    rotate_left
    · intro w9 hSw
      (try dsimp only at hSw)
      go_simp
      all_goals (with_reducible rfl)
    try simp only [Act.put, List.setIfInBounds_toArray, List.set_cons_zero, List.set_cons_succ]
    refine wpAnyH_take (i := 13) (oi := (⟨_, _, _, _, _, _⟩ : Oper)) (v := ?_) rfl (by kernel_rfl) (by kernel_rfl) (by kernel_rfl) (fun _ _ _ h => h) (Or.inl ⟨by rfl, ?_⟩) (by assumption) ?_
    rotate_left
    · intro w9 hSw
      (try dsimp only at hSw)
      go_simp
      all_goals (with_reducible rfl)
    try simp only [Act.put, List.setIfInBounds_toArray, List.set_cons_zero, List.set_cons_succ]
    refine wpAnyH_done (by kernel_rfl) ?_ _
    have e9 : intsV (vs ++ [a2]) = intsV vs ++ [.int .i64 a2] := by simp [intsV]
    rw [← e9] at hh5
    have hI := Mr.hid (has_is hh5)
    have hk5 : Hid (n + 1 ≤ k5) := Mr.hid (by obtain ⟨g9, cp9, hv9, -, -, hc9, -⟩ := hh5.there (by omega); cases hv9; exact hc9)
    have BB := Mr.hid (B0.trans (B5.out.mono B0.size))
    clear hh5 hgr5 hgg5 hh3 hgr hg3 hHeld B5 BX
    go_wp2
    go_ret2
    have el : (vs ++ [a2]).length = n + 1 := by rw [List.length_append, hm.out]; rfl
    exact ⟨some ⟨g5, 0, none⟩, k5, by rw [el]; rfl, by rw [el]; exact hI.out, by rw [el]; exact hk5.out, BB.out⟩
end Go.Proofs.YtedaoljmcfbbpaaGreat.Dm
