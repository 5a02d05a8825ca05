/-
  DEQUE: the law of Left, walked.
-/
import Derived.Test.YtkbikhpmfhgjnaaDqSame
namespace Go.Proofs.Ytkbikhpmfhgjnaa.Dq
open Go.RowKit Mr
set_option linter.unusedVariables false
set_option linter.unusedSimpArgs false
set_option maxRecDepth 100000
theorem lfR_len (th rm : Int) (ws : List Int) : (lfR th rm ws).1.length ≤ 1000000 := by
  unfold lfR
  split
  · simp
  · split
    · simp
    · rename_i h1 h2
      split
      · rename_i h3
        have hd : dqB th rm = true := by cases h : dqB th rm; exact absurd h h1; rfl
        obtain ⟨k1, k2, k3, k4⟩ := dqB_in hd
        obtain ⟨q1, q2, q3, q4⟩ := h3
        simp only [lfL, List.length_map, List.length_range]
        omega
      · simp
set_option maxHeartbeats 16000000 in
theorem law_lefts (th rm : Int) (a : Option Addr) (n c : Nat) (ws : List Int) (w : World) (hW : WdAt w a n ws) (hz : n * 8 ≤ 140737488351232) :
    Calls Try.prog 3 #[dV th rm, .slice a n c] w fun e w' => e = .returned (.bool true) ∧ Below w.heap.size w w' := by
  have B0 := bxd_below w th rm
  have b0 := bxd_0 w th rm
  have c0 := cell_blk b0 0
  have c1 := cell_blk b0 1
  have lb := (Array.getElem?_eq_some_iff.1 b0).1
  obtain ⟨xl, hxl⟩ : ∃ x, x = (lfR th rm ws).1 := ⟨_, rfl⟩
  obtain ⟨xe, hxe⟩ : ∃ x, x = (lfR th rm ws).2 := ⟨_, rfl⟩
  obtain ⟨ln, hlne⟩ : ∃ x, x = xl.length := ⟨_, rfl⟩
  have hln : ln ≤ 1000000 := by rw [hlne, hxl]; exact lfR_len th rm ws
  have LF : Hid (∀ (W : World) (a' : Option Addr) (c' : Nat), WdAt W a' n ws → Calls Try.prog 8 #[dV th rm, .slice a' n c'] W fun e w' => ∃ va vc, e = .returned (.tuple #[.slice va ln vc, .int .i64 xe]) ∧ IsAt w' va ln xl ∧ Below W.heap.size W w') := fun W a' c' h => by
    rw [hlne, hxl, hxe]; exact Left_any th rm ws a' n c' W h
  have RF : Hid (∀ (W : World), Below w.heap.size w W → Calls Try.prog 9 #[dV th rm, .slice a n c] W fun e w' => ∃ va vc, e = .returned (.tuple #[.slice va ln vc, .int .i64 xe]) ∧ IsAt w' va ln xl ∧ Below W.heap.size W w') := fun W h => by
    rw [hlne, hxl, hxe]; exact rLeft_any th rm ws a n c W (hW.below h)
  have SI : Hid (∀ (W : World) (a1 a2 : Option Addr) (k1 k2 : Nat), IsAt W a1 ln xl → IsAt W a2 ln xl → Calls Try.prog 10 #[.slice a1 ln k1, .slice a2 ln k2] W fun e w' => e = .returned (.bool true) ∧ Below W.heap.size W w') := fun W a1 a2 k1 k2 h1 h2 => sameInts_eq xl a1 a2 _ k1 k2 W h1 h2 (by omega)
  have NU := Mr.hid num_any
  replace hxl := Mr.hid hxl
  replace hxe := Mr.hid hxe
  replace hlne := Mr.hid hlne
  replace hln := Mr.hid hln
  have hW0 := Mr.hid hW
  have B0' := Mr.hid B0
  have b0' := Mr.hid b0
  clear B0 b0 hW
  unfold dV at *
  go_enter Try.func3, Try.ntmps3
  go_upto_region 1 with fail
  generalize w.alloc (.cells #[.int .i64 th, .int .i64 rm] 23) = w1 at *
  refine wp_region_held_drew (S := (fun W => W.cell? ⟨w.heap.size, 0, none⟩ = some (.int .i64 th) ∧ W.cell? ⟨w.heap.size, 1, none⟩ = some (.int .i64 rm))) (by kernel_rfl) ⟨c0, c1⟩ (fun hHeld => ?_)
  try simp only [Act.put, List.setIfInBounds_toArray, List.set_cons_zero, List.set_cons_succ]
  refine wpAnyH_take (i := 0) (oi := (⟨_, _, _, _, _, _⟩ : Oper)) (v := ?_) rfl (by kernel_rfl) (by kernel_rfl) (by kernel_rfl) (fun _ _ _ h => h) (Or.inl ⟨by rfl, ?_⟩) (by assumption) ?_
  rotate_left
  · intro w9 hSw
    (try dsimp only at hSw)
    go_simp
    all_goals (with_reducible rfl)
  try simp only [Act.put, List.setIfInBounds_toArray, List.set_cons_zero, List.set_cons_succ]
  refine wpAnyH_take (i := 2) (oi := (⟨_, _, _, _, _, _⟩ : Oper)) (v := ?_) rfl (by kernel_rfl) (by kernel_rfl) (by kernel_rfl) (fun _ _ _ h => h) (Or.inl ⟨by rfl, ?_⟩) (by assumption) ?_
  rotate_left
  · intro w9 hSw
    (try dsimp only at hSw)
    go_simp
    all_goals (with_reducible rfl)
  try simp only [Act.put, List.setIfInBounds_toArray, List.set_cons_zero, List.set_cons_succ]
  refine wpAnyH_ready (rs := [1]) (by kernel_rfl) (by simp) ?_
  refine AllReadyH.cons (o := (⟨_, _, _, _, _, _⟩ : Oper)) rfl (fun K hK => ?_) (AllReadyH.nil)
  go_simp
  have BA : Below w1.heap.size w1 (w1.alloc (.cells #[] 68)).drew := ((Below.refl _ _).alloc (Nat.le_refl _) _).drew
  have hE : Has (w1.alloc (.cells #[] 68)).drew (fun k => w1.heap.size ≤ k) 68 1 (.slice (some ⟨w1.heap.size, 0, none⟩) 0 0) 0 [] := ⟨by simp, .inr ⟨w1.heap.size, 0, #[], rfl, Nat.le_refl _, (new_at w1 (.cells #[] 68) _ rfl : (w1.alloc (.cells #[] 68)).heap[w1.heap.size]? = _), Nat.le_refl _, by decide, by simp, by simp⟩⟩
  have k0 := (BA.cell (p := ⟨w.heap.size, 0, none⟩) lb).trans c0
  have k1 := (BA.cell (p := ⟨w.heap.size, 1, none⟩) lb).trans c1
  have sA := BA.size
  refine hK.out _ _ ⟨k0, k1⟩ (fun hHeld9 => ?_)
  clear hK K hHeld
  have hHeld := hHeld9
  clear hHeld9
  try simp only [Act.put, List.setIfInBounds_toArray, List.set_cons_zero, List.set_cons_succ]
  generalize (w1.alloc (.cells #[] 68)).drew = wa at *
  refine wpAnyH_ready (rs := [3]) (by kernel_rfl) (by simp) ?_
  refine AllReadyH.cons (o := (⟨_, _, _, _, _, _⟩ : Oper)) rfl (fun K hK => ?_) (AllReadyH.nil)
  refine wp_append_wd _ _ rfl w1.heap.size w1.heap.size rfl hE _ _ _ ws rfl (hW0.out.below (B0'.out.trans (BA.mono B0'.out.size))) hz sA ?_
  intro ga ca w2 H2 hc2 B2
  have B12 : Below w1.heap.size w1 w2 := BA.trans B2
  replace k0 := (B12.cell (p := ⟨w.heap.size, 0, none⟩) lb).trans c0
  replace k1 := (B12.cell (p := ⟨w.heap.size, 1, none⟩) lb).trans c1
  refine hK.out _ _ ⟨k0, k1⟩ (fun hHeld9 => ?_)
  clear hK K hHeld
  have hHeld := hHeld9
  clear hHeld9
  try simp only [Act.put, List.setIfInBounds_toArray, List.set_cons_zero, List.set_cons_succ]
  refine wpAnyH_ready (rs := [4]) (by kernel_rfl) (by simp) ?_
  refine AllReadyH.cons (o := (⟨_, _, _, _, _, _⟩ : Oper)) rfl (fun K hK => ?_) (AllReadyH.nil)
  go_simp
  go_at_call 8
  refine (LF.out w2 _ _ H2).mono ?_
  rintro e w3 ⟨va, vc, rfl, I3, B3⟩
  have B13 : Below w1.heap.size w1 w3 := B12.trans (B3.mono B12.size)
  replace k0 := (B13.cell (p := ⟨w.heap.size, 0, none⟩) lb).trans c0
  replace k1 := (B13.cell (p := ⟨w.heap.size, 1, none⟩) lb).trans c1
  try (go_wp2_with fail)
  refine hK.out _ _ ⟨k0, k1⟩ (fun hHeld9 => ?_)
  clear hK K hHeld
  have hHeld := hHeld9
  clear hHeld9
  try simp only [Act.put, List.setIfInBounds_toArray, List.set_cons_zero, List.set_cons_succ]
  refine wpAnyH_take (i := 5) (oi := (⟨_, _, _, _, _, _⟩ : Oper)) (v := ?_) rfl (by kernel_rfl) (by kernel_rfl) (by kernel_rfl) (fun _ _ _ h => h) (Or.inl ⟨by rfl, ?_⟩) (by assumption) ?_
  rotate_left
  · intro w9 hSw
    (try dsimp only at hSw)
    go_simp
    all_goals (with_reducible rfl)
  try simp only [Act.put, List.setIfInBounds_toArray, List.set_cons_zero, List.set_cons_succ]
  refine wpAnyH_take (i := 6) (oi := (⟨_, _, _, _, _, _⟩ : Oper)) (v := ?_) rfl (by kernel_rfl) (by kernel_rfl) (by kernel_rfl) (fun _ _ _ h => h) (Or.inl ⟨by rfl, ?_⟩) (by assumption) ?_
  rotate_left
  · intro w9 hSw
    (try dsimp only at hSw)
    go_simp
    all_goals (with_reducible rfl)
  try simp only [Act.put, List.setIfInBounds_toArray, List.set_cons_zero, List.set_cons_succ]
  refine wpAnyH_take (i := 7) (oi := (⟨_, _, _, _, _, _⟩ : Oper)) (v := ?_) rfl (by kernel_rfl) (by kernel_rfl) (by kernel_rfl) (fun _ _ _ h => h) (Or.inl ⟨by rfl, ?_⟩) (by assumption) ?_
  rotate_left
  · intro w9 hSw
    (try dsimp only at hSw)
    go_simp
    all_goals (with_reducible rfl)
  try simp only [Act.put, List.setIfInBounds_toArray, List.set_cons_zero, List.set_cons_succ]
  refine wpAnyH_take (i := 8) (oi := (⟨_, _, _, _, _, _⟩ : Oper)) (v := ?_) rfl (by kernel_rfl) (by kernel_rfl) (by kernel_rfl) (fun _ _ _ h => h) (Or.inl ⟨by rfl, ?_⟩) (by assumption) ?_
  rotate_left
  · intro w9 hSw
    (try dsimp only at hSw)
    go_simp
    all_goals (with_reducible rfl)
  try simp only [Act.put, List.setIfInBounds_toArray, List.set_cons_zero, List.set_cons_succ]
  refine wpAnyH_take (i := 9) (oi := (⟨_, _, _, _, _, _⟩ : Oper)) (v := ?_) rfl (by kernel_rfl) (by kernel_rfl) (by kernel_rfl) (fun _ _ _ h => h) (Or.inl ⟨by rfl, ?_⟩) (by assumption) ?_
  rotate_left
  · intro w9 hSw
    (try dsimp only at hSw)
    go_simp
    all_goals (with_reducible rfl)
  try simp only [Act.put, List.setIfInBounds_toArray, List.set_cons_zero, List.set_cons_succ]
  refine wpAnyH_done (by kernel_rfl) ?_ _
  have BB : Below w.heap.size w w3 := B0'.out.trans (B13.mono B0'.out.size)
  have R3 := Mr.hid (RF.out w3 BB)
  have l3 := Nat.lt_of_lt_of_le lb B13.size
  replace I3 := Mr.hid I3
  replace BB := Mr.hid BB
  clear hHeld c0 c1 B12 B13 H2 B2 BA hE sA lb LF RF B3
  try clear c0
  go_upto_region 3 with (go_at_call 9; refine R3.out.mono ?_; clear R3; rintro e w4 ⟨va2, vc2, rfl, I4, B4⟩)
  have S4 := Mr.hid (SI.out w4 va va2 vc vc2 (I3.out.below B4) I4)
  have BC := Mr.hid (BB.out.trans (B4.mono BB.out.size))
  have ze : (xe == xe) = true := by simp
  clear k0 k1 l3 B4 I4 SI
  go_wp2_with (first
    | (go_at_call 10; refine S4.out.mono ?_; clear S4; rintro e w5 ⟨rfl, B5⟩; have BD := Mr.hid (BC.out.trans (B5.mono BC.out.size)); clear B5)
    | (go_at_call 11; refine (NU.out _ _).mono ?_; rintro e w99 ⟨rfl, hw99⟩; obtain rfl := hw99.symm))
  go_ret
  exact ⟨by simp, BD.out⟩
end Go.Proofs.Ytkbikhpmfhgjnaa.Dq
