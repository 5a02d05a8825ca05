import Derived.Test.YtmejblmeaipahaaDoorJ10
/-
  TSO: the program's rules of sets, adds and fences.
-/
namespace Go.Proofs.YtmejblmeaipahaaDoor.Ts
open Go.RowKit Mr
set_option linter.unusedVariables false
set_option linter.unusedSimpArgs false
set_option maxRecDepth 100000
set_option maxHeartbeats 8000000 in
theorem sets_any (s : Sv) (b t : Nat) (o : Int) (i : In) (r : Rg) (cs : Array Value) (w : World) (hA : Ar w b cs) (hE : Enc cs s) (ht : t < 4) (hr : s.rg[t]? = some r) (hrg : 0 ≤ i.rg ∧ i.rg < 4) :
    Calls Tryd.prog 51 #[ptV b t o, i.val] w fun e w' => e = .returned (.bool true) ∧ (∃ cs', Ar w' b cs' ∧ Enc cs' { s with rg := s.rg.set t (r.put i.rg.toNat i.vl) }) ∧ Fr w w' (fun k => k = b) := by
  have R0 : Rl w (bx2 w b t o i) b t o i s := Rl.start hA hE
  obtain ⟨kd, rg, ad, vl, fr, ol, ct⟩ := i
  obtain ⟨rn, hrn⟩ := Int.eq_ofNat_of_zero_le hrg.1
  dsimp only at hrn
  subst hrn
  have hr4 : rn < 4 := by have := hrg.2; dsimp only at this; omega
  have RG : Hid (∀ W : World, Rl w W b t o ⟨kd, (rn : Int), ad, vl, fr, ol, ct⟩ s → Calls Tryd.prog 58 #[ptV b t o, .int .i64 (rn : Int)] W fun e w' => e = .returned (.pointer (some ⟨b, 6 + t * 4 + rn, none⟩)) ∧ Rl w w' b t o ⟨kd, (rn : Int), ad, vl, fr, ol, ct⟩ s ∧ Below W.heap.size W w') := fun W hW => hW.reg ht hr4
  have ST : Hid (∀ (W : World) (x : Int), Rl w W b t o ⟨kd, (rn : Int), ad, vl, fr, ol, ct⟩ s → Rl w (W.setCell ⟨b, 6 + t * 4 + rn, none⟩ (.int .i64 x)) b t o ⟨kd, (rn : Int), ad, vl, fr, ol, ct⟩ { s with rg := s.rg.set t (r.put rn x) }) := fun W x hW => hW.set (by omega) (fun j hj => enc_rg s j t rn r x hr ht hr4)
  have CL : Hid (∀ (W : World), Rl w W b t o ⟨kd, (rn : Int), ad, vl, fr, ol, ct⟩ s → W.cell? ⟨b, 6 + t * 4 + rn, none⟩ = some (.int .i64 (r.get rn))) := fun W hW => (hW.cell (by omega)).trans (by rw [enc_reg hr ht hr4])
  have lb := R0.lb
  have p0 := R0.p0
  have p1 := R0.p1
  have p2 := R0.p2
  have i1 := R0.i1
  have i3 := R0.i3
  dsimp only at i1 i3
  clear hA hE hr hrg
  unfold ptV In.val
  generalize hq : 6 + t * 4 + rn = q at *
  replace hq := Mr.hid hq
  replace R0 := Mr.hid R0
  go_enter Tryd.func51, Tryd.ntmps51
  go_upto_region 1 with fail
  show Code.wp _ _ _ _ (bx2 w b t o ⟨kd, (rn : Int), ad, vl, fr, ol, ct⟩)
  generalize bx2 w b t o ⟨kd, (rn : Int), ad, vl, fr, ol, ct⟩ = w1 at *
  go_region_held3 (fun W => W.cell? ⟨w.heap.size, 0, none⟩ = some (.pointer (some ⟨b, 0, none⟩)) ∧ W.cell? ⟨w.heap.size, 1, none⟩ = some (.int .i64 (t : Int)) ∧ W.cell? ⟨w.heap.size, 2, none⟩ = some (.int .i64 o) ∧ W.cell? ⟨w.heap.size + 1, 1, none⟩ = some (.int .i64 (rn : Int)) ∧ W.cell? ⟨w.heap.size + 1, 3, none⟩ = some (.int .i64 vl)) (simp [*, go_sem])
    (first
      | (go_at_call 58; refine (RG.out _ (by first | exact R0.out | exact R0.out.drew)).mono ?_; clear RG; rintro e w4 ⟨rfl, R4, B4⟩; have q0 := R4.p0; have q1 := R4.p1; have q2 := R4.p2; have j1 := R4.i1; have j3 := R4.i3; dsimp only at j1 j3; have l4 := R4.lbW; have f4 := R4.fz q; have c4 := CL.out _ R4; replace R4 := Mr.hid R4; clear B4))
  all_goals (go_wp2; go_ret; exact ⟨rfl, (ST.out w4 _ R4.out).done⟩)
set_option maxHeartbeats 8000000 in
theorem adds_any (s : Sv) (b t : Nat) (o : Int) (i : In) (r : Rg) (cs : Array Value) (w : World) (hA : Ar w b cs) (hE : Enc cs s) (ht : t < 4) (hr : s.rg[t]? = some r) (hrg : 0 ≤ i.rg ∧ i.rg < 4) :
    Calls Tryd.prog 52 #[ptV b t o, i.val] w fun e w' => e = .returned (.bool true) ∧ (∃ cs', Ar w' b cs' ∧ Enc cs' { s with rg := s.rg.set t (r.put i.rg.toNat (IntKind.i64.wrap (r.get i.rg.toNat + i.vl))) }) ∧ Fr w w' (fun k => k = b) := by
  have R0 : Rl w (bx2 w b t o i) b t o i s := Rl.start hA hE
  obtain ⟨kd, rg, ad, vl, fr, ol, ct⟩ := i
  obtain ⟨rn, hrn⟩ := Int.eq_ofNat_of_zero_le hrg.1
  dsimp only at hrn
  subst hrn
  have hr4 : rn < 4 := by have := hrg.2; dsimp only at this; omega
  have RG : Hid (∀ W : World, Rl w W b t o ⟨kd, (rn : Int), ad, vl, fr, ol, ct⟩ s → Calls Tryd.prog 58 #[ptV b t o, .int .i64 (rn : Int)] W fun e w' => e = .returned (.pointer (some ⟨b, 6 + t * 4 + rn, none⟩)) ∧ Rl w w' b t o ⟨kd, (rn : Int), ad, vl, fr, ol, ct⟩ s ∧ Below W.heap.size W w') := fun W hW => hW.reg ht hr4
  have ST : Hid (∀ (W : World) (x : Int), Rl w W b t o ⟨kd, (rn : Int), ad, vl, fr, ol, ct⟩ s → Rl w (W.setCell ⟨b, 6 + t * 4 + rn, none⟩ (.int .i64 x)) b t o ⟨kd, (rn : Int), ad, vl, fr, ol, ct⟩ { s with rg := s.rg.set t (r.put rn x) }) := fun W x hW => hW.set (by omega) (fun j hj => enc_rg s j t rn r x hr ht hr4)
  have CL : Hid (∀ (W : World), Rl w W b t o ⟨kd, (rn : Int), ad, vl, fr, ol, ct⟩ s → W.cell? ⟨b, 6 + t * 4 + rn, none⟩ = some (.int .i64 (r.get rn))) := fun W hW => (hW.cell (by omega)).trans (by rw [enc_reg hr ht hr4])
  have lb := R0.lb
  have p0 := R0.p0
  have p1 := R0.p1
  have p2 := R0.p2
  have i1 := R0.i1
  have i3 := R0.i3
  dsimp only at i1 i3
  clear hA hE hr hrg
  unfold ptV In.val
  generalize hq : 6 + t * 4 + rn = q at *
  replace hq := Mr.hid hq
  replace R0 := Mr.hid R0
  dsimp only [Int.toNat_natCast]
  generalize hg : r.get rn = rv at *
  replace hg := Mr.hid hg
  go_enter Tryd.func52, Tryd.ntmps52
  go_upto_region 1 with fail
  show Code.wp _ _ _ _ (bx2 w b t o ⟨kd, (rn : Int), ad, vl, fr, ol, ct⟩)
  generalize bx2 w b t o ⟨kd, (rn : Int), ad, vl, fr, ol, ct⟩ = w1 at *
  refine wp_region_held_drew (S := (fun W => W.cell? ⟨w.heap.size, 0, none⟩ = some (.pointer (some ⟨b, 0, none⟩)) ∧ W.cell? ⟨w.heap.size, 1, none⟩ = some (.int .i64 (t : Int)) ∧ W.cell? ⟨w.heap.size, 2, none⟩ = some (.int .i64 o) ∧ W.cell? ⟨w.heap.size + 1, 1, none⟩ = some (.int .i64 (rn : Int)) ∧ W.cell? ⟨w.heap.size + 1, 3, none⟩ = some (.int .i64 vl))) (by kernel_rfl) ⟨p0, p1, p2, i1, i3⟩ (fun hHeld => ?_)
  try simp only [Act.put, List.setIfInBounds_toArray, List.set_cons_zero, List.set_cons_succ]
  refine wpAnyH_take (i := 0) (oi := (⟨_, _, _, _, _, _⟩ : Oper)) (v := ?_) rfl (by kernel_rfl) (by kernel_rfl) (by kernel_rfl) (fun _ _ _ h => h) (Or.inl ⟨by rfl, ?_⟩) (by assumption) ?_
  rotate_left
  · intro w9 hSw
    (try dsimp only at hSw)
    go_simp
    all_goals (with_reducible rfl)
  try simp only [Act.put, List.setIfInBounds_toArray, List.set_cons_zero, List.set_cons_succ]
  refine wpAnyH_take (i := 1) (oi := (⟨_, _, _, _, _, _⟩ : Oper)) (v := ?_) rfl (by kernel_rfl) (by kernel_rfl) (by kernel_rfl) (fun _ _ _ h => h) (Or.inl ⟨by rfl, ?_⟩) (by assumption) ?_
  rotate_left
  · intro w9 hSw
    (try dsimp only at hSw)
    go_simp
    all_goals (with_reducible rfl)
  try simp only [Act.put, List.setIfInBounds_toArray, List.set_cons_zero, List.set_cons_succ]
  refine wpAnyH_take (i := 2) (oi := (⟨_, _, _, _, _, _⟩ : Oper)) (v := ?_) rfl (by kernel_rfl) (by kernel_rfl) (by kernel_rfl) (fun _ _ _ h => h) (Or.inl ⟨by rfl, ?_⟩) (by assumption) ?_
  rotate_left
  · intro w9 hSw
    (try dsimp only at hSw)
    go_simp
    all_goals (with_reducible rfl)
  try simp only [Act.put, List.setIfInBounds_toArray, List.set_cons_zero, List.set_cons_succ]
  refine wpAnyH_take (i := 6) (oi := (⟨_, _, _, _, _, _⟩ : Oper)) (v := ?_) rfl (by kernel_rfl) (by kernel_rfl) (by kernel_rfl) (fun _ _ _ h => h) (Or.inl ⟨by rfl, ?_⟩) (by assumption) ?_
  rotate_left
  · intro w9 hSw
    (try dsimp only at hSw)
    go_simp
    all_goals (with_reducible rfl)
  try simp only [Act.put, List.setIfInBounds_toArray, List.set_cons_zero, List.set_cons_succ]
  refine wpAnyH_take (i := 7) (oi := (⟨_, _, _, _, _, _⟩ : Oper)) (v := ?_) rfl (by kernel_rfl) (by kernel_rfl) (by kernel_rfl) (fun _ _ _ h => h) (Or.inl ⟨by rfl, ?_⟩) (by assumption) ?_
  rotate_left
  · intro w9 hSw
    (try dsimp only at hSw)
    go_simp
    all_goals (with_reducible rfl)
  try simp only [Act.put, List.setIfInBounds_toArray, List.set_cons_zero, List.set_cons_succ]
  refine wpAnyH_ready (rs := [3]) (by kernel_rfl) (by simp) ?_
  refine AllReadyH.cons (o := (⟨_, _, _, _, _, _⟩ : Oper)) rfl (fun K hK => ?_) (AllReadyH.nil)
  go_simp
  go_at_call 58
  refine (RG.out _ R0.out.drew).mono ?_
  clear RG
  rintro e w4 ⟨rfl, R4, B4⟩
  have q0 := R4.p0
  have q1 := R4.p1
  have q2 := R4.p2
  have j1 := R4.i1
  have j3 := R4.i3
  dsimp only at j1 j3
  have l4 := R4.lbW
  have f4 := R4.fz q
  have c4 := CL.out _ R4
  replace R4 := Mr.hid R4
  clear B4
  try (go_wp2_with fail)
  refine hK.out _ _ ⟨q0, q1, q2, j1, j3⟩ (fun hHeld9 => ?_)
  clear hK K hHeld
  have hHeld := hHeld9
  clear hHeld9
  try simp only [Act.put, List.setIfInBounds_toArray, List.set_cons_zero, List.set_cons_succ]
  refine wpAnyH_take (i := 4) (oi := (⟨_, _, _, _, _, _⟩ : Oper)) (v := ?_) rfl (by kernel_rfl) (by kernel_rfl) (by kernel_rfl) (fun _ _ _ h => h) (Or.inl ⟨by rfl, ?_⟩) (by assumption) ?_
  rotate_left
  · intro w9 hSw
    (try dsimp only at hSw)
    go_simp
    all_goals (with_reducible rfl)
  try simp only [Act.put, List.setIfInBounds_toArray, List.set_cons_zero, List.set_cons_succ]
  refine wpAnyH_ready (rs := [5]) (by kernel_rfl) (by simp) ?_
  refine AllReadyH.cons (o := (⟨_, _, _, _, _, _⟩ : Oper)) rfl (fun K hK => ?_) (AllReadyH.nil)
  go_simp
  refine hK.out _ _ ⟨q0, q1, q2, j1, j3⟩ (fun hHeld9 => ?_)
  clear hK K hHeld
  have hHeld := hHeld9
  clear hHeld9
  try simp only [Act.put, List.setIfInBounds_toArray, List.set_cons_zero, List.set_cons_succ]
  refine wpAnyH_take (i := 8) (oi := (⟨_, _, _, _, _, _⟩ : Oper)) (v := ?_) rfl (by kernel_rfl) (by kernel_rfl) (by kernel_rfl) (fun _ _ _ h => h) (Or.inl ⟨by rfl, ?_⟩) (by assumption) ?_
  rotate_left
  · intro w9 hSw
    (try dsimp only at hSw)
    go_simp
    all_goals (with_reducible rfl)
  try simp only [Act.put, List.setIfInBounds_toArray, List.set_cons_zero, List.set_cons_succ]
  refine wpAnyH_take (i := 9) (oi := (⟨_, _, _, _, _, _⟩ : Oper)) (v := ?_) rfl (by kernel_rfl) (by kernel_rfl) (by kernel_rfl) (fun _ _ _ h => h) (Or.inl ⟨by rfl, ?_⟩) (by assumption) ?_
  rotate_left
  · intro w9 hSw
    (try dsimp only at hSw)
    go_simp
    all_goals (with_reducible rfl)
  try simp only [Act.put, List.setIfInBounds_toArray, List.set_cons_zero, List.set_cons_succ]
  refine wpAnyH_ready (rs := [10]) (by kernel_rfl) (by simp) ?_
  refine AllReadyH.cons (o := (⟨_, _, _, _, _, _⟩ : Oper)) rfl (fun K hK => ?_) (AllReadyH.nil)
  have R5 := ST.out w4 (IntKind.i64.wrap (rv + vl)) R4.out
  have k0 := R5.p0
  have k1 := R5.p1
  have k2 := R5.p2
  have k3 := R5.i1
  have k4 := R5.i3
  dsimp only at k3 k4
  replace R5 := Mr.hid R5
  go_simp
  refine hK.out _ _ ⟨k0, k1, k2, k3, k4⟩ (fun hHeld9 => ?_)
  clear hK K hHeld
  have hHeld := hHeld9
  clear hHeld9
  try simp only [Act.put, List.setIfInBounds_toArray, List.set_cons_zero, List.set_cons_succ]
  refine wpAnyH_done (by kernel_rfl) ?_ _
  clear hHeld k0 k1 k2 k3 k4
  go_wp2
  go_ret
  exact ⟨rfl, R5.out.done⟩
set_option maxHeartbeats 8000000 in
theorem fences_any (s : Sv) (b t : Nat) (o : Int) (i : In) (bf : List Pd) (cs : Array Value) (w : World) (hA : Ar w b cs) (hE : Enc cs s) (ht : t < 4) (hb : s.bf[t]? = some bf) :
    Calls Tryd.prog 50 #[ptV b t o, i.val] w fun e w' => e = .returned (.bool (!decide (0 < bf.length))) ∧ (∃ cs', Ar w' b cs' ∧ Enc cs' s) ∧ Fr w w' (fun k => k = b) := by
  have R0 : Rl w (bx2 w b t o i) b t o i s := Rl.start hA hE
  have WT := Mr.hid (R0.isWaiting ht hb)
  have p0 := R0.p0
  have p1 := R0.p1
  have p2 := R0.p2
  obtain ⟨kd, rg, ad, vl, fr, ol, ct⟩ := i
  clear hA hE hb R0
  unfold ptV at WT
  unfold ptV In.val
  generalize decide (0 < bf.length) = d at *
  unfold bx2 at p0 p1 p2 WT
  go_enter Tryd.func50, Tryd.ntmps50
  go_wp2_with (go_at_call 59; refine WT.out.mono ?_; clear WT; rintro e w9 ⟨rfl, R9, B9⟩; clear B9; replace R9 := Mr.hid R9)
  go_ret
  exact ⟨rfl, R9.out.done⟩
end Go.Proofs.YtmejblmeaipahaaDoor.Ts
/-
  TSO: a store joins a thread's buffer, and leaves it.
-/
namespace Go.Proofs.YtmejblmeaipahaaDoor.Ts
open Go.RowKit Mr
set_option linter.unusedVariables false
set_option linter.unusedSimpArgs false
set_option maxRecDepth 100000
theorem Enc.set3 {cs : Array Value} {s s' : Sv} {i1 i2 i3 : Nat} {v1 v2 v3 : Int} (h : Enc cs s) (he : ∀ j, j < 118 → enc s' j = if j = i3 then v3 else if j = i2 then v2 else if j = i1 then v1 else enc s j) : Enc (((cs.setIfInBounds i1 (.int .i64 v1)).setIfInBounds i2 (.int .i64 v2)).setIfInBounds i3 (.int .i64 v3)) s' := by
  refine ⟨by simp [h.1], fun j hj => ?_⟩
  rw [he j hj]
  by_cases e3 : j = i3
  · subst e3; simp [Array.getElem?_setIfInBounds, h.1, hj]
  · rw [if_neg e3, Array.getElem?_setIfInBounds_ne (Ne.symm e3)]
    by_cases e2 : j = i2
    · subst e2; simp [Array.getElem?_setIfInBounds, h.1, hj]
    · rw [if_neg e2, Array.getElem?_setIfInBounds_ne (Ne.symm e2)]
      by_cases e1 : j = i1
      · subst e1; simp [Array.getElem?_setIfInBounds, h.1, hj]
      · rw [if_neg e1, Array.getElem?_setIfInBounds_ne (Ne.symm e1)]; exact h.2 j hj
theorem enc_join (s : Sv) (j t : Nat) (b : List Pd) (p : Pd) (hb : s.bf[t]? = some b) (ht : t < 4) (hbl : b.length ≤ 10) : enc { s with bf := s.bf.set t (b ++ [p]) } j = if j = 26 + t then ((b.length : Int) + 1) else if j = 30 + t * 22 + (2 * b.length + 1) then p.vl else if j = 30 + t * 22 + 2 * b.length then p.ad else enc s j := by
  have hl := (List.getElem?_eq_some_iff.1 hb).1
  rw [enc_bf s j t _ hl ht]
  by_cases e : j = 26 + t
  · rw [if_pos e, if_pos e]; simp
  · rw [if_neg e, if_neg e]
    by_cases r : 30 + t * 22 ≤ j ∧ j < 30 + t * 22 + 22
    · rw [if_pos r, bfC_join]
      by_cases e1 : j - (30 + t * 22) = 2 * b.length
      · rw [if_pos e1, if_neg (by omega), if_pos (by omega)]
      · rw [if_neg e1]
        by_cases e2 : j - (30 + t * 22) = 2 * b.length + 1
        · rw [if_pos e2, if_pos (by omega)]
        · rw [if_neg e2, if_neg (by omega), if_neg (by omega)]
          simp only [enc, show ¬ j < 6 by omega, show ¬ j < 22 by omega, show ¬ j < 26 by omega, show ¬ j < 30 by omega, if_false, show (j - 30) / 22 = t by omega, show (j - 30) % 22 = j - (30 + t * 22) by omega, hb, bsC]
    · rw [if_neg r, if_neg (by omega), if_neg (by omega)]
set_option maxHeartbeats 8000000 in
theorem join_any (s : Sv) (b t : Nat) (ad vl : Int) (bf : List Pd) (cs : Array Value) (w : World) (hA : Ar w b cs) (hE : Enc cs s) (ht : t < 4) (hb : s.bf[t]? = some bf) (hbl : bf.length ≤ 10) :
    Calls Tryd.prog 46 #[.pointer (some ⟨b, 0, none⟩), .int .i64 (t : Int), .agg #[.int .i64 ad, .int .i64 vl]] w fun e w' => e = .returned (.tuple #[]) ∧ (∃ cs', Ar w' b cs' ∧ Enc cs' { s with bf := s.bf.set t (bf ++ [⟨ad, vl⟩]) }) ∧ Fr w w' (fun k => k = b) := by
  have B0 : Below w.heap.size w (w.alloc (.cells #[.int .i64 ad, .int .i64 vl] 70)) := (Below.refl _ _).alloc (Nat.le_refl _) _
  have hbx : (w.alloc (.cells #[.int .i64 ad, .int .i64 vl] 70)).heap[w.heap.size]? = some (.cells #[.int .i64 ad, .int .i64 vl] 70 (0, 0)) := new_at _ _ _ rfl
  have hA1 := hA.below B0
  have lb := (Array.getElem?_eq_some_iff.1 hA.1).1
  have la := (Array.getElem?_eq_some_iff.1 hA1.1).1
  have y0 := cell_blk hbx 0
  have y1 := cell_blk hbx 1
  have hfz : ∀ k, (w.alloc (.cells #[.int .i64 ad, .int .i64 vl] 70)).frozen? ⟨b, k, none⟩ = false := fun k => by unfold World.frozen?; rw [hA1.1]; rfl
  have cn := (cell_blk hA1.1 _).trans (hE.len hb ht)
  have cc : ∀ k, k < 118 → ∃ u, (w.alloc (.cells #[.int .i64 ad, .int .i64 vl] 70)).cell? ⟨b, k, none⟩ = some (.int .i64 u) := fun k hk => ⟨_, (cell_blk hA1.1 k).trans (hE.2 k hk)⟩
  have BU := Mr.hid (fun (W : World) (cs : Array Value) (h : Ar W b cs) => buffer_any b t cs W h ht)
  have WT := Mr.hid (fun (W : World) (cs : Array Value) (h : Ar W b cs) => waits_any b t cs W h ht)
  obtain ⟨n, hn⟩ : ∃ n, n = bf.length := ⟨_, rfl⟩
  obtain ⟨m, hm⟩ : ∃ m : Nat, m = 2 * n := ⟨_, rfl⟩
  obtain ⟨m1, hm1⟩ : ∃ m1 : Nat, m1 = 2 * n + 1 := ⟨_, rfl⟩
  have hen : Hid (Enc (((cs.setIfInBounds (30 + t * 22 + m) (.int .i64 ad)).setIfInBounds (30 + t * 22 + m1) (.int .i64 vl)).setIfInBounds (26 + t) (.int .i64 ((n : Int) + 1))) { s with bf := s.bf.set t (bf ++ [⟨ad, vl⟩]) }) := hE.set3 (fun j hj => by
    rw [enc_join s j t bf ⟨ad, vl⟩ hb ht hbl, hm, hm1, hn])
  rw [← hn] at cn hbl
  have hw1 : IntKind.i64.wrap (2 * (n : Int)) = (m : Int) := (i64x _ (by omega) (by omega)).trans (by omega)
  have hw2 : IntKind.i64.wrap ((m : Int) + 1) = (m1 : Int) := (i64x _ (by omega) (by omega)).trans (by omega)
  have hw3 : IntKind.i64.wrap ((n : Int) + 1) = (n : Int) + 1 := i64x _ (by omega) (by omega)
  have l1 : (m : Int) < 22 := by omega
  have l2 : (m1 : Int) < 22 := by omega
  obtain ⟨u0, k0⟩ := cc (30 + t * 22 + m) (by omega)
  obtain ⟨u1, k1⟩ := cc (30 + t * 22 + m1) (by omega)
  have d1 : ¬ 30 + t * 22 + m = 30 + t * 22 + m1 := by omega
  have d2 : ¬ 26 + t = 30 + t * 22 + m := by omega
  have d3 : ¬ 26 + t = 30 + t * 22 + m1 := by omega
  have hbH : b ≠ w.heap.size := by omega
  clear hA hE hb cc hbx
  generalize hq : 30 + t * 22 = q at *
  generalize hq' : 26 + t = q' at *
  replace hq := Mr.hid hq
  replace hq' := Mr.hid hq'
  replace hm := Mr.hid hm
  replace hm1 := Mr.hid hm1
  replace hn := Mr.hid hn
  replace hbl := Mr.hid hbl
  replace B0 := Mr.hid B0
  replace d1 := Mr.hid d1
  replace d2 := Mr.hid d2
  replace d3 := Mr.hid d3
  have BU1 := Mr.hid (BU.out _ _ hA1)
  have WT1 := Mr.hid (WT.out _ _ hA1)
  replace hA1 := Mr.hid hA1
  go_enter Tryd.func46, Tryd.ntmps46
  go_upto_region 1 with fail
  generalize w.alloc (.cells #[.int .i64 ad, .int .i64 vl] 70) = w1 at *
  go_region_held3 (fun W => W.cell? ⟨b, q', none⟩ = some (.int .i64 (n : Int))) (simp [*, go_sem])
    (first
      | (go_at_call 55; refine (BU.out _ cs (hA1.out.below (Below.refl _ _).drew)).mono ?_; rintro e w9 ⟨rfl, hw9⟩; obtain rfl := hw9.symm)
      | (go_at_call 41; refine (WT.out _ cs (hA1.out.below (Below.refl _ _).drew)).mono ?_; rintro e w9 ⟨rfl, hw9⟩; obtain rfl := hw9.symm))
  all_goals
    go_upto_region 2 with fail
    have n1 : ¬ m = m1 := by have := d1.out; omega
    have n2 : ¬ m1 = m := by have := d1.out; omega
    go_region_held3 (fun W => W.cell? ⟨w.heap.size, 0, none⟩ = some (.int .i64 ad) ∧ W.cell? ⟨w.heap.size, 1, none⟩ = some (.int .i64 vl)) (simp [*, go_sem]) (fail)
    have hA3 : Ar (((w1.setCell ⟨b, q + m, none⟩ (.int .i64 ad)).setCell ⟨b, q + m1, none⟩ (.int .i64 vl)).drew.drew) b ((cs.setIfInBounds (q + m) (.int .i64 ad)).setIfInBounds (q + m1) (.int .i64 vl)) := ((hA1.out.set _ _).set _ _).below (((Below.refl _ _).drew).drew)
    have hF3 : Hid (Fr w (((w1.setCell ⟨b, q + m, none⟩ (.int .i64 ad)).setCell ⟨b, q + m1, none⟩ (.int .i64 vl)).drew.drew) (fun k => k = b)) := (((((Fr.of_below (S := fun k => k = b) B0.out).setCell ⟨b, q + m, none⟩ (.int .i64 ad) (.inl rfl)).setCell ⟨b, q + m1, none⟩ (.int .i64 vl) (.inl rfl)).drew).drew : Fr w (((w1.setCell ⟨b, q + m, none⟩ (.int .i64 ad)).setCell ⟨b, q + m1, none⟩ (.int .i64 vl)).drew.drew) (fun k => k = b))
    have c3 : (((w1.setCell ⟨b, q + m, none⟩ (.int .i64 ad)).setCell ⟨b, q + m1, none⟩ (.int .i64 vl)).drew.drew).cell? ⟨b, q', none⟩ = some (.int .i64 (n : Int)) := by
      rw [cell_blk hA3.1 q', Array.getElem?_setIfInBounds_ne (Ne.symm d3.out), Array.getElem?_setIfInBounds_ne (Ne.symm d2.out), ← cell_blk hA1.out.1 q']
      exact cn
    have f3 : (((w1.setCell ⟨b, q + m, none⟩ (.int .i64 ad)).setCell ⟨b, q + m1, none⟩ (.int .i64 vl)).drew.drew).frozen? ⟨b, q', none⟩ = false := by unfold World.frozen?; rw [hA3.1]; rfl
    have l3 := (Array.getElem?_eq_some_iff.1 hA3.1).1
    have W3 := Mr.hid (WT.out _ _ hA3)
    have hfin : Hid ((∃ cs', Ar ((((w1.setCell ⟨b, q + m, none⟩ (.int .i64 ad)).setCell ⟨b, q + m1, none⟩ (.int .i64 vl)).drew.drew).setCell ⟨b, q', none⟩ (.int .i64 ((n : Int) + 1))) b cs' ∧ Enc cs' { s with bf := s.bf.set t (bf ++ [⟨ad, vl⟩]) }) ∧ Fr w ((((w1.setCell ⟨b, q + m, none⟩ (.int .i64 ad)).setCell ⟨b, q + m1, none⟩ (.int .i64 vl)).drew.drew).setCell ⟨b, q', none⟩ (.int .i64 ((n : Int) + 1))) (fun k => k = b)) := ⟨⟨_, hA3.set _ _, hen.out⟩, hF3.out.setCell _ _ (.inl rfl)⟩
    clear hA3 hF3 k0 k1 y0 y1 cn hfz
    generalize (((w1.setCell ⟨b, q + m, none⟩ (.int .i64 ad)).setCell ⟨b, q + m1, none⟩ (.int .i64 vl)).drew.drew) = w3 at *
    go_wp2_with (go_at_call 41; refine W3.out.mono ?_; clear W3; rintro e w9 ⟨rfl, hw9⟩; obtain rfl := hw9.symm)
    exact ⟨rfl, .tuple #[], by simp [results, Tryd.results46, go_sem], rfl, hfin.out⟩
end Go.Proofs.YtmejblmeaipahaaDoor.Ts
