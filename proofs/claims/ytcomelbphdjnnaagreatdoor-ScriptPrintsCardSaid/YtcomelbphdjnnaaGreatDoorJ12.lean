import Derived.Test.YtcomelbphdjnnaaGreatDoorJ11
/-
  SCRIPT: nextLine.
-/
namespace Go.Proofs.YtcomelbphdjnnaaGreatDoor.Sc
open Go.RowKit Mr
set_option linter.unusedVariables false
set_option linter.unusedSimpArgs false
set_option maxRecDepth 100000
theorem fStep_ok : zer fStep ≤ 1 ∧ (∀ x ∈ fStep, x.toNat < 128) := by
  refine ⟨by decide, ?_⟩
  have : fStep.all (fun x => decide (x.toNat < 128)) = true := by decide
  intro x hx
  simpa using List.all_eq_true.1 this x hx
theorem fSteps_ok : zer fSteps ≤ 2 ∧ (∀ x ∈ fSteps, x.toNat < 128) := by
  refine ⟨by decide, ?_⟩
  have : fSteps.all (fun x => decide (x.toNat < 128)) = true := by decide
  intro x hx
  simpa using List.all_eq_true.1 this x hx
/-- What nextLine answers: a line, and what is behind the first k moves. -/
def NxB (g : Nat) (w : World) (ms : List Mv) (n : Nat) (T : ByteArray) (k : Nat) (e : Ending) (w' : World) : Prop :=
  ∃ o' c', e = .returned (.tuple #[.string T, .slice (some ⟨g, o', none⟩) (n - k) c']) ∧ MvAt w' (some ⟨g, o', none⟩) (n - k) (ms.drop k) ∧ n - k ≤ c' ∧ Below w.heap.size w w'
set_option maxHeartbeats 8000000 in
theorem next_0 (m : Mv) (r : List Mv) (g o n c : Nat) (w : World) (E : Env w) (hM : MvAt w (some ⟨g, o, none⟩) n (m :: r)) (hm : MvB m) (hn : n ≤ 1000000000000) (hc : n ≤ c) (hst : stepsOf m.th (m :: r) = 0) :
    Calls Tryz.prog 29 #[.slice (some ⟨g, o, none⟩) n c] w (NxB g w (m :: r) n ⟨(callLn m).toArray⟩ 1) := by
  have hl := hM.1
  have hsa := Mr.hid (stepsAhead_any m r (some ⟨g, o, none⟩) n c)
  obtain ⟨g', o', e', hg, hcl⟩ := hM.2.resolve_left (by simp)
  cases e'
  obtain ⟨c0, c1, c2, c3⟩ := hcl 0 (by simp)
  simp only [Nat.zero_mul, Nat.add_zero, List.getElem?_cons_zero, Option.getD_some] at c0 c1 c2 c3
  have hp : 0 < n := by rw [hl]; simp
  have hpI : (0 : Int) < (n : Int) := by omega
  have hsl := stepsOf_le m.th (m :: r)
  rw [← hl] at hsl
  rw [hst] at hsa hsl
  replace hM := Mr.hid hM
  replace E := Mr.hid E
  have hm' := Mr.hid hm
  clear hl hcl hst hm
  have C := Mr.hid (fun W (hE : Env W) => callLine_any m W hE hm'.out)
  unfold mvV at C
  generalize (⟨(callLn m).toArray⟩ : ByteArray) = T at *
  obtain ⟨th, op, ar, da⟩ := m
  dsimp only at *
  go_enter Tryz.func29, Tryz.ntmps29
  go_upto_region 1 with fail
  go_region_held3 (fun W => W.cell? ⟨g, o, none⟩ = some (.int .i64 th)) (simp [*, go_sem])
    (first | (go_at_call 45; refine (hsa.out _ (hM.out.below (Below.refl _ _).drew) hn).mono ?_; clear hsa; rintro e w1 ⟨rfl, B1⟩; have q0 := (B1.cell (p := ⟨g, o, none⟩) hg).trans c0))
  have BB : Hid (Below w.heap.size w w1) := ((Below.refl _ _).drew).trans (B1.mono (Nat.le_refl _))
  have e0 : w1.cell? ⟨g, o, none⟩ = some (.int .i64 th) := (BB.out.cell (p := ⟨g, _, none⟩) hg).trans c0
  have e1 : w1.cell? ⟨g, o + 1, none⟩ = some (.int .i64 op) := (BB.out.cell (p := ⟨g, _, none⟩) hg).trans c1
  have e2 : w1.cell? ⟨g, o + 2, none⟩ = some (.int .i64 ar) := (BB.out.cell (p := ⟨g, _, none⟩) hg).trans c2
  have e3 : w1.cell? ⟨g, o + 3, none⟩ = some (.int .i64 da) := (BB.out.cell (p := ⟨g, _, none⟩) hg).trans c3
  have hg1 : g < w1.heap.size := Nat.lt_of_lt_of_le hg BB.out.size
  have hE1 : Hid (Env w1) := E.out.below BB.out
  have hM1 : Hid (MvAt w1 (some ⟨g, o, none⟩) n (⟨th, op, ar, da⟩ :: r)) := hM.out.below BB.out
  have hcI : (1 : Int) ≤ (n : Int) := by omega
  have hcJ : (n : Int) ≤ (c : Int) := by omega
  clear B1 q0 c0 c1 c2 c3 hM E hpI
  by_cases hc1 : c = 1
  · subst hc1
    obtain rfl : n = 1 := by omega
    go_upto_region 4 with fail
    go_region_held3 (fun W => W.cell? ⟨g, o, none⟩ = some (.int .i64 th) ∧ W.cell? ⟨g, o + 1, none⟩ = some (.int .i64 op) ∧ W.cell? ⟨g, o + 2, none⟩ = some (.int .i64 ar) ∧ W.cell? ⟨g, o + 3, none⟩ = some (.int .i64 da)) (simp [*, go_sem])
      (first | (go_at_call 46; refine (C.out _ (hE1.out.below (Below.refl _ _).drew)).mono ?_; clear C; rintro e w2 ⟨rfl, B2⟩; have q0 := (B2.cell (p := ⟨g, o, none⟩) hg1).trans e0; have q1 := (B2.cell (p := ⟨g, o + 1, none⟩) hg1).trans e1; have q2 := (B2.cell (p := ⟨g, o + 2, none⟩) hg1).trans e2; have q3 := (B2.cell (p := ⟨g, o + 3, none⟩) hg1).trans e3; have BE : Hid (Below w1.heap.size w1 w2) := ((Below.refl _ _).drew).trans B2))
    all_goals (go_wp2; go_ret2; exact ⟨o, 0, (by first | rfl | (rw [show n - 1 = 0 from by omega]; rfl)), (hM1.out.below BE.out).drop 1 (by omega) _ (fun h => absurd h (by omega)), by omega, BB.out.trans (BE.out.mono BB.out.size)⟩)
  · have hc2 : ¬ (c : Int) = 1 := by omega
    go_upto_region 4 with fail
    go_region_held3 (fun W => W.cell? ⟨g, o, none⟩ = some (.int .i64 th) ∧ W.cell? ⟨g, o + 1, none⟩ = some (.int .i64 op) ∧ W.cell? ⟨g, o + 2, none⟩ = some (.int .i64 ar) ∧ W.cell? ⟨g, o + 3, none⟩ = some (.int .i64 da)) (simp [*, go_sem])
      (first | (go_at_call 46; refine (C.out _ (hE1.out.below (Below.refl _ _).drew)).mono ?_; clear C; rintro e w2 ⟨rfl, B2⟩; have q0 := (B2.cell (p := ⟨g, o, none⟩) hg1).trans e0; have q1 := (B2.cell (p := ⟨g, o + 1, none⟩) hg1).trans e1; have q2 := (B2.cell (p := ⟨g, o + 2, none⟩) hg1).trans e2; have q3 := (B2.cell (p := ⟨g, o + 3, none⟩) hg1).trans e3; have BE : Hid (Below w1.heap.size w1 w2) := ((Below.refl _ _).drew).trans B2))
    all_goals (go_wp2; go_ret2; exact ⟨_, _, rfl, (hM1.out.below BE.out).drop 1 (by omega) _ (fun _ => by simp only [Option.map_some, add1]), by omega, BB.out.trans (BE.out.mono BB.out.size)⟩)
set_option maxHeartbeats 8000000 in
theorem next_1 (m : Mv) (r : List Mv) (g o n c : Nat) (w : World) (E : Env w) (hM : MvAt w (some ⟨g, o, none⟩) n (m :: r)) (hm : MvB m) (hn : n ≤ 1000000000000) (hc : n ≤ c) (hst : stepsOf m.th (m :: r) = 1) :
    Calls Tryz.prog 29 #[.slice (some ⟨g, o, none⟩) n c] w (NxB g w (m :: r) n ⟨(fil fStep [m.th] ++ [10]).toArray⟩ 1) := by
  have hl := hM.1
  have hsa := Mr.hid (stepsAhead_any m r (some ⟨g, o, none⟩) n c)
  obtain ⟨g', o', e', hg, hcl⟩ := hM.2.resolve_left (by simp)
  cases e'
  obtain ⟨c0, c1, c2, c3⟩ := hcl 0 (by simp)
  simp only [Nat.zero_mul, Nat.add_zero, List.getElem?_cons_zero, Option.getD_some] at c0 c1 c2 c3
  have hp : 0 < n := by rw [hl]; simp
  have hpI : (0 : Int) < (n : Int) := by omega
  have hsl := stepsOf_le m.th (m :: r)
  rw [← hl] at hsl
  rw [hst] at hsa hsl
  replace hM := Mr.hid hM
  replace E := Mr.hid E
  have hm' := Mr.hid hm
  clear hl hcl hst hm
  have C : Hid (∀ W (a : Option Addr), Env W → Left W.heap.size W a 1 1 [m.th] → Calls Tryz.prog 28 #[.string ⟨#[48, 32, 46]⟩, .slice a 1 1] W fun e w' => e = .returned (.string ⟨(fil fStep [m.th] ++ [10]).toArray⟩) ∧ Below W.heap.size W w') := fun W a hE hL => filled_any ⟨#[48, 32, 46]⟩ a 1 1 [m.th] W hE hL (by simp; exact hm'.out.1) fStep_ok.1 fStep_ok.2 (by decide)
  generalize (⟨(fil fStep [m.th] ++ [10]).toArray⟩ : ByteArray) = T at *
  obtain ⟨th, op, ar, da⟩ := m
  dsimp only at *
  go_enter Tryz.func29, Tryz.ntmps29
  go_upto_region 1 with fail
  go_region_held3 (fun W => W.cell? ⟨g, o, none⟩ = some (.int .i64 th)) (simp [*, go_sem])
    (first | (go_at_call 45; refine (hsa.out _ (hM.out.below (Below.refl _ _).drew) hn).mono ?_; clear hsa; rintro e w1 ⟨rfl, B1⟩; have q0 := (B1.cell (p := ⟨g, o, none⟩) hg).trans c0))
  have BB : Hid (Below w.heap.size w w1) := ((Below.refl _ _).drew).trans (B1.mono (Nat.le_refl _))
  have e0 : w1.cell? ⟨g, o, none⟩ = some (.int .i64 th) := (BB.out.cell (p := ⟨g, _, none⟩) hg).trans c0
  have e1 : w1.cell? ⟨g, o + 1, none⟩ = some (.int .i64 op) := (BB.out.cell (p := ⟨g, _, none⟩) hg).trans c1
  have e2 : w1.cell? ⟨g, o + 2, none⟩ = some (.int .i64 ar) := (BB.out.cell (p := ⟨g, _, none⟩) hg).trans c2
  have e3 : w1.cell? ⟨g, o + 3, none⟩ = some (.int .i64 da) := (BB.out.cell (p := ⟨g, _, none⟩) hg).trans c3
  have hg1 : g < w1.heap.size := Nat.lt_of_lt_of_le hg BB.out.size
  have hE1 : Hid (Env w1) := E.out.below BB.out
  have hM1 : Hid (MvAt w1 (some ⟨g, o, none⟩) n (⟨th, op, ar, da⟩ :: r)) := hM.out.below BB.out
  have hcI : (1 : Int) ≤ (n : Int) := by omega
  have hcJ : (n : Int) ≤ (c : Int) := by omega
  clear B1 q0 c0 c1 c2 c3 hM E hpI
  by_cases hc1 : c = 1
  · subst hc1
    obtain rfl : n = 1 := by omega
    go_upto_region 6 with fail
    go_region_held3 (fun W => W.cell? ⟨g, o, none⟩ = some (.int .i64 th)) (simp [*, go_sem])
      (first | (go_at_call 28; refine (C.out _ _ (hE1.out.below (((Below.refl _ _).drew).alloc (Nat.le_refl _) _)) (left_new [th] (new_at _ _ _ rfl) rfl)).mono ?_; clear C; rintro e w2 ⟨rfl, B2⟩; have BE : Hid (Below w1.heap.size w1 w2) := (((Below.refl _ _).drew).alloc (Nat.le_refl _) _).trans (B2.mono (by simp)); have q0 := (BE.out.cell (p := ⟨g, o, none⟩) hg1).trans e0))
    all_goals (go_wp2; go_ret2; exact ⟨o, 0, (by first | rfl | (rw [show n - 1 = 0 from by omega]; rfl)), (hM1.out.below BE.out).drop 1 (by omega) _ (fun h => absurd h (by omega)), by omega, BB.out.trans (BE.out.mono BB.out.size)⟩)
  · have hc2 : ¬ (c : Int) = 1 := by omega
    go_upto_region 6 with fail
    go_region_held3 (fun W => W.cell? ⟨g, o, none⟩ = some (.int .i64 th)) (simp [*, go_sem])
      (first | (go_at_call 28; refine (C.out _ _ (hE1.out.below (((Below.refl _ _).drew).alloc (Nat.le_refl _) _)) (left_new [th] (new_at _ _ _ rfl) rfl)).mono ?_; clear C; rintro e w2 ⟨rfl, B2⟩; have BE : Hid (Below w1.heap.size w1 w2) := (((Below.refl _ _).drew).alloc (Nat.le_refl _) _).trans (B2.mono (by simp)); have q0 := (BE.out.cell (p := ⟨g, o, none⟩) hg1).trans e0))
    all_goals (go_wp2; go_ret2; exact ⟨_, _, rfl, (hM1.out.below BE.out).drop 1 (by omega) _ (fun _ => by simp only [Option.map_some, add1]), by omega, BB.out.trans (BE.out.mono BB.out.size)⟩)
set_option maxHeartbeats 8000000 in
theorem next_n (m : Mv) (r : List Mv) (g o n c : Nat) (w : World) (E : Env w) (hM : MvAt w (some ⟨g, o, none⟩) n (m :: r)) (hm : MvB m) (hn : n ≤ 1000000000000) (hc : n ≤ c) (st : Nat) (hs2 : 2 ≤ st) (hst : stepsOf m.th (m :: r) = st) :
    Calls Tryz.prog 29 #[.slice (some ⟨g, o, none⟩) n c] w (NxB g w (m :: r) n ⟨(fil fSteps [m.th, (st : Int)] ++ [10]).toArray⟩ st) := by
  have hl := hM.1
  have hsa := Mr.hid (stepsAhead_any m r (some ⟨g, o, none⟩) n c)
  obtain ⟨g', o', e', hg, hcl⟩ := hM.2.resolve_left (by simp)
  cases e'
  obtain ⟨c0, c1, c2, c3⟩ := hcl 0 (by simp)
  simp only [Nat.zero_mul, Nat.add_zero, List.getElem?_cons_zero, Option.getD_some] at c0 c1 c2 c3
  have hp : 0 < n := by rw [hl]; simp
  have hpI : (0 : Int) < (n : Int) := by omega
  have hsl := stepsOf_le m.th (m :: r)
  rw [← hl] at hsl
  rw [hst] at hsa hsl
  replace hM := Mr.hid hM
  replace E := Mr.hid E
  have hm' := Mr.hid hm
  clear hl hcl hst hm
  have C : Hid (∀ W (a : Option Addr), Env W → Left W.heap.size W a 2 2 [m.th, (st : Int)] → Calls Tryz.prog 28 #[.string ⟨#[48, 32, 46, 32, 48]⟩, .slice a 2 2] W fun e w' => e = .returned (.string ⟨(fil fSteps [m.th, (st : Int)] ++ [10]).toArray⟩) ∧ Below W.heap.size W w') := fun W a hE hL => filled_any ⟨#[48, 32, 46, 32, 48]⟩ a 2 2 [m.th, (st : Int)] W hE hL (by simp; exact ⟨hm'.out.1, by unfold Bd; omega⟩) fSteps_ok.1 fSteps_ok.2 (by decide)
  generalize (⟨(fil fSteps [m.th, (st : Int)] ++ [10]).toArray⟩ : ByteArray) = T at *
  have s1 : ((st : Int) == 0) = false := beq_eq_false_iff_ne.2 (by omega)
  have s2 : ((st : Int) == 1) = false := beq_eq_false_iff_ne.2 (by omega)
  have s3 : ¬ st = 0 := by omega
  have s4 : ¬ st = 1 := by omega
  have s5 : (st : Int) ≤ (n : Int) := by omega
  obtain ⟨th, op, ar, da⟩ := m
  dsimp only at *
  go_enter Tryz.func29, Tryz.ntmps29
  go_upto_region 1 with fail
  go_region_held3 (fun W => W.cell? ⟨g, o, none⟩ = some (.int .i64 th)) (simp [*, go_sem])
    (first | (go_at_call 45; refine (hsa.out _ (hM.out.below (Below.refl _ _).drew) hn).mono ?_; clear hsa; rintro e w1 ⟨rfl, B1⟩; have q0 := (B1.cell (p := ⟨g, o, none⟩) hg).trans c0))
  have BB : Hid (Below w.heap.size w w1) := ((Below.refl _ _).drew).trans (B1.mono (Nat.le_refl _))
  have e0 : w1.cell? ⟨g, o, none⟩ = some (.int .i64 th) := (BB.out.cell (p := ⟨g, _, none⟩) hg).trans c0
  have e1 : w1.cell? ⟨g, o + 1, none⟩ = some (.int .i64 op) := (BB.out.cell (p := ⟨g, _, none⟩) hg).trans c1
  have e2 : w1.cell? ⟨g, o + 2, none⟩ = some (.int .i64 ar) := (BB.out.cell (p := ⟨g, _, none⟩) hg).trans c2
  have e3 : w1.cell? ⟨g, o + 3, none⟩ = some (.int .i64 da) := (BB.out.cell (p := ⟨g, _, none⟩) hg).trans c3
  have hg1 : g < w1.heap.size := Nat.lt_of_lt_of_le hg BB.out.size
  have hE1 : Hid (Env w1) := E.out.below BB.out
  have hM1 : Hid (MvAt w1 (some ⟨g, o, none⟩) n (⟨th, op, ar, da⟩ :: r)) := hM.out.below BB.out
  have hcI : (1 : Int) ≤ (n : Int) := by omega
  have hcJ : (n : Int) ≤ (c : Int) := by omega
  clear B1 q0 c0 c1 c2 c3 hM E hpI
  by_cases hc1 : c = st
  · replace hc1 := hc1.symm; subst hc1
    go_upto_region 7 with fail
    go_region_held3 (fun W => W.cell? ⟨g, o, none⟩ = some (.int .i64 th)) (simp [*, go_sem])
      (first | (go_at_call 28; refine (C.out _ _ (hE1.out.below (((Below.refl _ _).drew).alloc (Nat.le_refl _) _)) (left_new [th, (st : Int)] (new_at _ _ _ rfl) rfl)).mono ?_; clear C; rintro e w2 ⟨rfl, B2⟩; have BE : Hid (Below w1.heap.size w1 w2) := (((Below.refl _ _).drew).alloc (Nat.le_refl _) _).trans (B2.mono (by simp)); have q0 := (BE.out.cell (p := ⟨g, o, none⟩) hg1).trans e0))
    all_goals (go_wp2; go_ret2; exact ⟨o, 0, (by first | rfl | (rw [show n - st = 0 from by omega]; rfl)), (hM1.out.below BE.out).drop st (by omega) _ (fun h => absurd h (by omega)), by omega, BB.out.trans (BE.out.mono BB.out.size)⟩)
  · have hc2 : ¬ (c : Int) = st := by omega
    go_upto_region 7 with fail
    go_region_held3 (fun W => W.cell? ⟨g, o, none⟩ = some (.int .i64 th)) (simp [*, go_sem])
      (first | (go_at_call 28; refine (C.out _ _ (hE1.out.below (((Below.refl _ _).drew).alloc (Nat.le_refl _) _)) (left_new [th, (st : Int)] (new_at _ _ _ rfl) rfl)).mono ?_; clear C; rintro e w2 ⟨rfl, B2⟩; have BE : Hid (Below w1.heap.size w1 w2) := (((Below.refl _ _).drew).alloc (Nat.le_refl _) _).trans (B2.mono (by simp)); have q0 := (BE.out.cell (p := ⟨g, o, none⟩) hg1).trans e0))
    all_goals (go_wp2; go_ret2; exact ⟨_, _, rfl, (hM1.out.below BE.out).drop st (by omega) _ (fun _ => by simp only [Option.map_some, add1]), by omega, BB.out.trans (BE.out.mono BB.out.size)⟩)
theorem nextLine_any (m : Mv) (r : List Mv) (g o n c : Nat) (w : World) (E : Env w) (hM : MvAt w (some ⟨g, o, none⟩) n (m :: r)) (hm : MvB m) (hn : n ≤ 1000000000000) (hc : n ≤ c) :
    Calls Tryz.prog 29 #[.slice (some ⟨g, o, none⟩) n c] w (NxB g w (m :: r) n ⟨(lineOf m r).1.toArray⟩ (lineOf m r).2) := by
  unfold lineOf
  by_cases h0 : stepsOf m.th (m :: r) = 0
  · rw [if_pos h0]; exact next_0 m r g o n c w E hM hm hn hc h0
  · rw [if_neg h0]
    by_cases h1 : stepsOf m.th (m :: r) = 1
    · rw [if_pos h1]; exact next_1 m r g o n c w E hM hm hn hc h1
    · rw [if_neg h1]; exact next_n m r g o n c w E hM hm hn hc _ (by omega) rfl
end Go.Proofs.YtcomelbphdjnnaaGreatDoor.Sc
/-
  SCRIPT: written, Print.
-/
namespace Go.Proofs.YtcomelbphdjnnaaGreatDoor.Sc
open Go.RowKit Mr
set_option linter.unusedVariables false
set_option linter.unusedSimpArgs false
set_option maxRecDepth 100000
theorem fMachine_ok : zer fMachine ≤ 7 ∧ (∀ x ∈ fMachine, x.toNat < 128) := by
  refine ⟨by decide, ?_⟩
  have : fMachine.all (fun x => decide (x.toNat < 128)) = true := by decide
  intro x hx
  simpa using List.all_eq_true.1 this x hx
theorem callLn_len (m : Mv) (h : MvB m) : (callLn m).length ≤ 22000 := by
  obtain ⟨h1, h2, h3, h4⟩ := h
  have ho := fil_len fOp [m.th, m.op, m.arg, m.data] (by simp; exact ⟨h1, h2, h3, h4⟩)
  have e : fOp.length = 10 := rfl
  unfold callLn
  split
  · rename_i k hk
    obtain ⟨hk1, _⟩ := rowOf_some hk
    obtain ⟨_, _, z3, _⟩ := fCall_ok k hk1
    have hf := fil_len (fCall k) [m.th, m.arg, m.data] (by simp; exact ⟨h1, h3, h4⟩)
    split <;> simp <;> omega
  · simp; omega
theorem lineOf_len (m : Mv) (r : List Mv) (h : MvB m) (hr : (m :: r).length ≤ 1000000000000) : (lineOf m r).1.length ≤ 22000 := by
  have h1 := callLn_len m h
  have h2 := fil_len fStep [m.th] (by simp; exact h.1)
  have hl := stepsOf_le m.th (m :: r)
  have h3 := fil_len fSteps [m.th, (stepsOf m.th (m :: r) : Int)] (by simp; exact ⟨h.1, by unfold Bd; omega⟩)
  have e1 : fStep.length = 3 := rfl
  have e2 : fSteps.length = 5 := rfl
  unfold lineOf
  split
  · exact h1
  · split <;> simp <;> omega
set_option maxHeartbeats 8000000 in
theorem written_any (c0 c1 c2 c3 c4 c5 c6 : Int) (a : Option Addr) (n c : Nat) (ms : List Mv) (w : World) (E : Env w) (hM : MvAt w a n ms) (hm : ∀ m ∈ ms, MvB m) (hb : ∀ x ∈ [c0, c1, c2, c3, c4, c5, c6], Bd x) (hn : n ≤ 65536) (hc : n ≤ c) :
    Calls Tryz.prog 14 #[.agg #[.int .i64 c0, .int .i64 c1, .int .i64 c2, .int .i64 c3, .int .i64 c4, .int .i64 c5, .int .i64 c6], .slice a n c] w fun e w' => e = .returned (.string ⟨(prints [c0, c1, c2, c3, c4, c5, c6] ms).toArray⟩) ∧ Below w.heap.size w w' := by
  have hfl := fil_len fMachine [c0, c1, c2, c3, c4, c5, c6] hb
  have el : fMachine.length ≤ 80 := by decide
  have C : Hid (∀ W (a : Option Addr), Env W → Left W.heap.size W a 7 7 [c0, c1, c2, c3, c4, c5, c6] → Calls Tryz.prog 28 #[.string ⟨fMachine.toArray⟩, .slice a 7 7] W fun e w' => e = .returned (.string ⟨(fil fMachine [c0, c1, c2, c3, c4, c5, c6] ++ [10]).toArray⟩) ∧ Below W.heap.size W w') := fun W a hE hL => filled_any ⟨fMachine.toArray⟩ a 7 7 [c0, c1, c2, c3, c4, c5, c6] W hE hL hb fMachine_ok.1 fMachine_ok.2 (by decide)
  obtain ⟨hd, hhd⟩ : ∃ hd, hd = fil fMachine [c0, c1, c2, c3, c4, c5, c6] ++ [10] := ⟨_, rfl⟩
  have hdl : hd.length ≤ 2000 := by rw [hhd]; simp; omega
  rw [← hhd] at C
  have hpr : Hid (prints [c0, c1, c2, c3, c4, c5, c6] ms = hd ++ lines ms) := by show _ = _; unfold prints; rw [hhd]
  rw [hpr.out]
  clear hpr hfl el hhd hb
  replace E := Mr.hid E
  replace hM := Mr.hid hM
  replace hm := Mr.hid hm
  go_enter Tryz.func14, Tryz.ntmps14
  go_upto_region 2 with fail
  have hI0 : Hid (Bl (w.heap.size + 1) (w.heap.size + 1) [] ((w.alloc (.cells #[.int .i64 c0, .int .i64 c1, .int .i64 c2, .int .i64 c3, .int .i64 c4, .int .i64 c5, .int .i64 c6] 23)).alloc (.cells #[.pointer none, .slice none 0 0] 67))) := Mr.hid (by have := Bl.new (w.alloc (.cells #[.int .i64 c0, .int .i64 c1, .int .i64 c2, .int .i64 c3, .int .i64 c4, .int .i64 c5, .int .i64 c6] 23)); simpa using this)
  have B0 : Hid (Below w.heap.size w ((w.alloc (.cells #[.int .i64 c0, .int .i64 c1, .int .i64 c2, .int .i64 c3, .int .i64 c4, .int .i64 c5, .int .i64 c6] 23)).alloc (.cells #[.pointer none, .slice none 0 0] 67))) := ((Below.refl _ _).alloc (Nat.le_refl _) _).alloc (by simp) _
  go_upto_region 3 with (first | (go_at_call 28; refine (C.out _ _ (E.out.below (B0.out.alloc (by simp; omega) _)) (left_new [c0, c1, c2, c3, c4, c5, c6] (new_at _ _ _ (by simp)) rfl)).mono ?_; clear C; rintro e w3 ⟨rfl, B3⟩; have B03 : Hid (Below w.heap.size w w3) := (B0.out.alloc (by simp; omega) _).trans (B3.mono (by simp; omega)); have I3 : Bl (w.heap.size + 1) (w.heap.size + 1) [] w3 := (hI0.out.below (((Below.refl _ _).alloc (Nat.le_refl _) _).trans (B3.mono (by simp)))); have S3 := Mr.hid (writeS_any ⟨hd.toArray⟩ w3 I3 (by simp [ByteArray.size]; omega) (Nat.le_of_lt I3.lt)); clear B3 I3) | (go_at_call 27; refine S3.out.mono ?_; clear S3; rintro e w4 ⟨⟨nw, rfl⟩, I4, B4, -⟩))
  have B04 : Hid (Below w.heap.size w w4) := B03.out.trans (B4.mono (by omega))
  have I4' : Hid (Bl (w.heap.size + 1) (w.heap.size + 1) hd w4) := Mr.hid (by have := I4; simpa using this)
  clear I4 B4 B03 hI0 B0
  go_loopg [1] n (fun gk s1 wr => ∃ (a1 : Option Addr) (c1 : Nat) (rest : List Mv) (acc : List UInt8), s1 = .slice a1 gk c1 ∧ MvAt wr a1 gk rest ∧ (rest ≠ [] → ∀ b off, a1 = some ⟨b, off, none⟩ → b < w.heap.size) ∧ gk ≤ c1 ∧ Bl (w.heap.size + 1) (w.heap.size + 1) acc wr ∧ Below w.heap.size w wr ∧ acc ++ lines rest = hd ++ lines ms ∧ (∀ m ∈ rest, MvB m) ∧ acc.length + 22000 * gk ≤ 2000 + 22000 * n)
  case atStart =>
    refine ⟨a, c, ms, hd, rfl, hM.out.below B04.out, ?_, hc, I4'.out, B04.out, rfl, hm.out, by omega⟩
    intro h0 b off e
    subst e
    rcases hM.out.2 with h | ⟨b', o', e', hl, _⟩
    · exact absurd h h0
    · cases e'; exact hl
  case round =>
    obtain ⟨a1, cc1, rest, acc, rfl, hM1, hab, hcc, hI, hB, hacc, hmr, hal⟩ := hrel
    cases rest with
    | nil =>
      have h0 : gk = 0 := hM1.1
      have hfin : acc = hd ++ lines ms := by rw [← hacc]; simp [lines, linesF]
      have S2 := Mr.hid (string_any wr hI (Nat.le_of_lt hI.lt))
      have hB' := Mr.hid hB
      have hf' := Mr.hid hfin
      subst h0
      clear hM1 hab hcc hI hB hacc hmr hal hfin
      have d0 : decide ((0 : Int) > 0) = false := by decide
      go_wp2_with (go_at_call 30; refine S2.out.mono ?_; clear S2; rintro e w4 ⟨rfl, B4⟩; replace B4 := Mr.hid B4)
      go_ret
      exact ⟨by rw [← hf'.out]; rfl, hB'.out.trans (B4.out.mono (by omega))⟩
    | cons m r =>
      have h0 : gk = (m :: r).length := hM1.1
      obtain ⟨g, o, rfl, hgl, -⟩ := hM1.2.resolve_left (by simp)
      have hg := hab (by simp) g o rfl
      have hgk : gk ≤ 65536 := by omega
      have hmm := hmr m (List.mem_cons_self ..)
      have hEr : Env wr := E.out.below hB
      obtain ⟨p1, p2⟩ := lineOf_pos m r
      have pl := lineOf_len m r hmm (by omega)
      have NL := Mr.hid (nextLine_any m r g o gk cc1 wr hEr hM1 hmm (by omega) hcc)
      have hlc := Mr.hid (lines_cons m r)
      obtain ⟨kk, hkk⟩ : ∃ kk, (lineOf m r).2 = kk := ⟨_, rfl⟩
      obtain ⟨LL, hLL⟩ : ∃ LL, (lineOf m r).1 = LL := ⟨_, rfl⟩
      rw [hkk] at NL hlc p1 p2
      rw [hLL] at NL hlc pl
      rw [← h0] at p2
      have d0 : decide ((gk : Int) > 0) = true := by simp; omega
      have d1 : (0 : Int) < (gk : Int) := by omega
      replace hI := Mr.hid hI
      replace hB := Mr.hid hB
      replace hacc := Mr.hid hacc
      replace hmr := Mr.hid hmr
      replace hal := Mr.hid hal
      clear hM1 hab hkk hLL hEr h0 hmm
      go_upto_region 5 with (go_at_call 29; refine NL.out.mono ?_; clear NL; rintro e w5 ⟨o', c', rfl, hM5, hc5, B5⟩)
      have I5 := hI.out.below B5
      have S5 := Mr.hid (writeS_any ⟨LL.toArray⟩ w5 I5 (by simp [ByteArray.size]; have := hal.out; omega) (Nat.le_of_lt I5.lt))
      replace hM5 := Mr.hid hM5
      replace B5 := Mr.hid B5
      clear I5
      go_wp2_with (go_at_call 27; refine S5.out.mono ?_; clear S5; rintro e w6 ⟨⟨nw, rfl⟩, I6, B6, -⟩; replace I6 := Mr.hid I6; replace B6 := Mr.hid B6)
      go_roundg (gk - kk)
      case measure => omega
      case rel =>
        refine ⟨some ⟨g, o', none⟩, c', (m :: r).drop kk, acc ++ LL, rfl, hM5.out.lower B6.out (fun _ b off e => by cases e; omega), fun _ b off e => (by cases e; exact hg), hc5, ?_, (hB.out.trans (B5.out.mono hB.out.size)).trans (B6.out.mono (by omega)), ?_, fun x hx => hmr.out x (List.mem_of_mem_drop hx), ?_⟩
        · have := I6.out; simpa using this
        · rw [← hacc.out, hlc.out, List.append_assoc]
        · have := hal.out; simp; omega
theorem sz_list (l : List UInt8) : (⟨l.toArray⟩ : ByteArray).size = l.length := by simp [ByteArray.size]
end Go.Proofs.YtcomelbphdjnnaaGreatDoor.Sc
