/-
  SCRIPT: nextLine.
-/
import Derived.Test.YtfhkgeoionkonaaGreatDoorScNext
namespace Go.Proofs.YtfhkgeoionkonaaGreatDoor.Sc
open Go.RowKit Mr
set_option linter.unusedVariables false
set_option linter.unusedSimpArgs false
set_option maxRecDepth 100000
theorem fStep_ok : zer fStep ≤ 1 ∧ (∀ x ∈ fStep, x.toNat < 128) := by
  refine ⟨by decide, ?_⟩
  have : fStep.all (fun x => decide (x.toNat < 128)) = true := by decide
  intro x hx
  simpa using List.all_eq_true.1 this x hx
theorem fSteps_ok : zer fSteps ≤ 2 ∧ (∀ x ∈ fSteps, x.toNat < 128) := by
  refine ⟨by decide, ?_⟩
  have : fSteps.all (fun x => decide (x.toNat < 128)) = true := by decide
  intro x hx
  simpa using List.all_eq_true.1 this x hx
/-- What nextLine answers: a line, and what is behind the first k moves. -/
def NxB (g : Nat) (w : World) (ms : List Mv) (n : Nat) (T : ByteArray) (k : Nat) (e : Ending) (w' : World) : Prop :=
  ∃ o' c', e = .returned (.tuple #[.string T, .slice (some ⟨g, o', none⟩) (n - k) c']) ∧ MvAt w' (some ⟨g, o', none⟩) (n - k) (ms.drop k) ∧ n - k ≤ c' ∧ Below w.heap.size w w'
set_option maxHeartbeats 8000000 in
theorem next_0 (m : Mv) (r : List Mv) (g o n c : Nat) (w : World) (E : Env w) (hM : MvAt w (some ⟨g, o, none⟩) n (m :: r)) (hm : MvB m) (hn : n ≤ 1000000000000) (hc : n ≤ c) (hst : stepsOf m.th (m :: r) = 0) :
    Calls Tryz.prog 35 #[.slice (some ⟨g, o, none⟩) n c] w (NxB g w (m :: r) n ⟨(callLn m).toArray⟩ 1) := by
  have hl := hM.1
  have hsa := Mr.hid (stepsAhead_any m r (some ⟨g, o, none⟩) n c)
  obtain ⟨g', o', e', hg, hcl⟩ := hM.2.resolve_left (by simp)
  cases e'
  obtain ⟨c0, c1, c2, c3⟩ := hcl 0 (by simp)
  simp only [Nat.zero_mul, Nat.add_zero, List.getElem?_cons_zero, Option.getD_some] at c0 c1 c2 c3
  have hp : 0 < n := by rw [hl]; simp
  have hpI : (0 : Int) < (n : Int) := by omega
  have hsl := stepsOf_le m.th (m :: r)
  rw [← hl] at hsl
  rw [hst] at hsa hsl
  replace hM := Mr.hid hM
  replace E := Mr.hid E
  have hm' := Mr.hid hm
  clear hl hcl hst hm
  have C := Mr.hid (fun W (hE : Env W) => callLine_any m W hE hm'.out)
  unfold mvV at C
  generalize (⟨(callLn m).toArray⟩ : ByteArray) = T at *
  obtain ⟨th, op, ar, da⟩ := m
  dsimp only at *
  go_enter Tryz.func35, Tryz.ntmps35
  go_upto_region 1 with fail
  go_region_held3 (fun W => W.cell? ⟨g, o, none⟩ = some (.int .i64 th)) (simp [*, go_sem])
    (first | (go_at_call 50; refine (hsa.out _ (hM.out.below (Below.refl _ _).drew) hn).mono ?_; clear hsa; rintro e w1 ⟨rfl, B1⟩; have q0 := (B1.cell (p := ⟨g, o, none⟩) hg).trans c0))
  have BB : Hid (Below w.heap.size w w1) := ((Below.refl _ _).drew).trans (B1.mono (Nat.le_refl _))
  have e0 : w1.cell? ⟨g, o, none⟩ = some (.int .i64 th) := (BB.out.cell (p := ⟨g, _, none⟩) hg).trans c0
  have e1 : w1.cell? ⟨g, o + 1, none⟩ = some (.int .i64 op) := (BB.out.cell (p := ⟨g, _, none⟩) hg).trans c1
  have e2 : w1.cell? ⟨g, o + 2, none⟩ = some (.int .i64 ar) := (BB.out.cell (p := ⟨g, _, none⟩) hg).trans c2
  have e3 : w1.cell? ⟨g, o + 3, none⟩ = some (.int .i64 da) := (BB.out.cell (p := ⟨g, _, none⟩) hg).trans c3
  have hg1 : g < w1.heap.size := Nat.lt_of_lt_of_le hg BB.out.size
  have hE1 : Hid (Env w1) := E.out.below BB.out
  have hM1 : Hid (MvAt w1 (some ⟨g, o, none⟩) n (⟨th, op, ar, da⟩ :: r)) := hM.out.below BB.out
  have hcI : (1 : Int) ≤ (n : Int) := by omega
  have hcJ : (n : Int) ≤ (c : Int) := by omega
  clear B1 q0 c0 c1 c2 c3 hM E hpI
  by_cases hc1 : c = 1
  · subst hc1
    obtain rfl : n = 1 := by omega
    go_upto_region 4 with fail
    go_region_held3 (fun W => W.cell? ⟨g, o, none⟩ = some (.int .i64 th) ∧ W.cell? ⟨g, o + 1, none⟩ = some (.int .i64 op) ∧ W.cell? ⟨g, o + 2, none⟩ = some (.int .i64 ar) ∧ W.cell? ⟨g, o + 3, none⟩ = some (.int .i64 da)) (simp [*, go_sem])
      (first | (go_at_call 51; refine (C.out _ (hE1.out.below (Below.refl _ _).drew)).mono ?_; clear C; rintro e w2 ⟨rfl, B2⟩; have q0 := (B2.cell (p := ⟨g, o, none⟩) hg1).trans e0; have q1 := (B2.cell (p := ⟨g, o + 1, none⟩) hg1).trans e1; have q2 := (B2.cell (p := ⟨g, o + 2, none⟩) hg1).trans e2; have q3 := (B2.cell (p := ⟨g, o + 3, none⟩) hg1).trans e3; have BE : Hid (Below w1.heap.size w1 w2) := ((Below.refl _ _).drew).trans B2))
    all_goals (go_wp2; go_ret2; exact ⟨o, 0, (by first | rfl | (rw [show n - 1 = 0 from by omega]; rfl)), (hM1.out.below BE.out).drop 1 (by omega) _ (fun h => absurd h (by omega)), by omega, BB.out.trans (BE.out.mono BB.out.size)⟩)
  · have hc2 : ¬ (c : Int) = 1 := by omega
    go_upto_region 4 with fail
    go_region_held3 (fun W => W.cell? ⟨g, o, none⟩ = some (.int .i64 th) ∧ W.cell? ⟨g, o + 1, none⟩ = some (.int .i64 op) ∧ W.cell? ⟨g, o + 2, none⟩ = some (.int .i64 ar) ∧ W.cell? ⟨g, o + 3, none⟩ = some (.int .i64 da)) (simp [*, go_sem])
      (first | (go_at_call 51; refine (C.out _ (hE1.out.below (Below.refl _ _).drew)).mono ?_; clear C; rintro e w2 ⟨rfl, B2⟩; have q0 := (B2.cell (p := ⟨g, o, none⟩) hg1).trans e0; have q1 := (B2.cell (p := ⟨g, o + 1, none⟩) hg1).trans e1; have q2 := (B2.cell (p := ⟨g, o + 2, none⟩) hg1).trans e2; have q3 := (B2.cell (p := ⟨g, o + 3, none⟩) hg1).trans e3; have BE : Hid (Below w1.heap.size w1 w2) := ((Below.refl _ _).drew).trans B2))
    all_goals (go_wp2; go_ret2; exact ⟨_, _, rfl, (hM1.out.below BE.out).drop 1 (by omega) _ (fun _ => by simp only [Option.map_some, add1]), by omega, BB.out.trans (BE.out.mono BB.out.size)⟩)
set_option maxHeartbeats 8000000 in
theorem next_1 (m : Mv) (r : List Mv) (g o n c : Nat) (w : World) (E : Env w) (hM : MvAt w (some ⟨g, o, none⟩) n (m :: r)) (hm : MvB m) (hn : n ≤ 1000000000000) (hc : n ≤ c) (hst : stepsOf m.th (m :: r) = 1) :
    Calls Tryz.prog 35 #[.slice (some ⟨g, o, none⟩) n c] w (NxB g w (m :: r) n ⟨(fil fStep [m.th] ++ [10]).toArray⟩ 1) := by
  have hl := hM.1
  have hsa := Mr.hid (stepsAhead_any m r (some ⟨g, o, none⟩) n c)
  obtain ⟨g', o', e', hg, hcl⟩ := hM.2.resolve_left (by simp)
  cases e'
  obtain ⟨c0, c1, c2, c3⟩ := hcl 0 (by simp)
  simp only [Nat.zero_mul, Nat.add_zero, List.getElem?_cons_zero, Option.getD_some] at c0 c1 c2 c3
  have hp : 0 < n := by rw [hl]; simp
  have hpI : (0 : Int) < (n : Int) := by omega
  have hsl := stepsOf_le m.th (m :: r)
  rw [← hl] at hsl
  rw [hst] at hsa hsl
  replace hM := Mr.hid hM
  replace E := Mr.hid E
  have hm' := Mr.hid hm
  clear hl hcl hst hm
  have C : Hid (∀ W (a : Option Addr), Env W → Left W.heap.size W a 1 1 [m.th] → Calls Tryz.prog 34 #[.string ⟨#[48, 32, 46]⟩, .slice a 1 1] W fun e w' => e = .returned (.string ⟨(fil fStep [m.th] ++ [10]).toArray⟩) ∧ Below W.heap.size W w') := fun W a hE hL => filled_any ⟨#[48, 32, 46]⟩ a 1 1 [m.th] W hE hL (by simp; exact hm'.out.1) fStep_ok.1 fStep_ok.2 (by decide)
  generalize (⟨(fil fStep [m.th] ++ [10]).toArray⟩ : ByteArray) = T at *
  obtain ⟨th, op, ar, da⟩ := m
  dsimp only at *
  go_enter Tryz.func35, Tryz.ntmps35
  go_upto_region 1 with fail
  go_region_held3 (fun W => W.cell? ⟨g, o, none⟩ = some (.int .i64 th)) (simp [*, go_sem])
    (first | (go_at_call 50; refine (hsa.out _ (hM.out.below (Below.refl _ _).drew) hn).mono ?_; clear hsa; rintro e w1 ⟨rfl, B1⟩; have q0 := (B1.cell (p := ⟨g, o, none⟩) hg).trans c0))
  have BB : Hid (Below w.heap.size w w1) := ((Below.refl _ _).drew).trans (B1.mono (Nat.le_refl _))
  have e0 : w1.cell? ⟨g, o, none⟩ = some (.int .i64 th) := (BB.out.cell (p := ⟨g, _, none⟩) hg).trans c0
  have e1 : w1.cell? ⟨g, o + 1, none⟩ = some (.int .i64 op) := (BB.out.cell (p := ⟨g, _, none⟩) hg).trans c1
  have e2 : w1.cell? ⟨g, o + 2, none⟩ = some (.int .i64 ar) := (BB.out.cell (p := ⟨g, _, none⟩) hg).trans c2
  have e3 : w1.cell? ⟨g, o + 3, none⟩ = some (.int .i64 da) := (BB.out.cell (p := ⟨g, _, none⟩) hg).trans c3
  have hg1 : g < w1.heap.size := Nat.lt_of_lt_of_le hg BB.out.size
  have hE1 : Hid (Env w1) := E.out.below BB.out
  have hM1 : Hid (MvAt w1 (some ⟨g, o, none⟩) n (⟨th, op, ar, da⟩ :: r)) := hM.out.below BB.out
  have hcI : (1 : Int) ≤ (n : Int) := by omega
  have hcJ : (n : Int) ≤ (c : Int) := by omega
  clear B1 q0 c0 c1 c2 c3 hM E hpI
  by_cases hc1 : c = 1
  · subst hc1
    obtain rfl : n = 1 := by omega
    go_upto_region 6 with fail
    go_region_held3 (fun W => W.cell? ⟨g, o, none⟩ = some (.int .i64 th)) (simp [*, go_sem])
      (first | (go_at_call 34; refine (C.out _ _ (hE1.out.below (((Below.refl _ _).drew).alloc (Nat.le_refl _) _)) (left_new [th] (new_at _ _ _ rfl) rfl)).mono ?_; clear C; rintro e w2 ⟨rfl, B2⟩; have BE : Hid (Below w1.heap.size w1 w2) := (((Below.refl _ _).drew).alloc (Nat.le_refl _) _).trans (B2.mono (by simp)); have q0 := (BE.out.cell (p := ⟨g, o, none⟩) hg1).trans e0))
    all_goals (go_wp2; go_ret2; exact ⟨o, 0, (by first | rfl | (rw [show n - 1 = 0 from by omega]; rfl)), (hM1.out.below BE.out).drop 1 (by omega) _ (fun h => absurd h (by omega)), by omega, BB.out.trans (BE.out.mono BB.out.size)⟩)
  · have hc2 : ¬ (c : Int) = 1 := by omega
    go_upto_region 6 with fail
    go_region_held3 (fun W => W.cell? ⟨g, o, none⟩ = some (.int .i64 th)) (simp [*, go_sem])
      (first | (go_at_call 34; refine (C.out _ _ (hE1.out.below (((Below.refl _ _).drew).alloc (Nat.le_refl _) _)) (left_new [th] (new_at _ _ _ rfl) rfl)).mono ?_; clear C; rintro e w2 ⟨rfl, B2⟩; have BE : Hid (Below w1.heap.size w1 w2) := (((Below.refl _ _).drew).alloc (Nat.le_refl _) _).trans (B2.mono (by simp)); have q0 := (BE.out.cell (p := ⟨g, o, none⟩) hg1).trans e0))
    all_goals (go_wp2; go_ret2; exact ⟨_, _, rfl, (hM1.out.below BE.out).drop 1 (by omega) _ (fun _ => by simp only [Option.map_some, add1]), by omega, BB.out.trans (BE.out.mono BB.out.size)⟩)
set_option maxHeartbeats 8000000 in
theorem next_n (m : Mv) (r : List Mv) (g o n c : Nat) (w : World) (E : Env w) (hM : MvAt w (some ⟨g, o, none⟩) n (m :: r)) (hm : MvB m) (hn : n ≤ 1000000000000) (hc : n ≤ c) (st : Nat) (hs2 : 2 ≤ st) (hst : stepsOf m.th (m :: r) = st) :
    Calls Tryz.prog 35 #[.slice (some ⟨g, o, none⟩) n c] w (NxB g w (m :: r) n ⟨(fil fSteps [m.th, (st : Int)] ++ [10]).toArray⟩ st) := by
  have hl := hM.1
  have hsa := Mr.hid (stepsAhead_any m r (some ⟨g, o, none⟩) n c)
  obtain ⟨g', o', e', hg, hcl⟩ := hM.2.resolve_left (by simp)
  cases e'
  obtain ⟨c0, c1, c2, c3⟩ := hcl 0 (by simp)
  simp only [Nat.zero_mul, Nat.add_zero, List.getElem?_cons_zero, Option.getD_some] at c0 c1 c2 c3
  have hp : 0 < n := by rw [hl]; simp
  have hpI : (0 : Int) < (n : Int) := by omega
  have hsl := stepsOf_le m.th (m :: r)
  rw [← hl] at hsl
  rw [hst] at hsa hsl
  replace hM := Mr.hid hM
  replace E := Mr.hid E
  have hm' := Mr.hid hm
  clear hl hcl hst hm
  have C : Hid (∀ W (a : Option Addr), Env W → Left W.heap.size W a 2 2 [m.th, (st : Int)] → Calls Tryz.prog 34 #[.string ⟨#[48, 32, 46, 32, 48]⟩, .slice a 2 2] W fun e w' => e = .returned (.string ⟨(fil fSteps [m.th, (st : Int)] ++ [10]).toArray⟩) ∧ Below W.heap.size W w') := fun W a hE hL => filled_any ⟨#[48, 32, 46, 32, 48]⟩ a 2 2 [m.th, (st : Int)] W hE hL (by simp; exact ⟨hm'.out.1, by unfold Bd; omega⟩) fSteps_ok.1 fSteps_ok.2 (by decide)
  generalize (⟨(fil fSteps [m.th, (st : Int)] ++ [10]).toArray⟩ : ByteArray) = T at *
  have s1 : ((st : Int) == 0) = false := beq_eq_false_iff_ne.2 (by omega)
  have s2 : ((st : Int) == 1) = false := beq_eq_false_iff_ne.2 (by omega)
  have s3 : ¬ st = 0 := by omega
  have s4 : ¬ st = 1 := by omega
  have s5 : (st : Int) ≤ (n : Int) := by omega
  obtain ⟨th, op, ar, da⟩ := m
  dsimp only at *
  go_enter Tryz.func35, Tryz.ntmps35
  go_upto_region 1 with fail
  go_region_held3 (fun W => W.cell? ⟨g, o, none⟩ = some (.int .i64 th)) (simp [*, go_sem])
    (first | (go_at_call 50; refine (hsa.out _ (hM.out.below (Below.refl _ _).drew) hn).mono ?_; clear hsa; rintro e w1 ⟨rfl, B1⟩; have q0 := (B1.cell (p := ⟨g, o, none⟩) hg).trans c0))
  have BB : Hid (Below w.heap.size w w1) := ((Below.refl _ _).drew).trans (B1.mono (Nat.le_refl _))
  have e0 : w1.cell? ⟨g, o, none⟩ = some (.int .i64 th) := (BB.out.cell (p := ⟨g, _, none⟩) hg).trans c0
  have e1 : w1.cell? ⟨g, o + 1, none⟩ = some (.int .i64 op) := (BB.out.cell (p := ⟨g, _, none⟩) hg).trans c1
  have e2 : w1.cell? ⟨g, o + 2, none⟩ = some (.int .i64 ar) := (BB.out.cell (p := ⟨g, _, none⟩) hg).trans c2
  have e3 : w1.cell? ⟨g, o + 3, none⟩ = some (.int .i64 da) := (BB.out.cell (p := ⟨g, _, none⟩) hg).trans c3
  have hg1 : g < w1.heap.size := Nat.lt_of_lt_of_le hg BB.out.size
  have hE1 : Hid (Env w1) := E.out.below BB.out
  have hM1 : Hid (MvAt w1 (some ⟨g, o, none⟩) n (⟨th, op, ar, da⟩ :: r)) := hM.out.below BB.out
  have hcI : (1 : Int) ≤ (n : Int) := by omega
  have hcJ : (n : Int) ≤ (c : Int) := by omega
  clear B1 q0 c0 c1 c2 c3 hM E hpI
  by_cases hc1 : c = st
  · replace hc1 := hc1.symm; subst hc1
    go_upto_region 7 with fail
    go_region_held3 (fun W => W.cell? ⟨g, o, none⟩ = some (.int .i64 th)) (simp [*, go_sem])
      (first | (go_at_call 34; refine (C.out _ _ (hE1.out.below (((Below.refl _ _).drew).alloc (Nat.le_refl _) _)) (left_new [th, (st : Int)] (new_at _ _ _ rfl) rfl)).mono ?_; clear C; rintro e w2 ⟨rfl, B2⟩; have BE : Hid (Below w1.heap.size w1 w2) := (((Below.refl _ _).drew).alloc (Nat.le_refl _) _).trans (B2.mono (by simp)); have q0 := (BE.out.cell (p := ⟨g, o, none⟩) hg1).trans e0))
    all_goals (go_wp2; go_ret2; exact ⟨o, 0, (by first | rfl | (rw [show n - st = 0 from by omega]; rfl)), (hM1.out.below BE.out).drop st (by omega) _ (fun h => absurd h (by omega)), by omega, BB.out.trans (BE.out.mono BB.out.size)⟩)
  · have hc2 : ¬ (c : Int) = st := by omega
    go_upto_region 7 with fail
    go_region_held3 (fun W => W.cell? ⟨g, o, none⟩ = some (.int .i64 th)) (simp [*, go_sem])
      (first | (go_at_call 34; refine (C.out _ _ (hE1.out.below (((Below.refl _ _).drew).alloc (Nat.le_refl _) _)) (left_new [th, (st : Int)] (new_at _ _ _ rfl) rfl)).mono ?_; clear C; rintro e w2 ⟨rfl, B2⟩; have BE : Hid (Below w1.heap.size w1 w2) := (((Below.refl _ _).drew).alloc (Nat.le_refl _) _).trans (B2.mono (by simp)); have q0 := (BE.out.cell (p := ⟨g, o, none⟩) hg1).trans e0))
    all_goals (go_wp2; go_ret2; exact ⟨_, _, rfl, (hM1.out.below BE.out).drop st (by omega) _ (fun _ => by simp only [Option.map_some, add1]), by omega, BB.out.trans (BE.out.mono BB.out.size)⟩)
theorem nextLine_any (m : Mv) (r : List Mv) (g o n c : Nat) (w : World) (E : Env w) (hM : MvAt w (some ⟨g, o, none⟩) n (m :: r)) (hm : MvB m) (hn : n ≤ 1000000000000) (hc : n ≤ c) :
    Calls Tryz.prog 35 #[.slice (some ⟨g, o, none⟩) n c] w (NxB g w (m :: r) n ⟨(lineOf m r).1.toArray⟩ (lineOf m r).2) := by
  unfold lineOf
  by_cases h0 : stepsOf m.th (m :: r) = 0
  · rw [if_pos h0]; exact next_0 m r g o n c w E hM hm hn hc h0
  · rw [if_neg h0]
    by_cases h1 : stepsOf m.th (m :: r) = 1
    · rw [if_pos h1]; exact next_1 m r g o n c w E hM hm hn hc h1
    · rw [if_neg h1]; exact next_n m r g o n c w E hM hm hn hc _ (by omega) rfl
end Go.Proofs.YtfhkgeoionkonaaGreatDoor.Sc
