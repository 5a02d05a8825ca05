/-
  SCRIPT: meaning.
-/
import Derived.Test.YtfhkgeoionkonaaGreatDoorScCl
namespace Go.Proofs.YtfhkgeoionkonaaGreatDoor.Sc
open Go.RowKit Mr
set_option linter.unusedVariables false
set_option linter.unusedSimpArgs false
set_option maxRecDepth 100000
theorem toList_of (x : List UInt8) : (⟨x.toArray⟩ : ByteArray).toList = x := by rw [ByteArray.toList_eq]
/-- What meaning answers. -/
def MnA (w : World) (mt : List Mv × Int) (e : Ending) (w' : World) : Prop :=
  ∃ v, e = .returned (.tuple #[v, .int .i64 mt.2]) ∧ Has w' (fun k => w.heap.size ≤ k) 38 4 v mt.1.length (mvc mt.1) ∧ Below w.heap.size w w'
set_option maxHeartbeats 8000000 in
theorem mean_step (ws : List (List UInt8)) (R T : Nat) (a : Option Addr) (n c b off q cn : Nat) (w : World) (hW : WsAt w a n ws) (hg : ∀ x ∈ ws, Gw x) (hn : n ≤ 1048576) (hsz : ∀ x ∈ ws, x.length ≤ 1048576) (hN : NmAt w (some ⟨b, off, none⟩) q (numsL ws)) (hqc : q ≤ cn) (hT : T ≤ 1000) (h0 : w.cell? ⟨R, 0, none⟩ = some (.int .i64 (T : Int))) (hR : R < w.heap.size) (hf : formL ws = fStep) :
    Calls Tryz.prog 55 #[.pointer (some ⟨R, 0, none⟩), .slice a n c, .slice (some ⟨b, off, none⟩) q cn] w (MnA w (mean T ws (numsL ws))) := by
  have FO := Mr.hid (formOf_any ws a n c w hW hn hsz)
  have hq := nums_of hg hf
  have hq2 : (numsL ws).length = 1 := hq.trans (by decide)
  obtain ⟨hnn, hcl⟩ := hN
  have hq3 : q = 1 := by omega
  subst hq3
  obtain ⟨b', off', e', hbl, hcells⟩ := hcl.resolve_left (by intro e; rw [e] at hq2; cases hq2)
  cases e'
  have hme : mean T ws (numsL ws) = ([stp ((numsL ws).getD 0 0)], 1) := by unfold mean; rw [hf]; rfl
  rw [hme]
  obtain ⟨n0, hn0⟩ : ∃ x, (numsL ws).getD 0 0 = x := ⟨_, rfl⟩
  have y0 : w.cell? ⟨b, off + 0, none⟩ = some (.int .i64 n0) := hcells 0 n0 (by rw [← hn0, List.getD_eq_getElem?_getD, List.getElem?_eq_getElem (by omega)]; rfl)
  rw [hn0]
  simp only [Nat.add_zero] at y0
  obtain ⟨F, hF⟩ : ∃ F : ByteArray, F = ⟨(formL ws).toArray⟩ := ⟨_, rfl⟩
  rw [← hF] at FO
  have kfStep : (F.toList == [48, 32, 46]) = true := by rw [hF, toList_of, hf]; decide
  clear hF hf hq hq2 hnn hcl hcells hme hg hsz hn0
  go_enter Tryz.func55, Tryz.ntmps55
  go_upto_region 4 with (go_at_call 53; refine FO.out.mono ?_; clear FO; rintro e w1 ⟨rfl, B1⟩)
  have z0 : w1.cell? ⟨b, off, none⟩ = some (.int .i64 n0) := (B1.cell (p := ⟨b, _, none⟩) hbl).trans y0
  have hb1 : b < w1.heap.size := Nat.lt_of_lt_of_le hbl B1.size
  clear y0
  have So : Hid (∀ (t : Int) w, Calls Tryz.prog 62 #[.int .i64 t] w fun e w' => e = .returned (.agg #[.int .i64 t, .int .i64 0, .int .i64 0, .int .i64 0]) ∧ Below w.heap.size w w') := fun t w => stepOf_any t w
  replace B1 := Mr.hid B1
  go_wp2_with (go_at_call 62; refine (So.out _ _).mono ?_; clear So; rintro e w2 ⟨rfl, B2⟩; have hB2 : Hid (Below w.heap.size w w2) := B1.out.trans (B2.mono B1.out.size); clear B2)
  go_ret2
  exact ⟨_, rfl, has_new w2 (fun k => w.heap.size ≤ k) 38 4 1 #[.int .i64 n0, .int .i64 0, .int .i64 0, .int .i64 0] hB2.out.size (by decide) rfl, hB2.out.alloc hB2.out.size _⟩
set_option maxHeartbeats 8000000 in
theorem mean_steps (ws : List (List UInt8)) (R T : Nat) (a : Option Addr) (n c b off q cn : Nat) (w : World) (hW : WsAt w a n ws) (hg : ∀ x ∈ ws, Gw x) (hn : n ≤ 1048576) (hsz : ∀ x ∈ ws, x.length ≤ 1048576) (hN : NmAt w (some ⟨b, off, none⟩) q (numsL ws)) (hqc : q ≤ cn) (hT : T ≤ 1000) (h0 : w.cell? ⟨R, 0, none⟩ = some (.int .i64 (T : Int))) (hR : R < w.heap.size) (hf : formL ws = fSteps) :
    Calls Tryz.prog 55 #[.pointer (some ⟨R, 0, none⟩), .slice a n c, .slice (some ⟨b, off, none⟩) q cn] w (MnA w (mean T ws (numsL ws))) := by
  have FO := Mr.hid (formOf_any ws a n c w hW hn hsz)
  have hq := nums_of hg hf
  have hq2 : (numsL ws).length = 2 := hq.trans (by decide)
  obtain ⟨hnn, hcl⟩ := hN
  have hq3 : q = 2 := by omega
  subst hq3
  obtain ⟨b', off', e', hbl, hcells⟩ := hcl.resolve_left (by intro e; rw [e] at hq2; cases hq2)
  cases e'
  have hme : mean T ws (numsL ws) = ([stp ((numsL ws).getD 0 0)], (numsL ws).getD 1 0) := by unfold mean; rw [hf]; rfl
  rw [hme]
  obtain ⟨n0, hn0⟩ : ∃ x, (numsL ws).getD 0 0 = x := ⟨_, rfl⟩
  have y0 : w.cell? ⟨b, off + 0, none⟩ = some (.int .i64 n0) := hcells 0 n0 (by rw [← hn0, List.getD_eq_getElem?_getD, List.getElem?_eq_getElem (by omega)]; rfl)
  rw [hn0]
  obtain ⟨n1, hn1⟩ : ∃ x, (numsL ws).getD 1 0 = x := ⟨_, rfl⟩
  have y1 : w.cell? ⟨b, off + 1, none⟩ = some (.int .i64 n1) := hcells 1 n1 (by rw [← hn1, List.getD_eq_getElem?_getD, List.getElem?_eq_getElem (by omega)]; rfl)
  rw [hn1]
  simp only [Nat.add_zero] at y0
  obtain ⟨F, hF⟩ : ∃ F : ByteArray, F = ⟨(formL ws).toArray⟩ := ⟨_, rfl⟩
  rw [← hF] at FO
  have kfStep : (F.toList == [48, 32, 46]) = false := by rw [hF, toList_of]; rw [hf]; decide
  have kfSteps : (F.toList == [48, 32, 46, 32, 48]) = true := by rw [hF, toList_of, hf]; decide
  clear hF hf hq hq2 hnn hcl hcells hme hg hsz hn0 hn1
  go_enter Tryz.func55, Tryz.ntmps55
  go_upto_region 6 with (go_at_call 53; refine FO.out.mono ?_; clear FO; rintro e w1 ⟨rfl, B1⟩)
  have z0 : w1.cell? ⟨b, off, none⟩ = some (.int .i64 n0) := (B1.cell (p := ⟨b, _, none⟩) hbl).trans y0
  have z1 : w1.cell? ⟨b, off + 1, none⟩ = some (.int .i64 n1) := (B1.cell (p := ⟨b, _, none⟩) hbl).trans y1
  have hb1 : b < w1.heap.size := Nat.lt_of_lt_of_le hbl B1.size
  clear y0 y1
  have So : Hid (∀ (t : Int) w, Calls Tryz.prog 62 #[.int .i64 t] w fun e w' => e = .returned (.agg #[.int .i64 t, .int .i64 0, .int .i64 0, .int .i64 0]) ∧ Below w.heap.size w w') := fun t w => stepOf_any t w
  go_region_held3 (fun W => W.cell? ⟨b, off, none⟩ = some (.int .i64 n0) ∧ W.cell? ⟨b, off + 1, none⟩ = some (.int .i64 n1)) (simp [*, go_sem])
    (first | (go_at_call 62; refine (So.out _ _).mono ?_; clear So; rintro e w2 ⟨rfl, B2⟩; have x0 := (B2.cell (p := ⟨b, off, none⟩) hb1).trans z0; have x1 := (B2.cell (p := ⟨b, off + 1, none⟩) hb1).trans z1; have hb2 : b < w2.heap.size := Nat.lt_of_lt_of_le hb1 B2.size; have hB2 : Hid (Below w.heap.size w w2) := (B1.drew).trans (B2.mono B1.size); replace B2 := Mr.hid B2))
  all_goals (go_wp2; go_ret2; exact ⟨_, rfl, has_new w2 (fun k => w.heap.size ≤ k) 38 4 1 #[.int .i64 n0, .int .i64 0, .int .i64 0, .int .i64 0] hB2.out.size (by decide) rfl, hB2.out.alloc hB2.out.size _⟩)
set_option maxHeartbeats 8000000 in
theorem mean_rounds (ws : List (List UInt8)) (R T : Nat) (a : Option Addr) (n c b off q cn : Nat) (w : World) (hW : WsAt w a n ws) (hg : ∀ x ∈ ws, Gw x) (hn : n ≤ 1048576) (hsz : ∀ x ∈ ws, x.length ≤ 1048576) (hN : NmAt w (some ⟨b, off, none⟩) q (numsL ws)) (hqc : q ≤ cn) (hT : T ≤ 1000) (h0 : w.cell? ⟨R, 0, none⟩ = some (.int .i64 (T : Int))) (hR : R < w.heap.size) (hf : formL ws = fRounds) :
    Calls Tryz.prog 55 #[.pointer (some ⟨R, 0, none⟩), .slice a n c, .slice (some ⟨b, off, none⟩) q cn] w (MnA w (mean T ws (numsL ws))) := by
  have FO := Mr.hid (formOf_any ws a n c w hW hn hsz)
  have hq := nums_of hg hf
  have hq2 : (numsL ws).length = 1 := hq.trans (by decide)
  obtain ⟨hnn, hcl⟩ := hN
  have hq3 : q = 1 := by omega
  subst hq3
  obtain ⟨b', off', e', hbl, hcells⟩ := hcl.resolve_left (by intro e; rw [e] at hq2; cases hq2)
  cases e'
  have hme : mean T ws (numsL ws) = (rnds T, (numsL ws).getD 0 0) := by unfold mean; rw [hf]; rfl
  rw [hme]
  obtain ⟨n0, hn0⟩ : ∃ x, (numsL ws).getD 0 0 = x := ⟨_, rfl⟩
  have y0 : w.cell? ⟨b, off + 0, none⟩ = some (.int .i64 n0) := hcells 0 n0 (by rw [← hn0, List.getD_eq_getElem?_getD, List.getElem?_eq_getElem (by omega)]; rfl)
  rw [hn0]
  simp only [Nat.add_zero] at y0
  obtain ⟨F, hF⟩ : ∃ F : ByteArray, F = ⟨(formL ws).toArray⟩ := ⟨_, rfl⟩
  rw [← hF] at FO
  have kfStep : (F.toList == [48, 32, 46]) = false := by rw [hF, toList_of]; rw [hf]; decide
  have kfSteps : (F.toList == [48, 32, 46, 32, 48]) = false := by rw [hF, toList_of]; rw [hf]; decide
  have kfRounds : (F.toList == [42, 32, 48]) = true := by rw [hF, toList_of, hf]; decide
  clear hF hf hq hq2 hnn hcl hcells hme hg hsz hn0
  go_enter Tryz.func55, Tryz.ntmps55
  go_upto_region 8 with (go_at_call 53; refine FO.out.mono ?_; clear FO; rintro e w1 ⟨rfl, B1⟩)
  have z0 : w1.cell? ⟨b, off, none⟩ = some (.int .i64 n0) := (B1.cell (p := ⟨b, _, none⟩) hbl).trans y0
  have hb1 : b < w1.heap.size := Nat.lt_of_lt_of_le hbl B1.size
  clear y0
  have r0 : w1.cell? ⟨R, 0, none⟩ = some (.int .i64 (T : Int)) := (B1.cell (p := ⟨R, 0, none⟩) hR).trans h0
  have hR1 : R < w1.heap.size := Nat.lt_of_lt_of_le hR B1.size
  have RO := Mr.hid (round_any R T w1.drew hT r0 hR1)
  have hrl := Mr.hid (rnds_len T)
  clear h0
  go_region_held3 (fun W => W.cell? ⟨b, off, none⟩ = some (.int .i64 n0)) (simp [*, go_sem])
    (first | (go_at_call 73; refine RO.out.mono ?_; clear RO; rintro e w2 ⟨v, rfl, hh, B2⟩; have x0 := (B2.cell (p := ⟨b, off, none⟩) hb1).trans z0; have hB2 : Hid (Below w.heap.size w w2) := (B1.drew).trans (B2.mono B1.size); replace B2 := Mr.hid B2; replace hh := Mr.hid hh))
  all_goals (go_wp2; go_ret2; exact ⟨_, rfl, by dsimp only; rw [hrl.out]; exact hh.out.mono (fun k hk => Nat.le_trans B1.size hk), hB2.out⟩)
set_option maxHeartbeats 8000000 in
theorem mean_op (ws : List (List UInt8)) (R T : Nat) (a : Option Addr) (n c b off q cn : Nat) (w : World) (hW : WsAt w a n ws) (hg : ∀ x ∈ ws, Gw x) (hn : n ≤ 1048576) (hsz : ∀ x ∈ ws, x.length ≤ 1048576) (hN : NmAt w (some ⟨b, off, none⟩) q (numsL ws)) (hqc : q ≤ cn) (hT : T ≤ 1000) (h0 : w.cell? ⟨R, 0, none⟩ = some (.int .i64 (T : Int))) (hR : R < w.heap.size) (hf : formL ws = fOp) :
    Calls Tryz.prog 55 #[.pointer (some ⟨R, 0, none⟩), .slice a n c, .slice (some ⟨b, off, none⟩) q cn] w (MnA w (mean T ws (numsL ws))) := by
  have FO := Mr.hid (formOf_any ws a n c w hW hn hsz)
  have hq := nums_of hg hf
  have hq2 : (numsL ws).length = 4 := hq.trans (by decide)
  obtain ⟨hnn, hcl⟩ := hN
  have hq3 : q = 4 := by omega
  subst hq3
  obtain ⟨b', off', e', hbl, hcells⟩ := hcl.resolve_left (by intro e; rw [e] at hq2; cases hq2)
  cases e'
  have hme : mean T ws (numsL ws) = ([⟨(numsL ws).getD 0 0, (numsL ws).getD 1 0, (numsL ws).getD 2 0, (numsL ws).getD 3 0⟩], 1) := by unfold mean; rw [hf]; rfl
  rw [hme]
  obtain ⟨n0, hn0⟩ : ∃ x, (numsL ws).getD 0 0 = x := ⟨_, rfl⟩
  have y0 : w.cell? ⟨b, off + 0, none⟩ = some (.int .i64 n0) := hcells 0 n0 (by rw [← hn0, List.getD_eq_getElem?_getD, List.getElem?_eq_getElem (by omega)]; rfl)
  rw [hn0]
  obtain ⟨n1, hn1⟩ : ∃ x, (numsL ws).getD 1 0 = x := ⟨_, rfl⟩
  have y1 : w.cell? ⟨b, off + 1, none⟩ = some (.int .i64 n1) := hcells 1 n1 (by rw [← hn1, List.getD_eq_getElem?_getD, List.getElem?_eq_getElem (by omega)]; rfl)
  rw [hn1]
  obtain ⟨n2, hn2⟩ : ∃ x, (numsL ws).getD 2 0 = x := ⟨_, rfl⟩
  have y2 : w.cell? ⟨b, off + 2, none⟩ = some (.int .i64 n2) := hcells 2 n2 (by rw [← hn2, List.getD_eq_getElem?_getD, List.getElem?_eq_getElem (by omega)]; rfl)
  rw [hn2]
  obtain ⟨n3, hn3⟩ : ∃ x, (numsL ws).getD 3 0 = x := ⟨_, rfl⟩
  have y3 : w.cell? ⟨b, off + 3, none⟩ = some (.int .i64 n3) := hcells 3 n3 (by rw [← hn3, List.getD_eq_getElem?_getD, List.getElem?_eq_getElem (by omega)]; rfl)
  rw [hn3]
  simp only [Nat.add_zero] at y0
  obtain ⟨F, hF⟩ : ∃ F : ByteArray, F = ⟨(formL ws).toArray⟩ := ⟨_, rfl⟩
  rw [← hF] at FO
  have kfStep : (F.toList == [48, 32, 46]) = false := by rw [hF, toList_of]; rw [hf]; decide
  have kfSteps : (F.toList == [48, 32, 46, 32, 48]) = false := by rw [hF, toList_of]; rw [hf]; decide
  have kfRounds : (F.toList == [42, 32, 48]) = false := by rw [hF, toList_of]; rw [hf]; decide
  have kfOp : (F.toList == [48, 32, 111, 112, 32, 48, 32, 48, 32, 48]) = true := by rw [hF, toList_of, hf]; decide
  clear hF hf hq hq2 hnn hcl hcells hme hg hsz hn0 hn1 hn2 hn3
  go_enter Tryz.func55, Tryz.ntmps55
  go_upto_region 10 with (go_at_call 53; refine FO.out.mono ?_; clear FO; rintro e w1 ⟨rfl, B1⟩)
  have z0 : w1.cell? ⟨b, off, none⟩ = some (.int .i64 n0) := (B1.cell (p := ⟨b, _, none⟩) hbl).trans y0
  have z1 : w1.cell? ⟨b, off + 1, none⟩ = some (.int .i64 n1) := (B1.cell (p := ⟨b, _, none⟩) hbl).trans y1
  have z2 : w1.cell? ⟨b, off + 2, none⟩ = some (.int .i64 n2) := (B1.cell (p := ⟨b, _, none⟩) hbl).trans y2
  have z3 : w1.cell? ⟨b, off + 3, none⟩ = some (.int .i64 n3) := (B1.cell (p := ⟨b, _, none⟩) hbl).trans y3
  have hb1 : b < w1.heap.size := Nat.lt_of_lt_of_le hbl B1.size
  clear y0 y1 y2 y3
  go_region_held3 (fun W => W.cell? ⟨b, off, none⟩ = some (.int .i64 n0) ∧ W.cell? ⟨b, off + 1, none⟩ = some (.int .i64 n1) ∧ W.cell? ⟨b, off + 2, none⟩ = some (.int .i64 n2) ∧ W.cell? ⟨b, off + 3, none⟩ = some (.int .i64 n3)) (simp [*, go_sem]) (fail)
  have hB2 : Hid (Below w.heap.size w w1) := B1
  all_goals (go_wp2; go_ret2; exact ⟨_, rfl, has_new w1.drew (fun k => w.heap.size ≤ k) 38 4 1 #[.int .i64 n0, .int .i64 n1, .int .i64 n2, .int .i64 n3] hB2.out.size (by decide) rfl, (hB2.out.drew).alloc hB2.out.size _⟩)
set_option maxHeartbeats 8000000 in
theorem mean_call (ws : List (List UInt8)) (R T : Nat) (a : Option Addr) (n c b off q cn : Nat) (w : World) (hW : WsAt w a n ws) (hg : ∀ x ∈ ws, Gw x) (hn : n ≤ 1048576) (hsz : ∀ x ∈ ws, x.length ≤ 1048576) (hN : NmAt w (some ⟨b, off, none⟩) q (numsL ws)) (hqc : q ≤ cn) (hT : T ≤ 1000) (h0 : w.cell? ⟨R, 0, none⟩ = some (.int .i64 (T : Int))) (hR : R < w.heap.size) (k : Nat) (h2 : ¬ ws.length < 2) (hk : rowN (ws.getD 1 []) = some k) (hf : formL ws = fCall k) (hfStep : formL ws ≠ fStep) (hfSteps : formL ws ≠ fSteps) (hfRounds : formL ws ≠ fRounds) (hfOp : formL ws ≠ fOp) :
    Calls Tryz.prog 55 #[.pointer (some ⟨R, 0, none⟩), .slice a n c, .slice (some ⟨b, off, none⟩) q cn] w (MnA w (mean T ws (numsL ws))) := by
  have FO := Mr.hid (formOf_any ws a n c w hW hn hsz)
  have CL := Mr.hid (fun W (hB : Below w.heap.size w W) => call_some ws k a n c b off q cn W (hW.below hB) hg hn h2 hk hf (hN.below hB (fun b' o' e' => by
    cases e'
    rcases hN.2 with h | ⟨b'', o'', e'', hl, _⟩
    · exact absurd (nums_of hg hf) (by rw [h]; have := (fCall_words k (rowN_some hk).1).1; simp; omega)
    · cases e''; exact hl)) hqc)
  have hme : mean T ws (numsL ws) = (callM ws (formL ws) (numsL ws), 1) := by unfold mean; rw [if_neg hfStep, if_neg hfSteps, if_neg hfRounds, if_neg hfOp]
  rw [hme]
  obtain ⟨F, hF⟩ : ∃ F : ByteArray, F = ⟨(formL ws).toArray⟩ := ⟨_, rfl⟩
  rw [← hF] at FO CL
  have kfStep : (F.toList == [48, 32, 46]) = false := by rw [hF, toList_of]; exact beq_eq_false_iff_ne.2 hfStep
  have kfSteps : (F.toList == [48, 32, 46, 32, 48]) = false := by rw [hF, toList_of]; exact beq_eq_false_iff_ne.2 hfSteps
  have kfRounds : (F.toList == [42, 32, 48]) = false := by rw [hF, toList_of]; exact beq_eq_false_iff_ne.2 hfRounds
  have kfOp : (F.toList == [48, 32, 111, 112, 32, 48, 32, 48, 32, 48]) = false := by rw [hF, toList_of]; exact beq_eq_false_iff_ne.2 hfOp
  generalize callM ws (formL ws) (numsL ws) = cm at *
  clear hF hf hme hg hsz hN hW h2 hk h0
  go_enter Tryz.func55, Tryz.ntmps55
  go_upto_region 11 with (go_at_call 53; refine FO.out.mono ?_; clear FO; rintro e w1 ⟨rfl, B1⟩)
  have C1 := Mr.hid (CL.out w1 B1)
  clear CL
  replace B1 := Mr.hid B1
  go_wp2_with (go_at_call 74; refine C1.out.mono ?_; clear C1; rintro e w2 ⟨v, rfl, hh, B2⟩; replace hh := Mr.hid hh; replace B2 := Mr.hid B2)
  go_ret2
  exact ⟨_, rfl, hh.out.mono (fun k hk => Nat.le_trans B1.out.size hk), B1.out.trans (B2.out.mono B1.out.size)⟩
end Go.Proofs.YtfhkgeoionkonaaGreatDoor.Sc
