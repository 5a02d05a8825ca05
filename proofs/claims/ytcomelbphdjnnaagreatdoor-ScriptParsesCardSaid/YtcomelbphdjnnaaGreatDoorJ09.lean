import Derived.Test.YtcomelbphdjnnaaGreatDoorJ08
import Derived.Test.YtcomelbphdjnnaaGreatDoorJ07
/-
  SCRIPT: meaning.
-/
namespace Go.Proofs.YtcomelbphdjnnaaGreatDoor.Sc
open Go.RowKit Mr
set_option linter.unusedVariables false
set_option linter.unusedSimpArgs false
set_option maxRecDepth 100000
theorem toList_of (x : List UInt8) : (⟨x.toArray⟩ : ByteArray).toList = x := by rw [ByteArray.toList_eq]
/-- What meaning answers. -/
def MnA (w : World) (mt : List Mv × Int) (e : Ending) (w' : World) : Prop :=
  ∃ v, e = .returned (.tuple #[v, .int .i64 mt.2]) ∧ Has w' (fun k => w.heap.size ≤ k) 42 4 v mt.1.length (mvc mt.1) ∧ Below w.heap.size w w'
set_option maxHeartbeats 8000000 in
theorem mean_step (ws : List (List UInt8)) (R T : Nat) (a : Option Addr) (n c b off q cn : Nat) (w : World) (hW : WsAt w a n ws) (hg : ∀ x ∈ ws, Gw x) (hn : n ≤ 1048576) (hsz : ∀ x ∈ ws, x.length ≤ 1048576) (hN : NmAt w (some ⟨b, off, none⟩) q (numsL ws)) (hqc : q ≤ cn) (hT : T ≤ 1000) (h0 : w.cell? ⟨R, 0, none⟩ = some (.int .i64 (T : Int))) (hR : R < w.heap.size) (hf : formL ws = fStep) :
    Calls Tryz.prog 67 #[.pointer (some ⟨R, 0, none⟩), .slice a n c, .slice (some ⟨b, off, none⟩) q cn] w (MnA w (mean T ws (numsL ws))) := by
  have FO := Mr.hid (formOf_any ws a n c w hW hn hsz)
  have hq := nums_of hg hf
  have hq2 : (numsL ws).length = 1 := hq.trans (by decide)
  obtain ⟨hnn, hcl⟩ := hN
  have hq3 : q = 1 := by omega
  subst hq3
  obtain ⟨b', off', e', hbl, hcells⟩ := hcl.resolve_left (by intro e; rw [e] at hq2; cases hq2)
  cases e'
  have hme : mean T ws (numsL ws) = ([stp ((numsL ws).getD 0 0)], 1) := by unfold mean; rw [hf]; rfl
  rw [hme]
  obtain ⟨n0, hn0⟩ : ∃ x, (numsL ws).getD 0 0 = x := ⟨_, rfl⟩
  have y0 : w.cell? ⟨b, off + 0, none⟩ = some (.int .i64 n0) := hcells 0 n0 (by rw [← hn0, List.getD_eq_getElem?_getD, List.getElem?_eq_getElem (by omega)]; rfl)
  rw [hn0]
  simp only [Nat.add_zero] at y0
  obtain ⟨F, hF⟩ : ∃ F : ByteArray, F = ⟨(formL ws).toArray⟩ := ⟨_, rfl⟩
  rw [← hF] at FO
  have kfStep : (F.toList == [48, 32, 46]) = true := by rw [hF, toList_of, hf]; decide
  clear hF hf hq hq2 hnn hcl hcells hme hg hsz hn0
  go_enter Tryz.func67, Tryz.ntmps67
  go_upto_region 4 with (go_at_call 65; refine FO.out.mono ?_; clear FO; rintro e w1 ⟨rfl, B1⟩)
  have z0 : w1.cell? ⟨b, off, none⟩ = some (.int .i64 n0) := (B1.cell (p := ⟨b, _, none⟩) hbl).trans y0
  have hb1 : b < w1.heap.size := Nat.lt_of_lt_of_le hbl B1.size
  clear y0
  have So : Hid (∀ (t : Int) w, Calls Tryz.prog 60 #[.int .i64 t] w fun e w' => e = .returned (.agg #[.int .i64 t, .int .i64 0, .int .i64 0, .int .i64 0]) ∧ Below w.heap.size w w') := fun t w => stepOf_any t w
  replace B1 := Mr.hid B1
  go_wp2_with (go_at_call 60; refine (So.out _ _).mono ?_; clear So; rintro e w2 ⟨rfl, B2⟩; have hB2 : Hid (Below w.heap.size w w2) := B1.out.trans (B2.mono B1.out.size); clear B2)
  go_ret2
  exact ⟨_, rfl, has_new w2 (fun k => w.heap.size ≤ k) 42 4 1 #[.int .i64 n0, .int .i64 0, .int .i64 0, .int .i64 0] hB2.out.size (by decide) rfl, hB2.out.alloc hB2.out.size _⟩
set_option maxHeartbeats 8000000 in
theorem mean_steps (ws : List (List UInt8)) (R T : Nat) (a : Option Addr) (n c b off q cn : Nat) (w : World) (hW : WsAt w a n ws) (hg : ∀ x ∈ ws, Gw x) (hn : n ≤ 1048576) (hsz : ∀ x ∈ ws, x.length ≤ 1048576) (hN : NmAt w (some ⟨b, off, none⟩) q (numsL ws)) (hqc : q ≤ cn) (hT : T ≤ 1000) (h0 : w.cell? ⟨R, 0, none⟩ = some (.int .i64 (T : Int))) (hR : R < w.heap.size) (hf : formL ws = fSteps) :
    Calls Tryz.prog 67 #[.pointer (some ⟨R, 0, none⟩), .slice a n c, .slice (some ⟨b, off, none⟩) q cn] w (MnA w (mean T ws (numsL ws))) := by
  have FO := Mr.hid (formOf_any ws a n c w hW hn hsz)
  have hq := nums_of hg hf
  have hq2 : (numsL ws).length = 2 := hq.trans (by decide)
  obtain ⟨hnn, hcl⟩ := hN
  have hq3 : q = 2 := by omega
  subst hq3
  obtain ⟨b', off', e', hbl, hcells⟩ := hcl.resolve_left (by intro e; rw [e] at hq2; cases hq2)
  cases e'
  have hme : mean T ws (numsL ws) = ([stp ((numsL ws).getD 0 0)], (numsL ws).getD 1 0) := by unfold mean; rw [hf]; rfl
  rw [hme]
  obtain ⟨n0, hn0⟩ : ∃ x, (numsL ws).getD 0 0 = x := ⟨_, rfl⟩
  have y0 : w.cell? ⟨b, off + 0, none⟩ = some (.int .i64 n0) := hcells 0 n0 (by rw [← hn0, List.getD_eq_getElem?_getD, List.getElem?_eq_getElem (by omega)]; rfl)
  rw [hn0]
  obtain ⟨n1, hn1⟩ : ∃ x, (numsL ws).getD 1 0 = x := ⟨_, rfl⟩
  have y1 : w.cell? ⟨b, off + 1, none⟩ = some (.int .i64 n1) := hcells 1 n1 (by rw [← hn1, List.getD_eq_getElem?_getD, List.getElem?_eq_getElem (by omega)]; rfl)
  rw [hn1]
  simp only [Nat.add_zero] at y0
  obtain ⟨F, hF⟩ : ∃ F : ByteArray, F = ⟨(formL ws).toArray⟩ := ⟨_, rfl⟩
  rw [← hF] at FO
  have kfStep : (F.toList == [48, 32, 46]) = false := by rw [hF, toList_of]; rw [hf]; decide
  have kfSteps : (F.toList == [48, 32, 46, 32, 48]) = true := by rw [hF, toList_of, hf]; decide
  clear hF hf hq hq2 hnn hcl hcells hme hg hsz hn0 hn1
  go_enter Tryz.func67, Tryz.ntmps67
  go_upto_region 6 with (go_at_call 65; refine FO.out.mono ?_; clear FO; rintro e w1 ⟨rfl, B1⟩)
  have z0 : w1.cell? ⟨b, off, none⟩ = some (.int .i64 n0) := (B1.cell (p := ⟨b, _, none⟩) hbl).trans y0
  have z1 : w1.cell? ⟨b, off + 1, none⟩ = some (.int .i64 n1) := (B1.cell (p := ⟨b, _, none⟩) hbl).trans y1
  have hb1 : b < w1.heap.size := Nat.lt_of_lt_of_le hbl B1.size
  clear y0 y1
  have So : Hid (∀ (t : Int) w, Calls Tryz.prog 60 #[.int .i64 t] w fun e w' => e = .returned (.agg #[.int .i64 t, .int .i64 0, .int .i64 0, .int .i64 0]) ∧ Below w.heap.size w w') := fun t w => stepOf_any t w
  go_region_held3 (fun W => W.cell? ⟨b, off, none⟩ = some (.int .i64 n0) ∧ W.cell? ⟨b, off + 1, none⟩ = some (.int .i64 n1)) (simp [*, go_sem])
    (first | (go_at_call 60; refine (So.out _ _).mono ?_; clear So; rintro e w2 ⟨rfl, B2⟩; have x0 := (B2.cell (p := ⟨b, off, none⟩) hb1).trans z0; have x1 := (B2.cell (p := ⟨b, off + 1, none⟩) hb1).trans z1; have hb2 : b < w2.heap.size := Nat.lt_of_lt_of_le hb1 B2.size; have hB2 : Hid (Below w.heap.size w w2) := (B1.drew).trans (B2.mono B1.size); replace B2 := Mr.hid B2))
  all_goals (go_wp2; go_ret2; exact ⟨_, rfl, has_new w2 (fun k => w.heap.size ≤ k) 42 4 1 #[.int .i64 n0, .int .i64 0, .int .i64 0, .int .i64 0] hB2.out.size (by decide) rfl, hB2.out.alloc hB2.out.size _⟩)
set_option maxHeartbeats 8000000 in
theorem mean_rounds (ws : List (List UInt8)) (R T : Nat) (a : Option Addr) (n c b off q cn : Nat) (w : World) (hW : WsAt w a n ws) (hg : ∀ x ∈ ws, Gw x) (hn : n ≤ 1048576) (hsz : ∀ x ∈ ws, x.length ≤ 1048576) (hN : NmAt w (some ⟨b, off, none⟩) q (numsL ws)) (hqc : q ≤ cn) (hT : T ≤ 1000) (h0 : w.cell? ⟨R, 0, none⟩ = some (.int .i64 (T : Int))) (hR : R < w.heap.size) (hf : formL ws = fRounds) :
    Calls Tryz.prog 67 #[.pointer (some ⟨R, 0, none⟩), .slice a n c, .slice (some ⟨b, off, none⟩) q cn] w (MnA w (mean T ws (numsL ws))) := by
  have FO := Mr.hid (formOf_any ws a n c w hW hn hsz)
  have hq := nums_of hg hf
  have hq2 : (numsL ws).length = 1 := hq.trans (by decide)
  obtain ⟨hnn, hcl⟩ := hN
  have hq3 : q = 1 := by omega
  subst hq3
  obtain ⟨b', off', e', hbl, hcells⟩ := hcl.resolve_left (by intro e; rw [e] at hq2; cases hq2)
  cases e'
  have hme : mean T ws (numsL ws) = (rnds T, (numsL ws).getD 0 0) := by unfold mean; rw [hf]; rfl
  rw [hme]
  obtain ⟨n0, hn0⟩ : ∃ x, (numsL ws).getD 0 0 = x := ⟨_, rfl⟩
  have y0 : w.cell? ⟨b, off + 0, none⟩ = some (.int .i64 n0) := hcells 0 n0 (by rw [← hn0, List.getD_eq_getElem?_getD, List.getElem?_eq_getElem (by omega)]; rfl)
  rw [hn0]
  simp only [Nat.add_zero] at y0
  obtain ⟨F, hF⟩ : ∃ F : ByteArray, F = ⟨(formL ws).toArray⟩ := ⟨_, rfl⟩
  rw [← hF] at FO
  have kfStep : (F.toList == [48, 32, 46]) = false := by rw [hF, toList_of]; rw [hf]; decide
  have kfSteps : (F.toList == [48, 32, 46, 32, 48]) = false := by rw [hF, toList_of]; rw [hf]; decide
  have kfRounds : (F.toList == [42, 32, 48]) = true := by rw [hF, toList_of, hf]; decide
  clear hF hf hq hq2 hnn hcl hcells hme hg hsz hn0
  go_enter Tryz.func67, Tryz.ntmps67
  go_upto_region 8 with (go_at_call 65; refine FO.out.mono ?_; clear FO; rintro e w1 ⟨rfl, B1⟩)
  have z0 : w1.cell? ⟨b, off, none⟩ = some (.int .i64 n0) := (B1.cell (p := ⟨b, _, none⟩) hbl).trans y0
  have hb1 : b < w1.heap.size := Nat.lt_of_lt_of_le hbl B1.size
  clear y0
  have r0 : w1.cell? ⟨R, 0, none⟩ = some (.int .i64 (T : Int)) := (B1.cell (p := ⟨R, 0, none⟩) hR).trans h0
  have hR1 : R < w1.heap.size := Nat.lt_of_lt_of_le hR B1.size
  have RO := Mr.hid (round_any R T w1.drew hT r0 hR1)
  have hrl := Mr.hid (rnds_len T)
  clear h0
  go_region_held3 (fun W => W.cell? ⟨b, off, none⟩ = some (.int .i64 n0)) (simp [*, go_sem])
    (first | (go_at_call 84; refine RO.out.mono ?_; clear RO; rintro e w2 ⟨v, rfl, hh, B2⟩; have x0 := (B2.cell (p := ⟨b, off, none⟩) hb1).trans z0; have hB2 : Hid (Below w.heap.size w w2) := (B1.drew).trans (B2.mono B1.size); replace B2 := Mr.hid B2; replace hh := Mr.hid hh))
  all_goals (go_wp2; go_ret2; exact ⟨_, rfl, by dsimp only; rw [hrl.out]; exact hh.out.mono (fun k hk => Nat.le_trans B1.size hk), hB2.out⟩)
set_option maxHeartbeats 8000000 in
theorem mean_op (ws : List (List UInt8)) (R T : Nat) (a : Option Addr) (n c b off q cn : Nat) (w : World) (hW : WsAt w a n ws) (hg : ∀ x ∈ ws, Gw x) (hn : n ≤ 1048576) (hsz : ∀ x ∈ ws, x.length ≤ 1048576) (hN : NmAt w (some ⟨b, off, none⟩) q (numsL ws)) (hqc : q ≤ cn) (hT : T ≤ 1000) (h0 : w.cell? ⟨R, 0, none⟩ = some (.int .i64 (T : Int))) (hR : R < w.heap.size) (hf : formL ws = fOp) :
    Calls Tryz.prog 67 #[.pointer (some ⟨R, 0, none⟩), .slice a n c, .slice (some ⟨b, off, none⟩) q cn] w (MnA w (mean T ws (numsL ws))) := by
  have FO := Mr.hid (formOf_any ws a n c w hW hn hsz)
  have hq := nums_of hg hf
  have hq2 : (numsL ws).length = 4 := hq.trans (by decide)
  obtain ⟨hnn, hcl⟩ := hN
  have hq3 : q = 4 := by omega
  subst hq3
  obtain ⟨b', off', e', hbl, hcells⟩ := hcl.resolve_left (by intro e; rw [e] at hq2; cases hq2)
  cases e'
  have hme : mean T ws (numsL ws) = ([⟨(numsL ws).getD 0 0, (numsL ws).getD 1 0, (numsL ws).getD 2 0, (numsL ws).getD 3 0⟩], 1) := by unfold mean; rw [hf]; rfl
  rw [hme]
  obtain ⟨n0, hn0⟩ : ∃ x, (numsL ws).getD 0 0 = x := ⟨_, rfl⟩
  have y0 : w.cell? ⟨b, off + 0, none⟩ = some (.int .i64 n0) := hcells 0 n0 (by rw [← hn0, List.getD_eq_getElem?_getD, List.getElem?_eq_getElem (by omega)]; rfl)
  rw [hn0]
  obtain ⟨n1, hn1⟩ : ∃ x, (numsL ws).getD 1 0 = x := ⟨_, rfl⟩
  have y1 : w.cell? ⟨b, off + 1, none⟩ = some (.int .i64 n1) := hcells 1 n1 (by rw [← hn1, List.getD_eq_getElem?_getD, List.getElem?_eq_getElem (by omega)]; rfl)
  rw [hn1]
  obtain ⟨n2, hn2⟩ : ∃ x, (numsL ws).getD 2 0 = x := ⟨_, rfl⟩
  have y2 : w.cell? ⟨b, off + 2, none⟩ = some (.int .i64 n2) := hcells 2 n2 (by rw [← hn2, List.getD_eq_getElem?_getD, List.getElem?_eq_getElem (by omega)]; rfl)
  rw [hn2]
  obtain ⟨n3, hn3⟩ : ∃ x, (numsL ws).getD 3 0 = x := ⟨_, rfl⟩
  have y3 : w.cell? ⟨b, off + 3, none⟩ = some (.int .i64 n3) := hcells 3 n3 (by rw [← hn3, List.getD_eq_getElem?_getD, List.getElem?_eq_getElem (by omega)]; rfl)
  rw [hn3]
  simp only [Nat.add_zero] at y0
  obtain ⟨F, hF⟩ : ∃ F : ByteArray, F = ⟨(formL ws).toArray⟩ := ⟨_, rfl⟩
  rw [← hF] at FO
  have kfStep : (F.toList == [48, 32, 46]) = false := by rw [hF, toList_of]; rw [hf]; decide
  have kfSteps : (F.toList == [48, 32, 46, 32, 48]) = false := by rw [hF, toList_of]; rw [hf]; decide
  have kfRounds : (F.toList == [42, 32, 48]) = false := by rw [hF, toList_of]; rw [hf]; decide
  have kfOp : (F.toList == [48, 32, 111, 112, 32, 48, 32, 48, 32, 48]) = true := by rw [hF, toList_of, hf]; decide
  clear hF hf hq hq2 hnn hcl hcells hme hg hsz hn0 hn1 hn2 hn3
  go_enter Tryz.func67, Tryz.ntmps67
  go_upto_region 10 with (go_at_call 65; refine FO.out.mono ?_; clear FO; rintro e w1 ⟨rfl, B1⟩)
  have z0 : w1.cell? ⟨b, off, none⟩ = some (.int .i64 n0) := (B1.cell (p := ⟨b, _, none⟩) hbl).trans y0
  have z1 : w1.cell? ⟨b, off + 1, none⟩ = some (.int .i64 n1) := (B1.cell (p := ⟨b, _, none⟩) hbl).trans y1
  have z2 : w1.cell? ⟨b, off + 2, none⟩ = some (.int .i64 n2) := (B1.cell (p := ⟨b, _, none⟩) hbl).trans y2
  have z3 : w1.cell? ⟨b, off + 3, none⟩ = some (.int .i64 n3) := (B1.cell (p := ⟨b, _, none⟩) hbl).trans y3
  have hb1 : b < w1.heap.size := Nat.lt_of_lt_of_le hbl B1.size
  clear y0 y1 y2 y3
  go_region_held3 (fun W => W.cell? ⟨b, off, none⟩ = some (.int .i64 n0) ∧ W.cell? ⟨b, off + 1, none⟩ = some (.int .i64 n1) ∧ W.cell? ⟨b, off + 2, none⟩ = some (.int .i64 n2) ∧ W.cell? ⟨b, off + 3, none⟩ = some (.int .i64 n3)) (simp [*, go_sem]) (fail)
  have hB2 : Hid (Below w.heap.size w w1) := B1
  all_goals (go_wp2; go_ret2; exact ⟨_, rfl, has_new w1.drew (fun k => w.heap.size ≤ k) 42 4 1 #[.int .i64 n0, .int .i64 n1, .int .i64 n2, .int .i64 n3] hB2.out.size (by decide) rfl, (hB2.out.drew).alloc hB2.out.size _⟩)
set_option maxHeartbeats 8000000 in
theorem mean_call (ws : List (List UInt8)) (R T : Nat) (a : Option Addr) (n c b off q cn : Nat) (w : World) (hW : WsAt w a n ws) (hg : ∀ x ∈ ws, Gw x) (hn : n ≤ 1048576) (hsz : ∀ x ∈ ws, x.length ≤ 1048576) (hN : NmAt w (some ⟨b, off, none⟩) q (numsL ws)) (hqc : q ≤ cn) (hT : T ≤ 1000) (h0 : w.cell? ⟨R, 0, none⟩ = some (.int .i64 (T : Int))) (hR : R < w.heap.size) (k : Nat) (h2 : ¬ ws.length < 2) (hk : rowN (ws.getD 1 []) = some k) (hf : formL ws = fCall k) (hfStep : formL ws ≠ fStep) (hfSteps : formL ws ≠ fSteps) (hfRounds : formL ws ≠ fRounds) (hfOp : formL ws ≠ fOp) :
    Calls Tryz.prog 67 #[.pointer (some ⟨R, 0, none⟩), .slice a n c, .slice (some ⟨b, off, none⟩) q cn] w (MnA w (mean T ws (numsL ws))) := by
  have FO := Mr.hid (formOf_any ws a n c w hW hn hsz)
  have CL := Mr.hid (fun W (hB : Below w.heap.size w W) => call_some ws k a n c b off q cn W (hW.below hB) hg hn h2 hk hf (hN.below hB (fun b' o' e' => by
    cases e'
    rcases hN.2 with h | ⟨b'', o'', e'', hl, _⟩
    · exact absurd (nums_of hg hf) (by rw [h]; have := (fCall_words k (rowN_some hk).1).1; simp; omega)
    · cases e''; exact hl)) hqc)
  have hme : mean T ws (numsL ws) = (callM ws (formL ws) (numsL ws), 1) := by unfold mean; rw [if_neg hfStep, if_neg hfSteps, if_neg hfRounds, if_neg hfOp]
  rw [hme]
  obtain ⟨F, hF⟩ : ∃ F : ByteArray, F = ⟨(formL ws).toArray⟩ := ⟨_, rfl⟩
  rw [← hF] at FO CL
  have kfStep : (F.toList == [48, 32, 46]) = false := by rw [hF, toList_of]; exact beq_eq_false_iff_ne.2 hfStep
  have kfSteps : (F.toList == [48, 32, 46, 32, 48]) = false := by rw [hF, toList_of]; exact beq_eq_false_iff_ne.2 hfSteps
  have kfRounds : (F.toList == [42, 32, 48]) = false := by rw [hF, toList_of]; exact beq_eq_false_iff_ne.2 hfRounds
  have kfOp : (F.toList == [48, 32, 111, 112, 32, 48, 32, 48, 32, 48]) = false := by rw [hF, toList_of]; exact beq_eq_false_iff_ne.2 hfOp
  generalize callM ws (formL ws) (numsL ws) = cm at *
  clear hF hf hme hg hsz hN hW h2 hk h0
  go_enter Tryz.func67, Tryz.ntmps67
  go_upto_region 11 with (go_at_call 65; refine FO.out.mono ?_; clear FO; rintro e w1 ⟨rfl, B1⟩)
  have C1 := Mr.hid (CL.out w1 B1)
  clear CL
  replace B1 := Mr.hid B1
  go_wp2_with (go_at_call 85; refine C1.out.mono ?_; clear C1; rintro e w2 ⟨v, rfl, hh, B2⟩; replace hh := Mr.hid hh; replace B2 := Mr.hid B2)
  go_ret2
  exact ⟨_, rfl, hh.out.mono (fun k hk => Nat.le_trans B1.out.size hk), B1.out.trans (B2.out.mono B1.out.size)⟩
end Go.Proofs.YtcomelbphdjnnaaGreatDoor.Sc
/-
  SCRIPT: callLine.
-/
namespace Go.Proofs.YtcomelbphdjnnaaGreatDoor.Sc
open Go.RowKit Mr
set_option linter.unusedVariables false
set_option linter.unusedSimpArgs false
set_option maxRecDepth 100000
set_option maxHeartbeats 8000000 in
theorem callLine_none (m : Mv) (w : World) (E : Env w) (hm : MvB m) (hr : rowOf m.op = none) :
    Calls Tryz.prog 46 #[mvV m] w fun e w' => e = .returned (.string ⟨(callLn m).toArray⟩) ∧ Below w.heap.size w w' := by
  have C : Hid (∀ w, Calls Tryz.prog 61 #[.int .i64 m.op] w fun e w' => e = .returned (.tuple #[.agg #[.int .i64 0, .string ⟨#[]⟩, .int .i64 0], .bool false]) ∧ Below w.heap.size w w') := fun w => callOf_none m.op w (rowOf_none hr)
  have D : Hid (∀ w (a : Option Addr), Env w → Left w.heap.size w a 4 4 [m.th, m.op, m.arg, m.data] → Calls Tryz.prog 28 #[.string ⟨#[48, 32, 111, 112, 32, 48, 32, 48, 32, 48]⟩, .slice a 4 4] w fun e w' => e = .returned (.string ⟨(callLn m).toArray⟩) ∧ Below w.heap.size w w') := by
    intro w a E hL
    have hf : callLn m = fil fOp [m.th, m.op, m.arg, m.data] ++ [10] := by unfold callLn; rw [hr]
    rw [hf]
    exact filled_any ⟨#[48, 32, 111, 112, 32, 48, 32, 48, 32, 48]⟩ a 4 4 [m.th, m.op, m.arg, m.data] w E hL (by simp; exact hm) fOp_ok.1 fOp_ok.2.1 (by decide)
  replace E := Mr.hid E
  clear hm hr
  obtain ⟨th, op, ar, da⟩ := m
  generalize (callLn ⟨th, op, ar, da⟩).toArray = T at *
  unfold mvV
  dsimp only at *
  go_enter Tryz.func46, Tryz.ntmps46
  go_upto_region 2 with (go_at_call 61; refine (C.out _).mono ?_; clear C; rintro e w1 ⟨rfl, B1⟩)
  have hb : w1.heap[w.heap.size]? = some (.cells #[.int .i64 th, .int .i64 op, .int .i64 ar, .int .i64 da] 42 (0, 0)) := (B1.block _ (by simp)).trans (new_at _ _ _ rfl)
  have hlt : w.heap.size < w1.heap.size := Nat.lt_of_lt_of_le (by simp) B1.size
  have c0 := cell_blk hb 0
  have c1 := cell_blk hb 1
  have c2 := cell_blk hb 2
  have c3 := cell_blk hb 3
  have BB : Hid (Below w.heap.size w w1) := ((Below.refl _ _).alloc (Nat.le_refl _) _).trans (B1.mono (by simp))
  clear hb B1
  have D1 := fun (W : World) => D.out W (some ⟨w1.heap.size + 1, 0, none⟩)
  replace D1 := Mr.hid D1
  clear D
  go_wp2_with (go_at_call 28; refine (D1.out _ ?cE ?cL).mono ?_)
  case cE => exact E.out.below (BB.out.trans (((Below.refl _ _).alloc (Nat.le_of_lt hlt) _).alloc (by simp; omega) _))
  case cL => exact left_new [th, op, ar, da] (new_at _ _ _ (by simp)) rfl
  rintro e w3 ⟨rfl, B3⟩
  go_wp2
  go_ret
  exact ⟨rfl, (BB.out.trans (((Below.refl _ _).alloc (Nat.le_of_lt hlt) _).alloc (by simp; omega) _)).trans (B3.mono (by simp; omega))⟩
theorem tel_eq (k : Nat) (m : Mv) : tels k m = telB (tkA k) m.arg m.data := rfl
set_option maxHeartbeats 8000000 in
theorem callLine_op (m : Mv) (k : Nat) (w : World) (E : Env w) (hm : MvB m) (hr : rowOf m.op = some k) (ht : tels k m = false) :
    Calls Tryz.prog 46 #[mvV m] w fun e w' => e = .returned (.string ⟨(callLn m).toArray⟩) ∧ Below w.heap.size w w' := by
  obtain ⟨hk, ho⟩ := rowOf_some hr
  have C : Hid (∀ w, Calls Tryz.prog 61 #[.int .i64 m.op] w fun e w' => e = .returned (.tuple #[.agg #[.int .i64 (opA k), .string (wdA k), .int .i64 (tkA k)], .bool true]) ∧ Below w.heap.size w w') := fun w => by have := callOf_some k w hk; rwa [ho] at this ⊢
  have Tl : Hid (∀ (o th op : Int) (wd : ByteArray) w, Calls Tryz.prog 62 #[.agg #[.int .i64 o, .string wd, .int .i64 (tkA k)], .agg #[.int .i64 th, .int .i64 op, .int .i64 m.arg, .int .i64 m.data]] w fun e w' => e = .returned (.bool false) ∧ Below w.heap.size w w') := fun o th op wd w => by
    have := tells_any o wd (tkA k) th op m.arg m.data w
    rw [← tel_eq, ht] at this
    exact this
  have D : Hid (∀ w (a : Option Addr), Env w → Left w.heap.size w a 4 4 [m.th, m.op, m.arg, m.data] → Calls Tryz.prog 28 #[.string ⟨#[48, 32, 111, 112, 32, 48, 32, 48, 32, 48]⟩, .slice a 4 4] w fun e w' => e = .returned (.string ⟨(callLn m).toArray⟩) ∧ Below w.heap.size w w') := by
    intro w a E hL
    have hf : callLn m = fil fOp [m.th, m.op, m.arg, m.data] ++ [10] := by unfold callLn; rw [hr]; simp [ht]
    rw [hf]
    exact filled_any ⟨#[48, 32, 111, 112, 32, 48, 32, 48, 32, 48]⟩ a 4 4 [m.th, m.op, m.arg, m.data] w E hL (by simp; exact hm) fOp_ok.1 fOp_ok.2.1 (by decide)
  replace E := Mr.hid E
  clear hm hr ht ho hk
  obtain ⟨th, op, ar, da⟩ := m
  generalize (callLn ⟨th, op, ar, da⟩).toArray = T at *
  unfold mvV
  dsimp only at *
  generalize opA k = xo at *
  generalize wdA k = xw at *
  generalize tkA k = xt at *
  go_enter Tryz.func46, Tryz.ntmps46
  go_upto_region 2 with (go_at_call 61; refine (C.out _).mono ?_; clear C; rintro e w1 ⟨rfl, B1⟩)
  have hb : w1.heap[w.heap.size]? = some (.cells #[.int .i64 th, .int .i64 op, .int .i64 ar, .int .i64 da] 42 (0, 0)) := (B1.block _ (by simp)).trans (new_at _ _ _ rfl)
  have hlt : w.heap.size < w1.heap.size := Nat.lt_of_lt_of_le (by simp) B1.size
  have c0 := cell_blk hb 0
  have c1 := cell_blk hb 1
  have c2 := cell_blk hb 2
  have c3 := cell_blk hb 3
  have BB : Hid (Below w.heap.size w w1) := ((Below.refl _ _).alloc (Nat.le_refl _) _).trans (B1.mono (by simp))
  replace hb := Mr.hid hb
  clear B1
  go_upto_region 4 with (go_at_call 62; refine (Tl.out _ _ _ _ _).mono ?_; clear Tl; rintro e w2 ⟨rfl, B2⟩)
  have B1 : Hid (Below w.heap.size w w2) := (BB.out.alloc (Nat.le_of_lt hlt) _).trans (B2.mono (by simp; omega))
  have hb2 : w2.heap[w.heap.size]? = some (.cells #[.int .i64 th, .int .i64 op, .int .i64 ar, .int .i64 da] 42 (0, 0)) := (B2.block _ (by simp; omega)).trans ((Lib.alloc_old w1 _ _ hlt).trans hb.out)
  have hlt2 : w.heap.size < w2.heap.size := (Array.getElem?_eq_some_iff.1 hb2).1
  have d0 := cell_blk hb2 0
  have d1 := cell_blk hb2 1
  have d2 := cell_blk hb2 2
  have d3 := cell_blk hb2 3
  clear hb hb2 B2 BB c0 c1 c2 c3
  have D1 := fun (W : World) => D.out W (some ⟨w2.heap.size, 0, none⟩)
  replace D1 := Mr.hid D1
  clear D
  go_wp2_with (go_at_call 28; refine (D1.out _ ?cE ?cL).mono ?_)
  case cE => exact E.out.below (B1.out.alloc (Nat.le_of_lt hlt2) _)
  case cL => exact left_new [th, op, ar, da] (new_at _ _ _ rfl) rfl
  rintro e w3 ⟨rfl, B3⟩
  go_wp2
  go_ret
  exact ⟨rfl, (B1.out.alloc (Nat.le_of_lt hlt2) _).trans (B3.mono (by simp; omega))⟩
set_option maxHeartbeats 8000000 in
theorem callLine_word (m : Mv) (k : Nat) (w : World) (E : Env w) (hm : MvB m) (hr : rowOf m.op = some k) (ht : tels k m = true) :
    Calls Tryz.prog 46 #[mvV m] w fun e w' => e = .returned (.string ⟨(callLn m).toArray⟩) ∧ Below w.heap.size w w' := by
  obtain ⟨hk, ho⟩ := rowOf_some hr
  obtain ⟨z1, z2, z3, z4, z5, z6⟩ := fCall_ok k hk
  obtain ⟨tk, htk⟩ : ∃ tk : Nat, tkA k = tk := ⟨(tkA k).toNat, by omega⟩
  have C : Hid (∀ w, Calls Tryz.prog 61 #[.int .i64 m.op] w fun e w' => e = .returned (.tuple #[.agg #[.int .i64 (opA k), .string (wdA k), .int .i64 (tk : Int)], .bool true]) ∧ Below w.heap.size w w') := fun w => by have := callOf_some k w hk; rw [htk] at this; rw [ho] at this ⊢; exact this
  have Tl : Hid (∀ (o th op : Int) (wd : ByteArray) w, Calls Tryz.prog 62 #[.agg #[.int .i64 o, .string wd, .int .i64 (tk : Int)], .agg #[.int .i64 th, .int .i64 op, .int .i64 m.arg, .int .i64 m.data]] w fun e w' => e = .returned (.bool true) ∧ Below w.heap.size w w') := fun o th op wd w => by
    have := tells_any o wd (tkA k) th op m.arg m.data w
    rw [← tel_eq, ht, htk] at this
    exact this
  have hfc : fWd (wdA k).data.toList tk = fCall k := by unfold fWd fCall; rw [htk]; rfl
  have Fm : Hid (∀ w, Calls Tryz.prog 63 #[.agg #[.int .i64 (opA k), .string (wdA k), .int .i64 (tk : Int)]] w fun e w' => e = .returned (.string ⟨(fCall k).toArray⟩) ∧ Below w.heap.size w w') := fun w => by
    have := form_any (opA k) (wdA k) tk w z4 (by omega)
    rwa [hfc] at this
  have D : Hid (∀ w (a : Option Addr), Env w → Left w.heap.size w a 3 3 [m.th, m.arg, m.data] → Calls Tryz.prog 28 #[.string ⟨(fCall k).toArray⟩, .slice a 3 3] w fun e w' => e = .returned (.string ⟨(callLn m).toArray⟩) ∧ Below w.heap.size w w') := by
    intro w a E hL
    have hf : callLn m = fil (fCall k) [m.th, m.arg, m.data] ++ [10] := by unfold callLn; rw [hr]; simp [ht]
    rw [hf]
    have := filled_any ⟨(fCall k).toArray⟩ a 3 3 [m.th, m.arg, m.data] w E hL (by simp; exact ⟨hm.1, hm.2.2⟩) (by simpa using z1) (by simpa using z2) (by simp [ByteArray.size]; omega)
    simpa using this
  replace E := Mr.hid E
  clear hm hr ht ho z1 z2 z3 z4 z5 z6 hfc
  obtain ⟨th, op, ar, da⟩ := m
  generalize (callLn ⟨th, op, ar, da⟩).toArray = T at *
  unfold mvV
  dsimp only at *
  clear htk
  generalize opA k = xo at *
  generalize wdA k = xw at *
  generalize (⟨(fCall k).toArray⟩ : ByteArray) = fc at *
  go_enter Tryz.func46, Tryz.ntmps46
  go_upto_region 2 with (go_at_call 61; refine (C.out _).mono ?_; clear C; rintro e w1 ⟨rfl, B1⟩)
  have hb : w1.heap[w.heap.size]? = some (.cells #[.int .i64 th, .int .i64 op, .int .i64 ar, .int .i64 da] 42 (0, 0)) := (B1.block _ (by simp)).trans (new_at _ _ _ rfl)
  have hlt : w.heap.size < w1.heap.size := Nat.lt_of_lt_of_le (by simp) B1.size
  have c0 := cell_blk hb 0
  have c1 := cell_blk hb 1
  have c2 := cell_blk hb 2
  have c3 := cell_blk hb 3
  have BB : Hid (Below w.heap.size w w1) := ((Below.refl _ _).alloc (Nat.le_refl _) _).trans (B1.mono (by simp))
  replace hb := Mr.hid hb
  clear B1
  go_upto_region 3 with (go_at_call 62; refine (Tl.out _ _ _ _ _).mono ?_; clear Tl; rintro e w2 ⟨rfl, B2⟩)
  have B1 : Hid (Below w.heap.size w w2) := (BB.out.alloc (Nat.le_of_lt hlt) _).trans (B2.mono (by simp; omega))
  have hb2 : w2.heap[w.heap.size]? = some (.cells #[.int .i64 th, .int .i64 op, .int .i64 ar, .int .i64 da] 42 (0, 0)) := (B2.block _ (by simp; omega)).trans ((Lib.alloc_old w1 _ _ hlt).trans hb.out)
  have hc2 : w2.heap[w1.heap.size]? = some (.cells #[.int .i64 xo, .string xw, .int .i64 (tk : Int)] 116 (0, 0)) := (B2.block _ (by simp)).trans (new_at _ _ _ rfl)
  have hlt2 : w1.heap.size < w2.heap.size := (Array.getElem?_eq_some_iff.1 hc2).1
  clear hb B2 BB c0 c1 c2 c3
  generalize w1.heap.size = Bc at *
  have hlt0 : w.heap.size < w2.heap.size := (Array.getElem?_eq_some_iff.1 hb2).1
  have d0 : w2.cell? ⟨w.heap.size, 0, none⟩ = some (.int .i64 th) := cell_blk hb2 0
  have d1 : w2.cell? ⟨w.heap.size, 1, none⟩ = some (.int .i64 op) := cell_blk hb2 1
  have d2 : w2.cell? ⟨w.heap.size, 2, none⟩ = some (.int .i64 ar) := cell_blk hb2 2
  have d3 : w2.cell? ⟨w.heap.size, 3, none⟩ = some (.int .i64 da) := cell_blk hb2 3
  have d4 : w2.cell? ⟨Bc, 0, none⟩ = some (.int .i64 xo) := cell_blk hc2 0
  have d5 : w2.cell? ⟨Bc, 1, none⟩ = some (.string xw) := cell_blk hc2 1
  have d6 : w2.cell? ⟨Bc, 2, none⟩ = some (.int .i64 (tk : Int)) := cell_blk hc2 2
  clear hb2 hc2
  go_region_held3 (fun W => W.cell? ⟨w.heap.size, 0, none⟩ = some (.int .i64 th) ∧ W.cell? ⟨w.heap.size, 1, none⟩ = some (.int .i64 op) ∧ W.cell? ⟨w.heap.size, 2, none⟩ = some (.int .i64 ar) ∧ W.cell? ⟨w.heap.size, 3, none⟩ = some (.int .i64 da) ∧ W.cell? ⟨Bc, 0, none⟩ = some (.int .i64 xo) ∧ W.cell? ⟨Bc, 1, none⟩ = some (.string xw) ∧ W.cell? ⟨Bc, 2, none⟩ = some (.int .i64 (tk : Int))) (simp [*, go_sem])
    (first | (go_at_call 63; refine (Fm.out _).mono ?_; clear Fm; rintro e w3 ⟨rfl, B3⟩; have q0 : w3.cell? ⟨w.heap.size, 0, none⟩ = some (.int .i64 th) := (B3.cell (p := ⟨w.heap.size, 0, none⟩) (by simp; omega)).trans (by simp [*]); have q1 : w3.cell? ⟨w.heap.size, 1, none⟩ = some (.int .i64 op) := (B3.cell (p := ⟨w.heap.size, 1, none⟩) (by simp; omega)).trans (by simp [*]); have q2 : w3.cell? ⟨w.heap.size, 2, none⟩ = some (.int .i64 ar) := (B3.cell (p := ⟨w.heap.size, 2, none⟩) (by simp; omega)).trans (by simp [*]); have q3 : w3.cell? ⟨w.heap.size, 3, none⟩ = some (.int .i64 da) := (B3.cell (p := ⟨w.heap.size, 3, none⟩) (by simp; omega)).trans (by simp [*]); have q4 : w3.cell? ⟨Bc, 0, none⟩ = some (.int .i64 xo) := (B3.cell (p := ⟨Bc, 0, none⟩) (by simp; omega)).trans (by simp [*]); have q5 : w3.cell? ⟨Bc, 1, none⟩ = some (.string xw) := (B3.cell (p := ⟨Bc, 1, none⟩) (by simp; omega)).trans (by simp [*]); have q6 : w3.cell? ⟨Bc, 2, none⟩ = some (.int .i64 (tk : Int)) := (B3.cell (p := ⟨Bc, 2, none⟩) (by simp; omega)).trans (by simp [*]); have s3 : w.heap.size < w3.heap.size := Nat.lt_of_lt_of_le (by simp; omega) B3.size; have t3 : Bc < w3.heap.size := Nat.lt_of_lt_of_le (by simp; omega) B3.size; have X3 : Hid (Below w2.heap.size w2 w3) := (by first | exact ((Below.refl _ _).drew).trans B3 | exact (((Below.refl _ _).drew).alloc (Nat.le_refl _) _).trans (B3.mono (by simp))); replace B3 := Mr.hid B3) | (go_at_call 28; refine (D.out _ _ (by first | exact E.out.below ((B1.out.trans (X3.out.mono (Nat.le_of_lt hlt0))).alloc (Nat.le_of_lt s3) _) | exact E.out.below (B1.out.trans (X3.out.mono (Nat.le_of_lt hlt0)))) (by first | exact left_new [th, ar, da] (new_at _ _ _ rfl) rfl | exact left_new [th, ar, da] ((B3.out.block _ (by simp)).trans (new_at _ _ _ rfl)) rfl)).mono ?_; clear D; rintro e w4 ⟨rfl, B4⟩; have Y4 : Hid (Below w.heap.size w w4) := (by first | exact ((B1.out.trans (X3.out.mono (Nat.le_of_lt hlt0))).alloc (Nat.le_of_lt s3) _).trans (B4.mono (by simp; omega)) | exact (B1.out.trans (X3.out.mono (Nat.le_of_lt hlt0))).trans (B4.mono (Nat.le_of_lt s3))); have r0 : w4.cell? ⟨w.heap.size, 0, none⟩ = some (.int .i64 th) := (B4.cell (p := ⟨w.heap.size, 0, none⟩) (by simp; omega)).trans (by simp [*]); have r1 : w4.cell? ⟨w.heap.size, 1, none⟩ = some (.int .i64 op) := (B4.cell (p := ⟨w.heap.size, 1, none⟩) (by simp; omega)).trans (by simp [*]); have r2 : w4.cell? ⟨w.heap.size, 2, none⟩ = some (.int .i64 ar) := (B4.cell (p := ⟨w.heap.size, 2, none⟩) (by simp; omega)).trans (by simp [*]); have r3 : w4.cell? ⟨w.heap.size, 3, none⟩ = some (.int .i64 da) := (B4.cell (p := ⟨w.heap.size, 3, none⟩) (by simp; omega)).trans (by simp [*]); have r4 : w4.cell? ⟨Bc, 0, none⟩ = some (.int .i64 xo) := (B4.cell (p := ⟨Bc, 0, none⟩) (by simp; omega)).trans (by simp [*]); have r5 : w4.cell? ⟨Bc, 1, none⟩ = some (.string xw) := (B4.cell (p := ⟨Bc, 1, none⟩) (by simp; omega)).trans (by simp [*]); have r6 : w4.cell? ⟨Bc, 2, none⟩ = some (.int .i64 (tk : Int)) := (B4.cell (p := ⟨Bc, 2, none⟩) (by simp; omega)).trans (by simp [*])))
  all_goals (go_wp2; go_ret; exact ⟨rfl, Y4.out⟩)
theorem callLine_any (m : Mv) (w : World) (E : Env w) (hm : MvB m) :
    Calls Tryz.prog 46 #[mvV m] w fun e w' => e = .returned (.string ⟨(callLn m).toArray⟩) ∧ Below w.heap.size w w' := by
  cases hr : rowOf m.op with
  | none => exact callLine_none m w E hm hr
  | some k =>
    cases ht : tels k m with
    | false => exact callLine_op m k w E hm hr ht
    | true => exact callLine_word m k w E hm hr ht
end Go.Proofs.YtcomelbphdjnnaaGreatDoor.Sc
