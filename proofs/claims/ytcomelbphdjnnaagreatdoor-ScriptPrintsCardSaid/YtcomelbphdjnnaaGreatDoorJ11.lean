import Derived.Test.YtcomelbphdjnnaaGreatDoorJ05
/-
  SCRIPT: callLine.
-/
namespace Go.Proofs.YtcomelbphdjnnaaGreatDoor.Sc
open Go.RowKit Mr
set_option linter.unusedVariables false
set_option linter.unusedSimpArgs false
set_option maxRecDepth 100000
set_option maxHeartbeats 8000000 in
theorem callLine_none (m : Mv) (w : World) (E : Env w) (hm : MvB m) (hr : rowOf m.op = none) :
    Calls Tryz.prog 46 #[mvV m] w fun e w' => e = .returned (.string ⟨(callLn m).toArray⟩) ∧ Below w.heap.size w w' := by
  have C : Hid (∀ w, Calls Tryz.prog 61 #[.int .i64 m.op] w fun e w' => e = .returned (.tuple #[.agg #[.int .i64 0, .string ⟨#[]⟩, .int .i64 0], .bool false]) ∧ Below w.heap.size w w') := fun w => callOf_none m.op w (rowOf_none hr)
  have D : Hid (∀ w (a : Option Addr), Env w → Left w.heap.size w a 4 4 [m.th, m.op, m.arg, m.data] → Calls Tryz.prog 28 #[.string ⟨#[48, 32, 111, 112, 32, 48, 32, 48, 32, 48]⟩, .slice a 4 4] w fun e w' => e = .returned (.string ⟨(callLn m).toArray⟩) ∧ Below w.heap.size w w') := by
    intro w a E hL
    have hf : callLn m = fil fOp [m.th, m.op, m.arg, m.data] ++ [10] := by unfold callLn; rw [hr]
    rw [hf]
    exact filled_any ⟨#[48, 32, 111, 112, 32, 48, 32, 48, 32, 48]⟩ a 4 4 [m.th, m.op, m.arg, m.data] w E hL (by simp; exact hm) fOp_ok.1 fOp_ok.2.1 (by decide)
  replace E := Mr.hid E
  clear hm hr
  obtain ⟨th, op, ar, da⟩ := m
  generalize (callLn ⟨th, op, ar, da⟩).toArray = T at *
  unfold mvV
  dsimp only at *
  go_enter Tryz.func46, Tryz.ntmps46
  go_upto_region 2 with (go_at_call 61; refine (C.out _).mono ?_; clear C; rintro e w1 ⟨rfl, B1⟩)
  have hb : w1.heap[w.heap.size]? = some (.cells #[.int .i64 th, .int .i64 op, .int .i64 ar, .int .i64 da] 42 (0, 0)) := (B1.block _ (by simp)).trans (new_at _ _ _ rfl)
  have hlt : w.heap.size < w1.heap.size := Nat.lt_of_lt_of_le (by simp) B1.size
  have c0 := cell_blk hb 0
  have c1 := cell_blk hb 1
  have c2 := cell_blk hb 2
  have c3 := cell_blk hb 3
  have BB : Hid (Below w.heap.size w w1) := ((Below.refl _ _).alloc (Nat.le_refl _) _).trans (B1.mono (by simp))
  clear hb B1
  have D1 := fun (W : World) => D.out W (some ⟨w1.heap.size + 1, 0, none⟩)
  replace D1 := Mr.hid D1
  clear D
  go_wp2_with (go_at_call 28; refine (D1.out _ ?cE ?cL).mono ?_)
  case cE => exact E.out.below (BB.out.trans (((Below.refl _ _).alloc (Nat.le_of_lt hlt) _).alloc (by simp; omega) _))
  case cL => exact left_new [th, op, ar, da] (new_at _ _ _ (by simp)) rfl
  rintro e w3 ⟨rfl, B3⟩
  go_wp2
  go_ret
  exact ⟨rfl, (BB.out.trans (((Below.refl _ _).alloc (Nat.le_of_lt hlt) _).alloc (by simp; omega) _)).trans (B3.mono (by simp; omega))⟩
theorem tel_eq (k : Nat) (m : Mv) : tels k m = telB (tkA k) m.arg m.data := rfl
set_option maxHeartbeats 8000000 in
theorem callLine_op (m : Mv) (k : Nat) (w : World) (E : Env w) (hm : MvB m) (hr : rowOf m.op = some k) (ht : tels k m = false) :
    Calls Tryz.prog 46 #[mvV m] w fun e w' => e = .returned (.string ⟨(callLn m).toArray⟩) ∧ Below w.heap.size w w' := by
  obtain ⟨hk, ho⟩ := rowOf_some hr
  have C : Hid (∀ w, Calls Tryz.prog 61 #[.int .i64 m.op] w fun e w' => e = .returned (.tuple #[.agg #[.int .i64 (opA k), .string (wdA k), .int .i64 (tkA k)], .bool true]) ∧ Below w.heap.size w w') := fun w => by have := callOf_some k w hk; rwa [ho] at this ⊢
  have Tl : Hid (∀ (o th op : Int) (wd : ByteArray) w, Calls Tryz.prog 62 #[.agg #[.int .i64 o, .string wd, .int .i64 (tkA k)], .agg #[.int .i64 th, .int .i64 op, .int .i64 m.arg, .int .i64 m.data]] w fun e w' => e = .returned (.bool false) ∧ Below w.heap.size w w') := fun o th op wd w => by
    have := tells_any o wd (tkA k) th op m.arg m.data w
    rw [← tel_eq, ht] at this
    exact this
  have D : Hid (∀ w (a : Option Addr), Env w → Left w.heap.size w a 4 4 [m.th, m.op, m.arg, m.data] → Calls Tryz.prog 28 #[.string ⟨#[48, 32, 111, 112, 32, 48, 32, 48, 32, 48]⟩, .slice a 4 4] w fun e w' => e = .returned (.string ⟨(callLn m).toArray⟩) ∧ Below w.heap.size w w') := by
    intro w a E hL
    have hf : callLn m = fil fOp [m.th, m.op, m.arg, m.data] ++ [10] := by unfold callLn; rw [hr]; simp [ht]
    rw [hf]
    exact filled_any ⟨#[48, 32, 111, 112, 32, 48, 32, 48, 32, 48]⟩ a 4 4 [m.th, m.op, m.arg, m.data] w E hL (by simp; exact hm) fOp_ok.1 fOp_ok.2.1 (by decide)
  replace E := Mr.hid E
  clear hm hr ht ho hk
  obtain ⟨th, op, ar, da⟩ := m
  generalize (callLn ⟨th, op, ar, da⟩).toArray = T at *
  unfold mvV
  dsimp only at *
  generalize opA k = xo at *
  generalize wdA k = xw at *
  generalize tkA k = xt at *
  go_enter Tryz.func46, Tryz.ntmps46
  go_upto_region 2 with (go_at_call 61; refine (C.out _).mono ?_; clear C; rintro e w1 ⟨rfl, B1⟩)
  have hb : w1.heap[w.heap.size]? = some (.cells #[.int .i64 th, .int .i64 op, .int .i64 ar, .int .i64 da] 42 (0, 0)) := (B1.block _ (by simp)).trans (new_at _ _ _ rfl)
  have hlt : w.heap.size < w1.heap.size := Nat.lt_of_lt_of_le (by simp) B1.size
  have c0 := cell_blk hb 0
  have c1 := cell_blk hb 1
  have c2 := cell_blk hb 2
  have c3 := cell_blk hb 3
  have BB : Hid (Below w.heap.size w w1) := ((Below.refl _ _).alloc (Nat.le_refl _) _).trans (B1.mono (by simp))
  replace hb := Mr.hid hb
  clear B1
  go_upto_region 4 with (go_at_call 62; refine (Tl.out _ _ _ _ _).mono ?_; clear Tl; rintro e w2 ⟨rfl, B2⟩)
  have B1 : Hid (Below w.heap.size w w2) := (BB.out.alloc (Nat.le_of_lt hlt) _).trans (B2.mono (by simp; omega))
  have hb2 : w2.heap[w.heap.size]? = some (.cells #[.int .i64 th, .int .i64 op, .int .i64 ar, .int .i64 da] 42 (0, 0)) := (B2.block _ (by simp; omega)).trans ((Lib.alloc_old w1 _ _ hlt).trans hb.out)
  have hlt2 : w.heap.size < w2.heap.size := (Array.getElem?_eq_some_iff.1 hb2).1
  have d0 := cell_blk hb2 0
  have d1 := cell_blk hb2 1
  have d2 := cell_blk hb2 2
  have d3 := cell_blk hb2 3
  clear hb hb2 B2 BB c0 c1 c2 c3
  have D1 := fun (W : World) => D.out W (some ⟨w2.heap.size, 0, none⟩)
  replace D1 := Mr.hid D1
  clear D
  go_wp2_with (go_at_call 28; refine (D1.out _ ?cE ?cL).mono ?_)
  case cE => exact E.out.below (B1.out.alloc (Nat.le_of_lt hlt2) _)
  case cL => exact left_new [th, op, ar, da] (new_at _ _ _ rfl) rfl
  rintro e w3 ⟨rfl, B3⟩
  go_wp2
  go_ret
  exact ⟨rfl, (B1.out.alloc (Nat.le_of_lt hlt2) _).trans (B3.mono (by simp; omega))⟩
set_option maxHeartbeats 8000000 in
theorem callLine_word (m : Mv) (k : Nat) (w : World) (E : Env w) (hm : MvB m) (hr : rowOf m.op = some k) (ht : tels k m = true) :
    Calls Tryz.prog 46 #[mvV m] w fun e w' => e = .returned (.string ⟨(callLn m).toArray⟩) ∧ Below w.heap.size w w' := by
  obtain ⟨hk, ho⟩ := rowOf_some hr
  obtain ⟨z1, z2, z3, z4, z5, z6⟩ := fCall_ok k hk
  obtain ⟨tk, htk⟩ : ∃ tk : Nat, tkA k = tk := ⟨(tkA k).toNat, by omega⟩
  have C : Hid (∀ w, Calls Tryz.prog 61 #[.int .i64 m.op] w fun e w' => e = .returned (.tuple #[.agg #[.int .i64 (opA k), .string (wdA k), .int .i64 (tk : Int)], .bool true]) ∧ Below w.heap.size w w') := fun w => by have := callOf_some k w hk; rw [htk] at this; rw [ho] at this ⊢; exact this
  have Tl : Hid (∀ (o th op : Int) (wd : ByteArray) w, Calls Tryz.prog 62 #[.agg #[.int .i64 o, .string wd, .int .i64 (tk : Int)], .agg #[.int .i64 th, .int .i64 op, .int .i64 m.arg, .int .i64 m.data]] w fun e w' => e = .returned (.bool true) ∧ Below w.heap.size w w') := fun o th op wd w => by
    have := tells_any o wd (tkA k) th op m.arg m.data w
    rw [← tel_eq, ht, htk] at this
    exact this
  have hfc : fWd (wdA k).data.toList tk = fCall k := by unfold fWd fCall; rw [htk]; rfl
  have Fm : Hid (∀ w, Calls Tryz.prog 63 #[.agg #[.int .i64 (opA k), .string (wdA k), .int .i64 (tk : Int)]] w fun e w' => e = .returned (.string ⟨(fCall k).toArray⟩) ∧ Below w.heap.size w w') := fun w => by
    have := form_any (opA k) (wdA k) tk w z4 (by omega)
    rwa [hfc] at this
  have D : Hid (∀ w (a : Option Addr), Env w → Left w.heap.size w a 3 3 [m.th, m.arg, m.data] → Calls Tryz.prog 28 #[.string ⟨(fCall k).toArray⟩, .slice a 3 3] w fun e w' => e = .returned (.string ⟨(callLn m).toArray⟩) ∧ Below w.heap.size w w') := by
    intro w a E hL
    have hf : callLn m = fil (fCall k) [m.th, m.arg, m.data] ++ [10] := by unfold callLn; rw [hr]; simp [ht]
    rw [hf]
    have := filled_any ⟨(fCall k).toArray⟩ a 3 3 [m.th, m.arg, m.data] w E hL (by simp; exact ⟨hm.1, hm.2.2⟩) (by simpa using z1) (by simpa using z2) (by simp [ByteArray.size]; omega)
    simpa using this
  replace E := Mr.hid E
  clear hm hr ht ho z1 z2 z3 z4 z5 z6 hfc
  obtain ⟨th, op, ar, da⟩ := m
  generalize (callLn ⟨th, op, ar, da⟩).toArray = T at *
  unfold mvV
  dsimp only at *
  clear htk
  generalize opA k = xo at *
  generalize wdA k = xw at *
  generalize (⟨(fCall k).toArray⟩ : ByteArray) = fc at *
  go_enter Tryz.func46, Tryz.ntmps46
  go_upto_region 2 with (go_at_call 61; refine (C.out _).mono ?_; clear C; rintro e w1 ⟨rfl, B1⟩)
  have hb : w1.heap[w.heap.size]? = some (.cells #[.int .i64 th, .int .i64 op, .int .i64 ar, .int .i64 da] 42 (0, 0)) := (B1.block _ (by simp)).trans (new_at _ _ _ rfl)
  have hlt : w.heap.size < w1.heap.size := Nat.lt_of_lt_of_le (by simp) B1.size
  have c0 := cell_blk hb 0
  have c1 := cell_blk hb 1
  have c2 := cell_blk hb 2
  have c3 := cell_blk hb 3
  have BB : Hid (Below w.heap.size w w1) := ((Below.refl _ _).alloc (Nat.le_refl _) _).trans (B1.mono (by simp))
  replace hb := Mr.hid hb
  clear B1
  go_upto_region 3 with (go_at_call 62; refine (Tl.out _ _ _ _ _).mono ?_; clear Tl; rintro e w2 ⟨rfl, B2⟩)
  have B1 : Hid (Below w.heap.size w w2) := (BB.out.alloc (Nat.le_of_lt hlt) _).trans (B2.mono (by simp; omega))
  have hb2 : w2.heap[w.heap.size]? = some (.cells #[.int .i64 th, .int .i64 op, .int .i64 ar, .int .i64 da] 42 (0, 0)) := (B2.block _ (by simp; omega)).trans ((Lib.alloc_old w1 _ _ hlt).trans hb.out)
  have hc2 : w2.heap[w1.heap.size]? = some (.cells #[.int .i64 xo, .string xw, .int .i64 (tk : Int)] 116 (0, 0)) := (B2.block _ (by simp)).trans (new_at _ _ _ rfl)
  have hlt2 : w1.heap.size < w2.heap.size := (Array.getElem?_eq_some_iff.1 hc2).1
  clear hb B2 BB c0 c1 c2 c3
  generalize w1.heap.size = Bc at *
  have hlt0 : w.heap.size < w2.heap.size := (Array.getElem?_eq_some_iff.1 hb2).1
  have d0 : w2.cell? ⟨w.heap.size, 0, none⟩ = some (.int .i64 th) := cell_blk hb2 0
  have d1 : w2.cell? ⟨w.heap.size, 1, none⟩ = some (.int .i64 op) := cell_blk hb2 1
  have d2 : w2.cell? ⟨w.heap.size, 2, none⟩ = some (.int .i64 ar) := cell_blk hb2 2
  have d3 : w2.cell? ⟨w.heap.size, 3, none⟩ = some (.int .i64 da) := cell_blk hb2 3
  have d4 : w2.cell? ⟨Bc, 0, none⟩ = some (.int .i64 xo) := cell_blk hc2 0
  have d5 : w2.cell? ⟨Bc, 1, none⟩ = some (.string xw) := cell_blk hc2 1
  have d6 : w2.cell? ⟨Bc, 2, none⟩ = some (.int .i64 (tk : Int)) := cell_blk hc2 2
  clear hb2 hc2
  go_region_held3 (fun W => W.cell? ⟨w.heap.size, 0, none⟩ = some (.int .i64 th) ∧ W.cell? ⟨w.heap.size, 1, none⟩ = some (.int .i64 op) ∧ W.cell? ⟨w.heap.size, 2, none⟩ = some (.int .i64 ar) ∧ W.cell? ⟨w.heap.size, 3, none⟩ = some (.int .i64 da) ∧ W.cell? ⟨Bc, 0, none⟩ = some (.int .i64 xo) ∧ W.cell? ⟨Bc, 1, none⟩ = some (.string xw) ∧ W.cell? ⟨Bc, 2, none⟩ = some (.int .i64 (tk : Int))) (simp [*, go_sem])
    (first | (go_at_call 63; refine (Fm.out _).mono ?_; clear Fm; rintro e w3 ⟨rfl, B3⟩; have q0 : w3.cell? ⟨w.heap.size, 0, none⟩ = some (.int .i64 th) := (B3.cell (p := ⟨w.heap.size, 0, none⟩) (by simp; omega)).trans (by simp [*]); have q1 : w3.cell? ⟨w.heap.size, 1, none⟩ = some (.int .i64 op) := (B3.cell (p := ⟨w.heap.size, 1, none⟩) (by simp; omega)).trans (by simp [*]); have q2 : w3.cell? ⟨w.heap.size, 2, none⟩ = some (.int .i64 ar) := (B3.cell (p := ⟨w.heap.size, 2, none⟩) (by simp; omega)).trans (by simp [*]); have q3 : w3.cell? ⟨w.heap.size, 3, none⟩ = some (.int .i64 da) := (B3.cell (p := ⟨w.heap.size, 3, none⟩) (by simp; omega)).trans (by simp [*]); have q4 : w3.cell? ⟨Bc, 0, none⟩ = some (.int .i64 xo) := (B3.cell (p := ⟨Bc, 0, none⟩) (by simp; omega)).trans (by simp [*]); have q5 : w3.cell? ⟨Bc, 1, none⟩ = some (.string xw) := (B3.cell (p := ⟨Bc, 1, none⟩) (by simp; omega)).trans (by simp [*]); have q6 : w3.cell? ⟨Bc, 2, none⟩ = some (.int .i64 (tk : Int)) := (B3.cell (p := ⟨Bc, 2, none⟩) (by simp; omega)).trans (by simp [*]); have s3 : w.heap.size < w3.heap.size := Nat.lt_of_lt_of_le (by simp; omega) B3.size; have t3 : Bc < w3.heap.size := Nat.lt_of_lt_of_le (by simp; omega) B3.size; have X3 : Hid (Below w2.heap.size w2 w3) := (by first | exact ((Below.refl _ _).drew).trans B3 | exact (((Below.refl _ _).drew).alloc (Nat.le_refl _) _).trans (B3.mono (by simp))); replace B3 := Mr.hid B3) | (go_at_call 28; refine (D.out _ _ (by first | exact E.out.below ((B1.out.trans (X3.out.mono (Nat.le_of_lt hlt0))).alloc (Nat.le_of_lt s3) _) | exact E.out.below (B1.out.trans (X3.out.mono (Nat.le_of_lt hlt0)))) (by first | exact left_new [th, ar, da] (new_at _ _ _ rfl) rfl | exact left_new [th, ar, da] ((B3.out.block _ (by simp)).trans (new_at _ _ _ rfl)) rfl)).mono ?_; clear D; rintro e w4 ⟨rfl, B4⟩; have Y4 : Hid (Below w.heap.size w w4) := (by first | exact ((B1.out.trans (X3.out.mono (Nat.le_of_lt hlt0))).alloc (Nat.le_of_lt s3) _).trans (B4.mono (by simp; omega)) | exact (B1.out.trans (X3.out.mono (Nat.le_of_lt hlt0))).trans (B4.mono (Nat.le_of_lt s3))); have r0 : w4.cell? ⟨w.heap.size, 0, none⟩ = some (.int .i64 th) := (B4.cell (p := ⟨w.heap.size, 0, none⟩) (by simp; omega)).trans (by simp [*]); have r1 : w4.cell? ⟨w.heap.size, 1, none⟩ = some (.int .i64 op) := (B4.cell (p := ⟨w.heap.size, 1, none⟩) (by simp; omega)).trans (by simp [*]); have r2 : w4.cell? ⟨w.heap.size, 2, none⟩ = some (.int .i64 ar) := (B4.cell (p := ⟨w.heap.size, 2, none⟩) (by simp; omega)).trans (by simp [*]); have r3 : w4.cell? ⟨w.heap.size, 3, none⟩ = some (.int .i64 da) := (B4.cell (p := ⟨w.heap.size, 3, none⟩) (by simp; omega)).trans (by simp [*]); have r4 : w4.cell? ⟨Bc, 0, none⟩ = some (.int .i64 xo) := (B4.cell (p := ⟨Bc, 0, none⟩) (by simp; omega)).trans (by simp [*]); have r5 : w4.cell? ⟨Bc, 1, none⟩ = some (.string xw) := (B4.cell (p := ⟨Bc, 1, none⟩) (by simp; omega)).trans (by simp [*]); have r6 : w4.cell? ⟨Bc, 2, none⟩ = some (.int .i64 (tk : Int)) := (B4.cell (p := ⟨Bc, 2, none⟩) (by simp; omega)).trans (by simp [*])))
  all_goals (go_wp2; go_ret; exact ⟨rfl, Y4.out⟩)
theorem callLine_any (m : Mv) (w : World) (E : Env w) (hm : MvB m) :
    Calls Tryz.prog 46 #[mvV m] w fun e w' => e = .returned (.string ⟨(callLn m).toArray⟩) ∧ Below w.heap.size w w' := by
  cases hr : rowOf m.op with
  | none => exact callLine_none m w E hm hr
  | some k =>
    cases ht : tels k m with
    | false => exact callLine_op m k w E hm hr ht
    | true => exact callLine_word m k w E hm hr ht
end Go.Proofs.YtcomelbphdjnnaaGreatDoor.Sc
/-
  SCRIPT: stepsAhead, nextLine.
-/
namespace Go.Proofs.YtcomelbphdjnnaaGreatDoor.Sc
open Go.RowKit Mr
set_option linter.unusedVariables false
set_option linter.unusedSimpArgs false
set_option maxRecDepth 100000
theorem neq_mv (a b c d a' b' c' d' : Int) (W : World) : (binOp .neq 42 (.agg #[.int .i64 a, .int .i64 b, .int .i64 c, .int .i64 d]) (.agg #[.int .i64 a', .int .i64 b', .int .i64 c', .int .i64 d'])).run Tryz.prog W = .ok (.bool (!(decide (a = a') && decide (b = b') && decide (c = c') && decide (d = d')))) W := by
  by_cases h1 : a = a' <;> by_cases h2 : b = b' <;> by_cases h3 : c = c' <;> by_cases h4 : d = d' <;> simp [go_sem, h1, h2, h3, h4]
theorem stepsOf_drop (t : Int) : ∀ (i : Nat) (l : List Mv), (∀ j, j < i → ∀ m, l[j]? = some m → m = stp t) → i ≤ l.length → stepsOf t l = i + stepsOf t (l.drop i)
  | 0, l, _, _ => by simp
  | i + 1, [], _, h => by simp at h
  | i + 1, m :: r, h, hl => by
    have h0 := h 0 (by omega) m rfl
    have := stepsOf_drop t i r (fun j hj m' hm' => h (j + 1) (by omega) m' (by simpa using hm')) (by simpa using hl)
    simp only [stepsOf, h0, if_true, List.drop_succ_cons]
    omega
set_option maxHeartbeats 8000000 in
theorem stepsAhead_any (m : Mv) (r : List Mv) (a : Option Addr) (n c : Nat) (w : World) (hM : MvAt w a n (m :: r)) (hn : n ≤ 1000000000000) :
    Calls Tryz.prog 45 #[.slice a n c] w fun e w' => e = .returned (.int .i64 (stepsOf m.th (m :: r) : Int)) ∧ Below w.heap.size w w' := by
  have hl := hM.1
  obtain ⟨g, o, rfl, hg, hc⟩ := hM.2.resolve_left (by simp)
  obtain ⟨c0, -, -, -⟩ := hc 0 (by simp)
  simp only [Nat.zero_mul, Nat.add_zero, List.getElem?_cons_zero, Option.getD_some] at c0
  have hp : 0 < n := by rw [hl]; simp
  have hpI : (0 : Int) < (n : Int) := by omega
  generalize hms : m :: r = ms at *
  generalize m.th = t at *
  replace hc := Mr.hid hc
  replace hl := Mr.hid hl
  replace hM := Mr.hid hM
  clear hms
  have So : Hid (∀ w, Calls Tryz.prog 60 #[.int .i64 t] w fun e w' => e = .returned (.agg #[.int .i64 t, .int .i64 0, .int .i64 0, .int .i64 0]) ∧ Below w.heap.size w w') := fun w => stepOf_any t w
  go_enter Tryz.func45, Tryz.ntmps45
  go_upto_region 3 with (go_at_call 60; refine (So.out _).mono ?_; clear So; rintro e w1 ⟨rfl, B1⟩)
  replace B1 := Mr.hid B1
  go_loopg [13] n (fun gk s13 wr => ∃ i : Nat, s13 = .int .i64 (i : Int) ∧ i + gk = n ∧ Below (w1.heap.size + 1) (w1.alloc (.cells #[.int .i64 t, .int .i64 0, .int .i64 0, .int .i64 0] 42)) wr ∧ ∀ j, j < i → ∀ x, ms[j]? = some x → x = stp t)
  case atStart => exact ⟨0, rfl, by omega, by simpa using Below.refl _ _, fun j hj => by omega⟩
  case round =>
    obtain ⟨i, rfl, hi, B, hall⟩ := hrel
    have hs : w1.heap.size + 1 ≤ wr.heap.size := by have := B.size; simpa using this
    have hst : wr.heap[w1.heap.size]? = some (.cells #[.int .i64 t, .int .i64 0, .int .i64 0, .int .i64 0] 42 (0, 0)) := (B.block _ (by omega)).trans (new_at _ _ _ rfl)
    have BB : Hid (Below w.heap.size w wr) := (B1.out.alloc B1.out.size _).trans (B.mono (by have := B1.out.size; omega))
    by_cases hlt : i < n
    · have hli : i < ms.length := by have := hl.out; omega
      obtain ⟨x, hx⟩ : ∃ x, ms[i]? = some x := ⟨ms[i], List.getElem?_eq_getElem hli⟩
      obtain ⟨d0, d1, d2, d3⟩ := hc.out i hli
      rw [hx] at d0 d1 d2 d3
      simp only [Option.getD_some] at d0 d1 d2 d3
      obtain ⟨th, op, ar, da⟩ := x
      dsimp only at d0 d1 d2 d3
      have q0 : wr.cell? ⟨g, o + i * 4, none⟩ = some (.int .i64 th) := (BB.out.cell (p := ⟨g, _, none⟩) hg).trans d0
      have q1 : wr.cell? ⟨g, o + i * 4 + 1, none⟩ = some (.int .i64 op) := (BB.out.cell (p := ⟨g, _, none⟩) hg).trans d1
      have q2 : wr.cell? ⟨g, o + i * 4 + 2, none⟩ = some (.int .i64 ar) := (BB.out.cell (p := ⟨g, _, none⟩) hg).trans d2
      have q3 : wr.cell? ⟨g, o + i * 4 + 3, none⟩ = some (.int .i64 da) := (BB.out.cell (p := ⟨g, _, none⟩) hg).trans d3
      have e0 : wr.cell? ⟨w1.heap.size, 0, none⟩ = some (.int .i64 t) := cell_blk hst 0
      have e1 : wr.cell? ⟨w1.heap.size, 1, none⟩ = some (.int .i64 0) := cell_blk hst 1
      have e2 : wr.cell? ⟨w1.heap.size, 2, none⟩ = some (.int .i64 0) := cell_blk hst 2
      have e3 : wr.cell? ⟨w1.heap.size, 3, none⟩ = some (.int .i64 0) := cell_blk hst 3
      have hgw : g < wr.heap.size := Nat.lt_of_lt_of_le hg BB.out.size
      have hw1s : w1.heap.size < wr.heap.size := by omega
      have hlI : (i : Int) < (n : Int) := by omega
      have dl : decide ((i : Int) < (n : Int)) = true := by simpa using hlI
      have hw : IntKind.i64.wrap ((i : Int) + 1) = (i : Int) + 1 := i64x _ (by omega) (by omega)
      have hi' := Mr.hid hi
      have hall' := Mr.hid hall
      have hx' := Mr.hid hx
      have B' := Mr.hid B
      clear d0 d1 d2 d3 hst B hall hx hi hli hlt
      by_cases hq : (decide (th = t) && decide (op = 0) && decide (ar = 0) && decide (da = 0)) = true
      · have hnq : ∀ W, (binOp .neq 42 (.agg #[.int .i64 th, .int .i64 op, .int .i64 ar, .int .i64 da]) (.agg #[.int .i64 t, .int .i64 0, .int .i64 0, .int .i64 0])).run Tryz.prog W = .ok (.bool false) W := fun W => by rw [neq_mv, hq]; rfl
        have hq' : Hid ((⟨th, op, ar, da⟩ : Mv) = stp t) := by
          simp at hq
          obtain ⟨⟨⟨rfl, rfl⟩, rfl⟩, rfl⟩ := hq
          exact rfl
        clear hq
        go_wp2
        go_roundg (gk - 1)
        case measure => have := hi'.out; omega
        case rel =>
          refine ⟨i + 1, by simp, by have := hi'.out; omega, B'.out.alloc (by omega) _, fun j hj x hx => ?_⟩
          by_cases e : j = i
          · rw [e, hx'.out] at hx
            cases hx
            exact hq'.out
          · exact hall'.out j (by omega) x hx
      · rw [Bool.not_eq_true] at hq
        have hnq : ∀ W, (binOp .neq 42 (.agg #[.int .i64 th, .int .i64 op, .int .i64 ar, .int .i64 da]) (.agg #[.int .i64 t, .int .i64 0, .int .i64 0, .int .i64 0])).run Tryz.prog W = .ok (.bool true) W := fun W => by rw [neq_mv, hq]; rfl
        have hq' : Hid (stepsOf t ms = i) := by
          show _ = _
          have h1 := stepsOf_drop t i ms hall'.out (by have := hi'.out; have := hl.out; omega)
          have h2 : ms.drop i = ⟨th, op, ar, da⟩ :: ms.drop (i + 1) := by
            obtain ⟨h3, h4⟩ := List.getElem?_eq_some_iff.1 hx'.out
            rw [List.drop_eq_getElem_cons h3, h4]
          rw [h2] at h1
          have h5 : ¬ ((⟨th, op, ar, da⟩ : Mv) = stp t) := by
            intro e
            unfold stp at e
            injection e with a1 a2 a3 a4
            simp [a1, a2, a3, a4] at hq
          simp only [stepsOf, h5, if_false] at h1
          omega
        clear hq
        go_wp2
        go_ret
        refine ⟨by rw [hq'.out]; rfl, BB.out.alloc (by have := B1.out.size; omega) _⟩
    · have hq' : Hid (stepsOf t ms = n) := by
        show _ = _
        have h1 := stepsOf_drop t i ms hall (by have := hl.out; omega)
        have h2 : ms.drop i = [] := List.drop_eq_nil_of_le (by have := hl.out; omega)
        rw [h2] at h1
        simp only [stepsOf] at h1
        omega
      have dl : decide ((i : Int) < (n : Int)) = false := decide_eq_false (by omega)
      have hlI : ¬ (i : Int) < (n : Int) := by omega
      clear hst B hall hi hlt
      go_wp2
      go_ret
      exact ⟨by rw [hq'.out]; rfl, BB.out⟩
end Go.Proofs.YtcomelbphdjnnaaGreatDoor.Sc
