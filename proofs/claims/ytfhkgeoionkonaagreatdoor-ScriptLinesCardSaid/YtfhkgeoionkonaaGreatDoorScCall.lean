/-
  SCRIPT: callLine.
-/
import Derived.Test.YtfhkgeoionkonaaGreatDoorScLine
namespace Go.Proofs.YtfhkgeoionkonaaGreatDoor.Sc
open Go.RowKit Mr
set_option linter.unusedVariables false
set_option linter.unusedSimpArgs false
set_option maxRecDepth 100000
set_option maxHeartbeats 8000000 in
theorem callLine_none (m : Mv) (w : World) (E : Env w) (hm : MvB m) (hr : rowOf m.op = none) :
    Calls Tryz.prog 51 #[mvV m] w fun e w' => e = .returned (.string ⟨(callLn m).toArray⟩) ∧ Below w.heap.size w w' := by
  have C : Hid (∀ w, Calls Tryz.prog 63 #[.int .i64 m.op] w fun e w' => e = .returned (.tuple #[.agg #[.int .i64 0, .string ⟨#[]⟩, .int .i64 0], .bool false]) ∧ Below w.heap.size w w') := fun w => callOf_none m.op w (rowOf_none hr)
  have D : Hid (∀ w (a : Option Addr), Env w → Left w.heap.size w a 4 4 [m.th, m.op, m.arg, m.data] → Calls Tryz.prog 34 #[.string ⟨#[48, 32, 111, 112, 32, 48, 32, 48, 32, 48]⟩, .slice a 4 4] w fun e w' => e = .returned (.string ⟨(callLn m).toArray⟩) ∧ Below w.heap.size w w') := by
    intro w a E hL
    have hf : callLn m = fil fOp [m.th, m.op, m.arg, m.data] ++ [10] := by unfold callLn; rw [hr]
    rw [hf]
    exact filled_any ⟨#[48, 32, 111, 112, 32, 48, 32, 48, 32, 48]⟩ a 4 4 [m.th, m.op, m.arg, m.data] w E hL (by simp; exact hm) fOp_ok.1 fOp_ok.2.1 (by decide)
  replace E := Mr.hid E
  clear hm hr
  obtain ⟨th, op, ar, da⟩ := m
  generalize (callLn ⟨th, op, ar, da⟩).toArray = T at *
  unfold mvV
  dsimp only at *
  go_enter Tryz.func51, Tryz.ntmps51
  go_upto_region 2 with (go_at_call 63; refine (C.out _).mono ?_; clear C; rintro e w1 ⟨rfl, B1⟩)
  have hb : w1.heap[w.heap.size]? = some (.cells #[.int .i64 th, .int .i64 op, .int .i64 ar, .int .i64 da] 38 (0, 0)) := (B1.block _ (by simp)).trans (new_at _ _ _ rfl)
  have hlt : w.heap.size < w1.heap.size := Nat.lt_of_lt_of_le (by simp) B1.size
  have c0 := cell_blk hb 0
  have c1 := cell_blk hb 1
  have c2 := cell_blk hb 2
  have c3 := cell_blk hb 3
  have BB : Hid (Below w.heap.size w w1) := ((Below.refl _ _).alloc (Nat.le_refl _) _).trans (B1.mono (by simp))
  clear hb B1
  have D1 := fun (W : World) => D.out W (some ⟨w1.heap.size + 1, 0, none⟩)
  replace D1 := Mr.hid D1
  clear D
  go_wp2_with (go_at_call 34; refine (D1.out _ ?cE ?cL).mono ?_)
  case cE => exact E.out.below (BB.out.trans (((Below.refl _ _).alloc (Nat.le_of_lt hlt) _).alloc (by simp; omega) _))
  case cL => exact left_new [th, op, ar, da] (new_at _ _ _ (by simp)) rfl
  rintro e w3 ⟨rfl, B3⟩
  go_wp2
  go_ret
  exact ⟨rfl, (BB.out.trans (((Below.refl _ _).alloc (Nat.le_of_lt hlt) _).alloc (by simp; omega) _)).trans (B3.mono (by simp; omega))⟩
theorem tel_eq (k : Nat) (m : Mv) : tels k m = telB (tkA k) m.arg m.data := rfl
set_option maxHeartbeats 8000000 in
theorem callLine_op (m : Mv) (k : Nat) (w : World) (E : Env w) (hm : MvB m) (hr : rowOf m.op = some k) (ht : tels k m = false) :
    Calls Tryz.prog 51 #[mvV m] w fun e w' => e = .returned (.string ⟨(callLn m).toArray⟩) ∧ Below w.heap.size w w' := by
  obtain ⟨hk, ho⟩ := rowOf_some hr
  have C : Hid (∀ w, Calls Tryz.prog 63 #[.int .i64 m.op] w fun e w' => e = .returned (.tuple #[.agg #[.int .i64 (opA k), .string (wdA k), .int .i64 (tkA k)], .bool true]) ∧ Below w.heap.size w w') := fun w => by have := callOf_some k w hk; rwa [ho] at this ⊢
  have Tl : Hid (∀ (o th op : Int) (wd : ByteArray) w, Calls Tryz.prog 64 #[.agg #[.int .i64 o, .string wd, .int .i64 (tkA k)], .agg #[.int .i64 th, .int .i64 op, .int .i64 m.arg, .int .i64 m.data]] w fun e w' => e = .returned (.bool false) ∧ Below w.heap.size w w') := fun o th op wd w => by
    have := tells_any o wd (tkA k) th op m.arg m.data w
    rw [← tel_eq, ht] at this
    exact this
  have D : Hid (∀ w (a : Option Addr), Env w → Left w.heap.size w a 4 4 [m.th, m.op, m.arg, m.data] → Calls Tryz.prog 34 #[.string ⟨#[48, 32, 111, 112, 32, 48, 32, 48, 32, 48]⟩, .slice a 4 4] w fun e w' => e = .returned (.string ⟨(callLn m).toArray⟩) ∧ Below w.heap.size w w') := by
    intro w a E hL
    have hf : callLn m = fil fOp [m.th, m.op, m.arg, m.data] ++ [10] := by unfold callLn; rw [hr]; simp [ht]
    rw [hf]
    exact filled_any ⟨#[48, 32, 111, 112, 32, 48, 32, 48, 32, 48]⟩ a 4 4 [m.th, m.op, m.arg, m.data] w E hL (by simp; exact hm) fOp_ok.1 fOp_ok.2.1 (by decide)
  replace E := Mr.hid E
  clear hm hr ht ho hk
  obtain ⟨th, op, ar, da⟩ := m
  generalize (callLn ⟨th, op, ar, da⟩).toArray = T at *
  unfold mvV
  dsimp only at *
  generalize opA k = xo at *
  generalize wdA k = xw at *
  generalize tkA k = xt at *
  go_enter Tryz.func51, Tryz.ntmps51
  go_upto_region 2 with (go_at_call 63; refine (C.out _).mono ?_; clear C; rintro e w1 ⟨rfl, B1⟩)
  have hb : w1.heap[w.heap.size]? = some (.cells #[.int .i64 th, .int .i64 op, .int .i64 ar, .int .i64 da] 38 (0, 0)) := (B1.block _ (by simp)).trans (new_at _ _ _ rfl)
  have hlt : w.heap.size < w1.heap.size := Nat.lt_of_lt_of_le (by simp) B1.size
  have c0 := cell_blk hb 0
  have c1 := cell_blk hb 1
  have c2 := cell_blk hb 2
  have c3 := cell_blk hb 3
  have BB : Hid (Below w.heap.size w w1) := ((Below.refl _ _).alloc (Nat.le_refl _) _).trans (B1.mono (by simp))
  replace hb := Mr.hid hb
  clear B1
  go_upto_region 4 with (go_at_call 64; refine (Tl.out _ _ _ _ _).mono ?_; clear Tl; rintro e w2 ⟨rfl, B2⟩)
  have B1 : Hid (Below w.heap.size w w2) := (BB.out.alloc (Nat.le_of_lt hlt) _).trans (B2.mono (by simp; omega))
  have hb2 : w2.heap[w.heap.size]? = some (.cells #[.int .i64 th, .int .i64 op, .int .i64 ar, .int .i64 da] 38 (0, 0)) := (B2.block _ (by simp; omega)).trans ((Lib.alloc_old w1 _ _ hlt).trans hb.out)
  have hlt2 : w.heap.size < w2.heap.size := (Array.getElem?_eq_some_iff.1 hb2).1
  have d0 := cell_blk hb2 0
  have d1 := cell_blk hb2 1
  have d2 := cell_blk hb2 2
  have d3 := cell_blk hb2 3
  clear hb hb2 B2 BB c0 c1 c2 c3
  have D1 := fun (W : World) => D.out W (some ⟨w2.heap.size, 0, none⟩)
  replace D1 := Mr.hid D1
  clear D
  go_wp2_with (go_at_call 34; refine (D1.out _ ?cE ?cL).mono ?_)
  case cE => exact E.out.below (B1.out.alloc (Nat.le_of_lt hlt2) _)
  case cL => exact left_new [th, op, ar, da] (new_at _ _ _ rfl) rfl
  rintro e w3 ⟨rfl, B3⟩
  go_wp2
  go_ret
  exact ⟨rfl, (B1.out.alloc (Nat.le_of_lt hlt2) _).trans (B3.mono (by simp; omega))⟩
set_option maxHeartbeats 8000000 in
theorem callLine_word (m : Mv) (k : Nat) (w : World) (E : Env w) (hm : MvB m) (hr : rowOf m.op = some k) (ht : tels k m = true) :
    Calls Tryz.prog 51 #[mvV m] w fun e w' => e = .returned (.string ⟨(callLn m).toArray⟩) ∧ Below w.heap.size w w' := by
  obtain ⟨hk, ho⟩ := rowOf_some hr
  obtain ⟨z1, z2, z3, z4, z5, z6⟩ := fCall_ok k hk
  obtain ⟨tk, htk⟩ : ∃ tk : Nat, tkA k = tk := ⟨(tkA k).toNat, by omega⟩
  have C : Hid (∀ w, Calls Tryz.prog 63 #[.int .i64 m.op] w fun e w' => e = .returned (.tuple #[.agg #[.int .i64 (opA k), .string (wdA k), .int .i64 (tk : Int)], .bool true]) ∧ Below w.heap.size w w') := fun w => by have := callOf_some k w hk; rw [htk] at this; rw [ho] at this ⊢; exact this
  have Tl : Hid (∀ (o th op : Int) (wd : ByteArray) w, Calls Tryz.prog 64 #[.agg #[.int .i64 o, .string wd, .int .i64 (tk : Int)], .agg #[.int .i64 th, .int .i64 op, .int .i64 m.arg, .int .i64 m.data]] w fun e w' => e = .returned (.bool true) ∧ Below w.heap.size w w') := fun o th op wd w => by
    have := tells_any o wd (tkA k) th op m.arg m.data w
    rw [← tel_eq, ht, htk] at this
    exact this
  have hfc : fWd (wdA k).data.toList tk = fCall k := by unfold fWd fCall; rw [htk]; rfl
  have Fm : Hid (∀ w, Calls Tryz.prog 65 #[.agg #[.int .i64 (opA k), .string (wdA k), .int .i64 (tk : Int)]] w fun e w' => e = .returned (.string ⟨(fCall k).toArray⟩) ∧ Below w.heap.size w w') := fun w => by
    have := form_any (opA k) (wdA k) tk w z4 (by omega)
    rwa [hfc] at this
  have D : Hid (∀ w (a : Option Addr), Env w → Left w.heap.size w a 3 3 [m.th, m.arg, m.data] → Calls Tryz.prog 34 #[.string ⟨(fCall k).toArray⟩, .slice a 3 3] w fun e w' => e = .returned (.string ⟨(callLn m).toArray⟩) ∧ Below w.heap.size w w') := by
    intro w a E hL
    have hf : callLn m = fil (fCall k) [m.th, m.arg, m.data] ++ [10] := by unfold callLn; rw [hr]; simp [ht]
    rw [hf]
    have := filled_any ⟨(fCall k).toArray⟩ a 3 3 [m.th, m.arg, m.data] w E hL (by simp; exact ⟨hm.1, hm.2.2⟩) (by simpa using z1) (by simpa using z2) (by simp [ByteArray.size]; omega)
    simpa using this
  replace E := Mr.hid E
  clear hm hr ht ho z1 z2 z3 z4 z5 z6 hfc
  obtain ⟨th, op, ar, da⟩ := m
  generalize (callLn ⟨th, op, ar, da⟩).toArray = T at *
  unfold mvV
  dsimp only at *
  clear htk
  generalize opA k = xo at *
  generalize wdA k = xw at *
  generalize (⟨(fCall k).toArray⟩ : ByteArray) = fc at *
  go_enter Tryz.func51, Tryz.ntmps51
  go_upto_region 2 with (go_at_call 63; refine (C.out _).mono ?_; clear C; rintro e w1 ⟨rfl, B1⟩)
  have hb : w1.heap[w.heap.size]? = some (.cells #[.int .i64 th, .int .i64 op, .int .i64 ar, .int .i64 da] 38 (0, 0)) := (B1.block _ (by simp)).trans (new_at _ _ _ rfl)
  have hlt : w.heap.size < w1.heap.size := Nat.lt_of_lt_of_le (by simp) B1.size
  have c0 := cell_blk hb 0
  have c1 := cell_blk hb 1
  have c2 := cell_blk hb 2
  have c3 := cell_blk hb 3
  have BB : Hid (Below w.heap.size w w1) := ((Below.refl _ _).alloc (Nat.le_refl _) _).trans (B1.mono (by simp))
  replace hb := Mr.hid hb
  clear B1
  go_upto_region 3 with (go_at_call 64; refine (Tl.out _ _ _ _ _).mono ?_; clear Tl; rintro e w2 ⟨rfl, B2⟩)
  have B1 : Hid (Below w.heap.size w w2) := (BB.out.alloc (Nat.le_of_lt hlt) _).trans (B2.mono (by simp; omega))
  have hb2 : w2.heap[w.heap.size]? = some (.cells #[.int .i64 th, .int .i64 op, .int .i64 ar, .int .i64 da] 38 (0, 0)) := (B2.block _ (by simp; omega)).trans ((Lib.alloc_old w1 _ _ hlt).trans hb.out)
  have hc2 : w2.heap[w1.heap.size]? = some (.cells #[.int .i64 xo, .string xw, .int .i64 (tk : Int)] 125 (0, 0)) := (B2.block _ (by simp)).trans (new_at _ _ _ rfl)
  have hlt2 : w1.heap.size < w2.heap.size := (Array.getElem?_eq_some_iff.1 hc2).1
  clear hb B2 BB c0 c1 c2 c3
  generalize w1.heap.size = Bc at *
  have hlt0 : w.heap.size < w2.heap.size := (Array.getElem?_eq_some_iff.1 hb2).1
  have d0 : w2.cell? ⟨w.heap.size, 0, none⟩ = some (.int .i64 th) := cell_blk hb2 0
  have d1 : w2.cell? ⟨w.heap.size, 1, none⟩ = some (.int .i64 op) := cell_blk hb2 1
  have d2 : w2.cell? ⟨w.heap.size, 2, none⟩ = some (.int .i64 ar) := cell_blk hb2 2
  have d3 : w2.cell? ⟨w.heap.size, 3, none⟩ = some (.int .i64 da) := cell_blk hb2 3
  have d4 : w2.cell? ⟨Bc, 0, none⟩ = some (.int .i64 xo) := cell_blk hc2 0
  have d5 : w2.cell? ⟨Bc, 1, none⟩ = some (.string xw) := cell_blk hc2 1
  have d6 : w2.cell? ⟨Bc, 2, none⟩ = some (.int .i64 (tk : Int)) := cell_blk hc2 2
  clear hb2 hc2
  go_region_held3 (fun W => W.cell? ⟨w.heap.size, 0, none⟩ = some (.int .i64 th) ∧ W.cell? ⟨w.heap.size, 1, none⟩ = some (.int .i64 op) ∧ W.cell? ⟨w.heap.size, 2, none⟩ = some (.int .i64 ar) ∧ W.cell? ⟨w.heap.size, 3, none⟩ = some (.int .i64 da) ∧ W.cell? ⟨Bc, 0, none⟩ = some (.int .i64 xo) ∧ W.cell? ⟨Bc, 1, none⟩ = some (.string xw) ∧ W.cell? ⟨Bc, 2, none⟩ = some (.int .i64 (tk : Int))) (simp [*, go_sem])
    (first | (go_at_call 65; refine (Fm.out _).mono ?_; clear Fm; rintro e w3 ⟨rfl, B3⟩; have q0 : w3.cell? ⟨w.heap.size, 0, none⟩ = some (.int .i64 th) := (B3.cell (p := ⟨w.heap.size, 0, none⟩) (by simp; omega)).trans (by simp [*]); have q1 : w3.cell? ⟨w.heap.size, 1, none⟩ = some (.int .i64 op) := (B3.cell (p := ⟨w.heap.size, 1, none⟩) (by simp; omega)).trans (by simp [*]); have q2 : w3.cell? ⟨w.heap.size, 2, none⟩ = some (.int .i64 ar) := (B3.cell (p := ⟨w.heap.size, 2, none⟩) (by simp; omega)).trans (by simp [*]); have q3 : w3.cell? ⟨w.heap.size, 3, none⟩ = some (.int .i64 da) := (B3.cell (p := ⟨w.heap.size, 3, none⟩) (by simp; omega)).trans (by simp [*]); have q4 : w3.cell? ⟨Bc, 0, none⟩ = some (.int .i64 xo) := (B3.cell (p := ⟨Bc, 0, none⟩) (by simp; omega)).trans (by simp [*]); have q5 : w3.cell? ⟨Bc, 1, none⟩ = some (.string xw) := (B3.cell (p := ⟨Bc, 1, none⟩) (by simp; omega)).trans (by simp [*]); have q6 : w3.cell? ⟨Bc, 2, none⟩ = some (.int .i64 (tk : Int)) := (B3.cell (p := ⟨Bc, 2, none⟩) (by simp; omega)).trans (by simp [*]); have s3 : w.heap.size < w3.heap.size := Nat.lt_of_lt_of_le (by simp; omega) B3.size; have t3 : Bc < w3.heap.size := Nat.lt_of_lt_of_le (by simp; omega) B3.size; have X3 : Hid (Below w2.heap.size w2 w3) := (by first | exact ((Below.refl _ _).drew).trans B3 | exact (((Below.refl _ _).drew).alloc (Nat.le_refl _) _).trans (B3.mono (by simp))); replace B3 := Mr.hid B3) | (go_at_call 34; refine (D.out _ _ (by first | exact E.out.below ((B1.out.trans (X3.out.mono (Nat.le_of_lt hlt0))).alloc (Nat.le_of_lt s3) _) | exact E.out.below (B1.out.trans (X3.out.mono (Nat.le_of_lt hlt0)))) (by first | exact left_new [th, ar, da] (new_at _ _ _ rfl) rfl | exact left_new [th, ar, da] ((B3.out.block _ (by simp)).trans (new_at _ _ _ rfl)) rfl)).mono ?_; clear D; rintro e w4 ⟨rfl, B4⟩; have Y4 : Hid (Below w.heap.size w w4) := (by first | exact ((B1.out.trans (X3.out.mono (Nat.le_of_lt hlt0))).alloc (Nat.le_of_lt s3) _).trans (B4.mono (by simp; omega)) | exact (B1.out.trans (X3.out.mono (Nat.le_of_lt hlt0))).trans (B4.mono (Nat.le_of_lt s3))); have r0 : w4.cell? ⟨w.heap.size, 0, none⟩ = some (.int .i64 th) := (B4.cell (p := ⟨w.heap.size, 0, none⟩) (by simp; omega)).trans (by simp [*]); have r1 : w4.cell? ⟨w.heap.size, 1, none⟩ = some (.int .i64 op) := (B4.cell (p := ⟨w.heap.size, 1, none⟩) (by simp; omega)).trans (by simp [*]); have r2 : w4.cell? ⟨w.heap.size, 2, none⟩ = some (.int .i64 ar) := (B4.cell (p := ⟨w.heap.size, 2, none⟩) (by simp; omega)).trans (by simp [*]); have r3 : w4.cell? ⟨w.heap.size, 3, none⟩ = some (.int .i64 da) := (B4.cell (p := ⟨w.heap.size, 3, none⟩) (by simp; omega)).trans (by simp [*]); have r4 : w4.cell? ⟨Bc, 0, none⟩ = some (.int .i64 xo) := (B4.cell (p := ⟨Bc, 0, none⟩) (by simp; omega)).trans (by simp [*]); have r5 : w4.cell? ⟨Bc, 1, none⟩ = some (.string xw) := (B4.cell (p := ⟨Bc, 1, none⟩) (by simp; omega)).trans (by simp [*]); have r6 : w4.cell? ⟨Bc, 2, none⟩ = some (.int .i64 (tk : Int)) := (B4.cell (p := ⟨Bc, 2, none⟩) (by simp; omega)).trans (by simp [*])))
  all_goals (go_wp2; go_ret; exact ⟨rfl, Y4.out⟩)
theorem callLine_any (m : Mv) (w : World) (E : Env w) (hm : MvB m) :
    Calls Tryz.prog 51 #[mvV m] w fun e w' => e = .returned (.string ⟨(callLn m).toArray⟩) ∧ Below w.heap.size w w' := by
  cases hr : rowOf m.op with
  | none => exact callLine_none m w E hm hr
  | some k =>
    cases ht : tels k m with
    | false => exact callLine_op m k w E hm hr ht
    | true => exact callLine_word m k w E hm hr ht
end Go.Proofs.YtfhkgeoionkonaaGreatDoor.Sc
