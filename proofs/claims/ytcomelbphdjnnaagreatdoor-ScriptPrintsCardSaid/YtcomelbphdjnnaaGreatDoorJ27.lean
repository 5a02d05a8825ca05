import Derived.Test.YtcomelbphdjnnaaGreatDoorJ26
import Derived.Test.YtcomelbphdjnnaaGreatDoorJ18
/-
  SCRIPT: the document's Line, the op's number told; Line in one form.
-/
namespace Go.Proofs.YtcomelbphdjnnaaGreatDoor.Sc
open Go.RowKit Mr
open Go.Lib (itoa)
set_option linter.unusedVariables false
set_option linter.unusedSimpArgs false
set_option maxRecDepth 100000
set_option maxHeartbeats 8000000 in
theorem line_n1 (th op ar da : Int) (n : Int) (w : World) (hb : MvB ⟨th, op, ar, da⟩) (hn : Bd n) (hN : ∀ j, j < 21 → (opA j == op) = false) (h1 : op ≠ 0) :
    Calls Tryz.prog 17 #[.agg #[.int .i64 th, .int .i64 op, .int .i64 ar, .int .i64 da], .int .i64 n] w fun e w' => e = .returned (.string ⟨(itoa th ++ [32, 111, 112, 32] ++ itoa op ++ [32] ++ itoa ar ++ [32] ++ itoa da).toArray⟩) ∧ Below w.heap.size w w' := by
  have DT := Mr.hid (fun W => decC th W hb.1)
  have sI : (ito th).size ≤ 21 := by unfold ito; rw [sz_list]; exact itoa_len th hb.1
  have hbx0 : (w.alloc (.cells #[.int .i64 th, .int .i64 op, .int .i64 ar, .int .i64 da] 42)).heap[w.heap.size]? = some (.cells #[.int .i64 th, .int .i64 op, .int .i64 ar, .int .i64 da] 42 (0, 0)) := new_at _ _ _ rfl
  have B0 : Hid (Below w.heap.size w (w.alloc (.cells #[.int .i64 th, .int .i64 op, .int .i64 ar, .int .i64 da] 42))) := (Below.refl _ _).alloc (Nat.le_refl _) _
  have DO := Mr.hid (fun W => decC op W hb.2.1)
  have DA := Mr.hid (fun W => decC ar W hb.2.2.1)
  have DD := Mr.hid (fun W => decC da W hb.2.2.2)
  have sO : (ito op).size ≤ 21 := by unfold ito; rw [sz_list]; exact itoa_len op hb.2.1
  have sA : (ito ar).size ≤ 21 := by unfold ito; rw [sz_list]; exact itoa_len ar hb.2.2.1
  have sD : (ito da).size ≤ 21 := by unfold ito; rw [sz_list]; exact itoa_len da hb.2.2.2
  have fin : Hid ((ito th ++ ⟨#[32, 111, 112, 32]⟩ ++ ito op ++ ⟨#[32]⟩ ++ ito ar ++ ⟨#[32]⟩ ++ ito da : ByteArray) = ⟨(itoa th ++ [32, 111, 112, 32] ++ itoa op ++ [32] ++ itoa ar ++ [32] ++ itoa da).toArray⟩) := by
    show _ = _
    rw [ito_list, ito_list, ito_list, ito_list, lit_cat (itoa th) [32, 111, 112, 32], lit_cat _ (itoa op), lit_cat _ [32], lit_cat _ (itoa ar), lit_cat _ [32], lit_cat _ (itoa da)]
  obtain ⟨PT, hPT⟩ : ∃ P : ByteArray, P = ⟨(itoa th ++ [32, 111, 112, 32] ++ itoa op ++ [32] ++ itoa ar ++ [32] ++ itoa da).toArray⟩ := ⟨_, rfl⟩
  rw [← hPT] at fin ⊢
  clear hPT
  have WD := Mr.hid (fun W => refWord_none op W hN)
  have tn := toList_nil0
  have k1 : (op == 0) = false := beq_eq_false_iff_ne.2 h1
  generalize ito th = IT at *
  generalize ito op = QO at *
  generalize ito ar = IA at *
  generalize ito da = ID at *
  have z0 : ¬ 9223372036854775807 < IT.size + 4 := by omega
  have z1 : ¬ 9223372036854775807 < IT.size + 4 + QO.size := by omega
  have z2 : ¬ 9223372036854775807 < IT.size + 4 + QO.size + 1 := by omega
  have z3 : ¬ 9223372036854775807 < IT.size + 4 + QO.size + 1 + IA.size := by omega
  have z4 : ¬ 9223372036854775807 < IT.size + 4 + QO.size + 1 + IA.size + 1 := by omega
  have z5 : ¬ 9223372036854775807 < IT.size + 4 + QO.size + 1 + IA.size + 1 + ID.size := by omega
  clear hb hn hN
  go_enter Tryz.func17, Tryz.ntmps17
  go_upto_region 2 with (go_at_call 16; refine (DT.out _).mono ?_; clear DT; rintro e w1 ⟨rfl, B1⟩)
  have hbx : w1.heap[w.heap.size]? = some (.cells #[.int .i64 th, .int .i64 op, .int .i64 ar, .int .i64 da] 42 (0, 0)) := (B1.block _ (by simp)).trans hbx0
  have BB : Hid (Below w.heap.size w w1) := B0.out.trans (B1.mono (by simp))
  have x0 := cell_blk hbx 0
  have x1 := cell_blk hbx 1
  have x2 := cell_blk hbx 2
  have x3 := cell_blk hbx 3
  have lx := (Array.getElem?_eq_some_iff.1 hbx).1
  clear B1 B0 hbx0
  replace hbx := Mr.hid hbx
  go_upto_region 15 with (first | (go_at_call 32; refine (WD.out _).mono ?_; rintro e w9 ⟨rfl, hw9⟩; obtain rfl := hw9.symm))
  clear WD x0 x1
  have y2 : w1.cell? ⟨w.heap.size, 2, none⟩ = some (.int .i64 ar) := x2
  have y3 : w1.cell? ⟨w.heap.size, 3, none⟩ = some (.int .i64 da) := x3
  clear x2 x3
  go_region_held3 (fun W => W.cell? ⟨w.heap.size, 2, none⟩ = some (.int .i64 ar) ∧ W.cell? ⟨w.heap.size, 3, none⟩ = some (.int .i64 da)) (simp [*, go_sem])
    (first | (go_at_call 16; refine (DO.out _).mono ?_; clear DO; rintro e w2 ⟨rfl, B2⟩; have q2 := (B2.cell (p := ⟨w.heap.size, 2, none⟩) lx).trans y2; have q3 := (B2.cell (p := ⟨w.heap.size, 3, none⟩) lx).trans y3; have l2 : w.heap.size < w2.heap.size := Nat.lt_of_lt_of_le lx B2.size; have BB2 : Hid (Below w.heap.size w w2) := (BB.out.drew).trans (B2.mono BB.out.size); clear B2) | (go_at_call 16; refine (DA.out _).mono ?_; clear DA; rintro e w3 ⟨rfl, B3⟩; have r2 := (B3.cell (p := ⟨w.heap.size, 2, none⟩) l2).trans q2; have r3 := (B3.cell (p := ⟨w.heap.size, 3, none⟩) l2).trans q3; have l3 : w.heap.size < w3.heap.size := Nat.lt_of_lt_of_le l2 B3.size; have BB3 : Hid (Below w.heap.size w w3) := BB2.out.trans (B3.mono BB2.out.size); clear B3) | (go_at_call 16; refine (DD.out _).mono ?_; clear DD; rintro e w4 ⟨rfl, B4⟩; have t2 := (B4.cell (p := ⟨w.heap.size, 2, none⟩) l3).trans r2; have t3 := (B4.cell (p := ⟨w.heap.size, 3, none⟩) l3).trans r3; have BB4 : Hid (Below w.heap.size w w4) := BB3.out.trans (B4.mono BB3.out.size); clear B4))
  all_goals (go_wp2; go_ret; refine ⟨?_, BB4.out⟩; rw [← fin.out]; rfl)
set_option maxHeartbeats 8000000 in
theorem line_n2 (th op ar da : Int) (n : Int) (w : World) (hb : MvB ⟨th, op, ar, da⟩) (hn : Bd n) (hN : ∀ j, j < 21 → (opA j == op) = false) (h1 : op = 0) (h2 : ar ≠ 0) :
    Calls Tryz.prog 17 #[.agg #[.int .i64 th, .int .i64 op, .int .i64 ar, .int .i64 da], .int .i64 n] w fun e w' => e = .returned (.string ⟨(itoa th ++ [32, 111, 112, 32] ++ itoa op ++ [32] ++ itoa ar ++ [32] ++ itoa da).toArray⟩) ∧ Below w.heap.size w w' := by
  have DT := Mr.hid (fun W => decC th W hb.1)
  have sI : (ito th).size ≤ 21 := by unfold ito; rw [sz_list]; exact itoa_len th hb.1
  have hbx0 : (w.alloc (.cells #[.int .i64 th, .int .i64 op, .int .i64 ar, .int .i64 da] 42)).heap[w.heap.size]? = some (.cells #[.int .i64 th, .int .i64 op, .int .i64 ar, .int .i64 da] 42 (0, 0)) := new_at _ _ _ rfl
  have B0 : Hid (Below w.heap.size w (w.alloc (.cells #[.int .i64 th, .int .i64 op, .int .i64 ar, .int .i64 da] 42))) := (Below.refl _ _).alloc (Nat.le_refl _) _
  have DO := Mr.hid (fun W => decC op W hb.2.1)
  have DA := Mr.hid (fun W => decC ar W hb.2.2.1)
  have DD := Mr.hid (fun W => decC da W hb.2.2.2)
  have sO : (ito op).size ≤ 21 := by unfold ito; rw [sz_list]; exact itoa_len op hb.2.1
  have sA : (ito ar).size ≤ 21 := by unfold ito; rw [sz_list]; exact itoa_len ar hb.2.2.1
  have sD : (ito da).size ≤ 21 := by unfold ito; rw [sz_list]; exact itoa_len da hb.2.2.2
  have fin : Hid ((ito th ++ ⟨#[32, 111, 112, 32]⟩ ++ ito op ++ ⟨#[32]⟩ ++ ito ar ++ ⟨#[32]⟩ ++ ito da : ByteArray) = ⟨(itoa th ++ [32, 111, 112, 32] ++ itoa op ++ [32] ++ itoa ar ++ [32] ++ itoa da).toArray⟩) := by
    show _ = _
    rw [ito_list, ito_list, ito_list, ito_list, lit_cat (itoa th) [32, 111, 112, 32], lit_cat _ (itoa op), lit_cat _ [32], lit_cat _ (itoa ar), lit_cat _ [32], lit_cat _ (itoa da)]
  obtain ⟨PT, hPT⟩ : ∃ P : ByteArray, P = ⟨(itoa th ++ [32, 111, 112, 32] ++ itoa op ++ [32] ++ itoa ar ++ [32] ++ itoa da).toArray⟩ := ⟨_, rfl⟩
  rw [← hPT] at fin ⊢
  clear hPT
  have WD := Mr.hid (fun W => refWord_none op W hN)
  have tn := toList_nil0
  have k1 : (ar == 0) = false := beq_eq_false_iff_ne.2 h2
  subst h1
  generalize ito th = IT at *
  generalize ito 0 = QO at *
  generalize ito ar = IA at *
  generalize ito da = ID at *
  have z0 : ¬ 9223372036854775807 < IT.size + 4 := by omega
  have z1 : ¬ 9223372036854775807 < IT.size + 4 + QO.size := by omega
  have z2 : ¬ 9223372036854775807 < IT.size + 4 + QO.size + 1 := by omega
  have z3 : ¬ 9223372036854775807 < IT.size + 4 + QO.size + 1 + IA.size := by omega
  have z4 : ¬ 9223372036854775807 < IT.size + 4 + QO.size + 1 + IA.size + 1 := by omega
  have z5 : ¬ 9223372036854775807 < IT.size + 4 + QO.size + 1 + IA.size + 1 + ID.size := by omega
  clear hb hn hN
  go_enter Tryz.func17, Tryz.ntmps17
  go_upto_region 2 with (go_at_call 16; refine (DT.out _).mono ?_; clear DT; rintro e w1 ⟨rfl, B1⟩)
  have hbx : w1.heap[w.heap.size]? = some (.cells #[.int .i64 th, .int .i64 0, .int .i64 ar, .int .i64 da] 42 (0, 0)) := (B1.block _ (by simp)).trans hbx0
  have BB : Hid (Below w.heap.size w w1) := B0.out.trans (B1.mono (by simp))
  have x0 := cell_blk hbx 0
  have x1 := cell_blk hbx 1
  have x2 := cell_blk hbx 2
  have x3 := cell_blk hbx 3
  have lx := (Array.getElem?_eq_some_iff.1 hbx).1
  clear B1 B0 hbx0
  replace hbx := Mr.hid hbx
  go_upto_region 15 with (first | (go_at_call 32; refine (WD.out _).mono ?_; rintro e w9 ⟨rfl, hw9⟩; obtain rfl := hw9.symm))
  clear WD x0 x1
  have y2 : w1.cell? ⟨w.heap.size, 2, none⟩ = some (.int .i64 ar) := x2
  have y3 : w1.cell? ⟨w.heap.size, 3, none⟩ = some (.int .i64 da) := x3
  clear x2 x3
  go_region_held3 (fun W => W.cell? ⟨w.heap.size, 2, none⟩ = some (.int .i64 ar) ∧ W.cell? ⟨w.heap.size, 3, none⟩ = some (.int .i64 da)) (simp [*, go_sem])
    (first | (go_at_call 16; refine (DO.out _).mono ?_; clear DO; rintro e w2 ⟨rfl, B2⟩; have q2 := (B2.cell (p := ⟨w.heap.size, 2, none⟩) lx).trans y2; have q3 := (B2.cell (p := ⟨w.heap.size, 3, none⟩) lx).trans y3; have l2 : w.heap.size < w2.heap.size := Nat.lt_of_lt_of_le lx B2.size; have BB2 : Hid (Below w.heap.size w w2) := (BB.out.drew).trans (B2.mono BB.out.size); clear B2) | (go_at_call 16; refine (DA.out _).mono ?_; clear DA; rintro e w3 ⟨rfl, B3⟩; have r2 := (B3.cell (p := ⟨w.heap.size, 2, none⟩) l2).trans q2; have r3 := (B3.cell (p := ⟨w.heap.size, 3, none⟩) l2).trans q3; have l3 : w.heap.size < w3.heap.size := Nat.lt_of_lt_of_le l2 B3.size; have BB3 : Hid (Below w.heap.size w w3) := BB2.out.trans (B3.mono BB2.out.size); clear B3) | (go_at_call 16; refine (DD.out _).mono ?_; clear DD; rintro e w4 ⟨rfl, B4⟩; have t2 := (B4.cell (p := ⟨w.heap.size, 2, none⟩) l3).trans r2; have t3 := (B4.cell (p := ⟨w.heap.size, 3, none⟩) l3).trans r3; have BB4 : Hid (Below w.heap.size w w4) := BB3.out.trans (B4.mono BB3.out.size); clear B4))
  all_goals (go_wp2; go_ret; refine ⟨?_, BB4.out⟩; rw [← fin.out]; rfl)
set_option maxHeartbeats 8000000 in
theorem line_n3 (th op ar da : Int) (n : Int) (w : World) (hb : MvB ⟨th, op, ar, da⟩) (hn : Bd n) (hN : ∀ j, j < 21 → (opA j == op) = false) (h1 : op = 0) (h2 : ar = 0) (h3 : da ≠ 0) :
    Calls Tryz.prog 17 #[.agg #[.int .i64 th, .int .i64 op, .int .i64 ar, .int .i64 da], .int .i64 n] w fun e w' => e = .returned (.string ⟨(itoa th ++ [32, 111, 112, 32] ++ itoa op ++ [32] ++ itoa ar ++ [32] ++ itoa da).toArray⟩) ∧ Below w.heap.size w w' := by
  have DT := Mr.hid (fun W => decC th W hb.1)
  have sI : (ito th).size ≤ 21 := by unfold ito; rw [sz_list]; exact itoa_len th hb.1
  have hbx0 : (w.alloc (.cells #[.int .i64 th, .int .i64 op, .int .i64 ar, .int .i64 da] 42)).heap[w.heap.size]? = some (.cells #[.int .i64 th, .int .i64 op, .int .i64 ar, .int .i64 da] 42 (0, 0)) := new_at _ _ _ rfl
  have B0 : Hid (Below w.heap.size w (w.alloc (.cells #[.int .i64 th, .int .i64 op, .int .i64 ar, .int .i64 da] 42))) := (Below.refl _ _).alloc (Nat.le_refl _) _
  have DO := Mr.hid (fun W => decC op W hb.2.1)
  have DA := Mr.hid (fun W => decC ar W hb.2.2.1)
  have DD := Mr.hid (fun W => decC da W hb.2.2.2)
  have sO : (ito op).size ≤ 21 := by unfold ito; rw [sz_list]; exact itoa_len op hb.2.1
  have sA : (ito ar).size ≤ 21 := by unfold ito; rw [sz_list]; exact itoa_len ar hb.2.2.1
  have sD : (ito da).size ≤ 21 := by unfold ito; rw [sz_list]; exact itoa_len da hb.2.2.2
  have fin : Hid ((ito th ++ ⟨#[32, 111, 112, 32]⟩ ++ ito op ++ ⟨#[32]⟩ ++ ito ar ++ ⟨#[32]⟩ ++ ito da : ByteArray) = ⟨(itoa th ++ [32, 111, 112, 32] ++ itoa op ++ [32] ++ itoa ar ++ [32] ++ itoa da).toArray⟩) := by
    show _ = _
    rw [ito_list, ito_list, ito_list, ito_list, lit_cat (itoa th) [32, 111, 112, 32], lit_cat _ (itoa op), lit_cat _ [32], lit_cat _ (itoa ar), lit_cat _ [32], lit_cat _ (itoa da)]
  obtain ⟨PT, hPT⟩ : ∃ P : ByteArray, P = ⟨(itoa th ++ [32, 111, 112, 32] ++ itoa op ++ [32] ++ itoa ar ++ [32] ++ itoa da).toArray⟩ := ⟨_, rfl⟩
  rw [← hPT] at fin ⊢
  clear hPT
  have WD := Mr.hid (fun W => refWord_none op W hN)
  have tn := toList_nil0
  have k1 : (da == 0) = false := beq_eq_false_iff_ne.2 h3
  subst h1
  subst h2
  generalize ito th = IT at *
  generalize ito 0 = QO at *
  generalize ito da = ID at *
  have z0 : ¬ 9223372036854775807 < IT.size + 4 := by omega
  have z1 : ¬ 9223372036854775807 < IT.size + 4 + QO.size := by omega
  have z2 : ¬ 9223372036854775807 < IT.size + 4 + QO.size + 1 := by omega
  have z3 : ¬ 9223372036854775807 < IT.size + 4 + QO.size + 1 + QO.size := by omega
  have z4 : ¬ 9223372036854775807 < IT.size + 4 + QO.size + 1 + QO.size + 1 := by omega
  have z5 : ¬ 9223372036854775807 < IT.size + 4 + QO.size + 1 + QO.size + 1 + ID.size := by omega
  clear hb hn hN
  go_enter Tryz.func17, Tryz.ntmps17
  go_upto_region 2 with (go_at_call 16; refine (DT.out _).mono ?_; clear DT; rintro e w1 ⟨rfl, B1⟩)
  have hbx : w1.heap[w.heap.size]? = some (.cells #[.int .i64 th, .int .i64 0, .int .i64 0, .int .i64 da] 42 (0, 0)) := (B1.block _ (by simp)).trans hbx0
  have BB : Hid (Below w.heap.size w w1) := B0.out.trans (B1.mono (by simp))
  have x0 := cell_blk hbx 0
  have x1 := cell_blk hbx 1
  have x2 := cell_blk hbx 2
  have x3 := cell_blk hbx 3
  have lx := (Array.getElem?_eq_some_iff.1 hbx).1
  clear B1 B0 hbx0
  replace hbx := Mr.hid hbx
  go_upto_region 15 with (first | (go_at_call 32; refine (WD.out _).mono ?_; rintro e w9 ⟨rfl, hw9⟩; obtain rfl := hw9.symm))
  clear WD x0 x1
  have y2 : w1.cell? ⟨w.heap.size, 2, none⟩ = some (.int .i64 0) := x2
  have y3 : w1.cell? ⟨w.heap.size, 3, none⟩ = some (.int .i64 da) := x3
  clear x2 x3
  go_region_held3 (fun W => W.cell? ⟨w.heap.size, 2, none⟩ = some (.int .i64 0) ∧ W.cell? ⟨w.heap.size, 3, none⟩ = some (.int .i64 da)) (simp [*, go_sem])
    (first | (go_at_call 16; refine (DO.out _).mono ?_; clear DO; rintro e w2 ⟨rfl, B2⟩; have q2 := (B2.cell (p := ⟨w.heap.size, 2, none⟩) lx).trans y2; have q3 := (B2.cell (p := ⟨w.heap.size, 3, none⟩) lx).trans y3; have l2 : w.heap.size < w2.heap.size := Nat.lt_of_lt_of_le lx B2.size; have BB2 : Hid (Below w.heap.size w w2) := (BB.out.drew).trans (B2.mono BB.out.size); clear B2) | (go_at_call 16; refine (DA.out _).mono ?_; clear DA; rintro e w3 ⟨rfl, B3⟩; have r2 := (B3.cell (p := ⟨w.heap.size, 2, none⟩) l2).trans q2; have r3 := (B3.cell (p := ⟨w.heap.size, 3, none⟩) l2).trans q3; have l3 : w.heap.size < w3.heap.size := Nat.lt_of_lt_of_le l2 B3.size; have BB3 : Hid (Below w.heap.size w w3) := BB2.out.trans (B3.mono BB2.out.size); clear B3) | (go_at_call 16; refine (DD.out _).mono ?_; clear DD; rintro e w4 ⟨rfl, B4⟩; have t2 := (B4.cell (p := ⟨w.heap.size, 2, none⟩) l3).trans r2; have t3 := (B4.cell (p := ⟨w.heap.size, 3, none⟩) l3).trans r3; have BB4 : Hid (Below w.heap.size w w4) := BB3.out.trans (B4.mono BB3.out.size); clear B4))
  all_goals (go_wp2; go_ret; refine ⟨?_, BB4.out⟩; rw [← fin.out]; rfl)
set_option maxHeartbeats 8000000 in
theorem line_fa (th op ar da : Int) (n : Int) (w : World) (hb : MvB ⟨th, op, ar, da⟩) (hn : Bd n) (k : Nat) (hk : k < 21) (ho : opA k = op) (ht : tkA k = 0) (hd : da ≠ 0) :
    Calls Tryz.prog 17 #[.agg #[.int .i64 th, .int .i64 op, .int .i64 ar, .int .i64 da], .int .i64 n] w fun e w' => e = .returned (.string ⟨(itoa th ++ [32, 111, 112, 32] ++ itoa op ++ [32] ++ itoa ar ++ [32] ++ itoa da).toArray⟩) ∧ Below w.heap.size w w' := by
  have DT := Mr.hid (fun W => decC th W hb.1)
  have sI : (ito th).size ≤ 21 := by unfold ito; rw [sz_list]; exact itoa_len th hb.1
  have hbx0 : (w.alloc (.cells #[.int .i64 th, .int .i64 op, .int .i64 ar, .int .i64 da] 42)).heap[w.heap.size]? = some (.cells #[.int .i64 th, .int .i64 op, .int .i64 ar, .int .i64 da] 42 (0, 0)) := new_at _ _ _ rfl
  have B0 : Hid (Below w.heap.size w (w.alloc (.cells #[.int .i64 th, .int .i64 op, .int .i64 ar, .int .i64 da] 42))) := (Below.refl _ _).alloc (Nat.le_refl _) _
  have DO := Mr.hid (fun W => decC op W hb.2.1)
  have DA := Mr.hid (fun W => decC ar W hb.2.2.1)
  have DD := Mr.hid (fun W => decC da W hb.2.2.2)
  have sO : (ito op).size ≤ 21 := by unfold ito; rw [sz_list]; exact itoa_len op hb.2.1
  have sA : (ito ar).size ≤ 21 := by unfold ito; rw [sz_list]; exact itoa_len ar hb.2.2.1
  have sD : (ito da).size ≤ 21 := by unfold ito; rw [sz_list]; exact itoa_len da hb.2.2.2
  have fin : Hid ((ito th ++ ⟨#[32, 111, 112, 32]⟩ ++ ito op ++ ⟨#[32]⟩ ++ ito ar ++ ⟨#[32]⟩ ++ ito da : ByteArray) = ⟨(itoa th ++ [32, 111, 112, 32] ++ itoa op ++ [32] ++ itoa ar ++ [32] ++ itoa da).toArray⟩) := by
    show _ = _
    rw [ito_list, ito_list, ito_list, ito_list, lit_cat (itoa th) [32, 111, 112, 32], lit_cat _ (itoa op), lit_cat _ [32], lit_cat _ (itoa ar), lit_cat _ [32], lit_cat _ (itoa da)]
  obtain ⟨PT, hPT⟩ : ∃ P : ByteArray, P = ⟨(itoa th ++ [32, 111, 112, 32] ++ itoa op ++ [32] ++ itoa ar ++ [32] ++ itoa da).toArray⟩ := ⟨_, rfl⟩
  rw [← hPT] at fin ⊢
  clear hPT
  have WD := Mr.hid (fun W => refWord_some k W hk)
  have AR := Mr.hid (fun W => args_some k W hk)
  obtain ⟨-, ho1, ho2⟩ := ref_nil k hk
  have hne := (ref_nil k hk).1
  rw [ho] at WD AR ho1 ho2
  rw [ht] at AR
  have k1 : (op == 0) = false := beq_eq_false_iff_ne.2 (by omega)
  have k2 : ¬ op = 0 := by omega
  generalize wdA k = wd at *
  have hne2 : ¬ wd.toList = [] := by simpa using hne
  have hne3 : wd.toList.isEmpty = false := by cases h : wd.toList with | nil => exact absurd h hne2 | cons a b => rfl
  have k5 : (da == 0) = false := beq_eq_false_iff_ne.2 hd
  generalize ito th = IT at *
  generalize ito op = QO at *
  generalize ito ar = IA at *
  generalize ito da = ID at *
  have z0 : ¬ 9223372036854775807 < IT.size + 4 := by omega
  have z1 : ¬ 9223372036854775807 < IT.size + 4 + QO.size := by omega
  have z2 : ¬ 9223372036854775807 < IT.size + 4 + QO.size + 1 := by omega
  have z3 : ¬ 9223372036854775807 < IT.size + 4 + QO.size + 1 + IA.size := by omega
  have z4 : ¬ 9223372036854775807 < IT.size + 4 + QO.size + 1 + IA.size + 1 := by omega
  have z5 : ¬ 9223372036854775807 < IT.size + 4 + QO.size + 1 + IA.size + 1 + ID.size := by omega
  clear hb hn hne ho ht
  go_enter Tryz.func17, Tryz.ntmps17
  go_upto_region 2 with (go_at_call 16; refine (DT.out _).mono ?_; clear DT; rintro e w1 ⟨rfl, B1⟩)
  have hbx : w1.heap[w.heap.size]? = some (.cells #[.int .i64 th, .int .i64 op, .int .i64 ar, .int .i64 da] 42 (0, 0)) := (B1.block _ (by simp)).trans hbx0
  have BB : Hid (Below w.heap.size w w1) := B0.out.trans (B1.mono (by simp))
  have x0 := cell_blk hbx 0
  have x1 := cell_blk hbx 1
  have x2 := cell_blk hbx 2
  have x3 := cell_blk hbx 3
  have lx := (Array.getElem?_eq_some_iff.1 hbx).1
  clear B1 B0 hbx0
  replace hbx := Mr.hid hbx
  go_upto_region 15 with (first | (go_at_call 32; refine (WD.out _).mono ?_; rintro e w9 ⟨rfl, hw9⟩; obtain rfl := hw9.symm) | (go_at_call 33; refine (AR.out _).mono ?_; rintro e w9 ⟨rfl, hw9⟩; obtain rfl := hw9.symm))
  clear WD AR x0 x1
  have y2 : w1.cell? ⟨w.heap.size, 2, none⟩ = some (.int .i64 ar) := x2
  have y3 : w1.cell? ⟨w.heap.size, 3, none⟩ = some (.int .i64 da) := x3
  clear x2 x3
  go_region_held3 (fun W => W.cell? ⟨w.heap.size, 2, none⟩ = some (.int .i64 ar) ∧ W.cell? ⟨w.heap.size, 3, none⟩ = some (.int .i64 da)) (simp [*, go_sem])
    (first | (go_at_call 16; refine (DO.out _).mono ?_; clear DO; rintro e w2 ⟨rfl, B2⟩; have q2 := (B2.cell (p := ⟨w.heap.size, 2, none⟩) lx).trans y2; have q3 := (B2.cell (p := ⟨w.heap.size, 3, none⟩) lx).trans y3; have l2 : w.heap.size < w2.heap.size := Nat.lt_of_lt_of_le lx B2.size; have BB2 : Hid (Below w.heap.size w w2) := (BB.out.drew).trans (B2.mono BB.out.size); clear B2) | (go_at_call 16; refine (DA.out _).mono ?_; clear DA; rintro e w3 ⟨rfl, B3⟩; have r2 := (B3.cell (p := ⟨w.heap.size, 2, none⟩) l2).trans q2; have r3 := (B3.cell (p := ⟨w.heap.size, 3, none⟩) l2).trans q3; have l3 : w.heap.size < w3.heap.size := Nat.lt_of_lt_of_le l2 B3.size; have BB3 : Hid (Below w.heap.size w w3) := BB2.out.trans (B3.mono BB2.out.size); clear B3) | (go_at_call 16; refine (DD.out _).mono ?_; clear DD; rintro e w4 ⟨rfl, B4⟩; have t2 := (B4.cell (p := ⟨w.heap.size, 2, none⟩) l3).trans r2; have t3 := (B4.cell (p := ⟨w.heap.size, 3, none⟩) l3).trans r3; have BB4 : Hid (Below w.heap.size w w4) := BB3.out.trans (B4.mono BB3.out.size); clear B4))
  all_goals (go_wp2; go_ret; refine ⟨?_, BB4.out⟩; rw [← fin.out]; rfl)
set_option maxHeartbeats 8000000 in
theorem line_fb (th op ar da : Int) (n : Int) (w : World) (hb : MvB ⟨th, op, ar, da⟩) (hn : Bd n) (k : Nat) (hk : k < 21) (ho : opA k = op) (ht : tkA k = 0) (hd : da = 0) (ha : ar ≠ 0) :
    Calls Tryz.prog 17 #[.agg #[.int .i64 th, .int .i64 op, .int .i64 ar, .int .i64 da], .int .i64 n] w fun e w' => e = .returned (.string ⟨(itoa th ++ [32, 111, 112, 32] ++ itoa op ++ [32] ++ itoa ar ++ [32] ++ itoa da).toArray⟩) ∧ Below w.heap.size w w' := by
  have DT := Mr.hid (fun W => decC th W hb.1)
  have sI : (ito th).size ≤ 21 := by unfold ito; rw [sz_list]; exact itoa_len th hb.1
  have hbx0 : (w.alloc (.cells #[.int .i64 th, .int .i64 op, .int .i64 ar, .int .i64 da] 42)).heap[w.heap.size]? = some (.cells #[.int .i64 th, .int .i64 op, .int .i64 ar, .int .i64 da] 42 (0, 0)) := new_at _ _ _ rfl
  have B0 : Hid (Below w.heap.size w (w.alloc (.cells #[.int .i64 th, .int .i64 op, .int .i64 ar, .int .i64 da] 42))) := (Below.refl _ _).alloc (Nat.le_refl _) _
  have DO := Mr.hid (fun W => decC op W hb.2.1)
  have DA := Mr.hid (fun W => decC ar W hb.2.2.1)
  have DD := Mr.hid (fun W => decC da W hb.2.2.2)
  have sO : (ito op).size ≤ 21 := by unfold ito; rw [sz_list]; exact itoa_len op hb.2.1
  have sA : (ito ar).size ≤ 21 := by unfold ito; rw [sz_list]; exact itoa_len ar hb.2.2.1
  have sD : (ito da).size ≤ 21 := by unfold ito; rw [sz_list]; exact itoa_len da hb.2.2.2
  have fin : Hid ((ito th ++ ⟨#[32, 111, 112, 32]⟩ ++ ito op ++ ⟨#[32]⟩ ++ ito ar ++ ⟨#[32]⟩ ++ ito da : ByteArray) = ⟨(itoa th ++ [32, 111, 112, 32] ++ itoa op ++ [32] ++ itoa ar ++ [32] ++ itoa da).toArray⟩) := by
    show _ = _
    rw [ito_list, ito_list, ito_list, ito_list, lit_cat (itoa th) [32, 111, 112, 32], lit_cat _ (itoa op), lit_cat _ [32], lit_cat _ (itoa ar), lit_cat _ [32], lit_cat _ (itoa da)]
  obtain ⟨PT, hPT⟩ : ∃ P : ByteArray, P = ⟨(itoa th ++ [32, 111, 112, 32] ++ itoa op ++ [32] ++ itoa ar ++ [32] ++ itoa da).toArray⟩ := ⟨_, rfl⟩
  rw [← hPT] at fin ⊢
  clear hPT
  have WD := Mr.hid (fun W => refWord_some k W hk)
  have AR := Mr.hid (fun W => args_some k W hk)
  obtain ⟨-, ho1, ho2⟩ := ref_nil k hk
  have hne := (ref_nil k hk).1
  rw [ho] at WD AR ho1 ho2
  rw [ht] at AR
  have k1 : (op == 0) = false := beq_eq_false_iff_ne.2 (by omega)
  have k2 : ¬ op = 0 := by omega
  generalize wdA k = wd at *
  have hne2 : ¬ wd.toList = [] := by simpa using hne
  have hne3 : wd.toList.isEmpty = false := by cases h : wd.toList with | nil => exact absurd h hne2 | cons a b => rfl
  have k6 : (ar == 0) = false := beq_eq_false_iff_ne.2 ha
  subst hd
  generalize ito th = IT at *
  generalize ito op = QO at *
  generalize ito ar = IA at *
  generalize ito 0 = ID at *
  have z0 : ¬ 9223372036854775807 < IT.size + 4 := by omega
  have z1 : ¬ 9223372036854775807 < IT.size + 4 + QO.size := by omega
  have z2 : ¬ 9223372036854775807 < IT.size + 4 + QO.size + 1 := by omega
  have z3 : ¬ 9223372036854775807 < IT.size + 4 + QO.size + 1 + IA.size := by omega
  have z4 : ¬ 9223372036854775807 < IT.size + 4 + QO.size + 1 + IA.size + 1 := by omega
  have z5 : ¬ 9223372036854775807 < IT.size + 4 + QO.size + 1 + IA.size + 1 + ID.size := by omega
  clear hb hn hne ho ht
  go_enter Tryz.func17, Tryz.ntmps17
  go_upto_region 2 with (go_at_call 16; refine (DT.out _).mono ?_; clear DT; rintro e w1 ⟨rfl, B1⟩)
  have hbx : w1.heap[w.heap.size]? = some (.cells #[.int .i64 th, .int .i64 op, .int .i64 ar, .int .i64 0] 42 (0, 0)) := (B1.block _ (by simp)).trans hbx0
  have BB : Hid (Below w.heap.size w w1) := B0.out.trans (B1.mono (by simp))
  have x0 := cell_blk hbx 0
  have x1 := cell_blk hbx 1
  have x2 := cell_blk hbx 2
  have x3 := cell_blk hbx 3
  have lx := (Array.getElem?_eq_some_iff.1 hbx).1
  clear B1 B0 hbx0
  replace hbx := Mr.hid hbx
  go_upto_region 15 with (first | (go_at_call 32; refine (WD.out _).mono ?_; rintro e w9 ⟨rfl, hw9⟩; obtain rfl := hw9.symm) | (go_at_call 33; refine (AR.out _).mono ?_; rintro e w9 ⟨rfl, hw9⟩; obtain rfl := hw9.symm))
  clear WD AR x0 x1
  have y2 : w1.cell? ⟨w.heap.size, 2, none⟩ = some (.int .i64 ar) := x2
  have y3 : w1.cell? ⟨w.heap.size, 3, none⟩ = some (.int .i64 0) := x3
  clear x2 x3
  go_region_held3 (fun W => W.cell? ⟨w.heap.size, 2, none⟩ = some (.int .i64 ar) ∧ W.cell? ⟨w.heap.size, 3, none⟩ = some (.int .i64 0)) (simp [*, go_sem])
    (first | (go_at_call 16; refine (DO.out _).mono ?_; clear DO; rintro e w2 ⟨rfl, B2⟩; have q2 := (B2.cell (p := ⟨w.heap.size, 2, none⟩) lx).trans y2; have q3 := (B2.cell (p := ⟨w.heap.size, 3, none⟩) lx).trans y3; have l2 : w.heap.size < w2.heap.size := Nat.lt_of_lt_of_le lx B2.size; have BB2 : Hid (Below w.heap.size w w2) := (BB.out.drew).trans (B2.mono BB.out.size); clear B2) | (go_at_call 16; refine (DA.out _).mono ?_; clear DA; rintro e w3 ⟨rfl, B3⟩; have r2 := (B3.cell (p := ⟨w.heap.size, 2, none⟩) l2).trans q2; have r3 := (B3.cell (p := ⟨w.heap.size, 3, none⟩) l2).trans q3; have l3 : w.heap.size < w3.heap.size := Nat.lt_of_lt_of_le l2 B3.size; have BB3 : Hid (Below w.heap.size w w3) := BB2.out.trans (B3.mono BB2.out.size); clear B3) | (go_at_call 16; refine (DD.out _).mono ?_; clear DD; rintro e w4 ⟨rfl, B4⟩; have t2 := (B4.cell (p := ⟨w.heap.size, 2, none⟩) l3).trans r2; have t3 := (B4.cell (p := ⟨w.heap.size, 3, none⟩) l3).trans r3; have BB4 : Hid (Below w.heap.size w w4) := BB3.out.trans (B4.mono BB3.out.size); clear B4))
  all_goals (go_wp2; go_ret; refine ⟨?_, BB4.out⟩; rw [← fin.out]; rfl)
set_option maxHeartbeats 8000000 in
theorem line_fc (th op ar da : Int) (n : Int) (w : World) (hb : MvB ⟨th, op, ar, da⟩) (hn : Bd n) (k : Nat) (hk : k < 21) (ho : opA k = op) (ht : tkA k = 1) (hd : da ≠ 0) :
    Calls Tryz.prog 17 #[.agg #[.int .i64 th, .int .i64 op, .int .i64 ar, .int .i64 da], .int .i64 n] w fun e w' => e = .returned (.string ⟨(itoa th ++ [32, 111, 112, 32] ++ itoa op ++ [32] ++ itoa ar ++ [32] ++ itoa da).toArray⟩) ∧ Below w.heap.size w w' := by
  have DT := Mr.hid (fun W => decC th W hb.1)
  have sI : (ito th).size ≤ 21 := by unfold ito; rw [sz_list]; exact itoa_len th hb.1
  have hbx0 : (w.alloc (.cells #[.int .i64 th, .int .i64 op, .int .i64 ar, .int .i64 da] 42)).heap[w.heap.size]? = some (.cells #[.int .i64 th, .int .i64 op, .int .i64 ar, .int .i64 da] 42 (0, 0)) := new_at _ _ _ rfl
  have B0 : Hid (Below w.heap.size w (w.alloc (.cells #[.int .i64 th, .int .i64 op, .int .i64 ar, .int .i64 da] 42))) := (Below.refl _ _).alloc (Nat.le_refl _) _
  have DO := Mr.hid (fun W => decC op W hb.2.1)
  have DA := Mr.hid (fun W => decC ar W hb.2.2.1)
  have DD := Mr.hid (fun W => decC da W hb.2.2.2)
  have sO : (ito op).size ≤ 21 := by unfold ito; rw [sz_list]; exact itoa_len op hb.2.1
  have sA : (ito ar).size ≤ 21 := by unfold ito; rw [sz_list]; exact itoa_len ar hb.2.2.1
  have sD : (ito da).size ≤ 21 := by unfold ito; rw [sz_list]; exact itoa_len da hb.2.2.2
  have fin : Hid ((ito th ++ ⟨#[32, 111, 112, 32]⟩ ++ ito op ++ ⟨#[32]⟩ ++ ito ar ++ ⟨#[32]⟩ ++ ito da : ByteArray) = ⟨(itoa th ++ [32, 111, 112, 32] ++ itoa op ++ [32] ++ itoa ar ++ [32] ++ itoa da).toArray⟩) := by
    show _ = _
    rw [ito_list, ito_list, ito_list, ito_list, lit_cat (itoa th) [32, 111, 112, 32], lit_cat _ (itoa op), lit_cat _ [32], lit_cat _ (itoa ar), lit_cat _ [32], lit_cat _ (itoa da)]
  obtain ⟨PT, hPT⟩ : ∃ P : ByteArray, P = ⟨(itoa th ++ [32, 111, 112, 32] ++ itoa op ++ [32] ++ itoa ar ++ [32] ++ itoa da).toArray⟩ := ⟨_, rfl⟩
  rw [← hPT] at fin ⊢
  clear hPT
  have WD := Mr.hid (fun W => refWord_some k W hk)
  have AR := Mr.hid (fun W => args_some k W hk)
  obtain ⟨-, ho1, ho2⟩ := ref_nil k hk
  have hne := (ref_nil k hk).1
  rw [ho] at WD AR ho1 ho2
  rw [ht] at AR
  have k1 : (op == 0) = false := beq_eq_false_iff_ne.2 (by omega)
  have k2 : ¬ op = 0 := by omega
  generalize wdA k = wd at *
  have hne2 : ¬ wd.toList = [] := by simpa using hne
  have hne3 : wd.toList.isEmpty = false := by cases h : wd.toList with | nil => exact absurd h hne2 | cons a b => rfl
  have k5 : (da == 0) = false := beq_eq_false_iff_ne.2 hd
  generalize ito th = IT at *
  generalize ito op = QO at *
  generalize ito ar = IA at *
  generalize ito da = ID at *
  have z0 : ¬ 9223372036854775807 < IT.size + 4 := by omega
  have z1 : ¬ 9223372036854775807 < IT.size + 4 + QO.size := by omega
  have z2 : ¬ 9223372036854775807 < IT.size + 4 + QO.size + 1 := by omega
  have z3 : ¬ 9223372036854775807 < IT.size + 4 + QO.size + 1 + IA.size := by omega
  have z4 : ¬ 9223372036854775807 < IT.size + 4 + QO.size + 1 + IA.size + 1 := by omega
  have z5 : ¬ 9223372036854775807 < IT.size + 4 + QO.size + 1 + IA.size + 1 + ID.size := by omega
  clear hb hn hne ho ht
  go_enter Tryz.func17, Tryz.ntmps17
  go_upto_region 2 with (go_at_call 16; refine (DT.out _).mono ?_; clear DT; rintro e w1 ⟨rfl, B1⟩)
  have hbx : w1.heap[w.heap.size]? = some (.cells #[.int .i64 th, .int .i64 op, .int .i64 ar, .int .i64 da] 42 (0, 0)) := (B1.block _ (by simp)).trans hbx0
  have BB : Hid (Below w.heap.size w w1) := B0.out.trans (B1.mono (by simp))
  have x0 := cell_blk hbx 0
  have x1 := cell_blk hbx 1
  have x2 := cell_blk hbx 2
  have x3 := cell_blk hbx 3
  have lx := (Array.getElem?_eq_some_iff.1 hbx).1
  clear B1 B0 hbx0
  replace hbx := Mr.hid hbx
  go_upto_region 15 with (first | (go_at_call 32; refine (WD.out _).mono ?_; rintro e w9 ⟨rfl, hw9⟩; obtain rfl := hw9.symm) | (go_at_call 33; refine (AR.out _).mono ?_; rintro e w9 ⟨rfl, hw9⟩; obtain rfl := hw9.symm))
  clear WD AR x0 x1
  have y2 : w1.cell? ⟨w.heap.size, 2, none⟩ = some (.int .i64 ar) := x2
  have y3 : w1.cell? ⟨w.heap.size, 3, none⟩ = some (.int .i64 da) := x3
  clear x2 x3
  go_region_held3 (fun W => W.cell? ⟨w.heap.size, 2, none⟩ = some (.int .i64 ar) ∧ W.cell? ⟨w.heap.size, 3, none⟩ = some (.int .i64 da)) (simp [*, go_sem])
    (first | (go_at_call 16; refine (DO.out _).mono ?_; clear DO; rintro e w2 ⟨rfl, B2⟩; have q2 := (B2.cell (p := ⟨w.heap.size, 2, none⟩) lx).trans y2; have q3 := (B2.cell (p := ⟨w.heap.size, 3, none⟩) lx).trans y3; have l2 : w.heap.size < w2.heap.size := Nat.lt_of_lt_of_le lx B2.size; have BB2 : Hid (Below w.heap.size w w2) := (BB.out.drew).trans (B2.mono BB.out.size); clear B2) | (go_at_call 16; refine (DA.out _).mono ?_; clear DA; rintro e w3 ⟨rfl, B3⟩; have r2 := (B3.cell (p := ⟨w.heap.size, 2, none⟩) l2).trans q2; have r3 := (B3.cell (p := ⟨w.heap.size, 3, none⟩) l2).trans q3; have l3 : w.heap.size < w3.heap.size := Nat.lt_of_lt_of_le l2 B3.size; have BB3 : Hid (Below w.heap.size w w3) := BB2.out.trans (B3.mono BB2.out.size); clear B3) | (go_at_call 16; refine (DD.out _).mono ?_; clear DD; rintro e w4 ⟨rfl, B4⟩; have t2 := (B4.cell (p := ⟨w.heap.size, 2, none⟩) l3).trans r2; have t3 := (B4.cell (p := ⟨w.heap.size, 3, none⟩) l3).trans r3; have BB4 : Hid (Below w.heap.size w w4) := BB3.out.trans (B4.mono BB3.out.size); clear B4))
  all_goals (go_wp2; go_ret; refine ⟨?_, BB4.out⟩; rw [← fin.out]; rfl)
end Go.Proofs.YtcomelbphdjnnaaGreatDoor.Sc
/-
  SCRIPT: the document's Line in one form; append onto rows of bytes in a walk.
-/
namespace Go.Proofs.YtcomelbphdjnnaaGreatDoor.Sc
open Go.RowKit Mr
open Go.Lib (itoa)
set_option linter.unusedVariables false
set_option linter.unusedSimpArgs false
set_option maxRecDepth 100000
/-- The text of a move that is no step, without its newline. -/
def callT (m : Mv) : List UInt8 :=
  match rowOf m.op with
  | some k => if tels k m = true then fil (fCall k) [m.th, m.arg, m.data] else fil fOp [m.th, m.op, m.arg, m.data]
  | none => fil fOp [m.th, m.op, m.arg, m.data]
theorem callLn_T (m : Mv) : callLn m = callT m ++ [10] := by
  unfold callLn callT
  cases rowOf m.op with
  | none => rfl
  | some k => dsimp only; split <;> rfl
def lnT (m : Mv) (k : Nat) : List UInt8 := if m = stp m.th then (if k = 1 then itoa m.th ++ [32, 46] else itoa m.th ++ [32, 46, 32] ++ itoa (k : Int)) else callT m
theorem lineOf_T (m : Mv) (r : List Mv) : (lineOf m r).1 = lnT m (lineOf m r).2 ++ [10] := by
  unfold lineOf lnT
  by_cases h : m = stp m.th
  · have hs : stepsOf m.th (m :: r) = stepsOf m.th r + 1 := by show (if m = stp m.th then _ else _) = _; rw [if_pos h]
    rw [if_pos h, if_neg (by omega)]
    split
    · rename_i h1
      simp [fStep, fil]
    · rename_i h1
      simp [fSteps, fil, h1]
  · have hs : stepsOf m.th (m :: r) = 0 := by show (if m = stp m.th then _ else _) = _; rw [if_neg h]
    rw [if_neg h, if_pos hs]
    exact callLn_T m
theorem fil_op (th op ar da : Int) : fil fOp [th, op, ar, da] = itoa th ++ [32, 111, 112, 32] ++ itoa op ++ [32] ++ itoa ar ++ [32] ++ itoa da := by simp [fOp, fil]
theorem fil_call (k : Nat) (hk : k < 21) (th ar da : Int) : fil (fCall k) [th, ar, da] = itoa th ++ ([32] ++ (wdA k).data.toList) ++ fil (Lib.repeatL [32, 48] (tkA k).toNat) [ar, da] := by
  obtain ⟨_, _, g4, _⟩ := wd_facts k hk
  have hfc : fCall k = 48 :: 32 :: ((wdA k).data.toList ++ Lib.repeatL [32, 48] (tkA k).toNat) := by unfold fCall; simp
  rw [hfc]
  simp only [fil, if_true]
  rw [if_neg (by decide), fil_app _ _ _ g4]
  simp
theorem tk_cases (k : Nat) (hk : k < 21) : tkA k = 0 ∨ tkA k = 1 ∨ tkA k = 2 := by
  have := all_below (P := fun k => decide (tkA k = 0) || decide (tkA k = 1) || decide (tkA k = 2)) (n := 21) (by decide +kernel) hk
  simp only [Bool.or_eq_true, decide_eq_true_eq] at this
  omega
theorem Line_any (m : Mv) (k : Nat) (w : World) (hb : MvB m) (hk : k ≤ 1000000) : Calls Tryz.prog 17 #[.agg #[.int .i64 m.th, .int .i64 m.op, .int .i64 m.arg, .int .i64 m.data], .int .i64 (k : Int)] w fun e w' => e = .returned (.string ⟨(lnT m k).toArray⟩) ∧ Below w.heap.size w w' := by
  have hn : Bd (k : Int) := by unfold Bd; omega
  obtain ⟨th, op, ar, da⟩ := m
  unfold lnT
  dsimp only
  by_cases hst : (⟨th, op, ar, da⟩ : Mv) = stp th
  · have e : op = 0 ∧ ar = 0 ∧ da = 0 := by unfold stp at hst; injection hst with h1 h2 h3 h4; exact ⟨h2, h3, h4⟩
    rw [if_pos hst]
    by_cases h1 : k = 1
    · rw [if_pos h1]
      exact line_s1 th op ar da (k : Int) w hb hn e.1 e.2.1 e.2.2 (by omega)
    · rw [if_neg h1]
      exact line_s2 th op ar da (k : Int) w hb hn e.1 e.2.1 e.2.2 (by omega)
  · rw [if_neg hst]
    have hne : ¬ (op = 0 ∧ ar = 0 ∧ da = 0) := fun e => hst (by unfold stp; rw [e.1, e.2.1, e.2.2])
    unfold callT
    dsimp only
    cases hr : rowOf op with
    | none =>
      dsimp only
      rw [fil_op]
      have hN : ∀ j, j < 21 → (opA j == op) = false := by
        unfold rowOf at hr
        rw [List.find?_eq_none] at hr
        intro j hj
        have := hr j (List.mem_range.2 hj)
        simpa using this
      by_cases h1 : op = 0
      · by_cases h2 : ar = 0
        · exact line_n3 th op ar da (k : Int) w hb hn hN h1 h2 (fun h3 => hne ⟨h1, h2, h3⟩)
        · exact line_n2 th op ar da (k : Int) w hb hn hN h1 h2
      · exact line_n1 th op ar da (k : Int) w hb hn hN h1
    | some j =>
      dsimp only
      obtain ⟨hj, ho⟩ := rowOf_some hr
      by_cases ht : tels j ⟨th, op, ar, da⟩ = true
      · rw [if_pos ht, fil_call j hj]
        unfold tels at ht
        dsimp only at ht
        simp only [Bool.and_eq_true, Bool.or_eq_true, decide_eq_true_eq, beq_iff_eq] at ht
        rcases tk_cases j hj with t0 | t0 | t0
        · have e : fil (Lib.repeatL [32, 48] (tkA j).toNat) [ar, da] = [] := by rw [t0]; simp [Lib.repeatL, fil]
          rw [e, List.append_nil]
          exact line_w0 th op ar da (k : Int) w hb hn j hj ho t0 (by omega) (by omega)
        · have e : fil (Lib.repeatL [32, 48] (tkA j).toNat) [ar, da] = [32] ++ itoa ar := by rw [t0]; simp [Lib.repeatL, fil]
          rw [e]
          exact line_w1 th op ar da (k : Int) w hb hn j hj ho t0 (by omega)
        · have e : fil (Lib.repeatL [32, 48] (tkA j).toNat) [ar, da] = ([32] ++ itoa ar) ++ ([32] ++ itoa da) := by rw [t0]; simp [Lib.repeatL, fil]
          rw [e, ← List.append_assoc]
          exact line_w2 th op ar da (k : Int) w hb hn j hj ho t0
      · rw [if_neg ht, fil_op]
        unfold tels at ht
        dsimp only at ht
        simp only [Bool.and_eq_true, Bool.or_eq_true, decide_eq_true_eq, beq_iff_eq] at ht
        rcases tk_cases j hj with t0 | t0 | t0
        · by_cases hd : da = 0
          · exact line_fb th op ar da (k : Int) w hb hn j hj ho t0 hd (by omega)
          · exact line_fa th op ar da (k : Int) w hb hn j hj ho t0 hd
        · exact line_fc th op ar da (k : Int) w hb hn j hj ho t0 (by omega)
        · exact absurd t0 (by omega)
theorem lnT_len (m : Mv) (k : Nat) (hb : MvB m) (hk : k ≤ 1000000) : (lnT m k).length ≤ 421 := by
  have hn : Bd (k : Int) := by unfold Bd; omega
  have h1 := callLn_len2 m hb
  rw [callLn_T, List.length_append] at h1
  have h2 := itoa_len m.th hb.1
  have h3 := itoa_len (k : Int) hn
  unfold lnT
  split
  · split <;> simp <;> omega
  · omega
section
variable {P : Program} (w : World)
theorem wpList_mb_str {ops : Array Oper} {rest : List Oper} {o : Oper} {a : Act} {Q : Exit → Act → World → Prop} (hgd : o.guard = none) (sl x : Operand) (t u : TypeId) (ho : o.op = .call { callee := .builtin .append, args := #[sl, x], argTypes := #[t, u] })
    (B : Nat) (e : TypeId) (i : TypeInfo) (ht : P.underlying t = some (.slice e)) (hu : P.underlying u = some .string) (hi : P.info? e = some i) (hz : i.zero = some (.int .u8 0)) (hsize : i.size = 1) (hby : i.bytes = 1) (v : Value) (l : List UInt8) (hs : a.eval sl = v) (h : Mb B w v l) (k : List UInt8) (hx : a.eval x = .string ⟨k.toArray⟩) (hb : l.length + k.length ≤ 100000000) (hbase : B ≤ w.heap.size)
    (hk : ∀ v' w', Mb B w' v' (l ++ k) → Below B w w' → wpList P ops Q rest (a.put o.dst v') w') : wpList P ops Q (o :: rest) a w := by
  refine wpList_plain hgd fun K hK => ?_
  obtain ⟨v', w', hr, h2, h3⟩ := run_append_mb_str (P := P) w t u o.type e i ht hu hi hz hsize hby h k hb hbase
  unfold Oper.wp execOp
  simp only [ho, resolve, invoke, builtin, Sem.run_bind, Sem.run_pure, Result.andThen_ok, List.map_toArray, List.map_cons, List.map_nil, hs, hx, hr]
  exact hK _ _ (hk v' w' h2 h3)
theorem wpList_mb {ops : Array Oper} {rest : List Oper} {o : Oper} {a : Act} {Q : Exit → Act → World → Prop} (hgd : o.guard = none) (sl x : Operand) (t : TypeId) (ho : o.op = .call { callee := .builtin .append, args := #[sl, x], argTypes := #[t, t] })
    (B : Nat) (e : TypeId) (i : TypeInfo) (ht : P.underlying t = some (.slice e)) (hi : P.info? e = some i) (hz : i.zero = some (.int .u8 0)) (hsize : i.size = 1) (hby : i.bytes = 1) (v : Value) (l : List UInt8) (hs : a.eval sl = v) (h : Mb B w v l) (ad : Addr) (m c : Nat) (k : List UInt8) (hx : a.eval x = .slice (some ad) m c) (hm : m = k.length) (hnews : ∀ j u, (Lib.byteCells k)[j]? = some u → w.cell? (ad.add j) = some u) (hb : l.length + k.length ≤ 100000000) (hbase : B ≤ w.heap.size)
    (hk : ∀ v' w', Mb B w' v' (l ++ k) → Below B w w' → wpList P ops Q rest (a.put o.dst v') w') : wpList P ops Q (o :: rest) a w := by
  refine wpList_plain hgd fun K hK => ?_
  obtain ⟨v', w', hr, h2, h3⟩ := run_append_mb (P := P) w t o.type e i ht hi hz hsize hby h ad m c k hm hnews hb hbase
  unfold Oper.wp execOp
  simp only [ho, resolve, invoke, builtin, Sem.run_bind, Sem.run_pure, Result.andThen_ok, List.map_toArray, List.map_cons, List.map_nil, hs, hx, hr]
  exact hK _ _ (hk v' w' h2 h3)
end
end Go.Proofs.YtcomelbphdjnnaaGreatDoor.Sc
