import Derived.Test.YtcomelbphdjnnaaGreatDoorJ35
import Derived.Test.YtcomelbphdjnnaaGreatDoorJ25
import Derived.Test.YtcomelbphdjnnaaGreatDoorJ36
import Derived.Test.YtcomelbphdjnnaaGreatDoorJ31
import Derived.Deep.Upon
/-
  SCRIPT: the document's Arguments and Line.
-/
namespace Go.Proofs.YtcomelbphdjnnaaGreatDoor.Sc
open Go.RowKit Mr
open Go.Lib (itoa)
set_option linter.unusedVariables false
set_option linter.unusedSimpArgs false
set_option maxRecDepth 100000
set_option maxHeartbeats 8000000 in
theorem args_some (k : Nat) (w : World) (hk : k < 21) : Calls Tryz.prog 33 #[.int .i64 (opA k)] w fun e w' => e = .returned (.int .i64 (tkA k)) ∧ w' = w := by
  have : k = 0 ∨ k = 1 ∨ k = 2 ∨ k = 3 ∨ k = 4 ∨ k = 5 ∨ k = 6 ∨ k = 7 ∨ k = 8 ∨ k = 9 ∨ k = 10 ∨ k = 11 ∨ k = 12 ∨ k = 13 ∨ k = 14 ∨ k = 15 ∨ k = 16 ∨ k = 17 ∨ k = 18 ∨ k = 19 ∨ k = 20 := by omega
  rcases this with rfl | rfl | rfl | rfl | rfl | rfl | rfl | rfl | rfl | rfl | rfl | rfl | rfl | rfl | rfl | rfl | rfl | rfl | rfl | rfl | rfl
  all_goals (clear hk; unfold opA tkA; simp only [tbl, List.getD_cons_zero, List.getD_cons_succ]; go_enter Tryz.func33, Tryz.ntmps33; go_wp2; go_ret; exact ⟨rfl, rfl⟩)
theorem ito_list (x : Int) : ito x = ⟨(itoa x).toArray⟩ := rfl
theorem lit_cat (x : List UInt8) (y : List UInt8) : (⟨x.toArray⟩ ++ ⟨y.toArray⟩ : ByteArray) = ⟨(x ++ y).toArray⟩ := cat_list x y
def DecC : Prop := ∀ (x : Int) (W : World), Bd x → Calls Tryz.prog 16 #[.int .i64 x] W fun e w' => e = .returned (.string (ito x)) ∧ Below W.heap.size W w'
theorem decC : DecC := fun x W h => St.decimal_any x W h.1 h.2
set_option maxHeartbeats 8000000 in
theorem line_s1 (th op ar da : Int) (n : Int) (w : World) (hb : MvB ⟨th, op, ar, da⟩) (hn : Bd n) (h1 : op = 0) (h2 : ar = 0) (h3 : da = 0) (h4 : n = 1) :
    Calls Tryz.prog 17 #[.agg #[.int .i64 th, .int .i64 op, .int .i64 ar, .int .i64 da], .int .i64 n] w fun e w' => e = .returned (.string ⟨(itoa th ++ [32, 46]).toArray⟩) ∧ Below w.heap.size w w' := by
  have DT := Mr.hid (fun W => decC th W hb.1)
  have sI : (ito th).size ≤ 21 := by unfold ito; rw [sz_list]; exact itoa_len th hb.1
  have hbx0 : (w.alloc (.cells #[.int .i64 th, .int .i64 op, .int .i64 ar, .int .i64 da] 42)).heap[w.heap.size]? = some (.cells #[.int .i64 th, .int .i64 op, .int .i64 ar, .int .i64 da] 42 (0, 0)) := new_at _ _ _ rfl
  have B0 : Hid (Below w.heap.size w (w.alloc (.cells #[.int .i64 th, .int .i64 op, .int .i64 ar, .int .i64 da] 42))) := (Below.refl _ _).alloc (Nat.le_refl _) _
  have fin : Hid ((ito th ++ ⟨#[32, 46]⟩ : ByteArray) = ⟨(itoa th ++ [32, 46]).toArray⟩) := cat_list _ _
  subst h1
  subst h2
  subst h3
  subst h4
  have z1 : ¬ 9223372036854775807 < (ito th).size + 2 := by omega
  generalize ito th = IT at *
  clear hb hn
  go_enter Tryz.func17, Tryz.ntmps17
  go_upto_region 2 with (go_at_call 16; refine (DT.out _).mono ?_; clear DT; rintro e w1 ⟨rfl, B1⟩)
  have hbx : w1.heap[w.heap.size]? = some (.cells #[.int .i64 th, .int .i64 0, .int .i64 0, .int .i64 0] 42 (0, 0)) := (B1.block _ (by simp)).trans hbx0
  have BB : Hid (Below w.heap.size w w1) := B0.out.trans (B1.mono (by simp))
  have x0 := cell_blk hbx 0
  have x1 := cell_blk hbx 1
  have x2 := cell_blk hbx 2
  have x3 := cell_blk hbx 3
  have lx := (Array.getElem?_eq_some_iff.1 hbx).1
  clear B1 B0 hbx0
  replace hbx := Mr.hid hbx
  go_wp2
  go_ret
  refine ⟨?_, BB.out⟩
  rw [← fin.out]
  rfl
set_option maxHeartbeats 8000000 in
theorem line_s2 (th op ar da : Int) (n : Int) (w : World) (hb : MvB ⟨th, op, ar, da⟩) (hn : Bd n) (h1 : op = 0) (h2 : ar = 0) (h3 : da = 0) (h4 : n ≠ 1) :
    Calls Tryz.prog 17 #[.agg #[.int .i64 th, .int .i64 op, .int .i64 ar, .int .i64 da], .int .i64 n] w fun e w' => e = .returned (.string ⟨(itoa th ++ [32, 46, 32] ++ itoa n).toArray⟩) ∧ Below w.heap.size w w' := by
  have DT := Mr.hid (fun W => decC th W hb.1)
  have sI : (ito th).size ≤ 21 := by unfold ito; rw [sz_list]; exact itoa_len th hb.1
  have hbx0 : (w.alloc (.cells #[.int .i64 th, .int .i64 op, .int .i64 ar, .int .i64 da] 42)).heap[w.heap.size]? = some (.cells #[.int .i64 th, .int .i64 op, .int .i64 ar, .int .i64 da] 42 (0, 0)) := new_at _ _ _ rfl
  have B0 : Hid (Below w.heap.size w (w.alloc (.cells #[.int .i64 th, .int .i64 op, .int .i64 ar, .int .i64 da] 42))) := (Below.refl _ _).alloc (Nat.le_refl _) _
  have DN := Mr.hid (fun W => decC n W hn)
  have fin : Hid ((ito th ++ ⟨#[32, 46, 32]⟩ ++ ito n : ByteArray) = ⟨(itoa th ++ [32, 46, 32] ++ itoa n).toArray⟩) := by
    show _ = _
    rw [ito_list, ito_list, lit_cat (itoa th) [32, 46, 32], lit_cat]
  have k4 : (n == 1) = false := beq_eq_false_iff_ne.2 h4
  subst h1
  subst h2
  subst h3
  have sN : (ito n).size ≤ 21 := by unfold ito; rw [sz_list]; exact itoa_len n hn
  have z1 : ¬ 9223372036854775807 < (ito th).size + 3 := by omega
  have z2 : ¬ 9223372036854775807 < (ito th).size + 3 + (ito n).size := by omega
  generalize ito th = IT at *
  generalize ito n = IN at *
  clear hb hn
  go_enter Tryz.func17, Tryz.ntmps17
  go_upto_region 2 with (go_at_call 16; refine (DT.out _).mono ?_; clear DT; rintro e w1 ⟨rfl, B1⟩)
  have hbx : w1.heap[w.heap.size]? = some (.cells #[.int .i64 th, .int .i64 0, .int .i64 0, .int .i64 0] 42 (0, 0)) := (B1.block _ (by simp)).trans hbx0
  have BB : Hid (Below w.heap.size w w1) := B0.out.trans (B1.mono (by simp))
  have x0 := cell_blk hbx 0
  have x1 := cell_blk hbx 1
  have x2 := cell_blk hbx 2
  have x3 := cell_blk hbx 3
  have lx := (Array.getElem?_eq_some_iff.1 hbx).1
  clear B1 B0 hbx0
  replace hbx := Mr.hid hbx
  go_wp2_with (go_at_call 16; refine (DN.out _).mono ?_; clear DN; rintro e w2 ⟨rfl, B2⟩; have BB2 : Hid (Below w.heap.size w w2) := BB.out.trans (B2.mono BB.out.size); clear B2)
  go_ret
  refine ⟨?_, BB2.out⟩
  rw [← fin.out]
  rfl
set_option maxHeartbeats 8000000 in
theorem line_w0 (th op ar da : Int) (n : Int) (w : World) (hb : MvB ⟨th, op, ar, da⟩) (hn : Bd n) (k : Nat) (hk : k < 21) (ho : opA k = op) (ht : tkA k = 0) (h3 : da = 0) (h2 : ar = 0) :
    Calls Tryz.prog 17 #[.agg #[.int .i64 th, .int .i64 op, .int .i64 ar, .int .i64 da], .int .i64 n] w fun e w' => e = .returned (.string ⟨(itoa th ++ ([32] ++ (wdA k).data.toList)).toArray⟩) ∧ Below w.heap.size w w' := by
  have DT := Mr.hid (fun W => decC th W hb.1)
  have sI : (ito th).size ≤ 21 := by unfold ito; rw [sz_list]; exact itoa_len th hb.1
  have hbx0 : (w.alloc (.cells #[.int .i64 th, .int .i64 op, .int .i64 ar, .int .i64 da] 42)).heap[w.heap.size]? = some (.cells #[.int .i64 th, .int .i64 op, .int .i64 ar, .int .i64 da] 42 (0, 0)) := new_at _ _ _ rfl
  have B0 : Hid (Below w.heap.size w (w.alloc (.cells #[.int .i64 th, .int .i64 op, .int .i64 ar, .int .i64 da] 42))) := (Below.refl _ _).alloc (Nat.le_refl _) _
  have WD := Mr.hid (fun W => refWord_some k W hk)
  have AR := Mr.hid (fun W => args_some k W hk)
  have DA := Mr.hid (fun W => decC ar W hb.2.2.1)
  have DD := Mr.hid (fun W => decC da W hb.2.2.2)
  obtain ⟨-, ho1, ho2⟩ := ref_nil k hk
  have hne := (ref_nil k hk).1
  have hwl : (wdA k).size ≤ 100 := by have := all_below (P := fun k => decide ((wdA k).size ≤ 100)) (n := 21) (by decide +kernel) hk; simpa using this
  have hwe : wdA k = ⟨(wdA k).data.toList.toArray⟩ := by simp
  rw [ho] at WD AR ho1 ho2
  rw [ht] at AR
  have k1 : (op == 0) = false := beq_eq_false_iff_ne.2 (by omega)
  have k2 : ¬ op = 0 := by omega
  have sA : (ito ar).size ≤ 21 := by unfold ito; rw [sz_list]; exact itoa_len ar hb.2.2.1
  have sD : (ito da).size ≤ 21 := by unfold ito; rw [sz_list]; exact itoa_len da hb.2.2.2
  have fin : Hid ((ito th ++ (⟨#[32]⟩ ++ wdA k) : ByteArray) = ⟨(itoa th ++ ([32] ++ (wdA k).data.toList)).toArray⟩) := by
    show _ = _
    have e1 : (⟨#[32]⟩ ++ wdA k : ByteArray) = ⟨([32] ++ (wdA k).data.toList).toArray⟩ := by
      have := cat_list [32] (wdA k).data.toList
      rw [← hwe] at this
      exact this
    have e2 : ∀ x, (⟨#[32]⟩ ++ ito x : ByteArray) = ⟨([32] ++ itoa x).toArray⟩ := fun x => cat_list [32] (itoa x)
    rw [e1, ito_list th, lit_cat]
  obtain ⟨PT, hPT⟩ : ∃ P : ByteArray, P = ⟨(itoa th ++ ([32] ++ (wdA k).data.toList)).toArray⟩ := ⟨_, rfl⟩
  rw [← hPT] at fin ⊢
  clear hPT
  generalize wdA k = wd at *
  generalize ito th = IT at *
  generalize ito ar = IA at *
  generalize ito da = ID at *
  have hne2 : ¬ wd.toList = [] := by simpa using hne
  have hne3 : wd.toList.isEmpty = false := by cases h : wd.toList with | nil => exact absurd h hne2 | cons a b => rfl
  have z0 : ¬ 9223372036854775807 < 1 + wd.size := by omega
  have z1 : ¬ 9223372036854775807 < IT.size + (1 + wd.size) := by omega
  have z2 : ¬ 9223372036854775807 < 1 + IA.size := by omega
  have z3 : ¬ 9223372036854775807 < IT.size + (1 + wd.size) + (1 + IA.size) := by omega
  have z4 : ¬ 9223372036854775807 < 1 + ID.size := by omega
  have z5 : ¬ 9223372036854775807 < IT.size + (1 + wd.size) + (1 + IA.size) + (1 + ID.size) := by omega
  subst h3
  subst h2
  clear hb hn hne ho ht hwe
  go_enter Tryz.func17, Tryz.ntmps17
  go_upto_region 2 with (go_at_call 16; refine (DT.out _).mono ?_; clear DT; rintro e w1 ⟨rfl, B1⟩)
  have hbx : w1.heap[w.heap.size]? = some (.cells #[.int .i64 th, .int .i64 op, .int .i64 0, .int .i64 0] 42 (0, 0)) := (B1.block _ (by simp)).trans hbx0
  have BB : Hid (Below w.heap.size w w1) := B0.out.trans (B1.mono (by simp))
  have x0 := cell_blk hbx 0
  have x1 := cell_blk hbx 1
  have x2 := cell_blk hbx 2
  have x3 := cell_blk hbx 3
  have lx := (Array.getElem?_eq_some_iff.1 hbx).1
  clear B1 B0 hbx0
  replace hbx := Mr.hid hbx
  go_wp2_with (first | (go_at_call 32; refine (WD.out _).mono ?_; rintro e w9 ⟨rfl, hw9⟩; obtain rfl := hw9.symm) | (go_at_call 33; refine (AR.out _).mono ?_; rintro e w9 ⟨rfl, hw9⟩; obtain rfl := hw9.symm))
  go_ret
  refine ⟨?_, BB.out⟩
  rw [← fin.out]
  rfl
set_option maxHeartbeats 8000000 in
theorem line_w1 (th op ar da : Int) (n : Int) (w : World) (hb : MvB ⟨th, op, ar, da⟩) (hn : Bd n) (k : Nat) (hk : k < 21) (ho : opA k = op) (ht : tkA k = 1) (h3 : da = 0) :
    Calls Tryz.prog 17 #[.agg #[.int .i64 th, .int .i64 op, .int .i64 ar, .int .i64 da], .int .i64 n] w fun e w' => e = .returned (.string ⟨(itoa th ++ ([32] ++ (wdA k).data.toList) ++ ([32] ++ itoa ar)).toArray⟩) ∧ Below w.heap.size w w' := by
  have DT := Mr.hid (fun W => decC th W hb.1)
  have sI : (ito th).size ≤ 21 := by unfold ito; rw [sz_list]; exact itoa_len th hb.1
  have hbx0 : (w.alloc (.cells #[.int .i64 th, .int .i64 op, .int .i64 ar, .int .i64 da] 42)).heap[w.heap.size]? = some (.cells #[.int .i64 th, .int .i64 op, .int .i64 ar, .int .i64 da] 42 (0, 0)) := new_at _ _ _ rfl
  have B0 : Hid (Below w.heap.size w (w.alloc (.cells #[.int .i64 th, .int .i64 op, .int .i64 ar, .int .i64 da] 42))) := (Below.refl _ _).alloc (Nat.le_refl _) _
  have WD := Mr.hid (fun W => refWord_some k W hk)
  have AR := Mr.hid (fun W => args_some k W hk)
  have DA := Mr.hid (fun W => decC ar W hb.2.2.1)
  have DD := Mr.hid (fun W => decC da W hb.2.2.2)
  obtain ⟨-, ho1, ho2⟩ := ref_nil k hk
  have hne := (ref_nil k hk).1
  have hwl : (wdA k).size ≤ 100 := by have := all_below (P := fun k => decide ((wdA k).size ≤ 100)) (n := 21) (by decide +kernel) hk; simpa using this
  have hwe : wdA k = ⟨(wdA k).data.toList.toArray⟩ := by simp
  rw [ho] at WD AR ho1 ho2
  rw [ht] at AR
  have k1 : (op == 0) = false := beq_eq_false_iff_ne.2 (by omega)
  have k2 : ¬ op = 0 := by omega
  have sA : (ito ar).size ≤ 21 := by unfold ito; rw [sz_list]; exact itoa_len ar hb.2.2.1
  have sD : (ito da).size ≤ 21 := by unfold ito; rw [sz_list]; exact itoa_len da hb.2.2.2
  have fin : Hid ((ito th ++ (⟨#[32]⟩ ++ wdA k) ++ (⟨#[32]⟩ ++ ito ar) : ByteArray) = ⟨(itoa th ++ ([32] ++ (wdA k).data.toList) ++ ([32] ++ itoa ar)).toArray⟩) := by
    show _ = _
    have e1 : (⟨#[32]⟩ ++ wdA k : ByteArray) = ⟨([32] ++ (wdA k).data.toList).toArray⟩ := by
      have := cat_list [32] (wdA k).data.toList
      rw [← hwe] at this
      exact this
    have e2 : ∀ x, (⟨#[32]⟩ ++ ito x : ByteArray) = ⟨([32] ++ itoa x).toArray⟩ := fun x => cat_list [32] (itoa x)
    rw [e1, e2 ar, ito_list th, lit_cat, lit_cat]
  obtain ⟨PT, hPT⟩ : ∃ P : ByteArray, P = ⟨(itoa th ++ ([32] ++ (wdA k).data.toList) ++ ([32] ++ itoa ar)).toArray⟩ := ⟨_, rfl⟩
  rw [← hPT] at fin ⊢
  clear hPT
  generalize wdA k = wd at *
  generalize ito th = IT at *
  generalize ito ar = IA at *
  generalize ito da = ID at *
  have hne2 : ¬ wd.toList = [] := by simpa using hne
  have hne3 : wd.toList.isEmpty = false := by cases h : wd.toList with | nil => exact absurd h hne2 | cons a b => rfl
  have z0 : ¬ 9223372036854775807 < 1 + wd.size := by omega
  have z1 : ¬ 9223372036854775807 < IT.size + (1 + wd.size) := by omega
  have z2 : ¬ 9223372036854775807 < 1 + IA.size := by omega
  have z3 : ¬ 9223372036854775807 < IT.size + (1 + wd.size) + (1 + IA.size) := by omega
  have z4 : ¬ 9223372036854775807 < 1 + ID.size := by omega
  have z5 : ¬ 9223372036854775807 < IT.size + (1 + wd.size) + (1 + IA.size) + (1 + ID.size) := by omega
  subst h3
  clear hb hn hne ho ht hwe
  go_enter Tryz.func17, Tryz.ntmps17
  go_upto_region 2 with (go_at_call 16; refine (DT.out _).mono ?_; clear DT; rintro e w1 ⟨rfl, B1⟩)
  have hbx : w1.heap[w.heap.size]? = some (.cells #[.int .i64 th, .int .i64 op, .int .i64 ar, .int .i64 0] 42 (0, 0)) := (B1.block _ (by simp)).trans hbx0
  have BB : Hid (Below w.heap.size w w1) := B0.out.trans (B1.mono (by simp))
  have x0 := cell_blk hbx 0
  have x1 := cell_blk hbx 1
  have x2 := cell_blk hbx 2
  have x3 := cell_blk hbx 3
  have lx := (Array.getElem?_eq_some_iff.1 hbx).1
  clear B1 B0 hbx0
  replace hbx := Mr.hid hbx
  go_wp2_with (first | (go_at_call 32; refine (WD.out _).mono ?_; rintro e w9 ⟨rfl, hw9⟩; obtain rfl := hw9.symm) | (go_at_call 33; refine (AR.out _).mono ?_; rintro e w9 ⟨rfl, hw9⟩; obtain rfl := hw9.symm) | (go_at_call 16; refine (DA.out _).mono ?_; clear DA; rintro e w2 ⟨rfl, B2⟩; have BB2 : Hid (Below w.heap.size w w2) := BB.out.trans (B2.mono BB.out.size); have y3 : w2.cell? ⟨w.heap.size, 3, none⟩ = some (.int .i64 0) := (B2.cell (p := ⟨w.heap.size, 3, none⟩) lx).trans x3; have l2 : w.heap.size < w2.heap.size := Nat.lt_of_lt_of_le lx B2.size; clear B2 x0 x1 x2 x3 lx))
  go_ret
  refine ⟨?_, BB2.out⟩
  rw [← fin.out]
  rfl
set_option maxHeartbeats 8000000 in
theorem line_w2 (th op ar da : Int) (n : Int) (w : World) (hb : MvB ⟨th, op, ar, da⟩) (hn : Bd n) (k : Nat) (hk : k < 21) (ho : opA k = op) (ht : tkA k = 2) :
    Calls Tryz.prog 17 #[.agg #[.int .i64 th, .int .i64 op, .int .i64 ar, .int .i64 da], .int .i64 n] w fun e w' => e = .returned (.string ⟨(itoa th ++ ([32] ++ (wdA k).data.toList) ++ ([32] ++ itoa ar) ++ ([32] ++ itoa da)).toArray⟩) ∧ Below w.heap.size w w' := by
  have DT := Mr.hid (fun W => decC th W hb.1)
  have sI : (ito th).size ≤ 21 := by unfold ito; rw [sz_list]; exact itoa_len th hb.1
  have hbx0 : (w.alloc (.cells #[.int .i64 th, .int .i64 op, .int .i64 ar, .int .i64 da] 42)).heap[w.heap.size]? = some (.cells #[.int .i64 th, .int .i64 op, .int .i64 ar, .int .i64 da] 42 (0, 0)) := new_at _ _ _ rfl
  have B0 : Hid (Below w.heap.size w (w.alloc (.cells #[.int .i64 th, .int .i64 op, .int .i64 ar, .int .i64 da] 42))) := (Below.refl _ _).alloc (Nat.le_refl _) _
  have WD := Mr.hid (fun W => refWord_some k W hk)
  have AR := Mr.hid (fun W => args_some k W hk)
  have DA := Mr.hid (fun W => decC ar W hb.2.2.1)
  have DD := Mr.hid (fun W => decC da W hb.2.2.2)
  obtain ⟨-, ho1, ho2⟩ := ref_nil k hk
  have hne := (ref_nil k hk).1
  have hwl : (wdA k).size ≤ 100 := by have := all_below (P := fun k => decide ((wdA k).size ≤ 100)) (n := 21) (by decide +kernel) hk; simpa using this
  have hwe : wdA k = ⟨(wdA k).data.toList.toArray⟩ := by simp
  rw [ho] at WD AR ho1 ho2
  rw [ht] at AR
  have k1 : (op == 0) = false := beq_eq_false_iff_ne.2 (by omega)
  have k2 : ¬ op = 0 := by omega
  have sA : (ito ar).size ≤ 21 := by unfold ito; rw [sz_list]; exact itoa_len ar hb.2.2.1
  have sD : (ito da).size ≤ 21 := by unfold ito; rw [sz_list]; exact itoa_len da hb.2.2.2
  have fin : Hid ((ito th ++ (⟨#[32]⟩ ++ wdA k) ++ (⟨#[32]⟩ ++ ito ar) ++ (⟨#[32]⟩ ++ ito da) : ByteArray) = ⟨(itoa th ++ ([32] ++ (wdA k).data.toList) ++ ([32] ++ itoa ar) ++ ([32] ++ itoa da)).toArray⟩) := by
    show _ = _
    have e1 : (⟨#[32]⟩ ++ wdA k : ByteArray) = ⟨([32] ++ (wdA k).data.toList).toArray⟩ := by
      have := cat_list [32] (wdA k).data.toList
      rw [← hwe] at this
      exact this
    have e2 : ∀ x, (⟨#[32]⟩ ++ ito x : ByteArray) = ⟨([32] ++ itoa x).toArray⟩ := fun x => cat_list [32] (itoa x)
    rw [e1, e2 ar, e2 da, ito_list th, lit_cat, lit_cat, lit_cat]
  obtain ⟨PT, hPT⟩ : ∃ P : ByteArray, P = ⟨(itoa th ++ ([32] ++ (wdA k).data.toList) ++ ([32] ++ itoa ar) ++ ([32] ++ itoa da)).toArray⟩ := ⟨_, rfl⟩
  rw [← hPT] at fin ⊢
  clear hPT
  generalize wdA k = wd at *
  generalize ito th = IT at *
  generalize ito ar = IA at *
  generalize ito da = ID at *
  have hne2 : ¬ wd.toList = [] := by simpa using hne
  have hne3 : wd.toList.isEmpty = false := by cases h : wd.toList with | nil => exact absurd h hne2 | cons a b => rfl
  have z0 : ¬ 9223372036854775807 < 1 + wd.size := by omega
  have z1 : ¬ 9223372036854775807 < IT.size + (1 + wd.size) := by omega
  have z2 : ¬ 9223372036854775807 < 1 + IA.size := by omega
  have z3 : ¬ 9223372036854775807 < IT.size + (1 + wd.size) + (1 + IA.size) := by omega
  have z4 : ¬ 9223372036854775807 < 1 + ID.size := by omega
  have z5 : ¬ 9223372036854775807 < IT.size + (1 + wd.size) + (1 + IA.size) + (1 + ID.size) := by omega
  clear hb hn hne ho ht hwe
  go_enter Tryz.func17, Tryz.ntmps17
  go_upto_region 2 with (go_at_call 16; refine (DT.out _).mono ?_; clear DT; rintro e w1 ⟨rfl, B1⟩)
  have hbx : w1.heap[w.heap.size]? = some (.cells #[.int .i64 th, .int .i64 op, .int .i64 ar, .int .i64 da] 42 (0, 0)) := (B1.block _ (by simp)).trans hbx0
  have BB : Hid (Below w.heap.size w w1) := B0.out.trans (B1.mono (by simp))
  have x0 := cell_blk hbx 0
  have x1 := cell_blk hbx 1
  have x2 := cell_blk hbx 2
  have x3 := cell_blk hbx 3
  have lx := (Array.getElem?_eq_some_iff.1 hbx).1
  clear B1 B0 hbx0
  replace hbx := Mr.hid hbx
  go_wp2_with (first | (go_at_call 32; refine (WD.out _).mono ?_; rintro e w9 ⟨rfl, hw9⟩; obtain rfl := hw9.symm) | (go_at_call 33; refine (AR.out _).mono ?_; rintro e w9 ⟨rfl, hw9⟩; obtain rfl := hw9.symm) | (go_at_call 16; refine (DA.out _).mono ?_; clear DA; rintro e w2 ⟨rfl, B2⟩; have BB2 : Hid (Below w.heap.size w w2) := BB.out.trans (B2.mono BB.out.size); have y3 : w2.cell? ⟨w.heap.size, 3, none⟩ = some (.int .i64 da) := (B2.cell (p := ⟨w.heap.size, 3, none⟩) lx).trans x3; have l2 : w.heap.size < w2.heap.size := Nat.lt_of_lt_of_le lx B2.size; clear B2 x0 x1 x2 x3 lx) | (go_at_call 16; refine (DD.out _).mono ?_; clear DD; rintro e w3 ⟨rfl, B3⟩; have BB3 : Hid (Below w.heap.size w w3) := BB2.out.trans (B3.mono BB2.out.size); clear B3))
  go_ret
  refine ⟨?_, BB3.out⟩
  rw [← fin.out]
  rfl
end Go.Proofs.YtcomelbphdjnnaaGreatDoor.Sc
/-
  SCRIPT: the document's move.
-/
namespace Go.Proofs.YtcomelbphdjnnaaGreatDoor.Sc
open Go.RowKit Mr
set_option linter.unusedVariables false
set_option linter.unusedSimpArgs false
set_option maxRecDepth 100000
def mvA (m : Mv) : Value := .agg #[.int .i64 m.th, .int .i64 m.op, .int .i64 m.arg, .int .i64 m.data]
/-- What move answers. -/
def MoA (w : World) (ws : List (List UInt8)) (e : Ending) (w' : World) : Prop := ∃ (mv : Mv) (k : Int) (rd : Bool) (er : Int), e = .returned (.tuple #[mvA mv, .int .i64 k, .bool rd, .int .i64 er]) ∧ (Dm ws mv k rd er ∧ (rd = true → mv = noMv)) ∧ Below w.heap.size w w'
theorem run_append_zero {P : Program} (w : World) (t ty e : TypeId) (i : TypeInfo) (ht : P.underlying t = some (.slice e)) (hi : P.info? e = some i) (base : Option Addr) (sLen sCap : Nat) (hle : sLen ≤ sCap) (a0 : Option Addr) (c : Nat) :
    (Builtin.append_ #[t, t] ty #[.slice base sLen sCap, .slice a0 0 c]).run P w = .ok (.slice base sLen sCap) w := by
  cases a0 with
  | none => exact run_append_nothing w t t ty e i ht hi base sLen sCap hle _ (Src.ofNil _ ht c)
  | some a => exact run_append_nothing w t t ty e i ht hi base sLen sCap hle _ (Src.ofSlice _ ht a 0 c [] (by simp) (by simp) (by simp))
theorem wp_append_zero {P : Program} {w : World} {o : Oper} {a : Act} {K : Act → World → Prop} {Q : Exit → Act → World → Prop} (s x : Operand) (t : TypeId)
    (ho : o.op = .call { callee := .builtin .append, args := #[s, x], argTypes := #[t, t] }) (e : TypeId) (i : TypeInfo) (ht : P.underlying t = some (.slice e)) (hi : P.info? e = some i)
    (base : Option Addr) (sLen sCap : Nat) (hle : sLen ≤ sCap) (hs : a.eval s = .slice base sLen sCap) (a0 : Option Addr) (c : Nat) (hx : a.eval x = .slice a0 0 c)
    (h : K (a.put o.dst (.slice base sLen sCap)) w) : o.wp P a w K Q := by
  have hr := run_append_zero (P := P) w t o.type e i ht hi base sLen sCap hle a0 c
  unfold Oper.wp execOp
  simp only [ho, resolve, invoke, builtin, Sem.run_bind, Sem.run_pure, Result.andThen_ok, List.map_toArray, List.map_cons, List.map_nil, hs, hx, hr]
  exact h
theorem wpList_append_zero {P : Program} {w : World} {ops : Array Oper} {rest : List Oper} {o : Oper} {a : Act} {Q : Exit → Act → World → Prop} (hgd : o.guard = none) (s x : Operand) (t : TypeId)
    (ho : o.op = .call { callee := .builtin .append, args := #[s, x], argTypes := #[t, t] }) (e : TypeId) (i : TypeInfo) (ht : P.underlying t = some (.slice e)) (hi : P.info? e = some i)
    (base : Option Addr) (sLen sCap : Nat) (hle : sLen ≤ sCap) (hs : a.eval s = .slice base sLen sCap) (a0 : Option Addr) (c : Nat) (hx : a.eval x = .slice a0 0 c)
    (h : wpList P ops Q rest (a.put o.dst (.slice base sLen sCap)) w) : wpList P ops Q (o :: rest) a w :=
  wpList_plain hgd fun _ hK => wp_append_zero s x t ho e i ht hi base sLen sCap hle hs a0 c hx (hK _ _ h)
theorem times_ex (x : List UInt8) (a : Option Addr) (c : Nat) (w : World) (hW : WsO w a 1 [x]) (hsz : x.length ≤ 1048576) :
    Calls Tryz.prog 40 #[.slice a 1 c] w fun e w' => ∃ k er : Int, e = .returned (.tuple #[.int .i64 k, .int .i64 er]) ∧ ((fltL [x] ≠ 0 ∧ er = fltL [x]) ∨ (fltL [x] = 0 ∧ (numV x < 1 ∨ 65536 < numV x) ∧ er = 2) ∨ (fltL [x] = 0 ∧ 1 ≤ numV x ∧ numV x ≤ 65536 ∧ k = numV x ∧ er = 0)) ∧ w' = w := by
  refine (times_any x a c w hW hsz).mono ?_
  rintro e w' ⟨h1, h2, h3⟩
  by_cases h0 : fltL [x] = 0
  · obtain ⟨h4, h5⟩ := h2 h0
    by_cases hr : numV x < 1 ∨ 65536 < numV x
    · exact ⟨0, 2, h4 hr, .inr (.inl ⟨h0, hr, rfl⟩), h3⟩
    · exact ⟨numV x, 0, h5 (by omega), .inr (.inr ⟨h0, by omega, by omega, rfl, rfl⟩), h3⟩
  · exact ⟨0, fltL [x], h1 h0, .inl ⟨h0, rfl⟩, h3⟩
set_option maxHeartbeats 8000000 in
theorem move_star_no (r : List (List UInt8)) (a : Option Addr) (n c : Nat) (w : World) (hW : WsAt w a n ([42] :: r)) (hg : ∀ x ∈ ([42] : List UInt8) :: r, Gw x) (hr : r.length ≠ 1) :
    Calls Tryz.prog 25 #[.slice a n c] w (MoA w ([42] :: r)) := by
  have hD := Mr.hid (dm_star_no r hg hr noMv 0 false)
  obtain ⟨g, rfl, hgl, hc⟩ := hW.at (by rw [hW.1]; simp)
  have c0 := hc 0 (by rw [hW.1]; simp)
  rw [List.getD_cons_zero] at c0
  have hn : n ≠ 2 := by have := hW.1; simp at this; omega
  have hn1 : 1 ≤ n := by have := hW.1; simp at this; omega
  have k1 : ((n : Int) != 2) = true := bne_iff_ne.2 (by omega)
  have k2 : ¬ (n : Int) = 2 := by omega
  have k3 : (0 : Int) < (n : Int) := by omega
  have B0 : Hid (Below w.heap.size w (w.alloc (.cells #[.int .i64 0, .int .i64 0, .int .i64 0, .int .i64 0] 42))) := (Below.refl _ _).alloc (Nat.le_refl _) _
  clear hW hg hr hc hn
  go_enter Tryz.func25, Tryz.ntmps25
  go_wp2
  refine bodyPost_ret (v := .tuple #[.agg #[.int .i64 0, .int .i64 0, .int .i64 0, .int .i64 0], .int .i64 0, .bool false, .int .i64 170]) (by simp [results, Tryz.results25, go_sem, *]) rfl ⟨noMv, 0, false, 170, rfl, ⟨hD.out, fun h => by cases h⟩, B0.out⟩
set_option maxHeartbeats 8000000 in
theorem move_one (x0 : List UInt8) (a : Option Addr) (n c : Nat) (w : World) (hW : WsAt w a n [x0]) (hg : ∀ x ∈ [x0], Gw x) (h0 : x0 ≠ [42]) :
    Calls Tryz.prog 25 #[.slice a n c] w (MoA w [x0]) := by
  have hD : Hid (Dm [x0] noMv 0 false 170) := by
    refine Dm.none _ _ _ fun T => mean_none T _ _ hg ?_ ?_ ?_ ?_ ?_
    · simp
    · simp
    · simp
    · simp
    · intro k _ h; simp at h
  have hn := hW.1
  simp at hn
  subst hn
  obtain ⟨g, rfl, hgl, hc⟩ := hW.at (by decide)
  have c0 := hc 0 (by decide)
  rw [List.getD_cons_zero] at c0
  generalize hX : (⟨x0.toArray⟩ : ByteArray) = X at *
  have k1 : ¬ X.toList = [42] := by rw [← hX, toList_mk]; exact h0
  have k2 : (X.toList == [42]) = false := beq_eq_false_iff_ne.2 k1
  have B0 : Hid (Below w.heap.size w (w.alloc (.cells #[.int .i64 0, .int .i64 0, .int .i64 0, .int .i64 0] 42))) := (Below.refl _ _).alloc (Nat.le_refl _) _
  clear hW hg hc hX
  go_enter Tryz.func25, Tryz.ntmps25
  go_wp2
  refine bodyPost_ret (v := .tuple #[.agg #[.int .i64 0, .int .i64 0, .int .i64 0, .int .i64 0], .int .i64 0, .bool false, .int .i64 170]) (by simp [results, Tryz.results25, go_sem, *]) rfl ⟨noMv, 0, false, 170, rfl, ⟨hD.out, fun h => by cases h⟩, B0.out⟩
set_option maxHeartbeats 8000000 in
theorem move_star (x1 : List UInt8) (a : Option Addr) (n c : Nat) (w : World) (hW : WsAt w a n [[42], x1]) (hg : ∀ x ∈ [[42], x1], Gw x) (hsz : x1.length ≤ 1048576) (hcap : n ≤ c) :
    Calls Tryz.prog 25 #[.slice a n c] w (MoA w [[42], x1]) := by
  have hn := hW.1
  simp at hn
  subst hn
  obtain ⟨g, rfl, hgl, hc⟩ := hW.at (by decide)
  have c0 := hc 0 (by decide)
  rw [List.getD_cons_zero] at c0
  have hD := dm_star hg noMv 0 true
  have B0 : Below w.heap.size w (w.alloc (.cells #[.int .i64 0, .int .i64 0, .int .i64 0, .int .i64 0] 42)) := (Below.refl _ _).alloc (Nat.le_refl _) _
  have hWd : WsO (w.alloc (.cells #[.int .i64 0, .int .i64 0, .int .i64 0, .int .i64 0] 42)) (some ⟨g, 1, none⟩) 1 [x1] := by
    have := (WsO.of hW).drop 1 (by decide) (some ⟨g, 0 + 1, none⟩) (fun _ => rfl)
    exact this.below B0
  have TM := Mr.hid (times_ex x1 _ (c - 1) _ hWd hsz)
  have hb : Hid ((w.alloc (.cells #[.int .i64 0, .int .i64 0, .int .i64 0, .int .i64 0] 42)).heap[w.heap.size]? = some (.cells #[.int .i64 0, .int .i64 0, .int .i64 0, .int .i64 0] 42 (0, 0))) := new_at _ _ _ rfl
  replace B0 := Mr.hid B0
  replace hD := Mr.hid hD
  have k1 : (1 : Int) ≤ (c : Int) := by omega
  have k2 : 1 < c := by omega
  have k3 : (1 : Int) < (c : Int) := by omega
  clear hW hg hc hWd
  go_enter Tryz.func25, Tryz.ntmps25
  have x0 := cell_blk hb.out 0
  have x1' := cell_blk hb.out 1
  have x2' := cell_blk hb.out 2
  have x3' := cell_blk hb.out 3
  have hfz : ∀ k, (w.alloc (.cells #[.int .i64 0, .int .i64 0, .int .i64 0, .int .i64 0] 42)).frozen? ⟨w.heap.size, k, none⟩ = false := fun k => by unfold World.frozen?; rw [hb.out]; rfl
  have lb : w.heap.size < (w.alloc (.cells #[.int .i64 0, .int .i64 0, .int .i64 0, .int .i64 0] 42)).heap.size := by simp
  go_wp2_with (go_at_call 40; refine TM.out.mono ?_; clear TM; rintro e w9 ⟨k, er, rfl, t1, hw9⟩; obtain rfl := hw9.symm; replace t1 := Mr.hid t1)
  refine bodyPost_ret (v := .tuple #[.agg #[.int .i64 0, .int .i64 0, .int .i64 0, .int .i64 0], .int .i64 k, .bool true, .int .i64 er]) (by simp [results, Tryz.results25, go_sem, *]) rfl ⟨noMv, k, true, er, rfl, ?_, ?_⟩
  · refine ⟨?_, fun _ => rfl⟩
    obtain ⟨d1, d2⟩ := hD.out
    rcases t1.out with ⟨h0, rfl⟩ | ⟨h0, hr, rfl⟩ | ⟨h0, h1, h2, rfl, rfl⟩
    · have d := d1 h0
      exact ⟨fun h => absurd h h0, d.bad⟩
    · have d := (d2 h0).1 hr
      exact ⟨fun h => by omega, d.bad⟩
    · have d := (d2 h0).2 ⟨h1, h2⟩
      exact ⟨fun h => ⟨h1, h2, (d.ok rfl).2.2.1, fun T => (d.ok rfl).2.2.2 T⟩, fun h => absurd rfl h⟩
  · first | exact B0.out | trace_state
end Go.Proofs.YtcomelbphdjnnaaGreatDoor.Sc
