import Derived.Test.YtcomelbphdjnnaaGreatDoorJ25
import Derived.Test.YtcomelbphdjnnaaGreatDoorJ20
/-
  SCRIPT: awake.
-/
namespace Go.Proofs.YtcomelbphdjnnaaGreatDoor.Sc
open Go.RowKit Mr
set_option linter.unusedVariables false
set_option linter.unusedSimpArgs false
set_option maxRecDepth 100000
theorem lineF_any (w : World) : Calls Tryz.prog 18 #[] w fun e w' => e = .returned (.string ⟨lineA.toArray⟩) ∧ w' = w := by
  go_enter Tryz.func18, Tryz.ntmps18
  go_wp2
  go_ret
  exact ⟨rfl, rfl⟩
theorem small_any (w : World) : Calls Tryz.prog 19 #[] w fun e w' => e = .returned (.agg #[.int .i64 2, .int .i64 2, .int .i64 3, .int .i64 1, .int .i64 0, .int .i64 4, .int .i64 1]) ∧ Below w.heap.size w w' := by
  go_enter Tryz.func19, Tryz.ntmps19
  go_wp2
  refine bodyPost_ret (v := .agg #[.int .i64 2, .int .i64 2, .int .i64 3, .int .i64 1, .int .i64 0, .int .i64 4, .int .i64 1]) (by simp [results, Tryz.results19, go_sem]) rfl ⟨rfl, ?_⟩
  exact (Below.refl _ _).alloc (Nat.le_refl _) _
theorem cat_list (x y : List UInt8) : (⟨x.toArray⟩ ++ ⟨y.toArray⟩ : ByteArray) = ⟨(x ++ y).toArray⟩ := by
  apply ByteArray.ext
  simp
theorem aw_text : prT (Wc.cfgB 2 2 3 1 0 4 1) [2, 2, 3, 1, 0, 4, 1] msS = ⟨(lineA ++ tlB).toArray⟩ ∧ prE (Wc.cfgB 2 2 3 1 0 4 1) [2, 2, 3, 1, 0, 4, 1] msS = 0 := by
  have h1 : Wc.cfgB 2 2 3 1 0 4 1 = true := by decide
  have h2 : msS.length ≤ 65536 := by decide
  have h3 : (prints [2, 2, 3, 1, 0, 4, 1] msS).length ≤ 1048576 := by rw [aw_print]; decide
  unfold prT prE
  rw [if_pos h1, if_pos h1, if_pos h2, if_pos h2, if_pos h3, if_pos h3, aw_print]
  exact ⟨rfl, rfl⟩
set_option maxHeartbeats 16000000 in
theorem awake_any (w : World) (E : Env w) : Calls Tryz.prog 9 #[] w fun e w' => e = .returned (.bool true) ∧ Below w.heap.size w w' := by
  have LF := Mr.hid (fun W => lineF_any W)
  have SM := Mr.hid (fun W => small_any W)
  have PA := Mr.hid (Parse_ok (lineA ++ tlA) (cfS, msS) w E aw_parse)
  have c1 : (⟨lineA.toArray⟩ ++ ⟨#[48, 32, 114, 101, 103, 105, 115, 116, 101, 114, 32, 35, 32, 102, 105, 114, 115, 116, 10, 48, 32, 46, 32, 50, 10, 10, 49, 32, 112, 117, 115, 104, 32, 45, 53, 10, 42, 32, 49, 10]⟩ : ByteArray) = ⟨(lineA ++ tlA).toArray⟩ := cat_list _ _
  have c2 : (⟨lineA.toArray⟩ ++ ⟨#[48, 32, 114, 101, 103, 105, 115, 116, 101, 114, 10, 48, 32, 46, 32, 50, 10, 49, 32, 112, 117, 115, 104, 32, 45, 53, 10, 48, 32, 46, 10, 49, 32, 46, 10]⟩ : ByteArray) = ⟨(lineA ++ tlB).toArray⟩ := cat_list _ _
  have s1 : (⟨lineA.toArray⟩ : ByteArray).size ≤ 1000 := by rw [sz_list]; decide
  obtain ⟨LA, hLA⟩ : ∃ X : ByteArray, X = ⟨lineA.toArray⟩ := ⟨_, rfl⟩
  obtain ⟨TA, hTA⟩ : ∃ X : ByteArray, X = ⟨(lineA ++ tlA).toArray⟩ := ⟨_, rfl⟩
  obtain ⟨TB, hTB⟩ : ∃ X : ByteArray, X = ⟨(lineA ++ tlB).toArray⟩ := ⟨_, rfl⟩
  have PR : Hid (∀ (W : World) (a : Option Addr) (n cc : Nat), Below w.heap.size w W → MvAt W a n msS → n ≤ cc → Calls Tryz.prog 6 #[.agg #[.int .i64 2, .int .i64 2, .int .i64 3, .int .i64 1, .int .i64 0, .int .i64 4, .int .i64 1], .slice a n cc] W fun e w' => e = .returned (.tuple #[.string TB, .int .i64 0]) ∧ Below W.heap.size W w') := by
    intro W a n cc hB hM hc
    have := Print_any 2 2 3 1 0 4 1 a n cc msS W (E.below hB) hM (by intro m hm; simp only [msS, List.mem_cons, List.not_mem_nil, or_false] at hm; rcases hm with rfl | rfl | rfl | rfl | rfl | rfl <;> (unfold MvB Bd; decide)) (by intro x hx; simp only [List.mem_cons, List.not_mem_nil, or_false] at hx; rcases hx with rfl | rfl | rfl | rfl | rfl | rfl | rfl <;> (unfold Bd; decide)) hc
    rw [aw_text.1, aw_text.2, ← hTB] at this
    exact this
  rw [← hLA] at LF c1 c2 s1
  rw [← hTA] at PA c1
  rw [← hTB] at c2
  unfold PaA cfV at PA
  dsimp only [cfS] at PA
  rw [← c1] at PA
  have tb : (TB.toList == (LA ++ ⟨#[48, 32, 114, 101, 103, 105, 115, 116, 101, 114, 10, 48, 32, 46, 32, 50, 10, 49, 32, 112, 117, 115, 104, 32, 45, 53, 10, 48, 32, 46, 10, 49, 32, 46, 10]⟩).toList) = true := by rw [c2]; simp
  have z1 : ¬ 9223372036854775807 < LA.size + 40 := by omega
  have z2 : ¬ 9223372036854775807 < LA.size + 35 := by omega
  clear hLA hTA hTB E c1 c2
  go_enter Tryz.func9, Tryz.ntmps9
  go_upto_region 2 with (first | (go_at_call 18; refine (LF.out _).mono ?_; rintro e w9 ⟨rfl, hw9⟩; obtain rfl := hw9.symm) | (go_at_call 10; refine PA.out.mono ?_; clear PA; rintro e w1 ⟨v, rfl, hv, B1⟩))
  have hlen : msS.length = 6 := rfl
  obtain ⟨gm, cap, rfl, hgS, hgl, hcap, -⟩ := hv.there (by decide)
  have hbx : (w1.alloc (.cells #[.int .i64 2, .int .i64 2, .int .i64 3, .int .i64 1, .int .i64 0, .int .i64 4, .int .i64 1] 23)).heap[w1.heap.size]? = some (.cells #[.int .i64 2, .int .i64 2, .int .i64 3, .int .i64 1, .int .i64 0, .int .i64 4, .int .i64 1] 23 (0, 0)) := new_at _ _ _ rfl
  have hv2 := hv.alloc (.cells #[.int .i64 2, .int .i64 2, .int .i64 3, .int .i64 1, .int .i64 0, .int .i64 4, .int .i64 1] 23)
  have hB2 : Hid (Below w.heap.size w (w1.alloc (.cells #[.int .i64 2, .int .i64 2, .int .i64 3, .int .i64 1, .int .i64 0, .int .i64 4, .int .i64 1] 23))) := B1.alloc B1.size _
  have hM2 : Hid (MvAt (w1.alloc (.cells #[.int .i64 2, .int .i64 2, .int .i64 3, .int .i64 1, .int .i64 0, .int .i64 4, .int .i64 1] 23)) (some ⟨gm, 0, none⟩) 6 msS) := MvAt.of hv2
  have hlb : w1.heap.size < (w1.alloc (.cells #[.int .i64 2, .int .i64 2, .int .i64 3, .int .i64 1, .int .i64 0, .int .i64 4, .int .i64 1] 23)).heap.size := by simp
  have hlm : gm < (w1.alloc (.cells #[.int .i64 2, .int .i64 2, .int .i64 3, .int .i64 1, .int .i64 0, .int .i64 4, .int .i64 1] 23)).heap.size := by simp; omega
  rw [hlen] at hcap ⊢
  generalize hBc : w1.heap.size = Bc at *
  clear hBc
  generalize w1.alloc (.cells #[.int .i64 2, .int .i64 2, .int .i64 3, .int .i64 1, .int .i64 0, .int .i64 4, .int .i64 1] 23) = w2 at *
  have d0 : w2.cell? ⟨Bc, 0, none⟩ = some (.int .i64 2) := cell_blk hbx 0
  have d1 : w2.cell? ⟨Bc, 1, none⟩ = some (.int .i64 2) := cell_blk hbx 1
  have d2 : w2.cell? ⟨Bc, 2, none⟩ = some (.int .i64 3) := cell_blk hbx 2
  have d3 : w2.cell? ⟨Bc, 3, none⟩ = some (.int .i64 1) := cell_blk hbx 3
  have d4 : w2.cell? ⟨Bc, 4, none⟩ = some (.int .i64 0) := cell_blk hbx 4
  have d5 : w2.cell? ⟨Bc, 5, none⟩ = some (.int .i64 4) := cell_blk hbx 5
  have d6 : w2.cell? ⟨Bc, 6, none⟩ = some (.int .i64 1) := cell_blk hbx 6
  have d7 : w2.cell? ⟨gm, 12, none⟩ = some (.int .i64 1) := hv2.cells (g := gm) rfl 12 _ rfl
  have d8 : w2.cell? ⟨gm, 13, none⟩ = some (.int .i64 30) := hv2.cells (g := gm) rfl 13 _ rfl
  have d9 : w2.cell? ⟨gm, 14, none⟩ = some (.int .i64 (-5)) := hv2.cells (g := gm) rfl 14 _ rfl
  have d10 : w2.cell? ⟨gm, 15, none⟩ = some (.int .i64 0) := hv2.cells (g := gm) rfl 15 _ rfl
  clear hbx hv2 hv hgl hgS hlen B1
  go_region_held3 (fun W => W.cell? ⟨Bc, 0, none⟩ = some (.int .i64 2) ∧ W.cell? ⟨Bc, 1, none⟩ = some (.int .i64 2) ∧ W.cell? ⟨Bc, 2, none⟩ = some (.int .i64 3) ∧ W.cell? ⟨Bc, 3, none⟩ = some (.int .i64 1) ∧ W.cell? ⟨Bc, 4, none⟩ = some (.int .i64 0) ∧ W.cell? ⟨Bc, 5, none⟩ = some (.int .i64 4) ∧ W.cell? ⟨Bc, 6, none⟩ = some (.int .i64 1) ∧ W.cell? ⟨gm, 12, none⟩ = some (.int .i64 1) ∧ W.cell? ⟨gm, 13, none⟩ = some (.int .i64 30) ∧ W.cell? ⟨gm, 14, none⟩ = some (.int .i64 (-5)) ∧ W.cell? ⟨gm, 15, none⟩ = some (.int .i64 0)) (simp [*, go_sem])
    (first | (go_at_call 19; refine (SM.out _).mono ?_; clear SM; rintro e w3 ⟨rfl, B3⟩; have q0 : w3.cell? ⟨Bc, 0, none⟩ = some (.int .i64 2) := (B3.cell (p := ⟨Bc, 0, none⟩) hlb).trans d0; have q1 : w3.cell? ⟨Bc, 1, none⟩ = some (.int .i64 2) := (B3.cell (p := ⟨Bc, 1, none⟩) hlb).trans d1; have q2 : w3.cell? ⟨Bc, 2, none⟩ = some (.int .i64 3) := (B3.cell (p := ⟨Bc, 2, none⟩) hlb).trans d2; have q3 : w3.cell? ⟨Bc, 3, none⟩ = some (.int .i64 1) := (B3.cell (p := ⟨Bc, 3, none⟩) hlb).trans d3; have q4 : w3.cell? ⟨Bc, 4, none⟩ = some (.int .i64 0) := (B3.cell (p := ⟨Bc, 4, none⟩) hlb).trans d4; have q5 : w3.cell? ⟨Bc, 5, none⟩ = some (.int .i64 4) := (B3.cell (p := ⟨Bc, 5, none⟩) hlb).trans d5; have q6 : w3.cell? ⟨Bc, 6, none⟩ = some (.int .i64 1) := (B3.cell (p := ⟨Bc, 6, none⟩) hlb).trans d6; have q7 : w3.cell? ⟨gm, 12, none⟩ = some (.int .i64 1) := (B3.cell (p := ⟨gm, 12, none⟩) hlm).trans d7; have q8 : w3.cell? ⟨gm, 13, none⟩ = some (.int .i64 30) := (B3.cell (p := ⟨gm, 13, none⟩) hlm).trans d8; have q9 : w3.cell? ⟨gm, 14, none⟩ = some (.int .i64 (-5)) := (B3.cell (p := ⟨gm, 14, none⟩) hlm).trans d9; have q10 : w3.cell? ⟨gm, 15, none⟩ = some (.int .i64 0) := (B3.cell (p := ⟨gm, 15, none⟩) hlm).trans d10; have l3b : Bc < w3.heap.size := Nat.lt_of_lt_of_le hlb B3.size; have l3m : gm < w3.heap.size := Nat.lt_of_lt_of_le hlm B3.size; have X3 : Hid (Below w2.heap.size w2 w3) := ((Below.refl _ _).drew).trans B3; clear B3))
  have hM3 := hM2.out.below X3.out
  have hB3 : Below w.heap.size w w3 := hB2.out.trans (X3.out.mono hB2.out.size)
  have P3 := Mr.hid (PR.out w3 (some ⟨gm, 0, none⟩) 6 cap hB3 hM3 hcap)
  replace hB3 := Mr.hid hB3
  clear PR hM3 hM2 hB2 X3 d0 d1 d2 d3 d4 d5 d6 d7 d8 d9 d10
  go_wp2_with (first | (go_at_call 6; refine P3.out.mono ?_; clear P3; rintro e w4 ⟨rfl, B4⟩; replace B4 := Mr.hid B4) | (go_at_call 18; refine (LF.out _).mono ?_; rintro e w9 ⟨rfl, hw9⟩; obtain rfl := hw9.symm))
  go_ret
  exact ⟨rfl, hB3.out.trans (B4.out.mono hB3.out.size)⟩
end Go.Proofs.YtcomelbphdjnnaaGreatDoor.Sc
/-
  SCRIPT: the document's Arguments and Line.
-/
namespace Go.Proofs.YtcomelbphdjnnaaGreatDoor.Sc
open Go.RowKit Mr
open Go.Lib (itoa)
set_option linter.unusedVariables false
set_option linter.unusedSimpArgs false
set_option maxRecDepth 100000
set_option maxHeartbeats 8000000 in
theorem args_some (k : Nat) (w : World) (hk : k < 21) : Calls Tryz.prog 33 #[.int .i64 (opA k)] w fun e w' => e = .returned (.int .i64 (tkA k)) ∧ w' = w := by
  have : k = 0 ∨ k = 1 ∨ k = 2 ∨ k = 3 ∨ k = 4 ∨ k = 5 ∨ k = 6 ∨ k = 7 ∨ k = 8 ∨ k = 9 ∨ k = 10 ∨ k = 11 ∨ k = 12 ∨ k = 13 ∨ k = 14 ∨ k = 15 ∨ k = 16 ∨ k = 17 ∨ k = 18 ∨ k = 19 ∨ k = 20 := by omega
  rcases this with rfl | rfl | rfl | rfl | rfl | rfl | rfl | rfl | rfl | rfl | rfl | rfl | rfl | rfl | rfl | rfl | rfl | rfl | rfl | rfl | rfl
  all_goals (clear hk; unfold opA tkA; simp only [tbl, List.getD_cons_zero, List.getD_cons_succ]; go_enter Tryz.func33, Tryz.ntmps33; go_wp2; go_ret; exact ⟨rfl, rfl⟩)
theorem ito_list (x : Int) : ito x = ⟨(itoa x).toArray⟩ := rfl
theorem lit_cat (x : List UInt8) (y : List UInt8) : (⟨x.toArray⟩ ++ ⟨y.toArray⟩ : ByteArray) = ⟨(x ++ y).toArray⟩ := cat_list x y
def DecC : Prop := ∀ (x : Int) (W : World), Bd x → Calls Tryz.prog 16 #[.int .i64 x] W fun e w' => e = .returned (.string (ito x)) ∧ Below W.heap.size W w'
theorem decC : DecC := fun x W h => St.decimal_any x W h.1 h.2
set_option maxHeartbeats 8000000 in
theorem line_s1 (th op ar da : Int) (n : Int) (w : World) (hb : MvB ⟨th, op, ar, da⟩) (hn : Bd n) (h1 : op = 0) (h2 : ar = 0) (h3 : da = 0) (h4 : n = 1) :
    Calls Tryz.prog 17 #[.agg #[.int .i64 th, .int .i64 op, .int .i64 ar, .int .i64 da], .int .i64 n] w fun e w' => e = .returned (.string ⟨(itoa th ++ [32, 46]).toArray⟩) ∧ Below w.heap.size w w' := by
  have DT := Mr.hid (fun W => decC th W hb.1)
  have sI : (ito th).size ≤ 21 := by unfold ito; rw [sz_list]; exact itoa_len th hb.1
  have hbx0 : (w.alloc (.cells #[.int .i64 th, .int .i64 op, .int .i64 ar, .int .i64 da] 42)).heap[w.heap.size]? = some (.cells #[.int .i64 th, .int .i64 op, .int .i64 ar, .int .i64 da] 42 (0, 0)) := new_at _ _ _ rfl
  have B0 : Hid (Below w.heap.size w (w.alloc (.cells #[.int .i64 th, .int .i64 op, .int .i64 ar, .int .i64 da] 42))) := (Below.refl _ _).alloc (Nat.le_refl _) _
  have fin : Hid ((ito th ++ ⟨#[32, 46]⟩ : ByteArray) = ⟨(itoa th ++ [32, 46]).toArray⟩) := cat_list _ _
  subst h1
  subst h2
  subst h3
  subst h4
  have z1 : ¬ 9223372036854775807 < (ito th).size + 2 := by omega
  generalize ito th = IT at *
  clear hb hn
  go_enter Tryz.func17, Tryz.ntmps17
  go_upto_region 2 with (go_at_call 16; refine (DT.out _).mono ?_; clear DT; rintro e w1 ⟨rfl, B1⟩)
  have hbx : w1.heap[w.heap.size]? = some (.cells #[.int .i64 th, .int .i64 0, .int .i64 0, .int .i64 0] 42 (0, 0)) := (B1.block _ (by simp)).trans hbx0
  have BB : Hid (Below w.heap.size w w1) := B0.out.trans (B1.mono (by simp))
  have x0 := cell_blk hbx 0
  have x1 := cell_blk hbx 1
  have x2 := cell_blk hbx 2
  have x3 := cell_blk hbx 3
  have lx := (Array.getElem?_eq_some_iff.1 hbx).1
  clear B1 B0 hbx0
  replace hbx := Mr.hid hbx
  go_wp2
  go_ret
  refine ⟨?_, BB.out⟩
  rw [← fin.out]
  rfl
set_option maxHeartbeats 8000000 in
theorem line_s2 (th op ar da : Int) (n : Int) (w : World) (hb : MvB ⟨th, op, ar, da⟩) (hn : Bd n) (h1 : op = 0) (h2 : ar = 0) (h3 : da = 0) (h4 : n ≠ 1) :
    Calls Tryz.prog 17 #[.agg #[.int .i64 th, .int .i64 op, .int .i64 ar, .int .i64 da], .int .i64 n] w fun e w' => e = .returned (.string ⟨(itoa th ++ [32, 46, 32] ++ itoa n).toArray⟩) ∧ Below w.heap.size w w' := by
  have DT := Mr.hid (fun W => decC th W hb.1)
  have sI : (ito th).size ≤ 21 := by unfold ito; rw [sz_list]; exact itoa_len th hb.1
  have hbx0 : (w.alloc (.cells #[.int .i64 th, .int .i64 op, .int .i64 ar, .int .i64 da] 42)).heap[w.heap.size]? = some (.cells #[.int .i64 th, .int .i64 op, .int .i64 ar, .int .i64 da] 42 (0, 0)) := new_at _ _ _ rfl
  have B0 : Hid (Below w.heap.size w (w.alloc (.cells #[.int .i64 th, .int .i64 op, .int .i64 ar, .int .i64 da] 42))) := (Below.refl _ _).alloc (Nat.le_refl _) _
  have DN := Mr.hid (fun W => decC n W hn)
  have fin : Hid ((ito th ++ ⟨#[32, 46, 32]⟩ ++ ito n : ByteArray) = ⟨(itoa th ++ [32, 46, 32] ++ itoa n).toArray⟩) := by
    show _ = _
    rw [ito_list, ito_list, lit_cat (itoa th) [32, 46, 32], lit_cat]
  have k4 : (n == 1) = false := beq_eq_false_iff_ne.2 h4
  subst h1
  subst h2
  subst h3
  have sN : (ito n).size ≤ 21 := by unfold ito; rw [sz_list]; exact itoa_len n hn
  have z1 : ¬ 9223372036854775807 < (ito th).size + 3 := by omega
  have z2 : ¬ 9223372036854775807 < (ito th).size + 3 + (ito n).size := by omega
  generalize ito th = IT at *
  generalize ito n = IN at *
  clear hb hn
  go_enter Tryz.func17, Tryz.ntmps17
  go_upto_region 2 with (go_at_call 16; refine (DT.out _).mono ?_; clear DT; rintro e w1 ⟨rfl, B1⟩)
  have hbx : w1.heap[w.heap.size]? = some (.cells #[.int .i64 th, .int .i64 0, .int .i64 0, .int .i64 0] 42 (0, 0)) := (B1.block _ (by simp)).trans hbx0
  have BB : Hid (Below w.heap.size w w1) := B0.out.trans (B1.mono (by simp))
  have x0 := cell_blk hbx 0
  have x1 := cell_blk hbx 1
  have x2 := cell_blk hbx 2
  have x3 := cell_blk hbx 3
  have lx := (Array.getElem?_eq_some_iff.1 hbx).1
  clear B1 B0 hbx0
  replace hbx := Mr.hid hbx
  go_wp2_with (go_at_call 16; refine (DN.out _).mono ?_; clear DN; rintro e w2 ⟨rfl, B2⟩; have BB2 : Hid (Below w.heap.size w w2) := BB.out.trans (B2.mono BB.out.size); clear B2)
  go_ret
  refine ⟨?_, BB2.out⟩
  rw [← fin.out]
  rfl
set_option maxHeartbeats 8000000 in
theorem line_w0 (th op ar da : Int) (n : Int) (w : World) (hb : MvB ⟨th, op, ar, da⟩) (hn : Bd n) (k : Nat) (hk : k < 21) (ho : opA k = op) (ht : tkA k = 0) (h3 : da = 0) (h2 : ar = 0) :
    Calls Tryz.prog 17 #[.agg #[.int .i64 th, .int .i64 op, .int .i64 ar, .int .i64 da], .int .i64 n] w fun e w' => e = .returned (.string ⟨(itoa th ++ ([32] ++ (wdA k).data.toList)).toArray⟩) ∧ Below w.heap.size w w' := by
  have DT := Mr.hid (fun W => decC th W hb.1)
  have sI : (ito th).size ≤ 21 := by unfold ito; rw [sz_list]; exact itoa_len th hb.1
  have hbx0 : (w.alloc (.cells #[.int .i64 th, .int .i64 op, .int .i64 ar, .int .i64 da] 42)).heap[w.heap.size]? = some (.cells #[.int .i64 th, .int .i64 op, .int .i64 ar, .int .i64 da] 42 (0, 0)) := new_at _ _ _ rfl
  have B0 : Hid (Below w.heap.size w (w.alloc (.cells #[.int .i64 th, .int .i64 op, .int .i64 ar, .int .i64 da] 42))) := (Below.refl _ _).alloc (Nat.le_refl _) _
  have WD := Mr.hid (fun W => refWord_some k W hk)
  have AR := Mr.hid (fun W => args_some k W hk)
  have DA := Mr.hid (fun W => decC ar W hb.2.2.1)
  have DD := Mr.hid (fun W => decC da W hb.2.2.2)
  obtain ⟨-, ho1, ho2⟩ := ref_nil k hk
  have hne := (ref_nil k hk).1
  have hwl : (wdA k).size ≤ 100 := by have := all_below (P := fun k => decide ((wdA k).size ≤ 100)) (n := 21) (by decide +kernel) hk; simpa using this
  have hwe : wdA k = ⟨(wdA k).data.toList.toArray⟩ := by simp
  rw [ho] at WD AR ho1 ho2
  rw [ht] at AR
  have k1 : (op == 0) = false := beq_eq_false_iff_ne.2 (by omega)
  have k2 : ¬ op = 0 := by omega
  have sA : (ito ar).size ≤ 21 := by unfold ito; rw [sz_list]; exact itoa_len ar hb.2.2.1
  have sD : (ito da).size ≤ 21 := by unfold ito; rw [sz_list]; exact itoa_len da hb.2.2.2
  have fin : Hid ((ito th ++ (⟨#[32]⟩ ++ wdA k) : ByteArray) = ⟨(itoa th ++ ([32] ++ (wdA k).data.toList)).toArray⟩) := by
    show _ = _
    have e1 : (⟨#[32]⟩ ++ wdA k : ByteArray) = ⟨([32] ++ (wdA k).data.toList).toArray⟩ := by
      have := cat_list [32] (wdA k).data.toList
      rw [← hwe] at this
      exact this
    have e2 : ∀ x, (⟨#[32]⟩ ++ ito x : ByteArray) = ⟨([32] ++ itoa x).toArray⟩ := fun x => cat_list [32] (itoa x)
    rw [e1, ito_list th, lit_cat]
  obtain ⟨PT, hPT⟩ : ∃ P : ByteArray, P = ⟨(itoa th ++ ([32] ++ (wdA k).data.toList)).toArray⟩ := ⟨_, rfl⟩
  rw [← hPT] at fin ⊢
  clear hPT
  generalize wdA k = wd at *
  generalize ito th = IT at *
  generalize ito ar = IA at *
  generalize ito da = ID at *
  have hne2 : ¬ wd.toList = [] := by simpa using hne
  have hne3 : wd.toList.isEmpty = false := by cases h : wd.toList with | nil => exact absurd h hne2 | cons a b => rfl
  have z0 : ¬ 9223372036854775807 < 1 + wd.size := by omega
  have z1 : ¬ 9223372036854775807 < IT.size + (1 + wd.size) := by omega
  have z2 : ¬ 9223372036854775807 < 1 + IA.size := by omega
  have z3 : ¬ 9223372036854775807 < IT.size + (1 + wd.size) + (1 + IA.size) := by omega
  have z4 : ¬ 9223372036854775807 < 1 + ID.size := by omega
  have z5 : ¬ 9223372036854775807 < IT.size + (1 + wd.size) + (1 + IA.size) + (1 + ID.size) := by omega
  subst h3
  subst h2
  clear hb hn hne ho ht hwe
  go_enter Tryz.func17, Tryz.ntmps17
  go_upto_region 2 with (go_at_call 16; refine (DT.out _).mono ?_; clear DT; rintro e w1 ⟨rfl, B1⟩)
  have hbx : w1.heap[w.heap.size]? = some (.cells #[.int .i64 th, .int .i64 op, .int .i64 0, .int .i64 0] 42 (0, 0)) := (B1.block _ (by simp)).trans hbx0
  have BB : Hid (Below w.heap.size w w1) := B0.out.trans (B1.mono (by simp))
  have x0 := cell_blk hbx 0
  have x1 := cell_blk hbx 1
  have x2 := cell_blk hbx 2
  have x3 := cell_blk hbx 3
  have lx := (Array.getElem?_eq_some_iff.1 hbx).1
  clear B1 B0 hbx0
  replace hbx := Mr.hid hbx
  go_wp2_with (first | (go_at_call 32; refine (WD.out _).mono ?_; rintro e w9 ⟨rfl, hw9⟩; obtain rfl := hw9.symm) | (go_at_call 33; refine (AR.out _).mono ?_; rintro e w9 ⟨rfl, hw9⟩; obtain rfl := hw9.symm))
  go_ret
  refine ⟨?_, BB.out⟩
  rw [← fin.out]
  rfl
set_option maxHeartbeats 8000000 in
theorem line_w1 (th op ar da : Int) (n : Int) (w : World) (hb : MvB ⟨th, op, ar, da⟩) (hn : Bd n) (k : Nat) (hk : k < 21) (ho : opA k = op) (ht : tkA k = 1) (h3 : da = 0) :
    Calls Tryz.prog 17 #[.agg #[.int .i64 th, .int .i64 op, .int .i64 ar, .int .i64 da], .int .i64 n] w fun e w' => e = .returned (.string ⟨(itoa th ++ ([32] ++ (wdA k).data.toList) ++ ([32] ++ itoa ar)).toArray⟩) ∧ Below w.heap.size w w' := by
  have DT := Mr.hid (fun W => decC th W hb.1)
  have sI : (ito th).size ≤ 21 := by unfold ito; rw [sz_list]; exact itoa_len th hb.1
  have hbx0 : (w.alloc (.cells #[.int .i64 th, .int .i64 op, .int .i64 ar, .int .i64 da] 42)).heap[w.heap.size]? = some (.cells #[.int .i64 th, .int .i64 op, .int .i64 ar, .int .i64 da] 42 (0, 0)) := new_at _ _ _ rfl
  have B0 : Hid (Below w.heap.size w (w.alloc (.cells #[.int .i64 th, .int .i64 op, .int .i64 ar, .int .i64 da] 42))) := (Below.refl _ _).alloc (Nat.le_refl _) _
  have WD := Mr.hid (fun W => refWord_some k W hk)
  have AR := Mr.hid (fun W => args_some k W hk)
  have DA := Mr.hid (fun W => decC ar W hb.2.2.1)
  have DD := Mr.hid (fun W => decC da W hb.2.2.2)
  obtain ⟨-, ho1, ho2⟩ := ref_nil k hk
  have hne := (ref_nil k hk).1
  have hwl : (wdA k).size ≤ 100 := by have := all_below (P := fun k => decide ((wdA k).size ≤ 100)) (n := 21) (by decide +kernel) hk; simpa using this
  have hwe : wdA k = ⟨(wdA k).data.toList.toArray⟩ := by simp
  rw [ho] at WD AR ho1 ho2
  rw [ht] at AR
  have k1 : (op == 0) = false := beq_eq_false_iff_ne.2 (by omega)
  have k2 : ¬ op = 0 := by omega
  have sA : (ito ar).size ≤ 21 := by unfold ito; rw [sz_list]; exact itoa_len ar hb.2.2.1
  have sD : (ito da).size ≤ 21 := by unfold ito; rw [sz_list]; exact itoa_len da hb.2.2.2
  have fin : Hid ((ito th ++ (⟨#[32]⟩ ++ wdA k) ++ (⟨#[32]⟩ ++ ito ar) : ByteArray) = ⟨(itoa th ++ ([32] ++ (wdA k).data.toList) ++ ([32] ++ itoa ar)).toArray⟩) := by
    show _ = _
    have e1 : (⟨#[32]⟩ ++ wdA k : ByteArray) = ⟨([32] ++ (wdA k).data.toList).toArray⟩ := by
      have := cat_list [32] (wdA k).data.toList
      rw [← hwe] at this
      exact this
    have e2 : ∀ x, (⟨#[32]⟩ ++ ito x : ByteArray) = ⟨([32] ++ itoa x).toArray⟩ := fun x => cat_list [32] (itoa x)
    rw [e1, e2 ar, ito_list th, lit_cat, lit_cat]
  obtain ⟨PT, hPT⟩ : ∃ P : ByteArray, P = ⟨(itoa th ++ ([32] ++ (wdA k).data.toList) ++ ([32] ++ itoa ar)).toArray⟩ := ⟨_, rfl⟩
  rw [← hPT] at fin ⊢
  clear hPT
  generalize wdA k = wd at *
  generalize ito th = IT at *
  generalize ito ar = IA at *
  generalize ito da = ID at *
  have hne2 : ¬ wd.toList = [] := by simpa using hne
  have hne3 : wd.toList.isEmpty = false := by cases h : wd.toList with | nil => exact absurd h hne2 | cons a b => rfl
  have z0 : ¬ 9223372036854775807 < 1 + wd.size := by omega
  have z1 : ¬ 9223372036854775807 < IT.size + (1 + wd.size) := by omega
  have z2 : ¬ 9223372036854775807 < 1 + IA.size := by omega
  have z3 : ¬ 9223372036854775807 < IT.size + (1 + wd.size) + (1 + IA.size) := by omega
  have z4 : ¬ 9223372036854775807 < 1 + ID.size := by omega
  have z5 : ¬ 9223372036854775807 < IT.size + (1 + wd.size) + (1 + IA.size) + (1 + ID.size) := by omega
  subst h3
  clear hb hn hne ho ht hwe
  go_enter Tryz.func17, Tryz.ntmps17
  go_upto_region 2 with (go_at_call 16; refine (DT.out _).mono ?_; clear DT; rintro e w1 ⟨rfl, B1⟩)
  have hbx : w1.heap[w.heap.size]? = some (.cells #[.int .i64 th, .int .i64 op, .int .i64 ar, .int .i64 0] 42 (0, 0)) := (B1.block _ (by simp)).trans hbx0
  have BB : Hid (Below w.heap.size w w1) := B0.out.trans (B1.mono (by simp))
  have x0 := cell_blk hbx 0
  have x1 := cell_blk hbx 1
  have x2 := cell_blk hbx 2
  have x3 := cell_blk hbx 3
  have lx := (Array.getElem?_eq_some_iff.1 hbx).1
  clear B1 B0 hbx0
  replace hbx := Mr.hid hbx
  go_wp2_with (first | (go_at_call 32; refine (WD.out _).mono ?_; rintro e w9 ⟨rfl, hw9⟩; obtain rfl := hw9.symm) | (go_at_call 33; refine (AR.out _).mono ?_; rintro e w9 ⟨rfl, hw9⟩; obtain rfl := hw9.symm) | (go_at_call 16; refine (DA.out _).mono ?_; clear DA; rintro e w2 ⟨rfl, B2⟩; have BB2 : Hid (Below w.heap.size w w2) := BB.out.trans (B2.mono BB.out.size); have y3 : w2.cell? ⟨w.heap.size, 3, none⟩ = some (.int .i64 0) := (B2.cell (p := ⟨w.heap.size, 3, none⟩) lx).trans x3; have l2 : w.heap.size < w2.heap.size := Nat.lt_of_lt_of_le lx B2.size; clear B2 x0 x1 x2 x3 lx))
  go_ret
  refine ⟨?_, BB2.out⟩
  rw [← fin.out]
  rfl
set_option maxHeartbeats 8000000 in
theorem line_w2 (th op ar da : Int) (n : Int) (w : World) (hb : MvB ⟨th, op, ar, da⟩) (hn : Bd n) (k : Nat) (hk : k < 21) (ho : opA k = op) (ht : tkA k = 2) :
    Calls Tryz.prog 17 #[.agg #[.int .i64 th, .int .i64 op, .int .i64 ar, .int .i64 da], .int .i64 n] w fun e w' => e = .returned (.string ⟨(itoa th ++ ([32] ++ (wdA k).data.toList) ++ ([32] ++ itoa ar) ++ ([32] ++ itoa da)).toArray⟩) ∧ Below w.heap.size w w' := by
  have DT := Mr.hid (fun W => decC th W hb.1)
  have sI : (ito th).size ≤ 21 := by unfold ito; rw [sz_list]; exact itoa_len th hb.1
  have hbx0 : (w.alloc (.cells #[.int .i64 th, .int .i64 op, .int .i64 ar, .int .i64 da] 42)).heap[w.heap.size]? = some (.cells #[.int .i64 th, .int .i64 op, .int .i64 ar, .int .i64 da] 42 (0, 0)) := new_at _ _ _ rfl
  have B0 : Hid (Below w.heap.size w (w.alloc (.cells #[.int .i64 th, .int .i64 op, .int .i64 ar, .int .i64 da] 42))) := (Below.refl _ _).alloc (Nat.le_refl _) _
  have WD := Mr.hid (fun W => refWord_some k W hk)
  have AR := Mr.hid (fun W => args_some k W hk)
  have DA := Mr.hid (fun W => decC ar W hb.2.2.1)
  have DD := Mr.hid (fun W => decC da W hb.2.2.2)
  obtain ⟨-, ho1, ho2⟩ := ref_nil k hk
  have hne := (ref_nil k hk).1
  have hwl : (wdA k).size ≤ 100 := by have := all_below (P := fun k => decide ((wdA k).size ≤ 100)) (n := 21) (by decide +kernel) hk; simpa using this
  have hwe : wdA k = ⟨(wdA k).data.toList.toArray⟩ := by simp
  rw [ho] at WD AR ho1 ho2
  rw [ht] at AR
  have k1 : (op == 0) = false := beq_eq_false_iff_ne.2 (by omega)
  have k2 : ¬ op = 0 := by omega
  have sA : (ito ar).size ≤ 21 := by unfold ito; rw [sz_list]; exact itoa_len ar hb.2.2.1
  have sD : (ito da).size ≤ 21 := by unfold ito; rw [sz_list]; exact itoa_len da hb.2.2.2
  have fin : Hid ((ito th ++ (⟨#[32]⟩ ++ wdA k) ++ (⟨#[32]⟩ ++ ito ar) ++ (⟨#[32]⟩ ++ ito da) : ByteArray) = ⟨(itoa th ++ ([32] ++ (wdA k).data.toList) ++ ([32] ++ itoa ar) ++ ([32] ++ itoa da)).toArray⟩) := by
    show _ = _
    have e1 : (⟨#[32]⟩ ++ wdA k : ByteArray) = ⟨([32] ++ (wdA k).data.toList).toArray⟩ := by
      have := cat_list [32] (wdA k).data.toList
      rw [← hwe] at this
      exact this
    have e2 : ∀ x, (⟨#[32]⟩ ++ ito x : ByteArray) = ⟨([32] ++ itoa x).toArray⟩ := fun x => cat_list [32] (itoa x)
    rw [e1, e2 ar, e2 da, ito_list th, lit_cat, lit_cat, lit_cat]
  obtain ⟨PT, hPT⟩ : ∃ P : ByteArray, P = ⟨(itoa th ++ ([32] ++ (wdA k).data.toList) ++ ([32] ++ itoa ar) ++ ([32] ++ itoa da)).toArray⟩ := ⟨_, rfl⟩
  rw [← hPT] at fin ⊢
  clear hPT
  generalize wdA k = wd at *
  generalize ito th = IT at *
  generalize ito ar = IA at *
  generalize ito da = ID at *
  have hne2 : ¬ wd.toList = [] := by simpa using hne
  have hne3 : wd.toList.isEmpty = false := by cases h : wd.toList with | nil => exact absurd h hne2 | cons a b => rfl
  have z0 : ¬ 9223372036854775807 < 1 + wd.size := by omega
  have z1 : ¬ 9223372036854775807 < IT.size + (1 + wd.size) := by omega
  have z2 : ¬ 9223372036854775807 < 1 + IA.size := by omega
  have z3 : ¬ 9223372036854775807 < IT.size + (1 + wd.size) + (1 + IA.size) := by omega
  have z4 : ¬ 9223372036854775807 < 1 + ID.size := by omega
  have z5 : ¬ 9223372036854775807 < IT.size + (1 + wd.size) + (1 + IA.size) + (1 + ID.size) := by omega
  clear hb hn hne ho ht hwe
  go_enter Tryz.func17, Tryz.ntmps17
  go_upto_region 2 with (go_at_call 16; refine (DT.out _).mono ?_; clear DT; rintro e w1 ⟨rfl, B1⟩)
  have hbx : w1.heap[w.heap.size]? = some (.cells #[.int .i64 th, .int .i64 op, .int .i64 ar, .int .i64 da] 42 (0, 0)) := (B1.block _ (by simp)).trans hbx0
  have BB : Hid (Below w.heap.size w w1) := B0.out.trans (B1.mono (by simp))
  have x0 := cell_blk hbx 0
  have x1 := cell_blk hbx 1
  have x2 := cell_blk hbx 2
  have x3 := cell_blk hbx 3
  have lx := (Array.getElem?_eq_some_iff.1 hbx).1
  clear B1 B0 hbx0
  replace hbx := Mr.hid hbx
  go_wp2_with (first | (go_at_call 32; refine (WD.out _).mono ?_; rintro e w9 ⟨rfl, hw9⟩; obtain rfl := hw9.symm) | (go_at_call 33; refine (AR.out _).mono ?_; rintro e w9 ⟨rfl, hw9⟩; obtain rfl := hw9.symm) | (go_at_call 16; refine (DA.out _).mono ?_; clear DA; rintro e w2 ⟨rfl, B2⟩; have BB2 : Hid (Below w.heap.size w w2) := BB.out.trans (B2.mono BB.out.size); have y3 : w2.cell? ⟨w.heap.size, 3, none⟩ = some (.int .i64 da) := (B2.cell (p := ⟨w.heap.size, 3, none⟩) lx).trans x3; have l2 : w.heap.size < w2.heap.size := Nat.lt_of_lt_of_le lx B2.size; clear B2 x0 x1 x2 x3 lx) | (go_at_call 16; refine (DD.out _).mono ?_; clear DD; rintro e w3 ⟨rfl, B3⟩; have BB3 : Hid (Below w.heap.size w w3) := BB2.out.trans (B3.mono BB2.out.size); clear B3))
  go_ret
  refine ⟨?_, BB3.out⟩
  rw [← fin.out]
  rfl
end Go.Proofs.YtcomelbphdjnnaaGreatDoor.Sc
