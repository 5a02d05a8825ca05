import Derived.Test.YtcomelbphdjnnaaGreatDoorJ14
/-
  SCRIPT, pure: the chapter's first example.
-/
namespace Go.Proofs.YtcomelbphdjnnaaGreatDoor.Sc
open Go.RowKit
set_option linter.unusedVariables false
set_option linter.unusedSimpArgs false
set_option maxRecDepth 100000
def lineA : List UInt8 := [109, 97, 99, 104, 105, 110, 101, 32, 116, 104, 114, 101, 97, 100, 115, 32, 50, 32, 114, 101, 99, 111, 114, 100, 115, 32, 50, 32, 104, 97, 122, 97, 114, 100, 115, 32, 51, 32, 114, 101, 116, 105, 114, 101, 32, 49, 32, 99, 97, 99, 104, 101, 32, 48, 32, 115, 108, 111, 116, 115, 32, 52, 32, 98, 117, 99, 107, 101, 116, 115, 32, 49, 10]
def tlA : List UInt8 := [48, 32, 114, 101, 103, 105, 115, 116, 101, 114, 32, 35, 32, 102, 105, 114, 115, 116, 10, 48, 32, 46, 32, 50, 10, 10, 49, 32, 112, 117, 115, 104, 32, 45, 53, 10, 42, 32, 49, 10]
def tlB : List UInt8 := [48, 32, 114, 101, 103, 105, 115, 116, 101, 114, 10, 48, 32, 46, 32, 50, 10, 49, 32, 112, 117, 115, 104, 32, 45, 53, 10, 48, 32, 46, 10, 49, 32, 46, 10]
def cfS : Cf := ⟨2, 2, 3, 1, 0, 4, 1⟩
def msS : List Mv := [⟨0, 20, 0, 0⟩, ⟨0, 0, 0, 0⟩, ⟨0, 0, 0, 0⟩, ⟨1, 30, -5, 0⟩, ⟨0, 0, 0, 0⟩, ⟨1, 0, 0, 0⟩]
theorem aw_parse : parseO (lineA ++ tlA) = some (cfS, msS) := by decide +kernel
theorem aw_print : prints [2, 2, 3, 1, 0, 4, 1] msS = lineA ++ tlB := by decide +kernel
end Go.Proofs.YtcomelbphdjnnaaGreatDoor.Sc
/-
  SCRIPT: awake.
-/
namespace Go.Proofs.YtcomelbphdjnnaaGreatDoor.Sc
open Go.RowKit Mr
set_option linter.unusedVariables false
set_option linter.unusedSimpArgs false
set_option maxRecDepth 100000
theorem lineF_any (w : World) : Calls Tryz.prog 18 #[] w fun e w' => e = .returned (.string ⟨lineA.toArray⟩) ∧ w' = w := by
  go_enter Tryz.func18, Tryz.ntmps18
  go_wp2
  go_ret
  exact ⟨rfl, rfl⟩
theorem small_any (w : World) : Calls Tryz.prog 19 #[] w fun e w' => e = .returned (.agg #[.int .i64 2, .int .i64 2, .int .i64 3, .int .i64 1, .int .i64 0, .int .i64 4, .int .i64 1]) ∧ Below w.heap.size w w' := by
  go_enter Tryz.func19, Tryz.ntmps19
  go_wp2
  refine bodyPost_ret (v := .agg #[.int .i64 2, .int .i64 2, .int .i64 3, .int .i64 1, .int .i64 0, .int .i64 4, .int .i64 1]) (by simp [results, Tryz.results19, go_sem]) rfl ⟨rfl, ?_⟩
  exact (Below.refl _ _).alloc (Nat.le_refl _) _
theorem cat_list (x y : List UInt8) : (⟨x.toArray⟩ ++ ⟨y.toArray⟩ : ByteArray) = ⟨(x ++ y).toArray⟩ := by
  apply ByteArray.ext
  simp
theorem aw_text : prT (Wc.cfgB 2 2 3 1 0 4 1) [2, 2, 3, 1, 0, 4, 1] msS = ⟨(lineA ++ tlB).toArray⟩ ∧ prE (Wc.cfgB 2 2 3 1 0 4 1) [2, 2, 3, 1, 0, 4, 1] msS = 0 := by
  have h1 : Wc.cfgB 2 2 3 1 0 4 1 = true := by decide
  have h2 : msS.length ≤ 65536 := by decide
  have h3 : (prints [2, 2, 3, 1, 0, 4, 1] msS).length ≤ 1048576 := by rw [aw_print]; decide
  unfold prT prE
  rw [if_pos h1, if_pos h1, if_pos h2, if_pos h2, if_pos h3, if_pos h3, aw_print]
  exact ⟨rfl, rfl⟩
set_option maxHeartbeats 16000000 in
theorem awake_any (w : World) (E : Env w) : Calls Tryz.prog 9 #[] w fun e w' => e = .returned (.bool true) ∧ Below w.heap.size w w' := by
  have LF := Mr.hid (fun W => lineF_any W)
  have SM := Mr.hid (fun W => small_any W)
  have PA := Mr.hid (Parse_ok (lineA ++ tlA) (cfS, msS) w E aw_parse)
  have c1 : (⟨lineA.toArray⟩ ++ ⟨#[48, 32, 114, 101, 103, 105, 115, 116, 101, 114, 32, 35, 32, 102, 105, 114, 115, 116, 10, 48, 32, 46, 32, 50, 10, 10, 49, 32, 112, 117, 115, 104, 32, 45, 53, 10, 42, 32, 49, 10]⟩ : ByteArray) = ⟨(lineA ++ tlA).toArray⟩ := cat_list _ _
  have c2 : (⟨lineA.toArray⟩ ++ ⟨#[48, 32, 114, 101, 103, 105, 115, 116, 101, 114, 10, 48, 32, 46, 32, 50, 10, 49, 32, 112, 117, 115, 104, 32, 45, 53, 10, 48, 32, 46, 10, 49, 32, 46, 10]⟩ : ByteArray) = ⟨(lineA ++ tlB).toArray⟩ := cat_list _ _
  have s1 : (⟨lineA.toArray⟩ : ByteArray).size ≤ 1000 := by rw [sz_list]; decide
  obtain ⟨LA, hLA⟩ : ∃ X : ByteArray, X = ⟨lineA.toArray⟩ := ⟨_, rfl⟩
  obtain ⟨TA, hTA⟩ : ∃ X : ByteArray, X = ⟨(lineA ++ tlA).toArray⟩ := ⟨_, rfl⟩
  obtain ⟨TB, hTB⟩ : ∃ X : ByteArray, X = ⟨(lineA ++ tlB).toArray⟩ := ⟨_, rfl⟩
  have PR : Hid (∀ (W : World) (a : Option Addr) (n cc : Nat), Below w.heap.size w W → MvAt W a n msS → n ≤ cc → Calls Tryz.prog 6 #[.agg #[.int .i64 2, .int .i64 2, .int .i64 3, .int .i64 1, .int .i64 0, .int .i64 4, .int .i64 1], .slice a n cc] W fun e w' => e = .returned (.tuple #[.string TB, .int .i64 0]) ∧ Below W.heap.size W w') := by
    intro W a n cc hB hM hc
    have := Print_any 2 2 3 1 0 4 1 a n cc msS W (E.below hB) hM (by intro m hm; simp only [msS, List.mem_cons, List.not_mem_nil, or_false] at hm; rcases hm with rfl | rfl | rfl | rfl | rfl | rfl <;> (unfold MvB Bd; decide)) (by intro x hx; simp only [List.mem_cons, List.not_mem_nil, or_false] at hx; rcases hx with rfl | rfl | rfl | rfl | rfl | rfl | rfl <;> (unfold Bd; decide)) hc
    rw [aw_text.1, aw_text.2, ← hTB] at this
    exact this
  rw [← hLA] at LF c1 c2 s1
  rw [← hTA] at PA c1
  rw [← hTB] at c2
  unfold PaA cfV at PA
  dsimp only [cfS] at PA
  rw [← c1] at PA
  have tb : (TB.toList == (LA ++ ⟨#[48, 32, 114, 101, 103, 105, 115, 116, 101, 114, 10, 48, 32, 46, 32, 50, 10, 49, 32, 112, 117, 115, 104, 32, 45, 53, 10, 48, 32, 46, 10, 49, 32, 46, 10]⟩).toList) = true := by rw [c2]; simp
  have z1 : ¬ 9223372036854775807 < LA.size + 40 := by omega
  have z2 : ¬ 9223372036854775807 < LA.size + 35 := by omega
  clear hLA hTA hTB E c1 c2
  go_enter Tryz.func9, Tryz.ntmps9
  go_upto_region 2 with (first | (go_at_call 18; refine (LF.out _).mono ?_; rintro e w9 ⟨rfl, hw9⟩; obtain rfl := hw9.symm) | (go_at_call 10; refine PA.out.mono ?_; clear PA; rintro e w1 ⟨v, rfl, hv, B1⟩))
  have hlen : msS.length = 6 := rfl
  obtain ⟨gm, cap, rfl, hgS, hgl, hcap, -⟩ := hv.there (by decide)
  have hbx : (w1.alloc (.cells #[.int .i64 2, .int .i64 2, .int .i64 3, .int .i64 1, .int .i64 0, .int .i64 4, .int .i64 1] 23)).heap[w1.heap.size]? = some (.cells #[.int .i64 2, .int .i64 2, .int .i64 3, .int .i64 1, .int .i64 0, .int .i64 4, .int .i64 1] 23 (0, 0)) := new_at _ _ _ rfl
  have hv2 := hv.alloc (.cells #[.int .i64 2, .int .i64 2, .int .i64 3, .int .i64 1, .int .i64 0, .int .i64 4, .int .i64 1] 23)
  have hB2 : Hid (Below w.heap.size w (w1.alloc (.cells #[.int .i64 2, .int .i64 2, .int .i64 3, .int .i64 1, .int .i64 0, .int .i64 4, .int .i64 1] 23))) := B1.alloc B1.size _
  have hM2 : Hid (MvAt (w1.alloc (.cells #[.int .i64 2, .int .i64 2, .int .i64 3, .int .i64 1, .int .i64 0, .int .i64 4, .int .i64 1] 23)) (some ⟨gm, 0, none⟩) 6 msS) := MvAt.of hv2
  have hlb : w1.heap.size < (w1.alloc (.cells #[.int .i64 2, .int .i64 2, .int .i64 3, .int .i64 1, .int .i64 0, .int .i64 4, .int .i64 1] 23)).heap.size := by simp
  have hlm : gm < (w1.alloc (.cells #[.int .i64 2, .int .i64 2, .int .i64 3, .int .i64 1, .int .i64 0, .int .i64 4, .int .i64 1] 23)).heap.size := by simp; omega
  rw [hlen] at hcap ⊢
  generalize hBc : w1.heap.size = Bc at *
  clear hBc
  generalize w1.alloc (.cells #[.int .i64 2, .int .i64 2, .int .i64 3, .int .i64 1, .int .i64 0, .int .i64 4, .int .i64 1] 23) = w2 at *
  have d0 : w2.cell? ⟨Bc, 0, none⟩ = some (.int .i64 2) := cell_blk hbx 0
  have d1 : w2.cell? ⟨Bc, 1, none⟩ = some (.int .i64 2) := cell_blk hbx 1
  have d2 : w2.cell? ⟨Bc, 2, none⟩ = some (.int .i64 3) := cell_blk hbx 2
  have d3 : w2.cell? ⟨Bc, 3, none⟩ = some (.int .i64 1) := cell_blk hbx 3
  have d4 : w2.cell? ⟨Bc, 4, none⟩ = some (.int .i64 0) := cell_blk hbx 4
  have d5 : w2.cell? ⟨Bc, 5, none⟩ = some (.int .i64 4) := cell_blk hbx 5
  have d6 : w2.cell? ⟨Bc, 6, none⟩ = some (.int .i64 1) := cell_blk hbx 6
  have d7 : w2.cell? ⟨gm, 12, none⟩ = some (.int .i64 1) := hv2.cells (g := gm) rfl 12 _ rfl
  have d8 : w2.cell? ⟨gm, 13, none⟩ = some (.int .i64 30) := hv2.cells (g := gm) rfl 13 _ rfl
  have d9 : w2.cell? ⟨gm, 14, none⟩ = some (.int .i64 (-5)) := hv2.cells (g := gm) rfl 14 _ rfl
  have d10 : w2.cell? ⟨gm, 15, none⟩ = some (.int .i64 0) := hv2.cells (g := gm) rfl 15 _ rfl
  clear hbx hv2 hv hgl hgS hlen B1
  go_region_held3 (fun W => W.cell? ⟨Bc, 0, none⟩ = some (.int .i64 2) ∧ W.cell? ⟨Bc, 1, none⟩ = some (.int .i64 2) ∧ W.cell? ⟨Bc, 2, none⟩ = some (.int .i64 3) ∧ W.cell? ⟨Bc, 3, none⟩ = some (.int .i64 1) ∧ W.cell? ⟨Bc, 4, none⟩ = some (.int .i64 0) ∧ W.cell? ⟨Bc, 5, none⟩ = some (.int .i64 4) ∧ W.cell? ⟨Bc, 6, none⟩ = some (.int .i64 1) ∧ W.cell? ⟨gm, 12, none⟩ = some (.int .i64 1) ∧ W.cell? ⟨gm, 13, none⟩ = some (.int .i64 30) ∧ W.cell? ⟨gm, 14, none⟩ = some (.int .i64 (-5)) ∧ W.cell? ⟨gm, 15, none⟩ = some (.int .i64 0)) (simp [*, go_sem])
    (first | (go_at_call 19; refine (SM.out _).mono ?_; clear SM; rintro e w3 ⟨rfl, B3⟩; have q0 : w3.cell? ⟨Bc, 0, none⟩ = some (.int .i64 2) := (B3.cell (p := ⟨Bc, 0, none⟩) hlb).trans d0; have q1 : w3.cell? ⟨Bc, 1, none⟩ = some (.int .i64 2) := (B3.cell (p := ⟨Bc, 1, none⟩) hlb).trans d1; have q2 : w3.cell? ⟨Bc, 2, none⟩ = some (.int .i64 3) := (B3.cell (p := ⟨Bc, 2, none⟩) hlb).trans d2; have q3 : w3.cell? ⟨Bc, 3, none⟩ = some (.int .i64 1) := (B3.cell (p := ⟨Bc, 3, none⟩) hlb).trans d3; have q4 : w3.cell? ⟨Bc, 4, none⟩ = some (.int .i64 0) := (B3.cell (p := ⟨Bc, 4, none⟩) hlb).trans d4; have q5 : w3.cell? ⟨Bc, 5, none⟩ = some (.int .i64 4) := (B3.cell (p := ⟨Bc, 5, none⟩) hlb).trans d5; have q6 : w3.cell? ⟨Bc, 6, none⟩ = some (.int .i64 1) := (B3.cell (p := ⟨Bc, 6, none⟩) hlb).trans d6; have q7 : w3.cell? ⟨gm, 12, none⟩ = some (.int .i64 1) := (B3.cell (p := ⟨gm, 12, none⟩) hlm).trans d7; have q8 : w3.cell? ⟨gm, 13, none⟩ = some (.int .i64 30) := (B3.cell (p := ⟨gm, 13, none⟩) hlm).trans d8; have q9 : w3.cell? ⟨gm, 14, none⟩ = some (.int .i64 (-5)) := (B3.cell (p := ⟨gm, 14, none⟩) hlm).trans d9; have q10 : w3.cell? ⟨gm, 15, none⟩ = some (.int .i64 0) := (B3.cell (p := ⟨gm, 15, none⟩) hlm).trans d10; have l3b : Bc < w3.heap.size := Nat.lt_of_lt_of_le hlb B3.size; have l3m : gm < w3.heap.size := Nat.lt_of_lt_of_le hlm B3.size; have X3 : Hid (Below w2.heap.size w2 w3) := ((Below.refl _ _).drew).trans B3; clear B3))
  have hM3 := hM2.out.below X3.out
  have hB3 : Below w.heap.size w w3 := hB2.out.trans (X3.out.mono hB2.out.size)
  have P3 := Mr.hid (PR.out w3 (some ⟨gm, 0, none⟩) 6 cap hB3 hM3 hcap)
  replace hB3 := Mr.hid hB3
  clear PR hM3 hM2 hB2 X3 d0 d1 d2 d3 d4 d5 d6 d7 d8 d9 d10
  go_wp2_with (first | (go_at_call 6; refine P3.out.mono ?_; clear P3; rintro e w4 ⟨rfl, B4⟩; replace B4 := Mr.hid B4) | (go_at_call 18; refine (LF.out _).mono ?_; rintro e w9 ⟨rfl, hw9⟩; obtain rfl := hw9.symm))
  go_ret
  exact ⟨rfl, hB3.out.trans (B4.out.mono hB3.out.size)⟩
end Go.Proofs.YtcomelbphdjnnaaGreatDoor.Sc
