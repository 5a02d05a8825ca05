/-
  SCRIPT: ScriptBack.
-/
import Derived.Test.YtgkjbaifhekhfaaGreatDoorScSame
import Derived.Test.YtgkjbaifhekhfaaGreatDoorScAw
import Derived.Test.YtgkjbaifhekhfaaGreatDoorWordCfgRef
namespace Go.Proofs.YtgkjbaifhekhfaaGreatDoor.Sc
open Go.RowKit Mr
set_option linter.unusedVariables false
set_option linter.unusedSimpArgs false
set_option maxRecDepth 100000
theorem MvAt.take {W : World} {a : Option Addr} {n : Nat} {ms : List Mv} (h : MvAt W a n ms) (k : Nat) (hk : k ≤ n) : MvAt W a k (ms.take k) := by
  have hn := h.1
  refine ⟨by rw [List.length_take]; omega, ?_⟩
  rcases h.2 with e | ⟨b, off, rfl, hb, hc⟩
  · left; rw [e]; simp
  · refine .inr ⟨b, off, rfl, hb, fun j hj => ?_⟩
    rw [List.length_take] at hj
    have e : (ms.take k)[j]?.getD noMv = ms[j]?.getD noMv := by rw [List.getElem?_take, if_pos (by omega)]
    rw [e]
    exact hc j (by omega)
/-- What Print and Parse come to, of a configuration that may be. -/
theorem both_of (c : Cf) (ms : List Mv) (hc : cfgC c = true) (hm : ∀ m ∈ ms, MvB m) (hl : ms.length ≤ 65536) : (prE (cfgC c) (cfL c) ms = 3 ∧ 100 < ms.length) ∨ (prE (cfgC c) (cfL c) ms = 0 ∧ ∃ l, prT (cfgC c) (cfL c) ms = ⟨l.toArray⟩ ∧ parseO l = some (c, ms)) := by
  by_cases ht : (prints (cfL c) ms).length ≤ 1048576
  · right
    unfold prE prT
    rw [if_pos hc, if_pos hc, if_pos hl, if_pos hl, if_pos ht, if_pos ht]
    exact ⟨rfl, _, rfl, back c ms hc hm hl ht⟩
  · left
    unfold prE
    rw [if_pos hc, if_pos hl, if_neg ht]
    refine ⟨rfl, ?_⟩
    by_cases h : ms.length ≤ 100
    · exact absurd (prints_len c ms hc hm h) ht
    · omega
set_option maxHeartbeats 16000000 in
theorem back_TW (c0 c1 c2 c3 c4 c5 c6 : Int) (a : Option Addr) (n cap : Nat) (ms : List Mv) (w : World) (E : Env w) (hM : MvAt w a n ms) (hcap : n ≤ cap) (hm : ∀ m ∈ ms, MvB m) (hcf : Wc.cfgB c0 c1 c2 c3 c4 c5 c6 = true) (hn : n ≤ 65536) :
    Calls Tryz.prog 5 #[.agg #[.int .i64 c0, .int .i64 c1, .int .i64 c2, .int .i64 c3, .int .i64 c4, .int .i64 c5, .int .i64 c6], .slice a n cap] w fun e w' => e = .returned (.bool true) ∧ Below w.heap.size w w' := by
  have RC := Mr.hid (fun W => Wc.refConfig c0 c1 c2 c3 c4 c5 c6 W)
  rw [hcf] at RC
  have AW := Mr.hid (fun W (hB : Below w.heap.size w W) => awake_any W (E.below hB))
  have SM := Mr.hid (fun W => small_any W)
  have hcd : cfgC ⟨c0, c1, c2, c3, c4, c5, c6⟩ = true := hcf
  have hm1 : ∀ m ∈ ms, MvB m := hm
  have hl1 : ms.length = n := hM.1.symm
  have hM1 := Mr.hid (fun W (hB : Below w.heap.size w W) => hM.below hB)
  have PR := Mr.hid (fun W (hB : Below w.heap.size w W) => Print_any c0 c1 c2 c3 c4 c5 c6 a n cap ms W (E.below hB) (hM1.out W hB) hm1 (by obtain ⟨b0, b1, b2, b3, b4, b5, b6⟩ := cf_bd hcd; intro x hx; simp only [List.mem_cons, List.not_mem_nil, or_false] at hx; rcases hx with rfl | rfl | rfl | rfl | rfl | rfl | rfl <;> assumption) (by omega))
  have PS := Mr.hid (fun (l : List UInt8) (hp : parseO l = some (⟨c0, c1, c2, c3, c4, c5, c6⟩, ms)) W (hB : Below w.heap.size w W) => Parse_ok l (⟨c0, c1, c2, c3, c4, c5, c6⟩, ms) W (E.below hB) hp)
  have BO := both_of ⟨c0, c1, c2, c3, c4, c5, c6⟩ ms hcd hm1 (by omega)
  unfold cfgC cfL at BO
  dsimp only at BO
  unfold PaA cfV at PS
  dsimp only at PS
  obtain ⟨PT, hPT⟩ : ∃ X, prT (Wc.cfgB c0 c1 c2 c3 c4 c5 c6) [c0, c1, c2, c3, c4, c5, c6] ms = X := ⟨_, rfl⟩
  obtain ⟨PE, hPE⟩ : ∃ X, prE (Wc.cfgB c0 c1 c2 c3 c4 c5 c6) [c0, c1, c2, c3, c4, c5, c6] ms = X := ⟨_, rfl⟩
  rw [hPT, hPE] at PR BO
  have hl1' := Mr.hid hl1
  have d0 : decide ((65536 : Int) < (n : Int)) = false := decide_eq_false (by omega)
  have d1 : ¬ (65536 : Int) < (n : Int) := by omega
  have B0 : Hid (Below w.heap.size w (w.alloc (.cells #[.int .i64 c0, .int .i64 c1, .int .i64 c2, .int .i64 c3, .int .i64 c4, .int .i64 c5, .int .i64 c6] 23))) := (Below.refl _ _).alloc (Nat.le_refl _) _
  clear hPT hPE hM hm hm1 hcd hcf E hl1
  go_enter Tryz.func5, Tryz.ntmps5
  go_upto_region 3 with (go_at_call 13; refine (RC.out _).mono ?_; clear RC; rintro e w1 ⟨rfl, B1⟩)
  have hbx : w1.heap[w.heap.size]? = some (.cells #[.int .i64 c0, .int .i64 c1, .int .i64 c2, .int .i64 c3, .int .i64 c4, .int .i64 c5, .int .i64 c6] 23 (0, 0)) := (B1.block _ (by simp)).trans (new_at _ _ _ rfl)
  have BB : Below w.heap.size w w1 := B0.out.trans (B1.mono (by simp))
  clear B1 B0 SM
  have P1 := Mr.hid (PR.out w1 BB)
  have x0 := cell_blk hbx 0
  have x1 := cell_blk hbx 1
  have x2 := cell_blk hbx 2
  have x3 := cell_blk hbx 3
  have x4 := cell_blk hbx 4
  have x5 := cell_blk hbx 5
  have x6 := cell_blk hbx 6
  have lx := (Array.getElem?_eq_some_iff.1 hbx).1
  replace hbx := Mr.hid hbx
  replace BB := Mr.hid BB
  clear PR
  go_upto_region 6 with (go_at_call 11; refine P1.out.mono ?_; clear P1; rintro e w4 ⟨rfl, B4⟩)
  have BB4 : Below w.heap.size w w4 := BB.out.trans (B4.mono BB.out.size)
  have hbx4 : w4.heap[w.heap.size]? = some (.cells #[.int .i64 c0, .int .i64 c1, .int .i64 c2, .int .i64 c3, .int .i64 c4, .int .i64 c5, .int .i64 c6] 23 (0, 0)) := (B4.block _ lx).trans hbx.out
  have A4 := Mr.hid (AW.out w4 BB4)
  have l4 := (Array.getElem?_eq_some_iff.1 hbx4).1
  replace hbx4 := Mr.hid hbx4
  replace BB4 := Mr.hid BB4
  clear x0 x1 x2 x3 x4 x5 x6 hbx BB B4 AW lx
  go_upto_region 8 with (go_at_call 10; refine A4.out.mono ?_; clear A4; rintro e w5 ⟨rfl, B5⟩)
  have BB5 : Below w.heap.size w w5 := BB4.out.trans (B5.mono BB4.out.size)
  have hbx5 : w5.heap[w.heap.size]? = some (.cells #[.int .i64 c0, .int .i64 c1, .int .i64 c2, .int .i64 c3, .int .i64 c4, .int .i64 c5, .int .i64 c6] 23 (0, 0)) := (B5.block _ l4).trans hbx4.out
  have l5 := (Array.getElem?_eq_some_iff.1 hbx5).1
  replace hbx5 := Mr.hid hbx5
  replace BB5 := Mr.hid BB5
  clear hbx4 BB4 B5 l4
  rcases BO with ⟨e1, e2⟩ | ⟨e1, l, e2, e3⟩
  · subst e1
    have d9 : decide ((100 : Int) < (n : Int)) = true := by first | decide | (have := hl1'.out; simp; omega)
    have d8 : (100 : Int) < (n : Int) := by have := hl1'.out; omega
    clear e2
    go_wp2
    go_ret
    exact ⟨by simp [d9], BB5.out⟩
  · subst e1
    subst e2
    have S5 := Mr.hid (PS.out l e3 w5 BB5.out)
    clear PS e3
    generalize (⟨l.toArray⟩ : ByteArray) = X at *
    go_upto_region 13 with (go_at_call 9; refine S5.out.mono ?_; clear S5; rintro e w6 ⟨v, rfl, hv, B6⟩)
    obtain ⟨av, cv, rfl, -⟩ := hv.form
    have BB6 : Below w.heap.size w w6 := BB5.out.trans (B6.mono BB5.out.size)
    have hbx6 : w6.heap[w.heap.size]? = some (.cells #[.int .i64 c0, .int .i64 c1, .int .i64 c2, .int .i64 c3, .int .i64 c4, .int .i64 c5, .int .i64 c6] 23 (0, 0)) := (B6.block _ l5).trans hbx5.out
    have l6 := (Array.getElem?_eq_some_iff.1 hbx6).1
    have y0 := cell_blk hbx6 0
    have y1 := cell_blk hbx6 1
    have y2 := cell_blk hbx6 2
    have y3 := cell_blk hbx6 3
    have y4 := cell_blk hbx6 4
    have y5 := cell_blk hbx6 5
    have y6 := cell_blk hbx6 6
    have BB7 : Below w.heap.size w (w6.alloc (.cells #[.int .i64 c0, .int .i64 c1, .int .i64 c2, .int .i64 c3, .int .i64 c4, .int .i64 c5, .int .i64 c6] 23)) := BB6.alloc BB6.size _
    have M7 := hM1.out _ BB7
    have V7 : MvAt (w6.alloc (.cells #[.int .i64 c0, .int .i64 c1, .int .i64 c2, .int .i64 c3, .int .i64 c4, .int .i64 c5, .int .i64 c6] 23)) av n ms := by
      have := MvAt.of (hv.alloc (.cells #[.int .i64 c0, .int .i64 c1, .int .i64 c2, .int .i64 c3, .int .i64 c4, .int .i64 c5, .int .i64 c6] 23))
      rw [hl1'.out] at this
      exact this
    have SS := Mr.hid (sameMoves_eq ms av a n cv cap _ V7 M7 (by omega))
    rw [hl1'.out]
    replace BB7 := Mr.hid BB7
    clear hv B6 BB6 hbx6 hbx5 BB5 M7 V7 hM1
    go_wp2_with (go_at_call 12; refine SS.out.mono ?_; clear SS; rintro e w8 ⟨rfl, B8⟩; replace B8 := Mr.hid B8)
    go_ret
    exact ⟨rfl, BB7.out.trans (B8.out.mono BB7.out.size)⟩
set_option maxHeartbeats 16000000 in
theorem back_TC (c0 c1 c2 c3 c4 c5 c6 : Int) (a : Option Addr) (n cap : Nat) (ms : List Mv) (w : World) (E : Env w) (hM : MvAt w a n ms) (hcap : n ≤ cap) (hm : ∀ m ∈ ms, MvB m) (hcf : Wc.cfgB c0 c1 c2 c3 c4 c5 c6 = true) (hn : ¬ n ≤ 65536) :
    Calls Tryz.prog 5 #[.agg #[.int .i64 c0, .int .i64 c1, .int .i64 c2, .int .i64 c3, .int .i64 c4, .int .i64 c5, .int .i64 c6], .slice a n cap] w fun e w' => e = .returned (.bool true) ∧ Below w.heap.size w w' := by
  have RC := Mr.hid (fun W => Wc.refConfig c0 c1 c2 c3 c4 c5 c6 W)
  rw [hcf] at RC
  have AW := Mr.hid (fun W (hB : Below w.heap.size w W) => awake_any W (E.below hB))
  have SM := Mr.hid (fun W => small_any W)
  have hcd : cfgC ⟨c0, c1, c2, c3, c4, c5, c6⟩ = true := hcf
  have hm1 : ∀ m ∈ (ms.take 65536), MvB m := fun m hx => hm m (List.mem_of_mem_take hx)
  have hl1 : (ms.take 65536).length = 65536 := by rw [List.length_take]; have := hM.1; omega
  have hM1 := Mr.hid (fun W (hB : Below w.heap.size w W) => (hM.below hB).take 65536 (by omega))
  have PR := Mr.hid (fun W (hB : Below w.heap.size w W) => Print_any c0 c1 c2 c3 c4 c5 c6 a 65536 cap (ms.take 65536) W (E.below hB) (hM1.out W hB) hm1 (by obtain ⟨b0, b1, b2, b3, b4, b5, b6⟩ := cf_bd hcd; intro x hx; simp only [List.mem_cons, List.not_mem_nil, or_false] at hx; rcases hx with rfl | rfl | rfl | rfl | rfl | rfl | rfl <;> assumption) (by omega))
  have PS := Mr.hid (fun (l : List UInt8) (hp : parseO l = some (⟨c0, c1, c2, c3, c4, c5, c6⟩, (ms.take 65536))) W (hB : Below w.heap.size w W) => Parse_ok l (⟨c0, c1, c2, c3, c4, c5, c6⟩, (ms.take 65536)) W (E.below hB) hp)
  have BO := both_of ⟨c0, c1, c2, c3, c4, c5, c6⟩ (ms.take 65536) hcd hm1 (by omega)
  unfold cfgC cfL at BO
  dsimp only at BO
  unfold PaA cfV at PS
  dsimp only at PS
  obtain ⟨PT, hPT⟩ : ∃ X, prT (Wc.cfgB c0 c1 c2 c3 c4 c5 c6) [c0, c1, c2, c3, c4, c5, c6] (ms.take 65536) = X := ⟨_, rfl⟩
  obtain ⟨PE, hPE⟩ : ∃ X, prE (Wc.cfgB c0 c1 c2 c3 c4 c5 c6) [c0, c1, c2, c3, c4, c5, c6] (ms.take 65536) = X := ⟨_, rfl⟩
  rw [hPT, hPE] at PR BO
  have hl1' := Mr.hid hl1
  have d0 : decide ((65536 : Int) < (n : Int)) = true := by simp; omega
  have d1 : (65536 : Int) < (n : Int) := by omega
  have d2 : (65536 : Int) ≤ (cap : Int) := by omega
  have B0 : Hid (Below w.heap.size w (w.alloc (.cells #[.int .i64 c0, .int .i64 c1, .int .i64 c2, .int .i64 c3, .int .i64 c4, .int .i64 c5, .int .i64 c6] 23))) := (Below.refl _ _).alloc (Nat.le_refl _) _
  clear hPT hPE hM hm hm1 hcd hcf E hl1
  go_enter Tryz.func5, Tryz.ntmps5
  go_upto_region 3 with (go_at_call 13; refine (RC.out _).mono ?_; clear RC; rintro e w1 ⟨rfl, B1⟩)
  have hbx : w1.heap[w.heap.size]? = some (.cells #[.int .i64 c0, .int .i64 c1, .int .i64 c2, .int .i64 c3, .int .i64 c4, .int .i64 c5, .int .i64 c6] 23 (0, 0)) := (B1.block _ (by simp)).trans (new_at _ _ _ rfl)
  have BB : Below w.heap.size w w1 := B0.out.trans (B1.mono (by simp))
  clear B1 B0 SM
  have P1 := Mr.hid (PR.out w1 BB)
  have x0 := cell_blk hbx 0
  have x1 := cell_blk hbx 1
  have x2 := cell_blk hbx 2
  have x3 := cell_blk hbx 3
  have x4 := cell_blk hbx 4
  have x5 := cell_blk hbx 5
  have x6 := cell_blk hbx 6
  have lx := (Array.getElem?_eq_some_iff.1 hbx).1
  replace hbx := Mr.hid hbx
  replace BB := Mr.hid BB
  clear PR
  go_upto_region 6 with (go_at_call 11; refine P1.out.mono ?_; clear P1; rintro e w4 ⟨rfl, B4⟩)
  have BB4 : Below w.heap.size w w4 := BB.out.trans (B4.mono BB.out.size)
  have hbx4 : w4.heap[w.heap.size]? = some (.cells #[.int .i64 c0, .int .i64 c1, .int .i64 c2, .int .i64 c3, .int .i64 c4, .int .i64 c5, .int .i64 c6] 23 (0, 0)) := (B4.block _ lx).trans hbx.out
  have A4 := Mr.hid (AW.out w4 BB4)
  have l4 := (Array.getElem?_eq_some_iff.1 hbx4).1
  replace hbx4 := Mr.hid hbx4
  replace BB4 := Mr.hid BB4
  clear x0 x1 x2 x3 x4 x5 x6 hbx BB B4 AW lx
  go_upto_region 8 with (go_at_call 10; refine A4.out.mono ?_; clear A4; rintro e w5 ⟨rfl, B5⟩)
  have BB5 : Below w.heap.size w w5 := BB4.out.trans (B5.mono BB4.out.size)
  have hbx5 : w5.heap[w.heap.size]? = some (.cells #[.int .i64 c0, .int .i64 c1, .int .i64 c2, .int .i64 c3, .int .i64 c4, .int .i64 c5, .int .i64 c6] 23 (0, 0)) := (B5.block _ l4).trans hbx4.out
  have l5 := (Array.getElem?_eq_some_iff.1 hbx5).1
  replace hbx5 := Mr.hid hbx5
  replace BB5 := Mr.hid BB5
  clear hbx4 BB4 B5 l4
  rcases BO with ⟨e1, e2⟩ | ⟨e1, l, e2, e3⟩
  · subst e1
    have d9 : decide ((100 : Int) < (65536 : Int)) = true := by first | decide | (have := hl1'.out; simp; omega)
    have d8 : (100 : Int) < (65536 : Int) := by have := hl1'.out; omega
    clear e2
    go_wp2
    go_ret
    exact ⟨by simp [d9], BB5.out⟩
  · subst e1
    subst e2
    have S5 := Mr.hid (PS.out l e3 w5 BB5.out)
    clear PS e3
    generalize (⟨l.toArray⟩ : ByteArray) = X at *
    go_upto_region 13 with (go_at_call 9; refine S5.out.mono ?_; clear S5; rintro e w6 ⟨v, rfl, hv, B6⟩)
    obtain ⟨av, cv, rfl, -⟩ := hv.form
    have BB6 : Below w.heap.size w w6 := BB5.out.trans (B6.mono BB5.out.size)
    have hbx6 : w6.heap[w.heap.size]? = some (.cells #[.int .i64 c0, .int .i64 c1, .int .i64 c2, .int .i64 c3, .int .i64 c4, .int .i64 c5, .int .i64 c6] 23 (0, 0)) := (B6.block _ l5).trans hbx5.out
    have l6 := (Array.getElem?_eq_some_iff.1 hbx6).1
    have y0 := cell_blk hbx6 0
    have y1 := cell_blk hbx6 1
    have y2 := cell_blk hbx6 2
    have y3 := cell_blk hbx6 3
    have y4 := cell_blk hbx6 4
    have y5 := cell_blk hbx6 5
    have y6 := cell_blk hbx6 6
    have BB7 : Below w.heap.size w (w6.alloc (.cells #[.int .i64 c0, .int .i64 c1, .int .i64 c2, .int .i64 c3, .int .i64 c4, .int .i64 c5, .int .i64 c6] 23)) := BB6.alloc BB6.size _
    have M7 := hM1.out _ BB7
    have V7 : MvAt (w6.alloc (.cells #[.int .i64 c0, .int .i64 c1, .int .i64 c2, .int .i64 c3, .int .i64 c4, .int .i64 c5, .int .i64 c6] 23)) av 65536 (ms.take 65536) := by
      have := MvAt.of (hv.alloc (.cells #[.int .i64 c0, .int .i64 c1, .int .i64 c2, .int .i64 c3, .int .i64 c4, .int .i64 c5, .int .i64 c6] 23))
      rw [hl1'.out] at this
      exact this
    have SS := Mr.hid (sameMoves_eq (ms.take 65536) av a 65536 cv cap _ V7 M7 (by omega))
    rw [hl1'.out]
    replace BB7 := Mr.hid BB7
    clear hv B6 BB6 hbx6 hbx5 BB5 M7 V7 hM1
    go_wp2_with (go_at_call 12; refine SS.out.mono ?_; clear SS; rintro e w8 ⟨rfl, B8⟩; replace B8 := Mr.hid B8)
    go_ret
    exact ⟨rfl, BB7.out.trans (B8.out.mono BB7.out.size)⟩
set_option maxHeartbeats 16000000 in
theorem back_FW (c0 c1 c2 c3 c4 c5 c6 : Int) (a : Option Addr) (n cap : Nat) (ms : List Mv) (w : World) (E : Env w) (hM : MvAt w a n ms) (hcap : n ≤ cap) (hm : ∀ m ∈ ms, MvB m) (hcf : Wc.cfgB c0 c1 c2 c3 c4 c5 c6 = false) (hn : n ≤ 65536) :
    Calls Tryz.prog 5 #[.agg #[.int .i64 c0, .int .i64 c1, .int .i64 c2, .int .i64 c3, .int .i64 c4, .int .i64 c5, .int .i64 c6], .slice a n cap] w fun e w' => e = .returned (.bool true) ∧ Below w.heap.size w w' := by
  have RC := Mr.hid (fun W => Wc.refConfig c0 c1 c2 c3 c4 c5 c6 W)
  rw [hcf] at RC
  have AW := Mr.hid (fun W (hB : Below w.heap.size w W) => awake_any W (E.below hB))
  have SM := Mr.hid (fun W => small_any W)
  have hcd : cfgC ⟨2, 2, 3, 1, 0, 4, 1⟩ = true := (by decide)
  have hm1 : ∀ m ∈ ms, MvB m := hm
  have hl1 : ms.length = n := hM.1.symm
  have hM1 := Mr.hid (fun W (hB : Below w.heap.size w W) => hM.below hB)
  have PR := Mr.hid (fun W (hB : Below w.heap.size w W) => Print_any 2 2 3 1 0 4 1 a n cap ms W (E.below hB) (hM1.out W hB) hm1 (by obtain ⟨b0, b1, b2, b3, b4, b5, b6⟩ := cf_bd hcd; intro x hx; simp only [List.mem_cons, List.not_mem_nil, or_false] at hx; rcases hx with rfl | rfl | rfl | rfl | rfl | rfl | rfl <;> assumption) (by omega))
  have PS := Mr.hid (fun (l : List UInt8) (hp : parseO l = some (⟨2, 2, 3, 1, 0, 4, 1⟩, ms)) W (hB : Below w.heap.size w W) => Parse_ok l (⟨2, 2, 3, 1, 0, 4, 1⟩, ms) W (E.below hB) hp)
  have BO := both_of ⟨2, 2, 3, 1, 0, 4, 1⟩ ms hcd hm1 (by omega)
  unfold cfgC cfL at BO
  dsimp only at BO
  unfold PaA cfV at PS
  dsimp only at PS
  obtain ⟨PT, hPT⟩ : ∃ X, prT (Wc.cfgB 2 2 3 1 0 4 1) [2, 2, 3, 1, 0, 4, 1] ms = X := ⟨_, rfl⟩
  obtain ⟨PE, hPE⟩ : ∃ X, prE (Wc.cfgB 2 2 3 1 0 4 1) [2, 2, 3, 1, 0, 4, 1] ms = X := ⟨_, rfl⟩
  rw [hPT, hPE] at PR BO
  have hl1' := Mr.hid hl1
  have d0 : decide ((65536 : Int) < (n : Int)) = false := decide_eq_false (by omega)
  have d1 : ¬ (65536 : Int) < (n : Int) := by omega
  have B0 : Hid (Below w.heap.size w (w.alloc (.cells #[.int .i64 c0, .int .i64 c1, .int .i64 c2, .int .i64 c3, .int .i64 c4, .int .i64 c5, .int .i64 c6] 23))) := (Below.refl _ _).alloc (Nat.le_refl _) _
  clear hPT hPE hM hm hm1 hcd hcf E hl1
  go_enter Tryz.func5, Tryz.ntmps5
  go_upto_region 2 with (go_at_call 13; refine (RC.out _).mono ?_; clear RC; rintro e w1 ⟨rfl, B1⟩)
  have hbx1 : w1.heap[w.heap.size]? = some (.cells #[.int .i64 c0, .int .i64 c1, .int .i64 c2, .int .i64 c3, .int .i64 c4, .int .i64 c5, .int .i64 c6] 23 (0, 0)) := (B1.block _ (by simp)).trans (new_at _ _ _ rfl)
  have BB1 : Below w.heap.size w w1 := B0.out.trans (B1.mono (by simp))
  have S1 := Mr.hid (SM.out w1)
  have l0 := (Array.getElem?_eq_some_iff.1 hbx1).1
  replace hbx1 := Mr.hid hbx1
  replace BB1 := Mr.hid BB1
  clear B1 B0 SM
  go_wp2_with (go_at_call 14; refine S1.out.mono ?_)
  clear S1
  rintro e w2 ⟨rfl, B2⟩
  have hbx2 : w2.heap[w.heap.size]? = some (.cells #[.int .i64 c0, .int .i64 c1, .int .i64 c2, .int .i64 c3, .int .i64 c4, .int .i64 c5, .int .i64 c6] 23 (0, 0)) := (B2.block _ l0).trans hbx1.out
  have BB2 : Below w.heap.size w w2 := BB1.out.trans (B2.mono BB1.out.size)
  have k0 := cell_blk hbx2 0
  have k1 := cell_blk hbx2 1
  have k2 := cell_blk hbx2 2
  have k3 := cell_blk hbx2 3
  have k4 := cell_blk hbx2 4
  have k5 := cell_blk hbx2 5
  have k6 := cell_blk hbx2 6
  have fz : ∀ k, w2.frozen? ⟨w.heap.size, k, none⟩ = false := fun k => by simp [World.frozen?, hbx2]
  have l2 := (Array.getElem?_eq_some_iff.1 hbx2).1
  have hbx : ((((((((w2).setCell ⟨w.heap.size, 0, none⟩ (.int .i64 2)).setCell ⟨w.heap.size, 1, none⟩ (.int .i64 2)).setCell ⟨w.heap.size, 2, none⟩ (.int .i64 3)).setCell ⟨w.heap.size, 3, none⟩ (.int .i64 1)).setCell ⟨w.heap.size, 4, none⟩ (.int .i64 0)).setCell ⟨w.heap.size, 5, none⟩ (.int .i64 4)).setCell ⟨w.heap.size, 6, none⟩ (.int .i64 1)).heap[w.heap.size]? = some (.cells #[.int .i64 2, .int .i64 2, .int .i64 3, .int .i64 1, .int .i64 0, .int .i64 4, .int .i64 1] 23 (0, 0)) := ((setBlk (setBlk (setBlk (setBlk (setBlk (setBlk (setBlk hbx2 0 (.int .i64 2)) 1 (.int .i64 2)) 2 (.int .i64 3)) 3 (.int .i64 1)) 4 (.int .i64 0)) 5 (.int .i64 4)) 6 (.int .i64 1))).trans rfl
  have BB : Below w.heap.size w ((((((((w2).setCell ⟨w.heap.size, 0, none⟩ (.int .i64 2)).setCell ⟨w.heap.size, 1, none⟩ (.int .i64 2)).setCell ⟨w.heap.size, 2, none⟩ (.int .i64 3)).setCell ⟨w.heap.size, 3, none⟩ (.int .i64 1)).setCell ⟨w.heap.size, 4, none⟩ (.int .i64 0)).setCell ⟨w.heap.size, 5, none⟩ (.int .i64 4)).setCell ⟨w.heap.size, 6, none⟩ (.int .i64 1)) := (((((((BB2.setCell (p := ⟨w.heap.size, 0, none⟩) (Nat.le_refl _) (.int .i64 2)).setCell (p := ⟨w.heap.size, 1, none⟩) (Nat.le_refl _) (.int .i64 2)).setCell (p := ⟨w.heap.size, 2, none⟩) (Nat.le_refl _) (.int .i64 3)).setCell (p := ⟨w.heap.size, 3, none⟩) (Nat.le_refl _) (.int .i64 1)).setCell (p := ⟨w.heap.size, 4, none⟩) (Nat.le_refl _) (.int .i64 0)).setCell (p := ⟨w.heap.size, 5, none⟩) (Nat.le_refl _) (.int .i64 4)).setCell (p := ⟨w.heap.size, 6, none⟩) (Nat.le_refl _) (.int .i64 1))
  replace hbx := Mr.hid hbx
  replace BB := Mr.hid BB
  clear B2 hbx2 BB2 hbx1 BB1
  go_upto_region 3 with fail
  clear k0 k1 k2 k3 k4 k5 k6 fz l2 l0
  replace hbx := hbx.out
  replace BB := BB.out
  generalize (((((((w2).setCell ⟨w.heap.size, 0, none⟩ (.int .i64 2)).setCell ⟨w.heap.size, 1, none⟩ (.int .i64 2)).setCell ⟨w.heap.size, 2, none⟩ (.int .i64 3)).setCell ⟨w.heap.size, 3, none⟩ (.int .i64 1)).setCell ⟨w.heap.size, 4, none⟩ (.int .i64 0)).setCell ⟨w.heap.size, 5, none⟩ (.int .i64 4)).setCell ⟨w.heap.size, 6, none⟩ (.int .i64 1) = w3 at *
  have P1 := Mr.hid (PR.out w3 BB)
  have x0 := cell_blk hbx 0
  have x1 := cell_blk hbx 1
  have x2 := cell_blk hbx 2
  have x3 := cell_blk hbx 3
  have x4 := cell_blk hbx 4
  have x5 := cell_blk hbx 5
  have x6 := cell_blk hbx 6
  have lx := (Array.getElem?_eq_some_iff.1 hbx).1
  replace hbx := Mr.hid hbx
  replace BB := Mr.hid BB
  clear PR
  go_upto_region 6 with (go_at_call 11; refine P1.out.mono ?_; clear P1; rintro e w4 ⟨rfl, B4⟩)
  have BB4 : Below w.heap.size w w4 := BB.out.trans (B4.mono BB.out.size)
  have hbx4 : w4.heap[w.heap.size]? = some (.cells #[.int .i64 2, .int .i64 2, .int .i64 3, .int .i64 1, .int .i64 0, .int .i64 4, .int .i64 1] 23 (0, 0)) := (B4.block _ lx).trans hbx.out
  have A4 := Mr.hid (AW.out w4 BB4)
  have l4 := (Array.getElem?_eq_some_iff.1 hbx4).1
  replace hbx4 := Mr.hid hbx4
  replace BB4 := Mr.hid BB4
  clear x0 x1 x2 x3 x4 x5 x6 hbx BB B4 AW lx
  go_upto_region 8 with (go_at_call 10; refine A4.out.mono ?_; clear A4; rintro e w5 ⟨rfl, B5⟩)
  have BB5 : Below w.heap.size w w5 := BB4.out.trans (B5.mono BB4.out.size)
  have hbx5 : w5.heap[w.heap.size]? = some (.cells #[.int .i64 2, .int .i64 2, .int .i64 3, .int .i64 1, .int .i64 0, .int .i64 4, .int .i64 1] 23 (0, 0)) := (B5.block _ l4).trans hbx4.out
  have l5 := (Array.getElem?_eq_some_iff.1 hbx5).1
  replace hbx5 := Mr.hid hbx5
  replace BB5 := Mr.hid BB5
  clear hbx4 BB4 B5 l4
  rcases BO with ⟨e1, e2⟩ | ⟨e1, l, e2, e3⟩
  · subst e1
    have d9 : decide ((100 : Int) < (n : Int)) = true := by first | decide | (have := hl1'.out; simp; omega)
    have d8 : (100 : Int) < (n : Int) := by have := hl1'.out; omega
    clear e2
    go_wp2
    go_ret
    exact ⟨by simp [d9], BB5.out⟩
  · subst e1
    subst e2
    have S5 := Mr.hid (PS.out l e3 w5 BB5.out)
    clear PS e3
    generalize (⟨l.toArray⟩ : ByteArray) = X at *
    go_upto_region 13 with (go_at_call 9; refine S5.out.mono ?_; clear S5; rintro e w6 ⟨v, rfl, hv, B6⟩)
    obtain ⟨av, cv, rfl, -⟩ := hv.form
    have BB6 : Below w.heap.size w w6 := BB5.out.trans (B6.mono BB5.out.size)
    have hbx6 : w6.heap[w.heap.size]? = some (.cells #[.int .i64 2, .int .i64 2, .int .i64 3, .int .i64 1, .int .i64 0, .int .i64 4, .int .i64 1] 23 (0, 0)) := (B6.block _ l5).trans hbx5.out
    have l6 := (Array.getElem?_eq_some_iff.1 hbx6).1
    have y0 := cell_blk hbx6 0
    have y1 := cell_blk hbx6 1
    have y2 := cell_blk hbx6 2
    have y3 := cell_blk hbx6 3
    have y4 := cell_blk hbx6 4
    have y5 := cell_blk hbx6 5
    have y6 := cell_blk hbx6 6
    have BB7 : Below w.heap.size w (w6.alloc (.cells #[.int .i64 2, .int .i64 2, .int .i64 3, .int .i64 1, .int .i64 0, .int .i64 4, .int .i64 1] 23)) := BB6.alloc BB6.size _
    have M7 := hM1.out _ BB7
    have V7 : MvAt (w6.alloc (.cells #[.int .i64 2, .int .i64 2, .int .i64 3, .int .i64 1, .int .i64 0, .int .i64 4, .int .i64 1] 23)) av n ms := by
      have := MvAt.of (hv.alloc (.cells #[.int .i64 2, .int .i64 2, .int .i64 3, .int .i64 1, .int .i64 0, .int .i64 4, .int .i64 1] 23))
      rw [hl1'.out] at this
      exact this
    have SS := Mr.hid (sameMoves_eq ms av a n cv cap _ V7 M7 (by omega))
    rw [hl1'.out]
    replace BB7 := Mr.hid BB7
    clear hv B6 BB6 hbx6 hbx5 BB5 M7 V7 hM1
    go_wp2_with (go_at_call 12; refine SS.out.mono ?_; clear SS; rintro e w8 ⟨rfl, B8⟩; replace B8 := Mr.hid B8)
    go_ret
    exact ⟨rfl, BB7.out.trans (B8.out.mono BB7.out.size)⟩
set_option maxHeartbeats 16000000 in
theorem back_FC (c0 c1 c2 c3 c4 c5 c6 : Int) (a : Option Addr) (n cap : Nat) (ms : List Mv) (w : World) (E : Env w) (hM : MvAt w a n ms) (hcap : n ≤ cap) (hm : ∀ m ∈ ms, MvB m) (hcf : Wc.cfgB c0 c1 c2 c3 c4 c5 c6 = false) (hn : ¬ n ≤ 65536) :
    Calls Tryz.prog 5 #[.agg #[.int .i64 c0, .int .i64 c1, .int .i64 c2, .int .i64 c3, .int .i64 c4, .int .i64 c5, .int .i64 c6], .slice a n cap] w fun e w' => e = .returned (.bool true) ∧ Below w.heap.size w w' := by
  have RC := Mr.hid (fun W => Wc.refConfig c0 c1 c2 c3 c4 c5 c6 W)
  rw [hcf] at RC
  have AW := Mr.hid (fun W (hB : Below w.heap.size w W) => awake_any W (E.below hB))
  have SM := Mr.hid (fun W => small_any W)
  have hcd : cfgC ⟨2, 2, 3, 1, 0, 4, 1⟩ = true := (by decide)
  have hm1 : ∀ m ∈ (ms.take 65536), MvB m := fun m hx => hm m (List.mem_of_mem_take hx)
  have hl1 : (ms.take 65536).length = 65536 := by rw [List.length_take]; have := hM.1; omega
  have hM1 := Mr.hid (fun W (hB : Below w.heap.size w W) => (hM.below hB).take 65536 (by omega))
  have PR := Mr.hid (fun W (hB : Below w.heap.size w W) => Print_any 2 2 3 1 0 4 1 a 65536 cap (ms.take 65536) W (E.below hB) (hM1.out W hB) hm1 (by obtain ⟨b0, b1, b2, b3, b4, b5, b6⟩ := cf_bd hcd; intro x hx; simp only [List.mem_cons, List.not_mem_nil, or_false] at hx; rcases hx with rfl | rfl | rfl | rfl | rfl | rfl | rfl <;> assumption) (by omega))
  have PS := Mr.hid (fun (l : List UInt8) (hp : parseO l = some (⟨2, 2, 3, 1, 0, 4, 1⟩, (ms.take 65536))) W (hB : Below w.heap.size w W) => Parse_ok l (⟨2, 2, 3, 1, 0, 4, 1⟩, (ms.take 65536)) W (E.below hB) hp)
  have BO := both_of ⟨2, 2, 3, 1, 0, 4, 1⟩ (ms.take 65536) hcd hm1 (by omega)
  unfold cfgC cfL at BO
  dsimp only at BO
  unfold PaA cfV at PS
  dsimp only at PS
  obtain ⟨PT, hPT⟩ : ∃ X, prT (Wc.cfgB 2 2 3 1 0 4 1) [2, 2, 3, 1, 0, 4, 1] (ms.take 65536) = X := ⟨_, rfl⟩
  obtain ⟨PE, hPE⟩ : ∃ X, prE (Wc.cfgB 2 2 3 1 0 4 1) [2, 2, 3, 1, 0, 4, 1] (ms.take 65536) = X := ⟨_, rfl⟩
  rw [hPT, hPE] at PR BO
  have hl1' := Mr.hid hl1
  have d0 : decide ((65536 : Int) < (n : Int)) = true := by simp; omega
  have d1 : (65536 : Int) < (n : Int) := by omega
  have d2 : (65536 : Int) ≤ (cap : Int) := by omega
  have B0 : Hid (Below w.heap.size w (w.alloc (.cells #[.int .i64 c0, .int .i64 c1, .int .i64 c2, .int .i64 c3, .int .i64 c4, .int .i64 c5, .int .i64 c6] 23))) := (Below.refl _ _).alloc (Nat.le_refl _) _
  clear hPT hPE hM hm hm1 hcd hcf E hl1
  go_enter Tryz.func5, Tryz.ntmps5
  go_upto_region 2 with (go_at_call 13; refine (RC.out _).mono ?_; clear RC; rintro e w1 ⟨rfl, B1⟩)
  have hbx1 : w1.heap[w.heap.size]? = some (.cells #[.int .i64 c0, .int .i64 c1, .int .i64 c2, .int .i64 c3, .int .i64 c4, .int .i64 c5, .int .i64 c6] 23 (0, 0)) := (B1.block _ (by simp)).trans (new_at _ _ _ rfl)
  have BB1 : Below w.heap.size w w1 := B0.out.trans (B1.mono (by simp))
  have S1 := Mr.hid (SM.out w1)
  have l0 := (Array.getElem?_eq_some_iff.1 hbx1).1
  replace hbx1 := Mr.hid hbx1
  replace BB1 := Mr.hid BB1
  clear B1 B0 SM
  go_wp2_with (go_at_call 14; refine S1.out.mono ?_)
  clear S1
  rintro e w2 ⟨rfl, B2⟩
  have hbx2 : w2.heap[w.heap.size]? = some (.cells #[.int .i64 c0, .int .i64 c1, .int .i64 c2, .int .i64 c3, .int .i64 c4, .int .i64 c5, .int .i64 c6] 23 (0, 0)) := (B2.block _ l0).trans hbx1.out
  have BB2 : Below w.heap.size w w2 := BB1.out.trans (B2.mono BB1.out.size)
  have k0 := cell_blk hbx2 0
  have k1 := cell_blk hbx2 1
  have k2 := cell_blk hbx2 2
  have k3 := cell_blk hbx2 3
  have k4 := cell_blk hbx2 4
  have k5 := cell_blk hbx2 5
  have k6 := cell_blk hbx2 6
  have fz : ∀ k, w2.frozen? ⟨w.heap.size, k, none⟩ = false := fun k => by simp [World.frozen?, hbx2]
  have l2 := (Array.getElem?_eq_some_iff.1 hbx2).1
  have hbx : ((((((((w2).setCell ⟨w.heap.size, 0, none⟩ (.int .i64 2)).setCell ⟨w.heap.size, 1, none⟩ (.int .i64 2)).setCell ⟨w.heap.size, 2, none⟩ (.int .i64 3)).setCell ⟨w.heap.size, 3, none⟩ (.int .i64 1)).setCell ⟨w.heap.size, 4, none⟩ (.int .i64 0)).setCell ⟨w.heap.size, 5, none⟩ (.int .i64 4)).setCell ⟨w.heap.size, 6, none⟩ (.int .i64 1)).heap[w.heap.size]? = some (.cells #[.int .i64 2, .int .i64 2, .int .i64 3, .int .i64 1, .int .i64 0, .int .i64 4, .int .i64 1] 23 (0, 0)) := ((setBlk (setBlk (setBlk (setBlk (setBlk (setBlk (setBlk hbx2 0 (.int .i64 2)) 1 (.int .i64 2)) 2 (.int .i64 3)) 3 (.int .i64 1)) 4 (.int .i64 0)) 5 (.int .i64 4)) 6 (.int .i64 1))).trans rfl
  have BB : Below w.heap.size w ((((((((w2).setCell ⟨w.heap.size, 0, none⟩ (.int .i64 2)).setCell ⟨w.heap.size, 1, none⟩ (.int .i64 2)).setCell ⟨w.heap.size, 2, none⟩ (.int .i64 3)).setCell ⟨w.heap.size, 3, none⟩ (.int .i64 1)).setCell ⟨w.heap.size, 4, none⟩ (.int .i64 0)).setCell ⟨w.heap.size, 5, none⟩ (.int .i64 4)).setCell ⟨w.heap.size, 6, none⟩ (.int .i64 1)) := (((((((BB2.setCell (p := ⟨w.heap.size, 0, none⟩) (Nat.le_refl _) (.int .i64 2)).setCell (p := ⟨w.heap.size, 1, none⟩) (Nat.le_refl _) (.int .i64 2)).setCell (p := ⟨w.heap.size, 2, none⟩) (Nat.le_refl _) (.int .i64 3)).setCell (p := ⟨w.heap.size, 3, none⟩) (Nat.le_refl _) (.int .i64 1)).setCell (p := ⟨w.heap.size, 4, none⟩) (Nat.le_refl _) (.int .i64 0)).setCell (p := ⟨w.heap.size, 5, none⟩) (Nat.le_refl _) (.int .i64 4)).setCell (p := ⟨w.heap.size, 6, none⟩) (Nat.le_refl _) (.int .i64 1))
  replace hbx := Mr.hid hbx
  replace BB := Mr.hid BB
  clear B2 hbx2 BB2 hbx1 BB1
  go_upto_region 3 with fail
  clear k0 k1 k2 k3 k4 k5 k6 fz l2 l0
  replace hbx := hbx.out
  replace BB := BB.out
  generalize (((((((w2).setCell ⟨w.heap.size, 0, none⟩ (.int .i64 2)).setCell ⟨w.heap.size, 1, none⟩ (.int .i64 2)).setCell ⟨w.heap.size, 2, none⟩ (.int .i64 3)).setCell ⟨w.heap.size, 3, none⟩ (.int .i64 1)).setCell ⟨w.heap.size, 4, none⟩ (.int .i64 0)).setCell ⟨w.heap.size, 5, none⟩ (.int .i64 4)).setCell ⟨w.heap.size, 6, none⟩ (.int .i64 1) = w3 at *
  have P1 := Mr.hid (PR.out w3 BB)
  have x0 := cell_blk hbx 0
  have x1 := cell_blk hbx 1
  have x2 := cell_blk hbx 2
  have x3 := cell_blk hbx 3
  have x4 := cell_blk hbx 4
  have x5 := cell_blk hbx 5
  have x6 := cell_blk hbx 6
  have lx := (Array.getElem?_eq_some_iff.1 hbx).1
  replace hbx := Mr.hid hbx
  replace BB := Mr.hid BB
  clear PR
  go_upto_region 6 with (go_at_call 11; refine P1.out.mono ?_; clear P1; rintro e w4 ⟨rfl, B4⟩)
  have BB4 : Below w.heap.size w w4 := BB.out.trans (B4.mono BB.out.size)
  have hbx4 : w4.heap[w.heap.size]? = some (.cells #[.int .i64 2, .int .i64 2, .int .i64 3, .int .i64 1, .int .i64 0, .int .i64 4, .int .i64 1] 23 (0, 0)) := (B4.block _ lx).trans hbx.out
  have A4 := Mr.hid (AW.out w4 BB4)
  have l4 := (Array.getElem?_eq_some_iff.1 hbx4).1
  replace hbx4 := Mr.hid hbx4
  replace BB4 := Mr.hid BB4
  clear x0 x1 x2 x3 x4 x5 x6 hbx BB B4 AW lx
  go_upto_region 8 with (go_at_call 10; refine A4.out.mono ?_; clear A4; rintro e w5 ⟨rfl, B5⟩)
  have BB5 : Below w.heap.size w w5 := BB4.out.trans (B5.mono BB4.out.size)
  have hbx5 : w5.heap[w.heap.size]? = some (.cells #[.int .i64 2, .int .i64 2, .int .i64 3, .int .i64 1, .int .i64 0, .int .i64 4, .int .i64 1] 23 (0, 0)) := (B5.block _ l4).trans hbx4.out
  have l5 := (Array.getElem?_eq_some_iff.1 hbx5).1
  replace hbx5 := Mr.hid hbx5
  replace BB5 := Mr.hid BB5
  clear hbx4 BB4 B5 l4
  rcases BO with ⟨e1, e2⟩ | ⟨e1, l, e2, e3⟩
  · subst e1
    have d9 : decide ((100 : Int) < (65536 : Int)) = true := by first | decide | (have := hl1'.out; simp; omega)
    have d8 : (100 : Int) < (65536 : Int) := by have := hl1'.out; omega
    clear e2
    go_wp2
    go_ret
    exact ⟨by simp [d9], BB5.out⟩
  · subst e1
    subst e2
    have S5 := Mr.hid (PS.out l e3 w5 BB5.out)
    clear PS e3
    generalize (⟨l.toArray⟩ : ByteArray) = X at *
    go_upto_region 13 with (go_at_call 9; refine S5.out.mono ?_; clear S5; rintro e w6 ⟨v, rfl, hv, B6⟩)
    obtain ⟨av, cv, rfl, -⟩ := hv.form
    have BB6 : Below w.heap.size w w6 := BB5.out.trans (B6.mono BB5.out.size)
    have hbx6 : w6.heap[w.heap.size]? = some (.cells #[.int .i64 2, .int .i64 2, .int .i64 3, .int .i64 1, .int .i64 0, .int .i64 4, .int .i64 1] 23 (0, 0)) := (B6.block _ l5).trans hbx5.out
    have l6 := (Array.getElem?_eq_some_iff.1 hbx6).1
    have y0 := cell_blk hbx6 0
    have y1 := cell_blk hbx6 1
    have y2 := cell_blk hbx6 2
    have y3 := cell_blk hbx6 3
    have y4 := cell_blk hbx6 4
    have y5 := cell_blk hbx6 5
    have y6 := cell_blk hbx6 6
    have BB7 : Below w.heap.size w (w6.alloc (.cells #[.int .i64 2, .int .i64 2, .int .i64 3, .int .i64 1, .int .i64 0, .int .i64 4, .int .i64 1] 23)) := BB6.alloc BB6.size _
    have M7 := hM1.out _ BB7
    have V7 : MvAt (w6.alloc (.cells #[.int .i64 2, .int .i64 2, .int .i64 3, .int .i64 1, .int .i64 0, .int .i64 4, .int .i64 1] 23)) av 65536 (ms.take 65536) := by
      have := MvAt.of (hv.alloc (.cells #[.int .i64 2, .int .i64 2, .int .i64 3, .int .i64 1, .int .i64 0, .int .i64 4, .int .i64 1] 23))
      rw [hl1'.out] at this
      exact this
    have SS := Mr.hid (sameMoves_eq (ms.take 65536) av a 65536 cv cap _ V7 M7 (by omega))
    rw [hl1'.out]
    replace BB7 := Mr.hid BB7
    clear hv B6 BB6 hbx6 hbx5 BB5 M7 V7 hM1
    go_wp2_with (go_at_call 12; refine SS.out.mono ?_; clear SS; rintro e w8 ⟨rfl, B8⟩; replace B8 := Mr.hid B8)
    go_ret
    exact ⟨rfl, BB7.out.trans (B8.out.mono BB7.out.size)⟩
theorem law_back (c0 c1 c2 c3 c4 c5 c6 : Int) (a : Option Addr) (n cap : Nat) (ms : List Mv) (w : World) (hw : (Lit.int .i64 c0).wf = true ∧ (Lit.int .i64 c1).wf = true ∧ (Lit.int .i64 c2).wf = true ∧ (Lit.int .i64 c3).wf = true ∧ (Lit.int .i64 c4).wf = true ∧ (Lit.int .i64 c5).wf = true ∧ (Lit.int .i64 c6).wf = true) (hM : MvAt w a n ms) (hcap : n ≤ cap) (hm : ∀ m ∈ ms, MvB m) (E : Env w) :
    Calls Tryz.prog 5 #[.agg #[.int .i64 c0, .int .i64 c1, .int .i64 c2, .int .i64 c3, .int .i64 c4, .int .i64 c5, .int .i64 c6], .slice a n cap] w fun e w' => e = .returned (.bool true) ∧ Below w.heap.size w w' := by
  clear hw
  cases hcf : Wc.cfgB c0 c1 c2 c3 c4 c5 c6 with
  | true =>
    by_cases hn : n ≤ 65536
    · exact back_TW c0 c1 c2 c3 c4 c5 c6 a n cap ms w E hM hcap hm hcf hn
    · exact back_TC c0 c1 c2 c3 c4 c5 c6 a n cap ms w E hM hcap hm hcf hn
  | false =>
    by_cases hn : n ≤ 65536
    · exact back_FW c0 c1 c2 c3 c4 c5 c6 a n cap ms w E hM hcap hm hcf hn
    · exact back_FC c0 c1 c2 c3 c4 c5 c6 a n cap ms w E hM hcap hm hcf hn
end Go.Proofs.YtgkjbaifhekhfaaGreatDoor.Sc
