/-
  SCRIPT: Print.
-/
import Derived.Test.YtfhkgeoionkonaaGreatDoorScWrit
import Derived.Test.YtfhkgeoionkonaaGreatDoorWordCfg
namespace Go.Proofs.YtfhkgeoionkonaaGreatDoor.Sc
open Go.RowKit Mr
set_option linter.unusedVariables false
set_option linter.unusedSimpArgs false
set_option maxRecDepth 100000
/-- What Print answers: a text and an error's number. -/
def prT (b : Bool) (c : List Int) (ms : List Mv) : ByteArray := if b = true then (if ms.length ≤ 65536 then (if (prints c ms).length ≤ 1048576 then ⟨(prints c ms).toArray⟩ else ⟨#[]⟩) else ⟨#[]⟩) else ⟨#[]⟩
def prE (b : Bool) (c : List Int) (ms : List Mv) : Int := if b = true then (if ms.length ≤ 65536 then (if (prints c ms).length ≤ 1048576 then 0 else 3) else 3) else 1
set_option maxHeartbeats 8000000 in
theorem Print_any (c0 c1 c2 c3 c4 c5 c6 : Int) (a : Option Addr) (n c : Nat) (ms : List Mv) (w : World) (E : Env w) (hM : MvAt w a n ms) (hm : ∀ m ∈ ms, MvB m) (hb : ∀ x ∈ [c0, c1, c2, c3, c4, c5, c6], Bd x) (hc : n ≤ c) :
    Calls Tryz.prog 11 #[.agg #[.int .i64 c0, .int .i64 c1, .int .i64 c2, .int .i64 c3, .int .i64 c4, .int .i64 c5, .int .i64 c6], .slice a n c] w fun e w' => e = .returned (.tuple #[.string (prT (Wc.cfgB c0 c1 c2 c3 c4 c5 c6) [c0, c1, c2, c3, c4, c5, c6] ms), .int .i64 (prE (Wc.cfgB c0 c1 c2 c3 c4 c5 c6) [c0, c1, c2, c3, c4, c5, c6] ms)]) ∧ Below w.heap.size w w' := by
  have Ck := Mr.hid (fun W => Wc.check_any c0 c1 c2 c3 c4 c5 c6 W)
  have hl := hM.1
  have B0 : Hid (Below w.heap.size w (w.alloc (.cells #[.int .i64 c0, .int .i64 c1, .int .i64 c2, .int .i64 c3, .int .i64 c4, .int .i64 c5, .int .i64 c6] 23))) := (Below.refl _ _).alloc (Nat.le_refl _) _
  cases hcf : Wc.cfgB c0 c1 c2 c3 c4 c5 c6 with
  | false =>
    have e1 : Hid (prT false [c0, c1, c2, c3, c4, c5, c6] ms = ⟨#[]⟩ ∧ prE false [c0, c1, c2, c3, c4, c5, c6] ms = 1) := ⟨rfl, rfl⟩
    rw [e1.out.1, e1.out.2]
    rw [hcf] at Ck
    have e2 : Wc.chkN false = 1 := rfl
    rw [e2] at Ck
    clear e1 e2 hcf hM hm hb hl
    go_enter Tryz.func11, Tryz.ntmps11
    go_wp2_with (go_at_call 24; refine (Ck.out _).mono ?_; clear Ck; rintro e w1 ⟨rfl, B1⟩)
    go_ret2
    exact ⟨rfl, B0.out.trans (B1.mono (by simp))⟩
  | true =>
    rw [hcf] at Ck
    have e2 : Wc.chkN true = 0 := rfl
    rw [e2] at Ck
    clear e2 hcf
    by_cases hn : n ≤ 65536
    · have hbx : Hid ((w.alloc (.cells #[.int .i64 c0, .int .i64 c1, .int .i64 c2, .int .i64 c3, .int .i64 c4, .int .i64 c5, .int .i64 c6] 23)).heap[w.heap.size]? = some (.cells #[.int .i64 c0, .int .i64 c1, .int .i64 c2, .int .i64 c3, .int .i64 c4, .int .i64 c5, .int .i64 c6] 23 (0, 0))) := new_at _ _ _ rfl
      have W : Hid (∀ W, Below w.heap.size w W → Calls Tryz.prog 25 #[.agg #[.int .i64 c0, .int .i64 c1, .int .i64 c2, .int .i64 c3, .int .i64 c4, .int .i64 c5, .int .i64 c6], .slice a n c] W fun e w' => e = .returned (.string ⟨(prints [c0, c1, c2, c3, c4, c5, c6] ms).toArray⟩) ∧ Below W.heap.size W w') := fun W hB => written_any c0 c1 c2 c3 c4 c5 c6 a n c ms W (E.below hB) (hM.below hB) hm hb hn hc
      have d0 : decide ((n : Int) > 65536) = false := decide_eq_false (by omega)
      have d1 : ¬ (65536 : Int) < (n : Int) := by omega
      have hp : Hid (prT true [c0, c1, c2, c3, c4, c5, c6] ms = (if (prints [c0, c1, c2, c3, c4, c5, c6] ms).length ≤ 1048576 then ⟨(prints [c0, c1, c2, c3, c4, c5, c6] ms).toArray⟩ else ⟨#[]⟩) ∧ prE true [c0, c1, c2, c3, c4, c5, c6] ms = (if (prints [c0, c1, c2, c3, c4, c5, c6] ms).length ≤ 1048576 then 0 else 3)) := by
        have h1 : ms.length ≤ 65536 := by omega
        exact ⟨by unfold prT; rw [if_pos rfl, if_pos h1], by unfold prE; rw [if_pos rfl, if_pos h1]⟩
      rw [hp.out.1, hp.out.2]
      clear hp hM hm hb hl E hc hn
      have hsz := sz_list (prints [c0, c1, c2, c3, c4, c5, c6] ms)
      by_cases hq : (prints [c0, c1, c2, c3, c4, c5, c6] ms).length ≤ 1048576
      · rw [if_pos hq, if_pos hq]
        rw [← hsz] at hq
        clear hsz
        generalize (⟨(prints [c0, c1, c2, c3, c4, c5, c6] ms).toArray⟩ : ByteArray) = T at *
        have d2 : decide ((T.size : Int) > 1048576) = false := decide_eq_false (by omega)
        have d3 : ¬ (1048576 : Int) < (T.size : Int) := by omega
        go_enter Tryz.func11, Tryz.ntmps11
        go_upto_region 6 with (go_at_call 24; refine (Ck.out _).mono ?_; clear Ck; rintro e w1 ⟨rfl, B1⟩)
        have hb1 : w1.heap[w.heap.size]? = some (.cells #[.int .i64 c0, .int .i64 c1, .int .i64 c2, .int .i64 c3, .int .i64 c4, .int .i64 c5, .int .i64 c6] 23 (0, 0)) := (B1.block _ (by simp)).trans hbx.out
        have k0 := cell_blk hb1 0
        have k1 := cell_blk hb1 1
        have k2 := cell_blk hb1 2
        have k3 := cell_blk hb1 3
        have k4 := cell_blk hb1 4
        have k5 := cell_blk hb1 5
        have k6 := cell_blk hb1 6
        have BB : Hid (Below w.heap.size w w1) := B0.out.trans (B1.mono (by simp))
        have W1 := Mr.hid (W.out w1 BB.out)
        clear hb1 B1 W hbx B0
        go_wp2_with (go_at_call 25; refine W1.out.mono ?_; clear W1; rintro e w2 ⟨rfl, B2⟩)
        go_ret2
        exact ⟨rfl, BB.out.trans (B2.mono BB.out.size)⟩
      · rw [if_neg hq, if_neg hq]
        rw [← hsz] at hq
        clear hsz
        generalize (⟨(prints [c0, c1, c2, c3, c4, c5, c6] ms).toArray⟩ : ByteArray) = T at *
        have d2 : decide ((T.size : Int) > 1048576) = true := by simp; omega
        have d3 : (1048576 : Int) < (T.size : Int) := by omega
        go_enter Tryz.func11, Tryz.ntmps11
        go_upto_region 6 with (go_at_call 24; refine (Ck.out _).mono ?_; clear Ck; rintro e w1 ⟨rfl, B1⟩)
        have hb1 : w1.heap[w.heap.size]? = some (.cells #[.int .i64 c0, .int .i64 c1, .int .i64 c2, .int .i64 c3, .int .i64 c4, .int .i64 c5, .int .i64 c6] 23 (0, 0)) := (B1.block _ (by simp)).trans hbx.out
        have k0 := cell_blk hb1 0
        have k1 := cell_blk hb1 1
        have k2 := cell_blk hb1 2
        have k3 := cell_blk hb1 3
        have k4 := cell_blk hb1 4
        have k5 := cell_blk hb1 5
        have k6 := cell_blk hb1 6
        have BB : Hid (Below w.heap.size w w1) := B0.out.trans (B1.mono (by simp))
        have W1 := Mr.hid (W.out w1 BB.out)
        clear hb1 B1 W hbx B0
        go_wp2_with (go_at_call 25; refine W1.out.mono ?_; clear W1; rintro e w2 ⟨rfl, B2⟩)
        go_ret2
        exact ⟨rfl, BB.out.trans (B2.mono BB.out.size)⟩
    · have hp : Hid (prT true [c0, c1, c2, c3, c4, c5, c6] ms = ⟨#[]⟩ ∧ prE true [c0, c1, c2, c3, c4, c5, c6] ms = 3) := by
        have h1 : ¬ ms.length ≤ 65536 := by omega
        exact ⟨by unfold prT; rw [if_pos rfl, if_neg h1], by unfold prE; rw [if_pos rfl, if_neg h1]⟩
      rw [hp.out.1, hp.out.2]
      have d0 : decide ((n : Int) > 65536) = true := by simp; omega
      have d1 : (65536 : Int) < (n : Int) := by omega
      clear hp hM hm hb hl E hc hn
      go_enter Tryz.func11, Tryz.ntmps11
      go_wp2_with (go_at_call 24; refine (Ck.out _).mono ?_; clear Ck; rintro e w1 ⟨rfl, B1⟩)
      go_ret2
      exact ⟨rfl, B0.out.trans (B1.mono (by simp))⟩
end Go.Proofs.YtfhkgeoionkonaaGreatDoor.Sc
