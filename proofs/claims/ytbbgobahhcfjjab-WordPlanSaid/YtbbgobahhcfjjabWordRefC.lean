/-
  CONTRACT of the document's At.
-/
import Derived.Test.YtbbgobahhcfjjabWordRefB
namespace Go.Proofs.Ytbbgobahhcfjjab.Wm
open Go.RowKit
open Wc
set_option linter.unusedVariables false
set_option maxHeartbeats 1000000 in
theorem refAt (a0 a1 a2 a3 a4 a5 a6 ad : Int) (j : Nat) (w : World) (hok : Ok a1 a2 a5 a6) (h1 : 1 ≤ j) (h2 : j ≤ 13) (h3 : base a1 a2 a5 a6 j ≤ ad) (h4 : ad < base a1 a2 a5 a6 j + many a1 a2 a5 a6 (j : Int)) :
    Calls Try.prog 17 #[.agg #[.int .i64 a0, .int .i64 a1, .int .i64 a2, .int .i64 a3, .int .i64 a4, .int .i64 a5, .int .i64 a6], .int .i64 ad] w fun e w' =>
      e = .returned (.agg #[.int .i64 (j : Int), .int .i64 ((ad - base a1 a2 a5 a6 j) / each a2 (j : Int)), .int .i64 ((ad - base a1 a2 a5 a6 j) % each a2 (j : Int))]) ∧ Below w.heap.size w w' := by
  have bj := base_bd hok j
  have mj := many_bd hok (j : Int)
  go_enter Try.func17, Try.ntmps17
  go_wp2_with fail
  go_loopw [1, 5] (fun t i w' => ∃ k : Nat, 1 ≤ k ∧ k ≤ j ∧ i = .int .i64 (k : Int) ∧ t = .int .i64 (ad - base a1 a2 a5 a6 k) ∧ Below (w.heap.size + 2) ((w.alloc (.cells #[.int .i64 a0, .int .i64 a1, .int .i64 a2, .int .i64 a3, .int .i64 a4, .int .i64 a5, .int .i64 a6] 23)).alloc (.cells #[.int .i64 0, .int .i64 0, .int .i64 0] 39)) w') (fun _ i _ => j - (intOf i).toNat)
  case atStart => exact ⟨1, by omega, h1, rfl, by simp [base], Bx.two0 _ _ _⟩
  case round =>
    obtain ⟨k, j1, j2, rfl, rfl, B⟩ := hrel
    have q := Bx.twoCellA B
    have bb := base_bd hok k
    have mb := many_bd hok (k : Int)
    have bs : Hid (base a1 a2 a5 a6 (k + 1) = base a1 a2 a5 a6 k + many a1 a2 a5 a6 (k : Int)) := base_succ a1 a2 a5 a6 k j1
    by_cases hlt : k < j
    · have hm := base_mono hok k j j1 hlt
      go_wp2_with fail
      refine (refMany _ _ _ _ _ _ _ _ _ hok).mono ?_
      rintro e w2 ⟨rfl, hb2⟩
      have B2 := Bx.twoSeq B hb2
      clear hb2 q B
      go_wp2_with fail
      exact ⟨⟨k + 1, by omega, by omega, by go_num, by rw [bs.out]; congr 1; omega, B2⟩, by simp [intOf]; omega⟩
    · have : k = j := by omega
      subst this
      have eb := each_bd hok (k : Int)
      by_cases c9 : k = 9
      · have e9 : ((k : Int) == 9) = true := by simp; omega
        have o := hok
        obtain ⟨o1, o2, o3, o4, o5, o6, o7, o8⟩ := o
        have ee : Hid (each a2 (k : Int) = a2) := by rw [c9]; exact ea9 a2
        clear c9
        go_wp2_with fail
        refine (refMany _ _ _ _ _ _ _ _ _ hok).mono ?_
        rintro e w2 ⟨rfl, hb2⟩
        have B2 := Bx.twoSeq B hb2
        clear hb2 q B
        have q0 := Bx.twoCellA B2
        have q1 := Bx.twoCellB B2
        have q2 := Bx.twoFrozenB B2
        have q3 := Bx.twoSize B2
        go_wp2_with fail
        go_region
        go_wp2
        refine bodyPost_ret (v := .agg #[.int .i64 (k : Int), .int .i64 ((ad - base a1 a2 a5 a6 k) / a2), .int .i64 ((ad - base a1 a2 a5 a6 k) % a2)]) (by simp [results, Try.results17, go_sem, q1]) rfl ⟨?_, ?_⟩
        · rw [ee.out]
        exact ((((Bx.twoEnd B2).setCell (by simp) _).setCell (by simp) _).setCell (by simp) _).drew
      · have e9 : ((k : Int) == 9) = false := by simp; omega
        have ee : each a2 (k : Int) = 1 := ea_ne (by omega)
        go_wp2_with fail
        refine (refMany _ _ _ _ _ _ _ _ _ hok).mono ?_
        rintro e w2 ⟨rfl, hb2⟩
        have B2 := Bx.twoSeq B hb2
        clear hb2 q B
        have q1 := Bx.twoCellB B2
        have q2 := Bx.twoFrozenB B2
        have q3 := Bx.twoSize B2
        go_wp2_with fail
        refine bodyPost_ret (v := .agg #[.int .i64 (k : Int), .int .i64 (ad - base a1 a2 a5 a6 k), .int .i64 0]) (by simp [results, Try.results17, go_sem, q1]) rfl ⟨?_, ?_⟩
        · simp [ee, Int.emod_one]
        exact ((((Bx.twoEnd B2).setCell (by simp) _).setCell (by simp) _).setCell (by simp) _)
end Go.Proofs.Ytbbgobahhcfjjab.Wm
