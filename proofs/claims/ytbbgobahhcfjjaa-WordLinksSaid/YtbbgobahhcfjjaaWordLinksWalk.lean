import Derived.Test.YtbbgobahhcfjjaaWordPack
namespace Go.Proofs.Ytbbgobahhcfjjaa.Wp
open Go.RowKit
set_option linter.unusedVariables false
theorem refIsLink (x : Int) (w : World) (h0 : 0 ≤ x) (h1 : x ≤ 18446744073709551615) :
    Calls Try.prog 22 #[.int .u64 x] w fun e w' => e = .returned (.bool (isLinkB x)) ∧ w' = w := by
  by_cases h : x < 8589934592
  · go_enter Try.func22, Try.ntmps22
    go_wp2
    go_ret
    exact ⟨by simp [isLinkB, h], rfl⟩
  · go_enter Try.func22, Try.ntmps22
    go_wp2
    go_ret
    exact ⟨by simp [isLinkB]; omega, rfl⟩
theorem refLinkIndex (x : Int) (w : World) (h0 : 0 ≤ x) (h1 : x ≤ 18446744073709551615) :
    Calls Try.prog 23 #[.int .u64 x] w fun e w' => e = .returned (.int .i64 (x % 4294967296 - 1)) ∧ w' = w := by
  have h2 : 0 ≤ x % 4294967296 := by omega
  have h3 : x % 4294967296 < 4294967296 := by omega
  go_enter Try.func23, Try.ntmps23
  go_wp2
  go_ret
  exact ⟨rfl, rfl⟩
theorem refLinkMark (x : Int) (w : World) (h0 : 0 ≤ x) (h1 : x ≤ 18446744073709551615) :
    Calls Try.prog 24 #[.int .u64 x] w fun e w' => e = .returned (.bool (x / 4294967296 % 2 == 1)) ∧ w' = w := by
  go_enter Try.func24, Try.ntmps24
  go_wp2
  go_ret
  exact ⟨rfl, rfl⟩
set_option maxHeartbeats 400000 in
theorem law_links (i : Int) (m : Bool) (x : Int) (h0 : 0 ≤ x) (h1 : x ≤ 18446744073709551615) (w : World) :
    Calls Try.prog 7 #[.int .i64 i, .bool m, .int .u64 x] w fun e w' => e = .returned (.bool true) ∧ w' = w := by
  by_cases hi : i < -1 ∨ 2147483646 < i
  · by_cases hx : isLinkB x = true
    · have hx' := hx
      simp only [isLinkB, Bool.and_eq_true, decide_eq_true_eq] at hx'
      obtain ⟨k1, k2⟩ := hx'
      have hi' := hi
      rcases hi' with hj | hj
      all_goals
        go_enter Try.func7, Try.ntmps7
        go_wp2_with (first
          | (go_at_call 18; refine (awake_any _).mono ?_; rintro e w' ⟨rfl, rfl⟩)
          | (go_at_call 19; refine (link_bad i m _ hi).mono ?_; rintro e w' ⟨rfl, rfl⟩)
          | (go_at_call 21; refine (unlink_ok x _ h0 k1 k2).mono ?_; rintro e w' ⟨rfl, rfl⟩)
          | (go_at_call 22; refine (refIsLink x _ h0 h1).mono ?_; rintro e w' ⟨rfl, rfl⟩)
          | (go_at_call 23; refine (refLinkIndex x _ h0 h1).mono ?_; rintro e w' ⟨rfl, rfl⟩)
          | (go_at_call 24; refine (refLinkMark x _ h0 h1).mono ?_; rintro e w' ⟨rfl, rfl⟩))
        go_ret
        exact ⟨rfl, rfl⟩
    · have hx' : isLinkB x = false := by simpa using hx
      have k : 8589934592 ≤ x ∨ 2147483647 < x % 4294967296 := by
        simp only [isLinkB, Bool.and_eq_false_iff, decide_eq_false_iff_not] at hx'; omega
      have hi' := hi
      clear hx
      rcases hi' with hj | hj
      all_goals
        go_enter Try.func7, Try.ntmps7
        go_wp2_with (first
          | (go_at_call 18; refine (awake_any _).mono ?_; rintro e w' ⟨rfl, rfl⟩)
          | (go_at_call 19; refine (link_bad i m _ hi).mono ?_; rintro e w' ⟨rfl, rfl⟩)
          | (go_at_call 21; refine (unlink_bad x _ h0 h1 k).mono ?_; rintro e w' ⟨rfl, rfl⟩)
          | (go_at_call 22; refine (refIsLink x _ h0 h1).mono ?_; rintro e w' ⟨rfl, rfl⟩))
        go_ret
        exact ⟨rfl, rfl⟩
  · have i1 : -1 ≤ i := by omega
    have i2 : i ≤ 2147483646 := by omega
    clear hi
    by_cases hx : isLinkB x = true
    · have hx' := hx
      simp only [isLinkB, Bool.and_eq_true, decide_eq_true_eq] at hx'
      obtain ⟨k1, k2⟩ := hx'
      go_enter Try.func7, Try.ntmps7
      go_wp2_with (first
          | (go_at_call 18; refine (awake_any _).mono ?_; rintro e w' ⟨rfl, rfl⟩)
          | (go_at_call 19; refine (link_ok i m _ i1 i2).mono ?_; rintro e w' ⟨rfl, rfl⟩)
          | (go_at_call 20; refine (refPackLink i m _ i1 i2).mono ?_; rintro e w' ⟨rfl, rfl⟩)
          | (go_at_call 21; refine (unlink_ok x _ h0 k1 k2).mono ?_; rintro e w' ⟨rfl, rfl⟩)
          | (go_at_call 22; refine (refIsLink x _ h0 h1).mono ?_; rintro e w' ⟨rfl, rfl⟩)
          | (go_at_call 23; refine (refLinkIndex x _ h0 h1).mono ?_; rintro e w' ⟨rfl, rfl⟩)
          | (go_at_call 24; refine (refLinkMark x _ h0 h1).mono ?_; rintro e w' ⟨rfl, rfl⟩))
      go_ret
      exact ⟨rfl, rfl⟩
    · have hx' : isLinkB x = false := by simpa using hx
      have k : 8589934592 ≤ x ∨ 2147483647 < x % 4294967296 := by
        simp only [isLinkB, Bool.and_eq_false_iff, decide_eq_false_iff_not] at hx'; omega
      clear hx
      go_enter Try.func7, Try.ntmps7
      go_wp2_with (first
          | (go_at_call 18; refine (awake_any _).mono ?_; rintro e w' ⟨rfl, rfl⟩)
          | (go_at_call 19; refine (link_ok i m _ i1 i2).mono ?_; rintro e w' ⟨rfl, rfl⟩)
          | (go_at_call 20; refine (refPackLink i m _ i1 i2).mono ?_; rintro e w' ⟨rfl, rfl⟩)
          | (go_at_call 21; refine (unlink_bad x _ h0 h1 k).mono ?_; rintro e w' ⟨rfl, rfl⟩)
          | (go_at_call 22; refine (refIsLink x _ h0 h1).mono ?_; rintro e w' ⟨rfl, rfl⟩))
      go_ret
      exact ⟨rfl, rfl⟩
end Go.Proofs.Ytbbgobahhcfjjaa.Wp
namespace Go.Proofs.Ytbbgobahhcfjjaa.Wp
open Go.RowKit
theorem walk_links (i : Int) (m : Bool) (x : Int) (w : World) (_h : (Lit.int .i64 i).wf = true) (hx : (Lit.int .u64 x).wf = true) :
    Calls Try.prog 7 #[.int .i64 i, .bool m, .int .u64 x] w fun e w' => e = .returned (.bool true) ∧ Below w.heap.size w w' := by
  have hb := bounds_u64 hx
  refine (law_links i m x hb.1 hb.2 w).mono ?_
  rintro e w' ⟨rfl, rfl⟩
  exact ⟨rfl, Below.refl _ _⟩
end Go.Proofs.Ytbbgobahhcfjjaa.Wp
