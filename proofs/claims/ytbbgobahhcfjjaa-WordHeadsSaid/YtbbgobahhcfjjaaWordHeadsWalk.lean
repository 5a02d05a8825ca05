import Derived.Test.YtbbgobahhcfjjaaWordLinksWalk
namespace Go.Proofs.Ytbbgobahhcfjjaa.Wp
open Go.RowKit
set_option linter.unusedVariables false
theorem refPackHead (t i : Int) (w : World) (h1 : -1 ≤ i) (h2 : i ≤ 2147483646) (h3 : 0 ≤ t) (h4 : t ≤ 4294967295) :
    Calls Try.prog 26 #[.int .u64 t, .int .i64 i] w fun e w' => e = .returned (.int .u64 (packHead t i)) ∧ w' = w := by
  have e1 : t % 4294967296 = t := by omega
  go_enter Try.func26, Try.ntmps26
  go_wp2
  go_ret
  exact ⟨by simp [packHead], rfl⟩
theorem refIsHead (x : Int) (w : World) (h0 : 0 ≤ x) (h1 : x ≤ 18446744073709551615) :
    Calls Try.prog 28 #[.int .u64 x] w fun e w' => e = .returned (.bool (decide (x % 4294967296 ≤ 2147483647))) ∧ w' = w := by
  go_enter Try.func28, Try.ntmps28
  go_wp2
  go_ret
  exact ⟨rfl, rfl⟩
theorem refHeadTag (x : Int) (w : World) (h0 : 0 ≤ x) (h1 : x ≤ 18446744073709551615) :
    Calls Try.prog 29 #[.int .u64 x] w fun e w' => e = .returned (.int .u64 (x / 4294967296)) ∧ w' = w := by
  go_enter Try.func29, Try.ntmps29
  go_wp2
  go_ret
  exact ⟨rfl, rfl⟩
theorem refLinkIndex' (x : Int) (w : World) (h0 : 0 ≤ x) (h1 : x ≤ 18446744073709551615) :
    Calls Try.prog 23 #[.int .u64 (x % 4294967296)] w fun e w' => e = .returned (.int .i64 (x % 4294967296 - 1)) ∧ w' = w := by
  have h := refLinkIndex (x % 4294967296) w (by omega) (by omega)
  rwa [show x % 4294967296 % 4294967296 = x % 4294967296 from by omega] at h
set_option maxHeartbeats 800000 in
theorem law_heads (t i x : Int) (h0 : 0 ≤ x) (h1 : x ≤ 18446744073709551615) (t0 : 0 ≤ t) (t1 : t ≤ 4294967295) (w : World) :
    Calls Try.prog 8 #[.int .u32 t, .int .i64 i, .int .u64 x] w fun e w' => e = .returned (.bool true) ∧ w' = w := by
  by_cases hi : i < -1 ∨ 2147483646 < i
  · by_cases hx : x % 4294967296 ≤ 2147483647
    · have hi' := hi
      rcases hi' with hj | hj
      all_goals
        go_enter Try.func8, Try.ntmps8
        go_wp2_with (first
          | (go_at_call 18; refine (awake_any _).mono ?_; rintro e w' ⟨rfl, rfl⟩)
          | (go_at_call 25; refine (head_bad t i _ hi).mono ?_; rintro e w' ⟨rfl, rfl⟩)
          | (go_at_call 27; refine (unhead_ok x _ h0 h1 hx).mono ?_; rintro e w' ⟨rfl, rfl⟩)
          | (go_at_call 28; refine (refIsHead x _ h0 h1).mono ?_; rintro e w' ⟨rfl, rfl⟩)
          | (go_at_call 29; refine (refHeadTag x _ h0 h1).mono ?_; rintro e w' ⟨rfl, rfl⟩)
          | (go_at_call 23; refine (refLinkIndex' x _ h0 h1).mono ?_; rintro e w' ⟨rfl, rfl⟩))
        go_ret
        exact ⟨rfl, rfl⟩
    · have hx1 : 2147483647 < x % 4294967296 := by omega
      have hx2 : decide (x % 4294967296 ≤ 2147483647) = false := by simpa using hx1
      have hi' := hi
      clear hx
      rcases hi' with hj | hj
      all_goals
        go_enter Try.func8, Try.ntmps8
        go_wp2_with (first
          | (go_at_call 18; refine (awake_any _).mono ?_; rintro e w' ⟨rfl, rfl⟩)
          | (go_at_call 25; refine (head_bad t i _ hi).mono ?_; rintro e w' ⟨rfl, rfl⟩)
          | (go_at_call 27; refine (unhead_bad x _ h0 h1 hx1).mono ?_; rintro e w' ⟨rfl, rfl⟩)
          | (go_at_call 28; refine (refIsHead x _ h0 h1).mono ?_; rintro e w' ⟨rfl, rfl⟩))
        go_ret
        exact ⟨rfl, rfl⟩
  · have i1 : -1 ≤ i := by omega
    have i2 : i ≤ 2147483646 := by omega
    clear hi
    by_cases hx : x % 4294967296 ≤ 2147483647
    · go_enter Try.func8, Try.ntmps8
      go_wp2_with (first
          | (go_at_call 18; refine (awake_any _).mono ?_; rintro e w' ⟨rfl, rfl⟩)
          | (go_at_call 25; refine (head_ok t i _ i1 i2 t0 t1).mono ?_; rintro e w' ⟨rfl, rfl⟩)
          | (go_at_call 26; refine (refPackHead t i _ i1 i2 t0 t1).mono ?_; rintro e w' ⟨rfl, rfl⟩)
          | (go_at_call 27; refine (unhead_ok x _ h0 h1 hx).mono ?_; rintro e w' ⟨rfl, rfl⟩)
          | (go_at_call 28; refine (refIsHead x _ h0 h1).mono ?_; rintro e w' ⟨rfl, rfl⟩)
          | (go_at_call 29; refine (refHeadTag x _ h0 h1).mono ?_; rintro e w' ⟨rfl, rfl⟩)
          | (go_at_call 23; refine (refLinkIndex' x _ h0 h1).mono ?_; rintro e w' ⟨rfl, rfl⟩))
      go_ret
      exact ⟨rfl, rfl⟩
    · have hx1 : 2147483647 < x % 4294967296 := by omega
      have hx2 : decide (x % 4294967296 ≤ 2147483647) = false := by simpa using hx1
      clear hx
      go_enter Try.func8, Try.ntmps8
      go_wp2_with (first
          | (go_at_call 18; refine (awake_any _).mono ?_; rintro e w' ⟨rfl, rfl⟩)
          | (go_at_call 25; refine (head_ok t i _ i1 i2 t0 t1).mono ?_; rintro e w' ⟨rfl, rfl⟩)
          | (go_at_call 26; refine (refPackHead t i _ i1 i2 t0 t1).mono ?_; rintro e w' ⟨rfl, rfl⟩)
          | (go_at_call 27; refine (unhead_bad x _ h0 h1 hx1).mono ?_; rintro e w' ⟨rfl, rfl⟩)
          | (go_at_call 28; refine (refIsHead x _ h0 h1).mono ?_; rintro e w' ⟨rfl, rfl⟩))
      go_ret
      exact ⟨rfl, rfl⟩
theorem walk_heads (t i x : Int) (w : World) (ht : (Lit.int .u32 t).wf = true) (_h : (Lit.int .i64 i).wf = true) (hx : (Lit.int .u64 x).wf = true) :
    Calls Try.prog 8 #[.int .u32 t, .int .i64 i, .int .u64 x] w fun e w' => e = .returned (.bool true) ∧ Below w.heap.size w w' := by
  have hb := bounds_u64 hx
  have ht := bounds_u32 ht
  refine (law_heads t i x hb.1 hb.2 ht.1 ht.2 w).mono ?_
  rintro e w' ⟨rfl, rfl⟩
  exact ⟨rfl, Below.refl _ _⟩
end Go.Proofs.Ytbbgobahhcfjjaa.Wp
