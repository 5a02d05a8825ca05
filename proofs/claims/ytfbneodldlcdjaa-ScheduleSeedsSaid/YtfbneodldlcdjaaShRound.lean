/-
  SCHEDULE: Round, the program's and the document's, and the law.
-/
import Derived.Test.YtfbneodldlcdjaaShSame
namespace Go.Proofs.Ytfbneodldlcdjaa.Sh
open Go.RowKit Mr Md
set_option linter.unusedVariables false
set_option linter.unusedSimpArgs false
set_option maxRecDepth 100000
def rdl (t : Int) (n : Nat) : List Int := (List.range n).map (fun i : Nat => (i : Int) % t)
theorem rdl_len (t : Int) (n : Nat) : (rdl t n).length = n := by simp [rdl]
theorem rdl_succ (t : Int) (n : Nat) : rdl t (n + 1) = rdl t n ++ [(n : Int) % t] := by simp [rdl, List.range_succ]
def rdz (t : Int) (n i : Nat) : List Int := rdl t i ++ List.replicate (n - i) 0
theorem rdz_len (t : Int) (n i : Nat) (h : i ≤ n) : (rdz t n i).length = n := by simp [rdz, rdl_len]; omega
theorem rdz_set (t : Int) (n i : Nat) (h : i < n) : (rdz t n i).set i ((i : Int) % t) = rdz t n (i + 1) := by
  unfold rdz
  have e : n - i = (n - (i + 1)) + 1 := by omega
  rw [List.set_append_right _ _ (by rw [rdl_len]; omega), rdl_len, Nat.sub_self, e, List.replicate_succ, rdl_succ]
  simp
theorem rdz_end (t : Int) (n : Nat) : rdz t n n = rdl t n := by simp [rdz]
theorem rdz_get (t : Int) (n i : Nat) (h : i < n) : (rdz t n i)[i]? = some 0 := by
  unfold rdz
  rw [List.getElem?_append_right (by rw [rdl_len]; omega), rdl_len, Nat.sub_self, List.getElem?_replicate, if_pos (by omega)]
/-- Who is refused, and how. -/
inductive Rd : Int → Int → Int → Prop
  | long {t s : Int} (h : 65536 < s) : Rd t s 3
  | few {t s : Int} (h : s ≤ 65536) (h1 : t < 1) : Rd t s 2
  | many {t s : Int} (h : s ≤ 65536) (h1 : 1 ≤ t) (h2 : 16 < t) : Rd t s 2
  | low {t s : Int} (h : s ≤ 65536) (h1 : 1 ≤ t) (h2 : t ≤ 16) (h3 : s < 0) : Rd t s 2
theorem rd_cases (t s : Int) : (∃ e, Rd t s e) ∨ ∃ n : Nat, s = (n : Int) ∧ n ≤ 65536 ∧ 1 ≤ t ∧ t ≤ 16 := by
  by_cases h : 65536 < s
  · exact .inl ⟨3, .long h⟩
  · by_cases h1 : t < 1
    · exact .inl ⟨2, .few (by omega) h1⟩
    · by_cases h2 : 16 < t
      · exact .inl ⟨2, .many (by omega) (by omega) h2⟩
      · by_cases h3 : s < 0
        · exact .inl ⟨2, .low (by omega) (by omega) (by omega) h3⟩
        · exact .inr ⟨s.toNat, by omega, by omega, by omega, by omega⟩
theorem round_no {t s e : Int} (h : Rd t s e) (w : World) :
    Calls Try.prog 6 #[.int .i64 t, .int .i64 s] w fun r w' => r = .returned (.tuple #[.slice none 0 0, .int .i64 e]) ∧ w' = w := by
  cases h with
  | long h =>
    go_enter Try.func6, Try.ntmps6
    go_wp2
    go_ret2
    exact ⟨rfl, rfl⟩
  | few h h1 =>
    go_enter Try.func6, Try.ntmps6
    go_wp2
    go_ret2
    exact ⟨rfl, rfl⟩
  | many h h1 h2 =>
    go_enter Try.func6, Try.ntmps6
    go_wp2
    go_ret2
    exact ⟨rfl, rfl⟩
  | low h h1 h2 h3 =>
    go_enter Try.func6, Try.ntmps6
    go_wp2
    go_ret2
    exact ⟨rfl, rfl⟩
theorem rround_no {t s e : Int} (h : Rd t s e) (w : World) :
    Calls Try.prog 7 #[.int .i64 t, .int .i64 s] w fun r w' => r = .returned (.tuple #[.slice none 0 0, .int .i64 e]) ∧ w' = w := by
  cases h with
  | long h =>
    go_enter Try.func7, Try.ntmps7
    go_wp2
    go_ret2
    exact ⟨rfl, rfl⟩
  | few h h1 =>
    go_enter Try.func7, Try.ntmps7
    go_wp2
    go_ret2
    exact ⟨rfl, rfl⟩
  | many h h1 h2 =>
    go_enter Try.func7, Try.ntmps7
    go_wp2
    go_ret2
    exact ⟨rfl, rfl⟩
  | low h h1 h2 h3 =>
    go_enter Try.func7, Try.ntmps7
    go_wp2
    go_ret2
    exact ⟨rfl, rfl⟩
set_option maxHeartbeats 4000000 in
theorem round_ok (t : Int) (n : Nat) (w : World) (h1 : 1 ≤ t) (h2 : t ≤ 16) (hn : n ≤ 65536) :
    Calls Try.prog 6 #[.int .i64 t, .int .i64 (n : Int)] w fun r w' => ∃ u, r = .returned (.tuple #[u, .int .i64 0]) ∧ Nw w w' u (rdl t n) := by
  have hM := fun W => make_in W n (by omega)
  have hz : (t == 0) = false := by simp; omega
  have hz1 : ¬ t = 0 := by omega
  have hz2 : t ≠ -1 := by omega
  have hN := Mr.hid (nw_make w w (Below.refl _ _) n (by unfold maxLen; omega))
  have hn0 : (0 : Int) ≤ (n : Int) := by omega
  have hn1 : (n : Int) ≤ 65536 := by omega
  go_enter Try.func6, Try.ntmps6
  go_wp2
  go_loopg [24] n (fun k s24 wr => ∃ i : Nat, s24 = .int .i64 (i : Int) ∧ i + k = n ∧ Nw w wr (.slice (some ⟨w.heap.size, 0, none⟩) n n) (rdz t n i))
  case atStart => exact ⟨0, rfl, by omega, by have := hN.out; simpa [rdz, rdl] using this⟩
  case round =>
    clear hN
    obtain ⟨i, rfl, hi, hA⟩ := hrel
    by_cases hlt : i < n
    · obtain ⟨k1, f1, kl⟩ := hA.cell (rdz_get t n i hlt)
      rw [Nat.zero_add] at k1 f1
      have hlI : (i : Int) < (n : Int) := by omega
      have hw1 : IntKind.i64.wrap ((i : Int) + 1) = (i : Int) + 1 := i64x _ (by omega) (by omega)
      have hX := Mr.hid (hA.put (rdz_len t n i (by omega)) hlt ((i : Int) % t))
      rw [rdz_set t n i hlt] at hX
      replace hA := Mr.hid hA
      go_wp2
      go_roundg (gk - 1)
      case measure => omega
      case rel => exact ⟨i + 1, by simp, by omega, hX.out⟩
    · have hin : i = n := by omega
      rw [hin, rdz_end] at hA
      have dl : decide ((i : Int) < (n : Int)) = false := decide_eq_false (by omega)
      have dl2 : decide (i < n) = false := decide_eq_false (by omega)
      replace hA := Mr.hid hA
      clear hin hi
      go_wp2
      go_ret2
      exact ⟨_, rfl, hA.out⟩
set_option maxHeartbeats 4000000 in
theorem rround_ok (t : Int) (n : Nat) (w : World) (h1 : 1 ≤ t) (h2 : t ≤ 16) (hn : n ≤ 65536) :
    Calls Try.prog 7 #[.int .i64 t, .int .i64 (n : Int)] w fun r w' => ∃ u, r = .returned (.tuple #[u, .int .i64 0]) ∧ Nw w w' u (rdl t n) := by
  obtain ⟨i0, hi0, hz0, hz1, hz2⟩ := parts_of wt_int
  have hz : (t == 0) = false := by simp; omega
  have hz1' : ¬ t = 0 := by omega
  have hz2' : t ≠ -1 := by omega
  have hn0 : (0 : Int) ≤ (n : Int) := by omega
  have hn1 : (n : Int) ≤ 65536 := by omega
  go_enter Try.func7, Try.ntmps7
  go_wp2
  go_loopg [6, 7] n (fun k s6 s7 wr => ∃ i : Nat, s7 = .int .i64 (i : Int) ∧ i + k = n ∧ Nw w wr s6 (rdl t i))
  case atStart => exact ⟨0, rfl, by omega, ⟨Below.refl _ _, by simpa [rdl, ints] using Own.zero _ _ _ _ _⟩⟩
  case round =>
    obtain ⟨i, rfl, hi, hA⟩ := hrel
    by_cases hlt : i < n
    · have hlI : (i : Int) < (n : Int) := by omega
      have hw1 : IntKind.i64.wrap ((i : Int) + 1) = (i : Int) + 1 := i64x _ (by omega) (by omega)
      obtain ⟨u, cu, rfl, hcu, hcm⟩ := hA.own.form
      replace hA := Mr.hid hA
      have hll : (rdl t i).length ≤ 65536 := by rw [rdl_len]; omega
      go_wp2_with (at_builtin; refine wpList_append_mine _ rfl (.tmp 25) (.tmp 29) 22 rfl (fun k => w.heap.size ≤ k) 3 i0 _ 1 8 Try.underlying22 hi0 hz0 hz1 hz2 rfl _ (rdl t i).length (ints (rdl t i)) rfl (hA.out.own.below ((Below.refl _ _).alloc (Nat.le_refl _) _)) (some ⟨wr.heap.size, 0, none⟩) 1 1 [.int .i64 ((i : Int) % t)] rfl rfl (fun e => by cases e) (new1 rfl) (by simp [Value.oneCell']) (by unfold maxLen; omega) (by omega) ?_; intro b9 cap9 w9 hown hfr; have hX := Mr.hid (hA.out.app rfl hown hfr); clear hown hfr hA)
      rw [← rdl_succ] at hX
      go_roundg (gk - 1)
      case measure => omega
      case rel => exact ⟨i + 1, by simp, by omega, hX.out⟩
    · have hin : i = n := by omega
      rw [hin] at hA
      have dl : decide ((i : Int) < (n : Int)) = false := decide_eq_false (by omega)
      have dl2 : decide (i < n) = false := decide_eq_false (by omega)
      obtain ⟨u, cu, rfl, hcu, hcm⟩ := hA.own.form
      replace hA := Mr.hid hA
      clear hin hi
      go_wp2
      go_ret2
      exact ⟨_, rfl, hA.out⟩
theorem num_any (x : Int) (w : World) : Calls Try.prog 9 #[.int .i64 x] w fun r w' => r = .returned (.int .i64 x) ∧ w' = w := by
  go_enter Try.func9, Try.ntmps9
  go_wp2
  go_ret
  exact ⟨rfl, rfl⟩
/-- What both answer. -/
theorem round_any (t s : Int) : ∃ (l : List Int) (e : Int), l.length ≤ 65536 ∧ (∀ w, Calls Try.prog 6 #[.int .i64 t, .int .i64 s] w fun r w' => ∃ u, r = .returned (.tuple #[u, .int .i64 e]) ∧ Nw w w' u l) ∧
    (∀ w, Calls Try.prog 7 #[.int .i64 t, .int .i64 s] w fun r w' => ∃ u, r = .returned (.tuple #[u, .int .i64 e]) ∧ Nw w w' u l) := by
  rcases rd_cases t s with ⟨e, h⟩ | ⟨n, rfl, hn, h1, h2⟩
  · refine ⟨[], e, by simp, fun w => (round_no h w).mono ?_, fun w => (rround_no h w).mono ?_⟩
    · rintro r w' ⟨rfl, rfl⟩
      exact ⟨_, rfl, ⟨Below.refl _ _, Own.zero _ _ _ _ _⟩⟩
    · rintro r w' ⟨rfl, rfl⟩
      exact ⟨_, rfl, ⟨Below.refl _ _, Own.zero _ _ _ _ _⟩⟩
  · exact ⟨rdl t n, 0, by rw [rdl_len]; exact hn, fun w => round_ok t n w h1 h2 hn, fun w => rround_ok t n w h1 h2 hn⟩
theorem walk_rounds (t s : Int) (w : World) (_h1 : (Lit.int .i64 t).wf = true) (_h2 : (Lit.int .i64 s).wf = true) :
    Calls Try.prog 3 #[.int .i64 t, .int .i64 s] w fun r w' => r = .returned (.bool true) ∧ Below w.heap.size w w' := by
  obtain ⟨l, e, hl, hP, hR⟩ := round_any t s
  replace hl := Mr.hid hl
  replace hP := Mr.hid hP
  replace hR := Mr.hid hR
  clear _h1 _h2
  go_enter Try.func3, Try.ntmps3
  go_upto_region 2 with (go_at_call 6; refine (hP.out _).mono ?_; rintro r w1 ⟨u, rfl, hu⟩; replace hu := Mr.hid hu)
  go_upto_region 3 with (go_at_call 7; refine (hR.out _).mono ?_; rintro r w2 ⟨v, rfl, hv⟩; replace hv := Mr.hid hv)
  have hS := Mr.hid (sameInts_eq (hu.out.below hv.out.bel).own.sl hv.out.own.sl (by have := hl.out; omega))
  have hB := Mr.hid (hu.out.bel.trans (hv.out.bel.mono hu.out.bel.size))
  go_wp2_with (first | (go_at_call 8; refine hS.out.mono ?_; rintro r w3 ⟨rfl, hB3⟩; replace hB := Mr.hid (hB.out.trans (hB3.mono (hu.out.below hv.out.bel).bel.size)); clear hB3) | (go_at_call 9; refine (num_any _ _).mono ?_; rintro r w4 ⟨rfl, rfl⟩))
  go_ret
  exact ⟨rfl, hB.out⟩
end Go.Proofs.Ytfbneodldlcdjaa.Sh
