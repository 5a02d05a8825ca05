import Derived.Test.YtpknggcgojkjgaaGreatJ08
import Derived.Test.YtpknggcgojkjgaaGreatJ03
import Derived.Test.YtpknggcgojkjgaaGreatJ09
import Derived.Deep.RegionHeld3
import Derived.Shelf.SlSortCmp.WholeK
/-
  Package model: cmp.Compare, rising, byKey, May by their contracts.
-/
namespace Go.Proofs.YtpknggcgojkjgaaGreat.Md
open Go.RowKit Mr
set_option linter.unusedVariables false
set_option linter.unusedSimpArgs false
/-- What cmp.Compare tells. -/
def cmpI (x y : Int) : Int := if x < y then -1 else if y < x then 1 else 0
theorem cmpI_lt {x y : Int} (h : x < y) : cmpI x y = -1 := if_pos h
theorem cmpI_gt {x y : Int} (h : y < x) : cmpI x y = 1 := by unfold cmpI; rw [if_neg (by omega), if_pos h]
theorem cmpI_eq (x : Int) : cmpI x x = 0 := by unfold cmpI; rw [if_neg (by omega), if_neg (by omega)]
theorem cmpI_neg (x y : Int) : decide (cmpI x y < 0) = decide (x < y) := by
  rcases Int.lt_trichotomy x y with h | rfl | h
  · rw [cmpI_lt h]; simp [h]
  · rw [cmpI_eq]; simp
  · rw [cmpI_gt h]; simp; omega
set_option maxHeartbeats 1000000 in
theorem compare_any (x y : Int) (w : World) : Calls Tryz.prog 93 #[.int .i64 x, .int .i64 y] w fun e w' => e = .returned (.int .i64 (cmpI x y)) ∧ w' = w := by
  rcases Int.lt_trichotomy x y with h | rfl | h
  · rw [cmpI_lt h]
    go_enter Tryz.func93, Tryz.ntmps93
    go_wp2
    go_ret
    exact ⟨rfl, rfl⟩
  · rw [cmpI_eq]
    go_enter Tryz.func93, Tryz.ntmps93
    go_wp2
    go_ret
    exact ⟨rfl, rfl⟩
  · rw [cmpI_gt h]
    have h' : ¬ x < y := by omega
    go_enter Tryz.func93, Tryz.ntmps93
    go_wp2
    go_ret
    exact ⟨rfl, rfl⟩
end Go.Proofs.YtpknggcgojkjgaaGreat.Md
/-
  CENSUS: how two events are held against each other.
-/
namespace Go.Proofs.YtpknggcgojkjgaaGreat.Cn
open Go.RowKit Mr Md
set_option linter.unusedVariables false
set_option linter.unusedSimpArgs false
set_option maxRecDepth 100000
set_option maxHeartbeats 1000000 in
theorem compareK_any (x y : Int) (w : World) : Calls Tryz.prog 117 #[.int .i64 x, .int .i64 y] w fun e w' => e = .returned (.int .i64 (cmpI x y)) ∧ w' = w := by
  rcases Int.lt_trichotomy x y with h | rfl | h
  · rw [cmpI_lt h]
    go_enter Tryz.func117, Tryz.ntmps117
    go_wp2
    go_ret
    exact ⟨rfl, rfl⟩
  · rw [cmpI_eq]
    go_enter Tryz.func117, Tryz.ntmps117
    go_wp2
    go_ret
    exact ⟨rfl, rfl⟩
  · rw [cmpI_gt h]
    have h' : ¬ x < y := by omega
    go_enter Tryz.func117, Tryz.ntmps117
    go_wp2
    go_ret
    exact ⟨rfl, rfl⟩
/-- The first one that is not 0. -/
def nz : List Int → Int
  | [] => 0
  | x :: l => if x = 0 then nz l else x
set_option maxHeartbeats 4000000 in
theorem or_any {w : World} {T : Nat → Prop} {v : Value} {l : List Int} (hv : Sl w T 1 v l.length (ints l)) (hn : l.length < 1000) : Calls Tryz.prog 116 #[v] w fun e w' => e = .returned (.int .i64 (nz l)) ∧ w' = w := by
  obtain ⟨a, cap, rfl, hcap⟩ := hv.form
  obtain ⟨n, hnn⟩ : ∃ n, n = l.length := ⟨_, rfl⟩
  rw [← hnn] at hv hn ⊢
  replace hv := Mr.hid hv
  replace hnn := Mr.hid hnn
  clear hcap
  obtain ⟨r, hr⟩ : ∃ r, r = nz l := ⟨_, rfl⟩
  rw [← hr]
  replace hr := Mr.hid hr
  go_enter Tryz.func116, Tryz.ntmps116
  go_wp2
  go_loopg [8] n (fun gk s8 wr => ∃ i : Nat, s8 = .int .i64 (i : Int) ∧ i + gk = n ∧ Hid (nz (l.drop i) = nz l) ∧ wr = w)
  case atStart => exact ⟨0, rfl, by omega, Mr.hid rfl, rfl⟩
  case round =>
    obtain ⟨i, rfl, hi, hz, rfl⟩ := hrel
    by_cases hlt : i < n
    · have hli : i < l.length := by have := hnn.out; omega
      obtain ⟨g1, o1, c1, e1, _, _, hl1, r1⟩ := hv.out.there (by omega)
      cases e1
      have k1 := r1 i _ (ints_get l i hli)
      have hdr : l.drop i = l[i]?.getD 0 :: l.drop (i + 1) := by rw [List.getElem?_eq_getElem hli]; simp
      have hlI : (i : Int) < (n : Int) := by omega
      clear r1
      rw [hdr] at hz
      clear hdr
      generalize l[i]?.getD 0 = q at *
      by_cases hq : q = 0
      · have q1 : (q != 0) = false := by simp [hq]
        have q2 : (q == 0) = true := by simp [hq]
        replace hq := Mr.hid hq
        go_wp2
        go_roundg (gk - 1)
        case measure => omega
        case rel => exact ⟨i + 1, by simp, by omega, Mr.hid (by have := hz.out; rw [nz, if_pos hq.out] at this; exact this), rfl⟩
      · have q1 : (q != 0) = true := by simp [hq]
        have q2 : (q == 0) = false := by simp [hq]
        replace hq := Mr.hid hq
        go_wp2
        go_ret
        have := hz.out
        rw [nz, if_neg hq.out] at this
        exact ⟨by rw [hr.out, ← this]; rfl, rfl⟩
    · have q1 : decide ((i : Int) < (n : Int)) = false := decide_eq_false (by omega)
      have q2 : decide (i < n) = false := decide_eq_false hlt
      go_wp2
      go_ret
      have := hz.out
      rw [List.drop_of_length_le (by have := hnn.out; omega)] at this
      exact ⟨by rw [hr.out, ← this]; rfl, rfl⟩
def cmpE (a b : Ev) : Int := nz [cmpI a.mv b.mv, cmpI a.kd b.kd, cmpI a.nb b.nb]
end Go.Proofs.YtpknggcgojkjgaaGreat.Cn
