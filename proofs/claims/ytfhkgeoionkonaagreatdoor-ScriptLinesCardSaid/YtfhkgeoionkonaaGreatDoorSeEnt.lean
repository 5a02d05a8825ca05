/-
  SCRIPT: entry, where something is wrong.
-/
import Derived.Test.YtfhkgeoionkonaaGreatDoorSeCall
namespace Go.Proofs.YtfhkgeoionkonaaGreatDoor.Sc
open Go.RowKit Mr
set_option linter.unusedVariables false
set_option linter.unusedSimpArgs false
set_option maxRecDepth 100000
/-- A fault as an error. -/
def flt (e : Int) : Value := .iface 63 (.int .i64 e)
set_option maxHeartbeats 8000000 in
theorem entry_form (w0 : World) (R T : Nat) (cf : Cf) (v : Value) (ms : List Mv) (ws : List (List UInt8)) (a : Option Addr) (n c : Nat) (w : World) (E : Env w0) (hB : Below w0.heap.size w0 w) (hR : Rd w0.heap.size R w cf v ms) (hW : WsAt w a n ws) (hg : ∀ x ∈ ws, Gw x) (hn : n ≤ 1048576) (hsz : ∀ x ∈ ws, x.length ≤ 1048576) (hT1 : 1 ≤ T) (h : (mean T ws (numsL ws)).1 = []) :
    Calls Tryz.prog 41 #[.pointer (some ⟨R, 0, none⟩), .slice a n c] w fun e w' => e = .returned (flt 170) ∧ Below w0.heap.size w0 w' := by
  have hNo := Mr.hid (numbersOf_any ws a n c w (E.below hB) hW hn hsz)
  have hMn : Hid (∀ W u, Below w.heap.size w W → Calls Tryz.prog 55 #[.pointer (some ⟨R, 0, none⟩), .slice a n c, u] W fun e w' => e = .returned (.tuple #[.slice none 0 0, .int .i64 1]) ∧ Below W.heap.size W w') := fun W u hBW => meaning_none ws R T a n c u W (hW.below hBW) hn hsz hT1 h
  generalize wholeL ws = wl at *
  have hRl := hR.lt
  replace hB := Mr.hid hB
  clear hR hW hg hsz h E
  go_enter Tryz.func41, Tryz.ntmps41
  go_upto_region 2 with (go_at_call 54; refine hNo.out.mono ?_; clear hNo; rintro e w1 ⟨u, rfl, hu, B1⟩)
  have M1 := Mr.hid (hMn.out w1 u B1)
  have hB1 : Below w0.heap.size w0 w1 := hB.out.trans (B1.mono hB.out.size)
  clear hMn hu hB B1
  go_wp2_with (go_at_call 55; refine M1.out.mono ?_; clear M1; rintro e w2 ⟨rfl, B2⟩; have hB2 : Hid (Below w0.heap.size w0 w2) := hB1.trans (B2.mono hB1.size); clear B2 hB1)
  go_ret
  exact ⟨rfl, hB2.out⟩
set_option maxHeartbeats 8000000 in
theorem entry_bad (w0 : World) (R T : Nat) (cf : Cf) (v : Value) (ms : List Mv) (ws : List (List UInt8)) (a : Option Addr) (n c : Nat) (w : World) (E : Env w0) (hB : Below w0.heap.size w0 w) (hR : Rd w0.heap.size R w cf v ms) (hW : WsAt w a n ws) (hg : ∀ x ∈ ws, Gw x) (hn : n ≤ 1048576) (hsz : ∀ x ∈ ws, x.length ≤ 1048576) (hT : T ≤ 1000) (h0 : cf.c0 = T) (hms : ms.length ≤ 65536) (hne : (mean T ws (numsL ws)).1 ≠ []) (hok : entE T ms ws ≠ 0) :
    Calls Tryz.prog 41 #[.pointer (some ⟨R, 0, none⟩), .slice a n c] w fun e w' => e = .returned (flt (entE T ms ws)) ∧ Below w0.heap.size w0 w' := by
  have hNo := Mr.hid (numbersOf_any ws a n c w (E.below hB) hW hn hsz)
  have hMn : Hid (∀ W u S, Below w.heap.size w W → Has W S 3 1 u (numsL ws).length (ints (numsL ws)) → (mean T ws (numsL ws)).1 ≠ [] → Calls Tryz.prog 55 #[.pointer (some ⟨R, 0, none⟩), .slice a n c, u] W (MnA W (mean T ws (numsL ws)))) := fun W u S hBW hN hne => meaning_ok ws R T a n c u S W (hW.below hBW) hg hn hsz hN hT (by have := (hR.below hBW).cell.1; rw [h0] at this; exact this) (hR.below hBW).lt hne
  have hml := mean_len T ws (numsL ws) hT
  have hE : entE T ms ws = if wholeL ws = false then 171 else if (mean T ws (numsL ws)).2 < 1 ∨ 65536 < (mean T ws (numsL ws)).2 then 2 else 3 := by
    unfold entE at hok ⊢
    rw [if_neg hne] at hok ⊢
    by_cases h1 : wholeL ws = false
    · rw [if_pos h1, if_pos h1]
    · rw [if_neg h1] at hok ⊢
      rw [if_neg h1]
      by_cases h2 : (mean T ws (numsL ws)).2 < 1 ∨ 65536 < (mean T ws (numsL ws)).2
      · rw [if_pos h2, if_pos h2]
      · rw [if_neg h2] at hok ⊢
        rw [if_neg h2]
        by_cases h3 : 65536 < ms.length + (mean T ws (numsL ws)).2.toNat * (mean T ws (numsL ws)).1.length
        · rw [if_pos h3]
        · rw [if_neg h3] at hok; exact absurd rfl hok
  have hD : wholeL ws = true → ¬ ((mean T ws (numsL ws)).2 < 1 ∨ 65536 < (mean T ws (numsL ws)).2) → 65536 < ms.length + (mean T ws (numsL ws)).2.toNat * (mean T ws (numsL ws)).1.length := by
    intro h1 h2
    unfold entE at hok
    rw [if_neg hne, h1, if_neg (by simp), if_neg h2] at hok
    by_cases h3 : 65536 < ms.length + (mean T ws (numsL ws)).2.toNat * (mean T ws (numsL ws)).1.length
    · exact h3
    · rw [if_neg h3] at hok; exact absurd rfl hok
  rw [hE]
  clear hE hok
  generalize hmm : mean T ws (numsL ws) = mt at *
  obtain ⟨mv, tm⟩ := mt
  dsimp only at *
  obtain ⟨m, hm⟩ : ∃ m, mv.length = m := ⟨_, rfl⟩
  have hmp : 0 < m := by rw [← hm]; exact List.length_pos_iff.2 hne
  rw [hm] at hml hD
  have hm' := Mr.hid hm
  have k1 : ((m : Int) == 0) = false := beq_eq_false_iff_ne.2 (by omega)
  have k10 : ¬ m = 0 := by omega
  have hlt := hR.lt
  replace hR := Mr.hid hR
  replace hB := Mr.hid hB
  replace hne := Mr.hid hne
  clear h0 hmm E hW hg hsz hm
  obtain ⟨wl, hwl⟩ : ∃ b, wholeL ws = b := ⟨_, rfl⟩
  rw [hwl] at hNo hD ⊢
  clear hwl
  have key : ∀ (x : Int), (∀ (w1 w2 : World) (u : Value) (g cap : Nat) (av : Option Addr) (cv : Nat), Below w0.heap.size w0 w2 → w2.cell? ⟨R, 7, none⟩ = some (.slice av ms.length cv) → R < w2.heap.size → True) → True := fun _ _ => trivial
  clear key
  cases wl with
  | false =>
    rw [if_pos rfl]
    clear hD
    go_enter Tryz.func41, Tryz.ntmps41
    go_upto_region 2 with (go_at_call 54; refine hNo.out.mono ?_; clear hNo; rintro e w1 ⟨u, rfl, hu, B1⟩)
    have M1 := Mr.hid (hMn.out w1 u _ B1 hu hne.out)
    have hB1 : Below w0.heap.size w0 w1 := hB.out.trans (B1.mono hB.out.size)
    clear hMn hu hR hB B1
    go_upto_region 3 with (go_at_call 55; refine M1.out.mono ?_; clear M1; rintro e w2 ⟨mvv, rfl, hmv, B2⟩)
    have hB2 : Hid (Below w0.heap.size w0 w2) := hB1.trans (B2.mono hB1.size)
    obtain ⟨g, cap, hmvv, -⟩ := hmv.there (by rw [hm'.out]; exact hmp)
    subst hmvv
    rw [hm'.out]
    clear hmv hB1 B2
    go_wp2
    go_ret
    exact ⟨rfl, hB2.out⟩
  | true =>
    rw [if_neg (by simp)]
    replace hD := hD rfl
    by_cases ht : tm < 1 ∨ 65536 < tm
    · rw [if_pos ht]
      clear hD
      by_cases ht1 : tm < 1
      · have k2 : decide (tm < 1) = true := decide_eq_true ht1
        clear ht
        go_enter Tryz.func41, Tryz.ntmps41
        go_upto_region 2 with (go_at_call 54; refine hNo.out.mono ?_; clear hNo; rintro e w1 ⟨u, rfl, hu, B1⟩)
        have M1 := Mr.hid (hMn.out w1 u _ B1 hu hne.out)
        have hB1 : Below w0.heap.size w0 w1 := hB.out.trans (B1.mono hB.out.size)
        clear hMn hu hR hB B1
        go_upto_region 3 with (go_at_call 55; refine M1.out.mono ?_; clear M1; rintro e w2 ⟨mvv, rfl, hmv, B2⟩)
        have hB2 : Hid (Below w0.heap.size w0 w2) := hB1.trans (B2.mono hB1.size)
        obtain ⟨g, cap, hmvv, -⟩ := hmv.there (by rw [hm'.out]; exact hmp)
        subst hmvv
        rw [hm'.out]
        clear hmv hB1 B2
        go_wp2
        go_ret
        exact ⟨rfl, hB2.out⟩
      · have ht2 : (65536 : Int) < tm := by omega
        have k2 : decide (tm < 1) = false := decide_eq_false ht1
        have k3 : decide ((65536 : Int) < tm) = true := decide_eq_true ht2
        clear ht
        go_enter Tryz.func41, Tryz.ntmps41
        go_upto_region 2 with (go_at_call 54; refine hNo.out.mono ?_; clear hNo; rintro e w1 ⟨u, rfl, hu, B1⟩)
        have M1 := Mr.hid (hMn.out w1 u _ B1 hu hne.out)
        have hB1 : Below w0.heap.size w0 w1 := hB.out.trans (B1.mono hB.out.size)
        clear hMn hu hR hB B1
        go_upto_region 3 with (go_at_call 55; refine M1.out.mono ?_; clear M1; rintro e w2 ⟨mvv, rfl, hmv, B2⟩)
        have hB2 : Hid (Below w0.heap.size w0 w2) := hB1.trans (B2.mono hB1.size)
        obtain ⟨g, cap, hmvv, -⟩ := hmv.there (by rw [hm'.out]; exact hmp)
        subst hmvv
        rw [hm'.out]
        clear hmv hB1 B2
        go_wp2
        go_ret
        exact ⟨rfl, hB2.out⟩
    · rw [if_neg ht]
      have hq4 := hD ht
      obtain ⟨t, htt⟩ : ∃ t : Nat, tm = t := ⟨tm.toNat, by omega⟩
      subst htt
      have ett : ((t : Int)).toNat = t := by omega
      rw [ett] at hq4
      obtain ⟨P, hP⟩ : ∃ P, t * m = P := ⟨_, rfl⟩
      have hPI : (t : Int) * (m : Int) = (P : Int) := by rw [← hP]; simp
      have hPb : P ≤ 65536 * 1000 := by rw [← hP]; exact Nat.mul_le_mul (by omega) hml
      rw [hP] at hq4
      have k2 : decide ((t : Int) < 1) = false := decide_eq_false (by omega)
      have k3 : decide ((65536 : Int) < (t : Int)) = false := decide_eq_false (by omega)
      have k4 : IntKind.i64.wrap ((t : Int) * (m : Int)) = (P : Int) := by rw [hPI]; exact i64x _ (by omega) (by omega)
      have k5 : IntKind.i64.wrap ((ms.length : Int) + (P : Int)) = (ms.length : Int) + (P : Int) := i64x _ (by omega) (by omega)
      have k9 : (65536 : Int) < (ms.length : Int) + (P : Int) := by omega
      have k6 : decide ((65536 : Int) < (ms.length : Int) + (P : Int)) = true := decide_eq_true k9
      have k7 : ¬ (t : Int) < 1 := by omega
      have k8 : ¬ (65536 : Int) < (t : Int) := by omega
      replace hq4 := Mr.hid hq4
      replace hPb := Mr.hid hPb
      replace hms := Mr.hid hms
      clear hD ht hP hPI ett
      go_enter Tryz.func41, Tryz.ntmps41
      go_upto_region 2 with (go_at_call 54; refine hNo.out.mono ?_; clear hNo; rintro e w1 ⟨u, rfl, hu, B1⟩)
      have M1 := Mr.hid (hMn.out w1 u _ B1 hu hne.out)
      have hB1 : Below w0.heap.size w0 w1 := hB.out.trans (B1.mono hB.out.size)
      have hR1 := hR.out.below B1
      clear hMn hu hR hB B1
      go_upto_region 3 with (go_at_call 55; refine M1.out.mono ?_; clear M1; rintro e w2 ⟨mvv, rfl, hmv, B2⟩)
      have hB2 : Hid (Below w0.heap.size w0 w2) := hB1.trans (B2.mono hB1.size)
      have hR2 := hR1.below B2
      obtain ⟨g, cap, hmvv, -⟩ := hmv.there (by rw [hm'.out]; exact hmp)
      subst hmvv
      rw [hm'.out]
      obtain ⟨av, cv, rfl, -⟩ := hR2.row.form
      obtain ⟨-, cl7, -⟩ := hR2.cell
      have hRl := hR2.lt
      clear hmv hB1 B2 hR1 hR2
      go_wp2
      go_ret
      exact ⟨rfl, hB2.out⟩
theorem entry_err (w0 : World) (R T : Nat) (cf : Cf) (v : Value) (ms : List Mv) (ws : List (List UInt8)) (a : Option Addr) (n c : Nat) (w : World) (E : Env w0) (hB : Below w0.heap.size w0 w) (hR : Rd w0.heap.size R w cf v ms) (hW : WsAt w a n ws) (hg : ∀ x ∈ ws, Gw x) (hn : n ≤ 1048576) (hsz : ∀ x ∈ ws, x.length ≤ 1048576) (hT1 : 1 ≤ T) (hT : T ≤ 1000) (h0 : cf.c0 = T) (hms : ms.length ≤ 65536) (hok : entE T ms ws ≠ 0) :
    Calls Tryz.prog 41 #[.pointer (some ⟨R, 0, none⟩), .slice a n c] w fun e w' => e = .returned (flt (entE T ms ws)) ∧ Below w0.heap.size w0 w' := by
  by_cases hne : (mean T ws (numsL ws)).1 = []
  · have e : entE T ms ws = 170 := by unfold entE; rw [if_pos hne]
    rw [e]
    exact entry_form w0 R T cf v ms ws a n c w E hB hR hW hg hn hsz hT1 hne
  · exact entry_bad w0 R T cf v ms ws a n c w E hB hR hW hg hn hsz hT h0 hms hne hok
end Go.Proofs.YtfhkgeoionkonaaGreatDoor.Sc
