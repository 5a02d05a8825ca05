import Derived.Test.YtcomelbphdjnnaaGreatDoorJ15
import Derived.Test.YtcomelbphdjnnaaGreatDoorJ12
/-
  SCRIPT: entry, where something is wrong.
-/
namespace Go.Proofs.YtcomelbphdjnnaaGreatDoor.Sc
open Go.RowKit Mr
set_option linter.unusedVariables false
set_option linter.unusedSimpArgs false
set_option maxRecDepth 100000
/-- A fault as an error. -/
def flt (e : Int) : Value := .iface 77 (.int .i64 e)
set_option maxHeartbeats 8000000 in
theorem entry_form (w0 : World) (R T : Nat) (cf : Cf) (v : Value) (ms : List Mv) (ws : List (List UInt8)) (a : Option Addr) (n c : Nat) (w : World) (E : Env w0) (hB : Below w0.heap.size w0 w) (hR : Rd w0.heap.size R w cf v ms) (hW : WsAt w a n ws) (hg : ∀ x ∈ ws, Gw x) (hn : n ≤ 1048576) (hsz : ∀ x ∈ ws, x.length ≤ 1048576) (hT1 : 1 ≤ T) (h : (mean T ws (numsL ws)).1 = []) :
    Calls Tryz.prog 49 #[.pointer (some ⟨R, 0, none⟩), .slice a n c] w fun e w' => e = .returned (flt 170) ∧ Below w0.heap.size w0 w' := by
  have hNo := Mr.hid (numbersOf_any ws a n c w (E.below hB) hW hn hsz)
  have hMn : Hid (∀ W u, Below w.heap.size w W → Calls Tryz.prog 67 #[.pointer (some ⟨R, 0, none⟩), .slice a n c, u] W fun e w' => e = .returned (.tuple #[.slice none 0 0, .int .i64 1]) ∧ Below W.heap.size W w') := fun W u hBW => meaning_none ws R T a n c u W (hW.below hBW) hn hsz hT1 h
  generalize wholeL ws = wl at *
  have hRl := hR.lt
  replace hB := Mr.hid hB
  clear hR hW hg hsz h E
  go_enter Tryz.func49, Tryz.ntmps49
  go_upto_region 2 with (go_at_call 66; refine hNo.out.mono ?_; clear hNo; rintro e w1 ⟨u, rfl, hu, B1⟩)
  have M1 := Mr.hid (hMn.out w1 u B1)
  have hB1 : Below w0.heap.size w0 w1 := hB.out.trans (B1.mono hB.out.size)
  clear hMn hu hB B1
  go_wp2_with (go_at_call 67; refine M1.out.mono ?_; clear M1; rintro e w2 ⟨rfl, B2⟩; have hB2 : Hid (Below w0.heap.size w0 w2) := hB1.trans (B2.mono hB1.size); clear B2 hB1)
  go_ret
  exact ⟨rfl, hB2.out⟩
set_option maxHeartbeats 8000000 in
theorem entry_bad (w0 : World) (R T : Nat) (cf : Cf) (v : Value) (ms : List Mv) (ws : List (List UInt8)) (a : Option Addr) (n c : Nat) (w : World) (E : Env w0) (hB : Below w0.heap.size w0 w) (hR : Rd w0.heap.size R w cf v ms) (hW : WsAt w a n ws) (hg : ∀ x ∈ ws, Gw x) (hn : n ≤ 1048576) (hsz : ∀ x ∈ ws, x.length ≤ 1048576) (hT : T ≤ 1000) (h0 : cf.c0 = T) (hms : ms.length ≤ 65536) (hne : (mean T ws (numsL ws)).1 ≠ []) (hok : entE T ms ws ≠ 0) :
    Calls Tryz.prog 49 #[.pointer (some ⟨R, 0, none⟩), .slice a n c] w fun e w' => e = .returned (flt (entE T ms ws)) ∧ Below w0.heap.size w0 w' := by
  have hNo := Mr.hid (numbersOf_any ws a n c w (E.below hB) hW hn hsz)
  have hMn : Hid (∀ W u S, Below w.heap.size w W → Has W S 3 1 u (numsL ws).length (ints (numsL ws)) → (mean T ws (numsL ws)).1 ≠ [] → Calls Tryz.prog 67 #[.pointer (some ⟨R, 0, none⟩), .slice a n c, u] W (MnA W (mean T ws (numsL ws)))) := fun W u S hBW hN hne => meaning_ok ws R T a n c u S W (hW.below hBW) hg hn hsz hN hT (by have := (hR.below hBW).cell.1; rw [h0] at this; exact this) (hR.below hBW).lt hne
  have hml := mean_len T ws (numsL ws) hT
  have hE : entE T ms ws = if wholeL ws = false then 171 else if (mean T ws (numsL ws)).2 < 1 ∨ 65536 < (mean T ws (numsL ws)).2 then 2 else 3 := by
    unfold entE at hok ⊢
    rw [if_neg hne] at hok ⊢
    by_cases h1 : wholeL ws = false
    · rw [if_pos h1, if_pos h1]
    · rw [if_neg h1] at hok ⊢
      rw [if_neg h1]
      by_cases h2 : (mean T ws (numsL ws)).2 < 1 ∨ 65536 < (mean T ws (numsL ws)).2
      · rw [if_pos h2, if_pos h2]
      · rw [if_neg h2] at hok ⊢
        rw [if_neg h2]
        by_cases h3 : 65536 < ms.length + (mean T ws (numsL ws)).2.toNat * (mean T ws (numsL ws)).1.length
        · rw [if_pos h3]
        · rw [if_neg h3] at hok; exact absurd rfl hok
  have hD : wholeL ws = true → ¬ ((mean T ws (numsL ws)).2 < 1 ∨ 65536 < (mean T ws (numsL ws)).2) → 65536 < ms.length + (mean T ws (numsL ws)).2.toNat * (mean T ws (numsL ws)).1.length := by
    intro h1 h2
    unfold entE at hok
    rw [if_neg hne, h1, if_neg (by simp), if_neg h2] at hok
    by_cases h3 : 65536 < ms.length + (mean T ws (numsL ws)).2.toNat * (mean T ws (numsL ws)).1.length
    · exact h3
    · rw [if_neg h3] at hok; exact absurd rfl hok
  rw [hE]
  clear hE hok
  generalize hmm : mean T ws (numsL ws) = mt at *
  obtain ⟨mv, tm⟩ := mt
  dsimp only at *
  obtain ⟨m, hm⟩ : ∃ m, mv.length = m := ⟨_, rfl⟩
  have hmp : 0 < m := by rw [← hm]; exact List.length_pos_iff.2 hne
  rw [hm] at hml hD
  have hm' := Mr.hid hm
  have k1 : ((m : Int) == 0) = false := beq_eq_false_iff_ne.2 (by omega)
  have k10 : ¬ m = 0 := by omega
  have hlt := hR.lt
  replace hR := Mr.hid hR
  replace hB := Mr.hid hB
  replace hne := Mr.hid hne
  clear h0 hmm E hW hg hsz hm
  obtain ⟨wl, hwl⟩ : ∃ b, wholeL ws = b := ⟨_, rfl⟩
  rw [hwl] at hNo hD ⊢
  clear hwl
  have key : ∀ (x : Int), (∀ (w1 w2 : World) (u : Value) (g cap : Nat) (av : Option Addr) (cv : Nat), Below w0.heap.size w0 w2 → w2.cell? ⟨R, 7, none⟩ = some (.slice av ms.length cv) → R < w2.heap.size → True) → True := fun _ _ => trivial
  clear key
  cases wl with
  | false =>
    rw [if_pos rfl]
    clear hD
    go_enter Tryz.func49, Tryz.ntmps49
    go_upto_region 2 with (go_at_call 66; refine hNo.out.mono ?_; clear hNo; rintro e w1 ⟨u, rfl, hu, B1⟩)
    have M1 := Mr.hid (hMn.out w1 u _ B1 hu hne.out)
    have hB1 : Below w0.heap.size w0 w1 := hB.out.trans (B1.mono hB.out.size)
    clear hMn hu hR hB B1
    go_upto_region 3 with (go_at_call 67; refine M1.out.mono ?_; clear M1; rintro e w2 ⟨mvv, rfl, hmv, B2⟩)
    have hB2 : Hid (Below w0.heap.size w0 w2) := hB1.trans (B2.mono hB1.size)
    obtain ⟨g, cap, hmvv, -⟩ := hmv.there (by rw [hm'.out]; exact hmp)
    subst hmvv
    rw [hm'.out]
    clear hmv hB1 B2
    go_wp2
    go_ret
    exact ⟨rfl, hB2.out⟩
  | true =>
    rw [if_neg (by simp)]
    replace hD := hD rfl
    by_cases ht : tm < 1 ∨ 65536 < tm
    · rw [if_pos ht]
      clear hD
      by_cases ht1 : tm < 1
      · have k2 : decide (tm < 1) = true := decide_eq_true ht1
        clear ht
        go_enter Tryz.func49, Tryz.ntmps49
        go_upto_region 2 with (go_at_call 66; refine hNo.out.mono ?_; clear hNo; rintro e w1 ⟨u, rfl, hu, B1⟩)
        have M1 := Mr.hid (hMn.out w1 u _ B1 hu hne.out)
        have hB1 : Below w0.heap.size w0 w1 := hB.out.trans (B1.mono hB.out.size)
        clear hMn hu hR hB B1
        go_upto_region 3 with (go_at_call 67; refine M1.out.mono ?_; clear M1; rintro e w2 ⟨mvv, rfl, hmv, B2⟩)
        have hB2 : Hid (Below w0.heap.size w0 w2) := hB1.trans (B2.mono hB1.size)
        obtain ⟨g, cap, hmvv, -⟩ := hmv.there (by rw [hm'.out]; exact hmp)
        subst hmvv
        rw [hm'.out]
        clear hmv hB1 B2
        go_wp2
        go_ret
        exact ⟨rfl, hB2.out⟩
      · have ht2 : (65536 : Int) < tm := by omega
        have k2 : decide (tm < 1) = false := decide_eq_false ht1
        have k3 : decide ((65536 : Int) < tm) = true := decide_eq_true ht2
        clear ht
        go_enter Tryz.func49, Tryz.ntmps49
        go_upto_region 2 with (go_at_call 66; refine hNo.out.mono ?_; clear hNo; rintro e w1 ⟨u, rfl, hu, B1⟩)
        have M1 := Mr.hid (hMn.out w1 u _ B1 hu hne.out)
        have hB1 : Below w0.heap.size w0 w1 := hB.out.trans (B1.mono hB.out.size)
        clear hMn hu hR hB B1
        go_upto_region 3 with (go_at_call 67; refine M1.out.mono ?_; clear M1; rintro e w2 ⟨mvv, rfl, hmv, B2⟩)
        have hB2 : Hid (Below w0.heap.size w0 w2) := hB1.trans (B2.mono hB1.size)
        obtain ⟨g, cap, hmvv, -⟩ := hmv.there (by rw [hm'.out]; exact hmp)
        subst hmvv
        rw [hm'.out]
        clear hmv hB1 B2
        go_wp2
        go_ret
        exact ⟨rfl, hB2.out⟩
    · rw [if_neg ht]
      have hq4 := hD ht
      obtain ⟨t, htt⟩ : ∃ t : Nat, tm = t := ⟨tm.toNat, by omega⟩
      subst htt
      have ett : ((t : Int)).toNat = t := by omega
      rw [ett] at hq4
      obtain ⟨P, hP⟩ : ∃ P, t * m = P := ⟨_, rfl⟩
      have hPI : (t : Int) * (m : Int) = (P : Int) := by rw [← hP]; simp
      have hPb : P ≤ 65536 * 1000 := by rw [← hP]; exact Nat.mul_le_mul (by omega) hml
      rw [hP] at hq4
      have k2 : decide ((t : Int) < 1) = false := decide_eq_false (by omega)
      have k3 : decide ((65536 : Int) < (t : Int)) = false := decide_eq_false (by omega)
      have k4 : IntKind.i64.wrap ((t : Int) * (m : Int)) = (P : Int) := by rw [hPI]; exact i64x _ (by omega) (by omega)
      have k5 : IntKind.i64.wrap ((ms.length : Int) + (P : Int)) = (ms.length : Int) + (P : Int) := i64x _ (by omega) (by omega)
      have k9 : (65536 : Int) < (ms.length : Int) + (P : Int) := by omega
      have k6 : decide ((65536 : Int) < (ms.length : Int) + (P : Int)) = true := decide_eq_true k9
      have k7 : ¬ (t : Int) < 1 := by omega
      have k8 : ¬ (65536 : Int) < (t : Int) := by omega
      replace hq4 := Mr.hid hq4
      replace hPb := Mr.hid hPb
      replace hms := Mr.hid hms
      clear hD ht hP hPI ett
      go_enter Tryz.func49, Tryz.ntmps49
      go_upto_region 2 with (go_at_call 66; refine hNo.out.mono ?_; clear hNo; rintro e w1 ⟨u, rfl, hu, B1⟩)
      have M1 := Mr.hid (hMn.out w1 u _ B1 hu hne.out)
      have hB1 : Below w0.heap.size w0 w1 := hB.out.trans (B1.mono hB.out.size)
      have hR1 := hR.out.below B1
      clear hMn hu hR hB B1
      go_upto_region 3 with (go_at_call 67; refine M1.out.mono ?_; clear M1; rintro e w2 ⟨mvv, rfl, hmv, B2⟩)
      have hB2 : Hid (Below w0.heap.size w0 w2) := hB1.trans (B2.mono hB1.size)
      have hR2 := hR1.below B2
      obtain ⟨g, cap, hmvv, -⟩ := hmv.there (by rw [hm'.out]; exact hmp)
      subst hmvv
      rw [hm'.out]
      obtain ⟨av, cv, rfl, -⟩ := hR2.row.form
      obtain ⟨-, cl7, -⟩ := hR2.cell
      have hRl := hR2.lt
      clear hmv hB1 B2 hR1 hR2
      go_wp2
      go_ret
      exact ⟨rfl, hB2.out⟩
theorem entry_err (w0 : World) (R T : Nat) (cf : Cf) (v : Value) (ms : List Mv) (ws : List (List UInt8)) (a : Option Addr) (n c : Nat) (w : World) (E : Env w0) (hB : Below w0.heap.size w0 w) (hR : Rd w0.heap.size R w cf v ms) (hW : WsAt w a n ws) (hg : ∀ x ∈ ws, Gw x) (hn : n ≤ 1048576) (hsz : ∀ x ∈ ws, x.length ≤ 1048576) (hT1 : 1 ≤ T) (hT : T ≤ 1000) (h0 : cf.c0 = T) (hms : ms.length ≤ 65536) (hok : entE T ms ws ≠ 0) :
    Calls Tryz.prog 49 #[.pointer (some ⟨R, 0, none⟩), .slice a n c] w fun e w' => e = .returned (flt (entE T ms ws)) ∧ Below w0.heap.size w0 w' := by
  by_cases hne : (mean T ws (numsL ws)).1 = []
  · have e : entE T ms ws = 170 := by unfold entE; rw [if_pos hne]
    rw [e]
    exact entry_form w0 R T cf v ms ws a n c w E hB hR hW hg hn hsz hT1 hne
  · exact entry_bad w0 R T cf v ms ws a n c w E hB hR hW hg hn hsz hT h0 hms hne hok
end Go.Proofs.YtcomelbphdjnnaaGreatDoor.Sc
/-
  SCRIPT: the machine's line, where something is wrong.
-/
namespace Go.Proofs.YtcomelbphdjnnaaGreatDoor.Sc
open Go.RowKit Mr
set_option linter.unusedVariables false
set_option linter.unusedSimpArgs false
set_option maxRecDepth 100000
set_option maxHeartbeats 16000000 in
theorem machine_form (w0 : World) (R : Nat) (cf : Cf) (v : Value) (ms : List Mv) (ws : List (List UInt8)) (a : Option Addr) (n c : Nat) (w : World) (E : Env w0) (hB : Below w0.heap.size w0 w) (hW : WsAt w a n ws) (hg : ∀ x ∈ ws, Gw x) (hn : n ≤ 1048576) (hsz : ∀ x ∈ ws, x.length ≤ 1048576) (h : formL ws ≠ fMachine) :
    Calls Tryz.prog 48 #[.pointer (some ⟨R, 0, none⟩), .slice a n c] w fun e w' => e = .returned (flt 170) ∧ Below w0.heap.size w0 w' := by
  have hFo := Mr.hid (formOf_any ws a n c w hW hn hsz)
  have hF1 : ¬ (⟨(formL ws).toArray⟩ : ByteArray).toList = fMachine := by rw [toList_of]; exact h
  have hF2 : ((⟨(formL ws).toArray⟩ : ByteArray).toList == fMachine) = false := beq_eq_false_iff_ne.2 hF1
  unfold fMachine at hF1 hF2
  generalize (⟨(formL ws).toArray⟩ : ByteArray) = F at *
  replace hB := Mr.hid hB
  clear hW hg hsz h E
  go_enter Tryz.func48, Tryz.ntmps48
  go_wp2_with (go_at_call 65; refine hFo.out.mono ?_; clear hFo; rintro e w1 ⟨rfl, B1⟩; have hB1 : Hid (Below w0.heap.size w0 w1) := hB.out.trans (B1.mono hB.out.size); clear B1)
  go_ret
  exact ⟨rfl, hB1.out⟩
set_option maxHeartbeats 16000000 in
theorem machine_digit (w0 : World) (R : Nat) (cf : Cf) (v : Value) (ms : List Mv) (ws : List (List UInt8)) (a : Option Addr) (n c : Nat) (w : World) (E : Env w0) (hB : Below w0.heap.size w0 w) (hW : WsAt w a n ws) (hg : ∀ x ∈ ws, Gw x) (hn : n ≤ 1048576) (hsz : ∀ x ∈ ws, x.length ≤ 1048576) (q1 : formL ws = fMachine) (q2 : wholeL ws = false) :
    Calls Tryz.prog 48 #[.pointer (some ⟨R, 0, none⟩), .slice a n c] w fun e w' => e = .returned (flt 171) ∧ Below w0.heap.size w0 w' := by
  have hFo := Mr.hid (formOf_any ws a n c w hW hn hsz)
  have hNo := Mr.hid (fun W (hBW : Below w.heap.size w W) => numbersOf_any ws a n c W (E.below (hB.trans (hBW.mono hB.size))) (hW.below hBW) hn hsz)
  have hq := (nums_of hg q1).trans fMachine_words
  rw [q1] at hFo
  rw [q2] at hNo
  have hF0 : ¬ (⟨fMachine.toArray⟩ : ByteArray).toList ≠ (⟨fMachine.toArray⟩ : ByteArray).toList := fun h => h rfl
  replace hB := Mr.hid hB
  clear q1 q2 E hW hg hsz
  go_enter Tryz.func48, Tryz.ntmps48
  go_upto_region 3 with (go_at_call 65; refine hFo.out.mono ?_; clear hFo; rintro e w1 ⟨rfl, B1⟩)
  have N1 := Mr.hid (hNo.out w1 B1)
  have hB1 : Hid (Below w0.heap.size w0 w1) := hB.out.trans (B1.mono hB.out.size)
  clear hNo hB B1 hq
  go_wp2_with (go_at_call 66; refine N1.out.mono ?_; clear N1; rintro e w2 ⟨u, rfl, hu, B2⟩; have hB2 : Hid (Below w0.heap.size w0 w2) := hB1.out.trans (B2.mono hB1.out.size); clear B2 hu)
  go_ret
  exact ⟨rfl, hB2.out⟩
set_option maxHeartbeats 16000000 in
theorem machine_cfg (w0 : World) (R : Nat) (cf : Cf) (v : Value) (ms : List Mv) (ws : List (List UInt8)) (a : Option Addr) (n c : Nat) (w : World) (E : Env w0) (hB : Below w0.heap.size w0 w) (hW : WsAt w a n ws) (hg : ∀ x ∈ ws, Gw x) (hn : n ≤ 1048576) (hsz : ∀ x ∈ ws, x.length ≤ 1048576) (q1 : formL ws = fMachine) (q2 : wholeL ws = true) (q3 : cfgC (cfN (numsL ws)) = false) :
    Calls Tryz.prog 48 #[.pointer (some ⟨R, 0, none⟩), .slice a n c] w fun e w' => e = .returned (flt 1) ∧ Below w0.heap.size w0 w' := by
  have hFo := Mr.hid (formOf_any ws a n c w hW hn hsz)
  have hNo := Mr.hid (fun W (hBW : Below w.heap.size w W) => numbersOf_any ws a n c W (E.below (hB.trans (hBW.mono hB.size))) (hW.below hBW) hn hsz)
  have hq := (nums_of hg q1).trans fMachine_words
  rw [q1] at hFo
  rw [q2] at hNo
  have Ck := Mr.hid (fun W => Wc.check_any (cfN (numsL ws)).c0 (cfN (numsL ws)).c1 (cfN (numsL ws)).c2 (cfN (numsL ws)).c3 (cfN (numsL ws)).c4 (cfN (numsL ws)).c5 (cfN (numsL ws)).c6 W)
  have q4 : Wc.chkN (Wc.cfgB (cfN (numsL ws)).c0 (cfN (numsL ws)).c1 (cfN (numsL ws)).c2 (cfN (numsL ws)).c3 (cfN (numsL ws)).c4 (cfN (numsL ws)).c5 (cfN (numsL ws)).c6) = 1 := by unfold cfgC at q3; rw [q3]; rfl
  rw [q4] at Ck
  have hget : Hid (∀ j, j < 7 → (ints (numsL ws))[j]? = some (.int .i64 ((numsL ws).getD j 0))) := fun j hj => by
    simp only [ints, List.getElem?_map, List.getD_eq_getElem?_getD, List.getElem?_eq_getElem (show j < (numsL ws).length by omega)]; rfl
  generalize hcn : cfN (numsL ws) = cn at *
  obtain ⟨n0, n1, n2, n3, n4, n5, n6⟩ := cn
  unfold cfN at hcn
  injection hcn with g0 g1 g2 g3 g4 g5 g6
  have hF0 : ¬ (⟨fMachine.toArray⟩ : ByteArray).toList ≠ (⟨fMachine.toArray⟩ : ByteArray).toList := fun h => h rfl
  replace hB := Mr.hid hB
  have hg0 := Mr.hid (And.intro g0 (And.intro g1 (And.intro g2 (And.intro g3 (And.intro g4 (And.intro g5 g6))))))
  dsimp only at *
  clear q1 q2 q3 q4 E hW hg hsz g0 g1 g2 g3 g4 g5 g6
  go_enter Tryz.func48, Tryz.ntmps48
  go_upto_region 3 with (go_at_call 65; refine hFo.out.mono ?_; clear hFo; rintro e w1 ⟨rfl, B1⟩)
  have N1 := Mr.hid (hNo.out w1 B1)
  clear hNo
  go_upto_region 6 with (go_at_call 66; refine N1.out.mono ?_; clear N1; rintro e w2 ⟨u, rfl, hu, B2⟩)
  obtain ⟨gu, capu, rfl, -, hgu, hcap, -⟩ := hu.there (by omega)
  rw [hq] at hu
  obtain ⟨g0, g1, g2, g3, g4, g5, g6⟩ := hg0.out
  have y0 : w2.cell? ⟨gu, 0, none⟩ = some (.int .i64 n0) := hu.cells (g := gu) rfl 0 _ ((hget.out 0 (by decide)).trans (by rw [g0]))
  have y1 : w2.cell? ⟨gu, 1, none⟩ = some (.int .i64 n1) := hu.cells (g := gu) rfl 1 _ ((hget.out 1 (by decide)).trans (by rw [g1]))
  have y2 : w2.cell? ⟨gu, 2, none⟩ = some (.int .i64 n2) := hu.cells (g := gu) rfl 2 _ ((hget.out 2 (by decide)).trans (by rw [g2]))
  have y3 : w2.cell? ⟨gu, 3, none⟩ = some (.int .i64 n3) := hu.cells (g := gu) rfl 3 _ ((hget.out 3 (by decide)).trans (by rw [g3]))
  have y4 : w2.cell? ⟨gu, 4, none⟩ = some (.int .i64 n4) := hu.cells (g := gu) rfl 4 _ ((hget.out 4 (by decide)).trans (by rw [g4]))
  have y5 : w2.cell? ⟨gu, 5, none⟩ = some (.int .i64 n5) := hu.cells (g := gu) rfl 5 _ ((hget.out 5 (by decide)).trans (by rw [g5]))
  have y6 : w2.cell? ⟨gu, 6, none⟩ = some (.int .i64 n6) := hu.cells (g := gu) rfl 6 _ ((hget.out 6 (by decide)).trans (by rw [g6]))
  have hB2 : Hid (Below w0.heap.size w0 w2) := (hB.out.trans (B1.mono hB.out.size)).trans (B2.mono (Nat.le_trans hB.out.size B1.size))
  have hqI : ((7 : Nat) : Int) = 7 := rfl
  rw [hq]
  clear g0 g1 g2 g3 g4 g5 g6 hg0 hu hget hB B1 B2 hq
  go_region_held3 (fun W => W.cell? ⟨gu, 0, none⟩ = some (.int .i64 n0) ∧ W.cell? ⟨gu, 1, none⟩ = some (.int .i64 n1) ∧ W.cell? ⟨gu, 2, none⟩ = some (.int .i64 n2) ∧ W.cell? ⟨gu, 3, none⟩ = some (.int .i64 n3) ∧ W.cell? ⟨gu, 4, none⟩ = some (.int .i64 n4) ∧ W.cell? ⟨gu, 5, none⟩ = some (.int .i64 n5) ∧ W.cell? ⟨gu, 6, none⟩ = some (.int .i64 n6)) (simp [*, go_sem]) (fail)
  have B3 : Hid (Below w2.heap.size w2 (w2.drew.alloc (.cells #[.int .i64 n0, .int .i64 n1, .int .i64 n2, .int .i64 n3, .int .i64 n4, .int .i64 n5, .int .i64 n6] 23))) := ((Below.refl _ _).drew).alloc (Nat.le_refl _) _
  clear y0 y1 y2 y3 y4 y5 y6
  go_wp2_with (go_at_call 13; refine (Ck.out _).mono ?_; clear Ck; rintro e w4 ⟨rfl, B4⟩; have hB4 : Hid (Below w0.heap.size w0 w4) := hB2.out.trans ((B3.out.trans (B4.mono (by simp))).mono hB2.out.size); clear B4 B3 hB2)
  go_ret
  exact ⟨rfl, hB4.out⟩
theorem machine_err (w0 : World) (R : Nat) (cf : Cf) (v : Value) (ms : List Mv) (ws : List (List UInt8)) (a : Option Addr) (n c : Nat) (w : World) (E : Env w0) (hB : Below w0.heap.size w0 w) (hW : WsAt w a n ws) (hg : ∀ x ∈ ws, Gw x) (hn : n ≤ 1048576) (hsz : ∀ x ∈ ws, x.length ≤ 1048576) (hok : macE ws ≠ 0) :
    Calls Tryz.prog 48 #[.pointer (some ⟨R, 0, none⟩), .slice a n c] w fun e w' => e = .returned (flt (macE ws)) ∧ Below w0.heap.size w0 w' := by
  unfold macE at hok ⊢
  by_cases h1 : formL ws = fMachine
  · rw [if_pos h1] at hok ⊢
    by_cases h2 : wholeL ws = true
    · rw [if_pos h2] at hok ⊢
      by_cases h3 : cfgC (cfN (numsL ws)) = true
      · rw [if_pos h3] at hok; exact absurd rfl hok
      · rw [if_neg h3]
        exact machine_cfg w0 R cf v ms ws a n c w E hB hW hg hn hsz h1 h2 (by simpa using h3)
    · rw [if_neg h2]
      exact machine_digit w0 R cf v ms ws a n c w E hB hW hg hn hsz h1 (by simpa using h2)
  · rw [if_neg h1]
    exact machine_form w0 R cf v ms ws a n c w E hB hW hg hn hsz h1
end Go.Proofs.YtcomelbphdjnnaaGreatDoor.Sc
