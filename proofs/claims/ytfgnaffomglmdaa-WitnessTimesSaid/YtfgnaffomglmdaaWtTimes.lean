/-
  WitnessTimes: the walk.
-/
import Derived.Test.YtfgnaffomglmdaaWtBefore
import Derived.Test.YtfgnaffomglmdaaWtWidth
import Derived.Test.YtfgnaffomglmdaaWtRwidth
import Derived.Test.YtfgnaffomglmdaaWtTwin
namespace Go.Proofs.Ytfgnaffomglmdaa.Wt
open Go.RowKit Mr Md
set_option linter.unusedVariables false
set_option linter.unusedSimpArgs false
set_option maxRecDepth 100000
/-- What the law's loops keep: the twin as it was made. -/
structure Tk (W w : World) (a : Option Addr) (cap : Nat) (cs : List Cq) : Prop where
  bel : Below W.heap.size W w
  tw : Sl w (fun k => W.heap.size ≤ k) 9 (.slice a (cs.length + 1) cap) (cs.length + 1) (cqs (cs ++ [mk77]))
theorem Tk.next {W w w' : World} {a : Option Addr} {cap : Nat} {cs : List Cq} (h : Tk W w a cap cs) (hB : Below w.heap.size w w') : Tk W w' a cap cs := ⟨h.bel.trans (hB.mono h.bel.size), h.tw.below hB⟩
set_option maxHeartbeats 16000000 in
theorem walk_times (v : Value) (i j : Int) (cs : List Cq) (W : World) (hv : Sl W (fun _ => True) 9 v cs.length (cqs cs)) (hsm : cs.length * 72 ≤ 140737488351232) :
    Calls Try.prog 4 #[v, .int .i64 i, .int .i64 j] W fun e w' => e = .returned (.bool true) ∧ Below W.heap.size W w' := by
  have hsm2 : cs.length * 72 ≤ 281474976710656 := by omega
  have TW := twin_any hv hsm
  have BB := fun w' a cap (h : Tk W w' a cap cs) (i j : Int) => lawBefore_any (sl_cut h.tw) (hv.below h.bel) hsm2 i j
  have RM := fun w' (hB : Below W.heap.size W w') => rMay_any (hv.below hB) hsm2
  have RW := fun w' (hB : Below W.heap.size W w') => rWidth_any (hv.below hB) hsm2
  have WN := fun hm w' a cap (h : Tk W w' a cap cs) => width_no (sl_cut h.tw) hsm2 hm
  have WA := fun hm w' a cap (h : Tk W w' a cap cs) => width_any (sl_cut h.tw) hsm2 hm
  have US := fun w' a cap (h : Tk W w' a cap cs) => unspoilt_any h.tw (hv.below h.bel) hsm
  have NN := fun e w => num_any e w
  obtain ⟨av, cv, rfl, hcv⟩ := hv.form
  obtain ⟨n, hn⟩ : ∃ n, n = cs.length := ⟨_, rfl⟩
  rw [← hn] at hsm hcv RM RW TW US BB WA ⊢
  replace WN : Hid (¬ MayC cs → ∀ w' a cap, Tk W w' a cap cs → Calls Try.prog 11 #[.slice a n cap] w' fun e w'' => e = .returned (.tuple #[.int .i64 0, .int .i64 120]) ∧ Below w'.heap.size w' w'') := by rw [hn]; exact WN
  replace TW := Mr.hid TW
  replace BB := Mr.hid BB
  replace RM := Mr.hid RM
  replace RW := Mr.hid RW
  replace WA := Mr.hid WA
  replace US := Mr.hid US
  replace NN := Mr.hid NN
  replace hn := Mr.hid hn
  clear hv hsm2
  go_enter Try.func4, Try.ntmps4
  go_wp2_with (go_at_call 6; refine TW.out.mono ?_; clear TW; rintro e w1 ⟨a, cap, rfl, hown, hB1⟩; have hK : Hid (Tk W w1 a cap cs) := ⟨hB1, by have := hown.sl; rw [hn.out] at this; exact this⟩; clear hown hB1)
  go_loopg [8] 13 (fun k s8 wr => ∃ p : Int, s8 = .int .i64 p ∧ -1 ≤ p ∧ p ≤ 12 ∧ k = (12 - p).toNat ∧ Tk W wr a cap cs)
  case atStart => exact ⟨-1, rfl, by omega, by omega, by decide, hK.out⟩
  case round =>
    clear hK
    obtain ⟨p, rfl, hp0, hp1, hk, hK⟩ := hrel
    have hw1 : IntKind.i64.wrap (p + 1) = p + 1 := i64x _ (by omega) (by omega)
    replace hK := Mr.hid hK
    by_cases hc : p ≤ (n : Int) ∧ p < 12
    · obtain ⟨hc1, hc2⟩ := hc
      go_wp2
      go_loopg [9] 13 (fun k s9 wr => ∃ q : Int, s9 = .int .i64 q ∧ -1 ≤ q ∧ q ≤ 12 ∧ k = (12 - q).toNat ∧ Tk W wr a cap cs)
      case atStart => exact ⟨-1, rfl, by omega, by omega, by decide, hK.out⟩
      case round =>
        clear hK
        obtain ⟨q, rfl, hq0, hq1, hk2, hK⟩ := hrel
        have hw2 : IntKind.i64.wrap (q + 1) = q + 1 := i64x _ (by omega) (by omega)
        replace hK := Mr.hid hK
        by_cases hd : q ≤ (n : Int) ∧ q < 12
        · obtain ⟨hd1, hd2⟩ := hd
          go_wp2_with (go_at_call 10; refine (BB.out _ _ _ hK.out p q).mono ?_; rintro e w2 ⟨rfl, hB2⟩; replace hK := Mr.hid (hK.out.next hB2); clear hB2)
          go_roundg (gk - 1)
          case measure => omega
          case rel => exact ⟨q + 1, rfl, by omega, by omega, by omega, hK.out⟩
        · by_cases hd1 : q ≤ (n : Int)
          · have hd2 : decide (q < 12) = false := decide_eq_false (fun h => hd ⟨hd1, h⟩)
            clear hd
            go_wp2
            go_roundg (12 - (p + 1)).toNat
            case measure => omega
            case rel => exact ⟨p + 1, rfl, by omega, by omega, rfl, hK.out⟩
          · have hd2 : decide (q ≤ (n : Int)) = false := decide_eq_false hd1
            clear hd hd1
            go_wp2
            go_roundg (12 - (p + 1)).toNat
            case measure => omega
            case rel => exact ⟨p + 1, rfl, by omega, by omega, rfl, hK.out⟩
    · have hdec : decide (p ≤ (n : Int)) = false ∨ (p ≤ (n : Int) ∧ decide (p < 12) = false) := by
        by_cases h1 : p ≤ (n : Int)
        · exact .inr ⟨h1, decide_eq_false (fun h => hc ⟨h1, h⟩)⟩
        · exact .inl (decide_eq_false h1)
      clear hc
      by_cases hm : MayC cs
      · have WD := WA.out hm
        replace RM := RM.out
        rw [mayB_true hm] at RM
        replace RM := Mr.hid RM
        replace WD := Mr.hid WD
        have z1 : (((wid cs n : Nat) : Int) == ((wid cs n : Nat) : Int)) = true := by simp
        generalize wid cs n = wd at *
        clear WA WN hm
        rcases hdec with hd | ⟨hd1, hd⟩
        · go_wp2_with (first
            | (go_at_call 11; refine (WD.out _ _ _ hK.out).mono ?_; clear WD; rintro e w2 ⟨rfl, hB2⟩; replace hK := Mr.hid (hK.out.next hB2); clear hB2)
            | (go_at_call 8; refine (RM.out _ hK.out.bel).mono ?_; clear RM; rintro e w3 ⟨rfl, hB2⟩; replace hK := Mr.hid (hK.out.next hB2); clear hB2)
            | (go_at_call 12; refine (RW.out _ hK.out.bel).mono ?_; clear RW; rintro e w4 ⟨rfl, hB2⟩; replace hK := Mr.hid (hK.out.next hB2); clear hB2)
            | (go_at_call 10; refine (BB.out _ _ _ hK.out i j).mono ?_; clear BB; rintro e w5 ⟨rfl, hB2⟩; replace hK := Mr.hid (hK.out.next hB2); clear hB2)
            | (go_at_call 13; refine (NN.out _ _).mono ?_; rintro e w6 ⟨rfl, rfl⟩)
            | (go_at_call 9; refine (US.out _ _ _ hK.out).mono ?_; clear US; rintro e w7 ⟨rfl, hB2⟩; replace hK := Mr.hid (hK.out.next hB2); clear hB2))
          go_ret
          exact ⟨rfl, hK.out.bel⟩
        · go_wp2_with (first
            | (go_at_call 11; refine (WD.out _ _ _ hK.out).mono ?_; clear WD; rintro e w2 ⟨rfl, hB2⟩; replace hK := Mr.hid (hK.out.next hB2); clear hB2)
            | (go_at_call 8; refine (RM.out _ hK.out.bel).mono ?_; clear RM; rintro e w3 ⟨rfl, hB2⟩; replace hK := Mr.hid (hK.out.next hB2); clear hB2)
            | (go_at_call 12; refine (RW.out _ hK.out.bel).mono ?_; clear RW; rintro e w4 ⟨rfl, hB2⟩; replace hK := Mr.hid (hK.out.next hB2); clear hB2)
            | (go_at_call 10; refine (BB.out _ _ _ hK.out i j).mono ?_; clear BB; rintro e w5 ⟨rfl, hB2⟩; replace hK := Mr.hid (hK.out.next hB2); clear hB2)
            | (go_at_call 13; refine (NN.out _ _).mono ?_; rintro e w6 ⟨rfl, rfl⟩)
            | (go_at_call 9; refine (US.out _ _ _ hK.out).mono ?_; clear US; rintro e w7 ⟨rfl, hB2⟩; replace hK := Mr.hid (hK.out.next hB2); clear hB2))
          go_ret
          exact ⟨rfl, hK.out.bel⟩
      · have WD := WN.out hm
        replace RM := RM.out
        rw [mayB_false hm] at RM
        replace RM := Mr.hid RM
        replace WD := Mr.hid WD
        clear WA WN hm RW
        rcases hdec with hd | ⟨hd1, hd⟩
        · go_wp2_with (first
            | (go_at_call 11; refine (WD.out _ _ _ hK.out).mono ?_; clear WD; rintro e w2 ⟨rfl, hB2⟩; replace hK := Mr.hid (hK.out.next hB2); clear hB2)
            | (go_at_call 8; refine (RM.out _ hK.out.bel).mono ?_; clear RM; rintro e w3 ⟨rfl, hB2⟩; replace hK := Mr.hid (hK.out.next hB2); clear hB2)
            | (go_at_call 10; refine (BB.out _ _ _ hK.out i j).mono ?_; clear BB; rintro e w5 ⟨rfl, hB2⟩; replace hK := Mr.hid (hK.out.next hB2); clear hB2)
            | (go_at_call 13; refine (NN.out _ _).mono ?_; rintro e w6 ⟨rfl, rfl⟩)
            | (go_at_call 9; refine (US.out _ _ _ hK.out).mono ?_; clear US; rintro e w7 ⟨rfl, hB2⟩; replace hK := Mr.hid (hK.out.next hB2); clear hB2))
          go_ret
          exact ⟨rfl, hK.out.bel⟩
        · go_wp2_with (first
            | (go_at_call 11; refine (WD.out _ _ _ hK.out).mono ?_; clear WD; rintro e w2 ⟨rfl, hB2⟩; replace hK := Mr.hid (hK.out.next hB2); clear hB2)
            | (go_at_call 8; refine (RM.out _ hK.out.bel).mono ?_; clear RM; rintro e w3 ⟨rfl, hB2⟩; replace hK := Mr.hid (hK.out.next hB2); clear hB2)
            | (go_at_call 10; refine (BB.out _ _ _ hK.out i j).mono ?_; clear BB; rintro e w5 ⟨rfl, hB2⟩; replace hK := Mr.hid (hK.out.next hB2); clear hB2)
            | (go_at_call 13; refine (NN.out _ _).mono ?_; rintro e w6 ⟨rfl, rfl⟩)
            | (go_at_call 9; refine (US.out _ _ _ hK.out).mono ?_; clear US; rintro e w7 ⟨rfl, hB2⟩; replace hK := Mr.hid (hK.out.next hB2); clear hB2))
          go_ret
          exact ⟨rfl, hK.out.bel⟩
theorem walk_timesF (v : Value) (cs : List Cq) (i j : Int) (W : World) (hv : Sl W (fun _ => True) 9 v cs.length (cqs cs)) (hsm : cs.length * 72 ≤ 140737488351232) {P Q : Prop} (_ : P) (_ : Q) :
    Calls Try.prog 4 #[v, .int .i64 i, .int .i64 j] W fun e w' => e = .returned (.bool true) ∧ Below W.heap.size W w' := walk_times v i j cs W hv hsm
end Go.Proofs.Ytfgnaffomglmdaa.Wt
