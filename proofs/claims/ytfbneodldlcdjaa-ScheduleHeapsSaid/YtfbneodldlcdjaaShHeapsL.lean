/-
  SCHEDULE: the law of heaps.
-/
import Derived.Test.YtfbneodldlcdjaaShTwo
namespace Go.Proofs.Ytfbneodldlcdjaa.Sh
open Go.RowKit Mr Md Me
set_option linter.unusedVariables false
set_option linter.unusedSimpArgs false
set_option maxRecDepth 100000
set_option maxHeartbeats 16000000 in
theorem walk_heaps (v : Value) (xs : List Ac) (v' : Value) (ys : List Ac) (W : World) (hv : Sl W (fun _ => True) 3 v xs.length (acs xs)) (hr : xs.length * 24 ≤ 140737488351232) (hv' : Sl W (fun _ => True) 3 v' ys.length (acs ys)) (hr' : ys.length * 24 ≤ 140737488351232) :
    Calls Try.prog 5 #[v, v'] W fun r w' => r = .returned (.bool true) ∧ Below W.heap.size W w' := by
  obtain ⟨a, c, rfl, hc⟩ := hv.form
  obtain ⟨a', c', rfl, hc'⟩ := hv'.form
  obtain ⟨n, hn⟩ : ∃ n, xs.length = n := ⟨_, rfl⟩
  obtain ⟨n', hn'⟩ : ∃ n, ys.length = n := ⟨_, rfl⟩
  obtain ⟨B, hB⟩ : ∃ B, W.heap.size = B := ⟨_, rfl⟩
  have T0 := two_new W
  rw [hB] at T0
  have A1 := fun (i : Nat) (x : Ac) (hx : xs[i]? = some x) (wr : World) (hw : Below W.heap.size W wr) => act_at (hv.below hw) hx
  have A2 := fun (i : Nat) (x : Ac) (hx : ys[i]? = some x) (wr : World) (hw : Below W.heap.size W wr) => act_at (hv'.below hw) hx
  rw [hn] at hr A1 ⊢
  rw [hn'] at hr' A2 ⊢
  replace hn := Mr.hid hn
  replace hn' := Mr.hid hn'
  replace hB := Mr.hid hB
  replace T0 := Mr.hid T0
  replace A1 := Mr.hid A1
  replace A2 := Mr.hid A2
  clear hv hv' hc hc'
  go_enter Try.func5, Try.ntmps5
  go_wp2
  rw [hB.out]
  rw [show B + 1 + 1 = B + 2 from rfl, show B + 2 + 1 = B + 3 from rfl]
  generalize ((((W.alloc (.cells #[.slice none 0 0, .int .u64 0] 38)).alloc (.cells #[.slice none 0 0, .int .u64 0] 38)).alloc (.cells #[.slice none 0 0] 42)).alloc (.cells #[.slice none 0 0] 42)) = w4 at *
  go_loopg [9] (n + n') (fun k s9 wr => ∃ (i d d' : Nat), s9 = .int .i64 (i : Int) ∧ i + k = n + n' ∧ (i ≤ n ∨ i ≤ n') ∧ Two W wr B i i d d')
  case atStart => exact ⟨0, 0, 0, rfl, by omega, by omega, T0.out⟩
  case round =>
    clear T0
    obtain ⟨i, d, d', rfl, hi, hin, hT⟩ := hrel
    by_cases h1 : i < n
    · have hib : i ≤ 6000000000000 := by omega
      have hw1 : IntKind.i64.wrap ((i : Int) + 1) = (i : Int) + 1 := i64x _ (by omega) (by omega)
      obtain ⟨x, hx⟩ : ∃ x, xs[i]? = some x := ⟨xs[i]'(by have := hn.out; omega), List.getElem?_eq_getElem _⟩
      obtain ⟨g, o, cp, e, k1, k2, k3, kg⟩ := A1.out i x hx wr (hT.bel hB.out)
      cases e
      have K1 := Mr.hid (two_one hT hB.out hib x)
      have d1 : (i : Int) < (n : Int) := by omega
      have d0 : (0 : Int) ≤ (i : Int) := by omega
      replace hx := Mr.hid hx
      replace hT := hT
      go_upto_region 10 with (go_at_call 12; refine K1.out.mono ?_; clear K1; rintro e w5 ⟨rfl, hT5⟩; clear hT; have hT := Mr.hid hT5; clear hT5)
      replace hT := hT.out
      clear k1 k2 k3
      by_cases h2 : i < n'
      · obtain ⟨y, hy⟩ : ∃ y, ys[i]? = some y := ⟨ys[i]'(by have := hn'.out; omega), List.getElem?_eq_getElem _⟩
        obtain ⟨g2, o2, cp2, e2, q1, q2, q3, qg⟩ := A2.out i y hy w5 (hT.bel hB.out)
        cases e2
        have K2 := Mr.hid (two_two hT hB.out hib y)
        have d2 : (i : Int) < (n' : Int) := by omega
        have d02 : (0 : Int) ≤ (i : Int) := by omega
        replace hy := Mr.hid hy
        go_wp2_with (go_at_call 12; refine K2.out.mono ?_; clear K2; rintro e w6 ⟨rfl, hT6⟩; clear hT; have hT := Mr.hid hT6; clear hT6)
        go_roundg (gk - 1)
        case measure => omega
        case rel => exact ⟨i + 1, _, _, by simp, by omega, by omega, hT.out⟩
      · have d2 : decide ((i : Int) < (n' : Int)) = false := decide_eq_false (by omega)
        have d3 : decide (i < n') = false := decide_eq_false h2
        replace hT := Mr.hid hT
        go_wp2
        go_roundg (gk - 1)
        case measure => omega
        case rel => exact ⟨i + 1, _, _, by simp, by omega, by omega, hT.out.more (Nat.le_refl _) (by omega)⟩
    · have d1 : decide ((i : Int) < (n : Int)) = false := decide_eq_false (by omega)
      have d3 : decide (i < n) = false := decide_eq_false h1
      by_cases h2 : i < n'
      · have hib : i ≤ 6000000000000 := by omega
        have hw1 : IntKind.i64.wrap ((i : Int) + 1) = (i : Int) + 1 := i64x _ (by omega) (by omega)
        obtain ⟨y, hy⟩ : ∃ y, ys[i]? = some y := ⟨ys[i]'(by have := hn'.out; omega), List.getElem?_eq_getElem _⟩
        obtain ⟨g2, o2, cp2, e2, q1, q2, q3, qg⟩ := A2.out i y hy wr (hT.bel hB.out)
        cases e2
        have K2 := Mr.hid (two_two hT hB.out hib y)
        have d2 : (i : Int) < (n' : Int) := by omega
        have d02 : (0 : Int) ≤ (i : Int) := by omega
        replace hy := Mr.hid hy
        replace hT := Mr.hid hT
        go_wp2_with (go_at_call 12; refine K2.out.mono ?_; clear K2; rintro e w6 ⟨rfl, hT6⟩; clear hT; have hT := Mr.hid hT6; clear hT6)
        go_roundg (gk - 1)
        case measure => omega
        case rel => exact ⟨i + 1, _, _, by simp, by omega, by omega, hT.out.more (by omega) (Nat.le_refl _)⟩
      · have d2 : decide ((i : Int) < (n' : Int)) = false := decide_eq_false (by omega)
        have d4 : decide (i < n') = false := decide_eq_false h2
        have hbd : i ≤ 5900000000000 := by omega
        clear hi
        replace hT := Mr.hid hT
        go_wp2
        go_loopg [] d (fun k w5 => Two W w5 B i i k d')
        case atStart => exact hT.out
        case round =>
          clear hT
          have hT : Two W wr B i i gk d' := hrel
          clear hrel
          obtain ⟨L1, L2, ⟨va, vc, k0, kl⟩, ⟨ua, uc, q0, ql⟩⟩ := hT.ask
          by_cases hd0 : gk = 0
          · have z1 : decide ((0 : Int) < (gk : Int)) = false := decide_eq_false (by omega)
            have z2 : decide (0 < gk) = false := decide_eq_false (by omega)
            replace L1 := Mr.hid L1
            replace L2 := Mr.hid L2
            replace hT := Mr.hid hT
            replace hd0 := Mr.hid hd0
            go_upto_region 15 with (go_at_call 13; refine L1.out.mono ?_; clear L1; rintro e w6 ⟨rfl, hw6⟩; obtain rfl := hw6.symm)
            have K := Mr.hid (two_out (hT.out.below hB.out ((Below.refl _ _).drew)) hB.out (by omega))
            clear k0 kl q0 ql L2
            go_region_with (first | (go_at_call 12; refine K.out.mono ?_; clear K; rintro e w6 ⟨rfl, hT6⟩; clear hT; obtain ⟨M1, M2, -, ⟨ua', uc', r0, rl⟩⟩ := hT6.ask; replace hT6 := Mr.hid hT6; replace M2 := Mr.hid M2; clear M1) | (go_at_call 13; refine M2.out.mono ?_; clear M2; rintro e w7 ⟨rfl, hw7⟩; obtain rfl := hw7.symm))
            all_goals
              go_wp2
              go_ret
              exact ⟨rfl, hT6.out.bel hB.out⟩
          · have z1 : (0 : Int) < (gk : Int) := by omega
            have K := Mr.hid (two_out hT hB.out (by omega))
            clear L1 L2
            replace hT := Mr.hid hT
            go_wp2_with (go_at_call 12; refine K.out.mono ?_; clear K; rintro e w6 ⟨rfl, hT6⟩; clear hT; replace hT6 := Mr.hid hT6)
            go_roundg (gk - 1)
            case measure => omega
            case rel => exact hT6.out
end Go.Proofs.Ytfbneodldlcdjaa.Sh
