/-
  The document's Width.
-/
import Derived.Test.YtfgnaffomglmdaaWtCall
import Derived.Test.YtfgnaffomglmdaaWtW
import Derived.Deep.LoopGhost
import Derived.BigQuiet
namespace Go.Proofs.Ytfgnaffomglmdaa.Wt
open Go.RowKit Mr Md
set_option linter.unusedVariables false
set_option linter.unusedSimpArgs false
set_option maxRecDepth 100000
section
variable {W : World} {T : Nat → Prop} {v : Value} {cs : List Cq}
set_option maxHeartbeats 16000000 in
theorem rWidth_any (hv : Sl W T 9 v cs.length (cqs cs)) (hsm : cs.length * 72 ≤ 281474976710656) :
    Calls Try.prog 12 #[v] W fun e w' => e = .returned (.int .i64 (wid cs cs.length : Nat)) ∧ Below W.heap.size W w' := by
  obtain ⟨a, cap, rfl, hcap⟩ := hv.form
  obtain ⟨n, hn⟩ : ∃ n, n = cs.length := ⟨_, rfl⟩
  rw [← hn] at hsm hcap ⊢
  replace hn := Mr.hid hn
  replace hv := Mr.hid hv
  go_enter Try.func12, Try.ntmps12
  go_wp2
  go_loopg [3, 4] n (fun k s3 s4 wr => ∃ i : Nat, s3 = .int .i64 ((wid cs i : Nat) : Int) ∧ s4 = .int .i64 (i : Int) ∧ i + k = n ∧ Below W.heap.size W wr)
  case atStart => exact ⟨0, rfl, rfl, by omega, Below.refl _ _⟩
  case round =>
    obtain ⟨i, rfl, rfl, hi, B⟩ := hrel
    by_cases hlt : i < n
    · obtain ⟨c, hci⟩ := get_of_lt (cs := cs) (i := i) (by have := hn.out; omega)
      obtain ⟨bc, oc, rfl, -⟩ := call_at (hv.out.below B) hci
      have RC : ∀ w, Below W.heap.size W w → At9 w bc (oc + i * 9) c := fun w hB => by
        obtain ⟨b', o', e, h⟩ := call_at (hv.out.below hB) hci
        cases e; exact h
      have hlI : (i : Int) < (n : Int) := by omega
      have hws := wid_succ hci
      have hwl := wid_le cs i
      generalize hwd : wid cs i = wd at *
      have hw9 : IntKind.i64.wrap ((i : Int) + 1) = (i : Int) + 1 := i64x _ (by omega) (by omega)
      replace RC := Mr.hid RC
      replace hci := Mr.hid hci
      replace hws := Mr.hid hws
      replace hwd := Mr.hid hwd
      replace B := Mr.hid B
      go_wp2
      go_loopg [5, 6] (i + 1) (fun q s5 s6 wr => ∃ k : Nat, s5 = .int .i64 ((nOn cs c.beg k : Nat) : Int) ∧ s6 = .int .i64 (k : Int) ∧ k + q = i + 1 ∧ Below W.heap.size W wr)
      case atStart => exact ⟨0, by simp [nOn], rfl, by omega, B.out⟩
      case round =>
        clear B
        obtain ⟨k, rfl, rfl, hk, B⟩ := hrel
        have hnl := nOn_le cs c.beg k
        by_cases hki : k < i + 1
        · obtain ⟨d, hdk⟩ := get_of_lt (cs := cs) (i := k) (by have := hn.out; omega)
          obtain ⟨b', o', e9, A9⟩ := call_at (hv.out.below B) hdk
          cases e9
          obtain ⟨hbd, -, -, -, -, -, d5, -, -, -⟩ := A9
          obtain ⟨hbl, -, -, -, -, g4, -, -, -, -⟩ := RC.out _ B
          have hns := nOn_succ cs c.beg k d hdk
          generalize hnd : nOn cs c.beg k = nd at *
          have f1 : (k : Int) ≤ (i : Int) := by omega
          have f2 : (k : Int) < (n : Int) := by omega
          have hw7 : IntKind.i64.wrap ((k : Int) + 1) = (k : Int) + 1 := i64x _ (by omega) (by omega)
          have hw6 : IntKind.i64.wrap ((nd : Int) + 1) = (nd : Int) + 1 := i64x _ (by omega) (by omega)
          replace hdk := Mr.hid hdk
          replace hnd := Mr.hid hnd
          replace B := Mr.hid B
          by_cases e1 : d.fin = -1
          · have e1' : (d.fin == -1) = true := by simp [e1]
            rw [if_pos (.inl e1)] at hns
            replace hns := Mr.hid hns
            replace e1 := Mr.hid e1
            go_upto_region 9 with (fail)
            go_quiet (fail)
            replace B := Mr.hid (B.out.trans (Bx.draws _ _ nq))
            generalize wr.drewN nq = w6 at *
            clear d5 g4
            go_wp2
            go_roundg (gk - 1)
            case measure => omega
            case rel => exact ⟨k + 1, by rw [hns.out]; simp, by simp, by omega, B.out⟩
          · have e1' : (d.fin == -1) = false := by simp [e1]
            by_cases e2 : c.beg < d.fin
            · have e2' : decide (c.beg < d.fin) = true := decide_eq_true e2
              rw [if_pos (.inr e2)] at hns
              replace hns := Mr.hid hns
              replace e1 := Mr.hid e1
              replace e2 := Mr.hid e2
              go_upto_region 9 with (fail)
              go_quiet (fail)
              replace B := Mr.hid (B.out.trans (Bx.draws _ _ nq))
              generalize wr.drewN nq = w6 at *
              clear d5 g4
              go_wp2
              go_roundg (gk - 1)
              case measure => omega
              case rel => exact ⟨k + 1, by rw [hns.out]; simp, by simp, by omega, B.out⟩
            · have e2' : decide (c.beg < d.fin) = false := decide_eq_false e2
              rw [if_neg (by omega), Nat.add_zero] at hns
              replace hns := Mr.hid hns
              replace e1 := Mr.hid e1
              replace e2 := Mr.hid e2
              go_upto_region 9 with (fail)
              go_quiet (fail)
              replace B := Mr.hid (B.out.trans (Bx.draws _ _ nq))
              generalize wr.drewN nq = w6 at *
              clear d5 g4
              go_wp2
              go_roundg (gk - 1)
              case measure => omega
              case rel => exact ⟨k + 1, by rw [hns.out]; rfl, by simp, by omega, B.out⟩
        · have hki2 : k = i + 1 := by omega
          subst hki2
          have dl : decide ((i : Int) + 1 ≤ (i : Int)) = false := decide_eq_false (by omega)
          have dl2 : decide (((i + 1 : Nat) : Int) ≤ (i : Int)) = false := decide_eq_false (by omega)
          generalize hnd : nOn cs c.beg (i + 1) = nd at *
          replace hnd := Mr.hid hnd
          replace B := Mr.hid B
          go_wp2
          all_goals
            go_roundg (n - (i + 1))
            case measure => omega
            case rel => exact ⟨i + 1, by rw [hws.out]; congr 1; omega, by simp, by omega, B.out⟩
    · have hwn : Hid (wid cs n = wid cs i) := by show wid cs n = wid cs i; rw [show n = i from by omega]
      have dl : decide ((i : Int) < (n : Int)) = false := decide_eq_false (by omega)
      replace B := Mr.hid B
      go_wp2
      go_ret
      exact ⟨by rw [hwn.out]; rfl, B.out⟩
end
end Go.Proofs.Ytfgnaffomglmdaa.Wt
