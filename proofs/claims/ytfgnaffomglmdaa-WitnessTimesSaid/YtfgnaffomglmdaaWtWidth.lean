/-
  WITNESS: Width.
-/
import Derived.Test.YtfgnaffomglmdaaWtMay
import Derived.Test.YtfgnaffomglmdaaWtW
namespace Go.Proofs.Ytfgnaffomglmdaa.Wt
open Go.RowKit Mr Md
set_option linter.unusedVariables false
set_option linter.unusedSimpArgs false
set_option maxRecDepth 100000
section
variable {W : World} {T : Nat → Prop} {v : Value} {cs : List Cq}
set_option maxHeartbeats 8000000 in
theorem width_no (hv : Sl W T 9 v cs.length (cqs cs)) (hsm : cs.length * 72 ≤ 281474976710656) (hm : ¬ MayC cs) :
    Calls Try.prog 11 #[v] W fun e w' => e = .returned (.tuple #[.int .i64 0, .int .i64 120]) ∧ Below W.heap.size W w' := by
  have PM := may_any hv hsm
  rw [mayB_false hm] at PM
  obtain ⟨a, cap, rfl, hcap⟩ := hv.form
  generalize cs.length = n at *
  replace PM := Mr.hid PM
  clear hv hm hsm
  go_enter Try.func11, Try.ntmps11
  go_wp2_with (go_at_call 7; refine PM.out.mono ?_; clear PM; rintro e w1 ⟨rfl, hB1⟩)
  refine bodyPost_ret (v := .tuple #[.int .i64 0, .int .i64 120]) (by simp [results, Try.results11, go_sem]) rfl ?_
  exact ⟨rfl, hB1⟩
set_option maxHeartbeats 16000000 in
theorem width_any (hv : Sl W T 9 v cs.length (cqs cs)) (hsm : cs.length * 72 ≤ 281474976710656) (hm : MayC cs) :
    Calls Try.prog 11 #[v] W fun e w' => e = .returned (.tuple #[.int .i64 (wid cs cs.length : Nat), .int .i64 0]) ∧ Below W.heap.size W w' := by
  have PM := may_any hv hsm
  rw [mayB_true hm] at PM
  obtain ⟨i0, hi0, hz0, hz1, hz2⟩ := parts_of wt_int
  obtain ⟨a, cap, rfl, hcap⟩ := hv.form
  obtain ⟨n, hn⟩ : ∃ n, n = cs.length := ⟨_, rfl⟩
  rw [← hn] at hsm hcap PM ⊢
  replace hn := Mr.hid hn
  replace hv := Mr.hid hv
  replace hm := Mr.hid hm
  replace PM := Mr.hid PM
  go_enter Try.func11, Try.ntmps11
  go_wp2_with (go_at_call 7; refine PM.out.mono ?_; clear PM; rintro e w1 ⟨rfl, hB1⟩; replace hB1 := Mr.hid hB1)
  go_loopg [4, 16] n (fun k s4 s16 wr => ∃ i : Nat, s16 = .int .i64 (i : Int) ∧ i + k = n ∧ Below W.heap.size W wr ∧ Own wr (fun k => W.heap.size ≤ k) 3 1 s4 (fns (cs.take i)).length (ints (fns (cs.take i))))
  case atStart => exact ⟨0, rfl, by omega, hB1.out, Own.zero _ _ _ _ _⟩
  case round =>
    clear hB1
    obtain ⟨i, rfl, hi, B, ho⟩ := hrel
    by_cases hlt : i < n
    · obtain ⟨c, hci⟩ := get_of_lt (cs := cs) (i := i) (by have := hn.out; omega)
      obtain ⟨bc, oc, rfl, A9⟩ := call_at (hv.out.below B) hci
      obtain ⟨u, cu, rfl, hcu, hcm⟩ := ho.form
      obtain ⟨l, hl⟩ : ∃ l, l = fns (cs.take i) := ⟨_, rfl⟩
      rw [← hl] at ho hcu ⊢
      have AF := fun w1 => Ap.first (w1 := w1) B ho c
      have hll : l.length ≤ i := by rw [hl]; exact Nat.le_trans (fns_len _) (by simp; omega)
      have hnx := fns_take cs i c hci
      rw [← hl] at hnx
      obtain ⟨hbl, g0, g1, g2, g3, g4, g5, g6, g7, g8⟩ := A9
      have hlI : (i : Int) < (n : Int) := by omega
      have ED := fun w => ended_any c w
      unfold Cq.val at ED
      clear ho hl
      replace AF := Mr.hid AF
      replace hnx := Mr.hid hnx
      replace hci := Mr.hid hci
      replace B := Mr.hid B
      go_upto_region 7 with (fail)
      have hA := AF.out _ rfl
      unfold cqO at hA
      clear AF g0 g1 g2 g3 g4 g5 g6 g7 g8 hbl B
      generalize (wr.alloc (Obj.cells #[.int .i64 c.th, .int .i64 c.op, .int .i64 c.arg, .int .i64 c.data, .int .i64 c.beg, .int .i64 c.fin, .int .i64 c.pt, .int .i64 c.ak, .int .i64 c.av] 43 (0, 0))) = w5 at *
      generalize wr.heap.size = bx at *
      clear wr
      replace hA := Mr.hid hA
      obtain ⟨k0, k1, k2, k3, k4, k5, k6, k7, k8, kl⟩ := cq_cells hA.out.box
      by_cases e1 : c.fin = -1
      · have hE : endB c = false := by simp [endB, e1]
        have hfin : Hid (fns (cs.take (i + 1)) = l) := by show fns (cs.take (i + 1)) = l; rw [hnx.out]; simp [e1]
        rw [hE] at ED
        replace e1 := Mr.hid e1
        replace ED := Mr.hid ED
        go_wp2_with (go_at_call 24; refine (ED.out _).mono ?_; clear ED; rintro e w7 ⟨rfl, hB7⟩; clear k0 k1 k2 k3 k4 k5 k6 k7 k8 kl; replace hA := Mr.hid (hA.out.below hB7); clear hB7)
        go_roundg (gk - 1)
        case measure => omega
        case rel => exact ⟨i + 1, by simp, by omega, hA.out.bel, by rw [hfin.out]; exact hA.out.done⟩
      · have hE : endB c = true := by simp [endB, e1]
        have hfin : Hid (fns (cs.take (i + 1)) = l ++ [c.fin]) := by show fns (cs.take (i + 1)) = l ++ [c.fin]; rw [hnx.out]; simp [e1]
        rw [hE] at ED
        replace e1 := Mr.hid e1
        replace ED := Mr.hid ED
        go_wp2_with (first
          | (go_at_call 24; refine (ED.out _).mono ?_; clear ED; rintro e w7 ⟨rfl, hB7⟩; clear k0 k1 k2 k3 k4 k5 k6 k7 k8 kl; replace hA := Mr.hid (hA.out.below hB7); clear hB7; obtain ⟨k0, k1, k2, k3, k4, k5, k6, k7, k8, kl⟩ := cq_cells hA.out.box)
          | (at_builtin; refine wpList_append_mine _ rfl (.tmp 22) (.tmp 25) 33 rfl (fun k => W.heap.size ≤ k ∧ k ≠ bx) 3 i0 _ 1 8 Try.underlying33 hi0 hz0 hz1 hz2 rfl _ l.length (ints l) rfl (hA.out.own.below ((Below.refl _ _).alloc (Nat.le_refl _) _)) (some ⟨w7.heap.size, 0, none⟩) 1 1 [.int .i64 c.fin] rfl rfl (fun e => by cases e) (new1 rfl) (by simp [Value.oneCell']) (by unfold maxLen; omega) (by omega) ?_; intro b9 cap9 w9 hown hfr; have hX := hA.out.app rfl hown hfr; clear hown hfr; replace hX := Mr.hid hX))
        go_roundg (gk - 1)
        case measure => omega
        case rel => exact ⟨i + 1, by simp, by omega, hX.out.bel, by rw [hfin.out]; exact hX.out.done⟩
    · have hin : i = cs.length := by have := hn.out; omega
      rw [hin, List.take_length] at ho
      obtain ⟨l, hl⟩ : ∃ l, l = fns cs := ⟨_, rfl⟩
      rw [← hl] at ho
      have hll : l.length ≤ n := by rw [hl, hn.out]; exact fns_len _
      have SO := sort_any ho (by omega)
      obtain ⟨u, cu, rfl, hcu, hcm⟩ := ho.form
      have hsl := srt_len l
      have hup := srt_up l
      have hct : ∀ b : Int, (srt l).countP (fun x => decide (x < b)) = ovr cs b := fun b => by rw [(srt_perm l).countP_eq, hl]; rfl
      obtain ⟨s, hs⟩ : ∃ s, s = srt l := ⟨_, rfl⟩
      rw [← hs] at SO hsl hup hct
      obtain ⟨m, hm1⟩ : ∃ m, m = l.length := ⟨_, rfl⟩
      rw [← hm1] at SO hcu hsl hll ⊢
      clear ho hl hs hin hm1
      have dl : decide ((i : Int) < (n : Int)) = false := decide_eq_false (by omega)
      replace SO := Mr.hid SO
      replace hup := Mr.hid hup
      replace hct := Mr.hid hct
      replace B := Mr.hid B
      replace hsl := Mr.hid hsl
      go_wp2_with (go_at_call 25; refine SO.out.mono ?_; clear SO; rintro e w2 ⟨rfl, hf2, hS2⟩; have hB2 : Below W.heap.size W w2 := ⟨hf2.os.trans B.out.os, hf2.tape.trans B.out.tape, hf2.output.trans B.out.output, Nat.le_trans B.out.size hf2.size, fun k hk => (hf2.block k (Nat.lt_of_lt_of_le hk B.out.size) (by omega)).trans (B.out.block k hk)⟩; clear hf2 B; replace hB2 := Mr.hid hB2; replace hS2 := Mr.hid hS2)
      clear dl hi hlt
      generalize (i : Int) = iold at *
      go_loopg [7, 8, 32] n (fun k s7 s8 s32 wr => ∃ i o : Nat, s7 = .int .i64 ((wid cs i : Nat) : Int) ∧ s8 = .int .i64 (o : Int) ∧ s32 = .int .i64 (i : Int) ∧ i + k = n ∧ o ≤ m ∧ Below W.heap.size W wr ∧ Below w2.heap.size w2 wr ∧ ∀ j x c, j < o → s[j]? = some x → cs[i]? = some c → x < c.beg)
      case atStart => exact ⟨0, 0, rfl, rfl, rfl, by omega, by omega, hB2.out, Below.refl _ _, fun j x c hj => by omega⟩
      case round =>
        clear hB2
        obtain ⟨i, o, rfl, rfl, rfl, hi, hom, B, B2, ht⟩ := hrel
        by_cases hlt : i < n
        · obtain ⟨c, hci⟩ := get_of_lt (cs := cs) (i := i) (by have := hn.out; omega)
          obtain ⟨bc, oc, rfl, A9⟩ := call_at (hv.out.below B) hci
          have hbx : ∀ w1, w1 = wr.alloc (cqO c) → w1.heap[wr.heap.size]? = some (cqO c) ∧ Below W.heap.size W w1 ∧ Below w2.heap.size w2 w1 := by rintro w1 rfl; exact ⟨new_at _ _ _ rfl, B.alloc B.size _, B2.alloc B2.size _⟩
          obtain ⟨hbl, g0, g1, g2, g3, g4, g5, g6, g7, g8⟩ := A9
          have hlI : (i : Int) < (n : Int) := by omega
          have ht2 : ∀ j x, j < o → s[j]? = some x → x < c.beg := fun j x hj hx => ht j x c hj hx hci
          have hwl := wid_le cs i
          have hon := on_same hm.out hci
          have hws := wid_succ hci
          generalize hwd : wid cs i = wd at *
          clear ht B B2
          replace hbx := Mr.hid hbx
          replace hci := Mr.hid hci
          replace ht2 := Mr.hid ht2
          replace hon := Mr.hid hon
          replace hws := Mr.hid hws
          replace hwd := Mr.hid hwd
          go_wp2
          obtain ⟨hX, B, B2⟩ := hbx.out _ rfl
          unfold cqO at hX B B2
          clear hbx g0 g1 g2 g3 g4 g5 g6 g7 g8 hbl
          generalize (wr.alloc (Obj.cells #[.int .i64 c.th, .int .i64 c.op, .int .i64 c.arg, .int .i64 c.data, .int .i64 c.beg, .int .i64 c.fin, .int .i64 c.pt, .int .i64 c.ak, .int .i64 c.av] 43 (0, 0))) = w5 at *
          generalize wr.heap.size = bx at *
          clear wr
          replace hX := Mr.hid hX
          replace B := Mr.hid B
          replace B2 := Mr.hid B2
          have hRB : Hid (∀ w, Below w5.heap.size w5 w → w.cell? ⟨bx, 4, none⟩ = some (.int .i64 c.beg) ∧ bx < w.heap.size) := fun w hB => by
            have h1 := (hB.block _ (Array.getElem?_eq_some_iff.1 hX.out).1).trans hX.out
            obtain ⟨-, -, -, -, k4, -, -, -, -, kl⟩ := cq_cells (c := c) h1
            exact ⟨k4, kl⟩
          go_loopg [8] (m - o) (fun k s8 wr => ∃ o : Nat, s8 = .int .i64 (o : Int) ∧ o ≤ m ∧ k = m - o ∧ Below w5.heap.size w5 wr ∧ ∀ j x, j < o → s[j]? = some x → x < c.beg)
          case atStart => exact ⟨o, rfl, hom, rfl, Below.refl _ _, ht2.out⟩
          case round =>
            clear hom ht2
            clear o
            obtain ⟨o, rfl, hom, hk, B5, ht2⟩ := hrel
            obtain ⟨kb, kbl⟩ := hRB.out _ B5
            have hw8 : IntKind.i64.wrap ((o : Int) + 1) = (o : Int) + 1 := i64x _ (by omega) (by omega)
            have hw9 : IntKind.i64.wrap ((i : Int) + 1) = (i : Int) + 1 := i64x _ (by omega) (by omega)
            by_cases hol : o < m
            · obtain ⟨gu, ou, cu', hgu, _, _, hul, ru⟩ := (hS2.out.below (B2.out.trans (B5.mono B2.out.size))).there (by omega)
              cases hgu
              obtain ⟨x, hx⟩ : ∃ x, s[o]? = some x := ⟨s[o]'(by have := hsl.out; omega), List.getElem?_eq_getElem _⟩
              have kx := ru o _ (by rw [ints, List.getElem?_map, hx]; rfl)
              have hoI : (o : Int) < (m : Int) := by omega
              clear ru
              by_cases hlx : x < c.beg
              · have ht3 := Mr.hid (fun j y (hj : j < o + 1) (hy : s[j]? = some y) => (by
                  by_cases hjo : j < o
                  · exact ht2 j y hjo hy
                  · have : j = o := by omega
                    subst this; rw [hx] at hy; cases hy; exact hlx : y < c.beg))
                replace ht2 := Mr.hid ht2
                replace hx := Mr.hid hx
                replace B5 := Mr.hid B5
                go_upto_region 15 with (fail)
                go_quiet (fail)
                replace B5 := Mr.hid (B5.out.trans (Bx.draws _ _ nq))
                clear kb kx hul kbl
                generalize wr.drewN nq = w6 at *
                go_wp2
                go_roundg (gk - 1)
                case measure => omega
                case rel => exact ⟨o + 1, by simp, by omega, by omega, B5.out, ht3.out⟩
              · have hcf := count_first hup.out (b := c.beg) (o := o) (by have := hsl.out; omega) ht2 (fun y hy => by rw [hx] at hy; cases hy; exact hlx)
                have hlx2 : decide (x < c.beg) = false := decide_eq_false hlx
                replace hlx := Mr.hid hlx
                rw [hct.out] at hcf
                have hq : nOn cs c.beg (i + 1) = i + 1 - o := by have := hon.out; omega
                have hoi : o ≤ i + 1 := by have := hon.out; omega
                have hws2 : wid cs (i + 1) = max wd (i + 1 - o) := by rw [hws.out, hq]
                have hnx : ∀ j x c', j < o → s[j]? = some x → cs[i + 1]? = some c' → x < c'.beg := fun j x c' hj hx hc' => by
                  have h1 := ht2 j x hj hx
                  have h2 := hm.out.1.lt (Nat.le_refl _) (i + 1) i (by omega) (List.getElem?_eq_some_iff.1 hc').1 c c' hci.out hc'
                  omega
                have hw7 : IntKind.i64.wrap ((i : Int) + 1 - (o : Int)) = (i : Int) + 1 - (o : Int) := i64x _ (by omega) (by omega)
                replace ht2 := Mr.hid ht2
                replace hcf := Mr.hid hcf
                replace hq := Mr.hid hq
                replace hws2 := Mr.hid hws2
                replace hnx := Mr.hid hnx
                replace B5 := Mr.hid B5
                go_upto_region 15 with (fail)
                go_quiet (fail)
                replace B5 := Mr.hid (B5.out.trans (Bx.draws _ _ nq))
                generalize wr.drewN nq = w6 at *
                clear kb
                go_wp2
                all_goals
                  go_roundg (n - (i + 1))
                  case measure => omega
                  case rel => exact ⟨i + 1, o, by rw [hws2.out]; congr 1; omega, rfl, by simp, by omega, by omega, B.out.trans (B5.out.mono B.out.size), B2.out.trans (B5.out.mono B2.out.size), hnx.out⟩
            · have hcf := count_first hup.out (b := c.beg) (o := o) (by have := hsl.out; omega) ht2 (fun y hy => by have := (List.getElem?_eq_some_iff.1 hy).1; have := hsl.out; omega)
              have hoI : decide ((o : Int) < (m : Int)) = false := decide_eq_false (by omega)
              rw [hct.out] at hcf
              have hq : nOn cs c.beg (i + 1) = i + 1 - o := by have := hon.out; omega
              have hoi : o ≤ i + 1 := by have := hon.out; omega
              have hws2 : wid cs (i + 1) = max wd (i + 1 - o) := by rw [hws.out, hq]
              have hnx : ∀ j x c', j < o → s[j]? = some x → cs[i + 1]? = some c' → x < c'.beg := fun j x c' hj hx hc' => by
                have h1 := ht2 j x hj hx
                have h2 := hm.out.1.lt (Nat.le_refl _) (i + 1) i (by omega) (List.getElem?_eq_some_iff.1 hc').1 c c' hci.out hc'
                omega
              have hw7 : IntKind.i64.wrap ((i : Int) + 1 - (o : Int)) = (i : Int) + 1 - (o : Int) := i64x _ (by omega) (by omega)
              replace ht2 := Mr.hid ht2
              replace hcf := Mr.hid hcf
              replace hq := Mr.hid hq
              replace hws2 := Mr.hid hws2
              replace hnx := Mr.hid hnx
              replace B5 := Mr.hid B5
              go_upto_region 15 with (fail)
              go_quiet (fail)
              replace B5 := Mr.hid (B5.out.trans (Bx.draws _ _ nq))
              generalize wr.drewN nq = w6 at *
              clear kb
              go_wp2
              all_goals
                go_roundg (n - (i + 1))
                case measure => omega
                case rel => exact ⟨i + 1, o, by rw [hws2.out]; congr 1; omega, rfl, by simp, by omega, by omega, B.out.trans (B5.out.mono B.out.size), B2.out.trans (B5.out.mono B2.out.size), hnx.out⟩
        · have hwn : Hid (wid cs n = wid cs i) := by show wid cs n = wid cs i; rw [show n = i from by omega]
          have dl : decide ((i : Int) < (n : Int)) = false := decide_eq_false (by omega)
          replace B := Mr.hid B
          clear ht
          go_wp2
          refine bodyPost_ret (v := .tuple #[.int .i64 ((wid cs i : Nat) : Int), .int .i64 0]) (by simp [results, Try.results11, go_sem]) rfl ?_
          exact ⟨by rw [hwn.out], B.out⟩
end
end Go.Proofs.Ytfgnaffomglmdaa.Wt
