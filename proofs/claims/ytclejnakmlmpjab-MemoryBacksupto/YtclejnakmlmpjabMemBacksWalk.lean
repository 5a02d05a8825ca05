/-
  THE LAW MemoryBacks.
-/
import Derived.Test.YtclejnakmlmpjabMemTwo
import Derived.Test.YtclejnakmlmpjabMemBehind
import Derived.BigQuiet
namespace Go.Proofs.Ytclejnakmlmpjab.Me
open Go.RowKit Mr
set_option linter.unusedVariables false
set_option maxHeartbeats 4000000 in
set_option maxRecDepth 100000 in
theorem law_backs (a : Option Addr) (n cap : Nat) (ws : List Int) (a1 : Option Addr) (n1 c1 : Nat) (os1 : List O) (a2 : Option Addr) (n2 c2 : Nat) (os2 : List O) (a3 : Option Addr) (n3 c3 : Nat) (os3 : List O) (w : World)
    (hs : Src w a n cap ws) (ho1 : OpsAt w a1 n1 os1) (hr1 : os1.length ≤ 1048576) (ho2 : OpsAt w a2 n2 os2) (hr2 : os2.length ≤ 1048576) (ho3 : OpsAt w a3 n3 os3) (hr3 : os3.length ≤ 1048576) :
    Calls Try.prog 4 #[.slice a n cap, .slice a1 n1 c1, .slice a2 n2 c2, .slice a3 n3 c3] w fun e w' => e = .returned (.bool true) ∧ Below w.heap.size w w' := by
  by_cases hbig : 8192 < n
  · have hd : decide (8192 < (n : Int)) = true := by simp; omega
    go_enter Try.func4, Try.ntmps4
    go_wp2_with (go_at_call 7; refine (awake_any _).mono ?_; rintro e w1 ⟨rfl, hB1⟩)
    go_ret
    exact ⟨rfl, hB1⟩
  have hd : decide (8192 < (n : Int)) = false := by simp; omega
  have hn8 : n ≤ 8192 := by omega
  have C := made_any _ _ _ _ _ hs (by omega)
  have C' := fun (W' : World) (hW : Below w.heap.size w W') => made_any _ _ _ _ _ (hs.below hW) (by omega)
  obtain ⟨hnl1, ho1'⟩ := id ho1
  subst hnl1
  obtain ⟨hnl2, ho2'⟩ := id ho2
  subst hnl2
  obtain ⟨hnl3, ho3'⟩ := id ho3
  subst hnl3
  clear ho1' ho2' ho3'
  obtain ⟨z, hz⟩ : ∃ z : St, z = ⟨ws, [], []⟩ := ⟨_, rfl⟩
  have hpz : Pl ws z := by rw [hz]; exact Pl.zero ws
  rw [← hz] at C
  simp only [← hz] at C'
  go_enter Try.func4, Try.ntmps4
  go_wp2_with (first | (go_at_call 8; refine C.mono ?_; clear C; rintro e w1 ⟨b, rfl, hM, hB1⟩; have C1 := C' w1 hB1; clear C') | (go_at_call 8; refine C1.mono ?_; clear C1; rintro e w2 ⟨c, rfl, hM2, hB2⟩))
  have hT0 : Two w2 w.heap.size b c z z := Two.made hB1.size hM hM2 hB2
  have hB0 : Below w.heap.size w w2 := hB1.trans (hB2.mono hB1.size)
  clear hM hM2 hB1 hB2
  have lgle : ∀ os, (runF z os).lg.length ≤ os.length := fun os => by
    obtain ⟨l, e, hl⟩ := runF_lg z os
    rw [e, hz]
    simpa using hl
  go_loopg [11] os1.length (fun k s wr => ∃ i : Nat, s = .int .i64 (i : Int) ∧ i + k = os1.length ∧ Two wr w.heap.size b c (runF z (os1.take i)) (runF z (os1.take i)) ∧ Below w.heap.size w wr)
  case atStart => exact ⟨0, rfl, by omega, hT0, hB0⟩
  case round =>
    obtain ⟨i, rfl, hi, hT, B⟩ := hrel
    clear hT0 hB0
    by_cases hlt : i < os1.length
    · have hroom : Roomy (runF z (os1.take i)).lg (runF z (os1.take i)).ah := roomy_small (hpz.runF _) (by have := lgle (os1.take i); rw [List.length_take] at this; omega)
      have D := hT.access B.size hroom (os1[i]?.getD noO)
      have D' := fun (W' : World) (hT' : Two W' w.heap.size b c (stp (os1[i]?.getD noO) 0 (runF z (os1.take i))) (runF z (os1.take i))) (hB' : Below w.heap.size w W') => hT'.swap.access hB'.size hroom (os1[i]?.getD noO)
      rcases ho1.2 with h0 | ⟨bo, oo, rfl, hbo, hc⟩
      · rw [h0] at hlt; simp at hlt
      have hcW := fun (W' : World) (hW : Below w.heap.size w W') (q : Nat) (u : Value) (hu : w.cell? ⟨bo, q, none⟩ = some u) => (hW.cell (p := ⟨bo, q, none⟩) hbo).trans hu
      obtain ⟨c0, c1, c2, c3, c4, c5⟩ := hc i hlt
      have hsn := runF_snoc z os1 i hlt
      replace hsn := Mr.hid hsn
      clear hc ho1 hs hroom ho2 ho3 hpz lgle
      replace hT := Mr.hid hT
      generalize os1[i]?.getD noO = o at *
      have g0 := hcW wr B _ _ c0
      have g1 := hcW wr B _ _ c1
      have g2 := hcW wr B _ _ c2
      have g3 := hcW wr B _ _ c3
      have g4 := hcW wr B _ _ c4
      have g5 := hcW wr B _ _ c5
      go_wp2_with (first | (go_at_call 9; refine D.mono ?_; clear D; rintro e w3 ⟨rfl, hT3, hB3⟩; have B3 := B.trans hB3; have D3 := D' w3 hT3 B3; clear D' hT3; have f0 := hcW w3 B3 _ _ c0; have f1 := hcW w3 B3 _ _ c1; have f2 := hcW w3 B3 _ _ c2; have f3 := hcW w3 B3 _ _ c3; have f4 := hcW w3 B3 _ _ c4; have f5 := hcW w3 B3 _ _ c5; clear hcW) | (go_at_call 9; refine D3.mono ?_; clear D3; rintro e w4 ⟨rfl, hT4, hB4⟩))
      go_roundg (gk - 1)
      case measure => omega
      case rel => exact ⟨i + 1, by simp, by omega, by rw [hsn.out]; exact hT4.swap, B3.trans hB4⟩
    · obtain rfl : i = os1.length := by omega
      rw [List.take_length] at hT
      have hp1 : Pl ws (runF z os1) := hpz.runF os1
      have hl1 : (runF z os1).lg.length ≤ 1048576 := Nat.le_trans (lgle os1) hr1
      generalize runF z os1 = s1 at *
      clear lgle hpz hi hlt ho1 hz
      have N1 := hT.count
      go_wp2_with (go_at_call 14; refine N1.mono ?_; clear N1; rintro e w3 ⟨rfl, hw3⟩; obtain rfl := hw3.symm)
      have lgle2 : ∀ os, (runF s1 os).lg.length ≤ s1.lg.length + os.length := fun os => by
        obtain ⟨l, e, hl⟩ := runF_lg s1 os
        rw [e, List.length_append]
        omega
      go_loopg [13] os2.length (fun k s wr => ∃ i : Nat, s = .int .i64 (i : Int) ∧ i + k = os2.length ∧ Two wr w.heap.size b c (runF s1 (os2.take i)) s1 ∧ Below w.heap.size w wr)
      case atStart => exact ⟨0, rfl, by omega, hT, B⟩
      case round =>
        obtain ⟨i, rfl, hi, hT2, B2⟩ := hrel
        clear hT B
        by_cases hlt : i < os2.length
        · have hroom : Roomy (runF s1 (os2.take i)).lg (runF s1 (os2.take i)).ah := roomy_small (hp1.runF _) (by have := lgle2 (os2.take i); rw [List.length_take] at this; omega)
          have D := hT2.access B2.size hroom (os2[i]?.getD noO)
          rcases ho2.2 with h0 | ⟨bo, oo, rfl, hbo, hc⟩
          · rw [h0] at hlt; simp at hlt
          have hcW := fun (q : Nat) (u : Value) (hu : w.cell? ⟨bo, q, none⟩ = some u) => (B2.cell (p := ⟨bo, q, none⟩) hbo).trans hu
          obtain ⟨c0, c1, c2, c3, c4, c5⟩ := hc i hlt
          have hsn := runF_snoc s1 os2 i hlt
          replace hsn := Mr.hid hsn
          clear hc ho2 hs hroom ho3 hp1 lgle2 hl1
          replace hT2 := Mr.hid hT2
          generalize os2[i]?.getD noO = o at *
          have g0 := hcW _ _ c0
          have g1 := hcW _ _ c1
          have g2 := hcW _ _ c2
          have g3 := hcW _ _ c3
          have g4 := hcW _ _ c4
          have g5 := hcW _ _ c5
          clear hcW
          go_wp2_with (go_at_call 9; refine D.mono ?_; clear D; rintro e w3 ⟨rfl, hT3, hB3⟩)
          go_roundg (gk - 1)
          case measure => omega
          case rel => exact ⟨i + 1, by simp, by omega, by rw [hsn.out]; exact hT3, B2.trans hB3⟩
        · obtain rfl : i = os2.length := by omega
          rw [List.take_length] at hT2
          have hp2 : Pl ws (runF s1 os2) := hp1.runF os2
          have hl2 : (runF s1 os2).lg.length ≤ 2097152 := by have := lgle2 os2; omega
          obtain ⟨l2, hl2e, _⟩ := runF_lg s1 os2
          generalize runF s1 os2 = s2 at *
          have K := hT2.back B2.size hp2 hp1 l2 hl2e (by omega)
          have hwl : s1.ws.length ≤ 8192 := by have := hp1.len; have := hs.1; omega
          clear hp2 hl2e hl2 ho2 hi hlt
          replace hT2 := Mr.hid hT2
          go_wp2_with (first | (go_at_call 16; refine K.mono ?_; clear K; rintro e w3 ⟨rfl, hT3, hB3⟩; have B3 := B2.trans hB3; have N3 := hT3.count; have X3 := hT3.words) | (go_at_call 15; refine (num_any _ _).mono ?_; rintro e w4 ⟨rfl, hw4⟩; obtain rfl := hw4.symm) | (go_at_call 14; refine N3.mono ?_; clear N3; rintro e w4 ⟨rfl, hw4⟩; obtain rfl := hw4.symm) | (go_at_call 12; refine X3.mono ?_; clear X3; rintro e w5 ⟨v5, rfl, hv5, hB5⟩; have X5 := (hT3.below hB5).swap.words) | (go_at_call 12; refine X5.mono ?_; clear X5; rintro e w6 ⟨v6, rfl, hv6, hB6⟩; have Y6 := sameWords_same (hv5.below hB6) hv6 (by omega); obtain ⟨a5, c5, rfl, _⟩ := hv5.form; obtain ⟨a6, c6, rfl, _⟩ := hv6.form) | (go_at_call 13; refine Y6.mono ?_; clear Y6; rintro e w7 ⟨rfl, hB7⟩))
          have q5 := hB5.size
          have q6 := hB6.size
          have hB8 : Below w3.heap.size w3 w7 := hB5.trans ((hB6.mono q5).trans (hB7.mono (by omega)))
          have hT8 := hT3.below hB8
          have B8 : Below w.heap.size w w7 := B3.trans (hB8.mono B3.size)
          clear hT3 hB3 B3 hv5 hB5 hv6 hB6 hB7 hT2 B2 hB8 q5 q6
          go_loopg [14] os3.length (fun k s wr => ∃ i : Nat, s = .int .i64 (i : Int) ∧ i + k = os3.length ∧ Two wr w.heap.size b c (runF s1 (os3.take i)) (runF s1 (os3.take i)) ∧ Below w.heap.size w wr)
          case atStart => exact ⟨0, rfl, by omega, hT8, B8⟩
          case round =>
            obtain ⟨i, rfl, hi, hT, B⟩ := hrel
            clear hT8 B8
            by_cases hlt : i < os3.length
            · have hroom : Roomy (runF s1 (os3.take i)).lg (runF s1 (os3.take i)).ah := roomy_small (hp1.runF _) (by have := lgle2 (os3.take i); rw [List.length_take] at this; omega)
              have D := hT.access B.size hroom (os3[i]?.getD noO)
              have D' := fun (W' : World) (hT' : Two W' w.heap.size b c (stp (os3[i]?.getD noO) 0 (runF s1 (os3.take i))) (runF s1 (os3.take i))) (hB' : Below w.heap.size w W') => hT'.swap.access hB'.size hroom (os3[i]?.getD noO)
              rcases ho3.2 with h0 | ⟨bo, oo, rfl, hbo, hc⟩
              · rw [h0] at hlt; simp at hlt
              have hcW := fun (W' : World) (hW : Below w.heap.size w W') (q : Nat) (u : Value) (hu : w.cell? ⟨bo, q, none⟩ = some u) => (hW.cell (p := ⟨bo, q, none⟩) hbo).trans hu
              obtain ⟨c0, c1, c2, c3, c4, c5⟩ := hc i hlt
              have hsn := runF_snoc s1 os3 i hlt
              replace hsn := Mr.hid hsn
              clear hc ho3 hs hroom hp1 lgle2 hl1 hwl
              replace hT := Mr.hid hT
              generalize os3[i]?.getD noO = o at *
              have g0 := hcW wr B _ _ c0
              have g1 := hcW wr B _ _ c1
              have g2 := hcW wr B _ _ c2
              have g3 := hcW wr B _ _ c3
              have g4 := hcW wr B _ _ c4
              have g5 := hcW wr B _ _ c5
              go_wp2_with (first | (go_at_call 9; refine D.mono ?_; clear D; rintro e w3 ⟨rfl, hT3, hB3⟩; have B3 := B.trans hB3; have D3 := D' w3 hT3 B3; clear D' hT3; have f0 := hcW w3 B3 _ _ c0; have f1 := hcW w3 B3 _ _ c1; have f2 := hcW w3 B3 _ _ c2; have f3 := hcW w3 B3 _ _ c3; have f4 := hcW w3 B3 _ _ c4; have f5 := hcW w3 B3 _ _ c5; clear hcW) | (go_at_call 9; refine D3.mono ?_; clear D3; rintro e w4 ⟨rfl, hT4, hB4⟩))
              go_roundg (gk - 1)
              case measure => omega
              case rel => exact ⟨i + 1, by simp, by omega, by rw [hsn.out]; exact hT4.swap, B3.trans hB4⟩
            · obtain rfl : i = os3.length := by omega
              rw [List.take_length] at hT
              have hp3 : Pl ws (runF s1 os3) := hp1.runF os3
              have hl3 : (runF s1 os3).lg.length ≤ 2097152 := by have := lgle2 os3; omega
              generalize runF s1 os3 = s3 at *
              have hw3 : s3.ws.length = ws.length := hp3.len
              have hl3' : (s3.lg.length : Int) ≤ 2097152 := by omega
              have hok3 : ∀ j, j < s3.lg.length → 0 ≤ (s3.lg[j]?.getD noAcc).ad ∧ (s3.lg[j]?.getD noAcc).ad < ws.length := fun j hj => hp3.ok _ (by rw [List.getElem?_eq_getElem hj]; simp)
              have hw8 : ws.length ≤ 8192 := by have := hs.1; omega
              clear hp3 hp1 lgle2 hl1 hwl ho3 hi hlt
              replace hw3 := Mr.hid hw3
              have N1 := hT.count
              have L1 := hT.logged (by omega)
              replace hT := Mr.hid hT
              go_upto_region 26 with (first | (go_at_call 14; refine N1.mono ?_; clear N1; rintro e w4 ⟨rfl, hw4⟩; obtain rfl := hw4.symm) | (go_at_call 10; refine L1.mono ?_; clear L1; rintro e w5 ⟨vn, vq, rfl, hvq, hB5⟩; have hT5 := hT.out.below hB5; have N5 := hT5.swap.count; have L5 := hT5.swap.logged (by omega); replace hT5 := Mr.hid hT5) | (go_at_call 14; refine N5.mono ?_; clear N5; rintro e w6 ⟨rfl, hw6⟩; obtain rfl := hw6.symm) | (go_at_call 10; refine L5.mono ?_; clear L5; rintro e w7 ⟨vn7, vq7, rfl, hvq7, hB7⟩))
              have hT7 : Two w7 w.heap.size b c s3 s3 := hT5.out.below hB7
              have B5 : Below w.heap.size w w7 := (B.trans (hB5.mono B.size)).trans (hB7.mono (by have := B.size; have := hB5.size; omega))
              have hvq1 := hvq.below hB7
              have Y := sameLog_same hvq1 hvq7 (by omega)
              have X : ∀ W', Below w7.heap.size w7 W' → _ := fun W' h => (hT7.below h).words
              have X' : ∀ W', Below w7.heap.size w7 W' → _ := fun W' h => (hT7.below h).swap.words
              have N : ∀ W', Below w7.heap.size w7 W' → _ := fun W' h => (hT7.below h).count
              have V : ∀ {W' : World} {S T : Nat → Prop} {u v : Value}, Has W' S 25 1 u s3.ws.length (wrd s3.ws) → Has W' T 25 1 v s3.ws.length (wrd s3.ws) → _ := fun h1 h2 => sameWords_same h1 h2 (by have := hw3.out; omega)
              clear hvq7 hT hT5 hB5 hB7 B
              obtain ⟨aq, cq, rfl, _⟩ := hvq.form
              clear hvq
              replace hT7 := Mr.hid hT7
              go_wp2_with (first | (go_at_call 17; refine Y.mono ?_; clear Y; rintro e w8 ⟨rfl, hB8⟩; have X8 := X w8 hB8; clear X) | (go_at_call 12; refine X8.mono ?_; clear X8; rintro e w9 ⟨v9, rfl, hv9, hB9⟩; have B9 := hB8.trans (hB9.mono hB8.size); have X9 := X' w9 B9; clear X') | (go_at_call 12; refine X9.mono ?_; clear X9; rintro e w10 ⟨v10, rfl, hv10, hB10⟩; have B10 := B9.trans (hB10.mono B9.size); have Y10 := V (hv9.below hB10) hv10; clear V; obtain ⟨a9, c9, rfl, _⟩ := hv9.form; obtain ⟨a10, c10, rfl, _⟩ := hv10.form; clear hv9 hv10) | (go_at_call 13; refine Y10.mono ?_; clear Y10; rintro e w11 ⟨rfl, hB11⟩; have B11 := B10.trans (hB11.mono B10.size); have N11 := N w11 B11; clear N) | (go_at_call 14; refine N11.mono ?_; clear N11; rintro e w12 ⟨rfl, hw12⟩; obtain rfl := hw12.symm))
              have hvq2 := hvq1.below B11
              have hT11 := hT7.out.below B11
              have B12 : Below w.heap.size w w11 := B5.trans (B11.mono B5.size)
              clear hvq1 hT7 B11 B5 B9 B10 hB8 hB9 hB10 hB11
              have hnw := Mr.hid hs.1
              go_loopg [21] ws.length (fun k s wr => ∃ i : Nat, s = .int .i64 (i : Int) ∧ i + k = ws.length ∧ Below w11.heap.size w11 wr)
              case atStart => exact ⟨0, rfl, by omega, Below.refl _ _⟩
              case round =>
                obtain ⟨i, rfl, hi, B⟩ := hrel
                have hi := Mr.hid hi
                by_cases hlt : i < n ∧ i < 100
                · have d1 : decide ((i : Int) < (n : Int)) = true := by simp; omega
                  have d2 : decide ((i : Int) < 100) = true := by simp; omega
                  have d3 : decide (i < n) = true := by simp; omega
                  have d4 : decide (i < 100) = true := by simp; omega
                  have hi3 : i < s3.ws.length := by have := hw3.out; have := hnw.out; omega
                  have P1 := (hT11.below B).writer (by omega) i hi3
                  have P2 : ∀ W', Below wr.heap.size wr W' → _ := fun W' h => ((hT11.below B).below h).swap.writer (by omega) i hi3
                  clear hs hT11 hvq2 hok3
                  generalize (lastW i (ent s3.lg 0 s3.lg.length)).1 = x1 at *
                  generalize (lastW i (ent s3.lg 0 s3.lg.length)).2 = x2 at *
                  go_wp2_with (first | (go_at_call 18; refine P1.mono ?_; clear P1; rintro e w4 ⟨rfl, hB4⟩; have P4 := P2 w4 hB4; clear P2) | (go_at_call 18; refine P4.mono ?_; clear P4; rintro e w5 ⟨rfl, hB5⟩) | (go_at_call 15; refine (num_any _ _).mono ?_; rintro e w6 ⟨rfl, hw6⟩; obtain rfl := hw6.symm))
                  go_roundg (gk - 1)
                  case measure => have := hi.out; have := hnw.out; omega
                  case rel => exact ⟨i + 1, by simp, by have := hi.out; have := hnw.out; omega, (B.trans (hB4.mono B.size)).trans (hB5.mono (by have := B.size; have := hB4.size; omega))⟩
                · have d0 : i < n → 100 ≤ i := by omega
                  have H := behind_any (hs.below (B12.trans (B.mono B12.size))) (hvq2.below B) hn8 (by omega) hok3
                  have fin : ∀ W', Below wr.heap.size wr W' → Below w.heap.size w W' := fun W' h => B12.trans ((B.mono B12.size).trans (h.mono (by have := B.size; have := B12.size; omega)))
                  clear hs hT11 hvq2 hok3
                  by_cases hin : i < n
                  · have d1 : decide ((i : Int) < (n : Int)) = true := by simp; omega
                    have d2 : decide ((i : Int) < 100) = false := by simp; omega
                    have d3 : decide (i < n) = true := by simp; omega
                    have d4 : decide (i < 100) = false := by simp; omega
                    go_wp2_with (go_at_call 11; refine H.mono ?_; clear H; rintro e w6 ⟨v6, rfl, _, hB6⟩)
                    go_ret
                    exact ⟨rfl, fin _ hB6⟩
                  · have d1 : decide ((i : Int) < (n : Int)) = false := by simp; omega
                    have d3 : decide (i < n) = false := by simp; omega
                    go_wp2_with (go_at_call 11; refine H.mono ?_; clear H; rintro e w6 ⟨v6, rfl, _, hB6⟩)
                    go_ret
                    exact ⟨rfl, fin _ hB6⟩
end Go.Proofs.Ytclejnakmlmpjab.Me
