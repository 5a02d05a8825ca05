/-
  SCRIPT: the machine's line, where something is wrong.
-/
import Derived.Test.YtfhkgeoionkonaaGreatDoorSeEnt
import Derived.Test.YtfhkgeoionkonaaGreatDoorScMac
namespace Go.Proofs.YtfhkgeoionkonaaGreatDoor.Sc
open Go.RowKit Mr
set_option linter.unusedVariables false
set_option linter.unusedSimpArgs false
set_option maxRecDepth 100000
set_option maxHeartbeats 16000000 in
theorem machine_form (w0 : World) (R : Nat) (cf : Cf) (v : Value) (ms : List Mv) (ws : List (List UInt8)) (a : Option Addr) (n c : Nat) (w : World) (E : Env w0) (hB : Below w0.heap.size w0 w) (hW : WsAt w a n ws) (hg : ∀ x ∈ ws, Gw x) (hn : n ≤ 1048576) (hsz : ∀ x ∈ ws, x.length ≤ 1048576) (h : formL ws ≠ fMachine) :
    Calls Tryz.prog 40 #[.pointer (some ⟨R, 0, none⟩), .slice a n c] w fun e w' => e = .returned (flt 170) ∧ Below w0.heap.size w0 w' := by
  have hFo := Mr.hid (formOf_any ws a n c w hW hn hsz)
  have hF1 : ¬ (⟨(formL ws).toArray⟩ : ByteArray).toList = fMachine := by rw [toList_of]; exact h
  have hF2 : ((⟨(formL ws).toArray⟩ : ByteArray).toList == fMachine) = false := beq_eq_false_iff_ne.2 hF1
  unfold fMachine at hF1 hF2
  generalize (⟨(formL ws).toArray⟩ : ByteArray) = F at *
  replace hB := Mr.hid hB
  clear hW hg hsz h E
  go_enter Tryz.func40, Tryz.ntmps40
  go_wp2_with (go_at_call 53; refine hFo.out.mono ?_; clear hFo; rintro e w1 ⟨rfl, B1⟩; have hB1 : Hid (Below w0.heap.size w0 w1) := hB.out.trans (B1.mono hB.out.size); clear B1)
  go_ret
  exact ⟨rfl, hB1.out⟩
set_option maxHeartbeats 16000000 in
theorem machine_digit (w0 : World) (R : Nat) (cf : Cf) (v : Value) (ms : List Mv) (ws : List (List UInt8)) (a : Option Addr) (n c : Nat) (w : World) (E : Env w0) (hB : Below w0.heap.size w0 w) (hW : WsAt w a n ws) (hg : ∀ x ∈ ws, Gw x) (hn : n ≤ 1048576) (hsz : ∀ x ∈ ws, x.length ≤ 1048576) (q1 : formL ws = fMachine) (q2 : wholeL ws = false) :
    Calls Tryz.prog 40 #[.pointer (some ⟨R, 0, none⟩), .slice a n c] w fun e w' => e = .returned (flt 171) ∧ Below w0.heap.size w0 w' := by
  have hFo := Mr.hid (formOf_any ws a n c w hW hn hsz)
  have hNo := Mr.hid (fun W (hBW : Below w.heap.size w W) => numbersOf_any ws a n c W (E.below (hB.trans (hBW.mono hB.size))) (hW.below hBW) hn hsz)
  have hq := (nums_of hg q1).trans fMachine_words
  rw [q1] at hFo
  rw [q2] at hNo
  have hF0 : ¬ (⟨fMachine.toArray⟩ : ByteArray).toList ≠ (⟨fMachine.toArray⟩ : ByteArray).toList := fun h => h rfl
  replace hB := Mr.hid hB
  clear q1 q2 E hW hg hsz
  go_enter Tryz.func40, Tryz.ntmps40
  go_upto_region 3 with (go_at_call 53; refine hFo.out.mono ?_; clear hFo; rintro e w1 ⟨rfl, B1⟩)
  have N1 := Mr.hid (hNo.out w1 B1)
  have hB1 : Hid (Below w0.heap.size w0 w1) := hB.out.trans (B1.mono hB.out.size)
  clear hNo hB B1 hq
  go_wp2_with (go_at_call 54; refine N1.out.mono ?_; clear N1; rintro e w2 ⟨u, rfl, hu, B2⟩; have hB2 : Hid (Below w0.heap.size w0 w2) := hB1.out.trans (B2.mono hB1.out.size); clear B2 hu)
  go_ret
  exact ⟨rfl, hB2.out⟩
set_option maxHeartbeats 16000000 in
theorem machine_cfg (w0 : World) (R : Nat) (cf : Cf) (v : Value) (ms : List Mv) (ws : List (List UInt8)) (a : Option Addr) (n c : Nat) (w : World) (E : Env w0) (hB : Below w0.heap.size w0 w) (hW : WsAt w a n ws) (hg : ∀ x ∈ ws, Gw x) (hn : n ≤ 1048576) (hsz : ∀ x ∈ ws, x.length ≤ 1048576) (q1 : formL ws = fMachine) (q2 : wholeL ws = true) (q3 : cfgC (cfN (numsL ws)) = false) :
    Calls Tryz.prog 40 #[.pointer (some ⟨R, 0, none⟩), .slice a n c] w fun e w' => e = .returned (flt 1) ∧ Below w0.heap.size w0 w' := by
  have hFo := Mr.hid (formOf_any ws a n c w hW hn hsz)
  have hNo := Mr.hid (fun W (hBW : Below w.heap.size w W) => numbersOf_any ws a n c W (E.below (hB.trans (hBW.mono hB.size))) (hW.below hBW) hn hsz)
  have hq := (nums_of hg q1).trans fMachine_words
  rw [q1] at hFo
  rw [q2] at hNo
  have Ck := Mr.hid (fun W => Wc.check_any (cfN (numsL ws)).c0 (cfN (numsL ws)).c1 (cfN (numsL ws)).c2 (cfN (numsL ws)).c3 (cfN (numsL ws)).c4 (cfN (numsL ws)).c5 (cfN (numsL ws)).c6 W)
  have q4 : Wc.chkN (Wc.cfgB (cfN (numsL ws)).c0 (cfN (numsL ws)).c1 (cfN (numsL ws)).c2 (cfN (numsL ws)).c3 (cfN (numsL ws)).c4 (cfN (numsL ws)).c5 (cfN (numsL ws)).c6) = 1 := by unfold cfgC at q3; rw [q3]; rfl
  rw [q4] at Ck
  have hget : Hid (∀ j, j < 7 → (ints (numsL ws))[j]? = some (.int .i64 ((numsL ws).getD j 0))) := fun j hj => by
    simp only [ints, List.getElem?_map, List.getD_eq_getElem?_getD, List.getElem?_eq_getElem (show j < (numsL ws).length by omega)]; rfl
  generalize hcn : cfN (numsL ws) = cn at *
  obtain ⟨n0, n1, n2, n3, n4, n5, n6⟩ := cn
  unfold cfN at hcn
  injection hcn with g0 g1 g2 g3 g4 g5 g6
  have hF0 : ¬ (⟨fMachine.toArray⟩ : ByteArray).toList ≠ (⟨fMachine.toArray⟩ : ByteArray).toList := fun h => h rfl
  replace hB := Mr.hid hB
  have hg0 := Mr.hid (And.intro g0 (And.intro g1 (And.intro g2 (And.intro g3 (And.intro g4 (And.intro g5 g6))))))
  dsimp only at *
  clear q1 q2 q3 q4 E hW hg hsz g0 g1 g2 g3 g4 g5 g6
  go_enter Tryz.func40, Tryz.ntmps40
  go_upto_region 3 with (go_at_call 53; refine hFo.out.mono ?_; clear hFo; rintro e w1 ⟨rfl, B1⟩)
  have N1 := Mr.hid (hNo.out w1 B1)
  clear hNo
  go_upto_region 6 with (go_at_call 54; refine N1.out.mono ?_; clear N1; rintro e w2 ⟨u, rfl, hu, B2⟩)
  obtain ⟨gu, capu, rfl, -, hgu, hcap, -⟩ := hu.there (by omega)
  rw [hq] at hu
  obtain ⟨g0, g1, g2, g3, g4, g5, g6⟩ := hg0.out
  have y0 : w2.cell? ⟨gu, 0, none⟩ = some (.int .i64 n0) := hu.cells (g := gu) rfl 0 _ ((hget.out 0 (by decide)).trans (by rw [g0]))
  have y1 : w2.cell? ⟨gu, 1, none⟩ = some (.int .i64 n1) := hu.cells (g := gu) rfl 1 _ ((hget.out 1 (by decide)).trans (by rw [g1]))
  have y2 : w2.cell? ⟨gu, 2, none⟩ = some (.int .i64 n2) := hu.cells (g := gu) rfl 2 _ ((hget.out 2 (by decide)).trans (by rw [g2]))
  have y3 : w2.cell? ⟨gu, 3, none⟩ = some (.int .i64 n3) := hu.cells (g := gu) rfl 3 _ ((hget.out 3 (by decide)).trans (by rw [g3]))
  have y4 : w2.cell? ⟨gu, 4, none⟩ = some (.int .i64 n4) := hu.cells (g := gu) rfl 4 _ ((hget.out 4 (by decide)).trans (by rw [g4]))
  have y5 : w2.cell? ⟨gu, 5, none⟩ = some (.int .i64 n5) := hu.cells (g := gu) rfl 5 _ ((hget.out 5 (by decide)).trans (by rw [g5]))
  have y6 : w2.cell? ⟨gu, 6, none⟩ = some (.int .i64 n6) := hu.cells (g := gu) rfl 6 _ ((hget.out 6 (by decide)).trans (by rw [g6]))
  have hB2 : Hid (Below w0.heap.size w0 w2) := (hB.out.trans (B1.mono hB.out.size)).trans (B2.mono (Nat.le_trans hB.out.size B1.size))
  have hqI : ((7 : Nat) : Int) = 7 := rfl
  rw [hq]
  clear g0 g1 g2 g3 g4 g5 g6 hg0 hu hget hB B1 B2 hq
  go_region_held3 (fun W => W.cell? ⟨gu, 0, none⟩ = some (.int .i64 n0) ∧ W.cell? ⟨gu, 1, none⟩ = some (.int .i64 n1) ∧ W.cell? ⟨gu, 2, none⟩ = some (.int .i64 n2) ∧ W.cell? ⟨gu, 3, none⟩ = some (.int .i64 n3) ∧ W.cell? ⟨gu, 4, none⟩ = some (.int .i64 n4) ∧ W.cell? ⟨gu, 5, none⟩ = some (.int .i64 n5) ∧ W.cell? ⟨gu, 6, none⟩ = some (.int .i64 n6)) (simp [*, go_sem]) (fail)
  have B3 : Hid (Below w2.heap.size w2 (w2.drew.alloc (.cells #[.int .i64 n0, .int .i64 n1, .int .i64 n2, .int .i64 n3, .int .i64 n4, .int .i64 n5, .int .i64 n6] 23))) := ((Below.refl _ _).drew).alloc (Nat.le_refl _) _
  clear y0 y1 y2 y3 y4 y5 y6
  go_wp2_with (go_at_call 24; refine (Ck.out _).mono ?_; clear Ck; rintro e w4 ⟨rfl, B4⟩; have hB4 : Hid (Below w0.heap.size w0 w4) := hB2.out.trans ((B3.out.trans (B4.mono (by simp))).mono hB2.out.size); clear B4 B3 hB2)
  go_ret
  exact ⟨rfl, hB4.out⟩
theorem machine_err (w0 : World) (R : Nat) (cf : Cf) (v : Value) (ms : List Mv) (ws : List (List UInt8)) (a : Option Addr) (n c : Nat) (w : World) (E : Env w0) (hB : Below w0.heap.size w0 w) (hW : WsAt w a n ws) (hg : ∀ x ∈ ws, Gw x) (hn : n ≤ 1048576) (hsz : ∀ x ∈ ws, x.length ≤ 1048576) (hok : macE ws ≠ 0) :
    Calls Tryz.prog 40 #[.pointer (some ⟨R, 0, none⟩), .slice a n c] w fun e w' => e = .returned (flt (macE ws)) ∧ Below w0.heap.size w0 w' := by
  unfold macE at hok ⊢
  by_cases h1 : formL ws = fMachine
  · rw [if_pos h1] at hok ⊢
    by_cases h2 : wholeL ws = true
    · rw [if_pos h2] at hok ⊢
      by_cases h3 : cfgC (cfN (numsL ws)) = true
      · rw [if_pos h3] at hok; exact absurd rfl hok
      · rw [if_neg h3]
        exact machine_cfg w0 R cf v ms ws a n c w E hB hW hg hn hsz h1 h2 (by simpa using h3)
    · rw [if_neg h2]
      exact machine_digit w0 R cf v ms ws a n c w E hB hW hg hn hsz h1 (by simpa using h2)
  · rw [if_neg h1]
    exact machine_form w0 R cf v ms ws a n c w E hB hW hg hn hsz h1
end Go.Proofs.YtfhkgeoionkonaaGreatDoor.Sc
