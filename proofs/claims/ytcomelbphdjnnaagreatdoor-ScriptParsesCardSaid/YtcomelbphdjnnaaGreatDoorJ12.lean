import Derived.Test.YtcomelbphdjnnaaGreatDoorChecked
import Derived.WalkKit
import Derived.WalkSpells
import Derived.OpenShut
import Derived.Outline
import Derived.Below
import Derived.Test.YtcomelbphdjnnaaGreatDoorJ11
import Derived.BigRegion
/-
  CONTRACTS over api.Config: Check, the document's Config, small.
-/
namespace Go.Proofs.YtcomelbphdjnnaaGreatDoor.Wc
open Go.RowKit
set_option linter.unusedVariables false

def inB (n a b : Int) : Bool := decide (a ≤ n) && decide (n ≤ b)
def cfgB (a0 a1 a2 a3 a4 a5 a6 : Int) : Bool := inB a0 1 16 && inB a1 1 16 && inB a2 3 8 && inB a3 1 1024 && inB a4 0 64 && inB a5 1 1024 && inB a6 1 64

theorem within_any (n a b : Int) (w : World) :
    Calls Tryz.prog 26 #[.int .i64 n, .int .i64 a, .int .i64 b] w fun e w' => e = .returned (.bool (inB n a b)) ∧ w' = w := by
  by_cases h : a ≤ n
  · go_enter Tryz.func26, Tryz.ntmps26
    go_wp2
    go_ret
    exact ⟨by simp [inB, h], rfl⟩
  · go_enter Tryz.func26, Tryz.ntmps26
    go_wp2
    go_ret
    exact ⟨by simp [inB]; omega, rfl⟩

def chkN (b : Bool) : Int := if b then 0 else 1
theorem cfg_cases (a0 a1 a2 a3 a4 a5 a6 : Int) :
    inB a0 1 16 = false ∨ (inB a0 1 16 = true ∧ inB a1 1 16 = false) ∨ (inB a0 1 16 = true ∧ inB a1 1 16 = true ∧ inB a2 3 8 = false) ∨
    (inB a0 1 16 = true ∧ inB a1 1 16 = true ∧ inB a2 3 8 = true ∧ inB a3 1 1024 = false) ∨
    (inB a0 1 16 = true ∧ inB a1 1 16 = true ∧ inB a2 3 8 = true ∧ inB a3 1 1024 = true ∧ inB a4 0 64 = false) ∨
    (inB a0 1 16 = true ∧ inB a1 1 16 = true ∧ inB a2 3 8 = true ∧ inB a3 1 1024 = true ∧ inB a4 0 64 = true ∧ inB a5 1 1024 = false) ∨
    (inB a0 1 16 = true ∧ inB a1 1 16 = true ∧ inB a2 3 8 = true ∧ inB a3 1 1024 = true ∧ inB a4 0 64 = true ∧ inB a5 1 1024 = true ∧ inB a6 1 64 = false) ∨
    (inB a0 1 16 = true ∧ inB a1 1 16 = true ∧ inB a2 3 8 = true ∧ inB a3 1 1024 = true ∧ inB a4 0 64 = true ∧ inB a5 1 1024 = true ∧ inB a6 1 64 = true) := by
  cases inB a0 1 16 <;> cases inB a1 1 16 <;> cases inB a2 3 8 <;> cases inB a3 1 1024 <;> cases inB a4 0 64 <;> cases inB a5 1 1024 <;> cases inB a6 1 64 <;> simp

set_option maxHeartbeats 1000000 in
theorem check_any (a0 a1 a2 a3 a4 a5 a6 : Int) (w : World) :
    Calls Tryz.prog 13 #[.agg #[.int .i64 a0, .int .i64 a1, .int .i64 a2, .int .i64 a3, .int .i64 a4, .int .i64 a5, .int .i64 a6]] w fun e w' =>
      e = .returned (.int .i64 (chkN (cfgB a0 a1 a2 a3 a4 a5 a6))) ∧ Below w.heap.size w w' := by
  rcases cfg_cases a0 a1 a2 a3 a4 a5 a6 with h0 | ⟨h0, h1⟩ | ⟨h0, h1, h2⟩ | ⟨h0, h1, h2, h3⟩ | ⟨h0, h1, h2, h3, h4⟩ | ⟨h0, h1, h2, h3, h4, h5⟩ | ⟨h0, h1, h2, h3, h4, h5, h6⟩ | ⟨h0, h1, h2, h3, h4, h5, h6⟩
  all_goals
    go_enter Tryz.func13, Tryz.ntmps13
    go_wp2_with (go_at_call 26; refine (within_any _ _ _ _).mono ?_; rintro e w' ⟨rfl, rfl⟩)
    go_ret
    exact ⟨by simp [chkN, cfgB, *], (Below.refl _ _).alloc (Nat.le_refl _) _⟩

theorem dec_cases (a0 a1 a2 a3 a4 a5 a6 : Int) (P : Prop)
    (k0 : inB a0 1 16 = false → P) (k1 : 1 ≤ a0 → a0 ≤ 16 → inB a1 1 16 = false → P) (k2 : 1 ≤ a0 → a0 ≤ 16 → 1 ≤ a1 → a1 ≤ 16 → inB a2 3 8 = false → P)
    (k3 : 1 ≤ a0 → a0 ≤ 16 → 1 ≤ a1 → a1 ≤ 16 → 3 ≤ a2 → a2 ≤ 8 → inB a3 1 1024 = false → P)
    (k4 : 1 ≤ a0 → a0 ≤ 16 → 1 ≤ a1 → a1 ≤ 16 → 3 ≤ a2 → a2 ≤ 8 → 1 ≤ a3 → a3 ≤ 1024 → inB a4 0 64 = false → P)
    (k5 : 1 ≤ a0 → a0 ≤ 16 → 1 ≤ a1 → a1 ≤ 16 → 3 ≤ a2 → a2 ≤ 8 → 1 ≤ a3 → a3 ≤ 1024 → 0 ≤ a4 → a4 ≤ 64 → inB a5 1 1024 = false → P)
    (k6 : 1 ≤ a0 → a0 ≤ 16 → 1 ≤ a1 → a1 ≤ 16 → 3 ≤ a2 → a2 ≤ 8 → 1 ≤ a3 → a3 ≤ 1024 → 0 ≤ a4 → a4 ≤ 64 → 1 ≤ a5 → a5 ≤ 1024 → inB a6 1 64 = false → P)
    (k7 : 1 ≤ a0 → a0 ≤ 16 → 1 ≤ a1 → a1 ≤ 16 → 3 ≤ a2 → a2 ≤ 8 → 1 ≤ a3 → a3 ≤ 1024 → 0 ≤ a4 → a4 ≤ 64 → 1 ≤ a5 → a5 ≤ 1024 → 1 ≤ a6 → a6 ≤ 64 → P) : P := by
  have q : ∀ n a b, inB n a b = true → a ≤ n ∧ n ≤ b := by intro n a b h; simpa [inB] using h
  rcases cfg_cases a0 a1 a2 a3 a4 a5 a6 with h0 | ⟨h0, h1⟩ | ⟨h0, h1, h2⟩ | ⟨h0, h1, h2, h3⟩ | ⟨h0, h1, h2, h3, h4⟩ | ⟨h0, h1, h2, h3, h4, h5⟩ | ⟨h0, h1, h2, h3, h4, h5, h6⟩ | ⟨h0, h1, h2, h3, h4, h5, h6⟩
  · exact k0 h0
  · exact k1 (q _ _ _ h0).1 (q _ _ _ h0).2 h1
  · exact k2 (q _ _ _ h0).1 (q _ _ _ h0).2 (q _ _ _ h1).1 (q _ _ _ h1).2 h2
  · exact k3 (q _ _ _ h0).1 (q _ _ _ h0).2 (q _ _ _ h1).1 (q _ _ _ h1).2 (q _ _ _ h2).1 (q _ _ _ h2).2 h3
  · exact k4 (q _ _ _ h0).1 (q _ _ _ h0).2 (q _ _ _ h1).1 (q _ _ _ h1).2 (q _ _ _ h2).1 (q _ _ _ h2).2 (q _ _ _ h3).1 (q _ _ _ h3).2 h4
  · exact k5 (q _ _ _ h0).1 (q _ _ _ h0).2 (q _ _ _ h1).1 (q _ _ _ h1).2 (q _ _ _ h2).1 (q _ _ _ h2).2 (q _ _ _ h3).1 (q _ _ _ h3).2 (q _ _ _ h4).1 (q _ _ _ h4).2 h5
  · exact k6 (q _ _ _ h0).1 (q _ _ _ h0).2 (q _ _ _ h1).1 (q _ _ _ h1).2 (q _ _ _ h2).1 (q _ _ _ h2).2 (q _ _ _ h3).1 (q _ _ _ h3).2 (q _ _ _ h4).1 (q _ _ _ h4).2 (q _ _ _ h5).1 (q _ _ _ h5).2 h6
  · exact k7 (q _ _ _ h0).1 (q _ _ _ h0).2 (q _ _ _ h1).1 (q _ _ _ h1).2 (q _ _ _ h2).1 (q _ _ _ h2).2 (q _ _ _ h3).1 (q _ _ _ h3).2 (q _ _ _ h4).1 (q _ _ _ h4).2 (q _ _ _ h5).1 (q _ _ _ h5).2 (q _ _ _ h6).1 (q _ _ _ h6).2

end Go.Proofs.YtcomelbphdjnnaaGreatDoor.Wc
/-
  SCRIPT: machine and line, where nothing is wrong.
-/
namespace Go.Proofs.YtcomelbphdjnnaaGreatDoor.Sc
open Go.RowKit Mr
set_option linter.unusedVariables false
set_option linter.unusedSimpArgs false
set_option maxRecDepth 100000
/-- The configuration of seven numbers. -/
def cfN (ns : List Int) : Cf := ⟨ns.getD 0 0, ns.getD 1 0, ns.getD 2 0, ns.getD 3 0, ns.getD 4 0, ns.getD 5 0, ns.getD 6 0⟩
def cfgC (c : Cf) : Bool := Wc.cfgB c.c0 c.c1 c.c2 c.c3 c.c4 c.c5 c.c6
/-- What the machine's line comes to: an error's number, 0: none. -/
def macE (ws : List (List UInt8)) : Int :=
  if formL ws = fMachine then (if wholeL ws = true then (if cfgC (cfN (numsL ws)) = true then 0 else 1) else 171) else 170
theorem fMachine_words : ((words fMachine).filter (· == [48])).length = 7 := by decide +kernel
set_option maxHeartbeats 16000000 in
theorem machine_ok (w0 : World) (R : Nat) (cf : Cf) (v : Value) (ms : List Mv) (ws : List (List UInt8)) (a : Option Addr) (n c : Nat) (w : World) (E : Env w0) (hB : Below w0.heap.size w0 w) (hR : Rd w0.heap.size R w cf v ms) (hW : WsAt w a n ws) (hg : ∀ x ∈ ws, Gw x) (hn : n ≤ 1048576) (hsz : ∀ x ∈ ws, x.length ≤ 1048576) (hok : macE ws = 0) :
    Calls Tryz.prog 48 #[.pointer (some ⟨R, 0, none⟩), .slice a n c] w fun e w' => e = .returned .nilIface ∧ Rd w0.heap.size R w' (cfN (numsL ws)) v ms ∧ Below w0.heap.size w0 w' := by
  have q1 : formL ws = fMachine := by
    by_cases h : formL ws = fMachine
    · exact h
    · unfold macE at hok; rw [if_neg h] at hok; cases hok
  have q2 : wholeL ws = true := by
    cases h : wholeL ws with
    | true => rfl
    | false => unfold macE at hok; rw [if_pos q1, h] at hok; cases hok
  have q3 : cfgC (cfN (numsL ws)) = true := by
    cases h : cfgC (cfN (numsL ws)) with
    | true => rfl
    | false => unfold macE at hok; rw [if_pos q1, if_pos q2, h] at hok; cases hok
  have hFo := Mr.hid (formOf_any ws a n c w hW hn hsz)
  have hNo := Mr.hid (fun W (hBW : Below w.heap.size w W) => numbersOf_any ws a n c W (E.below (hB.trans (hBW.mono hB.size))) (hW.below hBW) hn hsz)
  have hq := (nums_of hg q1).trans fMachine_words
  rw [q1] at hFo
  rw [q2] at hNo
  have Ck := Mr.hid (fun W => Wc.check_any (cfN (numsL ws)).c0 (cfN (numsL ws)).c1 (cfN (numsL ws)).c2 (cfN (numsL ws)).c3 (cfN (numsL ws)).c4 (cfN (numsL ws)).c5 (cfN (numsL ws)).c6 W)
  have q4 : Wc.chkN (Wc.cfgB (cfN (numsL ws)).c0 (cfN (numsL ws)).c1 (cfN (numsL ws)).c2 (cfN (numsL ws)).c3 (cfN (numsL ws)).c4 (cfN (numsL ws)).c5 (cfN (numsL ws)).c6) = 0 := by unfold cfgC at q3; rw [q3]; rfl
  rw [q4] at Ck
  have hget : Hid (∀ j, j < 7 → (ints (numsL ws))[j]? = some (.int .i64 ((numsL ws).getD j 0))) := fun j hj => by
    simp only [ints, List.getElem?_map, List.getD_eq_getElem?_getD, List.getElem?_eq_getElem (show j < (numsL ws).length by omega)]; rfl
  generalize hcn : cfN (numsL ws) = cn at *
  obtain ⟨n0, n1, n2, n3, n4, n5, n6⟩ := cn
  unfold cfN at hcn
  injection hcn with g0 g1 g2 g3 g4 g5 g6
  have hF0 : ¬ (⟨fMachine.toArray⟩ : ByteArray).toList ≠ (⟨fMachine.toArray⟩ : ByteArray).toList := fun h => h rfl
  replace hR := Mr.hid hR
  replace hB := Mr.hid hB
  have hg0 := Mr.hid (And.intro g0 (And.intro g1 (And.intro g2 (And.intro g3 (And.intro g4 (And.intro g5 g6))))))
  dsimp only at *
  clear q1 q2 q3 q4 hok E hW hg hsz g0 g1 g2 g3 g4 g5 g6
  go_enter Tryz.func48, Tryz.ntmps48
  go_upto_region 3 with (go_at_call 65; refine hFo.out.mono ?_; clear hFo; rintro e w1 ⟨rfl, B1⟩)
  have N1 := Mr.hid (hNo.out w1 B1)
  clear hNo
  go_upto_region 6 with (go_at_call 66; refine N1.out.mono ?_; clear N1; rintro e w2 ⟨u, rfl, hu, B2⟩)
  obtain ⟨gu, capu, rfl, -, hgu, hcap, -⟩ := hu.there (by omega)
  rw [hq] at hu
  obtain ⟨g0, g1, g2, g3, g4, g5, g6⟩ := hg0.out
  have y0 : w2.cell? ⟨gu, 0, none⟩ = some (.int .i64 n0) := hu.cells (g := gu) rfl 0 _ ((hget.out 0 (by decide)).trans (by rw [g0]))
  have y1 : w2.cell? ⟨gu, 1, none⟩ = some (.int .i64 n1) := hu.cells (g := gu) rfl 1 _ ((hget.out 1 (by decide)).trans (by rw [g1]))
  have y2 : w2.cell? ⟨gu, 2, none⟩ = some (.int .i64 n2) := hu.cells (g := gu) rfl 2 _ ((hget.out 2 (by decide)).trans (by rw [g2]))
  have y3 : w2.cell? ⟨gu, 3, none⟩ = some (.int .i64 n3) := hu.cells (g := gu) rfl 3 _ ((hget.out 3 (by decide)).trans (by rw [g3]))
  have y4 : w2.cell? ⟨gu, 4, none⟩ = some (.int .i64 n4) := hu.cells (g := gu) rfl 4 _ ((hget.out 4 (by decide)).trans (by rw [g4]))
  have y5 : w2.cell? ⟨gu, 5, none⟩ = some (.int .i64 n5) := hu.cells (g := gu) rfl 5 _ ((hget.out 5 (by decide)).trans (by rw [g5]))
  have y6 : w2.cell? ⟨gu, 6, none⟩ = some (.int .i64 n6) := hu.cells (g := gu) rfl 6 _ ((hget.out 6 (by decide)).trans (by rw [g6]))
  have hB2 : Hid (Below w0.heap.size w0 w2) := (hB.out.trans (B1.mono hB.out.size)).trans (B2.mono (Nat.le_trans hB.out.size B1.size))
  have hR2 : Hid (Rd w0.heap.size R w2 cf v ms) := (hR.out.below B1).below B2
  have hqI : ((7 : Nat) : Int) = 7 := rfl
  rw [hq]
  clear g0 g1 g2 g3 g4 g5 g6 hg0 hu hget hR hB B1 B2 hq
  go_region_held3 (fun W => W.cell? ⟨gu, 0, none⟩ = some (.int .i64 n0) ∧ W.cell? ⟨gu, 1, none⟩ = some (.int .i64 n1) ∧ W.cell? ⟨gu, 2, none⟩ = some (.int .i64 n2) ∧ W.cell? ⟨gu, 3, none⟩ = some (.int .i64 n3) ∧ W.cell? ⟨gu, 4, none⟩ = some (.int .i64 n4) ∧ W.cell? ⟨gu, 5, none⟩ = some (.int .i64 n5) ∧ W.cell? ⟨gu, 6, none⟩ = some (.int .i64 n6)) (simp [*, go_sem]) (fail)
  have B3 : Hid (Below w2.heap.size w2 (w2.drew.alloc (.cells #[.int .i64 n0, .int .i64 n1, .int .i64 n2, .int .i64 n3, .int .i64 n4, .int .i64 n5, .int .i64 n6] 23))) := ((Below.refl _ _).drew).alloc (Nat.le_refl _) _
  go_upto_region 10 with (go_at_call 13; refine (Ck.out _).mono ?_; clear Ck; rintro e w4 ⟨rfl, B4⟩)
  have hcb : w4.heap[w2.heap.size]? = some (.cells #[.int .i64 n0, .int .i64 n1, .int .i64 n2, .int .i64 n3, .int .i64 n4, .int .i64 n5, .int .i64 n6] 23 (0, 0)) := (B4.block _ (by simp)).trans (new_at _ _ _ rfl)
  have BB : Below w2.heap.size w2 w4 := B3.out.trans (B4.mono (by simp))
  have hR4 := hR2.out.below BB
  have hB4 : Hid (Below w0.heap.size w0 w4) := hB2.out.trans (BB.mono hB2.out.size)
  have z0 := cell_blk hcb 0
  have z1 := cell_blk hcb 1
  have z2 := cell_blk hcb 2
  have z3 := cell_blk hcb 3
  have z4 := cell_blk hcb 4
  have z5 := cell_blk hcb 5
  have z6 := cell_blk hcb 6
  have hbx4 := hR4.box
  have hbx4' := hbx4
  unfold cfO at hbx4'
  have x0 := cell_blk hbx4' 0
  have x1 := cell_blk hbx4' 1
  have x2 := cell_blk hbx4' 2
  have x3 := cell_blk hbx4' 3
  have x4 := cell_blk hbx4' 4
  have x5 := cell_blk hbx4' 5
  have x6 := cell_blk hbx4' 6
  have hfz : ∀ k, w4.frozen? ⟨R, k, none⟩ = false := fun k => by simp [World.frozen?, hbx4']
  have hRl := hR4.lt
  have hlc := (Array.getElem?_eq_some_iff.1 hcb).1
  have hne : R ≠ w2.heap.size := by have := hR2.out.lt; omega
  have hne' : w2.heap.size ≠ R := fun e => hne e.symm
  have hfin : Hid (((((((((w4).setCell ⟨R, 0, none⟩ (.int .i64 n0)).setCell ⟨R, 1, none⟩ (.int .i64 n1)).setCell ⟨R, 2, none⟩ (.int .i64 n2)).setCell ⟨R, 3, none⟩ (.int .i64 n3)).setCell ⟨R, 4, none⟩ (.int .i64 n4)).setCell ⟨R, 5, none⟩ (.int .i64 n5)).setCell ⟨R, 6, none⟩ (.int .i64 n6)).heap[R]? = some (cfO ⟨n0, n1, n2, n3, n4, n5, n6⟩ v)) := ((setBlk (setBlk (setBlk (setBlk (setBlk (setBlk (setBlk hbx4' 0 (.int .i64 n0)) 1 (.int .i64 n1)) 2 (.int .i64 n2)) 3 (.int .i64 n3)) 4 (.int .i64 n4)) 5 (.int .i64 n5)) 6 (.int .i64 n6))).trans (by unfold cfO; rfl)
  have hrow4 := Mr.hid hR4.row
  have hlo := hR4.lo
  clear hbx4 hbx4' hR4 hR2 hB2 BB B3 B4 hcb y0 y1 y2 y3 y4 y5 y6
  go_wp2
  go_ret
  have hno : (v.ownBlock ≠ some R) := fun e => (hrow4.out.lt R e).1.2 rfl
  exact ⟨rfl, ⟨hfin.out, (((((((hrow4.out.setCell _ _ hno).setCell _ _ hno).setCell _ _ hno).setCell _ _ hno).setCell _ _ hno).setCell _ _ hno).setCell _ _ hno), hlo⟩, (((((((hB4.out.setCell (p := ⟨R, 0, none⟩) hlo _).setCell (p := ⟨R, 1, none⟩) hlo _).setCell (p := ⟨R, 2, none⟩) hlo _).setCell (p := ⟨R, 3, none⟩) hlo _).setCell (p := ⟨R, 4, none⟩) hlo _).setCell (p := ⟨R, 5, none⟩) hlo _).setCell (p := ⟨R, 6, none⟩) hlo _)⟩
end Go.Proofs.YtcomelbphdjnnaaGreatDoor.Sc
