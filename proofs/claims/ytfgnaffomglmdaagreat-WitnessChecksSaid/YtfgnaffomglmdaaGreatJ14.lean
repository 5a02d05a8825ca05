import Derived.Test.YtfgnaffomglmdaaGreatJ12
import Derived.Deep.LoopGhost
import Derived.BigQuiet
/-
  WITNESS: each thread's last call, in an array of sixteen numbers.
-/
namespace Go.Proofs.YtfgnaffomglmdaaGreat.Wt
open Go.RowKit Mr Md
set_option linter.unusedVariables false
set_option linter.unusedSimpArgs false
def lastL (cs : List Cq) (i : Nat) : List Value := (List.range 16).map fun (t : Nat) => Value.int .i64 ((lastT cs (t : Int) i : Nat) : Int)
def lastA (cs : List Cq) (i : Nat) : Array Value := (lastL cs i).toArray
theorem lastA_get (cs : List Cq) (i : Nat) {t : Int} (h0 : 0 ≤ t) (h1 : t < 16) : (lastA cs i)[t.toNat]? = some (.int .i64 ((lastT cs t i : Nat) : Int)) := by
  have e : ((t.toNat : Nat) : Int) = t := by omega
  simp [lastA, lastL, show t.toNat < 16 by omega, e, show max t 0 = t by omega]
theorem lastA_zero (cs : List Cq) : lastA cs 0 = #[.int .i64 0, .int .i64 0, .int .i64 0, .int .i64 0, .int .i64 0, .int .i64 0, .int .i64 0, .int .i64 0, .int .i64 0, .int .i64 0, .int .i64 0, .int .i64 0, .int .i64 0, .int .i64 0, .int .i64 0, .int .i64 0] := by
  simp [lastA, lastL, lastT, List.range, List.range.loop]
theorem lastA_size (cs : List Cq) (i : Nat) : (lastA cs i).size = 16 := by simp [lastA, lastL]
theorem lastA_set {cs : List Cq} {i : Nat} {c : Cq} (hc : cs[i]? = some c) (h0 : 0 ≤ c.th) (h1 : c.th < 16) : (lastA cs i).setIfInBounds c.th.toNat (.int .i64 ((i : Int) + 1)) = lastA cs (i + 1) := by
  apply Array.ext
  · simp [lastA_size]
  · intro j hj1 hj2
    have hj : j < 16 := by simpa [lastA_size] using hj2
    rw [Array.getElem_setIfInBounds (by rw [lastA_size]; exact hj)]
    by_cases e : c.th.toNat = j
    · rw [if_pos e]
      have e2 : ((j : Nat) : Int) = c.th := by omega
      simp [lastA, lastL, e2, lastT_hit hc]
    · rw [if_neg e]
      have e2 : c.th ≠ ((j : Nat) : Int) := by omega
      simp [lastA, lastL, lastT_miss hc e2]
theorem make16 (W : World) :
    (Instr.makeSlice 23 (.int .i64 16) (.int .i64 16)).run Tryz.prog W = .ok (.slice (some ⟨W.heap.size, 0, none⟩) 16 16) (W.alloc (.cells #[.int .i64 0, .int .i64 0, .int .i64 0, .int .i64 0, .int .i64 0, .int .i64 0, .int .i64 0, .int .i64 0, .int .i64 0, .int .i64 0, .int .i64 0, .int .i64 0, .int .i64 0, .int .i64 0, .int .i64 0, .int .i64 0] 3 (0, 0))) := by
  obtain ⟨i0, hi, hz0, hz1, hz2⟩ := parts_of wt_int
  have h := run_make (P := Tryz.prog) W 23 3 i0 (.int .i64 0) Tryz.underlying23 hi hz0 .i64 .i64 16 16 (by omega) (Int.le_refl _) (by rw [hz2]; omega) (by omega)
  have e : (16 : Int).toNat = 16 := by decide
  rw [e, hz1, Nat.mul_one] at h
  have e2 : madeCells (Value.int .i64 0).cells 16 = #[.int .i64 0, .int .i64 0, .int .i64 0, .int .i64 0, .int .i64 0, .int .i64 0, .int .i64 0, .int .i64 0, .int .i64 0, .int .i64 0, .int .i64 0, .int .i64 0, .int .i64 0, .int .i64 0, .int .i64 0, .int .i64 0] := by kernel_rfl
  rw [e2] at h
  exact h
/-- The array's block. -/
structure Tn (W w : World) (b : Nat) (ty : TypeId) (cs : List Cq) (i : Nat) : Prop where
  bel : Below W.heap.size W w
  up : W.heap.size ≤ b
  box : w.heap[b]? = some (.cells (lastA cs i) ty (0, 0))
theorem Tn.below {W w w' : World} {b : Nat} {ty : TypeId} {cs : List Cq} {i : Nat} (h : Tn W w b ty cs i) (hB : Below w.heap.size w w') : Tn W w' b ty cs i :=
  ⟨h.bel.trans (hB.mono h.bel.size), h.up, (hB.block _ (Array.getElem?_eq_some_iff.1 h.box).1).trans h.box⟩
theorem Tn.get {W w : World} {b : Nat} {ty : TypeId} {cs : List Cq} {i : Nat} (h : Tn W w b ty cs i) {t : Int} (h0 : 0 ≤ t) (h1 : t < 16) : w.cell? ⟨b, t.toNat, none⟩ = some (.int .i64 ((lastT cs t i : Nat) : Int)) ∧ w.frozen? ⟨b, t.toNat, none⟩ = false ∧ b < w.heap.size := by
  refine ⟨?_, by simp [World.frozen?, h.box], (Array.getElem?_eq_some_iff.1 h.box).1⟩
  rw [cell_blk h.box, lastA_get cs i h0 h1]
theorem Tn.next {W w : World} {b : Nat} {ty : TypeId} {cs : List Cq} {i : Nat} (h : Tn W w b ty cs i) {c : Cq} (hc : cs[i]? = some c) (h0 : 0 ≤ c.th) (h1 : c.th < 16) : Tn W (w.setCell ⟨b, c.th.toNat, none⟩ (.int .i64 ((i : Int) + 1))) b ty cs (i + 1) :=
  ⟨h.bel.setCell (p := ⟨b, _, none⟩) h.up _, h.up, by rw [setBlk h.box, lastA_set hc h0 h1]⟩
end Go.Proofs.YtfgnaffomglmdaaGreat.Wt
/-
  WITNESS: inTurn.
-/
namespace Go.Proofs.YtfgnaffomglmdaaGreat.Wt
open Go.RowKit Mr Md
set_option linter.unusedVariables false
set_option linter.unusedSimpArgs false
set_option maxRecDepth 100000
set_option maxHeartbeats 8000000 in
theorem inTurn_any {W : World} {T : Nat → Prop} {v : Value} {cs : List Cq} (hv : Sl W T 9 v cs.length (cqs cs)) (hsm : cs.length * 72 ≤ 281474976710656) (hU : Up cs cs.length) (b : Bool) (hb : b = true ↔ Turn AhP cs cs.length) :
    Calls Tryz.prog 31 #[v] W fun e w' => e = .returned (.bool b) ∧ Below W.heap.size W w' := by
  obtain ⟨a, cap, rfl, hcap⟩ := hv.form
  obtain ⟨n, hn⟩ : ∃ n, n = cs.length := ⟨_, rfl⟩
  rw [← hn] at hsm hcap hb
  replace hU := Mr.hid hU
  replace hv := Mr.hid hv
  replace hb := Mr.hid hb
  rw [← hn]
  replace hn := Mr.hid hn
  have hT0 : ∀ w1, w1 = W.alloc (.cells #[.int .i64 0, .int .i64 0, .int .i64 0, .int .i64 0, .int .i64 0, .int .i64 0, .int .i64 0, .int .i64 0, .int .i64 0, .int .i64 0, .int .i64 0, .int .i64 0, .int .i64 0, .int .i64 0, .int .i64 0, .int .i64 0] 76 (0, 0)) → Tn W w1 W.heap.size 76 cs 0 := by
    rintro w1 rfl
    exact ⟨(Below.refl _ _).alloc (Nat.le_refl _) _, Nat.le_refl _, by rw [lastA_zero]; exact new_at _ _ _ rfl⟩
  replace hT0 := Mr.hid hT0
  go_enter Tryz.func31, Tryz.ntmps31
  go_upto_region 2 with (fail)
  have hT := hT0.out _ rfl
  clear hT0
  generalize (W.alloc (.cells #[.int .i64 0, .int .i64 0, .int .i64 0, .int .i64 0, .int .i64 0, .int .i64 0, .int .i64 0, .int .i64 0, .int .i64 0, .int .i64 0, .int .i64 0, .int .i64 0, .int .i64 0, .int .i64 0, .int .i64 0, .int .i64 0] 76 (0, 0))) = w1 at *
  obtain ⟨ba, hba⟩ : ∃ ba, ba = W.heap.size := ⟨_, rfl⟩
  rw [← hba] at hT
  rw [← hba]
  clear hba
  replace hT := Mr.hid hT
  go_wp2
  go_loopg [9] n (fun k s9 wr => ∃ i : Nat, s9 = .int .i64 (i : Int) ∧ i + k = n ∧ Turn AhP cs i ∧ Tn W wr ba 76 cs i)
  case atStart => exact ⟨0, rfl, by omega, Turn.zero _ _, hT.out⟩
  case round =>
    clear hT
    obtain ⟨i, rfl, hi, hR, hT⟩ := hrel
    by_cases hlt : i < n
    · obtain ⟨c, hci⟩ := get_of_lt (cs := cs) (i := i) (by have := hn.out; omega)
      obtain ⟨bc, oc, rfl, A9⟩ := call_at (hv.out.below hT.bel) hci
      obtain ⟨t0, t1, -, -⟩ := hU.out.fit (by have := hn.out; omega) hci
      have hTA := fun o => hT.below ((Below.refl wr.heap.size wr).alloc (Nat.le_refl _) o)
      have hbx : ∀ w1, w1 = wr.alloc (cqO c) → w1.heap[wr.heap.size]? = some (cqO c) := by rintro w1 rfl; exact new_at _ _ _ rfl
      obtain ⟨hbl, g0, g1, g2, g3, g4, g5, g6, g7, g8⟩ := A9
      obtain ⟨z1, z2, z3⟩ := (hTA (cqO c)).get t0 t1
      have hlI : (i : Int) < (n : Int) := by omega
      have hml := lastT_le cs c.th i
      unfold cqO at z1 z2
      replace hTA := Mr.hid hTA
      replace hbx := Mr.hid hbx
      replace hR := Mr.hid hR
      replace hci := Mr.hid hci
      clear hT
      obtain ⟨m0, hm0⟩ : ∃ m0, m0 = lastT cs c.th i := ⟨_, rfl⟩
      rw [← hm0] at z1 hml
      replace hm0 := Mr.hid hm0
      go_upto_region 6 with (fail)
      have hT := hTA.out (cqO c)
      have hB := hbx.out _ rfl
      unfold cqO at hT hB
      clear hTA hbx g0 g1 g2 g3 g4 g5 g6 g7 g8 hbl z1 z2 z3
      generalize (wr.alloc (Obj.cells #[.int .i64 c.th, .int .i64 c.op, .int .i64 c.arg, .int .i64 c.data, .int .i64 c.beg, .int .i64 c.fin, .int .i64 c.pt, .int .i64 c.ak, .int .i64 c.av] 36 (0, 0))) = w5 at *
      generalize wr.heap.size = bx at *
      clear wr
      have NX : ∀ w, Tn W w ba 76 cs i → Tn W (w.setCell ⟨ba, c.th.toNat, none⟩ (.int .i64 ((i : Int) + 1))) ba 76 cs (i + 1) := fun w h => h.next hci.out t0 t1
      have GT : ∀ w, Tn W w ba 76 cs i → w.cell? ⟨ba, c.th.toNat, none⟩ = some (.int .i64 (m0 : Int)) ∧ w.frozen? ⟨ba, c.th.toNat, none⟩ = false ∧ ba < w.heap.size := fun w h => by rw [hm0.out]; exact h.get t0 t1
      have hw : IntKind.i64.wrap ((i : Int) + 1) = (i : Int) + 1 := i64x _ (by omega) (by omega)
      replace NX := Mr.hid NX
      replace GT := Mr.hid GT
      by_cases hm : m0 = 0
      · have hok : Turn AhP cs (i + 1) := hR.out.succ hci.out (fun d h0 => by rw [← hm0.out, hm] at h0; omega)
        subst hm
        obtain ⟨k0, k1, k2, k3, k4, k5, k6, k7, k8, kl⟩ := cq_cells (c := c) hB
        obtain ⟨z1, z2, z3⟩ := GT.out _ hT
        replace hT := Mr.hid hT
        replace hok := Mr.hid hok
        go_quiet (fail)
        go_wp2
        go_roundg (gk - 1)
        case measure => omega
        case rel => exact ⟨i + 1, by simp, by omega, hok.out, NX.out _ (hT.out.below (Bx.draws _ _ nq))⟩
      · obtain ⟨m, rfl⟩ : ∃ m, m0 = m + 1 := ⟨m0 - 1, by omega⟩
        obtain ⟨d, hdm⟩ := get_of_lt (cs := cs) (i := m) (by have := hn.out; omega)
        obtain ⟨bc', oc', hbo, A9⟩ := call_at (hv.out.below hT.bel) hdm
        cases hbo
        obtain ⟨hbl, d0, d1, d2, d3, d4, d5, d6, d7, d8⟩ := A9
        obtain ⟨k0, k1, k2, k3, k4, k5, k6, k7, k8, kl⟩ := cq_cells (c := c) hB
        have hmw : IntKind.i64.wrap (((m + 1 : Nat) : Int) - 1) = (m : Int) := by rw [show ((m + 1 : Nat) : Int) - 1 = (m : Int) from by omega]; exact i64x _ (by omega) (by omega)
        have hmw2 : IntKind.i64.wrap (m : Int) = (m : Int) := i64x _ (by omega) (by omega)
        have hmw3 : IntKind.i64.wrap ((m : Int) + 1 - 1) = (m : Int) := by rw [show (m : Int) + 1 - 1 = (m : Int) from by omega]; exact i64x _ (by omega) (by omega)
        have hm3 : (0 : Int) < (m : Int) + 1 := by omega
        have hm0' : (0 : Int) < ((m + 1 : Nat) : Int) := by omega
        have hm1 : (0 : Int) ≤ (m : Int) := by omega
        have hm2 : (m : Int) < (n : Int) := by omega
        have AA := fun w => ahead_any d c w
        unfold Cq.val at AA
        obtain ⟨q, hq⟩ : ∃ q, q = ahB d c := ⟨_, rfl⟩
        rw [← hq] at AA
        have hok : q = true → Turn AhP cs (i + 1) := fun h => hR.out.succ hci.out (fun d' h0 hd' => by
          rw [← hm0.out, Nat.add_sub_cancel, hdm] at hd'; cases hd'
          rw [hq] at h; simp [ahB] at h; exact h)
        have hno : q = false → b = false := fun h => by
          cases hbb : b with
          | false => rfl
          | true =>
            have h2 := hb.out.1 hbb i hlt c d hci.out (by rw [← hm0.out]; omega) (by rw [← hm0.out, Nat.add_sub_cancel]; exact hdm)
            rw [hq] at h; simp [ahB, AhP] at h h2; omega
        replace AA := Mr.hid AA
        replace hq := Mr.hid hq
        replace hok := Mr.hid hok
        replace hno := Mr.hid hno
        replace hT := Mr.hid hT
        replace hdm := Mr.hid hdm
        have KK : Hid (∀ w', Below w5.heap.size w5 w' → w'.cell? ⟨bc, oc + m * 9, none⟩ = some (.int .i64 d.th) ∧ w'.cell? ⟨bc, oc + m * 9 + 1, none⟩ = some (.int .i64 d.op) ∧ w'.cell? ⟨bc, oc + m * 9 + 2, none⟩ = some (.int .i64 d.arg) ∧ w'.cell? ⟨bc, oc + m * 9 + 3, none⟩ = some (.int .i64 d.data) ∧ w'.cell? ⟨bc, oc + m * 9 + 4, none⟩ = some (.int .i64 d.beg) ∧ w'.cell? ⟨bc, oc + m * 9 + 5, none⟩ = some (.int .i64 d.fin) ∧ w'.cell? ⟨bc, oc + m * 9 + 6, none⟩ = some (.int .i64 d.pt) ∧ w'.cell? ⟨bc, oc + m * 9 + 7, none⟩ = some (.int .i64 d.ak) ∧ w'.cell? ⟨bc, oc + m * 9 + 8, none⟩ = some (.int .i64 d.av) ∧ w'.cell? ⟨bx, 0, none⟩ = some (.int .i64 c.th) ∧ w'.cell? ⟨bx, 1, none⟩ = some (.int .i64 c.op) ∧ w'.cell? ⟨bx, 2, none⟩ = some (.int .i64 c.arg) ∧ w'.cell? ⟨bx, 3, none⟩ = some (.int .i64 c.data) ∧ w'.cell? ⟨bx, 4, none⟩ = some (.int .i64 c.beg) ∧ w'.cell? ⟨bx, 5, none⟩ = some (.int .i64 c.fin) ∧ w'.cell? ⟨bx, 6, none⟩ = some (.int .i64 c.pt) ∧ w'.cell? ⟨bx, 7, none⟩ = some (.int .i64 c.ak) ∧ w'.cell? ⟨bx, 8, none⟩ = some (.int .i64 c.av)) := fun w' hB => ⟨(hB.cell (p := ⟨bc, _, none⟩) hbl).trans d0, (hB.cell (p := ⟨bc, _, none⟩) hbl).trans d1, (hB.cell (p := ⟨bc, _, none⟩) hbl).trans d2, (hB.cell (p := ⟨bc, _, none⟩) hbl).trans d3, (hB.cell (p := ⟨bc, _, none⟩) hbl).trans d4, (hB.cell (p := ⟨bc, _, none⟩) hbl).trans d5, (hB.cell (p := ⟨bc, _, none⟩) hbl).trans d6, (hB.cell (p := ⟨bc, _, none⟩) hbl).trans d7, (hB.cell (p := ⟨bc, _, none⟩) hbl).trans d8, (hB.cell (p := ⟨bx, _, none⟩) kl).trans k0, (hB.cell (p := ⟨bx, _, none⟩) kl).trans k1, (hB.cell (p := ⟨bx, _, none⟩) kl).trans k2, (hB.cell (p := ⟨bx, _, none⟩) kl).trans k3, (hB.cell (p := ⟨bx, _, none⟩) kl).trans k4, (hB.cell (p := ⟨bx, _, none⟩) kl).trans k5, (hB.cell (p := ⟨bx, _, none⟩) kl).trans k6, (hB.cell (p := ⟨bx, _, none⟩) kl).trans k7, (hB.cell (p := ⟨bx, _, none⟩) kl).trans k8⟩
        go_region_held3 (fun w' => w'.cell? ⟨bc, oc + m * 9, none⟩ = some (.int .i64 d.th) ∧ w'.cell? ⟨bc, oc + m * 9 + 1, none⟩ = some (.int .i64 d.op) ∧ w'.cell? ⟨bc, oc + m * 9 + 2, none⟩ = some (.int .i64 d.arg) ∧ w'.cell? ⟨bc, oc + m * 9 + 3, none⟩ = some (.int .i64 d.data) ∧ w'.cell? ⟨bc, oc + m * 9 + 4, none⟩ = some (.int .i64 d.beg) ∧ w'.cell? ⟨bc, oc + m * 9 + 5, none⟩ = some (.int .i64 d.fin) ∧ w'.cell? ⟨bc, oc + m * 9 + 6, none⟩ = some (.int .i64 d.pt) ∧ w'.cell? ⟨bc, oc + m * 9 + 7, none⟩ = some (.int .i64 d.ak) ∧ w'.cell? ⟨bc, oc + m * 9 + 8, none⟩ = some (.int .i64 d.av) ∧ w'.cell? ⟨bx, 0, none⟩ = some (.int .i64 c.th) ∧ w'.cell? ⟨bx, 1, none⟩ = some (.int .i64 c.op) ∧ w'.cell? ⟨bx, 2, none⟩ = some (.int .i64 c.arg) ∧ w'.cell? ⟨bx, 3, none⟩ = some (.int .i64 c.data) ∧ w'.cell? ⟨bx, 4, none⟩ = some (.int .i64 c.beg) ∧ w'.cell? ⟨bx, 5, none⟩ = some (.int .i64 c.fin) ∧ w'.cell? ⟨bx, 6, none⟩ = some (.int .i64 c.pt) ∧ w'.cell? ⟨bx, 7, none⟩ = some (.int .i64 c.ak) ∧ w'.cell? ⟨bx, 8, none⟩ = some (.int .i64 c.av)) (first | exact KK.out _ (by assumption) | go_keep) (first | (go_at_call 35; refine (AA.out _).mono ?_; rintro e w6 ⟨rfl, hB6⟩; replace hB6 : Below w5.heap.size w5 w6 := ⟨hB6.os, hB6.tape, hB6.output, hB6.size, hB6.block⟩))
        all_goals
          have hT6 := hT.out.below hB6
          clear hT KK AA d0 d1 d2 d3 d4 d5 d6 d7 d8 k0 k1 k2 k3 k4 k5 k6 k7 k8
          have hbx6 := (hB6.block _ kl).trans hB
          obtain ⟨k0, k1, k2, k3, k4, k5, k6, k7, k8, kl6⟩ := cq_cells (c := c) hbx6
          obtain ⟨z1, z2, z3⟩ := GT.out _ hT6
          replace hT6 := Mr.hid hT6
          cases q with
          | false =>
            have hbf := hno.out rfl
            subst hbf
            go_wp2
            go_ret
            exact ⟨rfl, hT6.out.bel⟩
          | true =>
            have hok2 := Mr.hid (hok.out rfl)
            go_wp2
            go_roundg (gk - 1)
            case measure => omega
            case rel => exact ⟨i + 1, by simp, by omega, hok2.out, NX.out _ hT6.out⟩
    · have hbt : b = true := hb.out.2 (by rw [show n = i from by omega]; exact hR)
      subst hbt
      have dl : decide ((i : Int) < (n : Int)) = false := decide_eq_false (by omega)
      replace hT := Mr.hid hT
      clear hR
      go_wp2
      go_ret
      exact ⟨rfl, hT.out.bel⟩
end Go.Proofs.YtfgnaffomglmdaaGreat.Wt
