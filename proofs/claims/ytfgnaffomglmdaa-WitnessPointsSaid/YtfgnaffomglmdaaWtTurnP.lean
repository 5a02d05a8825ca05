/-
  WITNESS: each thread's last call, in an array of sixteen numbers.
-/
import Derived.Test.YtfgnaffomglmdaaWtCall
namespace Go.Proofs.Ytfgnaffomglmdaa.Wt
open Go.RowKit Mr Md
set_option linter.unusedVariables false
set_option linter.unusedSimpArgs false
def lastL (cs : List Cq) (i : Nat) : List Value := (List.range 16).map fun (t : Nat) => Value.int .i64 ((lastT cs (t : Int) i : Nat) : Int)
def lastA (cs : List Cq) (i : Nat) : Array Value := (lastL cs i).toArray
theorem lastA_get (cs : List Cq) (i : Nat) {t : Int} (h0 : 0 ≤ t) (h1 : t < 16) : (lastA cs i)[t.toNat]? = some (.int .i64 ((lastT cs t i : Nat) : Int)) := by
  have e : ((t.toNat : Nat) : Int) = t := by omega
  simp [lastA, lastL, show t.toNat < 16 by omega, e, show max t 0 = t by omega]
theorem lastA_zero (cs : List Cq) : lastA cs 0 = #[.int .i64 0, .int .i64 0, .int .i64 0, .int .i64 0, .int .i64 0, .int .i64 0, .int .i64 0, .int .i64 0, .int .i64 0, .int .i64 0, .int .i64 0, .int .i64 0, .int .i64 0, .int .i64 0, .int .i64 0, .int .i64 0] := by
  simp [lastA, lastL, lastT, List.range, List.range.loop]
theorem lastA_size (cs : List Cq) (i : Nat) : (lastA cs i).size = 16 := by simp [lastA, lastL]
theorem lastA_set {cs : List Cq} {i : Nat} {c : Cq} (hc : cs[i]? = some c) (h0 : 0 ≤ c.th) (h1 : c.th < 16) : (lastA cs i).setIfInBounds c.th.toNat (.int .i64 ((i : Int) + 1)) = lastA cs (i + 1) := by
  apply Array.ext
  · simp [lastA_size]
  · intro j hj1 hj2
    have hj : j < 16 := by simpa [lastA_size] using hj2
    rw [Array.getElem_setIfInBounds (by rw [lastA_size]; exact hj)]
    by_cases e : c.th.toNat = j
    · rw [if_pos e]
      have e2 : ((j : Nat) : Int) = c.th := by omega
      simp [lastA, lastL, e2, lastT_hit hc]
    · rw [if_neg e]
      have e2 : c.th ≠ ((j : Nat) : Int) := by omega
      simp [lastA, lastL, lastT_miss hc e2]
theorem make16 (W : World) :
    (Instr.makeSlice 33 (.int .i64 16) (.int .i64 16)).run Try.prog W = .ok (.slice (some ⟨W.heap.size, 0, none⟩) 16 16) (W.alloc (.cells #[.int .i64 0, .int .i64 0, .int .i64 0, .int .i64 0, .int .i64 0, .int .i64 0, .int .i64 0, .int .i64 0, .int .i64 0, .int .i64 0, .int .i64 0, .int .i64 0, .int .i64 0, .int .i64 0, .int .i64 0, .int .i64 0] 3 (0, 0))) := by
  obtain ⟨i0, hi, hz0, hz1, hz2⟩ := parts_of wt_int
  have h := run_make (P := Try.prog) W 33 3 i0 (.int .i64 0) Try.underlying33 hi hz0 .i64 .i64 16 16 (by omega) (Int.le_refl _) (by rw [hz2]; omega) (by omega)
  have e : (16 : Int).toNat = 16 := by decide
  rw [e, hz1, Nat.mul_one] at h
  have e2 : madeCells (Value.int .i64 0).cells 16 = #[.int .i64 0, .int .i64 0, .int .i64 0, .int .i64 0, .int .i64 0, .int .i64 0, .int .i64 0, .int .i64 0, .int .i64 0, .int .i64 0, .int .i64 0, .int .i64 0, .int .i64 0, .int .i64 0, .int .i64 0, .int .i64 0] := by kernel_rfl
  rw [e2] at h
  exact h
/-- The array's block. -/
structure Tn (W w : World) (b : Nat) (ty : TypeId) (cs : List Cq) (i : Nat) : Prop where
  bel : Below W.heap.size W w
  up : W.heap.size ≤ b
  box : w.heap[b]? = some (.cells (lastA cs i) ty (0, 0))
theorem Tn.below {W w w' : World} {b : Nat} {ty : TypeId} {cs : List Cq} {i : Nat} (h : Tn W w b ty cs i) (hB : Below w.heap.size w w') : Tn W w' b ty cs i :=
  ⟨h.bel.trans (hB.mono h.bel.size), h.up, (hB.block _ (Array.getElem?_eq_some_iff.1 h.box).1).trans h.box⟩
theorem Tn.get {W w : World} {b : Nat} {ty : TypeId} {cs : List Cq} {i : Nat} (h : Tn W w b ty cs i) {t : Int} (h0 : 0 ≤ t) (h1 : t < 16) : w.cell? ⟨b, t.toNat, none⟩ = some (.int .i64 ((lastT cs t i : Nat) : Int)) ∧ w.frozen? ⟨b, t.toNat, none⟩ = false ∧ b < w.heap.size := by
  refine ⟨?_, by simp [World.frozen?, h.box], (Array.getElem?_eq_some_iff.1 h.box).1⟩
  rw [cell_blk h.box, lastA_get cs i h0 h1]
theorem Tn.next {W w : World} {b : Nat} {ty : TypeId} {cs : List Cq} {i : Nat} (h : Tn W w b ty cs i) {c : Cq} (hc : cs[i]? = some c) (h0 : 0 ≤ c.th) (h1 : c.th < 16) : Tn W (w.setCell ⟨b, c.th.toNat, none⟩ (.int .i64 ((i : Int) + 1))) b ty cs (i + 1) :=
  ⟨h.bel.setCell (p := ⟨b, _, none⟩) h.up _, h.up, by rw [setBlk h.box, lastA_set hc h0 h1]⟩
end Go.Proofs.Ytfgnaffomglmdaa.Wt
