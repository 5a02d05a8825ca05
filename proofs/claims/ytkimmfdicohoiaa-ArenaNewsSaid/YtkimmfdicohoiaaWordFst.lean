import Derived.Test.YtkimmfdicohoiaaWordRow
import Derived.Test.YtkimmfdicohoiaaWordAddr
import Derived.Test.YtkimmfdicohoiaaWordBox2
import Derived.OwnWalk
/-
  CONTRACT of First.
-/
namespace Go.Proofs.Ytkimmfdicohoiaa.Wr
open Go.RowKit
open Wc Wm
set_option linter.unusedVariables false
theorem info_u64 : (Try.prog.info? 54).map (fun i => (i.zero, i.size, i.bytes)) = some (some (.int .u64 0), 1, 8) := by kernel_rfl
/-- make([]uint64, n), n known to be small. -/
theorem mk_words (n : Int) (h0 : 0 ≤ n) (h1 : n ≤ 65536) (W : World) :
    (Instr.makeSlice 45 (.int .i64 n) (.int .i64 n)).run Try.prog W = .ok (.slice (some ⟨W.heap.size, 0, none⟩) n.toNat n.toNat) (W.alloc (.cells (madeCells #[.int .u64 0] n.toNat) 54)) := by
  obtain ⟨i0, hi, hz0, hz1, hz2⟩ := info_parts info_u64
  have h := run_make (P := Try.prog) W 45 54 i0 (.int .u64 0) Try.underlying45 hi hz0 .i64 .i64 n n h0 (Int.le_refl _) (by rw [hz2]; omega) (by omega)
  rw [hz1, Nat.mul_one] at h
  exact h
/-- make([]uint64, n), n a natural number. -/
theorem mk_nat (n : Nat) (h1 : n ≤ 65536) (W : World) :
    (Instr.makeSlice 45 (.int .i64 (n : Int)) (.int .i64 (n : Int))).run Try.prog W = .ok (.slice (some ⟨W.heap.size, 0, none⟩) n n) (W.alloc (.cells (madeCells #[.int .u64 0] n) 54)) := by
  have h := mk_words (n : Int) (by omega) (by omega) W
  rwa [Int.toNat_natCast] at h
theorem box_le {w w1 : World} {o : Obj} (B : Below (w.heap.size + 1) (w.alloc o) w1) : w.heap.size + 1 ≤ w1.heap.size := by have := B.size; simpa using this
theorem row_alloc {w w1 : World} {o : Obj} (B : Below (w.heap.size + 1) (w.alloc o) w1) (q : Obj) : Below (w.heap.size + 1) (w.alloc o) (w1.alloc q) := B.alloc (box_le B) q
theorem spare_step (hd : Int) (m U k : Nat) (t3 t4 : Int) (hm : 6 < m) (hk : U ≤ k) (i : Nat) : memF hd t3 t4 m U ((k + 1 : Nat) : Int) i = if i = m + k then (k : Int) + 1 + 1 else memF hd t3 t4 m U k i := by
  have h := memF_spare hd m U k t3 t4 (by omega) (by omega) (by omega) i
  rw [show ((m : Int) + (k : Int)).toNat = m + k from by omega] at h
  rw [show ((k + 1 : Nat) : Int) = (k : Int) + 1 from by omega, h, show (k : Int) + 2 = (k : Int) + 1 + 1 from by omega]
end Go.Proofs.Ytkimmfdicohoiaa.Wr
