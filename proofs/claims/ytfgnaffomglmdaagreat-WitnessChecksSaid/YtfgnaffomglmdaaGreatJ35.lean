import Derived.Test.YtfgnaffomglmdaaGreatJ32
import Derived.Test.YtfgnaffomglmdaaGreatJ33
import Derived.Test.YtfgnaffomglmdaaGreatJ34
import Derived.Test.YtfgnaffomglmdaaGreatJ30
import Derived.Test.YtfgnaffomglmdaaGreatJ31
/-
  Package model: Do of any call.
-/
namespace Go.Proofs.YtfgnaffomglmdaaGreat.Md
open Go.RowKit Mr
set_option linter.unusedVariables false
set_option linter.unusedSimpArgs false
theorem obj_cases (op : Int) : obj op = 0 ∨ obj op = 1 ∨ obj op = 2 ∨ obj op = 3 ∨ obj op = 4 ∨ obj op = 5 := by
  unfold obj
  repeat (split; first | omega | skip)
  all_goals omega




end Go.Proofs.YtfgnaffomglmdaaGreat.Md
/-
  Package model: admit of any call.
-/
namespace Go.Proofs.YtfgnaffomglmdaaGreat.Md
open Go.RowKit Mr
set_option linter.unusedVariables false
set_option linter.unusedSimpArgs false
theorem admit_any {W : World} {B : Nat} {lab : Nat → Nat} {g0 g1 g2 g3 g4 : Nat} {x : Ct} (hd0 : Wd W B lab g0 g1 g2 g3 g4 x) (hi : ∀ k, lab k < 5 → k < W.heap.size) (hBW : B ≤ W.heap.size) (hin : CtIn 225000000000000 x) (hm : May x) (c : Cq) (ho : obj c.op ≠ 0) :
    Calls Tryz.prog 38 #[.agg #[.iface 79 (.pointer (some ⟨g0, 0, none⟩)), .iface 81 (.pointer (some ⟨g1, 0, none⟩)), .iface 83 (.pointer (some ⟨g2, 0, none⟩)), .iface 85 (.pointer (some ⟨g3, 0, none⟩)), .iface 87 (.pointer (some ⟨g4, 0, none⟩))], .agg #[.int .i64 c.th, .int .i64 c.op, .int .i64 c.arg, .int .i64 c.data, .int .i64 c.beg, .int .i64 c.fin, .int .i64 c.pt, .int .i64 c.ak, .int .i64 c.av]] W fun e w' => e = .returned (.bool (alw x c).2) ∧ ∃ lab', Wd w' B lab' g0 g1 g2 g3 g4 (adm x c) ∧ (∀ k, lab' k < 5 → k < w'.heap.size ∧ (k < W.heap.size → lab k < 5)) ∧ Fr W w' (fun k => lab k < 5) := by
  obtain ⟨th, op, arg, data, beg, fin, pt, ak, av⟩ := c
  rcases obj_cases op with h | h | h | h | h | h
  · exact absurd h ho
  · exact admit_1 hd0 hi hBW hin hm th op arg data beg fin pt ak av h
  · exact admit_2 hd0 hi hBW hin hm th op arg data beg fin pt ak av h
  · exact admit_3 hd0 hi hBW hin hm th op arg data beg fin pt ak av h
  · exact admit_4 hd0 hi hBW hin hm th op arg data beg fin pt ak av h
  · exact admit_5 hd0 hi hBW hin hm th op arg data beg fin pt ak av h
end Go.Proofs.YtfgnaffomglmdaaGreat.Md
