/-
  Package model: admit of any call.
-/
import Derived.Test.YtegbcocbopgghacMpAdm1
import Derived.Test.YtegbcocbopgghacMpAdm2
import Derived.Test.YtegbcocbopgghacMpAdm3
import Derived.Test.YtegbcocbopgghacMpAdm4
import Derived.Test.YtegbcocbopgghacMpAdm5
import Derived.Test.YtegbcocbopgghacMpDoAny
namespace Go.Proofs.Ytegbcocbopgghac.Md
open Go.RowKit Mr
set_option linter.unusedVariables false
set_option linter.unusedSimpArgs false
theorem admit_any {W : World} {B : Nat} {lab : Nat → Nat} {g0 g1 g2 g3 g4 : Nat} {x : Ct} (hd0 : Wd W B lab g0 g1 g2 g3 g4 x) (hi : ∀ k, lab k < 5 → k < W.heap.size) (hBW : B ≤ W.heap.size) (hin : CtIn 225000000000000 x) (hm : May x) (c : Cq) (ho : obj c.op ≠ 0) :
    Calls Try.prog 14 #[.agg #[.iface 55 (.pointer (some ⟨g0, 0, none⟩)), .iface 57 (.pointer (some ⟨g1, 0, none⟩)), .iface 59 (.pointer (some ⟨g2, 0, none⟩)), .iface 61 (.pointer (some ⟨g3, 0, none⟩)), .iface 63 (.pointer (some ⟨g4, 0, none⟩))], .agg #[.int .i64 c.th, .int .i64 c.op, .int .i64 c.arg, .int .i64 c.data, .int .i64 c.beg, .int .i64 c.fin, .int .i64 c.pt, .int .i64 c.ak, .int .i64 c.av]] W fun e w' => e = .returned (.bool (alw x c).2) ∧ ∃ lab', Wd w' B lab' g0 g1 g2 g3 g4 (adm x c) ∧ (∀ k, lab' k < 5 → k < w'.heap.size ∧ (k < W.heap.size → lab k < 5)) ∧ Fr W w' (fun k => lab k < 5) := by
  obtain ⟨th, op, arg, data, beg, fin, pt, ak, av⟩ := c
  rcases obj_cases op with h | h | h | h | h | h
  · exact absurd h ho
  · exact admit_1 hd0 hi hBW hin hm th op arg data beg fin pt ak av h
  · exact admit_2 hd0 hi hBW hin hm th op arg data beg fin pt ak av h
  · exact admit_3 hd0 hi hBW hin hm th op arg data beg fin pt ak av h
  · exact admit_4 hd0 hi hBW hin hm th op arg data beg fin pt ak av h
  · exact admit_5 hd0 hi hBW hin hm th op arg data beg fin pt ak av h
end Go.Proofs.Ytegbcocbopgghac.Md
