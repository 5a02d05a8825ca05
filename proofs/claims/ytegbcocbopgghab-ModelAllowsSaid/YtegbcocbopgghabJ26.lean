import Derived.Test.YtegbcocbopgghabJ23
import Derived.Test.YtegbcocbopgghabJ24
import Derived.Test.YtegbcocbopgghabJ25
import Derived.Test.YtegbcocbopgghabJ10
import Derived.Test.YtegbcocbopgghabJ11
import Derived.Test.YtegbcocbopgghabJ12
import Derived.Test.YtegbcocbopgghabJ16
/-
  Package model: Do of any call.
-/
namespace Go.Proofs.Ytegbcocbopgghab.Md
open Go.RowKit Mr
set_option linter.unusedVariables false
set_option linter.unusedSimpArgs false
theorem obj_cases (op : Int) : obj op = 0 ∨ obj op = 1 ∨ obj op = 2 ∨ obj op = 3 ∨ obj op = 4 ∨ obj op = 5 := by
  unfold obj
  repeat (split; first | omega | skip)
  all_goals omega
theorem pDo_any {W : World} {S : Nat → Prop} {u0 u1 u2 u3 u4 : Value} {x : Ct} (hu : CtAt W S u0 u1 u2 u3 u4 x) (hin : CtIn 225000000000000 x) (hm : May x) (op arg data : Int) (ho : obj op ≠ 0) :
    Calls Try.prog 10 #[.agg #[u0, u1, u2, u3, u4], .int .i64 op, .int .i64 arg, .int .i64 data] W fun e w' => ∃ v0 v1 v2 v3 v4 lab, e = .returned (.tuple #[.agg #[v0, v1, v2, v3, v4], ans (dan x op arg).1 (dan x op arg).2, .int .i64 0]) ∧ CtOwn w' W.heap.size lab v0 v1 v2 v3 v4 (dnx x op arg data) ∧ Below W.heap.size W w' := by
  rcases obj_cases op with h | h | h | h | h | h
  · exact absurd h ho
  · exact pDo_1 hu hin hm op arg data h
  · exact pDo_2 hu hin hm op arg data h
  · exact pDo_3 hu hin hm op arg data h
  · exact pDo_4 hu hin hm op arg data h
  · exact pDo_5 hu hin hm op arg data h
theorem mDo_any {W : World} {S : Nat → Prop} {u0 u1 u2 u3 u4 : Value} {x : Ct} (hu : CtAt W S u0 u1 u2 u3 u4 x) (hin : CtIn 225000000000000 x) (hm : May x) (op arg data : Int) (ho : obj op ≠ 0) :
    Calls Try.prog 10 #[.agg #[u0, u1, u2, u3, u4], .int .i64 op, .int .i64 arg, .int .i64 data] W fun e w' => ∃ v0 v1 v2 v3 v4, e = .returned (.tuple #[.agg #[v0, v1, v2, v3, v4], ans (dan x op arg).1 (dan x op arg).2, .int .i64 0]) ∧ CtAt w' (fun k => W.heap.size ≤ k) v0 v1 v2 v3 v4 (dnx x op arg data) ∧ Below W.heap.size W w' :=
  (pDo_any hu hin hm op arg data ho).mono (by rintro e w' ⟨v0, v1, v2, v3, v4, lab, rfl, h, hB⟩; exact ⟨v0, v1, v2, v3, v4, rfl, h.at, hB⟩)
theorem mDo_ill {W : World} {S : Nat → Prop} {u0 u1 u2 u3 u4 : Value} {x : Ct} (hu : CtAt W S u0 u1 u2 u3 u4 x) (hin : CtIn 225000000000000 x) (hm : May x) (op arg data : Int) (ho : obj op = 0) :
    Calls Try.prog 10 #[.agg #[u0, u1, u2, u3, u4], .int .i64 op, .int .i64 arg, .int .i64 data] W fun e w' => ∃ v0 v1 v2 v3 v4, e = .returned (.tuple #[.agg #[v0, v1, v2, v3, v4], ans 0 0, .int .i64 110]) ∧ CtAt w' (fun k => W.heap.size ≤ k) v0 v1 v2 v3 v4 ct0 ∧ Below W.heap.size W w' :=
  (pDo_ill hu hin hm op arg data ho).mono (by rintro e w' ⟨v0, v1, v2, v3, v4, lab, rfl, h, hB⟩; exact ⟨v0, v1, v2, v3, v4, rfl, h.at, hB⟩)
theorem mDo_state {W : World} {S : Nat → Prop} {u0 u1 u2 u3 u4 : Value} {x : Ct} (hu : CtAt W S u0 u1 u2 u3 u4 x) (hin : CtIn 225000000000000 x) (hm : ¬ May x) (op arg data : Int) :
    Calls Try.prog 10 #[.agg #[u0, u1, u2, u3, u4], .int .i64 op, .int .i64 arg, .int .i64 data] W fun e w' => ∃ v0 v1 v2 v3 v4, e = .returned (.tuple #[.agg #[v0, v1, v2, v3, v4], ans 0 0, .int .i64 111]) ∧ CtAt w' (fun k => W.heap.size ≤ k) v0 v1 v2 v3 v4 ct0 ∧ Below W.heap.size W w' :=
  (pDo_state hu hin hm op arg data).mono (by rintro e w' ⟨v0, v1, v2, v3, v4, lab, rfl, h, hB⟩; exact ⟨v0, v1, v2, v3, v4, rfl, h.at, hB⟩)
end Go.Proofs.Ytegbcocbopgghab.Md
/-
  Package model by its contracts.
-/
