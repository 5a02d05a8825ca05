/-
  Writer by its contract.
-/
import Derived.Test.YtkfcfhgjhnmjlaaMemPure
namespace Go.Proofs.Ytkfcfhgjhnmjlaa.Me
open Go.RowKit Go.Shelf Mr
attribute [local go_sem] Oper.semAt_some
theorem isWrite_any (x0 x1 x2 x3 x4 x5 x6 : Int) (w : World) :
    Calls Try.prog 21 #[.agg #[.int .i64 x0, .int .i64 x1, .int .i64 x2, .int .i64 x3, .int .u64 x4, .int .u64 x5, .int .u64 x6]] w fun e w' => e = .returned (.bool (wrt ⟨x0, x1, x2, x3, x4, x5, x6⟩)) ∧ w' = w.alloc (.cells #[.int .i64 x0, .int .i64 x1, .int .i64 x2, .int .i64 x3, .int .u64 x4, .int .u64 x5, .int .u64 x6] 41) := by
  have e : wrt ⟨x0, x1, x2, x3, x4, x5, x6⟩ = ((x2 == 3 && x6 == x4) || x2 == 2) := rfl
  rw [e]
  clear e
  cases h1 : (x2 == 2)
  · cases h2 : (x2 == 3)
    · go_enter Try.func21, Try.ntmps21
      go_wp2
      go_ret
      exact ⟨by simp, rfl⟩
    · go_enter Try.func21, Try.ntmps21
      go_wp2
      go_ret
      exact ⟨by simp, rfl⟩
  · go_enter Try.func21, Try.ntmps21
    go_wp2
    go_ret
    exact ⟨by simp, rfl⟩
def lastW (ad : Int) (l : List (Nat × Acc)) : Int × Int := l.foldl (fun p x => if (x.2.ad == ad && wrt x.2) = true then (x.2.th, (x.1 : Int)) else p) (-1, -1)
theorem lastW_snoc (ad : Int) (l : List (Nat × Acc)) (x : Nat × Acc) : lastW ad (l ++ [x]) = if (x.2.ad == ad && wrt x.2) = true then (x.2.th, (x.1 : Int)) else lastW ad l := by simp [lastW]
end Go.Proofs.Ytkfcfhgjhnmjlaa.Me
