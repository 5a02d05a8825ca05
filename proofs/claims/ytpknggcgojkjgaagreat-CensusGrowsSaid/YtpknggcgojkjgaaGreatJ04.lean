import Derived.Test.YtpknggcgojkjgaaGreatJ01
import Derived.Test.YtpknggcgojkjgaaGreatChecked
import Derived.Laws.AppendOwn
import Derived.WalkSpells
/-
  A MEMORY of the program as it lies in the world; New, Size, Count, has, Now, Words by their contracts.
-/
namespace Go.Proofs.YtpknggcgojkjgaaGreat.Me
open Go.RowKit Mr

/-- An access, as the log has it. -/
structure Acc where
  mv : Int
  th : Int
  kd : Int
  ad : Int
  old : Int
  new : Int
  saw : Int
def Acc.cells (a : Acc) : List Value := [.int .i64 a.mv, .int .i64 a.th, .int .i64 a.kd, .int .i64 a.ad, .int .u64 a.old, .int .u64 a.new, .int .u64 a.saw]
def Acc.val (a : Acc) : Value := .agg #[.int .i64 a.mv, .int .i64 a.th, .int .i64 a.kd, .int .i64 a.ad, .int .u64 a.old, .int .u64 a.new, .int .u64 a.saw]
section
variable {W : World} {S : Nat → Prop} {b : Nat} {vw vl va : Value} {ws : List Int} {mv : Int} {lg : List Acc} {ah : List Int}
end
/-! ### contracts -/
section
variable {W : World} {S : Nat → Prop} {b : Nat} {vw vl va : Value} {ws : List Int} {mv : Int} {lg : List Acc} {ah : List Int}
end
end Go.Proofs.YtpknggcgojkjgaaGreat.Me
/-
  slices.Clone at uint64; Words; New.
-/
namespace Go.Proofs.YtpknggcgojkjgaaGreat.Me
open Go.RowKit Mr
theorem info_u64 : (Tryz.prog.info? 115).map (fun i => (i.zero, i.size, i.bytes)) = some (some (.int .u64 0), 1, 8) := by kernel_rfl
section
variable {W : World} {S : Nat → Prop} {b : Nat} {vw vl va : Value} {ws : List Int} {mv : Int} {lg : List Acc} {ah : List Int}
end
end Go.Proofs.YtpknggcgojkjgaaGreat.Me
