import Derived.Test.YtkimmfdicohoiaaMemRow
import Derived.Test.YtkimmfdicohoiaaChecked
import Derived.Laws.AppendOwn
/-
  A MEMORY of the program as it lies in the world; New, Size, Count, has, Now, Words by their contracts.
-/
namespace Go.Proofs.Ytkimmfdicohoiaa.Me
open Go.RowKit Mr

/-- An access, as the log has it. -/
structure Acc where
  mv : Int
  th : Int
  kd : Int
  ad : Int
  old : Int
  new : Int
  saw : Int
def Acc.cells (a : Acc) : List Value := [.int .i64 a.mv, .int .i64 a.th, .int .i64 a.kd, .int .i64 a.ad, .int .u64 a.old, .int .u64 a.new, .int .u64 a.saw]
def Acc.val (a : Acc) : Value := .agg #[.int .i64 a.mv, .int .i64 a.th, .int .i64 a.kd, .int .i64 a.ad, .int .u64 a.old, .int .u64 a.new, .int .u64 a.saw]
def wrd (ws : List Int) : List Value := ws.map (Value.int .u64)
def lgc (lg : List Acc) : List Value := lg.flatMap Acc.cells
theorem wrd_length (ws : List Int) : (wrd ws).length = ws.length := by simp [wrd]
section
variable {W : World} {S : Nat → Prop} {b : Nat} {vw vl va : Value} {ws : List Int} {mv : Int} {lg : List Acc} {ah : List Int}
end
theorem has_ne {W : World} {S T : Nat → Prop} {e f sz tz n m : Nat} {u v : Value} {xs ys : List Value} (h : Has W S e sz u n xs) (h' : Has W T f tz v m ys) (hef : e ≠ f) : ∀ k, u.ownBlock = some k → v.ownBlock ≠ some k := by
  intro k hu hv
  rcases h.2 with ⟨rfl, _⟩ | ⟨g, _, cur, rfl, _, hg, _⟩
  · simp [Value.ownBlock] at hu
  · rcases h'.2 with ⟨rfl, _⟩ | ⟨g', _, cur', rfl, _, hg', _⟩
    · simp [Value.ownBlock] at hv
    · simp [Value.ownBlock] at hu hv
      subst hu; subst hv
      rw [hg] at hg'; simp at hg'
      exact hef hg'.2

/-! ### contracts -/
section
variable {W : World} {S : Nat → Prop} {b : Nat} {vw vl va : Value} {ws : List Int} {mv : Int} {lg : List Acc} {ah : List Int}
end
end Go.Proofs.Ytkimmfdicohoiaa.Me
