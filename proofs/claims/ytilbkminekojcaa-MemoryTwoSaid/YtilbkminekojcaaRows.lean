/-
  No cell of these rows narrows 'for every input' (looked for: loops, veiled, ifaces, maps, wideKeys, modest, calm, conditions, laid).
  DERIVED. THE GIVEN ROWS OF THIS SEAT. 4 by the template 'for every input the law returns true; each argument reads behind the call as it read before'; 0 by the template 'total and deterministic' (their statements: YtilbkminekojcaaTotals.lean).
  GIVEN WITH THE SEED: the statements are not yours to turn. If you find one false, say at which input.
  Laid BY PROGRAM, IN A SANDBOX (cutbox-rows.mjs): the forced cells as the released guide's own fill.sh prints them over the translation 502f893b2b42591e… (all of the seat's roots in one cut). By AI agents, Wed Nov 11 2026. No macro, syntax, notation, axiom, sorry.
-/
import Derived.Test.YtilbkminekojcaaChecked
import GoSem.Claim
import GoSem.ClaimJoined
import GoSem.ClaimMapViews
import Derived.JoinedTies
import Derived.KernelRfl
namespace Go.Proofs.Ytilbkminekojcaa
/- THE CELL 'sum', in the pinned program and in every row, IS THE sha256 OF THE DUMP (.gsa) THAT YtilbkminekojcaaProg.lean LOADS. Nothing in Lean hashes anything: it is a label: what it is worth is what the hold of that sum in a sandbox is worth. -/
noncomputable def Try.pinned : Pinned := { name := "ytilbkminekojcaa", sum := "502f893b2b42591e83209c16cca1759eba22bc37460ea25f3676a69e68fd4c3b", checked := Try.checked }
namespace Rows
def none {H : Type} : Left H := { results := [], args := [] }

/-- 'reclaimlaw02.MemoryLogs': WHATEVER THE INPUT: true; the input reads as it did. -/
def memoryLogsSpec : ChangeSpec := { name := "memoryLogs", fn := fun _ => fun
  | [d1, d2, d3, d4, d5] => { results := [.lit (.bool true)], args := [d1, d2, d3, d4, d5] }
  | _ => none }
def memoryLogsRow : OpenClaim := { program := "ytilbkminekojcaa", sum := "502f893b2b42591e83209c16cca1759eba22bc37460ea25f3676a69e68fd4c3b", func := "reclaim/reclaimlaw02.MemoryLogs", spec := "memoryLogs", unfollowed := true, recurses := true, apart := false }
def MemoryLogsSaid : Prop := memoryLogsRow.holds Try.pinned (OpenSpec.ofChange memoryLogsSpec)

/-- ITS FALSE NEIGHBOUR: 'it returns false'. Refute it at one input. -/
def memoryLogsWrong : ChangeSpec := { name := "memoryLogs", fn := fun _ => fun
  | [d1, d2, d3, d4, d5] => { results := [.lit (.bool false)], args := [d1, d2, d3, d4, d5] }
  | _ => none }
def MemoryLogsWrongFalsely : Prop := memoryLogsRow.holds Try.pinned (OpenSpec.ofChange memoryLogsWrong)

/-- 'reclaimlaw02.MemoryOne': WHATEVER THE INPUT: true; the input reads as it did. -/
def memoryOneSpec : ChangeSpec := { name := "memoryOne", fn := fun _ => fun
  | [d1, d2] => { results := [.lit (.bool true)], args := [d1, d2] }
  | _ => none }
def memoryOneRow : OpenClaim := { program := "ytilbkminekojcaa", sum := "502f893b2b42591e83209c16cca1759eba22bc37460ea25f3676a69e68fd4c3b", func := "reclaim/reclaimlaw02.MemoryOne", spec := "memoryOne", unfollowed := true, recurses := true, apart := false }
def MemoryOneSaid : Prop := memoryOneRow.holds Try.pinned (OpenSpec.ofChange memoryOneSpec)

/-- ITS FALSE NEIGHBOUR: 'it returns false'. Refute it at one input. -/
def memoryOneWrong : ChangeSpec := { name := "memoryOne", fn := fun _ => fun
  | [d1, d2] => { results := [.lit (.bool false)], args := [d1, d2] }
  | _ => none }
def MemoryOneWrongFalsely : Prop := memoryOneRow.holds Try.pinned (OpenSpec.ofChange memoryOneWrong)

/-- 'reclaimlaw02.MemoryPlays': WHATEVER THE INPUT: true; the input reads as it did. -/
def memoryPlaysSpec : ChangeSpec := { name := "memoryPlays", fn := fun _ => fun
  | [d1, d2] => { results := [.lit (.bool true)], args := [d1, d2] }
  | _ => none }
def memoryPlaysRow : OpenClaim := { program := "ytilbkminekojcaa", sum := "502f893b2b42591e83209c16cca1759eba22bc37460ea25f3676a69e68fd4c3b", func := "reclaim/reclaimlaw02.MemoryPlays", spec := "memoryPlays", unfollowed := true, recurses := true, apart := false }
def MemoryPlaysSaid : Prop := memoryPlaysRow.holds Try.pinned (OpenSpec.ofChange memoryPlaysSpec)

/-- ITS FALSE NEIGHBOUR: 'it returns false'. Refute it at one input. -/
def memoryPlaysWrong : ChangeSpec := { name := "memoryPlays", fn := fun _ => fun
  | [d1, d2] => { results := [.lit (.bool false)], args := [d1, d2] }
  | _ => none }
def MemoryPlaysWrongFalsely : Prop := memoryPlaysRow.holds Try.pinned (OpenSpec.ofChange memoryPlaysWrong)

/-- 'reclaimlaw02.MemoryTwo': WHATEVER THE INPUT: true; the input reads as it did. -/
def memoryTwoSpec : ChangeSpec := { name := "memoryTwo", fn := fun _ => fun
  | [d1, d2, d3, d4] => { results := [.lit (.bool true)], args := [d1, d2, d3, d4] }
  | _ => none }
def memoryTwoRow : OpenClaim := { program := "ytilbkminekojcaa", sum := "502f893b2b42591e83209c16cca1759eba22bc37460ea25f3676a69e68fd4c3b", func := "reclaim/reclaimlaw02.MemoryTwo", spec := "memoryTwo", unfollowed := true, recurses := true, apart := false }
def MemoryTwoSaid : Prop := memoryTwoRow.holds Try.pinned (OpenSpec.ofChange memoryTwoSpec)

/-- ITS FALSE NEIGHBOUR: 'it returns false'. Refute it at one input. -/
def memoryTwoWrong : ChangeSpec := { name := "memoryTwo", fn := fun _ => fun
  | [d1, d2, d3, d4] => { results := [.lit (.bool false)], args := [d1, d2, d3, d4] }
  | _ => none }
def MemoryTwoWrongFalsely : Prop := memoryTwoRow.holds Try.pinned (OpenSpec.ofChange memoryTwoWrong)

/- THE SECOND FORM. 'bulk': how many values and letters a reading holds, each counted each time it is reached (what is shared counts as often as it is met; a slice's spare places count too). A statement '..UptoSaid' is the law's where the arguments, and the package variables that the reading takes, are together of bulk at most 1048576: NARROWER than '..Said'. Prove '..Said' where nothing that the law and all that it calls make is longer than what came in: it says more and counts as full. Else prove '..UptoSaid'. A law counts once. -/
mutual
def uptoBulk {H : Type} : DataW H → Nat
  | .lit (.string bytes) => bytes.length + 1
  | .lit _ => 1
  | .nil => 1
  | .ptr d => uptoBulk d + 1
  | .slice elems spare => uptoBulkAll elems + uptoBulkAll spare + 1
  | .agg parts => uptoBulkAll parts + 1
  | .iface _ d => uptoBulk d + 1
  | .map entries => uptoBulkEntries entries + 1
  | .held _ => 1
def uptoBulkAll {H : Type} : List (DataW H) → Nat
  | [] => 0
  | d :: r => uptoBulk d + uptoBulkAll r
def uptoBulkEntries {H : Type} : List (Lit × DataW H) → Nat
  | [] => 0
  | x :: r => uptoBulkEntry x + uptoBulkEntries r
def uptoBulkEntry {H : Type} : Lit × DataW H → Nat
  | (.string bytes, d) => bytes.length + uptoBulk d + 1
  | (_, d) => uptoBulk d + 1
 end
def uptoSmall : (H : Type) → List (DataW H) → Bool := fun _ ds => decide (uptoBulkAll ds ≤ 1048576)
def OpenSpec.upto (s : _root_.Go.ChangeSpec) : _root_.Go.OpenSpec := { _root_.Go.OpenSpec.ofChange s with cond := some uptoSmall }

/-- 'reclaimlaw02.MemoryLogs', WHERE WHAT IT READS IS OF BULK AT MOST 1048576: true; the input reads as it did. -/
def memoryLogsUptoRow : OpenClaim := { program := "ytilbkminekojcaa", sum := "502f893b2b42591e83209c16cca1759eba22bc37460ea25f3676a69e68fd4c3b", func := "reclaim/reclaimlaw02.MemoryLogs", spec := "memoryLogs", unfollowed := true, recurses := true, apart := false, narrowed := true }
def MemoryLogsUptoSaid : Prop := memoryLogsUptoRow.holds Try.pinned (OpenSpec.upto memoryLogsSpec)

/-- 'reclaimlaw02.MemoryOne', WHERE WHAT IT READS IS OF BULK AT MOST 1048576: true; the input reads as it did. -/
def memoryOneUptoRow : OpenClaim := { program := "ytilbkminekojcaa", sum := "502f893b2b42591e83209c16cca1759eba22bc37460ea25f3676a69e68fd4c3b", func := "reclaim/reclaimlaw02.MemoryOne", spec := "memoryOne", unfollowed := true, recurses := true, apart := false, narrowed := true }
def MemoryOneUptoSaid : Prop := memoryOneUptoRow.holds Try.pinned (OpenSpec.upto memoryOneSpec)

/-- 'reclaimlaw02.MemoryPlays', WHERE WHAT IT READS IS OF BULK AT MOST 1048576: true; the input reads as it did. -/
def memoryPlaysUptoRow : OpenClaim := { program := "ytilbkminekojcaa", sum := "502f893b2b42591e83209c16cca1759eba22bc37460ea25f3676a69e68fd4c3b", func := "reclaim/reclaimlaw02.MemoryPlays", spec := "memoryPlays", unfollowed := true, recurses := true, apart := false, narrowed := true }
def MemoryPlaysUptoSaid : Prop := memoryPlaysUptoRow.holds Try.pinned (OpenSpec.upto memoryPlaysSpec)

/-- 'reclaimlaw02.MemoryTwo', WHERE WHAT IT READS IS OF BULK AT MOST 1048576: true; the input reads as it did. -/
def memoryTwoUptoRow : OpenClaim := { program := "ytilbkminekojcaa", sum := "502f893b2b42591e83209c16cca1759eba22bc37460ea25f3676a69e68fd4c3b", func := "reclaim/reclaimlaw02.MemoryTwo", spec := "memoryTwo", unfollowed := true, recurses := true, apart := false, narrowed := true }
def MemoryTwoUptoSaid : Prop := memoryTwoUptoRow.holds Try.pinned (OpenSpec.upto memoryTwoSpec)

end Rows
end Go.Proofs.Ytilbkminekojcaa
