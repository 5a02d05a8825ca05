/-
  No cell of these rows narrows 'for every input' (looked for: loops, veiled, ifaces, maps, wideKeys, modest, calm, conditions, laid).
  DERIVED. THE GIVEN ROWS OF THIS SEAT. 3 by the template 'for every input the law returns true; each argument reads behind the call as it read before'; 0 by the template 'total and deterministic' (their statements: YtbbgobahhcfjjabTotals.lean).
  GIVEN WITH THE SEED: the statements are not yours to turn. If you find one false, say at which input.
  Laid BY PROGRAM, IN A SANDBOX (cutbox-rows.mjs): the forced cells as the released guide's own fill.sh prints them over the translation 7993255e6f57d603… (all of the seat's roots in one cut). By AI agents, Wed Nov 11 2026. No macro, syntax, notation, axiom, sorry.
-/
import Derived.Test.YtbbgobahhcfjjabChecked
import GoSem.Claim
import GoSem.ClaimJoined
import GoSem.ClaimMapViews
import Derived.JoinedTies
import Derived.KernelRfl
namespace Go.Proofs.Ytbbgobahhcfjjab
/- THE CELL 'sum', in the pinned program and in every row, IS THE sha256 OF THE DUMP (.gsa) THAT YtbbgobahhcfjjabProg.lean LOADS. Nothing in Lean hashes anything: it is a label: what it is worth is what the hold of that sum in a sandbox is worth. -/
noncomputable def Try.pinned : Pinned := { name := "ytbbgobahhcfjjab", sum := "7993255e6f57d60377f143dfaf93f85a9ac2a834fb0031c44c86fd9c22678578", checked := Try.checked }
namespace Rows
def none {H : Type} : Left H := { results := [], args := [] }

/-- 'reclaimlaw01.WordChain': WHATEVER THE INPUT: true; the input reads as it did. -/
def wordChainSpec : ChangeSpec := { name := "wordChain", fn := fun _ => fun
  | [d1, d2] => { results := [.lit (.bool true)], args := [d1, d2] }
  | _ => none }
def wordChainRow : OpenClaim := { program := "ytbbgobahhcfjjab", sum := "7993255e6f57d60377f143dfaf93f85a9ac2a834fb0031c44c86fd9c22678578", func := "reclaim/reclaimlaw01.WordChain", spec := "wordChain", apart := false }
def WordChainSaid : Prop := wordChainRow.holds Try.pinned (OpenSpec.ofChange wordChainSpec)

/-- ITS FALSE NEIGHBOUR: 'it returns false'. Refute it at one input. -/
def wordChainWrong : ChangeSpec := { name := "wordChain", fn := fun _ => fun
  | [d1, d2] => { results := [.lit (.bool false)], args := [d1, d2] }
  | _ => none }
def WordChainWrongFalsely : Prop := wordChainRow.holds Try.pinned (OpenSpec.ofChange wordChainWrong)

/-- 'reclaimlaw01.WordPlan': WHATEVER THE INPUT: true; the input reads as it did. -/
def wordPlanSpec : ChangeSpec := { name := "wordPlan", fn := fun _ => fun
  | [d1, d2, d3] => { results := [.lit (.bool true)], args := [d1, d2, d3] }
  | _ => none }
def wordPlanRow : OpenClaim := { program := "ytbbgobahhcfjjab", sum := "7993255e6f57d60377f143dfaf93f85a9ac2a834fb0031c44c86fd9c22678578", func := "reclaim/reclaimlaw01.WordPlan", spec := "wordPlan", apart := false }
def WordPlanSaid : Prop := wordPlanRow.holds Try.pinned (OpenSpec.ofChange wordPlanSpec)

/-- ITS FALSE NEIGHBOUR: 'it returns false'. Refute it at one input. -/
def wordPlanWrong : ChangeSpec := { name := "wordPlan", fn := fun _ => fun
  | [d1, d2, d3] => { results := [.lit (.bool false)], args := [d1, d2, d3] }
  | _ => none }
def WordPlanWrongFalsely : Prop := wordPlanRow.holds Try.pinned (OpenSpec.ofChange wordPlanWrong)

/-- 'reclaimlaw01.WordFirst': WHATEVER THE INPUT: true; the input reads as it did. -/
def wordFirstSpec : ChangeSpec := { name := "wordFirst", fn := fun _ => fun
  | [d1, d2] => { results := [.lit (.bool true)], args := [d1, d2] }
  | _ => none }
def wordFirstRow : OpenClaim := { program := "ytbbgobahhcfjjab", sum := "7993255e6f57d60377f143dfaf93f85a9ac2a834fb0031c44c86fd9c22678578", func := "reclaim/reclaimlaw01.WordFirst", spec := "wordFirst", apart := false }
def WordFirstSaid : Prop := wordFirstRow.holds Try.pinned (OpenSpec.ofChange wordFirstSpec)

/-- ITS FALSE NEIGHBOUR: 'it returns false'. Refute it at one input. -/
def wordFirstWrong : ChangeSpec := { name := "wordFirst", fn := fun _ => fun
  | [d1, d2] => { results := [.lit (.bool false)], args := [d1, d2] }
  | _ => none }
def WordFirstWrongFalsely : Prop := wordFirstRow.holds Try.pinned (OpenSpec.ofChange wordFirstWrong)

/- THE SECOND FORM. 'bulk': how many values and letters a reading holds, each counted each time it is reached (what is shared counts as often as it is met; a slice's spare places count too). A statement '..UptoSaid' is the law's where the arguments, and the package variables that the reading takes, are together of bulk at most 1048576: NARROWER than '..Said'. Prove '..Said' where nothing that the law and all that it calls make is longer than what came in: it says more and counts as full. Else prove '..UptoSaid'. A law counts once. -/
mutual
def uptoBulk {H : Type} : DataW H → Nat
  | .lit (.string bytes) => bytes.length + 1
  | .lit _ => 1
  | .nil => 1
  | .ptr d => uptoBulk d + 1
  | .slice elems spare => uptoBulkAll elems + uptoBulkAll spare + 1
  | .agg parts => uptoBulkAll parts + 1
  | .iface _ d => uptoBulk d + 1
  | .map entries => uptoBulkEntries entries + 1
  | .held _ => 1
def uptoBulkAll {H : Type} : List (DataW H) → Nat
  | [] => 0
  | d :: r => uptoBulk d + uptoBulkAll r
def uptoBulkEntries {H : Type} : List (Lit × DataW H) → Nat
  | [] => 0
  | x :: r => uptoBulkEntry x + uptoBulkEntries r
def uptoBulkEntry {H : Type} : Lit × DataW H → Nat
  | (.string bytes, d) => bytes.length + uptoBulk d + 1
  | (_, d) => uptoBulk d + 1
 end
def uptoSmall : (H : Type) → List (DataW H) → Bool := fun _ ds => decide (uptoBulkAll ds ≤ 1048576)
def OpenSpec.upto (s : _root_.Go.ChangeSpec) : _root_.Go.OpenSpec := { _root_.Go.OpenSpec.ofChange s with cond := some uptoSmall }

/-- 'reclaimlaw01.WordChain', WHERE WHAT IT READS IS OF BULK AT MOST 1048576: true; the input reads as it did. -/
def wordChainUptoRow : OpenClaim := { program := "ytbbgobahhcfjjab", sum := "7993255e6f57d60377f143dfaf93f85a9ac2a834fb0031c44c86fd9c22678578", func := "reclaim/reclaimlaw01.WordChain", spec := "wordChain", apart := false, narrowed := true }
def WordChainUptoSaid : Prop := wordChainUptoRow.holds Try.pinned (OpenSpec.upto wordChainSpec)

/-- 'reclaimlaw01.WordPlan', WHERE WHAT IT READS IS OF BULK AT MOST 1048576: true; the input reads as it did. -/
def wordPlanUptoRow : OpenClaim := { program := "ytbbgobahhcfjjab", sum := "7993255e6f57d60377f143dfaf93f85a9ac2a834fb0031c44c86fd9c22678578", func := "reclaim/reclaimlaw01.WordPlan", spec := "wordPlan", apart := false, narrowed := true }
def WordPlanUptoSaid : Prop := wordPlanUptoRow.holds Try.pinned (OpenSpec.upto wordPlanSpec)

/-- 'reclaimlaw01.WordFirst', WHERE WHAT IT READS IS OF BULK AT MOST 1048576: true; the input reads as it did. -/
def wordFirstUptoRow : OpenClaim := { program := "ytbbgobahhcfjjab", sum := "7993255e6f57d60377f143dfaf93f85a9ac2a834fb0031c44c86fd9c22678578", func := "reclaim/reclaimlaw01.WordFirst", spec := "wordFirst", apart := false, narrowed := true }
def WordFirstUptoSaid : Prop := wordFirstUptoRow.holds Try.pinned (OpenSpec.upto wordFirstSpec)

end Rows
end Go.Proofs.Ytbbgobahhcfjjab
