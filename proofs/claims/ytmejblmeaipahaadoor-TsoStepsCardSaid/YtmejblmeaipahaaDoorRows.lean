/-
  NARROWER THAN 'FOR EVERY INPUT', by the rows' own cells (each row's printed sentence says how): TsoRuns: laid · TsoSteps: laid.
  DERIVED. THE GIVEN ROWS OF THIS SEAT. 2 by the template 'for every input the law returns true; each argument reads behind the call as it read before'; 0 by the template 'total and deterministic' (their statements: YtmejblmeaipahaaDoorTotals.lean).
  GIVEN WITH THE SEED: the statements are not yours to turn. If you find one false, say at which input.
  Laid BY PROGRAM, IN A SANDBOX (cutbox-rows.mjs): the forced cells as the released guide's own fill.sh prints them over the translation 033ea29bbb32b293… (all of the seat's roots in one cut). By AI agents, Wed Nov 11 2026. No macro, syntax, notation, axiom, sorry.
-/
import Derived.Test.YtmejblmeaipahaaDoorChecked
import GoSem.Claim
import GoSem.ClaimJoined
import GoSem.ClaimMapViews
import Derived.JoinedTies
import Derived.KernelRfl
namespace Go.Proofs.YtmejblmeaipahaaDoor
/- THE CELL 'sum', in the pinned program and in every row, IS THE sha256 OF THE DUMP (.gsa) THAT YtmejblmeaipahaaDoorProg.lean LOADS. Nothing in Lean hashes anything: it is a label: what it is worth is what the hold of that sum in a sandbox is worth. -/
noncomputable def Tryd.pinned : Pinned := { name := "ytmejblmeaipahaadoor", sum := "033ea29bbb32b2938cd68fcf35f487c2e98db7612d82d909f1baec1b3bbfb498", checked := Tryd.checked }
namespace Rows
def none {H : Type} : Left H := { results := [], args := [] }

/- WHAT THE LISTED PACKAGE-LEVEL VARIABLES READ AS WHEN THE CALL BEGINS. Each datum BY PROGRAM (the guide's laid-datum.mjs) off the statement by which the dump's own 'gosem.cut.vars' lays the variable. In a bare row this is a premise. The card (YtmejblmeaipahaaDoorCards.lean) ties it to the program's text. -/
def laid_reclaim_tso_looks {H : Type} : DataW H := .agg [.agg [.lit (.bool false), .lit (.bool false), .lit (.bool false), .lit (.bool false)], .agg [.lit (.bool true), .lit (.bool true), .lit (.bool false), .lit (.bool false)], .agg [.lit (.bool false), .lit (.bool true), .lit (.bool true), .lit (.bool false)], .agg [.lit (.bool true), .lit (.bool true), .lit (.bool false), .lit (.bool false)], .agg [.lit (.bool false), .lit (.bool false), .lit (.bool false), .lit (.bool false)], .agg [.lit (.bool true), .lit (.bool false), .lit (.bool false), .lit (.bool false)], .agg [.lit (.bool true), .lit (.bool false), .lit (.bool false), .lit (.bool false)], .agg [.lit (.bool true), .lit (.bool false), .lit (.bool false), .lit (.bool true)]]

/-- 'reclaimlaw19.TsoRuns': WHATEVER THE INPUT: true; the input reads as it did. -/
def tsoRunsSpec : ChangeSpec := { name := "tsoRuns", fn := fun _ => fun
  | [d1, d2, d3] => { results := [.lit (.bool true)], args := [d1, d2, d3] }
  | _ => none }
def tsoRunsRow : OpenClaim := { program := "ytmejblmeaipahaadoor", sum := "033ea29bbb32b2938cd68fcf35f487c2e98db7612d82d909f1baec1b3bbfb498", func := "reclaim/reclaimlaw19.TsoRuns", spec := "tsoRuns", unfollowed := true, recurses := true, named := ["reclaim/tso.looks"], apart := false, laid := [("reclaim/tso.looks", laid_reclaim_tso_looks)] }
def TsoRunsSaid : Prop := tsoRunsRow.holds Tryd.pinned (OpenSpec.ofChange tsoRunsSpec)

/-- ITS FALSE NEIGHBOUR: 'it returns false'. Refute it at one input. -/
def tsoRunsWrong : ChangeSpec := { name := "tsoRuns", fn := fun _ => fun
  | [d1, d2, d3] => { results := [.lit (.bool false)], args := [d1, d2, d3] }
  | _ => none }
def TsoRunsWrongFalsely : Prop := tsoRunsRow.holds Tryd.pinned (OpenSpec.ofChange tsoRunsWrong)

/-- 'reclaimlaw19.TsoSteps': WHATEVER THE INPUT: true; the input reads as it did. -/
def tsoStepsSpec : ChangeSpec := { name := "tsoSteps", fn := fun _ => fun
  | [d1, d2, d3, d4] => { results := [.lit (.bool true)], args := [d1, d2, d3, d4] }
  | _ => none }
def tsoStepsRow : OpenClaim := { program := "ytmejblmeaipahaadoor", sum := "033ea29bbb32b2938cd68fcf35f487c2e98db7612d82d909f1baec1b3bbfb498", func := "reclaim/reclaimlaw19.TsoSteps", spec := "tsoSteps", unfollowed := true, recurses := true, named := ["reclaim/tso.looks"], apart := false, laid := [("reclaim/tso.looks", laid_reclaim_tso_looks)] }
def TsoStepsSaid : Prop := tsoStepsRow.holds Tryd.pinned (OpenSpec.ofChange tsoStepsSpec)

/-- ITS FALSE NEIGHBOUR: 'it returns false'. Refute it at one input. -/
def tsoStepsWrong : ChangeSpec := { name := "tsoSteps", fn := fun _ => fun
  | [d1, d2, d3, d4] => { results := [.lit (.bool false)], args := [d1, d2, d3, d4] }
  | _ => none }
def TsoStepsWrongFalsely : Prop := tsoStepsRow.holds Tryd.pinned (OpenSpec.ofChange tsoStepsWrong)

/- THE SECOND FORM. 'bulk': how many values and letters a reading holds, each counted each time it is reached (what is shared counts as often as it is met; a slice's spare places count too). A statement '..UptoSaid' is the law's where the arguments, and the package variables that the reading takes, are together of bulk at most 1048576: NARROWER than '..Said'. Prove '..Said' where nothing that the law and all that it calls make is longer than what came in: it says more and counts as full. Else prove '..UptoSaid'. A law counts once. -/
mutual
def uptoBulk {H : Type} : DataW H → Nat
  | .lit (.string bytes) => bytes.length + 1
  | .lit _ => 1
  | .nil => 1
  | .ptr d => uptoBulk d + 1
  | .slice elems spare => uptoBulkAll elems + uptoBulkAll spare + 1
  | .agg parts => uptoBulkAll parts + 1
  | .iface _ d => uptoBulk d + 1
  | .map entries => uptoBulkEntries entries + 1
  | .held _ => 1
def uptoBulkAll {H : Type} : List (DataW H) → Nat
  | [] => 0
  | d :: r => uptoBulk d + uptoBulkAll r
def uptoBulkEntries {H : Type} : List (Lit × DataW H) → Nat
  | [] => 0
  | x :: r => uptoBulkEntry x + uptoBulkEntries r
def uptoBulkEntry {H : Type} : Lit × DataW H → Nat
  | (.string bytes, d) => bytes.length + uptoBulk d + 1
  | (_, d) => uptoBulk d + 1
 end
def uptoSmall : (H : Type) → List (DataW H) → Bool := fun _ ds => decide (uptoBulkAll ds ≤ 1048576)
def OpenSpec.upto (s : _root_.Go.ChangeSpec) : _root_.Go.OpenSpec := { _root_.Go.OpenSpec.ofChange s with cond := some uptoSmall }

/-- 'reclaimlaw19.TsoRuns', WHERE WHAT IT READS IS OF BULK AT MOST 1048576: true; the input reads as it did. -/
def tsoRunsUptoRow : OpenClaim := { program := "ytmejblmeaipahaadoor", sum := "033ea29bbb32b2938cd68fcf35f487c2e98db7612d82d909f1baec1b3bbfb498", func := "reclaim/reclaimlaw19.TsoRuns", spec := "tsoRuns", unfollowed := true, recurses := true, named := ["reclaim/tso.looks"], apart := false, laid := [("reclaim/tso.looks", laid_reclaim_tso_looks)], narrowed := true }
def TsoRunsUptoSaid : Prop := tsoRunsUptoRow.holds Tryd.pinned (OpenSpec.upto tsoRunsSpec)

/-- 'reclaimlaw19.TsoSteps', WHERE WHAT IT READS IS OF BULK AT MOST 1048576: true; the input reads as it did. -/
def tsoStepsUptoRow : OpenClaim := { program := "ytmejblmeaipahaadoor", sum := "033ea29bbb32b2938cd68fcf35f487c2e98db7612d82d909f1baec1b3bbfb498", func := "reclaim/reclaimlaw19.TsoSteps", spec := "tsoSteps", unfollowed := true, recurses := true, named := ["reclaim/tso.looks"], apart := false, laid := [("reclaim/tso.looks", laid_reclaim_tso_looks)], narrowed := true }
def TsoStepsUptoSaid : Prop := tsoStepsUptoRow.holds Tryd.pinned (OpenSpec.upto tsoStepsSpec)

end Rows
end Go.Proofs.YtmejblmeaipahaaDoor
