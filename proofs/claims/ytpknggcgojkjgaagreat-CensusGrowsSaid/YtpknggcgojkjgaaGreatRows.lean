/-
  No cell of these rows narrows 'for every input' (looked for: loops, veiled, ifaces, maps, wideKeys, modest, calm, conditions, laid).
  DERIVED. THE GIVEN ROWS OF THIS SEAT. 6 by the template 'for every input the law returns true; each argument reads behind the call as it read before'; 0 by the template 'total and deterministic' (their statements: YtpknggcgojkjgaaGreatTotals.lean).
  GIVEN WITH THE SEED: the statements are not yours to turn. If you find one false, say at which input.
  Laid BY PROGRAM, IN A SANDBOX (cutbox-rows.mjs): the forced cells as the released guide's own fill.sh prints them over the translation 15660f41270ecbbb… (all of the seat's roots in one cut). By AI agents, Wed Nov 11 2026. No macro, syntax, notation, axiom, sorry.
-/
import Derived.Test.YtpknggcgojkjgaaGreatChecked
import GoSem.Claim
import GoSem.ClaimJoined
import GoSem.ClaimMapViews
import Derived.JoinedTies
import Derived.KernelRfl
namespace Go.Proofs.YtpknggcgojkjgaaGreat
/- THE CELL 'sum', in the pinned program and in every row, IS THE sha256 OF THE DUMP (.gsa) THAT YtpknggcgojkjgaaGreatProg.lean LOADS. Nothing in Lean hashes anything: it is a label: what it is worth is what the hold of that sum in a sandbox is worth. -/
noncomputable def Tryz.pinned : Pinned := { name := "ytpknggcgojkjgaagreat", sum := "15660f41270ecbbb9381114f428b42f76d5da7b7d55534d11f47861982cac422", checked := Tryz.checked }
namespace Rows
def none {H : Type} : Left H := { results := [], args := [] }

/-- 'reclaimlaw13.CensusGrows': WHATEVER THE INPUT: true; the input reads as it did. -/
def censusGrowsSpec : ChangeSpec := { name := "censusGrows", fn := fun _ => fun
  | [d1, d2] => { results := [.lit (.bool true)], args := [d1, d2] }
  | _ => none }
def censusGrowsRow : OpenClaim := { program := "ytpknggcgojkjgaagreat", sum := "15660f41270ecbbb9381114f428b42f76d5da7b7d55534d11f47861982cac422", func := "reclaim/reclaimlaw13.CensusGrows", spec := "censusGrows", inPlace := ["slices.overlaps[reclaim/api.Fault]"], unfollowed := true, recurses := true, apart := false }
def CensusGrowsSaid : Prop := censusGrowsRow.holds Tryz.pinned (OpenSpec.ofChange censusGrowsSpec)

/-- ITS FALSE NEIGHBOUR: 'it returns false'. Refute it at one input. -/
def censusGrowsWrong : ChangeSpec := { name := "censusGrows", fn := fun _ => fun
  | [d1, d2] => { results := [.lit (.bool false)], args := [d1, d2] }
  | _ => none }
def CensusGrowsWrongFalsely : Prop := censusGrowsRow.holds Tryz.pinned (OpenSpec.ofChange censusGrowsWrong)

/-- 'reclaimlaw13.CensusBounds': WHATEVER THE INPUT: true; the input reads as it did. -/
def censusBoundsSpec : ChangeSpec := { name := "censusBounds", fn := fun _ => fun
  | [d] => { results := [.lit (.bool true)], args := [d] }
  | _ => none }
def censusBoundsRow : OpenClaim := { program := "ytpknggcgojkjgaagreat", sum := "15660f41270ecbbb9381114f428b42f76d5da7b7d55534d11f47861982cac422", func := "reclaim/reclaimlaw13.CensusBounds", spec := "censusBounds", inPlace := ["slices.overlaps[reclaim/api.Fault]"], unfollowed := true, recurses := true, apart := false }
def CensusBoundsSaid : Prop := censusBoundsRow.holds Tryz.pinned (OpenSpec.ofChange censusBoundsSpec)

/-- ITS FALSE NEIGHBOUR: 'it returns false'. Refute it at one input. -/
def censusBoundsWrong : ChangeSpec := { name := "censusBounds", fn := fun _ => fun
  | [d] => { results := [.lit (.bool false)], args := [d] }
  | _ => none }
def CensusBoundsWrongFalsely : Prop := censusBoundsRow.holds Tryz.pinned (OpenSpec.ofChange censusBoundsWrong)

/-- 'reclaimlaw13.CensusStates': WHATEVER THE INPUT: true; the input reads as it did. -/
def censusStatesSpec : ChangeSpec := { name := "censusStates", fn := fun _ => fun
  | [d] => { results := [.lit (.bool true)], args := [d] }
  | _ => none }
def censusStatesRow : OpenClaim := { program := "ytpknggcgojkjgaagreat", sum := "15660f41270ecbbb9381114f428b42f76d5da7b7d55534d11f47861982cac422", func := "reclaim/reclaimlaw13.CensusStates", spec := "censusStates", inPlace := ["slices.overlaps[reclaim/api.Fault]"], unfollowed := true, recurses := true, apart := false }
def CensusStatesSaid : Prop := censusStatesRow.holds Tryz.pinned (OpenSpec.ofChange censusStatesSpec)

/-- ITS FALSE NEIGHBOUR: 'it returns false'. Refute it at one input. -/
def censusStatesWrong : ChangeSpec := { name := "censusStates", fn := fun _ => fun
  | [d] => { results := [.lit (.bool false)], args := [d] }
  | _ => none }
def CensusStatesWrongFalsely : Prop := censusStatesRow.holds Tryz.pinned (OpenSpec.ofChange censusStatesWrong)

/-- 'reclaimlaw13.CensusMays': WHATEVER THE INPUT: true; the input reads as it did. -/
def censusMaysSpec : ChangeSpec := { name := "censusMays", fn := fun _ => fun
  | [d] => { results := [.lit (.bool true)], args := [d] }
  | _ => none }
def censusMaysRow : OpenClaim := { program := "ytpknggcgojkjgaagreat", sum := "15660f41270ecbbb9381114f428b42f76d5da7b7d55534d11f47861982cac422", func := "reclaim/reclaimlaw13.CensusMays", spec := "censusMays", inPlace := ["slices.overlaps[reclaim/api.Fault]"], unfollowed := true, recurses := true, apart := false }
def CensusMaysSaid : Prop := censusMaysRow.holds Tryz.pinned (OpenSpec.ofChange censusMaysSpec)

/-- ITS FALSE NEIGHBOUR: 'it returns false'. Refute it at one input. -/
def censusMaysWrong : ChangeSpec := { name := "censusMays", fn := fun _ => fun
  | [d] => { results := [.lit (.bool false)], args := [d] }
  | _ => none }
def CensusMaysWrongFalsely : Prop := censusMaysRow.holds Tryz.pinned (OpenSpec.ofChange censusMaysWrong)

/-- 'reclaimlaw13.CensusDishonest': WHATEVER THE INPUT: true; the input reads as it did. -/
def censusDishonestSpec : ChangeSpec := { name := "censusDishonest", fn := fun _ => fun
  | [d] => { results := [.lit (.bool true)], args := [d] }
  | _ => none }
def censusDishonestRow : OpenClaim := { program := "ytpknggcgojkjgaagreat", sum := "15660f41270ecbbb9381114f428b42f76d5da7b7d55534d11f47861982cac422", func := "reclaim/reclaimlaw13.CensusDishonest", spec := "censusDishonest", inPlace := ["slices.overlaps[reclaim/api.Fault]"], unfollowed := true, recurses := true, apart := false }
def CensusDishonestSaid : Prop := censusDishonestRow.holds Tryz.pinned (OpenSpec.ofChange censusDishonestSpec)

/-- ITS FALSE NEIGHBOUR: 'it returns false'. Refute it at one input. -/
def censusDishonestWrong : ChangeSpec := { name := "censusDishonest", fn := fun _ => fun
  | [d] => { results := [.lit (.bool false)], args := [d] }
  | _ => none }
def CensusDishonestWrongFalsely : Prop := censusDishonestRow.holds Tryz.pinned (OpenSpec.ofChange censusDishonestWrong)

/-- 'reclaimlaw13.CensusPeaks': WHATEVER THE INPUT: true; the input reads as it did. -/
def censusPeaksSpec : ChangeSpec := { name := "censusPeaks", fn := fun _ => fun
  | [d] => { results := [.lit (.bool true)], args := [d] }
  | _ => none }
def censusPeaksRow : OpenClaim := { program := "ytpknggcgojkjgaagreat", sum := "15660f41270ecbbb9381114f428b42f76d5da7b7d55534d11f47861982cac422", func := "reclaim/reclaimlaw13.CensusPeaks", spec := "censusPeaks", inPlace := ["slices.overlaps[reclaim/api.Fault]"], unfollowed := true, recurses := true, apart := false }
def CensusPeaksSaid : Prop := censusPeaksRow.holds Tryz.pinned (OpenSpec.ofChange censusPeaksSpec)

/-- ITS FALSE NEIGHBOUR: 'it returns false'. Refute it at one input. -/
def censusPeaksWrong : ChangeSpec := { name := "censusPeaks", fn := fun _ => fun
  | [d] => { results := [.lit (.bool false)], args := [d] }
  | _ => none }
def CensusPeaksWrongFalsely : Prop := censusPeaksRow.holds Tryz.pinned (OpenSpec.ofChange censusPeaksWrong)

/- THE SECOND FORM. 'bulk': how many values and letters a reading holds, each counted each time it is reached (what is shared counts as often as it is met; a slice's spare places count too). A statement '..UptoSaid' is the law's where the arguments, and the package variables that the reading takes, are together of bulk at most 1048576: NARROWER than '..Said'. Prove '..Said' where nothing that the law and all that it calls make is longer than what came in: it says more and counts as full. Else prove '..UptoSaid'. A law counts once. -/
mutual
def uptoBulk {H : Type} : DataW H → Nat
  | .lit (.string bytes) => bytes.length + 1
  | .lit _ => 1
  | .nil => 1
  | .ptr d => uptoBulk d + 1
  | .slice elems spare => uptoBulkAll elems + uptoBulkAll spare + 1
  | .agg parts => uptoBulkAll parts + 1
  | .iface _ d => uptoBulk d + 1
  | .map entries => uptoBulkEntries entries + 1
  | .held _ => 1
def uptoBulkAll {H : Type} : List (DataW H) → Nat
  | [] => 0
  | d :: r => uptoBulk d + uptoBulkAll r
def uptoBulkEntries {H : Type} : List (Lit × DataW H) → Nat
  | [] => 0
  | x :: r => uptoBulkEntry x + uptoBulkEntries r
def uptoBulkEntry {H : Type} : Lit × DataW H → Nat
  | (.string bytes, d) => bytes.length + uptoBulk d + 1
  | (_, d) => uptoBulk d + 1
 end
def uptoSmall : (H : Type) → List (DataW H) → Bool := fun _ ds => decide (uptoBulkAll ds ≤ 1048576)
def OpenSpec.upto (s : _root_.Go.ChangeSpec) : _root_.Go.OpenSpec := { _root_.Go.OpenSpec.ofChange s with cond := some uptoSmall }

/-- 'reclaimlaw13.CensusGrows', WHERE WHAT IT READS IS OF BULK AT MOST 1048576: true; the input reads as it did. -/
def censusGrowsUptoRow : OpenClaim := { program := "ytpknggcgojkjgaagreat", sum := "15660f41270ecbbb9381114f428b42f76d5da7b7d55534d11f47861982cac422", func := "reclaim/reclaimlaw13.CensusGrows", spec := "censusGrows", inPlace := ["slices.overlaps[reclaim/api.Fault]"], unfollowed := true, recurses := true, apart := false, narrowed := true }
def CensusGrowsUptoSaid : Prop := censusGrowsUptoRow.holds Tryz.pinned (OpenSpec.upto censusGrowsSpec)

/-- 'reclaimlaw13.CensusBounds', WHERE WHAT IT READS IS OF BULK AT MOST 1048576: true; the input reads as it did. -/
def censusBoundsUptoRow : OpenClaim := { program := "ytpknggcgojkjgaagreat", sum := "15660f41270ecbbb9381114f428b42f76d5da7b7d55534d11f47861982cac422", func := "reclaim/reclaimlaw13.CensusBounds", spec := "censusBounds", inPlace := ["slices.overlaps[reclaim/api.Fault]"], unfollowed := true, recurses := true, apart := false, narrowed := true }
def CensusBoundsUptoSaid : Prop := censusBoundsUptoRow.holds Tryz.pinned (OpenSpec.upto censusBoundsSpec)

/-- 'reclaimlaw13.CensusStates', WHERE WHAT IT READS IS OF BULK AT MOST 1048576: true; the input reads as it did. -/
def censusStatesUptoRow : OpenClaim := { program := "ytpknggcgojkjgaagreat", sum := "15660f41270ecbbb9381114f428b42f76d5da7b7d55534d11f47861982cac422", func := "reclaim/reclaimlaw13.CensusStates", spec := "censusStates", inPlace := ["slices.overlaps[reclaim/api.Fault]"], unfollowed := true, recurses := true, apart := false, narrowed := true }
def CensusStatesUptoSaid : Prop := censusStatesUptoRow.holds Tryz.pinned (OpenSpec.upto censusStatesSpec)

/-- 'reclaimlaw13.CensusMays', WHERE WHAT IT READS IS OF BULK AT MOST 1048576: true; the input reads as it did. -/
def censusMaysUptoRow : OpenClaim := { program := "ytpknggcgojkjgaagreat", sum := "15660f41270ecbbb9381114f428b42f76d5da7b7d55534d11f47861982cac422", func := "reclaim/reclaimlaw13.CensusMays", spec := "censusMays", inPlace := ["slices.overlaps[reclaim/api.Fault]"], unfollowed := true, recurses := true, apart := false, narrowed := true }
def CensusMaysUptoSaid : Prop := censusMaysUptoRow.holds Tryz.pinned (OpenSpec.upto censusMaysSpec)

/-- 'reclaimlaw13.CensusDishonest', WHERE WHAT IT READS IS OF BULK AT MOST 1048576: true; the input reads as it did. -/
def censusDishonestUptoRow : OpenClaim := { program := "ytpknggcgojkjgaagreat", sum := "15660f41270ecbbb9381114f428b42f76d5da7b7d55534d11f47861982cac422", func := "reclaim/reclaimlaw13.CensusDishonest", spec := "censusDishonest", inPlace := ["slices.overlaps[reclaim/api.Fault]"], unfollowed := true, recurses := true, apart := false, narrowed := true }
def CensusDishonestUptoSaid : Prop := censusDishonestUptoRow.holds Tryz.pinned (OpenSpec.upto censusDishonestSpec)

/-- 'reclaimlaw13.CensusPeaks', WHERE WHAT IT READS IS OF BULK AT MOST 1048576: true; the input reads as it did. -/
def censusPeaksUptoRow : OpenClaim := { program := "ytpknggcgojkjgaagreat", sum := "15660f41270ecbbb9381114f428b42f76d5da7b7d55534d11f47861982cac422", func := "reclaim/reclaimlaw13.CensusPeaks", spec := "censusPeaks", inPlace := ["slices.overlaps[reclaim/api.Fault]"], unfollowed := true, recurses := true, apart := false, narrowed := true }
def CensusPeaksUptoSaid : Prop := censusPeaksUptoRow.holds Tryz.pinned (OpenSpec.upto censusPeaksSpec)

end Rows
end Go.Proofs.YtpknggcgojkjgaaGreat
