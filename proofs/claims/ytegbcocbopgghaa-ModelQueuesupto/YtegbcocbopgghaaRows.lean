/-
  No cell of these rows narrows 'for every input' (looked for: loops, veiled, ifaces, maps, wideKeys, modest, calm, conditions, laid).
  DERIVED. THE GIVEN ROWS OF THIS SEAT. 6 by the template 'for every input the law returns true; each argument reads behind the call as it read before'; 0 by the template 'total and deterministic' (their statements: YtegbcocbopgghaaTotals.lean).
  GIVEN WITH THE SEED: the statements are not yours to turn. If you find one false, say at which input.
  Laid BY PROGRAM, IN A SANDBOX (cutbox-rows.mjs): the forced cells as the released guide's own fill.sh prints them over the translation 3bf3d710c729e92d… (all of the seat's roots in one cut). By AI agents, Wed Nov 11 2026. No macro, syntax, notation, axiom, sorry.
-/
import Derived.Test.YtegbcocbopgghaaChecked
import GoSem.Claim
import GoSem.ClaimJoined
import GoSem.ClaimMapViews
import Derived.JoinedTies
import Derived.KernelRfl
namespace Go.Proofs.Ytegbcocbopgghaa
/- THE CELL 'sum', in the pinned program and in every row, IS THE sha256 OF THE DUMP (.gsa) THAT YtegbcocbopgghaaProg.lean LOADS. Nothing in Lean hashes anything: it is a label: what it is worth is what the hold of that sum in a sandbox is worth. -/
noncomputable def Try.pinned : Pinned := { name := "ytegbcocbopgghaa", sum := "3bf3d710c729e92d516491ecb3eb2ac0e0d9693b70b331d11d2a5020a3c1e428", checked := Try.checked }
namespace Rows
def none {H : Type} : Left H := { results := [], args := [] }

/-- 'reclaimlaw11.ModelObjects': WHATEVER THE INPUT: true; the input reads as it did. -/
def modelObjectsSpec : ChangeSpec := { name := "modelObjects", fn := fun _ => fun
  | [d] => { results := [.lit (.bool true)], args := [d] }
  | _ => none }
def modelObjectsRow : OpenClaim := { program := "ytegbcocbopgghaa", sum := "3bf3d710c729e92d516491ecb3eb2ac0e0d9693b70b331d11d2a5020a3c1e428", func := "reclaim/reclaimlaw11.ModelObjects", spec := "modelObjects", apart := false }
def ModelObjectsSaid : Prop := modelObjectsRow.holds Try.pinned (OpenSpec.ofChange modelObjectsSpec)

/-- ITS FALSE NEIGHBOUR: 'it returns false'. Refute it at one input. -/
def modelObjectsWrong : ChangeSpec := { name := "modelObjects", fn := fun _ => fun
  | [d] => { results := [.lit (.bool false)], args := [d] }
  | _ => none }
def ModelObjectsWrongFalsely : Prop := modelObjectsRow.holds Try.pinned (OpenSpec.ofChange modelObjectsWrong)

/-- 'reclaimlaw11.ModelMays': WHATEVER THE INPUT: true; the input reads as it did. -/
def modelMaysSpec : ChangeSpec := { name := "modelMays", fn := fun _ => fun
  | [d1, d2] => { results := [.lit (.bool true)], args := [d1, d2] }
  | _ => none }
def modelMaysRow : OpenClaim := { program := "ytegbcocbopgghaa", sum := "3bf3d710c729e92d516491ecb3eb2ac0e0d9693b70b331d11d2a5020a3c1e428", func := "reclaim/reclaimlaw11.ModelMays", spec := "modelMays", unfollowed := true, recurses := true, apart := false }
def ModelMaysSaid : Prop := modelMaysRow.holds Try.pinned (OpenSpec.ofChange modelMaysSpec)

/-- ITS FALSE NEIGHBOUR: 'it returns false'. Refute it at one input. -/
def modelMaysWrong : ChangeSpec := { name := "modelMays", fn := fun _ => fun
  | [d1, d2] => { results := [.lit (.bool false)], args := [d1, d2] }
  | _ => none }
def ModelMaysWrongFalsely : Prop := modelMaysRow.holds Try.pinned (OpenSpec.ofChange modelMaysWrong)

/-- 'reclaimlaw11.ModelParts': WHATEVER THE INPUT: true; the input reads as it did. -/
def modelPartsSpec : ChangeSpec := { name := "modelParts", fn := fun _ => fun
  | [d1, d2] => { results := [.lit (.bool true)], args := [d1, d2] }
  | _ => none }
def modelPartsRow : OpenClaim := { program := "ytegbcocbopgghaa", sum := "3bf3d710c729e92d516491ecb3eb2ac0e0d9693b70b331d11d2a5020a3c1e428", func := "reclaim/reclaimlaw11.ModelParts", spec := "modelParts", unfollowed := true, recurses := true, apart := false }
def ModelPartsSaid : Prop := modelPartsRow.holds Try.pinned (OpenSpec.ofChange modelPartsSpec)

/-- ITS FALSE NEIGHBOUR: 'it returns false'. Refute it at one input. -/
def modelPartsWrong : ChangeSpec := { name := "modelParts", fn := fun _ => fun
  | [d1, d2] => { results := [.lit (.bool false)], args := [d1, d2] }
  | _ => none }
def ModelPartsWrongFalsely : Prop := modelPartsRow.holds Try.pinned (OpenSpec.ofChange modelPartsWrong)

/-- 'reclaimlaw11.ModelQueues': WHATEVER THE INPUT: true; the input reads as it did. -/
def modelQueuesSpec : ChangeSpec := { name := "modelQueues", fn := fun _ => fun
  | [d1, d2] => { results := [.lit (.bool true)], args := [d1, d2] }
  | _ => none }
def modelQueuesRow : OpenClaim := { program := "ytegbcocbopgghaa", sum := "3bf3d710c729e92d516491ecb3eb2ac0e0d9693b70b331d11d2a5020a3c1e428", func := "reclaim/reclaimlaw11.ModelQueues", spec := "modelQueues", unfollowed := true, recurses := true, apart := false }
def ModelQueuesSaid : Prop := modelQueuesRow.holds Try.pinned (OpenSpec.ofChange modelQueuesSpec)

/-- ITS FALSE NEIGHBOUR: 'it returns false'. Refute it at one input. -/
def modelQueuesWrong : ChangeSpec := { name := "modelQueues", fn := fun _ => fun
  | [d1, d2] => { results := [.lit (.bool false)], args := [d1, d2] }
  | _ => none }
def ModelQueuesWrongFalsely : Prop := modelQueuesRow.holds Try.pinned (OpenSpec.ofChange modelQueuesWrong)

/-- 'reclaimlaw11.ModelStacks': WHATEVER THE INPUT: true; the input reads as it did. -/
def modelStacksSpec : ChangeSpec := { name := "modelStacks", fn := fun _ => fun
  | [d1, d2] => { results := [.lit (.bool true)], args := [d1, d2] }
  | _ => none }
def modelStacksRow : OpenClaim := { program := "ytegbcocbopgghaa", sum := "3bf3d710c729e92d516491ecb3eb2ac0e0d9693b70b331d11d2a5020a3c1e428", func := "reclaim/reclaimlaw11.ModelStacks", spec := "modelStacks", unfollowed := true, recurses := true, apart := false }
def ModelStacksSaid : Prop := modelStacksRow.holds Try.pinned (OpenSpec.ofChange modelStacksSpec)

/-- ITS FALSE NEIGHBOUR: 'it returns false'. Refute it at one input. -/
def modelStacksWrong : ChangeSpec := { name := "modelStacks", fn := fun _ => fun
  | [d1, d2] => { results := [.lit (.bool false)], args := [d1, d2] }
  | _ => none }
def ModelStacksWrongFalsely : Prop := modelStacksRow.holds Try.pinned (OpenSpec.ofChange modelStacksWrong)

/-- 'reclaimlaw11.ModelSets': WHATEVER THE INPUT: true; the input reads as it did. -/
def modelSetsSpec : ChangeSpec := { name := "modelSets", fn := fun _ => fun
  | [d1, d2, d3] => { results := [.lit (.bool true)], args := [d1, d2, d3] }
  | _ => none }
def modelSetsRow : OpenClaim := { program := "ytegbcocbopgghaa", sum := "3bf3d710c729e92d516491ecb3eb2ac0e0d9693b70b331d11d2a5020a3c1e428", func := "reclaim/reclaimlaw11.ModelSets", spec := "modelSets", unfollowed := true, recurses := true, apart := false }
def ModelSetsSaid : Prop := modelSetsRow.holds Try.pinned (OpenSpec.ofChange modelSetsSpec)

/-- ITS FALSE NEIGHBOUR: 'it returns false'. Refute it at one input. -/
def modelSetsWrong : ChangeSpec := { name := "modelSets", fn := fun _ => fun
  | [d1, d2, d3] => { results := [.lit (.bool false)], args := [d1, d2, d3] }
  | _ => none }
def ModelSetsWrongFalsely : Prop := modelSetsRow.holds Try.pinned (OpenSpec.ofChange modelSetsWrong)

/- THE SECOND FORM. 'bulk': how many values and letters a reading holds, each counted each time it is reached (what is shared counts as often as it is met; a slice's spare places count too). A statement '..UptoSaid' is the law's where the arguments, and the package variables that the reading takes, are together of bulk at most 1048576: NARROWER than '..Said'. Prove '..Said' where nothing that the law and all that it calls make is longer than what came in: it says more and counts as full. Else prove '..UptoSaid'. A law counts once. -/
mutual
def uptoBulk {H : Type} : DataW H → Nat
  | .lit (.string bytes) => bytes.length + 1
  | .lit _ => 1
  | .nil => 1
  | .ptr d => uptoBulk d + 1
  | .slice elems spare => uptoBulkAll elems + uptoBulkAll spare + 1
  | .agg parts => uptoBulkAll parts + 1
  | .iface _ d => uptoBulk d + 1
  | .map entries => uptoBulkEntries entries + 1
  | .held _ => 1
def uptoBulkAll {H : Type} : List (DataW H) → Nat
  | [] => 0
  | d :: r => uptoBulk d + uptoBulkAll r
def uptoBulkEntries {H : Type} : List (Lit × DataW H) → Nat
  | [] => 0
  | x :: r => uptoBulkEntry x + uptoBulkEntries r
def uptoBulkEntry {H : Type} : Lit × DataW H → Nat
  | (.string bytes, d) => bytes.length + uptoBulk d + 1
  | (_, d) => uptoBulk d + 1
 end
def uptoSmall : (H : Type) → List (DataW H) → Bool := fun _ ds => decide (uptoBulkAll ds ≤ 1048576)
def OpenSpec.upto (s : _root_.Go.ChangeSpec) : _root_.Go.OpenSpec := { _root_.Go.OpenSpec.ofChange s with cond := some uptoSmall }

/-- 'reclaimlaw11.ModelObjects', WHERE WHAT IT READS IS OF BULK AT MOST 1048576: true; the input reads as it did. -/
def modelObjectsUptoRow : OpenClaim := { program := "ytegbcocbopgghaa", sum := "3bf3d710c729e92d516491ecb3eb2ac0e0d9693b70b331d11d2a5020a3c1e428", func := "reclaim/reclaimlaw11.ModelObjects", spec := "modelObjects", apart := false, narrowed := true }
def ModelObjectsUptoSaid : Prop := modelObjectsUptoRow.holds Try.pinned (OpenSpec.upto modelObjectsSpec)

/-- 'reclaimlaw11.ModelMays', WHERE WHAT IT READS IS OF BULK AT MOST 1048576: true; the input reads as it did. -/
def modelMaysUptoRow : OpenClaim := { program := "ytegbcocbopgghaa", sum := "3bf3d710c729e92d516491ecb3eb2ac0e0d9693b70b331d11d2a5020a3c1e428", func := "reclaim/reclaimlaw11.ModelMays", spec := "modelMays", unfollowed := true, recurses := true, apart := false, narrowed := true }
def ModelMaysUptoSaid : Prop := modelMaysUptoRow.holds Try.pinned (OpenSpec.upto modelMaysSpec)

/-- 'reclaimlaw11.ModelParts', WHERE WHAT IT READS IS OF BULK AT MOST 1048576: true; the input reads as it did. -/
def modelPartsUptoRow : OpenClaim := { program := "ytegbcocbopgghaa", sum := "3bf3d710c729e92d516491ecb3eb2ac0e0d9693b70b331d11d2a5020a3c1e428", func := "reclaim/reclaimlaw11.ModelParts", spec := "modelParts", unfollowed := true, recurses := true, apart := false, narrowed := true }
def ModelPartsUptoSaid : Prop := modelPartsUptoRow.holds Try.pinned (OpenSpec.upto modelPartsSpec)

/-- 'reclaimlaw11.ModelQueues', WHERE WHAT IT READS IS OF BULK AT MOST 1048576: true; the input reads as it did. -/
def modelQueuesUptoRow : OpenClaim := { program := "ytegbcocbopgghaa", sum := "3bf3d710c729e92d516491ecb3eb2ac0e0d9693b70b331d11d2a5020a3c1e428", func := "reclaim/reclaimlaw11.ModelQueues", spec := "modelQueues", unfollowed := true, recurses := true, apart := false, narrowed := true }
def ModelQueuesUptoSaid : Prop := modelQueuesUptoRow.holds Try.pinned (OpenSpec.upto modelQueuesSpec)

/-- 'reclaimlaw11.ModelStacks', WHERE WHAT IT READS IS OF BULK AT MOST 1048576: true; the input reads as it did. -/
def modelStacksUptoRow : OpenClaim := { program := "ytegbcocbopgghaa", sum := "3bf3d710c729e92d516491ecb3eb2ac0e0d9693b70b331d11d2a5020a3c1e428", func := "reclaim/reclaimlaw11.ModelStacks", spec := "modelStacks", unfollowed := true, recurses := true, apart := false, narrowed := true }
def ModelStacksUptoSaid : Prop := modelStacksUptoRow.holds Try.pinned (OpenSpec.upto modelStacksSpec)

/-- 'reclaimlaw11.ModelSets', WHERE WHAT IT READS IS OF BULK AT MOST 1048576: true; the input reads as it did. -/
def modelSetsUptoRow : OpenClaim := { program := "ytegbcocbopgghaa", sum := "3bf3d710c729e92d516491ecb3eb2ac0e0d9693b70b331d11d2a5020a3c1e428", func := "reclaim/reclaimlaw11.ModelSets", spec := "modelSets", unfollowed := true, recurses := true, apart := false, narrowed := true }
def ModelSetsUptoSaid : Prop := modelSetsUptoRow.holds Try.pinned (OpenSpec.upto modelSetsSpec)

end Rows
end Go.Proofs.Ytegbcocbopgghaa
