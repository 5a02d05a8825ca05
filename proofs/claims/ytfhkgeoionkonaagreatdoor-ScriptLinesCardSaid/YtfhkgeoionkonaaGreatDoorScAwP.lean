/-
  SCRIPT, pure: the chapter's first example.
-/
import Derived.Test.YtfhkgeoionkonaaGreatDoorScParse
namespace Go.Proofs.YtfhkgeoionkonaaGreatDoor.Sc
open Go.RowKit
set_option linter.unusedVariables false
set_option linter.unusedSimpArgs false
set_option maxRecDepth 100000
def lineA : List UInt8 := [109, 97, 99, 104, 105, 110, 101, 32, 116, 104, 114, 101, 97, 100, 115, 32, 50, 32, 114, 101, 99, 111, 114, 100, 115, 32, 50, 32, 104, 97, 122, 97, 114, 100, 115, 32, 51, 32, 114, 101, 116, 105, 114, 101, 32, 49, 32, 99, 97, 99, 104, 101, 32, 48, 32, 115, 108, 111, 116, 115, 32, 52, 32, 98, 117, 99, 107, 101, 116, 115, 32, 49, 10]
def tlA : List UInt8 := [48, 32, 114, 101, 103, 105, 115, 116, 101, 114, 32, 35, 32, 102, 105, 114, 115, 116, 10, 48, 32, 46, 32, 50, 10, 10, 49, 32, 112, 117, 115, 104, 32, 45, 53, 10, 42, 32, 49, 10]
def tlB : List UInt8 := [48, 32, 114, 101, 103, 105, 115, 116, 101, 114, 10, 48, 32, 46, 32, 50, 10, 49, 32, 112, 117, 115, 104, 32, 45, 53, 10, 48, 32, 46, 10, 49, 32, 46, 10]
def cfS : Cf := ⟨2, 2, 3, 1, 0, 4, 1⟩
def msS : List Mv := [⟨0, 20, 0, 0⟩, ⟨0, 0, 0, 0⟩, ⟨0, 0, 0, 0⟩, ⟨1, 30, -5, 0⟩, ⟨0, 0, 0, 0⟩, ⟨1, 0, 0, 0⟩]
theorem aw_parse : parseO (lineA ++ tlA) = some (cfS, msS) := by decide +kernel
theorem aw_print : prints [2, 2, 3, 1, 0, 4, 1] msS = lineA ++ tlB := by decide +kernel
end Go.Proofs.YtfhkgeoionkonaaGreatDoor.Sc
