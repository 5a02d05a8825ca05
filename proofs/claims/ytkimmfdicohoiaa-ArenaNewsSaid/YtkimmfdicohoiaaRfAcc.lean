import Derived.Test.YtkimmfdicohoiaaRfRep
import Derived.BigQuiet
import Derived.BigRegion
import Derived.Test.YtkimmfdicohoiaaMemNote
/-
  THE DOCUMENT's MACHINE: an access is noted.
-/
namespace Go.Proofs.Ytkimmfdicohoiaa.Rf
open Go.RowKit Mr Me Ma
/-- What is behind the first n statements of a row of them. -/
def tl : Nat → Code → Code
  | n + 1, .seq _ b => tl n b
  | _, c => c
section
variable {W : World} {U : Nat → Prop} {q : Rc} {vc vl vs : Value} {s : Rs} {i : Nat} {t : Rt}
end
end Go.Proofs.Ytkimmfdicohoiaa.Rf
