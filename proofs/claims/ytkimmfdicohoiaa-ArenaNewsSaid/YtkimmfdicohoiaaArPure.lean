import Derived.Test.YtkimmfdicohoiaaMacRep
/-
  THE ARENA on the machine, without the model: what its parts do, and what a move makes of it all.
-/
namespace Go.Proofs.Ytkimmfdicohoiaa.Ar
open Ma Me
/-- Slots (each one's state and holder) and caches. -/
structure Ao where
  sl : List (Int × Int)
  ca : List (List Int)
/-- Where a part stands: the place, its slot, Free as loaded, the spare word as loaded, whether it has taken. -/
structure Pk where
  nx : Int
  sl : Int
  hd : Int
  bh : Int
  tk : Bool
inductive Kd where
  | take
  | give
  | flush
def Ao.cache (A : Ao) (th : Nat) : List Int := A.ca[th]?.getD []
def Ao.has (A : Ao) (slot : Int) : Prop := 0 ≤ slot ∧ slot < A.sl.length
instance (A : Ao) (slot : Int) : Decidable (A.has slot) := by unfold Ao.has; infer_instance
def Ao.st (A : Ao) (slot : Int) : Int × Int := A.sl[slot.toNat]?.getD (0, -1)
def holder (to : Int) (i : Nat) : Int := if to = 0 ∨ to = 3 then -1 else i
def Ao.put (A : Ao) (slot to : Int) (i : Nat) : Ao := { A with sl := A.sl.set slot.toNat (to, holder to i) }
/-- A thread: its task, whether its call has made no step, its last call. -/
structure At where
  tk : Option (Kd × Pk)
  fr : Bool
  call : Int
/-- The machine with an arena: m is where the spare words begin, K how many slots a cache takes. -/
structure Pa where
  m : Nat
  K : Nat
  A : Ao
  pts : List At
  n : Nat
  cls : List Cl
  shs : List Sh
  ws : List Int
  lg : List Acc
namespace Pa
variable (P : Pa)
def spare (slot : Int) : Nat := P.m + slot.toNat
end Pa
end Go.Proofs.Ytkimmfdicohoiaa.Ar
