import Derived.Test.YtkimmfdicohoiaaMacRep
import Derived.Deep.RegionHeld3
import Derived.Defers
import Derived.Recover
import Derived.Test.YtkimmfdicohoiaaMulOne
import Derived.Shelf.Abstract
import Derived.Laws.CopyRow
import Derived.Laws.MakeOwn
import Derived.Deep.LoopGhost
/-
  slices.Repeat of one thread: n of them.
-/
namespace Go.Proofs.Ytkimmfdicohoiaa.Ma
open Go.RowKit Go.Shelf Mr Me
section
variable {P : Program}
theorem run_copy_rowN (w : World) (dT sT ty elem : TypeId) (g o dLen dCap : Nat) (a : Addr) (sLen sCap m : Nat) (cur : Array Value) (t : TypeId) (cs : List Value)
    (hu : P.underlying dT = some (.slice elem)) (hs : (P.info? elem).map (·.size) = some m)
    (hg : w.heap[g]? = some (.cells cur t (0, 0))) (hn : cs.length = Nat.min sLen dLen * m)
    (hsrc : ∀ j v, cs[j]? = some v → w.cell? (a.add j) = some v) (hfit : o + cs.length ≤ cur.size) (h1 : ∀ v ∈ cs, v.oneCell' = true) :
    (Builtin.copy_ #[dT, sT] ty #[.slice (some ⟨g, o, none⟩) dLen dCap, .slice (some a) sLen sCap]).run P w =
      .ok (goInt (Nat.min sLen dLen)) (w.setRow g (cur.toList.take o ++ cs ++ cur.toList.drop (o + cs.length)).toArray) := by
  have hl := run_loadCells_list (P := P) w a cs hsrc
  have hst := run_storeCells_at P g o t cs 0 cur w hg (by simpa using hfit) h1
  cases hq : P.info? elem with
  | none => simp [hq] at hs
  | some i =>
    have hi : i.size = m := by simpa [hq] using hs
    simp [Builtin.copy_, run_underlying hu, Builtin.lenOf, Builtin.firstCells, sizeOf, typeInfo, hq, hi, ← hn, hl, hst]
end
def idleT : Th := ⟨.nilIface, false, -1, 0, 0⟩
theorem idle_one : ∀ v ∈ idleT.cells, v.oneCell' = true := by
  intro v hv
  simp [Th.cells, idleT] at hv
  rcases hv with rfl | rfl | rfl | rfl <;> rfl
theorem rep_one (m : Nat) : ∀ v ∈ thc (List.replicate m idleT), v.oneCell' = true := by
  intro v hv
  simp only [thc, List.mem_flatMap] at hv
  obtain ⟨t, ht, hv⟩ := hv
  rw [(List.mem_replicate.1 ht).2] at hv
  exact idle_one v hv
theorem rep_length (m : Nat) : (thc (List.replicate m idleT)).length = m * 5 := by unfold thc; rw [flat_length th_len]; simp
theorem rep_take (m k : Nat) (h : k ≤ m) : (thc (List.replicate m idleT)).take (k * 5) = thc (List.replicate k idleT) := by
  have e : List.replicate m idleT = List.replicate k idleT ++ List.replicate (m - k) idleT := by rw [List.replicate_append_replicate]; congr 1; omega
  rw [e]
  unfold thc
  rw [List.flatMap_append, List.take_append_of_le_length (by rw [flat_length th_len]; simp), List.take_of_length_le (by rw [flat_length th_len]; simp)]
theorem rep_add (m k : Nat) : thc (List.replicate m idleT) ++ thc (List.replicate k idleT) = thc (List.replicate (m + k) idleT) := by
  unfold thc
  rw [← List.flatMap_append, List.replicate_append_replicate]
end Go.Proofs.Ytkimmfdicohoiaa.Ma
