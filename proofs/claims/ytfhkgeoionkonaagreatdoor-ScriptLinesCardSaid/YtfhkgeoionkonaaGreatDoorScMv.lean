/-
  SCRIPT: moves and numbers as they lie in the world.
-/
import Derived.Test.YtfhkgeoionkonaaGreatDoorScP
import Derived.Test.YtfhkgeoionkonaaGreatDoorMemRow
namespace Go.Proofs.YtfhkgeoionkonaaGreatDoor.Sc
open Go.RowKit Mr
set_option linter.unusedVariables false
set_option linter.unusedSimpArgs false
theorem add1 (b o j : Nat) : (⟨b, o, none⟩ : Addr).add j = ⟨b, o + j, none⟩ := by unfold Addr.add; split <;> simp_all
/-- The slice value .slice a n cap reads as the moves ms. -/
def MvAt (W : World) (a : Option Addr) (n : Nat) (ms : List Mv) : Prop :=
  n = ms.length ∧ (ms = [] ∨ ∃ b off, a = some ⟨b, off, none⟩ ∧ b < W.heap.size ∧ ∀ j, j < ms.length →
    W.cell? ⟨b, off + j * 4, none⟩ = some (.int .i64 (ms[j]?.getD noMv).th) ∧ W.cell? ⟨b, off + j * 4 + 1, none⟩ = some (.int .i64 (ms[j]?.getD noMv).op) ∧ W.cell? ⟨b, off + j * 4 + 2, none⟩ = some (.int .i64 (ms[j]?.getD noMv).arg) ∧ W.cell? ⟨b, off + j * 4 + 3, none⟩ = some (.int .i64 (ms[j]?.getD noMv).data))
theorem MvAt.below {W W' : World} {a : Option Addr} {n : Nat} {ms : List Mv} (h : MvAt W a n ms) (hB : Below W.heap.size W W') : MvAt W' a n ms := by
  refine ⟨h.1, ?_⟩
  rcases h.2 with h | ⟨b, off, rfl, hb, hc⟩
  · exact .inl h
  · refine .inr ⟨b, off, rfl, Nat.lt_of_lt_of_le hb hB.size, fun j hj => ?_⟩
    obtain ⟨c0, c1, c2, c3⟩ := hc j hj
    exact ⟨(hB.cell (p := ⟨b, _, none⟩) hb).trans c0, (hB.cell (p := ⟨b, _, none⟩) hb).trans c1, (hB.cell (p := ⟨b, _, none⟩) hb).trans c2, (hB.cell (p := ⟨b, _, none⟩) hb).trans c3⟩
theorem MvAt.lower {W W' : World} {a : Option Addr} {n : Nat} {ms : List Mv} (h : MvAt W a n ms) {B : Nat} (hB : Below B W W') (hb : ms ≠ [] → ∀ b off, a = some ⟨b, off, none⟩ → b < B) : MvAt W' a n ms := by
  refine ⟨h.1, ?_⟩
  by_cases h0 : ms = []
  · exact .inl h0
  rcases h.2 with h | ⟨b, off, rfl, hl, hc⟩
  · exact .inl h
  · have hb := hb h0 b off rfl
    refine .inr ⟨b, off, rfl, Nat.lt_of_lt_of_le hl hB.size, fun j hj => ?_⟩
    obtain ⟨c0, c1, c2, c3⟩ := hc j hj
    exact ⟨(hB.cell (p := ⟨b, _, none⟩) hb).trans c0, (hB.cell (p := ⟨b, _, none⟩) hb).trans c1, (hB.cell (p := ⟨b, _, none⟩) hb).trans c2, (hB.cell (p := ⟨b, _, none⟩) hb).trans c3⟩
/-- What is behind the first k moves, wherever the address is. -/
theorem MvAt.drop {W : World} {a : Option Addr} {n : Nat} {ms : List Mv} (h : MvAt W a n ms) (k : Nat) (hk : k ≤ n) (a' : Option Addr) (ha : k < n → a' = a.map (fun x => x.add (k * 4))) : MvAt W a' (n - k) (ms.drop k) := by
  have hn := h.1
  refine ⟨by simp; omega, ?_⟩
  rcases h.2 with e | ⟨b, off, rfl, hb, hc⟩
  · left; rw [e]; simp
  · by_cases hl : k < n
    · refine .inr ⟨b, off + k * 4, ?_, hb, fun j hj => ?_⟩
      · rw [ha hl]; simp only [Option.map_some, add1]
      · have hj' : k + j < ms.length := by simp at hj; omega
        obtain ⟨c0, c1, c2, c3⟩ := hc (k + j) hj'
        have e : (ms.drop k)[j]?.getD noMv = ms[k + j]?.getD noMv := by simp
        have e0 : off + k * 4 + j * 4 = off + (k + j) * 4 := by omega
        rw [e, e0]
        exact ⟨c0, c1, c2, c3⟩
    · left
      exact List.drop_eq_nil_of_le (by omega)
/-- A slice of numbers. -/
def NmAt (W : World) (a : Option Addr) (n : Nat) (ns : List Int) : Prop :=
  n = ns.length ∧ (ns = [] ∨ ∃ b off, a = some ⟨b, off, none⟩ ∧ b < W.heap.size ∧ ∀ j x, ns[j]? = some x → W.cell? ⟨b, off + j, none⟩ = some (.int .i64 x))
theorem NmAt.below {W W' : World} {a : Option Addr} {n : Nat} {ns : List Int} (h : NmAt W a n ns) {B : Nat} (hB : Below B W W') (hb : ∀ b off, a = some ⟨b, off, none⟩ → b < B) : NmAt W' a n ns := by
  refine ⟨h.1, ?_⟩
  rcases h.2 with h | ⟨b, off, rfl, hl, hc⟩
  · exact .inl h
  · exact .inr ⟨b, off, rfl, Nat.lt_of_lt_of_le hl hB.size, fun j x hx => (hB.cell (p := ⟨b, _, none⟩) (hb b off rfl)).trans (hc j x hx)⟩
/-- Int's numbers. -/
def Bd (x : Int) : Prop := -9223372036854775808 ≤ x ∧ x ≤ 9223372036854775807
end Go.Proofs.YtfhkgeoionkonaaGreatDoor.Sc
