/-
  slices.Sort of numbers, onto a row of one's own.
-/
import Derived.Test.YtfgnaffomglmdaaMpRow
import Derived.Test.YtfgnaffomglmdaaShelf
namespace Go.Proofs.Ytfgnaffomglmdaa.Wt
open Go.RowKit Mr Md
set_option linter.unusedVariables false
def srt (zs : List Int) : List Int := zs.mergeSort fun x y => decide (x ≤ y)
theorem srt_perm (zs : List Int) : (srt zs).Perm zs := List.mergeSort_perm _ _
theorem srt_len (zs : List Int) : (srt zs).length = zs.length := (srt_perm zs).length_eq
theorem srt_up (zs : List Int) : (srt zs).Pairwise (· ≤ ·) := by
  have := List.pairwise_mergeSort (le := fun x y : Int => decide (x ≤ y)) (fun a b c h1 h2 => by simp at *; omega) (fun a b => by simp; omega) zs
  exact this.imp (fun h => of_decide_eq_true h)
theorem holds_at {W : World} {g o : Nat} {cur : Array Value} {e : TypeId} {zs : List Int} (hg : W.heap[g]? = some (.cells cur e (0, 0))) (hx : (cur.toList.drop o).take (zs.length * 1) = ints zs) : Sort.Holds (Value.int .i64) W g o zs.toArray := by
  intro j hj
  have hj' : j < zs.length := by simpa using hj
  refine ⟨?_, by simp [World.frozen?, hg]⟩
  have := own_cells hg hx j _ (ints_get zs j hj')
  rw [this]
  simp [hj']
theorem sort_any {W : World} {S : Nat → Prop} {u : Value} {zs : List Int} (hu : Own W S 3 1 u zs.length (ints zs)) (hsz : zs.length < 4611686018427387904) :
    Calls Try.prog 25 #[u] W fun e w' => e = .returned (.tuple #[]) ∧ Fr W w' S ∧ Sl w' S 1 u zs.length (ints (srt zs)) := by
  by_cases h0 : zs.length = 0
  · obtain ⟨a, cap, rfl, hc, _⟩ := hu.form
    have hz : zs = [] := List.eq_nil_of_length_eq_zero h0
    subst hz
    refine (Try.slices_Sort_int_none a cap W).mono ?_
    rintro e w' ⟨rfl, rfl⟩
    exact ⟨rfl, Fr.refl _ _, by simpa [srt] using hu.sl⟩
  · obtain ⟨g, o, cap, cur, rfl, hc, hm, hS, hg, hs, hx⟩ := hu.there (by omega)
    have hH := holds_at hg hx
    have hl := (Array.getElem?_eq_some_iff.1 hg).1
    refine (Try.slices_Sort_int g o cap zs W hH hl hsz).mono ?_
    rintro e w' ⟨rfl, n, os, rfl⟩
    refine ⟨rfl, ⟨rfl, rfl, rfl, by simp, fun k hk hne => ?_⟩, by simp [ints, srt_len], _, cap, rfl, hc, .inr ⟨g, o, rfl, hS, by simp; omega, fun j u hu => ?_⟩⟩
    · rw [Sort.heap_grow_old _ _ (by simpa using hk)]
      have : g ≠ k := fun e => hne (by rw [← e]; exact hS)
      simp [Sort.putRow, Sort.mapBlock, Sort.ahead, Array.getElem?_modify, this]
    · have hj : j < (srt zs).length := by simpa [ints] using (List.getElem?_eq_some_iff.1 hu).1
      rw [Sort.cell?_grow _ _ _ (by simpa using hl)]
      have hsz2 : (srt zs).toArray.size = zs.toArray.size := by simp [srt_len]
      have := Sort.cell?_putRow (Value.int .i64) (Sort.ahead W n) g o zs.toArray (srt zs).toArray hH hsz2 j (by simpa using hj)
      unfold srt at this
      rw [this]
      simp [ints, srt] at hu
      obtain ⟨a, h1, h2⟩ := hu
      rw [← h2]
      simp [srt] at hj
      simp [h1]
end Go.Proofs.Ytfgnaffomglmdaa.Wt
