import Derived.Test.YtailcefgkgpalaaMdOpen
import Derived.Test.YtailcefgkgpalaaMdAllows
/-
  OPENING calls (api.Call) and lists of them that came in, with their reach.
-/
namespace Go.Proofs.Ytailcefgkgpalaa.Md
open Go.ChangeShapes Go.WideShapes Go.ChangeAt Go.RowKit Go.Deep
open Mr
set_option linter.unusedVariables false
set_option maxRecDepth 100000
theorem flat_get {α : Type} (row : α → List Value) (size : Nat) (hrow : ∀ a, (row a).length = size) (l : List α) (i : Nat) (a : α) (h : l[i]? = some a) (t : Nat) (ht : t < size) : (l.flatMap row)[i * size + t]? = (row a)[t]? := by
  induction l generalizing i with
  | nil => simp at h
  | cons x l ih =>
    cases i with
    | zero =>
      simp at h; subst h
      rw [List.flatMap_cons, List.getElem?_append_left (by rw [hrow]; omega)]
      simp
    | succ i =>
      have := ih i (by simpa using h)
      rw [List.flatMap_cons, List.getElem?_append_right (by rw [hrow, Nat.add_mul]; omega), ← this]
      congr 1
      rw [hrow, Nat.add_mul]; omega
theorem flat_len {α : Type} (row : α → List Value) (size : Nat) (hrow : ∀ a, (row a).length = size) (l : List α) : (l.flatMap row).length = l.length * size := by
  induction l with
  | nil => simp
  | cons x l ih => rw [List.flatMap_cons, List.length_append, ih, hrow, List.length_cons, Nat.add_mul]; omega
theorem sl_rows {α : Type} (d : α) (row : α → List Value) (size : Nat) (hsz : 0 < size) (hrow : ∀ a, (row a).length = size) {w : World} {ad : Addr} {n cap : Nat} (hcap : n ≤ cap) (each : ∀ i, i < n → ∃ a : α, ∀ t, t < size → w.cell? ((ad.add (i * size)).add t) = (row a)[t]?) :
    ∃ l : List α, Sl w (fun _ => True) size (.slice (some ad) l.length cap) l.length (l.flatMap row) ∧ l.length = n := by
  obtain ⟨f, hf⟩ := Classical.axiomOfChoice (fun i => (if h : i < n then (by obtain ⟨o, ho⟩ := each i h; exact ⟨o, fun _ => ho⟩) else ⟨d, fun h' => absurd h' h⟩ : ∃ o : α, i < n → ∀ t, t < size → w.cell? ((ad.add (i * size)).add t) = (row o)[t]?))
  have hlen : ((List.range n).map f).length = n := by simp
  refine ⟨(List.range n).map f, ⟨flat_len row size hrow _, some ad, cap, rfl, by omega, ?_⟩, hlen⟩
  by_cases hn : n = 0
  · exact .inl (by omega)
  · have c0 := hf 0 (by omega) 0 hsz
    have hr0 : (row (f 0))[0]? = some ((row (f 0))[0]'(by rw [hrow]; exact hsz)) := List.getElem?_eq_getElem _
    rw [hr0] at c0
    have hs : (ad.add (0 * size)).spot = none := spot0 c0
    obtain ⟨b, o, s⟩ := ad
    have hs' : s = none := by simpa [Addr.add] using hs
    subst hs'
    refine .inr ⟨b, o, rfl, trivial, ?_, fun j u hu => ?_⟩
    · have := World.block_lt_of_cell? w _ c0
      rwa [blk_add, blk_add] at this
    · have hj : j < n * size := by
        have := (List.getElem?_eq_some_iff.1 hu).1
        rw [flat_len row size hrow, hlen] at this; exact this
      have hi : j / size < n := by rw [Nat.div_lt_iff_lt_mul hsz]; exact hj
      have ht : j % size < size := Nat.mod_lt _ hsz
      have c := hf (j / size) hi (j % size) ht
      have g := flat_get row size hrow ((List.range n).map f) (j / size) (f (j / size)) (by simp [hi]) (j % size) ht
      have ej : j / size * size + j % size = j := by rw [Nat.mul_comm]; exact Nat.div_add_mod j size
      rw [ej, hu] at g
      rw [add1, add1, Nat.add_assoc, ej] at c
      rw [c, ← g]
section
variable {H : Type} {enc : TypeId × Value → H} {w : World} {base : Nat} {spare : Nat → Bool} {held : Bool}
end
end Go.Proofs.Ytailcefgkgpalaa.Md
