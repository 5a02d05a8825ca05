/-
  A row in a box: behind an append and its store, behind turns of blocks that are no cells (MemLogged's, without what speaks of the law's functions).
-/
import Derived.Test.YtpckcfdjgpdooaaMemIter
namespace Go.Proofs.Ytpckcfdjgpdooaa.Me
open Go.RowKit Go.Shelf Mr
/-- The cells of a row in a box behind a turn of a block that is no cells. -/
theorem has_own {β : Type} (S : Nat → Prop) (B t e size : Nat) (k : β → Nat) (f : β → List Value) : Own (fun (s : β) W => ∃ v, Boxed W B t v ∧ Has W S e size v (k s) (f s)) := by
  rintro s X Y row ⟨v, hv, hr⟩ hg hrow
  refine ⟨v, hv.kept hg (fun e' => ?_), hr.grown hg (fun j hj e' => ?_)⟩
  · obtain ⟨o, ho, hc⟩ := hrow B e'.symm
    rw [show X.heap[B]? = _ from hv] at ho; cases ho; cases hc
  · rcases hr.2 with ⟨rfl, _⟩ | ⟨g, cap, cur, rfl, _, hgb, _⟩
    · simp [Value.ownBlock] at hj
    · obtain ⟨o, ho, hc⟩ := hrow j e'
      simp [Value.ownBlock] at hj
      subst hj
      rw [hgb] at ho; cases ho; cases hc

/-- 'x = append(x, ..)', x in a box: behind the append, and behind the store. -/
theorem boxHas {W w0 w1 : World} {S : Nat → Prop} {n₀ B t e size : Nat} {v v' : Value} {k m : Nat} {xs ys : List Value} (hv : Boxed W B t v) (hte : t ≠ e) (hrow : Has W S e size v k xs) (hS : ∀ k, S k → n₀ ≤ k) (hn₀ : n₀ ≤ W.heap.size) (hB : n₀ ≤ B)
    (hb0 : Below W.heap.size W w0) (hk0 : KeepsOthers W w0) (hown' : Has w1 S e size v' m ys) (hgrow : w0.grownBy w1 v.ownBlock) :
    Boxed w1 B t v ∧ Boxed (w1.setCell ⟨B, 0, none⟩ v') B t v' ∧ Has (w1.setCell ⟨B, 0, none⟩ v') S e size v' m ys ∧ KeepsOthers W (w1.setCell ⟨B, 0, none⟩ v') ∧ Below n₀ W (w1.setCell ⟨B, 0, none⟩ v') ∧
    (∀ j, j < W.heap.size → j ≠ B → v.ownBlock ≠ some j → (w1.setCell ⟨B, 0, none⟩ v').heap[j]? = W.heap[j]?) := by
  have nr : ∀ {X : World} {u : Value} {j : Nat} {zs : List Value} {a : Value}, Boxed X B t u → Has X S e size a j zs → a.ownBlock ≠ some B := fun {X u j zs a} hX hr e' => by
    rcases hr.2 with ⟨rfl, _⟩ | ⟨g, cap, cur, rfl, _, hgb, _⟩
    · simp [Value.ownBlock] at e'
    · simp [Value.ownBlock] at e'
      subst e'
      have := (show X.heap[_]? = _ from hX).symm.trans hgb
      simp at this
      exact hte this.2
  have hv0 : Boxed w0 B t v := (hb0.block B hv.lt).trans hv
  have hv1 : Boxed w1 B t v := hv0.kept hgrow (fun e => nr hv hrow e.symm)
  refine ⟨hv1, hv1.set v', hown'.setCell _ _ (nr hv1 hown'), (hk0.trans (KeepsOthers.of_grownBy hgrow fun j o ej hj => ?_)).trans (KeepsOthers.setCell _ _ _), ?_, fun j hj h1 h2 => ?_⟩
  · rcases (hrow.below hb0).2 with ⟨rfl, _⟩ | ⟨g, cap, cur, rfl, _, hgb, _⟩
    · simp [Value.ownBlock] at ej
    · obtain rfl : g = j := by simpa [Value.ownBlock] using ej
      rw [hgb] at hj; cases hj; rfl
  · refine ((hb0.mono hn₀).grown hgrow (Nat.le_trans hn₀ hb0.size) fun j ej => ?_).setCell (p := ⟨B, 0, none⟩) hB v'
    exact hS j (hrow.lt j ej).1
  · rw [Below.heap_setCell _ _ _ j h1, hgrow.block j (Nat.lt_of_lt_of_le hj hb0.size) (fun e => h2 e.symm)]
    exact hb0.block j hj

theorem room_mono {a b c : Nat} (hab : a ≤ b) (h : (b + b / 4 + 192) * 56 ≤ 281474976710656) (hc : c ≤ 56) : (a + a / 4 + 192) * c ≤ 281474976710656 :=
  Nat.le_trans (Nat.mul_le_mul (Nat.add_le_add_right (Nat.add_le_add hab (Nat.div_le_div_right hab)) _) hc) h
theorem room_max {a : Nat} (h : (a + a / 4 + 192) * 56 ≤ 281474976710656) : a ≤ maxLen := by unfold maxLen; omega
theorem has_putD {W : World} {S T : Nat → Prop} {e size n : Nat} {v : Value} {xs : List Value} (h : Has W S e size v n xs) {D : Nat} {o o' : Obj} (hD : W.heap[D]? = some o) (ho : o.isCells = false) (hT : ∀ k, S k → T k) : Has (W.drew.putObj D o') T e size v n xs := by
  refine (Has.grown (w := W.drew) (Has.kept h (fun _ _ => rfl) (fun k hk => (h.lt k hk).1)) (grownBy_putObj' W.drew D o') (fun k hk e' => ?_)).mono hT
  rcases h.2 with ⟨rfl, _⟩ | ⟨g', _, cur', rfl, _, hg', _⟩
  · simp [Value.ownBlock] at hk
  · simp [Value.ownBlock] at hk e'
    subst hk; subst e'
    rw [hg'] at hD; cases hD; cases ho
/-- A block of another type than the row's is not the row's. -/
theorem has_far {W : World} {S : Nat → Prop} {e size n : Nat} {v : Value} {xs : List Value} (h : Has W S e size v n xs) {j t : Nat} {cur : Array Value} {f : Nat × Nat} (hj : W.heap[j]? = some (.cells cur t f)) (ht : t ≠ e) : v.ownBlock ≠ some j := fun e' => by
  rcases h.2 with ⟨hv, _⟩ | ⟨g', _, cur', hv, _, hg', _⟩
  · subst hv; simp [Value.ownBlock] at e'
  · subst hv
    simp [Value.ownBlock] at e'
    subst e'
    rw [hg'] at hj; cases hj; exact ht rfl
end Go.Proofs.Ytpckcfdjgpdooaa.Me
