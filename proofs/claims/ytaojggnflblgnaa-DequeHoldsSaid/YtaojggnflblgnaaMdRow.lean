/-
  ROWS as they may be read, wherever they begin; contents.
-/
import Derived.Test.YtaojggnflblgnaaMemRow
import Derived.Test.YtaojggnflblgnaaChecked
import Derived.WalkSpells
namespace Go.Proofs.Ytaojggnflblgnaa.Md
open Go.RowKit Mr
/-- v reads as xs, n elements of size cells each; its block is among T. -/
def Sl (W : World) (T : Nat → Prop) (size : Nat) (v : Value) (n : Nat) (xs : List Value) : Prop :=
  xs.length = n * size ∧ ∃ a cap, v = .slice a n cap ∧ n ≤ cap ∧ (n = 0 ∨ ∃ b o, a = some ⟨b, o, none⟩ ∧ T b ∧ b < W.heap.size ∧ ∀ j u, xs[j]? = some u → W.cell? ⟨b, o + j, none⟩ = some u)
section
variable {W W' : World} {T T' S : Nat → Prop} {size n : Nat} {v : Value} {xs : List Value} {e : TypeId}
theorem Sl.mono (h : Sl W T size v n xs) (hT : ∀ k, T k → T' k) : Sl W T' size v n xs := by
  obtain ⟨h1, a, cap, hv, hc, h2⟩ := h
  refine ⟨h1, a, cap, hv, hc, h2.imp id ?_⟩
  rintro ⟨b, o, ha, hb, hl, hr⟩
  exact ⟨b, o, ha, hT b hb, hl, hr⟩
theorem Sl.fr (h : Sl W T size v n xs) (hf : Fr W W' S) (hd : ∀ k, T k → k < W.heap.size → ¬ S k) : Sl W' T size v n xs := by
  obtain ⟨h1, a, cap, hv, hc, h2⟩ := h
  refine ⟨h1, a, cap, hv, hc, h2.imp id ?_⟩
  rintro ⟨b, o, ha, hb, hl, hr⟩
  refine ⟨b, o, ha, hb, Nat.lt_of_lt_of_le hl hf.size, fun j u hu => ?_⟩
  rw [← hr j u hu]
  have := hf.block b hl (hd b hb hl)
  simp [World.cell?, this]
theorem Sl.below (h : Sl W T size v n xs) (hB : Below W.heap.size W W') : Sl W' T size v n xs := h.fr (S := fun _ => False) (Fr.of_below hB) (fun _ _ _ e => e)
theorem Sl.form (h : Sl W T size v n xs) : ∃ a cap, v = .slice a n cap ∧ n ≤ cap := by obtain ⟨_, a, cap, hv, hc, _⟩ := h; exact ⟨a, cap, hv, hc⟩
theorem Sl.there (h : Sl W T size v n xs) (hn : 0 < n) : ∃ b o cap, v = .slice (some ⟨b, o, none⟩) n cap ∧ n ≤ cap ∧ T b ∧ b < W.heap.size ∧ ∀ j u, xs[j]? = some u → W.cell? ⟨b, o + j, none⟩ = some u := by
  obtain ⟨_, a, cap, hv, hc, h2 | ⟨b, o, rfl, hb, hl, hr⟩⟩ := h
  · omega
  · exact ⟨b, o, cap, hv, hc, hb, hl, hr⟩
theorem Sl.nil (W : World) (T : Nat → Prop) (size : Nat) : Sl W T size (.slice none 0 0) 0 [] := ⟨by simp, none, 0, rfl, Nat.le_refl _, .inl rfl⟩
theorem Sl.of_has (h : Has W S e size v n xs) : Sl W S size v n xs := by
  refine ⟨h.1, ?_⟩
  rcases h.2 with ⟨rfl, rfl⟩ | ⟨g, cap, cur, rfl, hS, hg, hc, _⟩
  · exact ⟨none, 0, rfl, Nat.le_refl _, .inl rfl⟩
  · refine ⟨_, cap, rfl, hc, .inr ⟨g, 0, rfl, hS, (Array.getElem?_eq_some_iff.1 hg).1, fun j u hu => ?_⟩⟩
    rw [Nat.zero_add]
    exact h.cells (g := g) rfl j u hu
end
theorem add1 (b o j : Nat) : (⟨b, o, none⟩ : Addr).add j = ⟨b, o + j, none⟩ := by unfold Addr.add; split <;> simp_all
def ints (l : List Int) : List Value := l.map (Value.int .i64)
def pr (x : Int × Int) : List Value := [.int .i64 x.1, .int .i64 x.2]
def prs (l : List (Int × Int)) : List Value := l.flatMap pr
theorem ints_get (l : List Int) (i : Nat) (h : i < l.length) : (ints l)[i]? = some (.int .i64 (l[i]?.getD 0)) := by simp [ints, h]
theorem prs_get (l : List (Int × Int)) (i : Nat) (h : i < l.length) : (prs l)[i * 2]? = some (.int .i64 (l[i]?.getD (0, 0)).1) ∧ (prs l)[i * 2 + 1]? = some (.int .i64 (l[i]?.getD (0, 0)).2) := by
  induction l generalizing i with
  | nil => simp at h
  | cons x l ih =>
    cases i with
    | zero => simp [prs, pr]
    | succ i =>
      have := ih i (by simpa using h)
      simp only [prs, List.flatMap_cons, pr] at this ⊢
      rw [show (i + 1) * 2 = i * 2 + 2 from by omega]
      simpa using this
theorem prs_length (l : List (Int × Int)) : (prs l).length = l.length * 2 := by
  induction l with
  | nil => rfl
  | cons x l ih => simp only [prs, List.flatMap_cons, List.length_append, pr] at ih ⊢; simp at ih ⊢; omega
end Go.Proofs.Ytaojggnflblgnaa.Md
