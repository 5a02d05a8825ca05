import Derived.Test.YtpknggcgojkjgaaGreatJ01
import Derived.Test.YtpknggcgojkjgaaGreatChecked
import Derived.WalkSpells
import Derived.WalkKit
import Derived.Below
import Derived.Deep.Draws
/-
  ROWS as they may be read, wherever they begin; contents.
-/
namespace Go.Proofs.YtpknggcgojkjgaaGreat.Md
open Go.RowKit Mr
/-- v reads as xs, n elements of size cells each; its block is among T. -/
def Sl (W : World) (T : Nat → Prop) (size : Nat) (v : Value) (n : Nat) (xs : List Value) : Prop :=
  xs.length = n * size ∧ ∃ a cap, v = .slice a n cap ∧ n ≤ cap ∧ (n = 0 ∨ ∃ b o, a = some ⟨b, o, none⟩ ∧ T b ∧ b < W.heap.size ∧ ∀ j u, xs[j]? = some u → W.cell? ⟨b, o + j, none⟩ = some u)
section
variable {W W' : World} {T T' S : Nat → Prop} {size n : Nat} {v : Value} {xs : List Value} {e : TypeId}
theorem Sl.mono (h : Sl W T size v n xs) (hT : ∀ k, T k → T' k) : Sl W T' size v n xs := by
  obtain ⟨h1, a, cap, hv, hc, h2⟩ := h
  refine ⟨h1, a, cap, hv, hc, h2.imp id ?_⟩
  rintro ⟨b, o, ha, hb, hl, hr⟩
  exact ⟨b, o, ha, hT b hb, hl, hr⟩
theorem Sl.fr (h : Sl W T size v n xs) (hf : Fr W W' S) (hd : ∀ k, T k → k < W.heap.size → ¬ S k) : Sl W' T size v n xs := by
  obtain ⟨h1, a, cap, hv, hc, h2⟩ := h
  refine ⟨h1, a, cap, hv, hc, h2.imp id ?_⟩
  rintro ⟨b, o, ha, hb, hl, hr⟩
  refine ⟨b, o, ha, hb, Nat.lt_of_lt_of_le hl hf.size, fun j u hu => ?_⟩
  rw [← hr j u hu]
  have := hf.block b hl (hd b hb hl)
  simp [World.cell?, this]
theorem Sl.below (h : Sl W T size v n xs) (hB : Below W.heap.size W W') : Sl W' T size v n xs := h.fr (S := fun _ => False) (Fr.of_below hB) (fun _ _ _ e => e)
theorem Sl.form (h : Sl W T size v n xs) : ∃ a cap, v = .slice a n cap ∧ n ≤ cap := by obtain ⟨_, a, cap, hv, hc, _⟩ := h; exact ⟨a, cap, hv, hc⟩
theorem Sl.there (h : Sl W T size v n xs) (hn : 0 < n) : ∃ b o cap, v = .slice (some ⟨b, o, none⟩) n cap ∧ n ≤ cap ∧ T b ∧ b < W.heap.size ∧ ∀ j u, xs[j]? = some u → W.cell? ⟨b, o + j, none⟩ = some u := by
  obtain ⟨_, a, cap, hv, hc, h2 | ⟨b, o, rfl, hb, hl, hr⟩⟩ := h
  · omega
  · exact ⟨b, o, cap, hv, hc, hb, hl, hr⟩
theorem Sl.nil (W : World) (T : Nat → Prop) (size : Nat) : Sl W T size (.slice none 0 0) 0 [] := ⟨by simp, none, 0, rfl, Nat.le_refl _, .inl rfl⟩
theorem Sl.of_has (h : Has W S e size v n xs) : Sl W S size v n xs := by
  refine ⟨h.1, ?_⟩
  rcases h.2 with ⟨rfl, rfl⟩ | ⟨g, cap, cur, rfl, hS, hg, hc, _⟩
  · exact ⟨none, 0, rfl, Nat.le_refl _, .inl rfl⟩
  · refine ⟨_, cap, rfl, hc, .inr ⟨g, 0, rfl, hS, (Array.getElem?_eq_some_iff.1 hg).1, fun j u hu => ?_⟩⟩
    rw [Nat.zero_add]
    exact h.cells (g := g) rfl j u hu
end
def ints (l : List Int) : List Value := l.map (Value.int .i64)
theorem ints_get (l : List Int) (i : Nat) (h : i < l.length) : (ints l)[i]? = some (.int .i64 (l[i]?.getD 0)) := by simp [ints, h]
theorem add1 (b o i : Nat) : (⟨b, o, none⟩ : Addr).add i = ⟨b, o + i, none⟩ := by unfold Addr.add; split <;> simp_all
theorem setBlk {W : World} {b : Nat} {cs : Array Value} {t : TypeId} {fr : Nat × Nat} (h : W.heap[b]? = some (.cells cs t fr)) (o : Nat) (v : Value) : (W.setCell ⟨b, o, none⟩ v).heap[b]? = some (.cells (cs.setIfInBounds o v) t fr) := by
  obtain ⟨hlt, hk⟩ := Array.getElem?_eq_some_iff.1 h
  show (W.heap.modify b _)[b]? = _
  rw [Array.getElem?_eq_getElem (by rw [Array.size_modify]; exact hlt), Array.getElem_modify_self, hk]
  rfl
theorem cell_blk {W : World} {b : Nat} {cs : Array Value} {t : TypeId} {fr : Nat × Nat} (h : W.heap[b]? = some (.cells cs t fr)) (k : Nat) : W.cell? ⟨b, k, none⟩ = cs[k]? := by
  unfold World.cell?
  simp only [h]
  rfl
theorem new_at (W : World) (o : Obj) (k : Nat) (hk : k = W.heap.size) : (W.alloc o).heap[k]? = some o := by subst hk; exact heap_alloc_new W o
theorem old_at {W : World} {k : Nat} {o' : Obj} (h : W.heap[k]? = some o') (o : Obj) : (W.alloc o).heap[k]? = some o' := (Below.heap_alloc _ _ _ (Array.getElem?_eq_some_iff.1 h).1).trans h
end Go.Proofs.YtpknggcgojkjgaaGreat.Md
/-
  SMALL LAWS on worlds behind calls that only make memory.
-/
namespace Go.Proofs.YtpknggcgojkjgaaGreat.Bx
open Go.RowKit
theorem seqB {n : Nat} {w w1 w2 : World} (h1 : Below n w w1) (h2 : Below w1.heap.size w1 w2) (hn : n ≤ w.heap.size) : Below n w w2 :=
  h1.trans (h2.mono (by have := h1.size; omega))
theorem box0 (w : World) (o : Obj) : Below (w.heap.size + 1) (w.alloc o) (w.alloc o) := Below.refl _ _
theorem boxSeq {w w1 w2 : World} {o : Obj} (h1 : Below (w.heap.size + 1) (w.alloc o) w1) (h2 : Below w1.heap.size w1 w2) : Below (w.heap.size + 1) (w.alloc o) w2 :=
  seqB h1 h2 (by simp)
theorem boxCell {w w1 : World} {o : Obj} (B : Below (w.heap.size + 1) (w.alloc o) w1) : ∀ k, w1.cell? ⟨w.heap.size, k, none⟩ = (w.alloc o).cell? ⟨w.heap.size, k, none⟩ :=
  fun _ => B.cell (by simp)
theorem boxEnd {w w1 : World} {o : Obj} (B : Below (w.heap.size + 1) (w.alloc o) w1) : Below w.heap.size w w1 :=
  ((Below.refl _ _).alloc (Nat.le_refl _) o).trans (B.mono (by omega))
theorem two0 (w : World) (o p : Obj) : Below (w.heap.size + 2) ((w.alloc o).alloc p) ((w.alloc o).alloc p) := Below.refl _ _
theorem twoSeq {w w1 w2 : World} {o p : Obj} (h1 : Below (w.heap.size + 2) ((w.alloc o).alloc p) w1) (h2 : Below w1.heap.size w1 w2) : Below (w.heap.size + 2) ((w.alloc o).alloc p) w2 :=
  seqB h1 h2 (by simp)
theorem twoCellA {w w1 : World} {o p : Obj} (B : Below (w.heap.size + 2) ((w.alloc o).alloc p) w1) : ∀ k, w1.cell? ⟨w.heap.size, k, none⟩ = ((w.alloc o).alloc p).cell? ⟨w.heap.size, k, none⟩ :=
  fun _ => B.cell (by simp)
theorem twoCellB {w w1 : World} {o p : Obj} (B : Below (w.heap.size + 2) ((w.alloc o).alloc p) w1) : ∀ k, w1.cell? ⟨w.heap.size + 1, k, none⟩ = ((w.alloc o).alloc p).cell? ⟨w.heap.size + 1, k, none⟩ :=
  fun _ => B.cell (by simp)
theorem twoFrozenB {w w1 : World} {o p : Obj} (B : Below (w.heap.size + 2) ((w.alloc o).alloc p) w1) : ∀ k, w1.frozen? ⟨w.heap.size + 1, k, none⟩ = ((w.alloc o).alloc p).frozen? ⟨w.heap.size + 1, k, none⟩ :=
  fun _ => B.frozen (by simp)
theorem twoEnd {w w1 : World} {o p : Obj} (B : Below (w.heap.size + 2) ((w.alloc o).alloc p) w1) : Below w.heap.size w w1 :=
  (((Below.refl _ _).alloc (Nat.le_refl _) o).alloc (by simp) p).trans (B.mono (by omega))
theorem twoSize {w w1 : World} {o p : Obj} (B : Below (w.heap.size + 2) ((w.alloc o).alloc p) w1) : w.heap.size + 1 < w1.heap.size := by
  have := B.size; simp at this; omega
theorem twoThru {w w3 w4 : World} {o p q : Obj} (h1 : Below (w.heap.size + 2) ((w.alloc o).alloc p) w3) (h2 : Below (w3.heap.size + 1) (w3.alloc q) w4) : Below (w.heap.size + 2) ((w.alloc o).alloc p) w4 := by
  have hs := h1.size
  simp at hs
  exact (h1.alloc (by omega) q).trans (h2.mono (by omega))
theorem oneThru {w w3 w4 : World} {o q : Obj} (h1 : Below (w.heap.size + 1) (w.alloc o) w3) (h2 : Below (w3.heap.size + 1) (w3.alloc q) w4) : Below (w.heap.size + 1) (w.alloc o) w4 := by
  have hs := h1.size
  simp at hs
  exact (h1.alloc (by omega) q).trans (h2.mono (by omega))
theorem draws (B : Nat) (w : World) (n : Nat) : Below B w (w.drewN n) := ⟨rfl, rfl, rfl, Nat.le_refl _, fun _ _ => rfl⟩
theorem boxSize {w w1 : World} {o : Obj} (B : Below (w.heap.size + 1) (w.alloc o) w1) : w.heap.size < w1.heap.size := by
  have := B.size; simp at this; omega
end Go.Proofs.YtpknggcgojkjgaaGreat.Bx
