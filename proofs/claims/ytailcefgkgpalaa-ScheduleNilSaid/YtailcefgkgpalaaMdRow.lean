import Derived.Test.YtailcefgkgpalaaMemRow
import Derived.Test.YtailcefgkgpalaaChecked
import Derived.WalkSpells
/-
  ROWS as they may be read, wherever they begin; contents.
-/
namespace Go.Proofs.Ytailcefgkgpalaa.Md
open Go.RowKit Mr
/-- v reads as xs, n elements of size cells each; its block is among T. -/
def Sl (W : World) (T : Nat → Prop) (size : Nat) (v : Value) (n : Nat) (xs : List Value) : Prop :=
  xs.length = n * size ∧ ∃ a cap, v = .slice a n cap ∧ n ≤ cap ∧ (n = 0 ∨ ∃ b o, a = some ⟨b, o, none⟩ ∧ T b ∧ b < W.heap.size ∧ ∀ j u, xs[j]? = some u → W.cell? ⟨b, o + j, none⟩ = some u)
section
variable {W W' : World} {T T' S : Nat → Prop} {size n : Nat} {v : Value} {xs : List Value} {e : TypeId}
theorem Sl.mono (h : Sl W T size v n xs) (hT : ∀ k, T k → T' k) : Sl W T' size v n xs := by
  obtain ⟨h1, a, cap, hv, hc, h2⟩ := h
  refine ⟨h1, a, cap, hv, hc, h2.imp id ?_⟩
  rintro ⟨b, o, ha, hb, hl, hr⟩
  exact ⟨b, o, ha, hT b hb, hl, hr⟩
theorem Sl.fr (h : Sl W T size v n xs) (hf : Fr W W' S) (hd : ∀ k, T k → k < W.heap.size → ¬ S k) : Sl W' T size v n xs := by
  obtain ⟨h1, a, cap, hv, hc, h2⟩ := h
  refine ⟨h1, a, cap, hv, hc, h2.imp id ?_⟩
  rintro ⟨b, o, ha, hb, hl, hr⟩
  refine ⟨b, o, ha, hb, Nat.lt_of_lt_of_le hl hf.size, fun j u hu => ?_⟩
  rw [← hr j u hu]
  have := hf.block b hl (hd b hb hl)
  simp [World.cell?, this]
theorem Sl.below (h : Sl W T size v n xs) (hB : Below W.heap.size W W') : Sl W' T size v n xs := h.fr (S := fun _ => False) (Fr.of_below hB) (fun _ _ _ e => e)
theorem Sl.form (h : Sl W T size v n xs) : ∃ a cap, v = .slice a n cap ∧ n ≤ cap := by obtain ⟨_, a, cap, hv, hc, _⟩ := h; exact ⟨a, cap, hv, hc⟩
theorem Sl.there (h : Sl W T size v n xs) (hn : 0 < n) : ∃ b o cap, v = .slice (some ⟨b, o, none⟩) n cap ∧ n ≤ cap ∧ T b ∧ b < W.heap.size ∧ ∀ j u, xs[j]? = some u → W.cell? ⟨b, o + j, none⟩ = some u := by
  obtain ⟨_, a, cap, hv, hc, h2 | ⟨b, o, rfl, hb, hl, hr⟩⟩ := h
  · omega
  · exact ⟨b, o, cap, hv, hc, hb, hl, hr⟩
theorem Sl.nil (W : World) (T : Nat → Prop) (size : Nat) : Sl W T size (.slice none 0 0) 0 [] := ⟨by simp, none, 0, rfl, Nat.le_refl _, .inl rfl⟩
theorem Sl.of_has (h : Has W S e size v n xs) : Sl W S size v n xs := by
  refine ⟨h.1, ?_⟩
  rcases h.2 with ⟨rfl, rfl⟩ | ⟨g, cap, cur, rfl, hS, hg, hc, _⟩
  · exact ⟨none, 0, rfl, Nat.le_refl _, .inl rfl⟩
  · refine ⟨_, cap, rfl, hc, .inr ⟨g, 0, rfl, hS, (Array.getElem?_eq_some_iff.1 hg).1, fun j u hu => ?_⟩⟩
    rw [Nat.zero_add]
    exact h.cells (g := g) rfl j u hu
end
def ints (l : List Int) : List Value := l.map (Value.int .i64)
def pr (x : Int × Int) : List Value := [.int .i64 x.1, .int .i64 x.2]
def prs (l : List (Int × Int)) : List Value := l.flatMap pr
theorem ints_get (l : List Int) (i : Nat) (h : i < l.length) : (ints l)[i]? = some (.int .i64 (l[i]?.getD 0)) := by simp [ints, h]
theorem prs_get (l : List (Int × Int)) (i : Nat) (h : i < l.length) : (prs l)[i * 2]? = some (.int .i64 (l[i]?.getD (0, 0)).1) ∧ (prs l)[i * 2 + 1]? = some (.int .i64 (l[i]?.getD (0, 0)).2) := by
  induction l generalizing i with
  | nil => simp at h
  | cons x l ih =>
    cases i with
    | zero => simp [prs, pr]
    | succ i =>
      have := ih i (by simpa using h)
      simp only [prs, List.flatMap_cons, pr] at this ⊢
      rw [show (i + 1) * 2 = i * 2 + 2 from by omega]
      simpa using this
theorem prs_length (l : List (Int × Int)) : (prs l).length = l.length * 2 := by
  induction l with
  | nil => rfl
  | cons x l ih => simp only [prs, List.flatMap_cons, List.length_append, pr] at ih ⊢; simp at ih ⊢; omega
/-- Contents. -/
structure Ct where
  cell : List Int
  stack : List Int
  queue : List Int
  set : List Int
  table : List (Int × Int)
/-- They may be read behind five slices. -/
structure CtAt (W : World) (T : Nat → Prop) (v0 v1 v2 v3 v4 : Value) (x : Ct) : Prop where
  cell : Sl W T 1 v0 x.cell.length (ints x.cell)
  stack : Sl W T 1 v1 x.stack.length (ints x.stack)
  queue : Sl W T 1 v2 x.queue.length (ints x.queue)
  set : Sl W T 1 v3 x.set.length (ints x.set)
  table : Sl W T 2 v4 x.table.length (prs x.table)
theorem CtAt.below {W W' : World} {T : Nat → Prop} {v0 v1 v2 v3 v4 : Value} {x : Ct} (h : CtAt W T v0 v1 v2 v3 v4 x) (hB : Below W.heap.size W W') : CtAt W' T v0 v1 v2 v3 v4 x :=
  ⟨h.cell.below hB, h.stack.below hB, h.queue.below hB, h.set.below hB, h.table.below hB⟩
theorem CtAt.fr {W W' : World} {T S : Nat → Prop} {v0 v1 v2 v3 v4 : Value} {x : Ct} (h : CtAt W T v0 v1 v2 v3 v4 x) (hf : Fr W W' S) (hd : ∀ k, T k → k < W.heap.size → ¬ S k) : CtAt W' T v0 v1 v2 v3 v4 x :=
  ⟨h.cell.fr hf hd, h.stack.fr hf hd, h.queue.fr hf hd, h.set.fr hf hd, h.table.fr hf hd⟩
theorem CtAt.mono {W : World} {T T' : Nat → Prop} {v0 v1 v2 v3 v4 : Value} {x : Ct} (h : CtAt W T v0 v1 v2 v3 v4 x) (hT : ∀ k, T k → T' k) : CtAt W T' v0 v1 v2 v3 v4 x :=
  ⟨h.cell.mono hT, h.stack.mono hT, h.queue.mono hT, h.set.mono hT, h.table.mono hT⟩
/-- Lists that a machine of the model holds. -/
structure CtSm (x : Ct) : Prop where
  cell : x.cell.length * 8 ≤ 281474976710656
  stack : x.stack.length * 8 ≤ 281474976710656
  queue : x.queue.length * 8 ≤ 281474976710656
  set : x.set.length * 8 ≤ 281474976710656
  table : x.table.length * 16 ≤ 281474976710656
/-- Lists of at most so many bytes each. -/
structure CtIn (B : Nat) (x : Ct) : Prop where
  cell : x.cell.length * 8 ≤ B
  stack : x.stack.length * 8 ≤ B
  queue : x.queue.length * 8 ≤ B
  set : x.set.length * 8 ≤ B
  table : x.table.length * 16 ≤ B
theorem CtIn.mono {B B' : Nat} {x : Ct} (h : CtIn B x) (hB : B ≤ B') : CtIn B' x := ⟨Nat.le_trans h.cell hB, Nat.le_trans h.stack hB, Nat.le_trans h.queue hB, Nat.le_trans h.set hB, Nat.le_trans h.table hB⟩
theorem CtIn.sm {B : Nat} {x : Ct} (h : CtIn B x) (hB : B ≤ 281474976710656) : CtSm x := ⟨Nat.le_trans h.cell hB, Nat.le_trans h.stack hB, Nat.le_trans h.queue hB, Nat.le_trans h.set hB, Nat.le_trans h.table hB⟩
theorem add1 (b o i : Nat) : (⟨b, o, none⟩ : Addr).add i = ⟨b, o + i, none⟩ := by unfold Addr.add; split <;> simp_all
theorem setBlk {W : World} {b : Nat} {cs : Array Value} {t : TypeId} {fr : Nat × Nat} (h : W.heap[b]? = some (.cells cs t fr)) (o : Nat) (v : Value) : (W.setCell ⟨b, o, none⟩ v).heap[b]? = some (.cells (cs.setIfInBounds o v) t fr) := by
  obtain ⟨hlt, hk⟩ := Array.getElem?_eq_some_iff.1 h
  show (W.heap.modify b _)[b]? = _
  rw [Array.getElem?_eq_getElem (by rw [Array.size_modify]; exact hlt), Array.getElem_modify_self, hk]
  rfl
theorem cell_blk {W : World} {b : Nat} {cs : Array Value} {t : TypeId} {fr : Nat × Nat} (h : W.heap[b]? = some (.cells cs t fr)) (k : Nat) : W.cell? ⟨b, k, none⟩ = cs[k]? := by
  unfold World.cell?
  simp only [h]
  rfl
def ctV (v0 v1 v2 v3 v4 : Value) : Value := .agg #[v0, v1, v2, v3, v4]


theorem new_at (W : World) (o : Obj) (k : Nat) (hk : k = W.heap.size) : (W.alloc o).heap[k]? = some o := by subst hk; exact heap_alloc_new W o
theorem old_at {W : World} {k : Nat} {o' : Obj} (h : W.heap[k]? = some o') (o : Obj) : (W.alloc o).heap[k]? = some o' := (Below.heap_alloc _ _ _ (Array.getElem?_eq_some_iff.1 h).1).trans h
end Go.Proofs.Ytailcefgkgpalaa.Md
