/-
  doc's look at the log, without the walk.
-/
import Derived.Test.YtilbkminekojcaaRefDocB
namespace Go.Proofs.Ytilbkminekojcaa.Me
open Go.RowKit Mr
set_option linter.unusedVariables false
structure Lp (W3 wy : World) (B : Nat) (o : O) (vn vl : Value) (lg : List Acc) (f jn jl : Nat) : Prop where
  b0 : wy.heap[B]? = some (.cells #[.int .i64 o.k, .int .i64 o.th, .int .i64 o.ad, .int .i64 o.n, .int .u64 o.old, .int .u64 o.w] 33 (0, 0))
  b1 : wy.heap[B + 1]? = some (.cells #[.int .i64 0, .slice none 0 0, .slice none 0 0, .slice none 0 0] 55 (0, 0))
  b2 : wy.heap[B + 1 + 1]? = some (.cells #[.int .i64 0, vn, .slice none 0 0, vl] 55 (0, 0))
  hn : Has wy (fun k => W3.heap.size ≤ k) 3 1 vn jn (nmc (ent lg f jn))
  hl : Has wy (fun k => W3.heap.size ≤ k) 41 7 vl jl (lgc ((ent lg f jl).map (·.2)))
  fr : Fr W3 wy (fun k => k = B + 1 + 1)
  lt : B + 1 + 1 < W3.heap.size
section
variable {W3 wy : World} {B : Nat} {o : O} {vn vl : Value} {lg : List Acc} {f jn jl : Nat}
theorem Lp.start (h : Bx3 W3 B o) : Lp W3 W3 B o (.slice none 0 0) (.slice none 0 0) lg f 0 0 :=
  ⟨h.b0, h.b1, h.b2, Has.nil _ _ _ _, Has.nil _ _ _ _, Fr.refl _ _, h.lt⟩
theorem Lp.sz (h : Lp W3 wy B o vn vl lg f jn jl) : W3.heap.size ≤ wy.heap.size := h.fr.size
theorem Lp.below {w' : World} (h : Lp W3 wy B o vn vl lg f jn jl) (hB : Below wy.heap.size wy w') : Lp W3 w' B o vn vl lg f jn jl := by
  have h1 := h.sz
  have h2 := h.lt
  exact ⟨(hB.block _ (by omega)).trans h.b0, (hB.block _ (by omega)).trans h.b1, (hB.block _ (by omega)).trans h.b2, h.hn.below hB, h.hl.below hB, h.fr.trans (Fr.of_below hB), h.lt⟩
theorem Lp.opc (h : Lp W3 wy B o vn vl lg f jn jl) : wy.cell? ⟨B, 0, none⟩ = some (.int .i64 o.k) ∧ wy.cell? ⟨B, 1, none⟩ = some (.int .i64 o.th) ∧ wy.cell? ⟨B, 2, none⟩ = some (.int .i64 o.ad) ∧ wy.cell? ⟨B, 3, none⟩ = some (.int .i64 o.n) ∧ wy.cell? ⟨B, 4, none⟩ = some (.int .u64 o.old) ∧ wy.cell? ⟨B, 5, none⟩ = some (.int .u64 o.w) := by
  refine ⟨?_, ?_, ?_, ?_, ?_, ?_⟩ <;> simp [World.cell?, h.b0]
theorem Lp.x (h : Lp W3 wy B o vn vl lg f jn jl) : wy.cell? ⟨B + 1 + 1, 0, none⟩ = some (.int .i64 0) ∧ wy.cell? ⟨B + 1 + 1, 1, none⟩ = some vn ∧ wy.cell? ⟨B + 1 + 1, 2, none⟩ = some (.slice none 0 0) ∧ wy.cell? ⟨B + 1 + 1, 3, none⟩ = some vl ∧ ∀ j, wy.frozen? ⟨B + 1 + 1, j, none⟩ = false := by
  refine ⟨?_, ?_, ?_, ?_, fun j => ?_⟩ <;> simp [World.cell?, World.frozen?, h.b2]
theorem Lp.r (h : Lp W3 wy B o vn vl lg f jn jl) : wy.cell? ⟨B + 1, 0, none⟩ = some (.int .i64 0) ∧ wy.cell? ⟨B + 1, 1, none⟩ = some (.slice none 0 0) ∧ wy.cell? ⟨B + 1, 2, none⟩ = some (.slice none 0 0) ∧ wy.cell? ⟨B + 1, 3, none⟩ = some (.slice none 0 0) ∧ ∀ j, wy.frozen? ⟨B + 1, j, none⟩ = false := by
  refine ⟨?_, ?_, ?_, ?_, fun j => ?_⟩ <;> simp [World.cell?, World.frozen?, h.b1]
theorem Lp.nums {w0 w1 : World} {v' : Value} (h : Lp W3 wy B o vn vl lg f jn jl) (hB : Below wy.heap.size wy w0) (hown : Has w1 (fun k => W3.heap.size ≤ k) 3 1 v' (jn + 1) (nmc (ent lg f jn) ++ [.int .i64 ((f + jn : Nat) : Int)])) (hg : w0.grownBy w1 vn.ownBlock) :
    w1.heap[B + 1 + 1]? = some (.cells #[.int .i64 0, vn, .slice none 0 0, vl] 55 (0, 0)) ∧ Lp W3 (w1.setCell ⟨B + 1 + 1, 1, none⟩ v') B o v' vl lg f (jn + 1) jl := by
  have h1 := h.sz
  have h2 := h.lt
  have h3 := hB.size
  have hb := h.below hB
  have far : ∀ k, k ≤ B + 1 + 1 → some k ≠ vn.ownBlock := fun k hk e => by have := (h.hn.lt k e.symm).1; omega
  have kb : ∀ k, k ≤ B + 1 + 1 → w1.heap[k]? = w0.heap[k]? := fun k hk => hg.block k (by omega) (far k hk)
  have b2' := (kb _ (Nat.le_refl _)).trans hb.b2
  refine ⟨b2', ⟨?_, ?_, ?_, ?_, ?_, ?_, h.lt⟩⟩
  · rw [Below.heap_setCell _ _ _ _ (by simp; omega)]; exact (kb B (by omega)).trans hb.b0
  · rw [Below.heap_setCell _ _ _ _ (by simp)]; exact (kb (B + 1) (by omega)).trans hb.b1
  · rw [setBlk b2']; rfl
  · have e : nmc (ent lg f (jn + 1)) = nmc (ent lg f jn) ++ [.int .i64 ((f + jn : Nat) : Int)] := by rw [ent_succ, nmc_snoc]
    rw [e]
    exact hown.setCell _ _ (fun e => by have := (hown.lt _ e).1; simp only at this; omega)
  · refine (hb.hl.grown hg (fun k hk e => has_ne h.hl h.hn (by decide) k hk e)).setCell _ _ (fun e => by have := (hb.hl.lt _ e).1; simp only at this; omega)
  · exact ((hb.fr.grown hg (fun k hk => .inr (h.hn.lt k hk).1)).setCell _ _ (.inl rfl))
theorem Lp.log {w0 w1 : World} {v' : Value} (h : Lp W3 wy B o vn vl lg f jn jl) (hB : Below wy.heap.size wy w0) (hown : Has w1 (fun k => W3.heap.size ≤ k) 41 7 v' (jl + 1) (lgc ((ent lg f jl).map (·.2)) ++ (lg[f + jl]?.getD noAcc).cells)) (hg : w0.grownBy w1 vl.ownBlock) :
    w1.heap[B + 1 + 1]? = some (.cells #[.int .i64 0, vn, .slice none 0 0, vl] 55 (0, 0)) ∧ Lp W3 (w1.setCell ⟨B + 1 + 1, 3, none⟩ v') B o vn v' lg f jn (jl + 1) := by
  have h1 := h.sz
  have h2 := h.lt
  have h3 := hB.size
  have hb := h.below hB
  have far : ∀ k, k ≤ B + 1 + 1 → some k ≠ vl.ownBlock := fun k hk e => by have := (h.hl.lt k e.symm).1; omega
  have kb : ∀ k, k ≤ B + 1 + 1 → w1.heap[k]? = w0.heap[k]? := fun k hk => hg.block k (by omega) (far k hk)
  have b2' := (kb _ (Nat.le_refl _)).trans hb.b2
  refine ⟨b2', ⟨?_, ?_, ?_, ?_, ?_, ?_, h.lt⟩⟩
  · rw [Below.heap_setCell _ _ _ _ (by simp; omega)]; exact (kb B (by omega)).trans hb.b0
  · rw [Below.heap_setCell _ _ _ _ (by simp)]; exact (kb (B + 1) (by omega)).trans hb.b1
  · rw [setBlk b2']; rfl
  · refine (hb.hn.grown hg (fun k hk e => has_ne h.hl h.hn (by decide) k e hk)).setCell _ _ (fun e => by have := (hb.hn.lt _ e).1; simp only at this; omega)
  · have e : lgc ((ent lg f (jl + 1)).map (·.2)) = lgc ((ent lg f jl).map (·.2)) ++ (lg[f + jl]?.getD noAcc).cells := by rw [ent_succ, List.map_append, List.map_singleton, lgc_snoc]
    rw [e]
    exact hown.setCell _ _ (fun e => by have := (hown.lt _ e).1; simp only at this; omega)
  · exact ((hb.fr.grown hg (fun k hk => .inr (h.hl.lt k hk).1)).setCell _ _ (.inl rfl))
theorem belowQ (W : World) (m : Nat) : Below W.heap.size W (W.drewN m) := ⟨rfl, rfl, rfl, Nat.le_refl _, fun _ _ => rfl⟩
/-- The document's trace as the loop reads it. -/
theorem Lp.trace {b : Nat} {S : Nat → Prop} {vf vm vt : Value} {fs ws : List Int} {mv : Int} (h : Lp W3 wy B o vn vl lg f jn jl) (hr : Rm W3 S b vf vm vt fs ws lg mv) (hS : ∀ k, S k → k < B) :
    wy.cell? ⟨b, 2, none⟩ = some vt ∧ ∀ i, i < lg.length → ∃ g c, vt = .slice (some ⟨g, 0, none⟩) lg.length c ∧ g < B ∧ ∀ t u, t < 7 → (lg[i]?.getD noAcc).cells[t]? = some u → wy.cell? ⟨g, i * 7 + t, none⟩ = some u := by
  have h2 := h.lt
  have r2 := hr.fr h.fr (fun k hk _ e => by have := hS k hk; omega)
  refine ⟨r2.c2, fun i hi => ?_⟩
  obtain ⟨g, c, hv, hg, _⟩ := r2.ht.there (by omega)
  exact ⟨g, c, hv, hS g hg, fun t u ht hu => r2.ht.cells (g := g) (by rw [hv]; rfl) _ _ ((lgc_get lg _ hi t ht).trans hu)⟩
end
end Go.Proofs.Ytilbkminekojcaa.Me
