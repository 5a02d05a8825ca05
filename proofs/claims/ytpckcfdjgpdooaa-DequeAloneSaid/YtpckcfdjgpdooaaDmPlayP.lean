/-
  deque.Play, pure: a script's moves one after another.
-/
import Derived.Test.YtpckcfdjgpdooaaDmNewM
import Derived.Test.YtpckcfdjgpdooaaMacMv
namespace Go.Proofs.Ytpckcfdjgpdooaa.Dm
open Go.RowKit Go.Shelf Mr Me Ma Gm Dq
set_option linter.unusedVariables false
/-- A script. -/
def Pl (r : Nat) (P : Pg Dt Lw) (ms : List Mv) : Pg Dt Lw := ms.foldl (fun P m => (P.move (dqY r) m.th m.op m.arg m.data).1) P
def P0 (nt r : Nat) : Pg Dt Lw := Pg.new nt (List.replicate (2 + r) 0) none
theorem pl_snoc (r : Nat) (P : Pg Dt Lw) (ms : List Mv) (i : Nat) (hi : i < ms.length) : Pl r P (ms.take (i + 1)) = ((Pl r P (ms.take i)).move (dqY r) (ms[i]?.getD noMv).th (ms[i]?.getD noMv).op (ms[i]?.getD noMv).arg (ms[i]?.getD noMv).data).1 := by
  unfold Pl
  rw [List.take_add_one, List.foldl_append]
  simp [hi]
theorem mv_bd {r : Nat} {P : Pg Dt Lw} (h : Bd P) (th op arg data : Int) : Bd (P.move (dqY r) th op arg data).1 := h.move (fun fr i now ws g k => stp_la r fr i now ws g k) th op arg data
theorem pl_inv {r : Nat} (ms : List Mv) : ∀ {P : Pg Dt Lw}, Iv r P → Bd P → Iv r (Pl r P ms) ∧ Bd (Pl r P ms) := by
  induction ms with
  | nil => exact fun h1 h2 => ⟨h1, h2⟩
  | cons x ms ih => exact fun h1 h2 => ih (h1.move x.th x.op x.arg x.data) (mv_bd h2 _ _ _ _)
theorem mv_n {r : Nat} (P : Pg Dt Lw) (th op arg data : Int) : (P.move (dqY r) th op arg data).1.n ≤ P.n + 1 := by
  by_cases h : 65536 ≤ P.n
  · unfold Pg.move; rw [if_pos h]; exact Nat.le_succ _
  · rw [move_n P (by omega)]; exact Nat.le_refl _
theorem pl_n {r : Nat} (ms : List Mv) : ∀ (P : Pg Dt Lw), (Pl r P ms).n ≤ P.n + ms.length := by
  induction ms with
  | nil => exact fun P => Nat.le_refl _
  | cons x ms ih =>
      intro P
      have h1 := ih (P.move (dqY r) x.th x.op x.arg x.data).1
      have h2 := mv_n (r := r) P x.th x.op x.arg x.data
      show (Pl r (P.move (dqY r) x.th x.op x.arg x.data).1 ms).n ≤ P.n + (ms.length + 1)
      omega
theorem pl_pts {r : Nat} (ms : List Mv) : ∀ (P : Pg Dt Lw), (Pl r P ms).pts.length = P.pts.length := by
  induction ms with
  | nil => exact fun P => rfl
  | cons x ms ih => exact fun P => (ih _).trans (move_pts P x.th x.op x.arg x.data)
theorem p0_inv {nt r : Nat} (h1 : 1 ≤ r) (h2 : r ≤ 256) : Iv r (P0 nt r) ∧ Bd (P0 nt r) := ⟨iv_new nt h1 h2, bd_new _ _ _⟩
def rnO : Obj := .cells #[.slice none 0 0, .slice none 0 0, .slice none 0 0, .slice none 0 0] 43 (0, 0)
/-- Play's two boxes. -/
structure Bp (w : World) (nt r : Nat) (W : World) : Prop where
  c : W.heap[w.heap.size]? = some (dBox nt r)
  r : W.heap[w.heap.size + 1]? = some rnO
  b : Below w.heap.size w W
theorem Bp.below {w W W' : World} {nt r : Nat} (h : Bp w nt r W) (hB : Below (w.heap.size + 1 + 1) W W') : Bp w nt r W' :=
  ⟨(hB.block _ (by omega)).trans h.c, (hB.block _ (by omega)).trans h.r, h.b.trans (hB.mono (by omega))⟩
theorem Bp.lt {w W : World} {nt r : Nat} (h : Bp w nt r W) : w.heap.size + 1 + 1 ≤ W.heap.size := by
  have := (Array.getElem?_eq_some_iff.1 h.r).1
  omega
theorem Bp.run {w W : World} {nt r : Nat} (h : Bp w nt r W) : (∀ j, j < 4 → W.cell? ⟨w.heap.size + 1, j, none⟩ = some (.slice none 0 0)) ∧ ∀ j, W.frozen? ⟨w.heap.size + 1, j, none⟩ = false := by
  refine ⟨fun j hj => ?_, fun j => froz_at h.r j⟩
  rw [cell_at h.r j]
  have hj' : j = 0 ∨ j = 1 ∨ j = 2 ∨ j = 3 := by omega
  rcases hj' with rfl | rfl | rfl | rfl <;> rfl
/-- What a move leaves, from a relation that frames it. -/
theorem OutG.next {w W W' : World} {nt r bc cs c1 c2 km N : Nat} {U K : Nat → Prop} {q : Ph} {P' : Pg Dt Lw} (hU : ∀ k, U k → N ≤ k) (hN : N ≤ W.heap.size) (hO : OutG (dqL r bc cs c1 c2) W U K q km P' W') : ∃ U', RG (dqL r bc cs c1 c2) W' U' K q km P' ∧ (∀ k, U' k → N ≤ k) ∧ Below N W W' := by
  obtain ⟨U', g1, g2, g3, g4⟩ := hO
  exact ⟨U', g1, fun k hk => (g3 k hk).elim (hU k) (Nat.le_trans hN), g4.below hU hN⟩
end Go.Proofs.Ytpckcfdjgpdooaa.Dm
