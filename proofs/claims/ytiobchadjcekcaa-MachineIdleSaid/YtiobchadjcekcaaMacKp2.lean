/-
  A second run beside the first.
-/
import Derived.Test.YtiobchadjcekcaaMacKp
namespace Go.Proofs.Ytiobchadjcekcaa.Ma
open Go.RowKit Go.Shelf Mr Me
/-- A run's box at B, its rows, all ahead of D. -/
structure Kq (W : World) (B D : Nat) (v1 v2 v4 : Value) (P : Pm) : Prop where
  lt : B < D
  r0 : W.heap[B]? = some (.cells #[v1, v2, .slice none 0 0, v4] 41 (0, 0))
  h1 : Has W (fun k => k < D) 52 9 v1 P.cls.length (clc P.cls)
  h2 : Has W (fun k => k < D) 57 7 v2 P.lg.length (lgc P.lg)
  h4 : Has W (fun k => k < D) 27 1 v4 P.ws.length (wrd P.ws)
theorem Kq.below {W W' : World} {B D : Nat} {v1 v2 v4 : Value} {P : Pm} (h : Kq W B D v1 v2 v4 P) (hB : Below W.heap.size W W') : Kq W' B D v1 v2 v4 P :=
  ⟨h.lt, (hB.block _ (Array.getElem?_eq_some_iff.1 h.r0).1).trans h.r0, h.h1.below hB, h.h2.below hB, h.h4.below hB⟩
theorem Kq.alloc {W : World} {B D : Nat} {v1 v2 v4 : Value} {P : Pm} (h : Kq W B D v1 v2 v4 P) (o : Obj) : Kq (W.alloc o) B D v1 v2 v4 P := h.below ((Below.refl _ _).alloc (Nat.le_refl _) _)
theorem Kq.drewN {W : World} {B D : Nat} {v1 v2 v4 : Value} {P : Pm} (h : Kq W B D v1 v2 v4 P) (m : Nat) : Kq (W.drewN m) B D v1 v2 v4 P := ⟨h.lt, h.r0, h.h1, h.h2, h.h4⟩
theorem Kq.set {W : World} {B D : Nat} {v1 v2 v4 : Value} {P : Pm} (h : Kq W B D v1 v2 v4 P) (p : Addr) (hp : D ≤ p.block) (u : Value) : Kq (W.setCell p u) B D v1 v2 v4 P :=
  have hlt := h.lt
  have hh : ∀ {e size m : Nat} {v : Value} {xs : List Value}, Has W (fun k => k < D) e size v m xs → Has (W.setCell p u) (fun k => k < D) e size v m xs := fun hv => hv.setCell p u (fun e => by have := (hv.lt _ e).1; omega)
  ⟨h.lt, by rw [Below.heap_setCell _ _ _ _ (by omega)]; exact h.r0, hh h.h1, hh h.h2, hh h.h4⟩
theorem Kq.cells {W : World} {B D : Nat} {v1 v2 v4 : Value} {P : Pm} (h : Kq W B D v1 v2 v4 P) : W.cell? ⟨B, 0, none⟩ = some v1 ∧ W.cell? ⟨B, 1, none⟩ = some v2 ∧ W.cell? ⟨B, 2, none⟩ = some (.slice none 0 0) ∧ W.cell? ⟨B, 3, none⟩ = some v4 := by
  refine ⟨?_, ?_, ?_, ?_⟩ <;> simp [World.cell?, h.r0]
theorem Kp.alloc {w W : World} {B : Nat} {x y z v1 v2 v4 : Value} {P : Pm} (h : Kp w W B x y z v1 v2 v4 P) (o : Obj) : Kp w (W.alloc o) B x y z v1 v2 v4 P := h.below ((Below.refl _ _).alloc (Nat.le_refl _) _)
/-- An empty run's box is made, a call makes a run, the run is put into the box. -/
theorem kq_open {w W W1 W5 : World} {B : Nat} {x y z v1 v2 v4 u1 u2 u4 : Value} {Q P : Pm} (hK : Kp w W B x y z v1 v2 v4 Q)
    (h1 : W1 = (W.alloc (.cells #[.slice none 0 0, .slice none 0 0, .slice none 0 0, .slice none 0 0] 41)).drew) (hB : Below W1.heap.size W1 W5)
    (hu1 : Has W5 (fun k => W1.heap.size ≤ k) 52 9 u1 P.cls.length (clc P.cls)) (hu2 : Has W5 (fun k => W1.heap.size ≤ k) 57 7 u2 P.lg.length (lgc P.lg)) (hu4 : Has W5 (fun k => W1.heap.size ≤ k) 27 1 u4 P.ws.length (wrd P.ws)) :
    Kp w ((((W5.setCell ⟨W.heap.size, 0, none⟩ u1).setCell ⟨W.heap.size, 1, none⟩ u2).setCell ⟨W.heap.size, 2, none⟩ (.slice none 0 0)).setCell ⟨W.heap.size, 3, none⟩ u4) B x y z v1 v2 v4 Q ∧
    Kq ((((W5.setCell ⟨W.heap.size, 0, none⟩ u1).setCell ⟨W.heap.size, 1, none⟩ u2).setCell ⟨W.heap.size, 2, none⟩ (.slice none 0 0)).setCell ⟨W.heap.size, 3, none⟩ u4) W.heap.size W5.heap.size u1 u2 u4 P := by
  have hsz : W1.heap.size = W.heap.size + 1 := by rw [h1]; simp
  have lt : B < W.heap.size := (Array.getElem?_eq_some_iff.1 hK.r0).1
  have le := hB.size
  have hK1 : Kp w W1 B x y z v1 v2 v4 Q := by
    rw [h1]
    exact (hK.alloc (.cells #[.slice none 0 0, .slice none 0 0, .slice none 0 0, .slice none 0 0] 41)).below (Below.refl _ _).drew
  have hbox : W5.heap[W.heap.size]? = some (.cells #[.slice none 0 0, .slice none 0 0, .slice none 0 0, .slice none 0 0] 41 (0, 0)) := by
    rw [hB.block _ (by omega), h1]
    exact heap_alloc_new W _
  have hK5 := hK1.below hB
  obtain ⟨W6, hW6⟩ : ∃ W6, (((W5.setCell ⟨W.heap.size, 0, none⟩ u1).setCell ⟨W.heap.size, 1, none⟩ u2).setCell ⟨W.heap.size, 2, none⟩ (.slice none 0 0)).setCell ⟨W.heap.size, 3, none⟩ u4 = W6 := ⟨_, rfl⟩
  have hoth : ∀ k, k ≠ W.heap.size → W6.heap[k]? = W5.heap[k]? := fun k hk => by
    rw [← hW6, Below.heap_setCell _ _ _ k hk, Below.heap_setCell _ _ _ k hk, Below.heap_setCell _ _ _ k hk, Below.heap_setCell _ _ _ k hk]
  have kh : ∀ {e size m : Nat} {v : Value} {xs : List Value}, Has W5 (fun k => W1.heap.size ≤ k) e size v m xs → Has W6 (fun k => k < W5.heap.size) e size v m xs := fun {e size m v xs} hh =>
    hh.kept (fun k hk => hoth k (by have := hh.lt k hk; omega)) (fun k hk => by have := hh.lt k hk; omega)
  rw [hW6]
  refine ⟨?_, ⟨by omega, ?_, kh hu1, kh hu2, kh hu4⟩⟩
  · rw [← hW6]
    exact (((hK5.set ⟨W.heap.size, 0, none⟩ lt _).set ⟨W.heap.size, 1, none⟩ lt _).set ⟨W.heap.size, 2, none⟩ lt _).set ⟨W.heap.size, 3, none⟩ lt _
  · rw [← hW6, setBlk (setBlk (setBlk (setBlk hbox 0 _) 1 _) 2 _) 3 _]
    rfl
/-- The same, where the call comes first. -/
theorem kq_more {w W W1 W5 : World} {B : Nat} {x y z v1 v2 v4 u1 u2 u4 : Value} {Q P : Pm} (hK : Kp w W B x y z v1 v2 v4 Q) (h1 : W1 = W.drew) (hB : Below W1.heap.size W1 W5)
    (hu1 : Has W5 (fun k => W1.heap.size ≤ k) 52 9 u1 P.cls.length (clc P.cls)) (hu2 : Has W5 (fun k => W1.heap.size ≤ k) 57 7 u2 P.lg.length (lgc P.lg)) (hu4 : Has W5 (fun k => W1.heap.size ≤ k) 27 1 u4 P.ws.length (wrd P.ws)) :
    Kp w (W5.alloc (.cells #[u1, u2, .slice none 0 0, u4] 41)) B x y z v1 v2 v4 Q ∧ Kq (W5.alloc (.cells #[u1, u2, .slice none 0 0, u4] 41)) W5.heap.size (W5.heap.size + 1) u1 u2 u4 P := by
  have hK1 : Kp w W1 B x y z v1 v2 v4 Q := by
    rw [h1]
    exact hK.below (Below.refl _ _).drew
  have kh : ∀ {e size m : Nat} {v : Value} {xs : List Value}, Has W5 (fun k => W1.heap.size ≤ k) e size v m xs → Has (W5.alloc (.cells #[u1, u2, .slice none 0 0, u4] 41)) (fun k => k < W5.heap.size + 1) e size v m xs := fun {e size m v xs} hh =>
    (hh.alloc _).kept (fun _ _ => rfl) (fun k hk => by have := hh.lt k hk; omega)
  exact ⟨(hK1.below hB).alloc _, ⟨by omega, heap_alloc_new W5 _, kh hu1, kh hu2, kh hu4⟩⟩
end Go.Proofs.Ytiobchadjcekcaa.Ma
