/-
  What the machine's laws' loops keep: the script's box, the run's box, the run's rows.
-/
import Derived.Test.YtiobchadjcekcaaMacMx
import Derived.Test.YtiobchadjcekcaaOpenScript
import Derived.BigQuiet
import Derived.Deep.DeepCutAuto
import Derived.Deep.LoopGhost
namespace Go.Proofs.Ytiobchadjcekcaa.Ma
open Go.RowKit Go.Shelf Mr Me
/-- What the laws' loops keep: the script's box, the run's box, the run's rows. -/
structure Kp (w W : World) (B : Nat) (x y z v1 v2 v4 : Value) (P : Pm) : Prop where
  bel : Below w.heap.size w W
  s0 : W.heap[w.heap.size]? = some (.cells #[x, y, z] 45 (0, 0))
  lt : w.heap.size < B
  r0 : W.heap[B]? = some (.cells #[v1, v2, .slice none 0 0, v4] 41 (0, 0))
  h1 : Has W (fun k => w.heap.size < k ∧ k < B) 52 9 v1 P.cls.length (clc P.cls)
  h2 : Has W (fun k => w.heap.size < k ∧ k < B) 57 7 v2 P.lg.length (lgc P.lg)
  h4 : Has W (fun k => w.heap.size < k ∧ k < B) 27 1 v4 P.ws.length (wrd P.ws)
theorem Kp.below {w W W' : World} {B : Nat} {x y z v1 v2 v4 : Value} {P : Pm} (h : Kp w W B x y z v1 v2 v4 P) (hB : Below W.heap.size W W') : Kp w W' B x y z v1 v2 v4 P :=
  have g : ∀ k o, W.heap[k]? = some o → W'.heap[k]? = some o := fun k _ hk => (hB.block k (Array.getElem?_eq_some_iff.1 hk).1).trans hk
  ⟨h.bel.trans (hB.mono h.bel.size), g _ _ h.s0, h.lt, g _ _ h.r0, h.h1.below hB, h.h2.below hB, h.h4.below hB⟩
/-- A write above B. -/
theorem Kp.set {w W : World} {B : Nat} {x y z v1 v2 v4 : Value} {P : Pm} (h : Kp w W B x y z v1 v2 v4 P) (p : Addr) (hp : B < p.block) (u : Value) : Kp w (W.setCell p u) B x y z v1 v2 v4 P :=
  have hlt := h.lt
  have hh : ∀ {e size m : Nat} {v : Value} {xs : List Value}, Has W (fun k => w.heap.size < k ∧ k < B) e size v m xs → Has (W.setCell p u) (fun k => w.heap.size < k ∧ k < B) e size v m xs := fun hv => hv.setCell p u (fun e => by have := (hv.lt _ e).1; omega)
  ⟨h.bel.setCell (by omega) u, by rw [Below.heap_setCell _ _ _ _ (by omega)]; exact h.s0, h.lt, by rw [Below.heap_setCell _ _ _ _ (by omega)]; exact h.r0, hh h.h1, hh h.h2, hh h.h4⟩
theorem has_drewN {W : World} {S : Nat → Prop} {e size n : Nat} {v : Value} {xs : List Value} (h : Has W S e size v n xs) (m : Nat) : Has (W.drewN m) S e size v n xs := h.kept (fun _ _ => rfl) (fun k hk => (h.lt k hk).1)
theorem Kp.drewN {w W : World} {B : Nat} {x y z v1 v2 v4 : Value} {P : Pm} (h : Kp w W B x y z v1 v2 v4 P) (m : Nat) : Kp w (W.drewN m) B x y z v1 v2 v4 P :=
  ⟨⟨h.bel.os, h.bel.tape, h.bel.output, h.bel.size, h.bel.block⟩, h.s0, h.lt, h.r0, h.h1, h.h2, h.h4⟩
theorem Kp.cells {w W : World} {B : Nat} {x y z v1 v2 v4 : Value} {P : Pm} (h : Kp w W B x y z v1 v2 v4 P) : (W.cell? ⟨w.heap.size, 0, none⟩ = some x ∧ W.cell? ⟨w.heap.size, 1, none⟩ = some y ∧ W.cell? ⟨w.heap.size, 2, none⟩ = some z) ∧ (W.cell? ⟨B, 0, none⟩ = some v1 ∧ W.cell? ⟨B, 1, none⟩ = some v2 ∧ W.cell? ⟨B, 2, none⟩ = some (.slice none 0 0) ∧ W.cell? ⟨B, 3, none⟩ = some v4) := by
  refine ⟨⟨?_, ?_, ?_⟩, ?_, ?_, ?_, ?_⟩ <;> simp [World.cell?, h.s0, h.r0]
/-- The head of such a law: the script's box is written, the run's box is made. -/
theorem kp_open {w w1 : World} {x0 y0 z0 x y z v1 v2 v4 : Value} {Q : Pm} (hs1 : w1.heap[w.heap.size]? = some (.cells #[x0, y0, z0] 45 (0, 0))) (Bw1 : Below w.heap.size w w1)
    (hv1 : Has w1 (fun k => w.heap.size + 1 ≤ k) 52 9 v1 Q.cls.length (clc Q.cls)) (hv2 : Has w1 (fun k => w.heap.size + 1 ≤ k) 57 7 v2 Q.lg.length (lgc Q.lg)) (hv4 : Has w1 (fun k => w.heap.size + 1 ≤ k) 27 1 v4 Q.ws.length (wrd Q.ws)) :
    Kp w ((((w1.setCell ⟨w.heap.size, 0, none⟩ x).setCell ⟨w.heap.size, 1, none⟩ y).setCell ⟨w.heap.size, 2, none⟩ z).alloc (.cells #[v1, v2, .slice none 0 0, v4] 41)) w1.heap.size x y z v1 v2 v4 Q := by
  obtain ⟨W2, hW2⟩ : ∃ W2, (((w1.setCell ⟨w.heap.size, 0, none⟩ x).setCell ⟨w.heap.size, 1, none⟩ y).setCell ⟨w.heap.size, 2, none⟩ z).alloc (.cells #[v1, v2, .slice none 0 0, v4] 41) = W2 := ⟨_, rfl⟩
  have lt1 : w.heap.size < w1.heap.size := (Array.getElem?_eq_some_iff.1 hs1).1
  rw [hW2]
  have kh : ∀ {e size m : Nat} {v : Value} {xs : List Value}, Has w1 (fun k => w.heap.size + 1 ≤ k) e size v m xs → Has W2 (fun k => w.heap.size < k ∧ k < w1.heap.size) e size v m xs := fun {e size m v xs} hh => by
    refine hh.kept (fun k hk => ?_) (fun k hk => by have := hh.lt k hk; omega)
    have := hh.lt k hk
    rw [← hW2, ((Below.refl _ _).alloc (Nat.le_refl _) _).block _ (by simp; omega), Below.heap_setCell _ _ _ _ (by simp; omega), Below.heap_setCell _ _ _ _ (by simp; omega), Below.heap_setCell _ _ _ _ (by simp; omega)]
  refine ⟨?_, ?_, lt1, ?_, kh hv1, kh hv2, kh hv4⟩
  · rw [← hW2]
    exact (((Bw1.setCell (p := ⟨w.heap.size, 0, none⟩) (Nat.le_refl _) _).setCell (p := ⟨w.heap.size, 1, none⟩) (Nat.le_refl _) _).setCell (p := ⟨w.heap.size, 2, none⟩) (Nat.le_refl _) _).alloc (by simp; omega) _
  · rw [← hW2, ((Below.refl _ _).alloc (Nat.le_refl _) _).block _ (by simp; omega), setBlk (setBlk (setBlk hs1 0 _) 1 _) 2 _]
    rfl
  · have := heap_alloc_new (((w1.setCell ⟨w.heap.size, 0, none⟩ x).setCell ⟨w.heap.size, 1, none⟩ y).setCell ⟨w.heap.size, 2, none⟩ z) (.cells #[v1, v2, .slice none 0 0, v4] 41)
    rw [hW2] at this
    simpa using this
/-- A call's nine cells. -/
theorem cl_cells {W : World} {S : Nat → Prop} {g n cap : Nat} {l : List Cl} (h : Has W S 52 9 (.slice (some ⟨g, 0, none⟩) n cap) n (clc l)) {j : Nat} {cl : Cl} (hcl : l[j]? = some cl) :
    W.cell? ⟨g, j * 9, none⟩ = some (.int .i64 cl.th) ∧ W.cell? ⟨g, j * 9 + 1, none⟩ = some (.int .i64 cl.op) ∧ W.cell? ⟨g, j * 9 + 2, none⟩ = some (.int .i64 cl.arg) ∧ W.cell? ⟨g, j * 9 + 3, none⟩ = some (.int .i64 cl.data) ∧ W.cell? ⟨g, j * 9 + 4, none⟩ = some (.int .i64 cl.beg) ∧ W.cell? ⟨g, j * 9 + 5, none⟩ = some (.int .i64 cl.fin) ∧ W.cell? ⟨g, j * 9 + 6, none⟩ = some (.int .i64 cl.pt) ∧ W.cell? ⟨g, j * 9 + 7, none⟩ = some (.int .i64 cl.ak) ∧ W.cell? ⟨g, j * 9 + 8, none⟩ = some (.int .i64 cl.av) := by
  have hce : ∀ t (_ : t < 9) u, cl.cells[t]? = some u → W.cell? ⟨g, j * 9 + t, none⟩ = some u := fun t ht u hu => h.cells (g := g) rfl (j * 9 + t) u (by rw [clc, flat_get cl_len l j t cl hcl ht]; exact hu)
  exact ⟨hce 0 (by decide) _ rfl, hce 1 (by decide) _ rfl, hce 2 (by decide) _ rfl, hce 3 (by decide) _ rfl, hce 4 (by decide) _ rfl, hce 5 (by decide) _ rfl, hce 6 (by decide) _ rfl, hce 7 (by decide) _ rfl, hce 8 (by decide) _ rfl⟩
/-- An access's seven cells. -/
theorem ac_cells {W : World} {S : Nat → Prop} {g n cap : Nat} {l : List Acc} (h : Has W S 57 7 (.slice (some ⟨g, 0, none⟩) n cap) n (lgc l)) {j : Nat} {a : Acc} (ha : l[j]? = some a) :
    W.cell? ⟨g, j * 7, none⟩ = some (.int .i64 a.mv) ∧ W.cell? ⟨g, j * 7 + 1, none⟩ = some (.int .i64 a.th) ∧ W.cell? ⟨g, j * 7 + 2, none⟩ = some (.int .i64 a.kd) ∧ W.cell? ⟨g, j * 7 + 3, none⟩ = some (.int .i64 a.ad) ∧ W.cell? ⟨g, j * 7 + 4, none⟩ = some (.int .u64 a.old) ∧ W.cell? ⟨g, j * 7 + 5, none⟩ = some (.int .u64 a.new) ∧ W.cell? ⟨g, j * 7 + 6, none⟩ = some (.int .u64 a.saw) := by
  have hce : ∀ t (_ : t < 7) u, a.cells[t]? = some u → W.cell? ⟨g, j * 7 + t, none⟩ = some u := fun t ht u hu => h.cells (g := g) rfl (j * 7 + t) u (by rw [lgc, flat_get (f := Acc.cells) (m := 7) (fun _ => rfl) l j t a ha ht]; exact hu)
  exact ⟨hce 0 (by decide) _ rfl, hce 1 (by decide) _ rfl, hce 2 (by decide) _ rfl, hce 3 (by decide) _ rfl, hce 4 (by decide) _ rfl, hce 5 (by decide) _ rfl, hce 6 (by decide) _ rfl⟩
end Go.Proofs.Ytiobchadjcekcaa.Ma
