/-
  A machine that lives on in a law: its contracts.
-/
import Derived.Test.YtiobchadjcekcaaMacPlayL
namespace Go.Proofs.Ytiobchadjcekcaa.Ma
open Go.RowKit Go.Shelf Mr Me
/-- The machine P at q, its own blocks U, its kit between k0 and k1. -/
structure Lv (W : World) (U : Nat → Prop) (k0 k1 : Nat) (q : Ph) (P : Pm) : Prop where
  r : R W U (fun k => k0 ≤ k ∧ k < k1) q k0 (k0 + 1) (k0 + 1 + 1) (k0 + 1 + 1 + 1) (k0 + 1 + 1 + 1 + 1) P
  u : ∀ k, U k → k1 ≤ k
  vs : q.vs = .slice none 0 0
theorem Lv.below {W W' : World} {U : Nat → Prop} {k0 k1 : Nat} {q : Ph} {P : Pm} (h : Lv W U k0 k1 q P) (hB : Below W.heap.size W W') : Lv W' U k0 k1 q P := ⟨h.r.below hB, h.u, h.vs⟩
theorem Lv.ul {W : World} {U : Nat → Prop} {k0 k1 : Nat} {q : Ph} {P : Pm} (h : Lv W U k0 k1 q P) : ∀ k, U k → k < W.heap.size := by
  obtain ⟨S, vl, va, vc, mv, ah, bt, hM, _⟩ := h.r
  exact hM.2.ul
theorem live_moves {W : World} {U : Nat → Prop} {k0 k1 : Nat} {q : Ph} {P : Pm} (h : Lv W U k0 k1 q P) : Calls Try.prog 12 #[.pointer (some ⟨q.b, 0, none⟩)] W fun e w' => e = .returned (.int .i64 (P.n : Int)) ∧ w' = W := by
  obtain ⟨S, vl, va, vc, mv, ah, bt, hM, _⟩ := h.r
  have hb := hM.2.blk
  have c2 : W.cell? ⟨q.b, 2, none⟩ = some (.int .i64 (P.n : Int)) := by simp [World.cell?, hb]
  clear hb hM h
  go_enter Try.func12, Try.ntmps12
  go_wp2
  go_ret
  exact ⟨rfl, rfl⟩
theorem live_run {W : World} {U : Nat → Prop} {k0 k1 : Nat} {q : Ph} {P : Pm} (h : Lv W U k0 k1 q P) : Calls Try.prog 13 #[.pointer (some ⟨q.b, 0, none⟩)] W fun e w' => ∃ v1 v2 v4, e = .returned (.agg #[v1, v2, .slice none 0 0, v4]) ∧ Has w' (fun k => W.heap.size ≤ k) 52 9 v1 P.cls.length (clc P.cls) ∧ Has w' (fun k => W.heap.size ≤ k) 57 7 v2 P.lg.length (lgc P.lg) ∧ Has w' (fun k => W.heap.size ≤ k) 27 1 v4 P.ws.length (wrd P.ws) ∧ Below W.heap.size W w' :=
  runM_any h.r h.vs
theorem live_move {W : World} {U : Nat → Prop} {k0 k1 : Nat} {q : Ph} {P : Pm} (h : Lv W U k0 k1 q P) (th op arg data : Int) : Calls Try.prog 11 #[.pointer (some ⟨q.b, 0, none⟩), .agg #[.int .i64 th, .int .i64 op, .int .i64 arg, .int .i64 data]] W fun e w' => e = .returned (.bool (P.move th op arg data).2) ∧ ∃ U', Lv w' U' k0 k1 q (P.move th op arg data).1 ∧ (∀ k, U' k → U k ∨ W.heap.size ≤ k) ∧ Fr W w' U := by
  have hk : k1 ≤ W.heap.size := by
    obtain ⟨S, vl, va, vc, mv, ah, bt, hM, _⟩ := h.r
    have := hM.2.ul _ hM.2.ub.1
    have := h.u _ hM.2.ub.1
    omega
  refine (move_own h.r th op arg data).mono ?_
  rintro e w' ⟨he, U'', hR', hsub, hup, hf⟩
  refine ⟨he, U'', ⟨hR', fun k hk' => ?_, h.vs⟩, hup, hf⟩
  rcases hup k hk' with h' | h'
  · exact h.u k h'
  · omega
end Go.Proofs.Ytiobchadjcekcaa.Ma
