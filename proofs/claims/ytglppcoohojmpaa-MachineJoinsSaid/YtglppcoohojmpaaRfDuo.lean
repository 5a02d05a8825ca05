import Derived.Test.YtglppcoohojmpaaRfLive
import Derived.Test.YtglppcoohojmpaaRfLast
import Derived.Test.YtglppcoohojmpaaJ32
/-
  The program's machine and the document's, side by side in a law.
-/
namespace Go.Proofs.Ytglppcoohojmpaa.Rf
open Go.RowKit Go.Shelf Mr Me Ma
structure Duo (w W : World) (D1 D2 k0 k1 : Nat) (q1 : Ph) (q2 : Rc) (x y z : Value) (P1 P2 : Pm) : Prop where
  ex : ∃ U1 U2, Lv W U1 k0 k1 q1 P1 ∧ Sm W U2 q2 P2 ∧ (∀ k, U1 k → ¬ U2 k) ∧ (∀ k, U2 k → k1 ≤ k) ∧ (∀ k, U1 k → k < D1) ∧ (∀ k, U2 k → k < D2)
  h0 : w.heap.size < k0
  h1 : k0 ≤ k1
  d1 : D1 ≤ W.heap.size
  d2 : D2 ≤ W.heap.size
  k : K3 w W x y z
section
variable {w W W' : World} {D1 D2 k0 k1 : Nat} {q1 : Ph} {q2 : Rc} {x y z : Value} {P P1 P2 : Pm}
theorem Duo.below (h : Duo w W D1 D2 k0 k1 q1 q2 x y z P1 P2) (hB : Below W.heap.size W W') : Duo w W' D1 D2 k0 k1 q1 q2 x y z P1 P2 := by
  obtain ⟨⟨U1, U2, e1, e2, e3, e4, e5, e6⟩, h0, h1, d1, d2, k⟩ := h
  exact ⟨⟨U1, U2, e1.below hB, e2.below hB, e3, e4, e5, e6⟩, h0, h1, Nat.le_trans d1 hB.size, Nat.le_trans d2 hB.size, k.below hB⟩
theorem K3.kept (h : K3 w W x y z) {S : Nat → Prop} (hf : Fr W W' S) (hS : ∀ k, S k → w.heap.size < k) : K3 w W' x y z := by
  have hl := (Array.getElem?_eq_some_iff.1 h.2).1
  refine ⟨h.1.trans (hf.below (fun k hk => Nat.le_of_lt (hS k hk)) h.1.size), (hf.block _ hl (fun e => Nat.lt_irrefl _ (hS _ e))).trans h.2⟩
theorem Sm.kept {U : Nat → Prop} (h : Sm W U q2 P) (hk : ∀ k, U k → W'.heap[k]? = W.heap[k]?) (hs : W.heap.size ≤ W'.heap.size) : Sm W' U q2 P := by
  obtain ⟨h1, h2, h3, s, vc, vl, h4, h5⟩ := h
  exact ⟨h1, h2, h3, s, vc, vl, h4, h5.kept hk (fun _ h => h) (fun k hk' => Nat.lt_of_lt_of_le (h5.ul k hk') hs)⟩
theorem Sm.ul {U : Nat → Prop} (h : Sm W U q2 P) : ∀ k, U k → k < W.heap.size := by
  obtain ⟨h1, h2, h3, s, vc, vl, h4, h5⟩ := h
  exact h5.ul
theorem duo_move1 (h : Duo w W D1 D2 k0 k1 q1 q2 x y z P1 P2) (th op arg data : Int) :
    Calls Try.prog 14 #[.pointer (some ⟨q1.b, 0, none⟩), .agg #[.int .i64 th, .int .i64 op, .int .i64 arg, .int .i64 data]] W fun e w' => e = .returned (.bool (P1.move th op arg data).2) ∧ Duo w w' w'.heap.size D2 k0 k1 q1 q2 x y z (P1.move th op arg data).1 P2 ∧ (∀ k, D1 ≤ k → k < W.heap.size → w'.heap[k]? = W.heap[k]?) := by
  obtain ⟨⟨U1, U2, e1, e2, e3, e4, e5, e6⟩, h0, h1, d1, d2, hk⟩ := h
  refine (live_move e1 th op arg data).mono ?_
  rintro e w' ⟨he, U1', f1, f2, f3⟩
  have hs := f3.size
  refine ⟨he, ⟨⟨U1', U2, f1, e2.kept (fun k hk' => f3.block k (e2.ul k hk') (fun hu => e3 k hu hk')) f3.size, fun k hk' hu => ?_, e4, f1.ul, e6⟩, h0, h1, Nat.le_refl _, by omega, hk.kept f3 (fun k hk' => by have := e1.u k hk'; omega)⟩, fun k hk1 hk2 => f3.block k hk2 (fun hu => by have := e5 k hu; omega)⟩
  rcases f2 k hk' with g | g
  · exact e3 k g hu
  · have := e6 k hu; omega
theorem duo_move2 (h : Duo w W D1 D2 k0 k1 q1 q2 x y z P1 P2) (th op arg data : Int) :
    Calls Try.prog 15 #[.pointer (some ⟨q2.b, 0, none⟩), .agg #[.int .i64 th, .int .i64 op, .int .i64 arg, .int .i64 data]] W fun e w' => e = .returned (.bool (P2.move th op arg data).2) ∧ Duo w w' D1 w'.heap.size k0 k1 q1 q2 x y z P1 (P2.move th op arg data).1 ∧ (∀ k, D2 ≤ k → k < W.heap.size → w'.heap[k]? = W.heap[k]?) := by
  obtain ⟨⟨U1, U2, e1, e2, e3, e4, e5, e6⟩, h0, h1, d1, d2, hk⟩ := h
  have hkl : k1 ≤ W.heap.size := by
    obtain ⟨_, _, _, s, vc, vl, _, h5⟩ := e2
    have := h5.ul _ h5.ub
    have := e4 _ h5.ub
    omega
  refine (Move_any e2 th op arg data).mono ?_
  rintro e w' ⟨he, U2', f1, _, f2, f3⟩
  have hs := f3.size
  refine ⟨he, ⟨⟨U1, U2', e1.kept (fun k hk' => ?_) f3.size, f1, fun k hk' hu => ?_, fun k hk' => ?_, e5, f1.ul⟩, h0, h1, by omega, Nat.le_refl _, hk.kept f3 (fun k hk' => by have := e4 k hk'; omega)⟩, fun k hk1 hk2 => f3.block k hk2 (fun hu => by have := e6 k hu; omega)⟩
  · rcases hk' with g | g
    · exact f3.block k (e1.ul k g) (fun hu => e3 k g hu)
    · exact f3.block k (by omega) (fun hu => by have := e4 k hu; omega)
  · rcases f2 k hu with g | g
    · exact e3 k hk' g
    · have := e5 k hk'; omega
  · rcases f2 k hk' with g | g
    · exact e4 k g
    · omega
theorem duo_moves (h : Duo w W D1 D2 k0 k1 q1 q2 x y z P1 P2) : Calls Try.prog 24 #[.pointer (some ⟨q1.b, 0, none⟩)] W fun e w' => e = .returned (.int .i64 (P1.n : Int)) ∧ w' = W := by
  obtain ⟨⟨U1, U2, e1, _⟩, _⟩ := h
  exact live_moves e1
theorem duo_n (h : Duo w W D1 D2 k0 k1 q1 q2 x y z P1 P2) : W.cell? ⟨q2.b, 23, none⟩ = some (.int .i64 (P2.n : Int)) := by
  obtain ⟨⟨U1, U2, _, ⟨_, _, _, s, vc, vl, h4, h5⟩, _⟩, _⟩ := h
  have h0 := h5.bx
  unfold Rc.box at h0
  rw [← h4.n]
  simp [World.cell?, h0]
/-- What is asked of both: a thread's last call. -/
theorem duo_ask (h : Duo w W D1 D2 k0 k1 q1 q2 x y z P P) (hl : Lc P) (t : Int) : ∃ (b kn : Bool) (c g : Cl), ((kn = true ∧ c = g ∧ 0 ≤ g.beg) ∨ (kn = false ∧ c = noCl ∧ g = noBeg)) ∧ ∀ W', Below W.heap.size W W' →
    (Calls Try.prog 25 #[.pointer (some ⟨q1.b, 0, none⟩), .int .i64 t] W' fun e w' => e = .returned (.tuple #[c.val, .bool kn]) ∧ Below W'.heap.size W' w') ∧
    (Calls Try.prog 26 #[.pointer (some ⟨q2.b, 0, none⟩), .int .i64 t] W' fun e w' => e = .returned (.tuple #[g.val, .bool b]) ∧ Below W'.heap.size W' w') ∧
    (Calls Try.prog 27 #[.pointer (some ⟨q1.b, 0, none⟩), .int .i64 t] W' fun e w' => e = .returned (.bool b) ∧ w' = W') := by
  obtain ⟨⟨U1, U2, e1, e2, _⟩, _⟩ := h
  have hlen : P.cls.length ≤ 100000 := by have := e2.2.1.cls; have := e2.2.1.n; omega
  rcases hl.ask t with ⟨hN, ha⟩ | ⟨i, c, pt, cl, rfl, ht, hc, hL, hb, h0⟩
  · refine ⟨false, false, noCl, noBeg, .inr ⟨rfl, rfl, rfl⟩, fun W' hB => ?_⟩
    obtain ⟨c1, c2⟩ := live_none (e1.below hB) t ha
    refine ⟨c1, ?_, c2⟩
    obtain ⟨_, _, _, s, vc, vl, h4, h5⟩ := e2
    exact last_none (h5.below hB) t (by rw [h4.cls]; exact hN) (by rw [h4.cls]; exact hlen)
  · refine ⟨decide (cl.fin < 0), true, cl, cl, .inl ⟨rfl, rfl, h0⟩, fun W' hB => ?_⟩
    obtain ⟨c1, c2⟩ := live_some (e1.below hB) i c pt cl ht hc hL.1
    rw [hb] at c2
    refine ⟨c1, ?_, c2⟩
    obtain ⟨_, _, _, s, vc, vl, h4, h5⟩ := e2
    exact last_some (h5.below hB) i c cl (by rw [h4.cls]; exact hL) (by rw [h4.cls]; exact hlen)
theorem duo_run (h : Duo w W D1 D2 k0 k1 q1 q2 x y z P1 P2) : Calls Try.prog 17 #[.pointer (some ⟨q1.b, 0, none⟩)] W fun e w' => ∃ v1 v2 v4, e = .returned (runV v1 v2 (.slice none 0 0) v4) ∧ Has w' (fun k => W.heap.size ≤ k) 78 9 v1 P1.cls.length (clc P1.cls) ∧ Has w' (fun k => W.heap.size ≤ k) 128 7 v2 P1.lg.length (lgc P1.lg) ∧ Has w' (fun k => W.heap.size ≤ k) 59 1 v4 P1.ws.length (wrd P1.ws) ∧ Below W.heap.size W w' := by
  obtain ⟨⟨U1, U2, e1, _⟩, _⟩ := h
  exact live_run e1
theorem duo_told (h : Duo w W D1 D2 k0 k1 q1 q2 x y z P1 P2) : Calls Try.prog 18 #[.pointer (some ⟨q2.b, 0, none⟩)] W fun e w' => ∃ v1 v2 v4, e = .returned (runV v1 v2 (.slice none 0 0) v4) ∧ Has w' (fun k => W.heap.size ≤ k) 78 9 v1 P2.cls.length (clc P2.cls) ∧ Has w' (fun k => W.heap.size ≤ k) 128 7 v2 P2.lg.length (lgc P2.lg) ∧ Has w' (fun k => W.heap.size ≤ k) 59 1 v4 P2.ws.length (wrd P2.ws) ∧ Below W.heap.size W w' := by
  obtain ⟨⟨U1, U2, _, e2, _⟩, _⟩ := h
  exact Told_sm e2
end
end Go.Proofs.Ytglppcoohojmpaa.Rf
