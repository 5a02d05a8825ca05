import Derived.Test.YtglppcoohojmpaaRfLcP
import Derived.Test.YtglppcoohojmpaaRfAsk
/-
  A machine that lives on in a law: its contracts (for the seats without reclaimlaw03.play).
-/
namespace Go.Proofs.Ytglppcoohojmpaa.Rf
open Go.RowKit Go.Shelf Mr Me Ma
/-- The machine P at q, its own blocks U, its kit between k0 and k1. -/
structure Lv (W : World) (U : Nat → Prop) (k0 k1 : Nat) (q : Ph) (P : Pm) : Prop where
  r : R W U (fun k => k0 ≤ k ∧ k < k1) q k0 (k0 + 1) (k0 + 1 + 1) (k0 + 1 + 1 + 1) (k0 + 1 + 1 + 1 + 1) P
  u : ∀ k, U k → k1 ≤ k
  vs : q.vs = .slice none 0 0
theorem Lv.below {W W' : World} {U : Nat → Prop} {k0 k1 : Nat} {q : Ph} {P : Pm} (h : Lv W U k0 k1 q P) (hB : Below W.heap.size W W') : Lv W' U k0 k1 q P := ⟨h.r.below hB, h.u, h.vs⟩
theorem Lv.ul {W : World} {U : Nat → Prop} {k0 k1 : Nat} {q : Ph} {P : Pm} (h : Lv W U k0 k1 q P) : ∀ k, U k → k < W.heap.size := by
  obtain ⟨S, vl, va, vc, mv, ah, bt, hM, _⟩ := h.r
  exact hM.2.ul
theorem live_moves {W : World} {U : Nat → Prop} {k0 k1 : Nat} {q : Ph} {P : Pm} (h : Lv W U k0 k1 q P) : Calls Try.prog 24 #[.pointer (some ⟨q.b, 0, none⟩)] W fun e w' => e = .returned (.int .i64 (P.n : Int)) ∧ w' = W := by
  obtain ⟨S, vl, va, vc, mv, ah, bt, hM, _⟩ := h.r
  have hb := hM.2.blk
  have c2 : W.cell? ⟨q.b, 2, none⟩ = some (.int .i64 (P.n : Int)) := by simp [World.cell?, hb]
  clear hb hM h
  go_enter Try.func24, Try.ntmps24
  go_wp2
  go_ret
  exact ⟨rfl, rfl⟩
theorem live_run {W : World} {U : Nat → Prop} {k0 k1 : Nat} {q : Ph} {P : Pm} (h : Lv W U k0 k1 q P) : Calls Try.prog 17 #[.pointer (some ⟨q.b, 0, none⟩)] W fun e w' => ∃ v1 v2 v4, e = .returned (.agg #[v1, v2, .slice none 0 0, v4]) ∧ Has w' (fun k => W.heap.size ≤ k) 78 9 v1 P.cls.length (clc P.cls) ∧ Has w' (fun k => W.heap.size ≤ k) 128 7 v2 P.lg.length (lgc P.lg) ∧ Has w' (fun k => W.heap.size ≤ k) 59 1 v4 P.ws.length (wrd P.ws) ∧ Below W.heap.size W w' :=
  runM_any h.r h.vs
theorem live_move {W : World} {U : Nat → Prop} {k0 k1 : Nat} {q : Ph} {P : Pm} (h : Lv W U k0 k1 q P) (th op arg data : Int) : Calls Try.prog 14 #[.pointer (some ⟨q.b, 0, none⟩), .agg #[.int .i64 th, .int .i64 op, .int .i64 arg, .int .i64 data]] W fun e w' => e = .returned (.bool (P.move th op arg data).2) ∧ ∃ U', Lv w' U' k0 k1 q (P.move th op arg data).1 ∧ (∀ k, U' k → U k ∨ W.heap.size ≤ k) ∧ Fr W w' U := by
  have hk : k1 ≤ W.heap.size := by
    obtain ⟨S, vl, va, vc, mv, ah, bt, hM, _⟩ := h.r
    have := hM.2.ul _ hM.2.ub.1
    have := h.u _ hM.2.ub.1
    omega
  refine (move_own h.r th op arg data).mono ?_
  rintro e w' ⟨he, U'', hR', hsub, hup, hf⟩
  refine ⟨he, U'', ⟨hR', fun k hk' => ?_, h.vs⟩, hup, hf⟩
  rcases hup k hk' with h' | h'
  · exact h.u k h'
  · omega
theorem R_kept {W w : World} {U K : Nat → Prop} {q : Ph} {km s1 a1 s2 a2 : Nat} {P : Pm} (h : R W U K q km s1 a1 s2 a2 P) (hk : ∀ k, U k ∨ K k → w.heap[k]? = W.heap[k]?) (hs : W.heap.size ≤ w.heap.size) : R w U K q km s1 a1 s2 a2 P := by
  obtain ⟨S, vl, va, vc, mv, ah, bt, hM, hinj, hah, hK, hKU, hwf, hvk⟩ := h
  exact ⟨S, vl, va, vc, mv, ah, bt, ⟨Xs.kept hM.1 (fun k hU _ _ _ => hk k (.inl hU)) (fun _ h => h) (fun _ _ h => h), hM.2.kept (fun k hU => hk k (.inl hU)) (fun _ h => h) (fun k hU => Nat.lt_of_lt_of_le (hM.2.ul k hU) hs)⟩, hinj, hah, hK.kept (fun k hk' => hk k (.inr hk')), fun k hk' => ⟨(hKU k hk').1, Nat.lt_of_lt_of_le (hKU k hk').2 hs⟩, hwf, hvk⟩
theorem Lv.kept {W w : World} {U : Nat → Prop} {k0 k1 : Nat} {q : Ph} {P : Pm} (h : Lv W U k0 k1 q P) (hk : ∀ k, U k ∨ k < k1 → w.heap[k]? = W.heap[k]?) (hs : W.heap.size ≤ w.heap.size) : Lv w U k0 k1 q P :=
  ⟨R_kept h.r (fun k hk' => hk k (by rcases hk' with h | h; exact .inl h; exact .inr h.2)) hs, h.u, h.vs⟩
theorem Lv.nt {W : World} {U : Nat → Prop} {k0 k1 : Nat} {q : Ph} {P : Pm} (h : Lv W U k0 k1 q P) : P.pts.length = q.nt := by
  obtain ⟨S, vl, va, vc, mv, ah, bt, hM, _⟩ := h.r
  have := hM.nt
  rw [show (⟨thsOf P.pts bt, P.n, P.cls, [], P.ws, mv, P.lg, ah⟩ : Ss).ths = thsOf P.pts bt from rfl, thsOf_length] at this
  exact this
theorem live_none {W : World} {U : Nat → Prop} {k0 k1 : Nat} {q : Ph} {P : Pm} (h : Lv W U k0 k1 q P) (x : Int) (hx : (x < 0 ∨ (P.pts.length : Int) ≤ x) ∨ ∃ (i : Nat) (t : Pt), x = i ∧ P.pts[i]? = some t ∧ t.call = -1 ∧ t.tk.busy = false) :
    (Calls Try.prog 25 #[.pointer (some ⟨q.b, 0, none⟩), .int .i64 x] W fun e w' => e = .returned (.tuple #[noCl.val, .bool false]) ∧ Below W.heap.size W w') ∧
    (Calls Try.prog 27 #[.pointer (some ⟨q.b, 0, none⟩), .int .i64 x] W fun e w' => e = .returned (.bool false) ∧ w' = W) := by
  have hn := h.nt
  obtain ⟨S, vl, va, vc, mv, ah, bt, hM, _⟩ := h.r
  rcases hx with hx | ⟨i, t, rfl, ht, hc, hb⟩
  · rw [hn] at hx
    exact ⟨call_no hM x (.inl hx), busy_out hM x hx⟩
  · have hth : (⟨thsOf P.pts bt, P.n, P.cls, [], P.ws, mv, P.lg, ah⟩ : Ss).ths[i]? = some (t.th (bt i)) := by
      show (thsOf P.pts bt)[i]? = _
      rw [thsOf_get, ht]
      rfl
    refine ⟨call_no hM _ (.inr ⟨i, _, rfl, hth, hc⟩), busy_no hM i _ hth ?_⟩
    obtain ⟨tk, fr, call⟩ := t
    cases tk with
    | idle => rfl
    | look ad => cases hb
    | bump ad x ld => cases hb
theorem live_some {W : World} {U : Nat → Prop} {k0 k1 : Nat} {q : Ph} {P : Pm} (h : Lv W U k0 k1 q P) (i c : Nat) (t : Pt) (cl : Cl) (ht : P.pts[i]? = some t) (hc : t.call = c) (hcl : P.cls[c]? = some cl) :
    (Calls Try.prog 25 #[.pointer (some ⟨q.b, 0, none⟩), .int .i64 (i : Int)] W fun e w' => e = .returned (.tuple #[cl.val, .bool true]) ∧ Below W.heap.size W w') ∧
    (Calls Try.prog 27 #[.pointer (some ⟨q.b, 0, none⟩), .int .i64 (i : Int)] W fun e w' => e = .returned (.bool t.tk.busy) ∧ w' = W) := by
  obtain ⟨S, vl, va, vc, mv, ah, bt, hM, _⟩ := h.r
  have hth : (⟨thsOf P.pts bt, P.n, P.cls, [], P.ws, mv, P.lg, ah⟩ : Ss).ths[i]? = some (t.th (bt i)) := by
    show (thsOf P.pts bt)[i]? = _
    rw [thsOf_get, ht]
    rfl
  refine ⟨call_yes hM i _ hth c hc cl hcl, ?_⟩
  obtain ⟨tk, fr, call⟩ := t
  cases tk with
  | idle => exact busy_no hM i _ hth rfl
  | look ad => exact busy_yes hM i _ hth 104 (.pointer (some ⟨bt i, 0, none⟩)) rfl
  | bump ad x ld => exact busy_yes hM i _ hth 108 (.pointer (some ⟨bt i, 0, none⟩)) rfl
end Go.Proofs.Ytglppcoohojmpaa.Rf
