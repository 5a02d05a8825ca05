import Derived.Test.YtglppcoohojmpaaRfKgM
import Derived.Test.YtglppcoohojmpaaJ28
/-
  New and Run of a machine with a kit by its contract; such a machine in a law.
-/
namespace Go.Proofs.Ytglppcoohojmpaa.Rf
open Go.RowKit Go.Shelf Mr Me Ma
set_option linter.unusedVariables false
set_option maxRecDepth 100000 in
set_option maxHeartbeats 1000000 in
theorem newMG (w : World) (nth : Nat) (h1 : 1 ≤ nth) (h2 : nth ≤ 16) (a : Option Addr) (n cap : Nat) (ws : List Int) (hs : Src w a n cap ws) (hn : n ≤ 8192) {K : Nat → Prop} {km lim : Nat} (hK : KG w K km lim) (hKl : ∀ k, K k → k < w.heap.size) :
    Calls Try.prog 8 #[.int .i64 (nth : Int), .slice a n cap, .map (some km)] w fun e w' => ∃ q U, e = .returned (.tuple #[.pointer (some ⟨q.b, 0, none⟩), .int .i64 0]) ∧ RG w' U K q km lim (Pm.new nth ws) ∧ q.vs = .slice none 0 0 ∧ (∀ k, U k → w.heap.size ≤ k) ∧ Below w.heap.size w w' := by
  have N := new_any _ _ _ _ _ hs hn
  have d1 : decide ((nth : Int) < 1) = false := by simp; omega
  have d2 : decide (16 < (nth : Int)) = false := by simp; omega
  have hws : ws.length ≤ 8192 := by have := hs.1; omega
  have RP := fun (w1 : World) => repeat_any (w1.alloc (.cells #[.nilIface, .bool false, .int .i64 (-1), .int .i64 0, .int .i64 0] 93)) w1.heap.size nth h1 h2 (heap_alloc_new w1 _)
  simp only [World.size_alloc] at RP
  replace hs := Mr.hid hs
  replace hK := Mr.hid hK
  go_enter Try.func8, Try.ntmps8
  go_wp2_with (first | (go_at_call 30; refine N.mono ?_; clear N; rintro e w1 ⟨bm, vw, rfl, hM, hB1⟩; have RP1 := RP w1; clear RP) | (go_at_call 31; refine RP1.mono ?_; clear RP1; rintro e w3 ⟨rfl, hT, hB3⟩))
  go_ret2
  have z1 := hB1.size
  have z3 := hB3.size
  obtain ⟨W5, hW5⟩ : ∃ W5, (w3.alloc (.cells #[.pointer (some ⟨bm, 0, none⟩), .slice none 0 0, .slice none 0 0] 96)).alloc (.cells #[.map (some km), .slice (some ⟨w1.heap.size + 1, 0, none⟩) nth nth, .int .i64 0, .pointer (some ⟨w3.heap.size, 0, none⟩)] 98) = W5 := ⟨_, rfl⟩
  have s5 : W5.heap.size = w3.heap.size + 1 + 1 := by rw [← hW5]; simp
  have k5 : ∀ k, k < w3.heap.size → W5.heap[k]? = w3.heap[k]? := fun k hk => by rw [← hW5]; exact (Below.heap_alloc _ _ _ (by simp; omega)).trans (Below.heap_alloc _ _ _ hk)
  have kb : W5.heap[w3.heap.size]? = some (.cells #[.pointer (some ⟨bm, 0, none⟩), .slice none 0 0, .slice none 0 0] 96 (0, 0)) := by rw [← hW5]; exact (Below.heap_alloc _ _ _ (by simp)).trans (heap_alloc_new w3 _)
  have km5 : W5.heap[w3.heap.size + 1]? = some (.cells #[.map (some km), .slice (some ⟨w1.heap.size + 1, 0, none⟩) nth nth, .int .i64 0, .pointer (some ⟨w3.heap.size, 0, none⟩)] 98 (0, 0)) := by
    rw [← hW5]
    have := heap_alloc_new (w3.alloc (.cells #[.pointer (some ⟨bm, 0, none⟩), .slice none 0 0, .slice none 0 0] 96)) (.cells #[.map (some km), .slice (some ⟨w1.heap.size + 1, 0, none⟩) nth nth, .int .i64 0, .pointer (some ⟨w3.heap.size, 0, none⟩)] 98)
    rw [World.size_alloc] at this
    exact this
  have B5 : Below w.heap.size w W5 := by
    rw [← hW5]
    simp only [World.size_alloc] at z3
    have b2 : Below w.heap.size w (w1.alloc (.cells #[.nilIface, .bool false, .int .i64 (-1), .int .i64 0, .int .i64 0] 93)) := hB1.alloc z1 _
    exact ((b2.trans (hB3.mono (by omega))).alloc (by omega) _).alloc (by simp; omega) _
  simp only [World.size_alloc] at z3
  have m5 : ∀ k, k < w1.heap.size → W5.heap[k]? = w1.heap[k]? := fun k hk => (k5 k (by omega)).trans ((hB3.block k (by omega)).trans (Below.heap_alloc _ _ _ hk))
  have u1 : (w.heap.size ≤ w3.heap.size + 1 ∧ w3.heap.size + 1 < W5.heap.size) ∧ ¬ (w.heap.size ≤ w3.heap.size + 1 ∧ w3.heap.size + 1 < w1.heap.size) := by omega
  have u2 : (w.heap.size ≤ w3.heap.size ∧ w3.heap.size < W5.heap.size) ∧ ¬ (w.heap.size ≤ w3.heap.size ∧ w3.heap.size < w1.heap.size) := by omega
  rw [hW5]
  refine ⟨⟨w3.heap.size + 1, w3.heap.size, bm, 0, 0, w1.heap.size + 1, nth, nth, .map (some km), .slice none 0 0, .slice none 0 0, vw⟩, (fun k => w.heap.size ≤ k ∧ k < W5.heap.size), rfl, ⟨(fun k => w.heap.size ≤ k ∧ k < w1.heap.size), .slice none 0 0, .slice none 0 0, .slice none 0 0, 0, [], (fun _ => 0), ⟨?_, ?_⟩, ?_, Nat.le_refl _, ?_, ?_, ?_, rfl⟩, rfl, fun k hk => hk.1, B5⟩
  · rintro k o ⟨j, t, hj, rfl, ho⟩
    rw [new_idle hj] at ho
    cases ho
  · refine ⟨km5, kb, (hM.narrow.kept (fun k _ hk => m5 k hk)), ?_, Has.nil _ _ _ _, Has.nil _ _ _ _, u1, u2, fun k hk => ⟨hk.1, by omega⟩, fun k hk => hk.2⟩
    have e : thsOf (Pm.new nth ws).pts (fun _ => 0) = List.replicate nth idleT := thsOf_new nth _
    simp only [e, List.length_replicate]
    refine hT.kept (fun k hk => k5 k (hT.lt k hk).2) (fun k hk => ?_)
    have h' := hT.lt k hk
    exact ⟨⟨by omega, by omega⟩, fun h => by omega⟩
  · intro i j t u hi hj ht
    rw [new_idle hi] at ht
    cases ht
  · exact hK.out.kept (fun k hk => B5.block k (hKl k hk))
  · intro k hk
    have := hKl k hk
    exact ⟨fun h => by omega, by omega⟩
  · refine ⟨by simp [Pm.new], by simp [Pm.new], by simp [Pm.new], fun i t hi => ?_⟩
    rw [new_idle hi]
    exact ⟨trivial, fun h => by cases h⟩
set_option maxRecDepth 100000 in
set_option maxHeartbeats 1000000 in
theorem runMG {W : World} {U K : Nat → Prop} {q : Ph} {km lim : Nat} {P : Pm} (h : RG W U K q km lim P) (hvs : q.vs = .slice none 0 0) :
    Calls Try.prog 17 #[.pointer (some ⟨q.b, 0, none⟩)] W fun e w' => ∃ v1 v2 v4, e = .returned (runV v1 v2 (.slice none 0 0) v4) ∧ Has w' (fun k => W.heap.size ≤ k) 78 9 v1 P.cls.length (clc P.cls) ∧ Has w' (fun k => W.heap.size ≤ k) 128 7 v2 P.lg.length (lgc P.lg) ∧ Has w' (fun k => W.heap.size ≤ k) 59 1 v4 P.ws.length (wrd P.ws) ∧ Below W.heap.size W w' := by
  obtain ⟨S, vl, va, vc, mv, ah, bt, hM, hinj, hah, hK, hKU, hwf, hvk⟩ := h
  have hB0 := (Below.refl W.heap.size W).alloc (Nat.le_refl _) (.cells #[.slice none 0 0, .slice none 0 0, .slice none 0 0, .slice none 0 0] 53)
  have hM1 := hM.below hB0
  have C := made_yes hM1
  have hm := hM1.2
  simp only [hvs] at hm
  have n1 := hwf.n
  have n2 := hwf.cls
  have n3 := hwf.lg
  have D := run_any hm (by omega) (by omega)
  have m3 := hm.m3
  have hbx : (W.alloc (.cells #[.slice none 0 0, .slice none 0 0, .slice none 0 0, .slice none 0 0] 53)).heap[W.heap.size]? = some (.cells #[.slice none 0 0, .slice none 0 0, .slice none 0 0, .slice none 0 0] 53 (0, 0)) := heap_alloc_new W _
  have hsz : (W.alloc (.cells #[.slice none 0 0, .slice none 0 0, .slice none 0 0, .slice none 0 0] 53)).heap.size = W.heap.size + 1 := by simp
  have cellB := fun (w2 : World) (hB : Below (W.heap.size + 1) (W.alloc (.cells #[.slice none 0 0, .slice none 0 0, .slice none 0 0, .slice none 0 0] 53)) w2) => (show Bx W w2 from ⟨hB0.trans (hB.mono (by omega)), (hB.block _ (by omega)).trans hbx⟩)
  rw [hsz] at D
  replace hM1 := Mr.hid hM1
  replace hm := Mr.hid hm
  replace hM := Mr.hid hM
  clear hbx hsz hK hinj
  go_enter Try.func17, Try.ntmps17
  go_wp2_with (first | (go_at_call 36; refine C.mono ?_; clear C; rintro e w' ⟨rfl, hw⟩; obtain rfl := hw.symm) | (go_at_call 44; refine D.mono ?_; clear D; rintro e w2 ⟨v1, v2, v4, rfl, hv1, hv2, hv4, hB2⟩; have hx2 := cellB w2 hB2; obtain ⟨kc, kz⟩ := hx2.cells; have kc0 := kc 0 (by decide); have kc1 := kc 1 (by decide); have kc2 := kc 2 (by decide); have kc3 := kc 3 (by decide); clear kc; obtain ⟨p1, q1, rfl, _⟩ := hv1.form; obtain ⟨p2, q2, rfl, _⟩ := hv2.form; obtain ⟨p4, q4, rfl, _⟩ := hv4.form; replace hx2 := Mr.hid hx2; unfold runV))
  obtain ⟨W5, hW5⟩ : ∃ W5, (((w2.setCell ⟨W.heap.size, 0, none⟩ (.slice p1 P.cls.length q1)).setCell ⟨W.heap.size, 1, none⟩ (.slice p2 P.lg.length q2)).setCell ⟨W.heap.size, 2, none⟩ (.slice none 0 0)).setCell ⟨W.heap.size, 3, none⟩ (.slice p4 P.ws.length q4) = W5 := ⟨_, rfl⟩
  have hb5 : W5.heap[W.heap.size]? = some (.cells #[.slice p1 P.cls.length q1, .slice p2 P.lg.length q2, .slice none 0 0, .slice p4 P.ws.length q4] 53 (0, 0)) := by
    rw [← hW5, setBlk (setBlk (setBlk (setBlk hx2.out.2 0 _) 1 _) 2 _) 3 _]
    rfl
  have ho5 : ∀ k, k ≠ W.heap.size → W5.heap[k]? = w2.heap[k]? := fun k hk => by
    rw [← hW5, Below.heap_setCell _ _ _ k hk, Below.heap_setCell _ _ _ k hk, Below.heap_setCell _ _ _ k hk, Below.heap_setCell _ _ _ k hk]
  have hB5 : Below W.heap.size W W5 := by
    rw [← hW5]
    exact (((hx2.out.1.setCell (p := ⟨W.heap.size, 0, none⟩) (Nat.le_refl _) _).setCell (p := ⟨W.heap.size, 1, none⟩) (Nat.le_refl _) _).setCell (p := ⟨W.heap.size, 2, none⟩) (Nat.le_refl _) _).setCell (p := ⟨W.heap.size, 3, none⟩) (Nat.le_refl _) _
  have keep : ∀ {e size m : Nat} {v : Value} {xs : List Value}, Has w2 (fun k => W.heap.size + 1 ≤ k) e size v m xs → Has W5 (fun k => W.heap.size ≤ k) e size v m xs := fun {e size m v xs} hh =>
    hh.kept (fun k hk => ho5 k (fun e' => by have := (hh.lt k hk).1; omega)) (fun k hk => by have := (hh.lt k hk).1; omega)
  have d0 : W5.cell? ⟨W.heap.size, 0, none⟩ = some (.slice p1 P.cls.length q1) := by simp [World.cell?, hb5]
  have d1 : W5.cell? ⟨W.heap.size, 1, none⟩ = some (.slice p2 P.lg.length q2) := by simp [World.cell?, hb5]
  have d2 : W5.cell? ⟨W.heap.size, 2, none⟩ = some (.slice none 0 0) := by simp [World.cell?, hb5]
  have d3 : W5.cell? ⟨W.heap.size, 3, none⟩ = some (.slice p4 P.ws.length q4) := by simp [World.cell?, hb5]
  rw [hW5]
  refine bodyPost_ret (v := runV (.slice p1 P.cls.length q1) (.slice p2 P.lg.length q2) (.slice none 0 0) (.slice p4 P.ws.length q4)) (by simp [results, Try.f17, go_sem, d0, d1, d2, d3, runV]) rfl ?_
  exact ⟨_, _, _, rfl, keep hv1, keep hv2, keep hv4, hB5⟩

structure LvG (W : World) (U K : Nat → Prop) (km lim : Nat) (q : Ph) (P : Pm) : Prop where
  r : RG W U K q km lim P
  vs : q.vs = .slice none 0 0
  lm : lim ≤ P.ws.length
theorem LvG.ul {W : World} {U K : Nat → Prop} {km lim : Nat} {q : Ph} {P : Pm} (h : LvG W U K km lim q P) : ∀ k, U k → k < W.heap.size := by
  obtain ⟨S, vl, va, vc, mv, ah, bt, hM, _⟩ := h.r
  exact hM.2.ul
theorem LvG.kept {W w : World} {U K : Nat → Prop} {km lim : Nat} {q : Ph} {P : Pm} (h : LvG W U K km lim q P) (hk : ∀ k, U k ∨ K k → w.heap[k]? = W.heap[k]?) (hs : W.heap.size ≤ w.heap.size) : LvG w U K km lim q P := by
  obtain ⟨⟨S, vl, va, vc, mv, ah, bt, hM, hinj, hah, hK, hKU, hwf, hvk⟩, h2, h3⟩ := h
  exact ⟨⟨S, vl, va, vc, mv, ah, bt, ⟨Xs.kept hM.1 (fun k hU _ _ _ => hk k (.inl hU)) (fun _ h => h) (fun _ _ h => h), hM.2.kept (fun k hU => hk k (.inl hU)) (fun _ h => h) (fun k hU => Nat.lt_of_lt_of_le (hM.2.ul k hU) hs)⟩, hinj, hah, hK.kept (fun k hk' => hk k (.inr hk')), fun k hk' => ⟨(hKU k hk').1, Nat.lt_of_lt_of_le (hKU k hk').2 hs⟩, hwf, hvk⟩, h2, h3⟩
theorem moveL_ws (P : Pm) (lim : Nat) (th op arg data : Int) : (P.moveL lim th op arg data).1.ws.length = P.ws.length := by
  unfold Pm.moveL
  split <;> exact move_ws P _ _ _ _
theorem liveG_move {W : World} {U K : Nat → Prop} {km lim : Nat} {q : Ph} {P : Pm} (h : LvG W U K km lim q P) (th op arg data : Int) : Calls Try.prog 14 #[.pointer (some ⟨q.b, 0, none⟩), .agg #[.int .i64 th, .int .i64 op, .int .i64 arg, .int .i64 data]] W fun e w' => e = .returned (.bool (P.moveL lim th op arg data).2) ∧ ∃ U', LvG w' U' K km lim q (P.moveL lim th op arg data).1 ∧ (∀ k, U' k → U k ∨ W.heap.size ≤ k) ∧ Fr W w' U := by
  refine (move_ownG h.r h.lm th op arg data).mono ?_
  rintro e w' ⟨he, U'', hR', hsub, hup, hf⟩
  exact ⟨he, U'', ⟨hR', h.vs, by rw [moveL_ws]; exact h.lm⟩, hup, hf⟩
theorem liveG_run {W : World} {U K : Nat → Prop} {km lim : Nat} {q : Ph} {P : Pm} (h : LvG W U K km lim q P) : Calls Try.prog 17 #[.pointer (some ⟨q.b, 0, none⟩)] W fun e w' => ∃ v1 v2 v4, e = .returned (runV v1 v2 (.slice none 0 0) v4) ∧ Has w' (fun k => W.heap.size ≤ k) 78 9 v1 P.cls.length (clc P.cls) ∧ Has w' (fun k => W.heap.size ≤ k) 128 7 v2 P.lg.length (lgc P.lg) ∧ Has w' (fun k => W.heap.size ≤ k) 59 1 v4 P.ws.length (wrd P.ws) ∧ Below W.heap.size W w' :=
  runMG h.r h.vs
end Go.Proofs.Ytglppcoohojmpaa.Rf
