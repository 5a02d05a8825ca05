import Derived.Test.YtedaoljmcfbbpaaGreatJ34
import Derived.Test.YtedaoljmcfbbpaaGreatJ28
/-
  What lies beside the machine in a law; Busy; a store beside it.
-/
namespace Go.Proofs.YtedaoljmcfbbpaaGreat.Dm
open Go.RowKit Go.Shelf Mr Me Ma Gm Dq
set_option linter.unusedVariables false
set_option linter.unusedSimpArgs false
theorem RG.set {W : World} {U K : Nat → Prop} {q : Ma.Ph} {km : Nat} {P : Pg Dt Lw} {L : Gm.Lay Dt Lw} (hR : RG L W U K q km P) (p : Addr) (v : Value) (hU : ¬ U p.block) (hK : ¬ K p.block) : RG L (W.setCell p v) U K q km P := by
  obtain ⟨S, vl, va, vc, mv, ah, tv, X, hM, ha, hah⟩ := hR.ex
  have hs : (W.setCell p v).heap.size = W.heap.size := by simp [World.setCell]
  have hu : ∀ k, U k → (W.setCell p v).heap[k]? = W.heap[k]? := fun k hk => Below.heap_setCell _ _ _ _ (fun e => hU (e ▸ hk))
  exact ⟨⟨S, vl, va, vc, mv, ah, tv, X, ⟨Xs.kept hM.1 (fun k hk _ _ _ => hu k hk) (fun _ h => h) (fun _ _ h => h), hM.2.kept hu (fun _ h => h) (fun k hk => by rw [hs]; exact hM.2.ul k hk)⟩, ha, hah⟩, L.kept hR.kt (fun k hk => Below.heap_setCell _ _ _ _ (fun e => hK (e ▸ hk))), fun k hk => ⟨(hR.ku k hk).1, by rw [hs]; exact (hR.ku k hk).2⟩, hR.vk⟩
section
variable {W : World} {U K : Nat → Prop} {q : Ma.Ph} {r bc cs c1 c2 km : Nat} {P : Pg Dt Lw}
theorem busy_out (hR : RG (dqL r bc cs c1 c2) W U K q km P) (x : Int) (hx : x < 0 ∨ (P.pts.length : Int) ≤ x) : Calls Tryz.prog 38 #[.pointer (some ⟨q.b, 0, none⟩), .int .i64 x] W fun e w' => e = .returned (.bool false) ∧ w' = W := by
  have hnt := nt_g hR
  obtain ⟨S, vl, va, vc, mv, ah, tv, X, hM, ha, hah⟩ := hR.ex
  have C := hasT_no hM x (by show x < 0 ∨ (q.nt : Int) ≤ x; rw [hnt]; exact hx)
  clear hM
  go_enter Tryz.func38, Tryz.ntmps38
  go_wp2_with (go_at_call 36; refine C.mono ?_; clear C; rintro e w' ⟨rfl, hw⟩; obtain rfl := hw.symm)
  go_ret
  exact ⟨rfl, rfl⟩
theorem busy_in (hR : RG (dqL r bc cs c1 c2) W U K q km P) (i : Nat) (hi : i < P.pts.length) (hk : tkF P.pts i = none) : Calls Tryz.prog 38 #[.pointer (some ⟨q.b, 0, none⟩), .int .i64 (i : Int)] W fun e w' => e = .returned (.bool false) ∧ w' = W := by
  obtain ⟨S, vl, va, vc, mv, ah, tv, X, hM, ha, hah⟩ := hR.ex
  obtain ⟨t, ht⟩ : ∃ t, P.pts[i]? = some t := ⟨_, List.getElem?_eq_getElem hi⟩
  have hths : (thsG P.pts tv)[i]? = some ⟨tv i, t.fr, t.call, t.ak, t.av⟩ := by rw [thsG_get, ht]; rfl
  exact Ma.busy_no (q := { q with vc := vc }) hM i _ hths ((dqL r bc cs c1 c2).idle ha i hk)
end
/-- The law's two boxes. -/
structure Bq (w : World) (nt r : Nat) (m0 m1 m2 m3 : Int) (W : World) : Prop where
  c : W.heap[w.heap.size]? = some (dBox nt r)
  m : W.heap[w.heap.size + 1]? = some (mvO m0 m1 m2 m3)
  b : Below w.heap.size w W
section
variable {w W W' : World} {nt r : Nat} {m0 m1 m2 m3 : Int}
theorem Bq.below (h : Bq w nt r m0 m1 m2 m3 W) (hB : Below (w.heap.size + 1 + 1) W W') : Bq w nt r m0 m1 m2 m3 W' :=
  ⟨(hB.block _ (by omega)).trans h.c, (hB.block _ (by omega)).trans h.m, h.b.trans (hB.mono (by omega))⟩
theorem Bq.lt (h : Bq w nt r m0 m1 m2 m3 W) : w.heap.size + 1 + 1 ≤ W.heap.size := by
  have := (Array.getElem?_eq_some_iff.1 h.m).1
  omega
theorem Bq.cells (h : Bq w nt r m0 m1 m2 m3 W) : W.cell? ⟨w.heap.size, 0, none⟩ = some (.int .i64 (nt : Int)) ∧ W.cell? ⟨w.heap.size, 1, none⟩ = some (.int .i64 (r : Int)) ∧ W.cell? ⟨w.heap.size + 1, 0, none⟩ = some (.int .i64 m0) ∧ W.cell? ⟨w.heap.size + 1, 1, none⟩ = some (.int .i64 m1) ∧ W.cell? ⟨w.heap.size + 1, 2, none⟩ = some (.int .i64 m2) ∧ W.cell? ⟨w.heap.size + 1, 3, none⟩ = some (.int .i64 m3) ∧ ∀ j, W.frozen? ⟨w.heap.size + 1, j, none⟩ = false :=
  ⟨cell_at h.c 0, cell_at h.c 1, cell_at h.m 0, cell_at h.m 1, cell_at h.m 2, cell_at h.m 3, fun j => froz_at h.m j⟩
theorem Bq.set (h : Bq w nt r m0 m1 m2 m3 W) (x : Int) : Bq w nt r x m1 m2 m3 (W.setCell ⟨w.heap.size + 1, 0, none⟩ (.int .i64 x)) :=
  ⟨(Below.heap_setCell _ _ _ _ (by simp)).trans h.c, by rw [setBlk h.m 0 _]; rfl, h.b.setCell (p := ⟨w.heap.size + 1, 0, none⟩) (Nat.le_succ _) _⟩
end
/-- The machine in hand, with what lies beside it. -/
def Hq (w : World) (nt r bc cs c1 c2 km : Nat) (K : Nat → Prop) (q : Ma.Ph) (m0 m1 m2 m3 : Int) (P : Pg Dt Lw) (W : World) : Prop := ∃ U, RG (dqL r bc cs c1 c2) W U K q km P ∧ (∀ k, U k → w.heap.size + 1 + 1 ≤ k) ∧ Bq w nt r m0 m1 m2 m3 W
section
variable {w W W' : World} {nt r bc cs c1 c2 km : Nat} {K : Nat → Prop} {q : Ma.Ph} {m0 m1 m2 m3 : Int} {P : Pg Dt Lw}
theorem Hq.below (h : Hq w nt r bc cs c1 c2 km K q m0 m1 m2 m3 P W) (hB : Below W.heap.size W W') : Hq w nt r bc cs c1 c2 km K q m0 m1 m2 m3 P W' := by
  obtain ⟨U, h1, h2, h3⟩ := h
  exact ⟨U, h1.below hB, h2, h3.below (hB.mono h3.lt)⟩
theorem Hq.bq (h : Hq w nt r bc cs c1 c2 km K q m0 m1 m2 m3 P W) : Bq w nt r m0 m1 m2 m3 W := by obtain ⟨U, h1, h2, h3⟩ := h; exact h3
theorem Hq.move (h : Hq w nt r bc cs c1 c2 km K q m0 m1 m2 m3 P W) (hI : Iv r P) (hb : Bd P) (th op arg data : Int) :
    Calls Tryz.prog 24 #[.pointer (some ⟨q.b, 0, none⟩), .agg #[.int .i64 th, .int .i64 op, .int .i64 arg, .int .i64 data]] W fun e w' => e = .returned (.bool (P.move (dqY r) th op arg data).2) ∧ Hq w nt r bc cs c1 c2 km K q m0 m1 m2 m3 (P.move (dqY r) th op arg data).1 w' := by
  obtain ⟨U, h1, h2, h3⟩ := h
  refine (move_g (step_d r bc cs c1 c2) (beg_d r bc cs c1 c2) h1 hI hb th op arg data).mono ?_
  rintro e w' ⟨rfl, hO⟩
  obtain ⟨U'', f1, f2, f3⟩ := OutG.next (w := w) (nt := nt) h2 h3.lt hO
  exact ⟨rfl, U'', f1, f2, h3.below f3⟩
theorem Hq.set (h : Hq w nt r bc cs c1 c2 km K q m0 m1 m2 m3 P W) (hK : ∀ k, K k → w.heap.size + 1 + 1 ≤ k) (x : Int) : Hq w nt r bc cs c1 c2 km K q x m1 m2 m3 P (W.setCell ⟨w.heap.size + 1, 0, none⟩ (.int .i64 x)) := by
  obtain ⟨U, h1, h2, h3⟩ := h
  exact ⟨U, Dm.RG.set h1 _ _ (fun hu => by have := h2 _ hu; simp only at this; omega) (fun hu => by have := hK _ hu; simp only at this; omega), h2, h3.set x⟩
theorem Hq.busy_out (h : Hq w nt r bc cs c1 c2 km K q m0 m1 m2 m3 P W) (x : Int) (hx : x < 0 ∨ (P.pts.length : Int) ≤ x) : Calls Tryz.prog 38 #[.pointer (some ⟨q.b, 0, none⟩), .int .i64 x] W fun e w' => e = .returned (.bool false) ∧ w' = W := by
  obtain ⟨U, h1, h2, h3⟩ := h; exact Dm.busy_out h1 x hx
theorem Hq.busy_in (h : Hq w nt r bc cs c1 c2 km K q m0 m1 m2 m3 P W) (i : Nat) (hi : i < P.pts.length) (hk : tkF P.pts i = none) : Calls Tryz.prog 38 #[.pointer (some ⟨q.b, 0, none⟩), .int .i64 (i : Int)] W fun e w' => e = .returned (.bool false) ∧ w' = W := by
  obtain ⟨U, h1, h2, h3⟩ := h; exact Dm.busy_in h1 i hi hk
end
/-- deque.New in a law. -/
theorem newH {w : World} {nt r : Nat} {m0 m1 m2 m3 : Int} {W : World} (h : Bq w nt r m0 m1 m2 m3 W) (h1 : 1 ≤ nt) (h2 : nt ≤ 16) (h3 : 1 ≤ r) (h4 : r ≤ 256) : Calls Tryz.prog 23 #[.agg #[.int .i64 (nt : Int), .int .i64 (r : Int)]] W fun e w' => ∃ bc cs c1 c2 km K q, e = .returned (.tuple #[.pointer (some ⟨q.b, 0, none⟩), .int .i64 0]) ∧ Hq w nt r bc cs c1 c2 km K q m0 m1 m2 m3 (P0 nt r) w' ∧ ∀ k, K k → w.heap.size + 1 + 1 ≤ k := by
  refine (newD_ok W nt r h1 h2 h3 h4).mono ?_
  rintro e w' ⟨q, U, K, km, bc, cs, c1, c2, rfl, hR, hU, hK, hB⟩
  have hl := h.lt
  exact ⟨bc, cs, c1, c2, km, K, q, rfl, ⟨U, hR, fun k hk => Nat.le_trans hl (hU k hk), h.below (hB.mono hl)⟩, fun k hk => Nat.le_trans hl (hK k hk)⟩
/-- fits. -/
theorem fits_any (th rm : Int) (am : Option Addr) (nm cm : Nat) (w : World) : Calls Tryz.prog 4 #[.agg #[.int .i64 th, .int .i64 rm], .slice am nm cm] w fun e w' => e = .returned (.bool (dqB th rm && decide ((nm : Int) ≤ 65536))) ∧ Below w.heap.size w w' := by
  have CK := Mr.hid (fun w => rCheck_any th rm w)
  have B0 := Mr.hid ((Below.refl w.heap.size w).alloc (Nat.le_refl _) (.cells #[.int .i64 th, .int .i64 rm] 23 (0, 0)))
  have z0 : (w.alloc (.cells #[.int .i64 th, .int .i64 rm] 23 (0, 0))).heap.size = w.heap.size + 1 := by simp
  unfold dV at CK
  generalize dqB th rm = cb at *
  generalize hdb : decide ((nm : Int) ≤ 65536) = db at *
  cases cb with
  | false =>
    go_enter Tryz.func4, Tryz.ntmps4
    go_wp2_with (go_at_call 13; refine (CK.out _).mono ?_; clear CK; rintro e w1 ⟨rfl, hB⟩; have hB2 := Mr.hid (B0.out.trans (hB.mono (by omega))); clear hB)
    go_ret
    exact ⟨rfl, hB2.out⟩
  | true =>
    go_enter Tryz.func4, Tryz.ntmps4
    go_wp2_with (go_at_call 13; refine (CK.out _).mono ?_; clear CK; rintro e w1 ⟨rfl, hB⟩; have hB2 := Mr.hid (B0.out.trans (hB.mono (by omega))); clear hB)
    go_ret
    exact ⟨rfl, hB2.out⟩
end Go.Proofs.YtedaoljmcfbbpaaGreat.Dm
