import Derived.Test.YtihkcbbbgmjogaaJ29
import Derived.Test.YtihkcbbbgmjogaaJ31
import Derived.Test.YtihkcbbbgmjogaaJ27
import Derived.Test.YtihkcbbbgmjogaaJ30
/-
  DequeOnce: the matching, pure; a row that is written; quiet.
-/
namespace Go.Proofs.Ytihkcbbbgmjogaa.Dm
open Go.RowKit Go.Shelf Mr Me Ma Gm Dq
set_option linter.unusedVariables false
set_option linter.unusedSimpArgs false
set_option maxRecDepth 100000
theorem perm_head {α : Type} : ∀ (ms : List α) (c : Nat) (x y : α), ms[c]? = some x → (x :: ms.set c y).Perm (y :: ms)
  | [], _, _, _, h => by simp at h
  | z :: zs, 0, x, y, h => by
      simp at h; subst h
      exact List.Perm.swap _ _ _
  | z :: zs, c + 1, x, y, h => by
      have ih := perm_head zs c x y (by simpa using h)
      simp only [List.set_cons_succ]
      exact ((List.Perm.swap _ _ _).trans (ih.cons z)).trans (List.Perm.swap _ _ _)
theorem match_step {l o : List Int} {i a : Nat} {x y : Int} (h : (l.drop i).Perm (o.drop i)) (hx : l[i]? = some x) (hy : o[i]? = some y) (ha : o[a]? = some x) (hia : i ≤ a) : (l.drop (i + 1)).Perm (((o.set i x).set a y).drop (i + 1)) := by
  have e1 : l.drop i = x :: l.drop (i + 1) := by rw [List.drop_eq_getElem_cons (List.getElem?_eq_some_iff.1 hx).1]; congr 1; exact (List.getElem?_eq_some_iff.1 hx).2
  have e2 : o.drop i = y :: o.drop (i + 1) := by rw [List.drop_eq_getElem_cons (List.getElem?_eq_some_iff.1 hy).1]; congr 1; exact (List.getElem?_eq_some_iff.1 hy).2
  rw [e1, e2] at h
  by_cases hai : a = i
  · subst hai
    rw [hy] at ha; cases ha
    rw [List.set_set, List.drop_set_of_lt (by omega)]
    exact List.Perm.cons_inv h
  · have e3 : ((o.set i x).set a y).drop (i + 1) = (o.drop (i + 1)).set (a - (i + 1)) y := by
      rw [List.drop_set, if_neg (by omega), List.drop_set_of_lt (by omega)]
    rw [e3]
    have e4 : (o.drop (i + 1))[a - (i + 1)]? = some x := by rw [List.getElem?_drop, show i + 1 + (a - (i + 1)) = a by omega]; exact ha
    exact List.Perm.cons_inv (h.trans (perm_head _ _ x y e4).symm)
theorem match_find {l o : List Int} {i : Nat} {x : Int} (h : (l.drop i).Perm (o.drop i)) (hx : l[i]? = some x) : ∃ a, i ≤ a ∧ a < o.length ∧ o[a]? = some x := by
  have e1 : l.drop i = x :: l.drop (i + 1) := by rw [List.drop_eq_getElem_cons (List.getElem?_eq_some_iff.1 hx).1]; congr 1; exact (List.getElem?_eq_some_iff.1 hx).2
  have hm : x ∈ o.drop i := h.subset (by rw [e1]; exact List.mem_cons_self)
  obtain ⟨n, hn⟩ := List.mem_iff_getElem?.1 hm
  rw [List.getElem?_drop] at hn
  exact ⟨i + n, by omega, (List.getElem?_eq_some_iff.1 hn).1, hn⟩
theorem inL_step {cls : List Cl} {i : Nat} {x : Cl} (h : cls[i]? = some x) : inL (cls.take (i + 1)) = inL (cls.take i) ++ ci x := by
  rw [take_succ_of h]; simp [inL]
theorem outL_step {cls : List Cl} {i : Nat} {x : Cl} (h : cls[i]? = some x) : outL (cls.take (i + 1)) = outL (cls.take i) ++ co x := by
  rw [take_succ_of h]; simp [outL]
theorem inL_len (cls : List Cl) (i : Nat) : (inL (cls.take i)).length ≤ i := by
  have : ∀ l : List Cl, (inL l).length ≤ l.length := by
    intro l
    induction l with
    | nil => simp [inL]
    | cons a l ih => simp only [inL, List.flatMap_cons, List.length_append, List.length_cons] at ih ⊢; have : (ci a).length ≤ 1 := by { unfold ci; split <;> simp }; omega
  have h := this (cls.take i)
  rw [List.length_take] at h; omega
theorem outL_len (cls : List Cl) (i : Nat) : (outL (cls.take i)).length ≤ i := by
  have : ∀ l : List Cl, (outL l).length ≤ l.length := by
    intro l
    induction l with
    | nil => simp [outL]
    | cons a l ih => simp only [outL, List.flatMap_cons, List.length_append, List.length_cons] at ih ⊢; have : (co a).length ≤ 1 := by { unfold co; split <;> simp }; omega
  have h := this (cls.take i)
  rw [List.length_take] at h; omega
theorem newsOne {w : World} (u : Value) (b : Nat) (h : w.cell? ⟨b, 0, none⟩ = some u) : ∀ j v, [u][j]? = some v → w.cell? ((⟨b, 0, none⟩ : Addr).add j) = some v := by
  intro j v hj
  match j with
  | 0 => simp at hj; subst hj; rw [add1]; exact h
  | j + 1 => simp at hj
/-- A row of its own that is written. -/
theorem has_put {w : World} {S : Nat → Prop} {e : TypeId} {g n cap : Nat} {xs : List Value} (h : Has w S e 1 (.slice (some ⟨g, 0, none⟩) n cap) n xs) (j : Nat) (u : Value) : Has (w.setCell ⟨g, j, none⟩ u) S e 1 (.slice (some ⟨g, 0, none⟩) n cap) n (xs.set j u) := by
  refine ⟨by rw [List.length_set]; exact h.1, ?_⟩
  rcases h.2 with ⟨h1, _⟩ | ⟨g', cap', cur, h1, h2, h3, h4, h5, h6, h7⟩
  · cases h1
  · cases h1
    refine .inr ⟨g, cap, cur.setIfInBounds j u, rfl, h2, setBlk h3 j u, h4, h5, by simpa using h6, ?_⟩
    rw [← h7, Array.toList_setIfInBounds, List.take_set]
/-- quiet: all calls have ended. -/
theorem quiet_nil {w : World} {p1 p2 p3 p4 : Option Addr} {c1 n2 c2 n3 c3 n4 c4 : Nat} :
    Calls Try.prog 13 #[.agg #[.slice p1 0 c1, .slice p2 n2 c2, .slice p3 n3 c3, .slice p4 n4 c4]] w fun e w' => e = .returned (.bool true) ∧ Below w.heap.size w w' := by
  have fin : Hid (∀ o, Below w.heap.size w (w.alloc o)) := Mr.hid (fun o => (Below.refl _ _).alloc (Nat.le_refl _) _)
  go_enter Try.func13, Try.ntmps13
  go_wp2
  go_loopg [3] 0 (fun k s wr => s = .int .i64 0 ∧ wr = w.alloc (.cells #[.slice p1 0 c1, .slice p2 n2 c2, .slice p3 n3 c3, .slice p4 n4 c4] 43 (0, 0)))
  case atStart => exact ⟨rfl, rfl⟩
  case round =>
    obtain ⟨rfl, rfl⟩ := hrel
    go_wp2
    go_ret
    exact ⟨rfl, fin.out _⟩
set_option maxHeartbeats 4000000 in
theorem quiet_some {w : World} {S : Nat → Prop} {g c1 : Nat} {p2 p3 p4 : Option Addr} {n2 c2 n3 c3 n4 c4 : Nat} (cls : List Cl) (hh : Has w S 53 9 (.slice (some ⟨g, 0, none⟩) cls.length c1) cls.length (clc cls)) (hg : g < w.heap.size) (hn : cls.length ≤ 100000) (hz : ∀ (c : Nat) (x : Cl), cls[c]? = some x → 0 ≤ x.fin) :
    Calls Try.prog 13 #[.agg #[.slice (some ⟨g, 0, none⟩) cls.length c1, .slice p2 n2 c2, .slice p3 n3 c3, .slice p4 n4 c4]] w fun e w' => e = .returned (.bool true) ∧ Below w.heap.size w w' := by
  have hc := hh.cells (g := g) rfl
  obtain ⟨W0, hW0⟩ : ∃ W0, w.alloc (.cells #[.slice (some ⟨g, 0, none⟩) cls.length c1, .slice p2 n2 c2, .slice p3 n3 c3, .slice p4 n4 c4] 43 (0, 0)) = W0 := ⟨_, rfl⟩
  have g0 : W0.heap[w.heap.size]? = some (.cells #[.slice (some ⟨g, 0, none⟩) cls.length c1, .slice p2 n2 c2, .slice p3 n3 c3, .slice p4 n4 c4] 43 (0, 0)) := by rw [← hW0]; exact heap_alloc_new w _
  have B0 : Below w.heap.size w W0 := by rw [← hW0]; exact (Below.refl _ _).alloc (Nat.le_refl _) _
  have y0 : W0.cell? ⟨w.heap.size, 0, none⟩ = some (.slice (some ⟨g, 0, none⟩) cls.length c1) := cell_at g0 0
  have s0 : W0.heap.size = w.heap.size + 1 := by rw [← hW0]; simp
  have atc : Hid (∀ (W : World), Below W0.heap.size W0 W → W.cell? ⟨w.heap.size, 0, none⟩ = some (.slice (some ⟨g, 0, none⟩) cls.length c1) ∧ ∀ (i : Nat) (x : Cl), cls[i]? = some x → W.cell? ⟨g, i * 9 + 5, none⟩ = some (.int .i64 x.fin)) := Mr.hid (fun W hB => by
    have lift : ∀ j u, (clc cls)[j]? = some u → W.cell? ⟨g, j, none⟩ = some u := fun j u hu => (hB.cell (p := ⟨g, j, none⟩) (by show g < _; omega)).trans ((B0.cell (p := ⟨g, j, none⟩) hg).trans (hc j u hu))
    exact ⟨(hB.cell (p := ⟨w.heap.size, 0, none⟩) (by show w.heap.size < _; omega)).trans y0, fun i x hx => lift _ _ (clc_at cls i x hx 5 _ rfl (by omega))⟩)
  have hz' := Mr.hid hz
  replace B0 := Mr.hid B0
  replace s0 := Mr.hid s0
  clear hh hc g0 hz
  go_enter Try.func13, Try.ntmps13
  go_wp2
  clear y0
  go_loopg [3] cls.length (fun k s wr => ∃ (i : Nat), s = .int .i64 (i : Int) ∧ i + k = cls.length ∧ Below W0.heap.size W0 wr)
  case atStart => exact ⟨0, rfl, by omega, Below.refl _ _⟩
  case round =>
    obtain ⟨i, rfl, hi, hB⟩ := hrel
    obtain ⟨z, zc⟩ := atc.out wr hB
    by_cases hlt : i < cls.length
    · obtain ⟨x, hx⟩ : ∃ x, cls[i]? = some x := ⟨_, List.getElem?_eq_getElem hlt⟩
      have z5 := zc i x hx
      have hx5 := hz'.out i x hx
      have hil : (i : Int) < (cls.length : Int) := by omega
      have hb2 : decide (x.fin < 0) = false := decide_eq_false (by omega)
      replace hB := Mr.hid hB
      clear hx zc hx5
      go_wp2
      go_roundg (gk - 1)
      case measure => omega
      case rel => exact ⟨i + 1, by simp, by omega, hB.out⟩
    · obtain rfl : i = cls.length := by omega
      have hb := Mr.hid (B0.out.trans (hB.mono (by have := s0.out; omega)))
      clear zc hB
      go_wp2
      go_ret
      exact ⟨rfl, hb.out⟩
theorem quiet_all {w : World} {S : Nat → Prop} {p1 p2 p3 p4 : Option Addr} {n1 c1 n2 c2 n3 c3 n4 c4 : Nat} (cls : List Cl) (hh : Has w S 53 9 (.slice p1 n1 c1) cls.length (clc cls)) (hn : cls.length ≤ 100000) (hz : ∀ (c : Nat) (x : Cl), cls[c]? = some x → 0 ≤ x.fin) :
    Calls Try.prog 13 #[.agg #[.slice p1 n1 c1, .slice p2 n2 c2, .slice p3 n3 c3, .slice p4 n4 c4]] w fun e w' => e = .returned (.bool true) ∧ Below w.heap.size w w' := by
  by_cases h0 : 0 < cls.length
  · obtain ⟨g, cap, e, h1, h2, h3⟩ := hh.there h0
    cases e
    exact quiet_some cls hh h2 hn hz
  · obtain ⟨p, q, e, h1⟩ := hh.form
    cases e
    obtain e0 : cls.length = 0 := by omega
    rw [e0]
    exact quiet_nil
end Go.Proofs.Ytihkcbbbgmjogaa.Dm
/-
  What lies beside the machine in a law; Busy; a store beside it.
-/
namespace Go.Proofs.Ytihkcbbbgmjogaa.Dm
open Go.RowKit Go.Shelf Mr Me Ma Gm Dq
set_option linter.unusedVariables false
set_option linter.unusedSimpArgs false
theorem RG.set {W : World} {U K : Nat → Prop} {q : Ph} {km : Nat} {P : Pg Dt Lw} {L : Gm.Lay Dt Lw} (hR : RG L W U K q km P) (p : Addr) (v : Value) (hU : ¬ U p.block) (hK : ¬ K p.block) : RG L (W.setCell p v) U K q km P := by
  obtain ⟨S, vl, va, vc, mv, ah, tv, X, hM, ha, hah⟩ := hR.ex
  have hs : (W.setCell p v).heap.size = W.heap.size := by simp [World.setCell]
  have hu : ∀ k, U k → (W.setCell p v).heap[k]? = W.heap[k]? := fun k hk => Below.heap_setCell _ _ _ _ (fun e => hU (e ▸ hk))
  exact ⟨⟨S, vl, va, vc, mv, ah, tv, X, ⟨Xs.kept hM.1 (fun k hk _ _ _ => hu k hk) (fun _ h => h) (fun _ _ h => h), hM.2.kept hu (fun _ h => h) (fun k hk => by rw [hs]; exact hM.2.ul k hk)⟩, ha, hah⟩, L.kept hR.kt (fun k hk => Below.heap_setCell _ _ _ _ (fun e => hK (e ▸ hk))), fun k hk => ⟨(hR.ku k hk).1, by rw [hs]; exact (hR.ku k hk).2⟩, hR.vk⟩
section
variable {W : World} {U K : Nat → Prop} {q : Ph} {r bc cs c1 c2 km : Nat} {P : Pg Dt Lw}
theorem busy_out (hR : RG (dqL r bc cs c1 c2) W U K q km P) (x : Int) (hx : x < 0 ∨ (P.pts.length : Int) ≤ x) : Calls Try.prog 11 #[.pointer (some ⟨q.b, 0, none⟩), .int .i64 x] W fun e w' => e = .returned (.bool false) ∧ w' = W := by
  have hnt := nt_g hR
  obtain ⟨S, vl, va, vc, mv, ah, tv, X, hM, ha, hah⟩ := hR.ex
  have C := hasT_no hM x (by show x < 0 ∨ (q.nt : Int) ≤ x; rw [hnt]; exact hx)
  clear hM
  go_enter Try.func11, Try.ntmps11
  go_wp2_with (go_at_call 25; refine C.mono ?_; clear C; rintro e w' ⟨rfl, hw⟩; obtain rfl := hw.symm)
  go_ret
  exact ⟨rfl, rfl⟩
theorem busy_in (hR : RG (dqL r bc cs c1 c2) W U K q km P) (i : Nat) (hi : i < P.pts.length) (hk : tkF P.pts i = none) : Calls Try.prog 11 #[.pointer (some ⟨q.b, 0, none⟩), .int .i64 (i : Int)] W fun e w' => e = .returned (.bool false) ∧ w' = W := by
  obtain ⟨S, vl, va, vc, mv, ah, tv, X, hM, ha, hah⟩ := hR.ex
  obtain ⟨t, ht⟩ : ∃ t, P.pts[i]? = some t := ⟨_, List.getElem?_eq_getElem hi⟩
  have hths : (thsG P.pts tv)[i]? = some ⟨tv i, t.fr, t.call, t.ak, t.av⟩ := by rw [thsG_get, ht]; rfl
  exact Ma.busy_no (q := { q with vc := vc }) hM i _ hths ((dqL r bc cs c1 c2).idle ha i hk)
end
/-- The law's two boxes. -/
structure Bq (w : World) (nt r : Nat) (m0 m1 m2 m3 : Int) (W : World) : Prop where
  c : W.heap[w.heap.size]? = some (dBox nt r)
  m : W.heap[w.heap.size + 1]? = some (mvO m0 m1 m2 m3)
  b : Below w.heap.size w W
section
variable {w W W' : World} {nt r : Nat} {m0 m1 m2 m3 : Int}
theorem Bq.below (h : Bq w nt r m0 m1 m2 m3 W) (hB : Below (w.heap.size + 1 + 1) W W') : Bq w nt r m0 m1 m2 m3 W' :=
  ⟨(hB.block _ (by omega)).trans h.c, (hB.block _ (by omega)).trans h.m, h.b.trans (hB.mono (by omega))⟩
theorem Bq.lt (h : Bq w nt r m0 m1 m2 m3 W) : w.heap.size + 1 + 1 ≤ W.heap.size := by
  have := (Array.getElem?_eq_some_iff.1 h.m).1
  omega
theorem Bq.cells (h : Bq w nt r m0 m1 m2 m3 W) : W.cell? ⟨w.heap.size, 0, none⟩ = some (.int .i64 (nt : Int)) ∧ W.cell? ⟨w.heap.size, 1, none⟩ = some (.int .i64 (r : Int)) ∧ W.cell? ⟨w.heap.size + 1, 0, none⟩ = some (.int .i64 m0) ∧ W.cell? ⟨w.heap.size + 1, 1, none⟩ = some (.int .i64 m1) ∧ W.cell? ⟨w.heap.size + 1, 2, none⟩ = some (.int .i64 m2) ∧ W.cell? ⟨w.heap.size + 1, 3, none⟩ = some (.int .i64 m3) ∧ ∀ j, W.frozen? ⟨w.heap.size + 1, j, none⟩ = false :=
  ⟨cell_at h.c 0, cell_at h.c 1, cell_at h.m 0, cell_at h.m 1, cell_at h.m 2, cell_at h.m 3, fun j => froz_at h.m j⟩
theorem Bq.set (h : Bq w nt r m0 m1 m2 m3 W) (x : Int) : Bq w nt r x m1 m2 m3 (W.setCell ⟨w.heap.size + 1, 0, none⟩ (.int .i64 x)) :=
  ⟨(Below.heap_setCell _ _ _ _ (by simp)).trans h.c, by rw [setBlk h.m 0 _]; rfl, h.b.setCell (p := ⟨w.heap.size + 1, 0, none⟩) (Nat.le_succ _) _⟩
end
/-- The machine in hand, with what lies beside it. -/
def Hq (w : World) (nt r bc cs c1 c2 km : Nat) (K : Nat → Prop) (q : Ph) (m0 m1 m2 m3 : Int) (P : Pg Dt Lw) (W : World) : Prop := ∃ U, RG (dqL r bc cs c1 c2) W U K q km P ∧ (∀ k, U k → w.heap.size + 1 + 1 ≤ k) ∧ Bq w nt r m0 m1 m2 m3 W
section
variable {w W W' : World} {nt r bc cs c1 c2 km : Nat} {K : Nat → Prop} {q : Ph} {m0 m1 m2 m3 : Int} {P : Pg Dt Lw}
theorem Hq.below (h : Hq w nt r bc cs c1 c2 km K q m0 m1 m2 m3 P W) (hB : Below W.heap.size W W') : Hq w nt r bc cs c1 c2 km K q m0 m1 m2 m3 P W' := by
  obtain ⟨U, h1, h2, h3⟩ := h
  exact ⟨U, h1.below hB, h2, h3.below (hB.mono h3.lt)⟩
theorem Hq.bq (h : Hq w nt r bc cs c1 c2 km K q m0 m1 m2 m3 P W) : Bq w nt r m0 m1 m2 m3 W := by obtain ⟨U, h1, h2, h3⟩ := h; exact h3
theorem Hq.move (h : Hq w nt r bc cs c1 c2 km K q m0 m1 m2 m3 P W) (hI : Iv r P) (hb : Bd P) (th op arg data : Int) :
    Calls Try.prog 10 #[.pointer (some ⟨q.b, 0, none⟩), .agg #[.int .i64 th, .int .i64 op, .int .i64 arg, .int .i64 data]] W fun e w' => e = .returned (.bool (P.move (dqY r) th op arg data).2) ∧ Hq w nt r bc cs c1 c2 km K q m0 m1 m2 m3 (P.move (dqY r) th op arg data).1 w' := by
  obtain ⟨U, h1, h2, h3⟩ := h
  refine (move_g (step_d r bc cs c1 c2) (beg_d r bc cs c1 c2) h1 hI hb th op arg data).mono ?_
  rintro e w' ⟨rfl, hO⟩
  obtain ⟨U'', f1, f2, f3⟩ := OutG.next (w := w) (nt := nt) h2 h3.lt hO
  exact ⟨rfl, U'', f1, f2, h3.below f3⟩
theorem Hq.set (h : Hq w nt r bc cs c1 c2 km K q m0 m1 m2 m3 P W) (hK : ∀ k, K k → w.heap.size + 1 + 1 ≤ k) (x : Int) : Hq w nt r bc cs c1 c2 km K q x m1 m2 m3 P (W.setCell ⟨w.heap.size + 1, 0, none⟩ (.int .i64 x)) := by
  obtain ⟨U, h1, h2, h3⟩ := h
  exact ⟨U, Dm.RG.set h1 _ _ (fun hu => by have := h2 _ hu; simp only at this; omega) (fun hu => by have := hK _ hu; simp only at this; omega), h2, h3.set x⟩
theorem Hq.busy_out (h : Hq w nt r bc cs c1 c2 km K q m0 m1 m2 m3 P W) (x : Int) (hx : x < 0 ∨ (P.pts.length : Int) ≤ x) : Calls Try.prog 11 #[.pointer (some ⟨q.b, 0, none⟩), .int .i64 x] W fun e w' => e = .returned (.bool false) ∧ w' = W := by
  obtain ⟨U, h1, h2, h3⟩ := h; exact Dm.busy_out h1 x hx
theorem Hq.busy_in (h : Hq w nt r bc cs c1 c2 km K q m0 m1 m2 m3 P W) (i : Nat) (hi : i < P.pts.length) (hk : tkF P.pts i = none) : Calls Try.prog 11 #[.pointer (some ⟨q.b, 0, none⟩), .int .i64 (i : Int)] W fun e w' => e = .returned (.bool false) ∧ w' = W := by
  obtain ⟨U, h1, h2, h3⟩ := h; exact Dm.busy_in h1 i hi hk
end
/-- deque.New in a law. -/
theorem newH {w : World} {nt r : Nat} {m0 m1 m2 m3 : Int} {W : World} (h : Bq w nt r m0 m1 m2 m3 W) (h1 : 1 ≤ nt) (h2 : nt ≤ 16) (h3 : 1 ≤ r) (h4 : r ≤ 256) : Calls Try.prog 8 #[.agg #[.int .i64 (nt : Int), .int .i64 (r : Int)]] W fun e w' => ∃ bc cs c1 c2 km K q, e = .returned (.tuple #[.pointer (some ⟨q.b, 0, none⟩), .int .i64 0]) ∧ Hq w nt r bc cs c1 c2 km K q m0 m1 m2 m3 (P0 nt r) w' ∧ ∀ k, K k → w.heap.size + 1 + 1 ≤ k := by
  refine (newD_ok W nt r h1 h2 h3 h4).mono ?_
  rintro e w' ⟨q, U, K, km, bc, cs, c1, c2, rfl, hR, hU, hK, hB⟩
  have hl := h.lt
  exact ⟨bc, cs, c1, c2, km, K, q, rfl, ⟨U, hR, fun k hk => Nat.le_trans hl (hU k hk), h.below (hB.mono hl)⟩, fun k hk => Nat.le_trans hl (hK k hk)⟩
/-- fits. -/
theorem fits_any (th rm : Int) (am : Option Addr) (nm cm : Nat) (w : World) : Calls Try.prog 6 #[.agg #[.int .i64 th, .int .i64 rm], .slice am nm cm] w fun e w' => e = .returned (.bool (dqB th rm && decide ((nm : Int) ≤ 65536))) ∧ Below w.heap.size w w' := by
  have CK := Mr.hid (fun w => rCheck_any th rm w)
  have B0 := Mr.hid ((Below.refl w.heap.size w).alloc (Nat.le_refl _) (.cells #[.int .i64 th, .int .i64 rm] 23 (0, 0)))
  have z0 : (w.alloc (.cells #[.int .i64 th, .int .i64 rm] 23 (0, 0))).heap.size = w.heap.size + 1 := by simp
  unfold dV at CK
  generalize dqB th rm = cb at *
  generalize hdb : decide ((nm : Int) ≤ 65536) = db at *
  cases cb with
  | false =>
    go_enter Try.func6, Try.ntmps6
    go_wp2_with (go_at_call 17; refine (CK.out _).mono ?_; clear CK; rintro e w1 ⟨rfl, hB⟩; have hB2 := Mr.hid (B0.out.trans (hB.mono (by omega))); clear hB)
    go_ret
    exact ⟨rfl, hB2.out⟩
  | true =>
    go_enter Try.func6, Try.ntmps6
    go_wp2_with (go_at_call 17; refine (CK.out _).mono ?_; clear CK; rintro e w1 ⟨rfl, hB⟩; have hB2 := Mr.hid (B0.out.trans (hB.mono (by omega))); clear hB)
    go_ret
    exact ⟨rfl, hB2.out⟩
end Go.Proofs.Ytihkcbbbgmjogaa.Dm
