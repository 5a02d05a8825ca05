import Derived.Test.YtihkcbbbgmjogaaJ26
import Derived.Test.YtihkcbbbgmjogaaJ27
/-
  DequeAlone, pure: a call that is alone ends within seven steps.
-/
namespace Go.Proofs.Ytihkcbbbgmjogaa.Dm
open Go.RowKit Go.Shelf Mr Me Ma Gm Dq
set_option linter.unusedVariables false
set_option linter.unusedSimpArgs false
/-- Steps left. -/
def mu (top : Int) : Dt → Nat
  | .push nx _ _ => 5 - nx
  | .take nx _ _ _ => if nx = 4 then 1 else if nx ≤ 3 then 7 - nx else 8 - nx
  | .steal nx t _ => if nx = 1 then 4 else if t = top then 5 - nx else 9 - nx
theorem mu_le {top : Int} {i n : Nat} {k : Dt} (h : Ok i n k) : 1 ≤ mu top k ∧ mu top k ≤ 7 := by
  cases k <;> simp only [Ok] at h <;> simp only [mu]
  · omega
  · split
    · omega
    · split <;> omega
  · split
    · omega
    · split <;> omega
theorem mu_step {r : Nat} {P : Pg Dt Lw} (h : Iv r P) (hn : P.n < 65536) {i : Nat} {t : Pt Dt} {k : Dt} (ht : P.pts[i]? = some t) (hk : t.tk = some k) (now : Int) (fr : Bool) : ∀ k', (stp r fr i now P.ws P.g k).tk = some k' → mu (rd (stp r fr i now P.ws P.g k).ws 0) k' < mu (rd P.ws 0) k := by
  have hok := h.tsk i t k ht hk
  obtain ⟨hl, r1, r2, ⟨t1, t2⟩, ⟨b, b1, b2, b3, b4⟩, _⟩ := h
  have w0 : wrap64 (rd P.ws 0) = rd P.ws 0 := w64_id _ t1 (by omega)
  have l0 : 0 < P.ws.length := by omega
  intro k' e
  cases k with
  | push nx v bt =>
    simp only [Ok] at hok
    obtain rfl | rfl | rfl | rfl : nx = 1 ∨ nx = 2 ∨ nx = 3 ∨ nx = 4 := by omega
    · cases e; show 5 - 2 < 5 - 1; omega
    · by_cases hy : (r : Int) ≤ bt - wrap64 (rd P.ws 0)
      · have e2 : stp r fr i now P.ws P.g (.push 2 v bt) = _ := if_pos hy
        rw [e2] at e; cases e
      · have e2 : stp r fr i now P.ws P.g (.push 2 v bt) = _ := if_neg hy
        rw [e2] at e ⊢; cases e; show 5 - 3 < 5 - 2; omega
    · cases e; show 5 - 4 < 5 - 3; omega
    · cases e
  | take nx l tt v =>
    simp only [Ok] at hok
    obtain rfl | rfl | rfl | rfl | rfl | rfl | rfl : nx = 1 ∨ nx = 2 ∨ nx = 3 ∨ nx = 4 ∨ nx = 5 ∨ nx = 6 ∨ nx = 7 := by omega
    · cases e; simp [mu]
    · cases e; simp [mu]
    · by_cases hy : l < wrap64 (rd P.ws 0)
      · have e2 : stp r fr i now P.ws P.g (.take 3 l tt v) = _ := if_pos hy
        rw [e2] at e ⊢; cases e; simp [mu]
      · have e2 : stp r fr i now P.ws P.g (.take 3 l tt v) = _ := if_neg hy
        rw [e2] at e ⊢; cases e; simp [mu]
    · cases e
    · by_cases hy : tt < l
      · have e2 : stp r fr i now P.ws P.g (.take 5 l tt v) = _ := if_pos hy
        rw [e2] at e; cases e
      · have e2 : stp r fr i now P.ws P.g (.take 5 l tt v) = _ := if_neg hy
        rw [e2] at e ⊢; cases e; simp [mu]
    · by_cases hy : rd P.ws 0 = tt
      · have e2 : stp r fr i now P.ws P.g (.take 6 l tt v) = _ := if_pos hy
        rw [e2] at e ⊢; cases e; simp [mu]
      · have e2 : stp r fr i now P.ws P.g (.take 6 l tt v) = _ := if_neg hy
        rw [e2] at e ⊢; cases e; simp [mu]
    · cases e
  | steal nx tt v =>
    simp only [Ok] at hok
    obtain rfl | rfl | rfl | rfl : nx = 1 ∨ nx = 2 ∨ nx = 3 ∨ nx = 4 := by omega
    · cases e
      show mu (rd P.ws 0) (.steal 2 (wrap64 (rd P.ws 0)) v) < _
      rw [w0]; simp [mu]
    · by_cases hy : wrap64 (rd P.ws 1) - tt ≤ 0
      · have e2 : stp r fr i now P.ws P.g (.steal 2 tt v) = _ := if_pos hy
        rw [e2] at e; cases e
      · have e2 : stp r fr i now P.ws P.g (.steal 2 tt v) = _ := if_neg hy
        rw [e2] at e ⊢; cases e
        show mu (rd P.ws 0) (.steal 3 tt v) < mu (rd P.ws 0) (.steal 2 tt v)
        simp only [mu]
        by_cases hz : tt = rd P.ws 0 <;> simp [hz]
    · cases e
      show mu (rd P.ws 0) (.steal 4 tt _) < mu (rd P.ws 0) (.steal 3 tt v)
      simp only [mu]
      by_cases hz : tt = rd P.ws 0 <;> simp [hz]
    · by_cases hy : rd P.ws 0 = tt
      · have e2 : stp r fr i now P.ws P.g (.steal 4 tt v) = _ := if_pos hy
        rw [e2] at e; cases e
      · have e2 : stp r fr i now P.ws P.g (.steal 4 tt v) = _ := if_neg hy
        rw [e2] at e ⊢; cases e
        show mu (rd P.ws 0) (.steal 1 tt v) < mu (rd P.ws 0) (.steal 4 tt v)
        have hz : ¬ tt = rd P.ws 0 := fun e => hy e.symm
        simp [mu, hz]
/-- Steps left to a thread. -/
def lf (P : Pg Dt Lw) (i : Nat) : Nat := match tkF P.pts i with | some k => mu (rd P.ws 0) k | none => 0
theorem lf_le {r : Nat} {P : Pg Dt Lw} (h : Iv r P) (i : Nat) : lf P i ≤ 7 := by
  unfold lf tkF
  cases ht : P.pts[i]? with
  | none => exact Nat.zero_le _
  | some t =>
    cases hk : t.tk with
    | none => simp [hk]
    | some k => simp only [Option.bind_some, hk]; exact (mu_le (h.tsk i t k ht hk)).2
/-- A step of a thread that is alone. -/
theorem lf_step {r : Nat} {P : Pg Dt Lw} (h : Iv r P) (hn : P.n < 65536) {i : Nat} (hi : i < P.pts.length) (arg data : Int) : lf (P.move (dqY r) (i : Int) 0 arg data).1 i ≤ lf P i - 1 := by
  obtain ⟨t, ht⟩ : ∃ t, P.pts[i]? = some t := ⟨_, List.getElem?_eq_getElem hi⟩
  have em : P.move (dqY r) (i : Int) 0 arg data = P.count.step (dqY r) i t P.n := by
    unfold Pg.move
    rw [if_neg (by omega), if_pos ⟨by omega, by omega⟩, Int.toNat_natCast, ht]
    rfl
  rw [em]
  cases hk : t.tk with
  | none =>
    have e : P.count.step (dqY r) i t P.n = (P.count, false) := by simp [Pg.step, hk]
    have e0 : lf P i = 0 := by unfold lf; rw [tkF_at ht, hk]
    have e1 : lf P.count i = lf P i := rfl
    rw [e]; show lf P.count i ≤ _; omega
  | some k =>
    have e : P.count.step (dqY r) i t P.n = (P.count.stepE i t P.n (stp r t.fr i P.n P.ws P.g k), true) := by simp [Pg.step, hk, Pg.count, dqY]
    have e0 : lf P i = mu (rd P.ws 0) k := by unfold lf; rw [tkF_at ht, hk]
    have ms := mu_step h hn ht hk P.n t.fr
    rw [e]
    generalize stp r t.fr i P.n P.ws P.g k = ef at *
    show lf (P.count.stepE i t P.n ef) i ≤ _
    rw [e0]
    have hs : ∀ u : Pt Dt, tkF (P.pts.set i u) i = u.tk := fun u => by rw [tkF_set _ _ _ hi, upd_same]
    unfold Pg.stepE
    cases he : ef.tk with
    | some k' =>
      have := ms k' he
      unfold lf
      show (match tkF (P.pts.set i _) i with | some k => mu (rd ef.ws 0) k | none => 0) ≤ _
      rw [hs]
      show mu (rd ef.ws 0) k' ≤ _
      omega
    | none =>
      unfold lf
      show (match tkF (P.pts.set i _) i with | some k => mu (rd ef.ws 0) k | none => 0) ≤ _
      rw [hs]
      exact Nat.zero_le _
/-- n steps. -/
def stN (r : Nat) (P : Pg Dt Lw) (i : Nat) : Nat → Pg Dt Lw
  | 0 => P
  | n + 1 => ((stN r P i n).move (dqY r) (i : Int) 0 0 0).1
theorem stN_succ (r : Nat) (P : Pg Dt Lw) (i n : Nat) : stN r P i (n + 1) = ((stN r P i n).move (dqY r) (i : Int) 0 0 0).1 := rfl
theorem stN_all {r : Nat} {P : Pg Dt Lw} (h : Iv r P) (hb : Bd P) {i : Nat} (hi : i < P.pts.length) (n : Nat) (hn : P.n + n ≤ 65536) : Iv r (stN r P i n) ∧ Bd (stN r P i n) ∧ (stN r P i n).pts.length = P.pts.length ∧ (stN r P i n).n ≤ P.n + n ∧ lf (stN r P i n) i ≤ lf P i - n := by
  induction n with
  | zero => exact ⟨h, hb, rfl, Nat.le_refl _, Nat.le_refl _⟩
  | succ n ih =>
    obtain ⟨h1, h2, h3, h4, h5⟩ := ih (by omega)
    rw [stN_succ]
    generalize stN r P i n = Q at *
    have e1 := mv_n (r := r) Q (i : Int) 0 0 0
    have e2 := lf_step h1 (by omega) (i := i) (by omega) 0 0
    exact ⟨h1.move _ _ _ _, mv_bd h2 _ _ _ _, (move_pts _ _ _ _ _).trans h3, by omega, by omega⟩
/-- After seven the thread is in no call. -/
theorem st7 {r : Nat} {P : Pg Dt Lw} (h : Iv r P) (hb : Bd P) {i : Nat} (hi : i < P.pts.length) (hn : P.n + 7 ≤ 65536) : tkF (stN r P i 7).pts i = none := by
  obtain ⟨h1, h2, h3, h4, h5⟩ := stN_all h hb hi 7 hn
  have h6 := lf_le h i
  generalize stN r P i 7 = Q at *
  have h7 : lf Q i = 0 := by omega
  obtain ⟨t, ht⟩ : ∃ t, Q.pts[i]? = some t := ⟨_, List.getElem?_eq_getElem (by omega)⟩
  rw [tkF_at ht]
  cases hk : t.tk with
  | none => rfl
  | some k =>
    have e0 : lf Q i = mu (rd Q.ws 0) k := by unfold lf; rw [tkF_at ht, hk]
    have := (mu_le (top := rd Q.ws 0) (h1.tsk i t k ht hk)).1
    omega
end Go.Proofs.Ytihkcbbbgmjogaa.Dm
/-
  What lies beside the machine in a law; Busy; a store beside it.
-/
namespace Go.Proofs.Ytihkcbbbgmjogaa.Dm
open Go.RowKit Go.Shelf Mr Me Ma Gm Dq
set_option linter.unusedVariables false
set_option linter.unusedSimpArgs false
theorem RG.set {W : World} {U K : Nat → Prop} {q : Ph} {km : Nat} {P : Pg Dt Lw} {L : Gm.Lay Dt Lw} (hR : RG L W U K q km P) (p : Addr) (v : Value) (hU : ¬ U p.block) (hK : ¬ K p.block) : RG L (W.setCell p v) U K q km P := by
  obtain ⟨S, vl, va, vc, mv, ah, tv, X, hM, ha, hah⟩ := hR.ex
  have hs : (W.setCell p v).heap.size = W.heap.size := by simp [World.setCell]
  have hu : ∀ k, U k → (W.setCell p v).heap[k]? = W.heap[k]? := fun k hk => Below.heap_setCell _ _ _ _ (fun e => hU (e ▸ hk))
  exact ⟨⟨S, vl, va, vc, mv, ah, tv, X, ⟨Xs.kept hM.1 (fun k hk _ _ _ => hu k hk) (fun _ h => h) (fun _ _ h => h), hM.2.kept hu (fun _ h => h) (fun k hk => by rw [hs]; exact hM.2.ul k hk)⟩, ha, hah⟩, L.kept hR.kt (fun k hk => Below.heap_setCell _ _ _ _ (fun e => hK (e ▸ hk))), fun k hk => ⟨(hR.ku k hk).1, by rw [hs]; exact (hR.ku k hk).2⟩, hR.vk⟩
section
variable {W : World} {U K : Nat → Prop} {q : Ph} {r bc cs c1 c2 km : Nat} {P : Pg Dt Lw}
theorem busy_out (hR : RG (dqL r bc cs c1 c2) W U K q km P) (x : Int) (hx : x < 0 ∨ (P.pts.length : Int) ≤ x) : Calls Try.prog 11 #[.pointer (some ⟨q.b, 0, none⟩), .int .i64 x] W fun e w' => e = .returned (.bool false) ∧ w' = W := by
  have hnt := nt_g hR
  obtain ⟨S, vl, va, vc, mv, ah, tv, X, hM, ha, hah⟩ := hR.ex
  have C := hasT_no hM x (by show x < 0 ∨ (q.nt : Int) ≤ x; rw [hnt]; exact hx)
  clear hM
  go_enter Try.func11, Try.ntmps11
  go_wp2_with (go_at_call 25; refine C.mono ?_; clear C; rintro e w' ⟨rfl, hw⟩; obtain rfl := hw.symm)
  go_ret
  exact ⟨rfl, rfl⟩
theorem busy_in (hR : RG (dqL r bc cs c1 c2) W U K q km P) (i : Nat) (hi : i < P.pts.length) (hk : tkF P.pts i = none) : Calls Try.prog 11 #[.pointer (some ⟨q.b, 0, none⟩), .int .i64 (i : Int)] W fun e w' => e = .returned (.bool false) ∧ w' = W := by
  obtain ⟨S, vl, va, vc, mv, ah, tv, X, hM, ha, hah⟩ := hR.ex
  obtain ⟨t, ht⟩ : ∃ t, P.pts[i]? = some t := ⟨_, List.getElem?_eq_getElem hi⟩
  have hths : (thsG P.pts tv)[i]? = some ⟨tv i, t.fr, t.call, t.ak, t.av⟩ := by rw [thsG_get, ht]; rfl
  exact Ma.busy_no (q := { q with vc := vc }) hM i _ hths ((dqL r bc cs c1 c2).idle ha i hk)
end
/-- The law's two boxes. -/
structure Bq (w : World) (nt r : Nat) (m0 m1 m2 m3 : Int) (W : World) : Prop where
  c : W.heap[w.heap.size]? = some (dBox nt r)
  m : W.heap[w.heap.size + 1]? = some (mvO m0 m1 m2 m3)
  b : Below w.heap.size w W
section
variable {w W W' : World} {nt r : Nat} {m0 m1 m2 m3 : Int}
theorem Bq.below (h : Bq w nt r m0 m1 m2 m3 W) (hB : Below (w.heap.size + 1 + 1) W W') : Bq w nt r m0 m1 m2 m3 W' :=
  ⟨(hB.block _ (by omega)).trans h.c, (hB.block _ (by omega)).trans h.m, h.b.trans (hB.mono (by omega))⟩
theorem Bq.lt (h : Bq w nt r m0 m1 m2 m3 W) : w.heap.size + 1 + 1 ≤ W.heap.size := by
  have := (Array.getElem?_eq_some_iff.1 h.m).1
  omega
theorem Bq.cells (h : Bq w nt r m0 m1 m2 m3 W) : W.cell? ⟨w.heap.size, 0, none⟩ = some (.int .i64 (nt : Int)) ∧ W.cell? ⟨w.heap.size, 1, none⟩ = some (.int .i64 (r : Int)) ∧ W.cell? ⟨w.heap.size + 1, 0, none⟩ = some (.int .i64 m0) ∧ W.cell? ⟨w.heap.size + 1, 1, none⟩ = some (.int .i64 m1) ∧ W.cell? ⟨w.heap.size + 1, 2, none⟩ = some (.int .i64 m2) ∧ W.cell? ⟨w.heap.size + 1, 3, none⟩ = some (.int .i64 m3) ∧ ∀ j, W.frozen? ⟨w.heap.size + 1, j, none⟩ = false :=
  ⟨cell_at h.c 0, cell_at h.c 1, cell_at h.m 0, cell_at h.m 1, cell_at h.m 2, cell_at h.m 3, fun j => froz_at h.m j⟩
theorem Bq.set (h : Bq w nt r m0 m1 m2 m3 W) (x : Int) : Bq w nt r x m1 m2 m3 (W.setCell ⟨w.heap.size + 1, 0, none⟩ (.int .i64 x)) :=
  ⟨(Below.heap_setCell _ _ _ _ (by simp)).trans h.c, by rw [setBlk h.m 0 _]; rfl, h.b.setCell (p := ⟨w.heap.size + 1, 0, none⟩) (Nat.le_succ _) _⟩
end
/-- The machine in hand, with what lies beside it. -/
def Hq (w : World) (nt r bc cs c1 c2 km : Nat) (K : Nat → Prop) (q : Ph) (m0 m1 m2 m3 : Int) (P : Pg Dt Lw) (W : World) : Prop := ∃ U, RG (dqL r bc cs c1 c2) W U K q km P ∧ (∀ k, U k → w.heap.size + 1 + 1 ≤ k) ∧ Bq w nt r m0 m1 m2 m3 W
section
variable {w W W' : World} {nt r bc cs c1 c2 km : Nat} {K : Nat → Prop} {q : Ph} {m0 m1 m2 m3 : Int} {P : Pg Dt Lw}
theorem Hq.below (h : Hq w nt r bc cs c1 c2 km K q m0 m1 m2 m3 P W) (hB : Below W.heap.size W W') : Hq w nt r bc cs c1 c2 km K q m0 m1 m2 m3 P W' := by
  obtain ⟨U, h1, h2, h3⟩ := h
  exact ⟨U, h1.below hB, h2, h3.below (hB.mono h3.lt)⟩
theorem Hq.bq (h : Hq w nt r bc cs c1 c2 km K q m0 m1 m2 m3 P W) : Bq w nt r m0 m1 m2 m3 W := by obtain ⟨U, h1, h2, h3⟩ := h; exact h3
theorem Hq.move (h : Hq w nt r bc cs c1 c2 km K q m0 m1 m2 m3 P W) (hI : Iv r P) (hb : Bd P) (th op arg data : Int) :
    Calls Try.prog 10 #[.pointer (some ⟨q.b, 0, none⟩), .agg #[.int .i64 th, .int .i64 op, .int .i64 arg, .int .i64 data]] W fun e w' => e = .returned (.bool (P.move (dqY r) th op arg data).2) ∧ Hq w nt r bc cs c1 c2 km K q m0 m1 m2 m3 (P.move (dqY r) th op arg data).1 w' := by
  obtain ⟨U, h1, h2, h3⟩ := h
  refine (move_g (step_d r bc cs c1 c2) (beg_d r bc cs c1 c2) h1 hI hb th op arg data).mono ?_
  rintro e w' ⟨rfl, hO⟩
  obtain ⟨U'', f1, f2, f3⟩ := OutG.next (w := w) (nt := nt) h2 h3.lt hO
  exact ⟨rfl, U'', f1, f2, h3.below f3⟩
theorem Hq.set (h : Hq w nt r bc cs c1 c2 km K q m0 m1 m2 m3 P W) (hK : ∀ k, K k → w.heap.size + 1 + 1 ≤ k) (x : Int) : Hq w nt r bc cs c1 c2 km K q x m1 m2 m3 P (W.setCell ⟨w.heap.size + 1, 0, none⟩ (.int .i64 x)) := by
  obtain ⟨U, h1, h2, h3⟩ := h
  exact ⟨U, Dm.RG.set h1 _ _ (fun hu => by have := h2 _ hu; simp only at this; omega) (fun hu => by have := hK _ hu; simp only at this; omega), h2, h3.set x⟩
theorem Hq.busy_out (h : Hq w nt r bc cs c1 c2 km K q m0 m1 m2 m3 P W) (x : Int) (hx : x < 0 ∨ (P.pts.length : Int) ≤ x) : Calls Try.prog 11 #[.pointer (some ⟨q.b, 0, none⟩), .int .i64 x] W fun e w' => e = .returned (.bool false) ∧ w' = W := by
  obtain ⟨U, h1, h2, h3⟩ := h; exact Dm.busy_out h1 x hx
theorem Hq.busy_in (h : Hq w nt r bc cs c1 c2 km K q m0 m1 m2 m3 P W) (i : Nat) (hi : i < P.pts.length) (hk : tkF P.pts i = none) : Calls Try.prog 11 #[.pointer (some ⟨q.b, 0, none⟩), .int .i64 (i : Int)] W fun e w' => e = .returned (.bool false) ∧ w' = W := by
  obtain ⟨U, h1, h2, h3⟩ := h; exact Dm.busy_in h1 i hi hk
end
/-- deque.New in a law. -/
theorem newH {w : World} {nt r : Nat} {m0 m1 m2 m3 : Int} {W : World} (h : Bq w nt r m0 m1 m2 m3 W) (h1 : 1 ≤ nt) (h2 : nt ≤ 16) (h3 : 1 ≤ r) (h4 : r ≤ 256) : Calls Try.prog 8 #[.agg #[.int .i64 (nt : Int), .int .i64 (r : Int)]] W fun e w' => ∃ bc cs c1 c2 km K q, e = .returned (.tuple #[.pointer (some ⟨q.b, 0, none⟩), .int .i64 0]) ∧ Hq w nt r bc cs c1 c2 km K q m0 m1 m2 m3 (P0 nt r) w' ∧ ∀ k, K k → w.heap.size + 1 + 1 ≤ k := by
  refine (newD_ok W nt r h1 h2 h3 h4).mono ?_
  rintro e w' ⟨q, U, K, km, bc, cs, c1, c2, rfl, hR, hU, hK, hB⟩
  have hl := h.lt
  exact ⟨bc, cs, c1, c2, km, K, q, rfl, ⟨U, hR, fun k hk => Nat.le_trans hl (hU k hk), h.below (hB.mono hl)⟩, fun k hk => Nat.le_trans hl (hK k hk)⟩
/-- fits. -/
theorem fits_any (th rm : Int) (am : Option Addr) (nm cm : Nat) (w : World) : Calls Try.prog 6 #[.agg #[.int .i64 th, .int .i64 rm], .slice am nm cm] w fun e w' => e = .returned (.bool (dqB th rm && decide ((nm : Int) ≤ 65536))) ∧ Below w.heap.size w w' := by
  have CK := Mr.hid (fun w => rCheck_any th rm w)
  have B0 := Mr.hid ((Below.refl w.heap.size w).alloc (Nat.le_refl _) (.cells #[.int .i64 th, .int .i64 rm] 23 (0, 0)))
  have z0 : (w.alloc (.cells #[.int .i64 th, .int .i64 rm] 23 (0, 0))).heap.size = w.heap.size + 1 := by simp
  unfold dV at CK
  generalize dqB th rm = cb at *
  generalize hdb : decide ((nm : Int) ≤ 65536) = db at *
  cases cb with
  | false =>
    go_enter Try.func6, Try.ntmps6
    go_wp2_with (go_at_call 17; refine (CK.out _).mono ?_; clear CK; rintro e w1 ⟨rfl, hB⟩; have hB2 := Mr.hid (B0.out.trans (hB.mono (by omega))); clear hB)
    go_ret
    exact ⟨rfl, hB2.out⟩
  | true =>
    go_enter Try.func6, Try.ntmps6
    go_wp2_with (go_at_call 17; refine (CK.out _).mono ?_; clear CK; rintro e w1 ⟨rfl, hB⟩; have hB2 := Mr.hid (B0.out.trans (hB.mono (by omega))); clear hB)
    go_ret
    exact ⟨rfl, hB2.out⟩
end Go.Proofs.Ytihkcbbbgmjogaa.Dm
