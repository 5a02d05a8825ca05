import Derived.Test.YtedaoljmcfbbpaaGreatJ25
/-
  deque.Play, pure: a script's moves one after another.
-/
namespace Go.Proofs.YtedaoljmcfbbpaaGreat.Dm
open Go.RowKit Go.Shelf Mr Me Ma Gm Dq
set_option linter.unusedVariables false
/-- A script. -/
def Pl (r : Nat) (P : Pg Dt Lw) (ms : List Mv) : Pg Dt Lw := ms.foldl (fun P m => (P.move (dqY r) m.th m.op m.arg m.data).1) P
def P0 (nt r : Nat) : Pg Dt Lw := Pg.new nt (List.replicate (2 + r) 0) none
theorem pl_snoc (r : Nat) (P : Pg Dt Lw) (ms : List Mv) (i : Nat) (hi : i < ms.length) : Pl r P (ms.take (i + 1)) = ((Pl r P (ms.take i)).move (dqY r) (ms[i]?.getD noMv).th (ms[i]?.getD noMv).op (ms[i]?.getD noMv).arg (ms[i]?.getD noMv).data).1 := by
  unfold Pl
  rw [List.take_add_one, List.foldl_append]
  simp [hi]
theorem mv_bd {r : Nat} {P : Pg Dt Lw} (h : Bd P) (th op arg data : Int) : Bd (P.move (dqY r) th op arg data).1 := h.move (fun fr i now ws g k => stp_la r fr i now ws g k) th op arg data
theorem pl_inv {r : Nat} (ms : List Mv) : ∀ {P : Pg Dt Lw}, Iv r P → Bd P → Iv r (Pl r P ms) ∧ Bd (Pl r P ms) := by
  induction ms with
  | nil => exact fun h1 h2 => ⟨h1, h2⟩
  | cons x ms ih => exact fun h1 h2 => ih (h1.move x.th x.op x.arg x.data) (mv_bd h2 _ _ _ _)
theorem mv_n {r : Nat} (P : Pg Dt Lw) (th op arg data : Int) : (P.move (dqY r) th op arg data).1.n ≤ P.n + 1 := by
  by_cases h : 65536 ≤ P.n
  · unfold Pg.move; rw [if_pos h]; exact Nat.le_succ _
  · rw [move_n P (by omega)]; exact Nat.le_refl _
theorem pl_n {r : Nat} (ms : List Mv) : ∀ (P : Pg Dt Lw), (Pl r P ms).n ≤ P.n + ms.length := by
  induction ms with
  | nil => exact fun P => Nat.le_refl _
  | cons x ms ih =>
      intro P
      have h1 := ih (P.move (dqY r) x.th x.op x.arg x.data).1
      have h2 := mv_n (r := r) P x.th x.op x.arg x.data
      show (Pl r (P.move (dqY r) x.th x.op x.arg x.data).1 ms).n ≤ P.n + (ms.length + 1)
      omega
theorem pl_pts {r : Nat} (ms : List Mv) : ∀ (P : Pg Dt Lw), (Pl r P ms).pts.length = P.pts.length := by
  induction ms with
  | nil => exact fun P => rfl
  | cons x ms ih => exact fun P => (ih _).trans (move_pts P x.th x.op x.arg x.data)
theorem p0_inv {nt r : Nat} (h1 : 1 ≤ r) (h2 : r ≤ 256) : Iv r (P0 nt r) ∧ Bd (P0 nt r) := ⟨iv_new nt h1 h2, bd_new _ _ _⟩
def rnO : Obj := .cells #[.slice none 0 0, .slice none 0 0, .slice none 0 0, .slice none 0 0] 32 (0, 0)
/-- Play's two boxes. -/
structure Bp (w : World) (nt r : Nat) (W : World) : Prop where
  c : W.heap[w.heap.size]? = some (dBox nt r)
  r : W.heap[w.heap.size + 1]? = some rnO
  b : Below w.heap.size w W
theorem Bp.below {w W W' : World} {nt r : Nat} (h : Bp w nt r W) (hB : Below (w.heap.size + 1 + 1) W W') : Bp w nt r W' :=
  ⟨(hB.block _ (by omega)).trans h.c, (hB.block _ (by omega)).trans h.r, h.b.trans (hB.mono (by omega))⟩
theorem Bp.lt {w W : World} {nt r : Nat} (h : Bp w nt r W) : w.heap.size + 1 + 1 ≤ W.heap.size := by
  have := (Array.getElem?_eq_some_iff.1 h.r).1
  omega
theorem Bp.run {w W : World} {nt r : Nat} (h : Bp w nt r W) : (∀ j, j < 4 → W.cell? ⟨w.heap.size + 1, j, none⟩ = some (.slice none 0 0)) ∧ ∀ j, W.frozen? ⟨w.heap.size + 1, j, none⟩ = false := by
  refine ⟨fun j hj => ?_, fun j => froz_at h.r j⟩
  rw [cell_at h.r j]
  have hj' : j = 0 ∨ j = 1 ∨ j = 2 ∨ j = 3 := by omega
  rcases hj' with rfl | rfl | rfl | rfl <;> rfl
/-- What a move leaves, from a relation that frames it. -/
theorem OutG.next {w W W' : World} {nt r bc cs c1 c2 km N : Nat} {U K : Nat → Prop} {q : Ph} {P' : Pg Dt Lw} (hU : ∀ k, U k → N ≤ k) (hN : N ≤ W.heap.size) (hO : OutG (dqL r bc cs c1 c2) W U K q km P' W') : ∃ U', RG (dqL r bc cs c1 c2) W' U' K q km P' ∧ (∀ k, U' k → N ≤ k) ∧ Below N W W' := by
  obtain ⟨U', g1, g2, g3, g4⟩ := hO
  exact ⟨U', g1, fun k hk => (g3 k hk).elim (hU k) (Nat.le_trans hN), g4.below hU hN⟩
end Go.Proofs.YtedaoljmcfbbpaaGreat.Dm
/-
  DequeSwaps, pure, the first part: top and bottom along the trace; what a task that has loaded top holds.
-/
namespace Go.Proofs.YtedaoljmcfbbpaaGreat.Dm
open Go.RowKit Go.Shelf Mr Me Ma Gm Dq
set_option linter.unusedVariables false
set_option linter.unusedSimpArgs false
set_option linter.unusedSectionVars false
/-- What the law keeps while it goes along the trace. -/
structure Sw where
  top : Int
  down : Int
  last : Int
  ld : Nat → Int
  k : Nat
def sw0 : Sw := ⟨0, 0, -1, fun _ => 0, 0⟩
def swN (s : Sw) (a : Acc) : Sw :=
  ⟨if a.ad = 0 ∧ a.kd ≠ 1 ∧ a.saw = a.old then s.top + 1 else s.top,
   if a.th = 0 ∧ a.ad = 1 ∧ a.kd = 2 then a.new else s.down,
   if a.ad = 0 ∧ a.kd ≠ 1 ∧ a.saw = a.old then (s.k : Int) else s.last,
   if a.ad = 0 ∧ a.kd = 1 then upd s.ld a.th.toNat (s.k : Int) else s.ld,
   s.k + 1⟩
def swS (lg : List Acc) : Sw := lg.foldl swN sw0
theorem swS_snoc (lg : List Acc) (a : Acc) : swS (lg ++ [a]) = swN (swS lg) a := by unfold swS; rw [List.foldl_append]; rfl
/-- What one access does. -/
structure Mo (i : Nat) (ws : List Int) (s : Sw) (ws' : List Int) (s' : Sw) : Prop where
  top : s'.top = rd ws' 0
  down : s'.down = rd ws' 1
  ldk : ∀ j, s'.ld j ≤ s'.k
  ldo : ∀ j, j ≠ i → s'.ld j = s.ld j
  sw : (rd ws' 0 = rd ws 0 ∧ s'.last = s.last) ∨ (∀ j, s'.ld j ≤ s'.last)
  bo : i ≠ 0 → rd ws' 1 = rd ws 1
section
variable {i : Nat} {ws : List Int} {s : Sw} (h1 : s.top = rd ws 0) (h2 : s.down = rd ws 1) (h3 : ∀ j, s.ld j ≤ s.k)
include h1 h2 h3
theorem mo_load (now : Int) (ad : Nat) (had : ad ≠ 0) : Mo i ws s ws (swN s (ldA i now ad ws)) := by
  have e0 : ¬ ((ad : Int) = 0) := by omega
  refine ⟨?_, ?_, fun j => ?_, fun j _ => ?_, .inl ⟨rfl, ?_⟩, fun _ => rfl⟩ <;> simp [swN, ldA, e0, had, h1, h2]
  have := h3 j; omega
theorem mo_load0 (now : Int) : Mo i ws s ws (swN s (ldA i now 0 ws)) ∧ (swN s (ldA i now 0 ws)).ld i = s.k := by
  refine ⟨⟨?_, ?_, fun j => ?_, fun j hj => ?_, .inl ⟨rfl, ?_⟩, fun _ => rfl⟩, ?_⟩
  · simp [swN, ldA, h1]
  · simp [swN, ldA, h2]
  · have := h3 j
    by_cases hj : j = i
    · subst hj; simp [swN, ldA, upd]; omega
    · simp [swN, ldA, upd, hj]; omega
  · simp [swN, ldA, upd, hj]
  · simp [swN, ldA]
  · simp [swN, ldA, upd]
theorem mo_st1 (now x : Int) (hi : i = 0) (hl : 1 < ws.length) : Mo i ws s (ws.set 1 x) (swN s (stA i now 1 x)) := by
  refine ⟨?_, ?_, fun j => ?_, fun j hj => ?_, .inl ⟨rd_other _ (by omega), ?_⟩, fun h => absurd hi h⟩
  · rw [rd_other _ (by omega)]; simp [swN, stA, h1]
  · rw [rd_same _ hl]; simp [swN, stA, hi]
  · have := h3 j; simp [swN, stA]; omega
  · simp [swN, stA]
  · simp [swN, stA]
theorem mo_stc (now x : Int) (ad : Nat) (h0 : ad ≠ 0) (h9 : ad ≠ 1) : Mo i ws s (ws.set ad x) (swN s (stA i now ad x)) := by
  have e0 : ¬ ((ad : Int) = 0) := by omega
  have e1 : ¬ ((ad : Int) = 1) := by omega
  refine ⟨?_, ?_, fun j => ?_, fun j hj => ?_, .inl ⟨rd_other _ h0, ?_⟩, fun h => rd_other _ h9⟩
  · rw [rd_other _ h0]; simp [swN, stA, h1, h0]
  · rw [rd_other _ h9]; simp [swN, stA, h2, h0, e1]
  · have := h3 j; simp [swN, stA, h0]; omega
  · simp [swN, stA, h0]
  · simp [swN, stA, h0]
theorem mo_hit (now t : Int) (hl : 0 < ws.length) (ht : rd ws 0 = t) : Mo i ws s (ws.set 0 (t + 1)) (swN s (swA i now 0 t (t + 1) t)) := by
  refine ⟨?_, ?_, fun j => ?_, fun j hj => ?_, .inr (fun j => ?_), fun h => rd_other _ (by omega)⟩
  · rw [rd_same _ hl]; simp [swN, swA, h1, ht]
  · rw [rd_other _ (by omega)]; simp [swN, swA, h2]
  · have := h3 j; simp [swN, swA]; omega
  · simp [swN, swA]
  · simp [swN, swA]; exact h3 j
theorem mo_miss (now t : Int) (ht : ¬ rd ws 0 = t) : Mo i ws s ws (swN s (swA i now 0 t (t + 1) (rd ws 0))) := by
  refine ⟨?_, ?_, fun j => ?_, fun j hj => ?_, .inl ⟨rfl, ?_⟩, fun h => rfl⟩
  · simp [swN, swA, h1, ht]
  · simp [swN, swA, h2]
  · have := h3 j; simp [swN, swA]; omega
  · simp [swN, swA]
  · simp [swN, swA, ht]
end
/-- What a task holds. -/
def Tk (ws : List Int) (s : Sw) (i : Nat) : Dt → Prop
  | .push .. => True
  | .take nx l t _ => (3 ≤ nx → nx ≤ 6 → rd ws 1 = nU l) ∧ ((nx = 5 ∨ nx = 6) → (t = rd ws 0 ∨ s.ld i ≤ s.last)) ∧ (nx = 6 → t = l)
  | .steal nx t _ => 2 ≤ nx → t = rd ws 0 ∨ s.ld i ≤ s.last
structure Sa (P : Pg Dt Lw) : Prop where
  top : (swS P.lg).top = rd P.ws 0
  down : (swS P.lg).down = rd P.ws 1
  ldk : ∀ j, (swS P.lg).ld j ≤ (swS P.lg).k
  tsk : ∀ i t k, P.pts[i]? = some t → t.tk = some k → Tk P.ws (swS P.lg) i k
/-- Whoever does not move holds what it held. -/
theorem Tk.other {ws ws' : List Int} {s s' : Sw} {i j n : Nat} {k : Dt} (hm : Mo i ws s ws' s') (hj : j ≠ i) (ho : Ok j n k) (h : Tk ws s j k) : Tk ws' s' j k := by
  have key : ∀ t : Int, (t = rd ws 0 ∨ s.ld j ≤ s.last) → (t = rd ws' 0 ∨ s'.ld j ≤ s'.last) := fun t ht => by
    rcases hm.sw with ⟨e1, e2⟩ | h2
    · rw [e1, e2, hm.ldo j hj]; exact ht
    · exact .inr (h2 j)
  cases k with
  | push => trivial
  | take nx l t v =>
    simp only [Ok] at ho
    obtain ⟨q1, q2, q3⟩ := h
    exact ⟨fun a b => by rw [hm.bo (by omega)]; exact q1 a b, fun a => key _ (q2 a), q3⟩
  | steal nx t v => exact fun a => key _ (h a)
/-- A step: its one access, and what the task holds behind it. -/
def St (P : Pg Dt Lw) (i : Nat) (ef : Df) : Prop := ∃ a, ef.la = [a] ∧ Mo i P.ws (swS P.lg) ef.ws (swN (swS P.lg) a) ∧ ∀ k', ef.tk = some k' → Tk ef.ws (swN (swS P.lg) a) i k'
set_option maxHeartbeats 1000000 in
theorem sa_step {r : Nat} {P : Pg Dt Lw} (h : Iv r P) (hn : P.n < 65536) (hS : Sa P) {i : Nat} {t : Pt Dt} {k : Dt} (ht : P.pts[i]? = some t) (hk : t.tk = some k) (now : Int) (fr : Bool) : St P i (stp r fr i now P.ws P.g k) := by
  have hok := h.tsk i t k ht hk
  have htk := hS.tsk i t k ht hk
  obtain ⟨hl, r1, r2, ⟨t1, t2⟩, ⟨b, b1, b2, b3, b4⟩, _⟩ := h
  obtain ⟨s1, s2, s3, _⟩ := hS
  have w0 : wrap64 (rd P.ws 0) = rd P.ws 0 := w64_id _ t1 (by omega)
  have l0 : 0 < P.ws.length := by omega
  have l1 : 1 < P.ws.length := by omega
  have cn := cel_ne r
  unfold St
  generalize swS P.lg = s at *
  have ld0 := mo_load0 (i := i) s1 s2 s3 now
  have ld := fun ad had => mo_load (i := i) s1 s2 s3 now ad had
  cases k with
  | push nx v bt =>
    simp only [Ok] at hok
    obtain rfl | rfl | rfl | rfl : nx = 1 ∨ nx = 2 ∨ nx = 3 ∨ nx = 4 := by omega
    · exact ⟨_, rfl, ld 1 (by omega), fun k' e => by cases e; trivial⟩
    · by_cases hy : (r : Int) ≤ bt - wrap64 (rd P.ws 0)
      · have e2 : stp r fr i now P.ws P.g (.push 2 v bt) = _ := if_pos hy
        rw [e2]; exact ⟨_, rfl, ld0.1, fun k' e => by cases e⟩
      · have e2 : stp r fr i now P.ws P.g (.push 2 v bt) = _ := if_neg hy
        rw [e2]; exact ⟨_, rfl, ld0.1, fun k' e => by cases e; trivial⟩
    · exact ⟨_, rfl, mo_stc s1 s2 s3 now _ _ (cn _).1 (cn _).2, fun k' e => by cases e; trivial⟩
    · exact ⟨_, rfl, mo_st1 s1 s2 s3 now _ hok.1 l1, fun k' e => by cases e⟩
  | take nx l tt v =>
    simp only [Ok] at hok
    obtain ⟨q1, q2, q3⟩ := htk
    obtain rfl | rfl | rfl | rfl | rfl | rfl | rfl : nx = 1 ∨ nx = 2 ∨ nx = 3 ∨ nx = 4 ∨ nx = 5 ∨ nx = 6 ∨ nx = 7 := by omega
    · exact ⟨_, rfl, ld 1 (by omega), fun k' e => by cases e; exact ⟨fun a => by omega, fun a => by omega, fun a => by omega⟩⟩
    · exact ⟨_, rfl, mo_st1 s1 s2 s3 now _ hok.1 l1, fun k' e => by cases e; exact ⟨fun _ _ => rd_same _ l1, fun a => by omega, fun a => by omega⟩⟩
    · have q := q1 (by omega) (by omega)
      by_cases hy : l < wrap64 (rd P.ws 0)
      · have e2 : stp r fr i now P.ws P.g (.take 3 l tt v) = _ := if_pos hy
        rw [e2]; exact ⟨_, rfl, ld0.1, fun k' e => by cases e; exact ⟨fun _ _ => q, fun a => by omega, fun a => by omega⟩⟩
      · have e2 : stp r fr i now P.ws P.g (.take 3 l tt v) = _ := if_neg hy
        rw [e2]; exact ⟨_, rfl, ld0.1, fun k' e => by cases e; exact ⟨fun _ _ => q, fun _ => .inl w0, fun a => by omega⟩⟩
    · exact ⟨_, rfl, mo_st1 s1 s2 s3 now _ hok.1 l1, fun k' e => by cases e⟩
    · have q := q1 (by omega) (by omega)
      have q4 := q2 (.inl rfl)
      by_cases hy : tt < l
      · have e2 : stp r fr i now P.ws P.g (.take 5 l tt v) = _ := if_pos hy
        rw [e2]; exact ⟨_, rfl, ld _ (cn _).1, fun k' e => by cases e⟩
      · have e2 : stp r fr i now P.ws P.g (.take 5 l tt v) = _ := if_neg hy
        rw [e2]
        refine ⟨_, rfl, ld _ (cn _).1, fun k' e => ?_⟩
        cases e
        refine ⟨fun _ _ => q, fun _ => ?_, fun _ => by have := hok.2.2.2.2.2 rfl; omega⟩
        have e0 : ¬ cel r l = 0 := (cn l).1
        simpa [swN, ldA, e0] using q4
    · by_cases hy : rd P.ws 0 = tt
      · have e2 : stp r fr i now P.ws P.g (.take 6 l tt v) = _ := if_pos hy
        rw [e2]; exact ⟨_, rfl, mo_hit s1 s2 s3 now _ l0 hy, fun k' e => by cases e; exact ⟨fun a b => by omega, fun a => by omega, fun a => by omega⟩⟩
      · have e2 : stp r fr i now P.ws P.g (.take 6 l tt v) = _ := if_neg hy
        rw [e2]; exact ⟨_, rfl, mo_miss s1 s2 s3 now _ hy, fun k' e => by cases e; exact ⟨fun a b => by omega, fun a => by omega, fun a => by omega⟩⟩
    · exact ⟨_, rfl, mo_st1 s1 s2 s3 now _ hok.1 l1, fun k' e => by cases e⟩
  | steal nx tt v =>
    simp only [Ok] at hok
    obtain rfl | rfl | rfl | rfl : nx = 1 ∨ nx = 2 ∨ nx = 3 ∨ nx = 4 := by omega
    · exact ⟨_, rfl, ld0.1, fun k' e => by cases e; exact fun _ => .inl w0⟩
    · have q := htk (by omega)
      by_cases hy : wrap64 (rd P.ws 1) - tt ≤ 0
      · have e2 : stp r fr i now P.ws P.g (.steal 2 tt v) = _ := if_pos hy
        rw [e2]; exact ⟨_, rfl, ld 1 (by omega), fun k' e => by cases e⟩
      · have e2 : stp r fr i now P.ws P.g (.steal 2 tt v) = _ := if_neg hy
        rw [e2]; exact ⟨_, rfl, ld 1 (by omega), fun k' e => by cases e; exact fun _ => by simpa [swN, ldA] using q⟩
    · have q := htk (by omega)
      refine ⟨_, rfl, ld _ (cn _).1, fun k' e => ?_⟩
      cases e
      intro _
      have e0 : ¬ cel r tt = 0 := (cn tt).1
      show tt = rd P.ws 0 ∨ _
      simpa [swN, ldA, e0] using q
    · by_cases hy : rd P.ws 0 = tt
      · have e2 : stp r fr i now P.ws P.g (.steal 4 tt v) = _ := if_pos hy
        rw [e2]; exact ⟨_, rfl, mo_hit s1 s2 s3 now _ l0 hy, fun k' e => by cases e⟩
      · have e2 : stp r fr i now P.ws P.g (.steal 4 tt v) = _ := if_neg hy
        rw [e2]; exact ⟨_, rfl, mo_miss s1 s2 s3 now _ hy, fun k' e => by cases e; exact fun a => by omega⟩
theorem Sa.count {P : Pg Dt Lw} (h : Sa P) : Sa P.count := ⟨h.top, h.down, h.ldk, h.tsk⟩
theorem Sa.stepE {r : Nat} {P : Pg Dt Lw} (h : Iv r P) (hS : Sa P) {i : Nat} {t : Pt Dt} {now : Int} {e : Df} (ht : P.pts[i]? = some t) (st : St P i e) : Sa (P.count.stepE i t now e) := by
  obtain ⟨a, ha, hm, hT⟩ := st
  obtain ⟨Q, hQ⟩ : ∃ Q, P.count.stepE i t now e = Q := ⟨_, rfl⟩
  have q1 : Q.ws = e.ws := by rw [← hQ]; unfold Pg.stepE; split <;> rfl
  have q2 : Q.lg = P.lg ++ [a] := by rw [← ha, ← hQ]; unfold Pg.stepE; split <;> rfl
  have q3 : ∃ u : Pt Dt, u.tk = e.tk ∧ Q.pts = P.pts.set i u := by
    rw [← hQ]; unfold Pg.stepE
    split
    · rename_i k hk; exact ⟨_, hk.symm, rfl⟩
    · rename_i hk; exact ⟨_, hk.symm, rfl⟩
  obtain ⟨u, hu, hp⟩ := q3
  rw [hQ]
  have es : swS Q.lg = swN (swS P.lg) a := by rw [q2, swS_snoc]
  refine ⟨by rw [es, q1]; exact hm.top, by rw [es, q1]; exact hm.down, by rw [es]; exact hm.ldk, fun j t' k hj hk => ?_⟩
  rw [es, q1]
  rw [hp] at hj
  rcases pts_set hj with ⟨rfl, rfl⟩ | ⟨hji, hj⟩
  · exact hT k (by rw [← hu]; exact hk)
  · exact (hS.tsk j t' k hj hk).other hm hji (h.tsk j t' k hj hk)
theorem mk_tk {i : Nat} {op arg data : Int} {g : Lw} {k : Dt} {ws : List Int} {s : Sw} (h : mk i op arg data g = some k) : Tk ws s i k := by
  unfold mk at h
  split at h
  · split at h
    · cases h; trivial
    · cases h
  · split at h
    · split at h
      · cases h; exact ⟨fun a => by omega, fun a => by omega, fun a => by omega⟩
      · cases h
    · split at h
      · cases h; exact fun a => by omega
      · cases h
theorem Sa.move {r : Nat} {P : Pg Dt Lw} (h : Iv r P) (hS : Sa P) (th op arg data : Int) : Sa (P.move (dqY r) th op arg data).1 := by
  unfold Pg.move
  split
  · exact hS
  · rename_i hn
    split
    · split
      · exact hS.count
      · rename_i t ht
        split
        · unfold Pg.step
          split
          · exact hS.count
          · rename_i k hk
            exact hS.stepE h ht (sa_step h (by omega) hS ht hk _ t.fr)
        · split
          · exact hS.count
          · unfold Pg.begins
            split
            · exact hS.count
            · rename_i k hk
              refine ⟨hS.top, hS.down, hS.ldk, fun j u k' hj hk' => ?_⟩
              have hj' : (P.pts.set _ _)[j]? = some u := hj
              rcases pts_set hj' with ⟨rfl, rfl⟩ | ⟨_, hj''⟩
              · cases hk'; exact mk_tk (data := data) (g := P.count.g) hk
              · exact hS.tsk j u k' hj'' hk'
    · exact hS.count
theorem sa_new {r : Nat} (nt : Nat) : Sa (P0 nt r) := by
  refine ⟨?_, ?_, fun j => ?_, fun i t k ht hk => ?_⟩
  · show (0 : Int) = rd (List.replicate _ 0) 0
    rw [rd_zero]
  · show (0 : Int) = rd (List.replicate _ 0) 1
    rw [rd_zero]
  · exact Int.le_refl _
  · have ht' : (List.replicate nt (⟨none, false, -1, 0, 0⟩ : Pt Dt))[i]? = some t := ht
    rw [List.getElem?_replicate] at ht'
    split at ht'
    · cases ht'; cases hk
    · cases ht'
end Go.Proofs.YtedaoljmcfbbpaaGreat.Dm
