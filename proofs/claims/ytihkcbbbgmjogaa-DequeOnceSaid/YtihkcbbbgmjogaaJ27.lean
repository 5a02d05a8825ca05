import Derived.Test.YtihkcbbbgmjogaaJ26
/-
  awake of reclaimlaw21 (made by mk_dmaw.py); num, fits.
-/
namespace Go.Proofs.Ytihkcbbbgmjogaa.Dm
open Go.RowKit Go.Shelf Mr Me Ma Gm Dq
set_option linter.unusedVariables false
set_option linter.unusedSimpArgs false
def awm : List Mv := [⟨0, 90, 5, 0⟩, ⟨0, 0, 0, 0⟩, ⟨0, 0, 0, 0⟩, ⟨0, 0, 0, 0⟩, ⟨0, 0, 0, 0⟩, ⟨0, 90, 6, 0⟩, ⟨0, 0, 0, 0⟩, ⟨0, 0, 0, 0⟩, ⟨0, 0, 0, 0⟩, ⟨0, 0, 0, 0⟩, ⟨1, 92, 0, 0⟩, ⟨1, 0, 0, 0⟩, ⟨1, 0, 0, 0⟩, ⟨1, 0, 0, 0⟩, ⟨1, 0, 0, 0⟩, ⟨0, 91, 0, 0⟩, ⟨0, 0, 0, 0⟩, ⟨0, 0, 0, 0⟩, ⟨0, 0, 0, 0⟩, ⟨0, 0, 0, 0⟩, ⟨0, 0, 0, 0⟩, ⟨0, 0, 0, 0⟩]
theorem aw_cls : (Pl 2 (P0 2 2) awm).cls = [⟨0, 90, 5, 0, 0, 4, 4, 1, 0⟩, ⟨0, 90, 6, 0, 5, 9, 9, 1, 0⟩, ⟨1, 92, 0, 0, 10, 14, 14, 2, 5⟩, ⟨0, 91, 0, 0, 15, 21, 17, 2, 6⟩] := by kernel_rfl
def awo : Obj := .cells #[.int .i64 0, .int .i64 90, .int .i64 5, .int .i64 0, .int .i64 0, .int .i64 0, .int .i64 0, .int .i64 0, .int .i64 0, .int .i64 0, .int .i64 0, .int .i64 0, .int .i64 0, .int .i64 0, .int .i64 0, .int .i64 0, .int .i64 0, .int .i64 0, .int .i64 0, .int .i64 0, .int .i64 0, .int .i64 90, .int .i64 6, .int .i64 0, .int .i64 0, .int .i64 0, .int .i64 0, .int .i64 0, .int .i64 0, .int .i64 0, .int .i64 0, .int .i64 0, .int .i64 0, .int .i64 0, .int .i64 0, .int .i64 0, .int .i64 0, .int .i64 0, .int .i64 0, .int .i64 0, .int .i64 1, .int .i64 92, .int .i64 0, .int .i64 0, .int .i64 1, .int .i64 0, .int .i64 0, .int .i64 0, .int .i64 1, .int .i64 0, .int .i64 0, .int .i64 0, .int .i64 1, .int .i64 0, .int .i64 0, .int .i64 0, .int .i64 1, .int .i64 0, .int .i64 0, .int .i64 0, .int .i64 0, .int .i64 91, .int .i64 0, .int .i64 0, .int .i64 0, .int .i64 0, .int .i64 0, .int .i64 0, .int .i64 0, .int .i64 0, .int .i64 0, .int .i64 0, .int .i64 0, .int .i64 0, .int .i64 0, .int .i64 0, .int .i64 0, .int .i64 0, .int .i64 0, .int .i64 0, .int .i64 0, .int .i64 0, .int .i64 0, .int .i64 0, .int .i64 0, .int .i64 0, .int .i64 0, .int .i64 0] 27 (0, 0)
theorem aw_at (w : World) : MvAt (w.alloc awo) (some ⟨w.heap.size, 0, none⟩) 22 awm := by
  refine ⟨rfl, .inr ⟨_, 0, rfl, by simp, fun j hj => ?_⟩⟩
  have hb : (w.alloc awo).heap[w.heap.size]? = some awo := heap_alloc_new w _
  generalize w.alloc awo = W at *
  have hj' : j = 0 ∨ j = 1 ∨ j = 2 ∨ j = 3 ∨ j = 4 ∨ j = 5 ∨ j = 6 ∨ j = 7 ∨ j = 8 ∨ j = 9 ∨ j = 10 ∨ j = 11 ∨ j = 12 ∨ j = 13 ∨ j = 14 ∨ j = 15 ∨ j = 16 ∨ j = 17 ∨ j = 18 ∨ j = 19 ∨ j = 20 ∨ j = 21 := by simp [awm] at hj; omega
  rcases hj' with rfl | rfl | rfl | rfl | rfl | rfl | rfl | rfl | rfl | rfl | rfl | rfl | rfl | rfl | rfl | rfl | rfl | rfl | rfl | rfl | rfl | rfl <;> exact ⟨cell_at hb _, cell_at hb _, cell_at hb _, cell_at hb _⟩
/-- The example, played. -/
theorem aw_play (w : World) : Calls Try.prog 18 #[.agg #[.int .i64 2, .int .i64 2], .slice (some ⟨w.heap.size, 0, none⟩) 22 22] (w.alloc awo) fun e w' => ∃ g1 c1 p2 n2 c2 p3 c3 p4 n4 c4, e = .returned (.tuple #[.agg #[.slice (some ⟨g1, 0, none⟩) 4 c1, .slice p2 n2 c2, .slice p3 0 c3, .slice p4 n4 c4], .int .i64 0]) ∧ g1 < w'.heap.size ∧ (w'.cell? ⟨g1, 25, none⟩ = some (.int .i64 2) ∧ w'.cell? ⟨g1, 26, none⟩ = some (.int .i64 5) ∧ w'.cell? ⟨g1, 33, none⟩ = some (.int .i64 17) ∧ w'.cell? ⟨g1, 34, none⟩ = some (.int .i64 2) ∧ w'.cell? ⟨g1, 35, none⟩ = some (.int .i64 6)) ∧ Below w.heap.size w w' := by
  refine (play_d (w.alloc awo) 2 2 (by decide) (by decide) (by decide) (by decide) _ _ 22 _ (aw_at w) (by decide)).mono ?_
  rintro e w' ⟨v1, v2, v3, v4, rfl, hv1, hv2, hv3, hv4, hB⟩
  rw [aw_cls] at hv1
  obtain ⟨g1, c1, rfl, _, l1, _⟩ := hv1.there (by decide)
  obtain ⟨p3, c3, rfl, _⟩ := hv3.form
  obtain ⟨p2, c2, rfl, _⟩ := hv2.form
  obtain ⟨p4, c4, rfl, _⟩ := hv4.form
  have k1 := hv1.cells (g := g1) rfl
  refine ⟨g1, c1, p2, _, c2, p3, c3, p4, _, c4, rfl, l1, ⟨k1 25 _ rfl, k1 26 _ rfl, k1 33 _ rfl, k1 34 _ rfl, k1 35 _ rfl⟩, ?_⟩
  simp only [World.size_alloc] at hB
  exact ((Below.refl w.heap.size w).alloc (Nat.le_refl _) _).trans (hB.mono (by omega))
theorem num_any (n : Int) (w : World) : Calls Try.prog 9 #[.int .i64 n] w fun e w' => e = .returned (.int .i64 n) ∧ w' = w := by
  go_enter Try.func9, Try.ntmps9
  go_wp2
  go_ret
  exact ⟨rfl, rfl⟩
set_option maxRecDepth 100000 in
set_option maxHeartbeats 2000000 in
theorem awake_any (w : World) : Calls Try.prog 7 #[] w fun e w' => e = .returned (.bool true) ∧ Below w.heap.size w w' := by
  have P := aw_play w
  unfold awo at P
  go_enter Try.func7, Try.ntmps7
  go_wp2_with (first | (go_at_call 9; refine (num_any _ _).mono ?_; rintro e wn ⟨rfl, rfl⟩) | (go_at_call 18; refine P.mono ?_; clear P; rintro e w1 ⟨g1, c1, p2, n2, c2, p3, c3, p4, n4, c4, rfl, l1, ⟨k0, k1, k2, k3, k4⟩, hB⟩; replace hB := Mr.hid hB))
  go_ret
  exact ⟨rfl, hB.out.alloc hB.out.size _⟩
end Go.Proofs.Ytihkcbbbgmjogaa.Dm
/-
  DequeSwaps, pure, the first part: top and bottom along the trace; what a task that has loaded top holds.
-/
namespace Go.Proofs.Ytihkcbbbgmjogaa.Dm
open Go.RowKit Go.Shelf Mr Me Ma Gm Dq
set_option linter.unusedVariables false
set_option linter.unusedSimpArgs false
set_option linter.unusedSectionVars false
/-- What the law keeps while it goes along the trace. -/
structure Sw where
  top : Int
  down : Int
  last : Int
  ld : Nat → Int
  k : Nat
def sw0 : Sw := ⟨0, 0, -1, fun _ => 0, 0⟩
def swN (s : Sw) (a : Acc) : Sw :=
  ⟨if a.ad = 0 ∧ a.kd ≠ 1 ∧ a.saw = a.old then s.top + 1 else s.top,
   if a.th = 0 ∧ a.ad = 1 ∧ a.kd = 2 then a.new else s.down,
   if a.ad = 0 ∧ a.kd ≠ 1 ∧ a.saw = a.old then (s.k : Int) else s.last,
   if a.ad = 0 ∧ a.kd = 1 then upd s.ld a.th.toNat (s.k : Int) else s.ld,
   s.k + 1⟩
def swS (lg : List Acc) : Sw := lg.foldl swN sw0
theorem swS_snoc (lg : List Acc) (a : Acc) : swS (lg ++ [a]) = swN (swS lg) a := by unfold swS; rw [List.foldl_append]; rfl
/-- What one access does. -/
structure Mo (i : Nat) (ws : List Int) (s : Sw) (ws' : List Int) (s' : Sw) : Prop where
  top : s'.top = rd ws' 0
  down : s'.down = rd ws' 1
  ldk : ∀ j, s'.ld j ≤ s'.k
  ldo : ∀ j, j ≠ i → s'.ld j = s.ld j
  sw : (rd ws' 0 = rd ws 0 ∧ s'.last = s.last) ∨ (∀ j, s'.ld j ≤ s'.last)
  bo : i ≠ 0 → rd ws' 1 = rd ws 1
section
variable {i : Nat} {ws : List Int} {s : Sw} (h1 : s.top = rd ws 0) (h2 : s.down = rd ws 1) (h3 : ∀ j, s.ld j ≤ s.k)
include h1 h2 h3
theorem mo_load (now : Int) (ad : Nat) (had : ad ≠ 0) : Mo i ws s ws (swN s (ldA i now ad ws)) := by
  have e0 : ¬ ((ad : Int) = 0) := by omega
  refine ⟨?_, ?_, fun j => ?_, fun j _ => ?_, .inl ⟨rfl, ?_⟩, fun _ => rfl⟩ <;> simp [swN, ldA, e0, had, h1, h2]
  have := h3 j; omega
theorem mo_load0 (now : Int) : Mo i ws s ws (swN s (ldA i now 0 ws)) ∧ (swN s (ldA i now 0 ws)).ld i = s.k := by
  refine ⟨⟨?_, ?_, fun j => ?_, fun j hj => ?_, .inl ⟨rfl, ?_⟩, fun _ => rfl⟩, ?_⟩
  · simp [swN, ldA, h1]
  · simp [swN, ldA, h2]
  · have := h3 j
    by_cases hj : j = i
    · subst hj; simp [swN, ldA, upd]; omega
    · simp [swN, ldA, upd, hj]; omega
  · simp [swN, ldA, upd, hj]
  · simp [swN, ldA]
  · simp [swN, ldA, upd]
theorem mo_st1 (now x : Int) (hi : i = 0) (hl : 1 < ws.length) : Mo i ws s (ws.set 1 x) (swN s (stA i now 1 x)) := by
  refine ⟨?_, ?_, fun j => ?_, fun j hj => ?_, .inl ⟨rd_other _ (by omega), ?_⟩, fun h => absurd hi h⟩
  · rw [rd_other _ (by omega)]; simp [swN, stA, h1]
  · rw [rd_same _ hl]; simp [swN, stA, hi]
  · have := h3 j; simp [swN, stA]; omega
  · simp [swN, stA]
  · simp [swN, stA]
theorem mo_stc (now x : Int) (ad : Nat) (h0 : ad ≠ 0) (h9 : ad ≠ 1) : Mo i ws s (ws.set ad x) (swN s (stA i now ad x)) := by
  have e0 : ¬ ((ad : Int) = 0) := by omega
  have e1 : ¬ ((ad : Int) = 1) := by omega
  refine ⟨?_, ?_, fun j => ?_, fun j hj => ?_, .inl ⟨rd_other _ h0, ?_⟩, fun h => rd_other _ h9⟩
  · rw [rd_other _ h0]; simp [swN, stA, h1, h0]
  · rw [rd_other _ h9]; simp [swN, stA, h2, h0, e1]
  · have := h3 j; simp [swN, stA, h0]; omega
  · simp [swN, stA, h0]
  · simp [swN, stA, h0]
theorem mo_hit (now t : Int) (hl : 0 < ws.length) (ht : rd ws 0 = t) : Mo i ws s (ws.set 0 (t + 1)) (swN s (swA i now 0 t (t + 1) t)) := by
  refine ⟨?_, ?_, fun j => ?_, fun j hj => ?_, .inr (fun j => ?_), fun h => rd_other _ (by omega)⟩
  · rw [rd_same _ hl]; simp [swN, swA, h1, ht]
  · rw [rd_other _ (by omega)]; simp [swN, swA, h2]
  · have := h3 j; simp [swN, swA]; omega
  · simp [swN, swA]
  · simp [swN, swA]; exact h3 j
theorem mo_miss (now t : Int) (ht : ¬ rd ws 0 = t) : Mo i ws s ws (swN s (swA i now 0 t (t + 1) (rd ws 0))) := by
  refine ⟨?_, ?_, fun j => ?_, fun j hj => ?_, .inl ⟨rfl, ?_⟩, fun h => rfl⟩
  · simp [swN, swA, h1, ht]
  · simp [swN, swA, h2]
  · have := h3 j; simp [swN, swA]; omega
  · simp [swN, swA]
  · simp [swN, swA, ht]
end
/-- What a task holds. -/
def Tk (ws : List Int) (s : Sw) (i : Nat) : Dt → Prop
  | .push .. => True
  | .take nx l t _ => (3 ≤ nx → nx ≤ 6 → rd ws 1 = nU l) ∧ ((nx = 5 ∨ nx = 6) → (t = rd ws 0 ∨ s.ld i ≤ s.last)) ∧ (nx = 6 → t = l)
  | .steal nx t _ => 2 ≤ nx → t = rd ws 0 ∨ s.ld i ≤ s.last
structure Sa (P : Pg Dt Lw) : Prop where
  top : (swS P.lg).top = rd P.ws 0
  down : (swS P.lg).down = rd P.ws 1
  ldk : ∀ j, (swS P.lg).ld j ≤ (swS P.lg).k
  tsk : ∀ i t k, P.pts[i]? = some t → t.tk = some k → Tk P.ws (swS P.lg) i k
/-- Whoever does not move holds what it held. -/
theorem Tk.other {ws ws' : List Int} {s s' : Sw} {i j n : Nat} {k : Dt} (hm : Mo i ws s ws' s') (hj : j ≠ i) (ho : Ok j n k) (h : Tk ws s j k) : Tk ws' s' j k := by
  have key : ∀ t : Int, (t = rd ws 0 ∨ s.ld j ≤ s.last) → (t = rd ws' 0 ∨ s'.ld j ≤ s'.last) := fun t ht => by
    rcases hm.sw with ⟨e1, e2⟩ | h2
    · rw [e1, e2, hm.ldo j hj]; exact ht
    · exact .inr (h2 j)
  cases k with
  | push => trivial
  | take nx l t v =>
    simp only [Ok] at ho
    obtain ⟨q1, q2, q3⟩ := h
    exact ⟨fun a b => by rw [hm.bo (by omega)]; exact q1 a b, fun a => key _ (q2 a), q3⟩
  | steal nx t v => exact fun a => key _ (h a)
/-- A step: its one access, and what the task holds behind it. -/
def St (P : Pg Dt Lw) (i : Nat) (ef : Df) : Prop := ∃ a, ef.la = [a] ∧ Mo i P.ws (swS P.lg) ef.ws (swN (swS P.lg) a) ∧ ∀ k', ef.tk = some k' → Tk ef.ws (swN (swS P.lg) a) i k'
set_option maxHeartbeats 1000000 in
theorem sa_step {r : Nat} {P : Pg Dt Lw} (h : Iv r P) (hn : P.n < 65536) (hS : Sa P) {i : Nat} {t : Pt Dt} {k : Dt} (ht : P.pts[i]? = some t) (hk : t.tk = some k) (now : Int) (fr : Bool) : St P i (stp r fr i now P.ws P.g k) := by
  have hok := h.tsk i t k ht hk
  have htk := hS.tsk i t k ht hk
  obtain ⟨hl, r1, r2, ⟨t1, t2⟩, ⟨b, b1, b2, b3, b4⟩, _⟩ := h
  obtain ⟨s1, s2, s3, _⟩ := hS
  have w0 : wrap64 (rd P.ws 0) = rd P.ws 0 := w64_id _ t1 (by omega)
  have l0 : 0 < P.ws.length := by omega
  have l1 : 1 < P.ws.length := by omega
  have cn := cel_ne r
  unfold St
  generalize swS P.lg = s at *
  have ld0 := mo_load0 (i := i) s1 s2 s3 now
  have ld := fun ad had => mo_load (i := i) s1 s2 s3 now ad had
  cases k with
  | push nx v bt =>
    simp only [Ok] at hok
    obtain rfl | rfl | rfl | rfl : nx = 1 ∨ nx = 2 ∨ nx = 3 ∨ nx = 4 := by omega
    · exact ⟨_, rfl, ld 1 (by omega), fun k' e => by cases e; trivial⟩
    · by_cases hy : (r : Int) ≤ bt - wrap64 (rd P.ws 0)
      · have e2 : stp r fr i now P.ws P.g (.push 2 v bt) = _ := if_pos hy
        rw [e2]; exact ⟨_, rfl, ld0.1, fun k' e => by cases e⟩
      · have e2 : stp r fr i now P.ws P.g (.push 2 v bt) = _ := if_neg hy
        rw [e2]; exact ⟨_, rfl, ld0.1, fun k' e => by cases e; trivial⟩
    · exact ⟨_, rfl, mo_stc s1 s2 s3 now _ _ (cn _).1 (cn _).2, fun k' e => by cases e; trivial⟩
    · exact ⟨_, rfl, mo_st1 s1 s2 s3 now _ hok.1 l1, fun k' e => by cases e⟩
  | take nx l tt v =>
    simp only [Ok] at hok
    obtain ⟨q1, q2, q3⟩ := htk
    obtain rfl | rfl | rfl | rfl | rfl | rfl | rfl : nx = 1 ∨ nx = 2 ∨ nx = 3 ∨ nx = 4 ∨ nx = 5 ∨ nx = 6 ∨ nx = 7 := by omega
    · exact ⟨_, rfl, ld 1 (by omega), fun k' e => by cases e; exact ⟨fun a => by omega, fun a => by omega, fun a => by omega⟩⟩
    · exact ⟨_, rfl, mo_st1 s1 s2 s3 now _ hok.1 l1, fun k' e => by cases e; exact ⟨fun _ _ => rd_same _ l1, fun a => by omega, fun a => by omega⟩⟩
    · have q := q1 (by omega) (by omega)
      by_cases hy : l < wrap64 (rd P.ws 0)
      · have e2 : stp r fr i now P.ws P.g (.take 3 l tt v) = _ := if_pos hy
        rw [e2]; exact ⟨_, rfl, ld0.1, fun k' e => by cases e; exact ⟨fun _ _ => q, fun a => by omega, fun a => by omega⟩⟩
      · have e2 : stp r fr i now P.ws P.g (.take 3 l tt v) = _ := if_neg hy
        rw [e2]; exact ⟨_, rfl, ld0.1, fun k' e => by cases e; exact ⟨fun _ _ => q, fun _ => .inl w0, fun a => by omega⟩⟩
    · exact ⟨_, rfl, mo_st1 s1 s2 s3 now _ hok.1 l1, fun k' e => by cases e⟩
    · have q := q1 (by omega) (by omega)
      have q4 := q2 (.inl rfl)
      by_cases hy : tt < l
      · have e2 : stp r fr i now P.ws P.g (.take 5 l tt v) = _ := if_pos hy
        rw [e2]; exact ⟨_, rfl, ld _ (cn _).1, fun k' e => by cases e⟩
      · have e2 : stp r fr i now P.ws P.g (.take 5 l tt v) = _ := if_neg hy
        rw [e2]
        refine ⟨_, rfl, ld _ (cn _).1, fun k' e => ?_⟩
        cases e
        refine ⟨fun _ _ => q, fun _ => ?_, fun _ => by have := hok.2.2.2.2.2 rfl; omega⟩
        have e0 : ¬ cel r l = 0 := (cn l).1
        simpa [swN, ldA, e0] using q4
    · by_cases hy : rd P.ws 0 = tt
      · have e2 : stp r fr i now P.ws P.g (.take 6 l tt v) = _ := if_pos hy
        rw [e2]; exact ⟨_, rfl, mo_hit s1 s2 s3 now _ l0 hy, fun k' e => by cases e; exact ⟨fun a b => by omega, fun a => by omega, fun a => by omega⟩⟩
      · have e2 : stp r fr i now P.ws P.g (.take 6 l tt v) = _ := if_neg hy
        rw [e2]; exact ⟨_, rfl, mo_miss s1 s2 s3 now _ hy, fun k' e => by cases e; exact ⟨fun a b => by omega, fun a => by omega, fun a => by omega⟩⟩
    · exact ⟨_, rfl, mo_st1 s1 s2 s3 now _ hok.1 l1, fun k' e => by cases e⟩
  | steal nx tt v =>
    simp only [Ok] at hok
    obtain rfl | rfl | rfl | rfl : nx = 1 ∨ nx = 2 ∨ nx = 3 ∨ nx = 4 := by omega
    · exact ⟨_, rfl, ld0.1, fun k' e => by cases e; exact fun _ => .inl w0⟩
    · have q := htk (by omega)
      by_cases hy : wrap64 (rd P.ws 1) - tt ≤ 0
      · have e2 : stp r fr i now P.ws P.g (.steal 2 tt v) = _ := if_pos hy
        rw [e2]; exact ⟨_, rfl, ld 1 (by omega), fun k' e => by cases e⟩
      · have e2 : stp r fr i now P.ws P.g (.steal 2 tt v) = _ := if_neg hy
        rw [e2]; exact ⟨_, rfl, ld 1 (by omega), fun k' e => by cases e; exact fun _ => by simpa [swN, ldA] using q⟩
    · have q := htk (by omega)
      refine ⟨_, rfl, ld _ (cn _).1, fun k' e => ?_⟩
      cases e
      intro _
      have e0 : ¬ cel r tt = 0 := (cn tt).1
      show tt = rd P.ws 0 ∨ _
      simpa [swN, ldA, e0] using q
    · by_cases hy : rd P.ws 0 = tt
      · have e2 : stp r fr i now P.ws P.g (.steal 4 tt v) = _ := if_pos hy
        rw [e2]; exact ⟨_, rfl, mo_hit s1 s2 s3 now _ l0 hy, fun k' e => by cases e⟩
      · have e2 : stp r fr i now P.ws P.g (.steal 4 tt v) = _ := if_neg hy
        rw [e2]; exact ⟨_, rfl, mo_miss s1 s2 s3 now _ hy, fun k' e => by cases e; exact fun a => by omega⟩
theorem Sa.count {P : Pg Dt Lw} (h : Sa P) : Sa P.count := ⟨h.top, h.down, h.ldk, h.tsk⟩
theorem Sa.stepE {r : Nat} {P : Pg Dt Lw} (h : Iv r P) (hS : Sa P) {i : Nat} {t : Pt Dt} {now : Int} {e : Df} (ht : P.pts[i]? = some t) (st : St P i e) : Sa (P.count.stepE i t now e) := by
  obtain ⟨a, ha, hm, hT⟩ := st
  obtain ⟨Q, hQ⟩ : ∃ Q, P.count.stepE i t now e = Q := ⟨_, rfl⟩
  have q1 : Q.ws = e.ws := by rw [← hQ]; unfold Pg.stepE; split <;> rfl
  have q2 : Q.lg = P.lg ++ [a] := by rw [← ha, ← hQ]; unfold Pg.stepE; split <;> rfl
  have q3 : ∃ u : Pt Dt, u.tk = e.tk ∧ Q.pts = P.pts.set i u := by
    rw [← hQ]; unfold Pg.stepE
    split
    · rename_i k hk; exact ⟨_, hk.symm, rfl⟩
    · rename_i hk; exact ⟨_, hk.symm, rfl⟩
  obtain ⟨u, hu, hp⟩ := q3
  rw [hQ]
  have es : swS Q.lg = swN (swS P.lg) a := by rw [q2, swS_snoc]
  refine ⟨by rw [es, q1]; exact hm.top, by rw [es, q1]; exact hm.down, by rw [es]; exact hm.ldk, fun j t' k hj hk => ?_⟩
  rw [es, q1]
  rw [hp] at hj
  rcases pts_set hj with ⟨rfl, rfl⟩ | ⟨hji, hj⟩
  · exact hT k (by rw [← hu]; exact hk)
  · exact (hS.tsk j t' k hj hk).other hm hji (h.tsk j t' k hj hk)
theorem mk_tk {i : Nat} {op arg data : Int} {g : Lw} {k : Dt} {ws : List Int} {s : Sw} (h : mk i op arg data g = some k) : Tk ws s i k := by
  unfold mk at h
  split at h
  · split at h
    · cases h; trivial
    · cases h
  · split at h
    · split at h
      · cases h; exact ⟨fun a => by omega, fun a => by omega, fun a => by omega⟩
      · cases h
    · split at h
      · cases h; exact fun a => by omega
      · cases h
theorem Sa.move {r : Nat} {P : Pg Dt Lw} (h : Iv r P) (hS : Sa P) (th op arg data : Int) : Sa (P.move (dqY r) th op arg data).1 := by
  unfold Pg.move
  split
  · exact hS
  · rename_i hn
    split
    · split
      · exact hS.count
      · rename_i t ht
        split
        · unfold Pg.step
          split
          · exact hS.count
          · rename_i k hk
            exact hS.stepE h ht (sa_step h (by omega) hS ht hk _ t.fr)
        · split
          · exact hS.count
          · unfold Pg.begins
            split
            · exact hS.count
            · rename_i k hk
              refine ⟨hS.top, hS.down, hS.ldk, fun j u k' hj hk' => ?_⟩
              have hj' : (P.pts.set _ _)[j]? = some u := hj
              rcases pts_set hj' with ⟨rfl, rfl⟩ | ⟨_, hj''⟩
              · cases hk'; exact mk_tk (data := data) (g := P.count.g) hk
              · exact hS.tsk j u k' hj'' hk'
    · exact hS.count
theorem sa_new {r : Nat} (nt : Nat) : Sa (P0 nt r) := by
  refine ⟨?_, ?_, fun j => ?_, fun i t k ht hk => ?_⟩
  · show (0 : Int) = rd (List.replicate _ 0) 0
    rw [rd_zero]
  · show (0 : Int) = rd (List.replicate _ 0) 1
    rw [rd_zero]
  · exact Int.le_refl _
  · have ht' : (List.replicate nt (⟨none, false, -1, 0, 0⟩ : Pt Dt))[i]? = some t := ht
    rw [List.getElem?_replicate] at ht'
    split at ht'
    · cases ht'; cases hk
    · cases ht'
end Go.Proofs.Ytihkcbbbgmjogaa.Dm
