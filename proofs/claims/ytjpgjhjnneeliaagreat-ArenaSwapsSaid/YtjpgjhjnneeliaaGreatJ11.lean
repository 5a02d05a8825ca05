import Derived.Test.YtjpgjhjnneeliaaGreatJ07
import Derived.Test.YtjpgjhjnneeliaaGreatJ10
import Derived.Laws.CopyRow
import Derived.Laws.MakeOwn
import Derived.Deep.LoopGhost
import Derived.Test.YtjpgjhjnneeliaaGreatJ03
/-
  slices.Repeat of one slot: n of them.
-/
namespace Go.Proofs.YtjpgjhjnneeliaaGreat.Ar
open Go.RowKit Go.Shelf Mr Me Ma
theorem info_slot : (Tryz.prog.info? 103).map (fun i => (i.zero, i.size, i.bytes)) = some (some (.agg #[.int .i64 0, .int .i64 0]), 2, 16) := by kernel_rfl
def freeS : Int × Int := (0, -1)
def slc (l : List (Int × Int)) : List Value := l.flatMap sla
theorem idle_one : ∀ v ∈ (sla freeS), v.oneCell' = true := by
  intro v hv
  simp [sla, freeS] at hv
  rcases hv with rfl | rfl <;> rfl
theorem rep_one (m : Nat) : ∀ v ∈ slc (List.replicate m freeS), v.oneCell' = true := by
  intro v hv
  simp only [slc, List.mem_flatMap] at hv
  obtain ⟨t, ht, hv⟩ := hv
  rw [(List.mem_replicate.1 ht).2] at hv
  exact idle_one v hv
theorem rep_length (m : Nat) : (slc (List.replicate m freeS)).length = m * 2 := by unfold slc; rw [flat_length sla_len]; simp
theorem rep_take (m k : Nat) (h : k ≤ m) : (slc (List.replicate m freeS)).take (k * 2) = slc (List.replicate k freeS) := by
  have e : List.replicate m freeS = List.replicate k freeS ++ List.replicate (m - k) freeS := by rw [List.replicate_append_replicate]; congr 1; omega
  rw [e]
  unfold slc
  rw [List.flatMap_append, List.take_append_of_le_length (by rw [flat_length sla_len]; simp), List.take_of_length_le (by rw [flat_length sla_len]; simp)]
theorem rep_add (m k : Nat) : slc (List.replicate m freeS) ++ slc (List.replicate k freeS) = slc (List.replicate (m + k) freeS) := by
  unfold slc
  rw [← List.flatMap_append, List.replicate_append_replicate]
/-- The first m of n are laid. -/
structure Lay (w0 : World) (B n : Nat) (m : Nat) (w : World) : Prop where
  row : ∃ cur : Array Value, w.heap[B]? = some (.cells cur 103 (0, 0)) ∧ cur.size = n * 2 ∧ cur.toList.take (m * 2) = slc (List.replicate m freeS)
  bel : Below B w0 w
theorem Lay.copy {w0 w : World} {B n m : Nat} (h : Lay w0 B n m w) (hm : m < n) :
    ∃ w', (∀ ty, (Builtin.copy_ #[98, 98] ty #[.slice (some ⟨B, m * 2, none⟩) (n - m) (n - m), .slice (some ⟨B, 0, none⟩) m n]).run Tryz.prog w = .ok (.int .i64 ((Nat.min m (n - m) : Nat) : Int)) w') ∧ Lay w0 B n (m + Nat.min m (n - m)) w' := by
  obtain ⟨cur, hg, hsz, htk⟩ := h.row
  obtain ⟨k, hk⟩ : ∃ k, k = Nat.min m (n - m) := ⟨_, rfl⟩
  have hkm : k ≤ m := by rw [hk]; exact Nat.min_le_left _ _
  have hkn : m + k ≤ n := by have : Nat.min m (n - m) ≤ n - m := Nat.min_le_right _ _; omega
  rw [← hk]
  have hk5 : k * 2 ≤ m * 2 := Nat.mul_le_mul_right _ hkm
  have hkn5 : m * 2 + k * 2 ≤ n * 2 := by rw [← Nat.add_mul]; exact Nat.mul_le_mul_right _ hkn
  have hsrc : ∀ j v, (slc (List.replicate k freeS))[j]? = some v → w.cell? ((⟨B, 0, none⟩ : Addr).add j) = some v := by
    intro j v hv
    have hadd : (⟨B, 0, none⟩ : Addr).add j = ⟨B, j, none⟩ := by unfold Addr.add; split <;> simp_all
    have hj : j < k * 2 := by have := (List.getElem?_eq_some_iff.1 hv).1; rw [rep_length] at this; exact this
    rw [hadd, cell_of_row w B j cur 103 (0, 0) hg]
    rw [← rep_take m k hkm, ← htk, List.take_take, List.getElem?_take] at hv
    split at hv
    · simpa using hv
    · cases hv
  have hr := fun ty => run_copy_rowN (P := Tryz.prog) w 98 98 ty 103 B (m * 2) (n - m) (n - m) ⟨B, 0, none⟩ m n 2 cur 103 (slc (List.replicate k freeS)) Tryz.underlying98 (by kernel_rfl) hg (by rw [rep_length, ← hk]) hsrc (by rw [rep_length]; omega) (rep_one k)
  simp only [← hk] at hr
  refine ⟨_, hr, ⟨⟨_, setRow_heap w B cur _ 103 _ hg, ?_, ?_⟩, ?_⟩⟩
  · simp only [List.size_toArray, List.length_append, List.length_take, List.length_drop, Array.length_toList, rep_length, hsz]
    omega
  · have e1 : cur.toList.take (m * 2) ++ slc (List.replicate k freeS) = slc (List.replicate (m + k) freeS) := by rw [htk, rep_add]
    show ((_ : List Value)).take _ = _
    rw [e1]
    exact List.take_left' (rep_length _)
  · exact ⟨h.bel.os, h.bel.tape, h.bel.output, by have := h.bel.size; simpa using this, fun j hj => (setRow_other w B j _ (by omega)).trans (h.bel.block j hj)⟩
set_option maxRecDepth 100000 in
set_option maxHeartbeats 2000000 in
theorem repeat_any (w : World) (g n : Nat) (h1 : 1 ≤ n) (h2 : n ≤ 1024) (hg : w.heap[g]? = some (.cells #[.int .i64 0, .int .i64 (-1)] 103 (0, 0))) :
    Calls Tryz.prog 38 #[.slice (some ⟨g, 0, none⟩) 1 1, .int .i64 (n : Int)] w fun e w' => e = .returned (.slice (some ⟨w.heap.size, 0, none⟩) n n) ∧ Has w' (fun k => w.heap.size ≤ k) 103 2 (.slice (some ⟨w.heap.size, 0, none⟩) n n) n (slc (List.replicate n freeS)) ∧ Below w.heap.size w w' := by
  obtain ⟨i0, hi, hz0, hz1, hz2⟩ := info_parts info_slot
  have M := mul_one n (by omega) w
  have hmk : ∀ u : World, (Instr.makeSlice 98 (.int .i64 (n : Int)) (.int .i64 (n : Int))).run Tryz.prog u = .ok (.slice (some ⟨u.heap.size, 0, none⟩) n n) (u.alloc (.cells (madeCells #[.int .i64 0, .int .i64 0] (n * 2)) 103)) := fun u => by
    have h := run_make (P := Tryz.prog) u 98 103 i0 (.agg #[.int .i64 0, .int .i64 0]) Tryz.underlying98 hi hz0 .i64 .i64 (n : Int) (n : Int) (by omega) (Int.le_refl _) (by rw [hz2]; omega) (by omega)
    have e : ((n : Int)).toNat = n := by omega
    rw [e] at h
    rw [hz1] at h
    simpa [Value.cells] using h
  have hgl := (Array.getElem?_eq_some_iff.1 hg).1
  obtain ⟨W1, hW1⟩ : ∃ W1, w.alloc (.cells (madeCells #[.int .i64 0, .int .i64 0] (n * 2)) 103) = W1 := ⟨_, rfl⟩
  have hr1 : W1.heap[w.heap.size]? = some (.cells (madeCells #[.int .i64 0, .int .i64 0] (n * 2)) 103 (0, 0)) := by rw [← hW1]; exact heap_alloc_new w _
  have hms : (madeCells #[Value.int .i64 0, .int .i64 0] (n * 2)).size = n * 2 := size_madeCells _ _
  have hB1 : Below w.heap.size w W1 := by rw [← hW1]; exact (Below.refl _ _).alloc (Nat.le_refl _) _
  have hg1 : W1.heap[g]? = some (.cells #[.int .i64 0, .int .i64 (-1)] 103 (0, 0)) := (hB1.block g hgl).trans hg
  have hsrc : ∀ j v, (sla freeS)[j]? = some v → W1.cell? ((⟨g, 0, none⟩ : Addr).add j) = some v := World.news_of_block hg1
  have hmin : Nat.min 1 n = 1 := Nat.min_eq_left h1
  have hc0 : ∀ ty, (Builtin.copy_ #[98, 98] ty #[.slice (some ⟨w.heap.size, 0, none⟩) n n, .slice (some ⟨g, 0, none⟩) 1 1]).run Tryz.prog W1 = .ok (.int .i64 1) (W1.setRow w.heap.size ((madeCells #[Value.int .i64 0, .int .i64 0] (n * 2)).toList.take 0 ++ (sla freeS) ++ (madeCells #[Value.int .i64 0, .int .i64 0] (n * 2)).toList.drop (0 + (sla freeS).length)).toArray) := fun ty => by
    have := run_copy_rowN (P := Tryz.prog) W1 98 98 ty 103 w.heap.size 0 n n ⟨g, 0, none⟩ 1 1 2 _ 103 (sla freeS) Tryz.underlying98 (by kernel_rfl) hr1 (by rw [hmin]; rfl) hsrc (by rw [hms]; simp [sla]; omega) idle_one
    rw [hmin] at this
    exact this
  have L1 : Lay w w.heap.size n 1 (W1.setRow w.heap.size ((madeCells #[Value.int .i64 0, .int .i64 0] (n * 2)).toList.take 0 ++ (sla freeS) ++ (madeCells #[Value.int .i64 0, .int .i64 0] (n * 2)).toList.drop (0 + (sla freeS).length)).toArray) := by
    refine ⟨⟨_, setRow_heap W1 _ _ _ 103 _ hr1, ?_, ?_⟩, ⟨hB1.os, hB1.tape, hB1.output, by have := hB1.size; simpa using this, fun j hj => (setRow_other W1 _ j _ (by omega)).trans (hB1.block j hj)⟩⟩
    · simp only [List.size_toArray, List.length_append, List.length_take, List.length_drop, Array.length_toList, hms, sla_len]
      omega
    · simp only [List.take_zero, List.nil_append]
      exact List.take_left' (sla_len _)
  generalize W1.setRow w.heap.size ((madeCells #[Value.int .i64 0, .int .i64 0] (n * 2)).toList.take 0 ++ (sla freeS) ++ (madeCells #[Value.int .i64 0, .int .i64 0] (n * 2)).toList.drop (0 + (sla freeS).length)).toArray = W2 at *
  have hmk' := hmk w
  rw [hW1] at hmk'
  have hd1 : decide ((n : Int) < 0) = false := by simp
  have hd2 : decide (9223372036854775807 < (n : Int)) = false := by simp; omega
  have hn16 : (n : Int) ≤ 1024 := by omega
  clear hmk hW1 hr1 hms hB1 hg1 hsrc hmin hg
  replace L1 := Mr.hid L1
  go_enter Tryz.func38, Tryz.ntmps38
  go_wp2_with (go_at_call 66; refine M.mono ?_; clear M; rintro e w' ⟨rfl, hw⟩; obtain rfl := hw.symm)
  go_loopg [8] n (fun k s wr => ∃ m : Nat, s = .int .i64 (m : Int) ∧ m + k = n + 1 ∧ 1 ≤ m ∧ m ≤ n ∧ Lay w w.heap.size n m wr)
  case atStart => exact ⟨1, rfl, by omega, Nat.le_refl _, h1, L1.out⟩
  case round =>
    obtain ⟨m, rfl, hmk, hm1, hmn, L⟩ := hrel
    by_cases hlt : m < n
    · have hLd : Lay w w.heap.size n m wr.drew := ⟨L.row, L.bel.drew⟩
      obtain ⟨w3, hc3, L3⟩ := hLd.copy hlt
      have hne : m ≠ n := by omega
      have hlt' : (m : Int) < (n : Int) := by omega
      have hmn' : (m : Int) ≤ (n : Int) := by omega
      have hmin : Nat.min m (n - m) ≤ n - m := Nat.min_le_right _ _
      have hmin1 : 1 ≤ Nat.min m (n - m) := Nat.le_min.2 ⟨hm1, by omega⟩
      generalize hk : Nat.min m (n - m) = k at *
      have hks : (m : Int) + (k : Int) ≤ 1024 := by omega
      replace L3 := Mr.hid L3
      replace L := Mr.hid L
      clear hLd hk hc0 hmk'
      go_wp2
      go_region
      all_goals go_wp2
      all_goals go_roundg (gk - k)
      case measure => omega
      case rel => exact ⟨m + k, by simp, by omega, by omega, by omega, L3.out⟩
    · obtain rfl : m = n := by omega
      go_wp2
      go_ret
      obtain ⟨cur, hg, hsz, htk⟩ := L.row
      refine ⟨rfl, ⟨rep_length _, .inr ⟨_, _, cur, rfl, Nat.le_refl _, hg, Nat.le_refl _, by unfold maxLen; omega, by omega, htk⟩⟩, L.bel⟩
end Go.Proofs.YtjpgjhjnneeliaaGreat.Ar
/-
  THE DESK, further: Store, Thread, Shift by their contracts.
-/
namespace Go.Proofs.YtjpgjhjnneeliaaGreat.Ma
open Go.RowKit Mr Me
section
variable {W0 : World} {U0 S0 X0 : Nat → Prop} {p : Ph} {i : Nat} {now : Int} {X : Nat → Obj → Prop} {s : Ss} {W : World} {sp : Bool}
def Ss.stores (s : Ss) (i : Nat) (now : Int) (ad : Nat) (x : Int) : Ss := { s with mv := now, ws := s.ws.set ad x, lg := s.lg ++ [⟨now, i, 2, ad, 0, x, 0⟩], ah := s.ah ++ [s.ws[ad]?.getD 0] }
set_option maxRecDepth 100000 in
set_option maxHeartbeats 1000000 in
theorem desk_store (h : D W0 U0 S0 X0 p i now X false s W) (hb : Me.Roomy s.lg s.ah) (ad : Nat) (hi : ad < s.ws.length) (x : Int) :
    Calls Tryz.prog 140 #[.pointer (some ⟨p.bd, 0, none⟩), .int .i64 (ad : Int), .int .u64 x] W fun e w' => e = .returned (.tuple #[]) ∧ D W0 U0 S0 X0 p i now X true (s.stores i now ad x) w' := by
  have C := access_yes h
  have L : ∀ w1, D W0 U0 S0 X0 p i now X false { s with mv := now } w1 → Calls Tryz.prog 142 #[.pointer (some ⟨p.bm, 0, none⟩), .int .i64 (i : Int), .int .i64 (ad : Int), .int .u64 x] w1 fun e w' => e = .returned (.int .i64 0) ∧ D W0 U0 S0 X0 p i now X false (s.stores i now ad x) w' := fun w1 h1 => by
    obtain ⟨U, S, vl, va, hx, hm, hd, hU, hS0, hU0, hU1, hf⟩ := h1
    refine (store_ok hm.mem hb i x ad hi).mono ?_
    rintro e w' ⟨rfl, ⟨vl', va', hm'⟩, hf'⟩
    exact ⟨rfl, D.turned (s := { s with mv := now }) hx hm hd hU hS0 hU0 hU1 hf hm' hf'⟩
  clear h hb
  generalize s.stores i now ad x = s' at *
  generalize ({ s with mv := now } : Ss) = s1 at *
  clear hi
  go_enter Tryz.func140, Tryz.ntmps140
  go_wp2_with (go_at_call 120; refine C.mono ?_; clear C; rintro e w1 ⟨rfl, h1⟩; obtain ⟨d0, e0, e1, e2, e3, e4, e4z, b0, b1⟩ := h1.cells)
  replace h1 := Mr.hid h1
  go_region_held3 (fun w' => w'.cell? ⟨p.bd, 0, none⟩ = some (.pointer (some ⟨p.be, 0, none⟩)) ∧ w'.cell? ⟨p.be, 0, none⟩ = some (.pointer (some ⟨p.bb, 0, none⟩)) ∧ w'.cell? ⟨p.be, 2, none⟩ = some (.int .i64 (i : Int)) ∧ w'.cell? ⟨p.bb, 0, none⟩ = some (.pointer (some ⟨p.bm, 0, none⟩))) (go_keep)
    (first | (go_at_call 142; refine (L _ h1.out.drew).mono ?_; clear L; rintro e w2 ⟨rfl, h2⟩; obtain ⟨g0, g1, g2, g3, g4, g5, g5z, g6, g7⟩ := h2.cells; replace h2 := Mr.hid h2))
  go_wp2
  go_end0
  exact ⟨rfl, h2.out.spent true⟩
theorem thread_desk {bd be bb : Nat} {pt : Addr} {i now : Int} (h : Dk W bd be bb pt i now sp) : Calls Tryz.prog 128 #[.pointer (some ⟨bd, 0, none⟩)] W fun e w' => e = .returned (.int .i64 i) ∧ w' = W := by
  have d0 := h.d0
  have e3 := h.e2
  have C := open_yes h
  clear h
  go_enter Tryz.func128, Tryz.ntmps128
  go_wp2_with (go_at_call 105; refine C.mono ?_; clear C; rintro e w' ⟨rfl, hw⟩; obtain rfl := hw.symm)
  go_ret
  exact ⟨rfl, rfl⟩
end
end Go.Proofs.YtjpgjhjnneeliaaGreat.Ma
/-
  THE STATE WITHIN A STEP, with a set T of blocks that hold whatever objects lie beside the machine (an arena, tasks, boxes): what the desk's calls leave as it is, and what may be written there.
-/
namespace Go.Proofs.YtjpgjhjnneeliaaGreat.Ma
open Go.RowKit Mr Me
/-- The blocks T, as they lie at W. -/
def snap (W : World) (T : Nat → Prop) : Nat → Obj → Prop := fun k o => T k ∧ W.heap[k]? = some o
/-- The blocks T are as they were. -/
def Sm (W w : World) (T : Nat → Prop) : Prop := ∀ k, T k → w.heap[k]? = W.heap[k]?
def E (W0 : World) (U0 S0 X0 : Nat → Prop) (p : Ph) (i : Nat) (now : Int) (T : Nat → Prop) (sp : Bool) (s : Ss) (W : World) : Prop :=
  ∃ vs, (X0 p.bb ∧ ∀ k, vs.ownBlock = some k → X0 k ∨ W0.heap.size ≤ k) ∧ (∀ k, T k → X0 k ∨ W0.heap.size ≤ k) ∧ (∀ k, T k → k < W.heap.size) ∧ D W0 U0 S0 X0 { p with vs := vs } i now (snap W T) sp s W
theorem Sm.refl (W : World) (T : Nat → Prop) : Sm W W T := fun _ _ => rfl
theorem Sm.trans {a b c : World} {T : Nat → Prop} (h : Sm a b T) (k : Sm b c T) : Sm a c T := fun j hj => (k j hj).trans (h j hj)
theorem Sm.mono {a b : World} {T T' : Nat → Prop} (h : Sm a b T) (hT : ∀ k, T' k → T k) : Sm a b T' := fun j hj => h j (hT j hj)
theorem Sm.cell {a b : World} {T : Nat → Prop} (h : Sm a b T) {k : Nat} (hk : T k) (j : Nat) : b.cell? ⟨k, j, none⟩ = a.cell? ⟨k, j, none⟩ := World.cell?_of_block (h k hk)
section
variable {W0 : World} {U0 S0 X0 : Nat → Prop} {p : Ph} {i : Nat} {now : Int} {T : Nat → Prop} {s s' : Ss} {W w : World} {sp sp' : Bool} {vs : Value}
theorem D.monoX {X X' : Nat → Obj → Prop} (h : D W0 U0 S0 X0 p i now X sp s W) (hX : ∀ k o, X' k o → X k o) : D W0 U0 S0 X0 p i now X' sp s W := by
  obtain ⟨U, S, vl, va, hx, hr⟩ := h
  exact ⟨U, S, vl, va, fun k o hk => hx k o (hX k o hk), hr⟩
theorem E.back (hvs : X0 p.bb ∧ ∀ k, vs.ownBlock = some k → X0 k ∨ W0.heap.size ≤ k) (hT0 : ∀ k, T k → X0 k ∨ W0.heap.size ≤ k) (hTl : ∀ k, T k → k < W.heap.size) (h : D W0 U0 S0 X0 { p with vs := vs } i now (snap W T) sp s w) : E W0 U0 S0 X0 p i now T sp s w ∧ Sm W w T := by
  have hk : ∀ k, T k → w.heap[k]? = W.heap[k]? ∧ k < w.heap.size := fun k hk => by
    have h1 := Array.getElem?_eq_getElem (hTl k hk)
    have h2 := D.at h (k := k) ⟨hk, h1⟩
    exact ⟨h2.trans h1.symm, (Array.getElem?_eq_some_iff.1 h2).1⟩
  exact ⟨⟨vs, hvs, hT0, fun k h => (hk k h).2, h.monoX (fun k o ho => ⟨ho.1, ((hk k ho.1).1).symm.trans ho.2⟩)⟩, fun k h => (hk k h).1⟩
theorem E.drew (h : E W0 U0 S0 X0 p i now T sp s W) : E W0 U0 S0 X0 p i now T sp s W.drew := by
  obtain ⟨vs, h1, h2, h3, h4⟩ := h
  exact ⟨vs, h1, h2, h3, h4.drew⟩
theorem E.size (h : E W0 U0 S0 X0 p i now T sp s W) : W0.heap.size ≤ W.heap.size := by
  obtain ⟨vs, h1, h2, h3, h4⟩ := h
  exact h4.size
theorem E.dk (h : E W0 U0 S0 X0 p i now T sp s W) : Dk W p.bd p.be p.bb ⟨p.gt, i * 5, none⟩ i now sp := by
  obtain ⟨vs, h1, h2, h3, h4⟩ := h
  exact h4.dk
theorem E.tl (h : E W0 U0 S0 X0 p i now T sp s W) : ∀ k, T k → k < W.heap.size := by
  obtain ⟨vs, h1, h2, h3, h4⟩ := h
  exact h3
theorem E.load (h : E W0 U0 S0 X0 p i now T false s W) (hb : Me.Roomy s.lg s.ah) (ad : Nat) (hi : ad < s.ws.length) :
    Calls Tryz.prog 110 #[.pointer (some ⟨p.bd, 0, none⟩), .int .i64 (ad : Int)] W fun e w' => e = .returned (.int .u64 (s.ws[ad]?.getD 0)) ∧ E W0 U0 S0 X0 p i now T true (s.loads i now ad) w' ∧ Sm W w' T := by
  obtain ⟨vs, h1, h2, h3, h4⟩ := h
  refine (desk_load h4 hb ad hi).mono ?_
  rintro e w' ⟨rfl, h5⟩
  exact ⟨rfl, E.back h1 h2 h3 h5⟩
theorem E.store (h : E W0 U0 S0 X0 p i now T false s W) (hb : Me.Roomy s.lg s.ah) (ad : Nat) (hi : ad < s.ws.length) (x : Int) :
    Calls Tryz.prog 140 #[.pointer (some ⟨p.bd, 0, none⟩), .int .i64 (ad : Int), .int .u64 x] W fun e w' => e = .returned (.tuple #[]) ∧ E W0 U0 S0 X0 p i now T true (s.stores i now ad x) w' ∧ Sm W w' T := by
  obtain ⟨vs, h1, h2, h3, h4⟩ := h
  refine (desk_store h4 hb ad hi x).mono ?_
  rintro e w' ⟨rfl, h5⟩
  exact ⟨rfl, E.back h1 h2 h3 h5⟩
theorem E.hit (h : E W0 U0 S0 X0 p i now T false s W) (hb : Me.Roomy s.lg s.ah) (ad : Nat) (hi : ad < s.ws.length) (old x : Int) (ho : s.ws[ad]?.getD 0 = old) :
    Calls Tryz.prog 113 #[.pointer (some ⟨p.bd, 0, none⟩), .int .i64 (ad : Int), .int .u64 old, .int .u64 x] W fun e w' => e = .returned (.bool true) ∧ E W0 U0 S0 X0 p i now T true (s.hits i now ad old x) w' ∧ Sm W w' T := by
  obtain ⟨vs, h1, h2, h3, h4⟩ := h
  refine (desk_hit h4 hb ad hi old x ho).mono ?_
  rintro e w' ⟨rfl, h5⟩
  exact ⟨rfl, E.back h1 h2 h3 h5⟩
theorem E.miss (h : E W0 U0 S0 X0 p i now T false s W) (hb : Me.Roomy s.lg s.ah) (ad : Nat) (hi : ad < s.ws.length) (old x : Int) (ho : s.ws[ad]?.getD 0 ≠ old) :
    Calls Tryz.prog 113 #[.pointer (some ⟨p.bd, 0, none⟩), .int .i64 (ad : Int), .int .u64 old, .int .u64 x] W fun e w' => e = .returned (.bool false) ∧ E W0 U0 S0 X0 p i now T true (s.misses i now ad old x) w' ∧ Sm W w' T := by
  obtain ⟨vs, h1, h2, h3, h4⟩ := h
  refine (desk_miss h4 hb ad hi old x ho).mono ?_
  rintro e w' ⟨rfl, h5⟩
  exact ⟨rfl, E.back h1 h2 h3 h5⟩
theorem E.answer (h : E W0 U0 S0 X0 p i now T sp s W) (t : Th) (ht : s.ths[i]? = some t) (ak av : Int) :
    Calls Tryz.prog 101 #[.pointer (some ⟨p.bd, 0, none⟩), .agg #[.int .i64 ak, .int .i64 av]] W fun e w' => e = .returned (.tuple #[]) ∧ E W0 U0 S0 X0 p i now T sp { s with ths := s.ths.set i { t with ak := ak, av := av } } w' ∧ Sm W w' T := by
  obtain ⟨vs, h1, h2, h3, h4⟩ := h
  refine (answer_any h4 t ht ak av).mono ?_
  rintro e w' ⟨rfl, h5⟩
  exact ⟨rfl, E.back h1 h2 h3 h5⟩
/-- What is written into the blocks T, and what is new: T' are the blocks that count from then on. -/
theorem E.write {T' : Nat → Prop} (h : E W0 U0 S0 X0 p i now T sp s W) (hf : Fr W w T) (hT : ∀ k, T' k → k < w.heap.size ∧ (T k ∨ W.heap.size ≤ k)) : E W0 U0 S0 X0 p i now T' sp s w := by
  obtain ⟨vs, h1, h2, h3, U, S, vl, va, hx, hm, hd, hU, hS0, hU0, hU1, hf0⟩ := h
  have h0 := hf0.size
  have hs := hf.size
  have hx' : ∀ k, T k → U k ∧ ¬ S k ∧ k ≠ p.b ∧ k ≠ p.bb ∧ k ≠ p.gt ∧ p.vc.ownBlock ≠ some k ∧ vs.ownBlock ≠ some k := fun k hk => (hx k _ ⟨hk, Array.getElem?_eq_getElem (h3 k hk)⟩).2
  have hk : ∀ k, U k → ¬ T k → w.heap[k]? = W.heap[k]? := fun k hu ht => hf.block k (hm.ul k hu) ht
  have nt : ∀ {k}, (T k → False) → U k → w.heap[k]? = W.heap[k]? := fun hn hu => hk _ hu hn
  have up : ∀ k, U k → (U k ∨ W.heap.size ≤ k) ∧ k < w.heap.size := fun k hu => ⟨.inl hu, Nat.lt_of_lt_of_le (hm.ul k hu) hs⟩
  refine ⟨vs, h1, fun k hk => (hT k hk).2.elim (h2 k) (fun h => .inr (by omega)), fun k hk => (hT k hk).1, fun k => (U k ∨ W.heap.size ≤ k) ∧ k < w.heap.size, S, vl, va, ?_, ?_, ?_, ⟨?_, ?_, hU.2.2⟩, hS0, ?_, fun k hk => up k (hU1 k hk), ?_⟩
  · rintro k o ⟨hk1, hk2⟩
    obtain ⟨hl, ht | ht⟩ := hT k hk1
    · obtain ⟨y1, y2⟩ := hx' k ht
      exact ⟨hk2, up k y1, y2⟩
    · have hgt := (hm.thr.lt p.gt rfl).2
      have hb := hm.lt
      have hbb := hm.ltb
      simp only at hb hbb
      refine ⟨hk2, ⟨.inr ht, hl⟩, fun hS => ?_, ?_, ?_, ?_, fun e => ?_, fun e => ?_⟩
      · have := hm.ul k (hm.su k hS); omega
      · simp only; omega
      · simp only; omega
      · simp only; omega
      · have := (hm.cal.lt k e).2; omega
      · have := (hm.shf.lt k e).2; omega
  · have hgt := (hm.thr.lt p.gt rfl).1
    exact ⟨(nt (fun ht => (hx' _ ht).2.2.1 rfl) hm.ub.1).trans hm.blk, (nt (fun ht => (hx' _ ht).2.2.2.1 rfl) hm.ubb.1).trans hm.bk, hm.mem.kept (fun k hs' _ => nt (fun ht => (hx' _ ht).2.1 hs') (hm.su k hs')),
      hm.thr.kept (fun k e => nt (fun ht => (hx' _ ht).2.2.2.2.1 (by simpa [Value.ownBlock] using e.symm)) (hm.thr.lt k e).1.1) (fun k e => ⟨up k (hm.thr.lt k e).1.1, (hm.thr.lt k e).1.2⟩),
      hm.cal.kept (fun k e => nt (fun ht => (hx' _ ht).2.2.2.2.2.1 e) (hm.cal.lt k e).1.1) (fun k e => ⟨up k (hm.cal.lt k e).1.1, (hm.cal.lt k e).1.2⟩),
      hm.shf.kept (fun k e => nt (fun ht => (hx' _ ht).2.2.2.2.2.2 e) (hm.shf.lt k e).1.1) (fun k e => ⟨up k (hm.shf.lt k e).1.1, (hm.shf.lt k e).1.2⟩),
      ⟨up _ hm.ub.1, hm.ub.2⟩, ⟨up _ hm.ubb.1, hm.ubb.2⟩, fun k hk => up k (hm.su k hk), fun k hk => hk.2⟩
  · exact hd.kept (hf.block _ hd.ltd (fun ht => hU.1 (hx' _ ht).1)) (hf.block _ hd.lte (fun ht => hU.2.1 (hx' _ ht).1))
  · rintro ⟨h | h, _⟩
    · exact hU.1 h
    · have := hd.ltd; simp only at h this; omega
  · rintro ⟨h | h, _⟩
    · exact hU.2.1 h
    · have := hd.lte; simp only at h this; omega
  · rintro k ⟨h | h, _⟩
    · exact hU0 k h
    · exact .inr (by omega)
  · refine hf0.trans (hf.mono (fun k hk => ?_))
    rcases h2 k hk with h | h
    · exact .inl (.inr (.inl h))
    · exact .inr h
theorem E.sub {T' : Nat → Prop} (h : E W0 U0 S0 X0 p i now T sp s W) (hT : ∀ k, T' k → T k) : E W0 U0 S0 X0 p i now T' sp s W :=
  h.write (Fr.refl _ _) (fun k hk => ⟨h.tl k (hT k hk), .inl (hT k hk)⟩)
theorem E.below (h : E W0 U0 S0 X0 p i now T sp s W) (hB : Below W.heap.size W w) : E W0 U0 S0 X0 p i now T sp s w ∧ Sm W w T :=
  ⟨h.write (Fr.of_below hB) (fun k hk => ⟨Nat.lt_of_lt_of_le (h.tl k hk) hB.size, .inl hk⟩), fun k hk => hB.block k (h.tl k hk)⟩
theorem E.set {k j : Nat} {v : Value} (h : E W0 U0 S0 X0 p i now T sp s W) (hk : T k) : E W0 U0 S0 X0 p i now T sp s (W.setCell ⟨k, j, none⟩ v) :=
  h.write ((Fr.refl W T).setCell _ _ (.inl hk)) (fun k' hk' => ⟨by simpa using h.tl k' hk', .inl hk'⟩)
end
end Go.Proofs.YtjpgjhjnneeliaaGreat.Ma
