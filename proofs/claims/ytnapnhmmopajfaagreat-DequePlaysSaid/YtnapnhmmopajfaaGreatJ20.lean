import Derived.Test.YtnapnhmmopajfaaGreatJ14
import Derived.Test.YtnapnhmmopajfaaGreatChecked
import Derived.WalkKit
import Derived.WalkSpells
import Derived.OpenShut
import Derived.Test.YtnapnhmmopajfaaGreatJ11
import Derived.Shelf.Abstract
import Derived.Laws.CopyRow
import Derived.Laws.MakeOwn
import Derived.Deep.LoopGhost
/-
  math/bits.Mul of one and a number.
-/
namespace Go.Proofs.YtnapnhmmopajfaaGreat.Ma
open Go.RowKit
set_option maxRecDepth 100000 in
set_option maxHeartbeats 4000000 in
theorem mul_one (n : Nat) (h2 : n ≤ 65536) (w : World) : Calls Tryz.prog 46 #[.int .u64 1, .int .u64 (n : Int)] w fun e w' => e = .returned (.tuple #[.int .u64 0, .int .u64 (n : Int)]) ∧ w' = w := by
  have M : Calls Tryz.prog 59 #[.int .u64 1, .int .u64 (n : Int)] w fun e w' => e = .returned (.tuple #[.int .u64 0, .int .u64 (n : Int)]) ∧ w' = w := by
    have a1 : bits .and .u64 (n : Int) 4294967295 = (n : Int) := by rw [Wp.and_low _ (by omega) (by omega)]; omega
    have a2 : (n : Int) / 4294967296 = 0 := by omega
    have a3 : IntKind.u64.wrap (n : Int) = (n : Int) := Wp.wrapu64_small _ (by omega) (by omega)
    have a4 : bits .and .u64 1 4294967295 = 1 := by rw [Wp.and_low _ (by omega) (by omega)]; rfl
    have a5 : bits .and .u64 0 4294967295 = 0 := by rw [Wp.and_low _ (by omega) (by omega)]; rfl
    have a6 : IntKind.u64.wrap 0 = 0 := Wp.wrapu64_small _ (by omega) (by omega)
    go_enter Tryz.func59, Tryz.ntmps59
    go_wp2
    go_ret2
    exact ⟨rfl, rfl⟩
  go_enter Tryz.func46, Tryz.ntmps46
  go_wp2_with (go_at_call 59; refine M.mono ?_; clear M; rintro e w' ⟨rfl, hw⟩; obtain rfl := hw.symm)
  go_ret2
  exact ⟨rfl, rfl⟩
end Go.Proofs.YtnapnhmmopajfaaGreat.Ma
/-
  slices.Repeat of one thread: n of them.
-/
namespace Go.Proofs.YtnapnhmmopajfaaGreat.Ma
open Go.RowKit Go.Shelf Mr Me
section
variable {P : Program}
theorem run_copy_rowN (w : World) (dT sT ty elem : TypeId) (g o dLen dCap : Nat) (a : Addr) (sLen sCap m : Nat) (cur : Array Value) (t : TypeId) (cs : List Value)
    (hu : P.underlying dT = some (.slice elem)) (hs : (P.info? elem).map (·.size) = some m)
    (hg : w.heap[g]? = some (.cells cur t (0, 0))) (hn : cs.length = Nat.min sLen dLen * m)
    (hsrc : ∀ j v, cs[j]? = some v → w.cell? (a.add j) = some v) (hfit : o + cs.length ≤ cur.size) (h1 : ∀ v ∈ cs, v.oneCell' = true) :
    (Builtin.copy_ #[dT, sT] ty #[.slice (some ⟨g, o, none⟩) dLen dCap, .slice (some a) sLen sCap]).run P w =
      .ok (goInt (Nat.min sLen dLen)) (w.setRow g (cur.toList.take o ++ cs ++ cur.toList.drop (o + cs.length)).toArray) := by
  have hl := run_loadCells_list (P := P) w a cs hsrc
  have hst := run_storeCells_at P g o t cs 0 cur w hg (by simpa using hfit) h1
  cases hq : P.info? elem with
  | none => simp [hq] at hs
  | some i =>
    have hi : i.size = m := by simpa [hq] using hs
    simp [Builtin.copy_, run_underlying hu, Builtin.lenOf, Builtin.firstCells, sizeOf, typeInfo, hq, hi, ← hn, hl, hst]
end
theorem info_thread : (Tryz.prog.info? 87).map (fun i => (i.zero, i.size, i.bytes)) = some (some (.agg #[.nilIface, .bool false, .int .i64 0, .int .i64 0, .int .i64 0]), 5, 48) := by kernel_rfl
def idleT : Th := ⟨.nilIface, false, -1, 0, 0⟩
theorem idle_one : ∀ v ∈ idleT.cells, v.oneCell' = true := by
  intro v hv
  simp [Th.cells, idleT] at hv
  rcases hv with rfl | rfl | rfl | rfl <;> rfl
theorem rep_one (m : Nat) : ∀ v ∈ thc (List.replicate m idleT), v.oneCell' = true := by
  intro v hv
  simp only [thc, List.mem_flatMap] at hv
  obtain ⟨t, ht, hv⟩ := hv
  rw [(List.mem_replicate.1 ht).2] at hv
  exact idle_one v hv
theorem rep_length (m : Nat) : (thc (List.replicate m idleT)).length = m * 5 := by unfold thc; rw [flat_length th_len]; simp
theorem rep_take (m k : Nat) (h : k ≤ m) : (thc (List.replicate m idleT)).take (k * 5) = thc (List.replicate k idleT) := by
  have e : List.replicate m idleT = List.replicate k idleT ++ List.replicate (m - k) idleT := by rw [List.replicate_append_replicate]; congr 1; omega
  rw [e]
  unfold thc
  rw [List.flatMap_append, List.take_append_of_le_length (by rw [flat_length th_len]; simp), List.take_of_length_le (by rw [flat_length th_len]; simp)]
theorem rep_add (m k : Nat) : thc (List.replicate m idleT) ++ thc (List.replicate k idleT) = thc (List.replicate (m + k) idleT) := by
  unfold thc
  rw [← List.flatMap_append, List.replicate_append_replicate]
/-- The first m of n are laid. -/
structure Lay (w0 : World) (B n : Nat) (m : Nat) (w : World) : Prop where
  row : ∃ cur : Array Value, w.heap[B]? = some (.cells cur 87 (0, 0)) ∧ cur.size = n * 5 ∧ cur.toList.take (m * 5) = thc (List.replicate m idleT)
  bel : Below B w0 w
theorem Lay.copy {w0 w : World} {B n m : Nat} (h : Lay w0 B n m w) (hm : m < n) :
    ∃ w', (∀ ty, (Builtin.copy_ #[78, 78] ty #[.slice (some ⟨B, m * 5, none⟩) (n - m) (n - m), .slice (some ⟨B, 0, none⟩) m n]).run Tryz.prog w = .ok (.int .i64 ((Nat.min m (n - m) : Nat) : Int)) w') ∧ Lay w0 B n (m + Nat.min m (n - m)) w' := by
  obtain ⟨cur, hg, hsz, htk⟩ := h.row
  obtain ⟨k, hk⟩ : ∃ k, k = Nat.min m (n - m) := ⟨_, rfl⟩
  have hkm : k ≤ m := by rw [hk]; exact Nat.min_le_left _ _
  have hkn : m + k ≤ n := by have : Nat.min m (n - m) ≤ n - m := Nat.min_le_right _ _; omega
  rw [← hk]
  have hk5 : k * 5 ≤ m * 5 := Nat.mul_le_mul_right _ hkm
  have hkn5 : m * 5 + k * 5 ≤ n * 5 := by rw [← Nat.add_mul]; exact Nat.mul_le_mul_right _ hkn
  have hsrc : ∀ j v, (thc (List.replicate k idleT))[j]? = some v → w.cell? ((⟨B, 0, none⟩ : Addr).add j) = some v := by
    intro j v hv
    have hadd : (⟨B, 0, none⟩ : Addr).add j = ⟨B, j, none⟩ := by unfold Addr.add; split <;> simp_all
    have hj : j < k * 5 := by have := (List.getElem?_eq_some_iff.1 hv).1; rw [rep_length] at this; exact this
    rw [hadd, cell_of_row w B j cur 87 (0, 0) hg]
    rw [← rep_take m k hkm, ← htk, List.take_take, List.getElem?_take] at hv
    split at hv
    · simpa using hv
    · cases hv
  have hr := fun ty => run_copy_rowN (P := Tryz.prog) w 78 78 ty 87 B (m * 5) (n - m) (n - m) ⟨B, 0, none⟩ m n 5 cur 87 (thc (List.replicate k idleT)) Tryz.underlying78 (by kernel_rfl) hg (by rw [rep_length, ← hk]) hsrc (by rw [rep_length]; omega) (rep_one k)
  simp only [← hk] at hr
  refine ⟨_, hr, ⟨⟨_, setRow_heap w B cur _ 87 _ hg, ?_, ?_⟩, ?_⟩⟩
  · simp only [List.size_toArray, List.length_append, List.length_take, List.length_drop, Array.length_toList, rep_length, hsz]
    omega
  · have e1 : cur.toList.take (m * 5) ++ thc (List.replicate k idleT) = thc (List.replicate (m + k) idleT) := by rw [htk, rep_add]
    show ((_ : List Value)).take _ = _
    rw [e1]
    exact List.take_left' (rep_length _)
  · exact ⟨h.bel.os, h.bel.tape, h.bel.output, by have := h.bel.size; simpa using this, fun j hj => (setRow_other w B j _ (by omega)).trans (h.bel.block j hj)⟩
set_option maxRecDepth 100000 in
set_option maxHeartbeats 2000000 in
theorem repeat_any (w : World) (g n : Nat) (h1 : 1 ≤ n) (h2 : n ≤ 16) (hg : w.heap[g]? = some (.cells #[.nilIface, .bool false, .int .i64 (-1), .int .i64 0, .int .i64 0] 87 (0, 0))) :
    Calls Tryz.prog 28 #[.slice (some ⟨g, 0, none⟩) 1 1, .int .i64 (n : Int)] w fun e w' => e = .returned (.slice (some ⟨w.heap.size, 0, none⟩) n n) ∧ Has w' (fun k => w.heap.size ≤ k) 87 5 (.slice (some ⟨w.heap.size, 0, none⟩) n n) n (thc (List.replicate n idleT)) ∧ Below w.heap.size w w' := by
  obtain ⟨i0, hi, hz0, hz1, hz2⟩ := info_parts info_thread
  have M := mul_one n (by omega) w
  have hmk : ∀ u : World, (Instr.makeSlice 78 (.int .i64 (n : Int)) (.int .i64 (n : Int))).run Tryz.prog u = .ok (.slice (some ⟨u.heap.size, 0, none⟩) n n) (u.alloc (.cells (madeCells #[.nilIface, .bool false, .int .i64 0, .int .i64 0, .int .i64 0] (n * 5)) 87)) := fun u => by
    have h := run_make (P := Tryz.prog) u 78 87 i0 (.agg #[.nilIface, .bool false, .int .i64 0, .int .i64 0, .int .i64 0]) Tryz.underlying78 hi hz0 .i64 .i64 (n : Int) (n : Int) (by omega) (Int.le_refl _) (by rw [hz2]; omega) (by omega)
    have e : ((n : Int)).toNat = n := by omega
    rw [e] at h
    rw [hz1] at h
    simpa [Value.cells] using h
  have hgl := (Array.getElem?_eq_some_iff.1 hg).1
  obtain ⟨W1, hW1⟩ : ∃ W1, w.alloc (.cells (madeCells #[.nilIface, .bool false, .int .i64 0, .int .i64 0, .int .i64 0] (n * 5)) 87) = W1 := ⟨_, rfl⟩
  have hr1 : W1.heap[w.heap.size]? = some (.cells (madeCells #[.nilIface, .bool false, .int .i64 0, .int .i64 0, .int .i64 0] (n * 5)) 87 (0, 0)) := by rw [← hW1]; exact heap_alloc_new w _
  have hms : (madeCells #[Value.nilIface, .bool false, .int .i64 0, .int .i64 0, .int .i64 0] (n * 5)).size = n * 5 := size_madeCells _ _
  have hB1 : Below w.heap.size w W1 := by rw [← hW1]; exact (Below.refl _ _).alloc (Nat.le_refl _) _
  have hg1 : W1.heap[g]? = some (.cells #[.nilIface, .bool false, .int .i64 (-1), .int .i64 0, .int .i64 0] 87 (0, 0)) := (hB1.block g hgl).trans hg
  have hsrc : ∀ j v, idleT.cells[j]? = some v → W1.cell? ((⟨g, 0, none⟩ : Addr).add j) = some v := World.news_of_block hg1
  have hmin : Nat.min 1 n = 1 := Nat.min_eq_left h1
  have hc0 : ∀ ty, (Builtin.copy_ #[78, 78] ty #[.slice (some ⟨w.heap.size, 0, none⟩) n n, .slice (some ⟨g, 0, none⟩) 1 1]).run Tryz.prog W1 = .ok (.int .i64 1) (W1.setRow w.heap.size ((madeCells #[Value.nilIface, .bool false, .int .i64 0, .int .i64 0, .int .i64 0] (n * 5)).toList.take 0 ++ idleT.cells ++ (madeCells #[Value.nilIface, .bool false, .int .i64 0, .int .i64 0, .int .i64 0] (n * 5)).toList.drop (0 + idleT.cells.length)).toArray) := fun ty => by
    have := run_copy_rowN (P := Tryz.prog) W1 78 78 ty 87 w.heap.size 0 n n ⟨g, 0, none⟩ 1 1 5 _ 87 idleT.cells Tryz.underlying78 (by kernel_rfl) hr1 (by rw [hmin]; rfl) hsrc (by rw [hms]; simp [Th.cells]; omega) idle_one
    rw [hmin] at this
    exact this
  have L1 : Lay w w.heap.size n 1 (W1.setRow w.heap.size ((madeCells #[Value.nilIface, .bool false, .int .i64 0, .int .i64 0, .int .i64 0] (n * 5)).toList.take 0 ++ idleT.cells ++ (madeCells #[Value.nilIface, .bool false, .int .i64 0, .int .i64 0, .int .i64 0] (n * 5)).toList.drop (0 + idleT.cells.length)).toArray) := by
    refine ⟨⟨_, setRow_heap W1 _ _ _ 87 _ hr1, ?_, ?_⟩, ⟨hB1.os, hB1.tape, hB1.output, by have := hB1.size; simpa using this, fun j hj => (setRow_other W1 _ j _ (by omega)).trans (hB1.block j hj)⟩⟩
    · simp only [List.size_toArray, List.length_append, List.length_take, List.length_drop, Array.length_toList, hms, th_len]
      omega
    · simp only [List.take_zero, List.nil_append]
      exact List.take_left' (th_len _)
  generalize W1.setRow w.heap.size ((madeCells #[Value.nilIface, .bool false, .int .i64 0, .int .i64 0, .int .i64 0] (n * 5)).toList.take 0 ++ idleT.cells ++ (madeCells #[Value.nilIface, .bool false, .int .i64 0, .int .i64 0, .int .i64 0] (n * 5)).toList.drop (0 + idleT.cells.length)).toArray = W2 at *
  have hmk' := hmk w
  rw [hW1] at hmk'
  have hd1 : decide ((n : Int) < 0) = false := by simp
  have hd2 : decide (9223372036854775807 < (n : Int)) = false := by simp; omega
  have hn16 : (n : Int) ≤ 16 := by omega
  clear hmk hW1 hr1 hms hB1 hg1 hsrc hmin hg
  replace L1 := Mr.hid L1
  go_enter Tryz.func28, Tryz.ntmps28
  go_wp2_with (go_at_call 46; refine M.mono ?_; clear M; rintro e w' ⟨rfl, hw⟩; obtain rfl := hw.symm)
  go_loopg [8] n (fun k s wr => ∃ m : Nat, s = .int .i64 (m : Int) ∧ m + k = n + 1 ∧ 1 ≤ m ∧ m ≤ n ∧ Lay w w.heap.size n m wr)
  case atStart => exact ⟨1, rfl, by omega, Nat.le_refl _, h1, L1.out⟩
  case round =>
    obtain ⟨m, rfl, hmk, hm1, hmn, L⟩ := hrel
    by_cases hlt : m < n
    · have hLd : Lay w w.heap.size n m wr.drew := ⟨L.row, L.bel.drew⟩
      obtain ⟨w3, hc3, L3⟩ := hLd.copy hlt
      have hne : m ≠ n := by omega
      have hlt' : (m : Int) < (n : Int) := by omega
      have hmn' : (m : Int) ≤ (n : Int) := by omega
      have hmin : Nat.min m (n - m) ≤ n - m := Nat.min_le_right _ _
      have hmin1 : 1 ≤ Nat.min m (n - m) := Nat.le_min.2 ⟨hm1, by omega⟩
      generalize hk : Nat.min m (n - m) = k at *
      have hks : (m : Int) + (k : Int) ≤ 16 := by omega
      replace L3 := Mr.hid L3
      replace L := Mr.hid L
      clear hLd hk hc0 hmk'
      go_wp2
      go_region
      all_goals go_wp2
      all_goals go_roundg (gk - k)
      case measure => omega
      case rel => exact ⟨m + k, by simp, by omega, by omega, by omega, L3.out⟩
    · obtain rfl : m = n := by omega
      go_wp2
      go_ret
      obtain ⟨cur, hg, hsz, htk⟩ := L.row
      refine ⟨rfl, ⟨rep_length _, .inr ⟨_, _, cur, rfl, Nat.le_refl _, hg, Nat.le_refl _, by unfold maxLen; omega, by omega, htk⟩⟩, L.bel⟩
end Go.Proofs.YtnapnhmmopajfaaGreat.Ma
