import Derived.Test.YtcomelbphdjnnaaGreatDoorJ34
import Derived.Laws.IdiomCopy
import Derived.Lib.ConvBytes
import Derived.Lib.LazyBuf
import Derived.Lib.AppendStr
import Derived.Lib.ReflectliteSwap
import Derived.Test.YtcomelbphdjnnaaGreatDoorJ06
/-
  SCRIPT: a row of bytes whatever its mark; append onto it.
-/
namespace Go.Proofs.YtcomelbphdjnnaaGreatDoor.Sc
open Go.RowKit Mr
set_option linter.unusedVariables false
set_option linter.unusedSimpArgs false
set_option maxRecDepth 100000
/-- A row of bytes of one's own, whatever its mark. -/
def Mb (B : Nat) (W : World) (v : Value) (l : List UInt8) : Prop :=
  ∃ g cap, v = .slice (some ⟨g, 0, none⟩) l.length cap ∧ B ≤ g ∧ g < W.heap.size ∧ l.length ≤ cap ∧ cap ≤ maxLen ∧ (∀ j, j < cap → (W.cell? ⟨g, j, none⟩).isSome = true) ∧ (∀ j, j < cap → W.frozen? ⟨g, j, none⟩ = false) ∧ ∀ (j : Nat) (c : UInt8), l[j]? = some c → W.cell? ⟨g, j, none⟩ = some (.int .u8 (c.toNat : Int))
theorem Mb.below {B : Nat} {W W' : World} {v : Value} {l : List UInt8} (h : Mb B W v l) (hB : Below W.heap.size W W') : Mb B W' v l := by
  obtain ⟨g, cap, h1, h2, h3, h4, h5, h6, h7, h8⟩ := h
  exact ⟨g, cap, h1, h2, Nat.lt_of_lt_of_le h3 hB.size, h4, h5, fun j hj => by rw [hB.cell (p := ⟨g, j, none⟩) h3]; exact h6 j hj, fun j hj => by rw [hB.frozen (p := ⟨g, j, none⟩) h3]; exact h7 j hj, fun j c hc => by rw [hB.cell (p := ⟨g, j, none⟩) h3]; exact h8 j c hc⟩
theorem Mb.form {B : Nat} {W : World} {v : Value} {l : List UInt8} (h : Mb B W v l) : ∃ g cap, v = .slice (some ⟨g, 0, none⟩) l.length cap ∧ g < W.heap.size ∧ ∀ (j : Nat) (c : UInt8), l[j]? = some c → W.cell? ⟨g, j, none⟩ = some (.int .u8 (c.toNat : Int)) := by
  obtain ⟨g, cap, h1, h2, h3, h4, h5, h6, h7, h8⟩ := h
  exact ⟨g, cap, h1, h3, h8⟩
theorem add0 (g j : Nat) : (⟨g, 0, none⟩ : Addr).add j = ⟨g, j, none⟩ := by unfold Addr.add; split <;> simp_all
theorem bc_get (l : List UInt8) (j : Nat) (u : Value) (h : (Lib.byteCells l)[j]? = some u) : ∃ c, l[j]? = some c ∧ u = .int .u8 (c.toNat : Int) := by
  simp only [Lib.byteCells, List.getElem?_map] at h
  cases hl : l[j]? with
  | none => rw [hl] at h; cases h
  | some c => rw [hl] at h; cases h; exact ⟨c, rfl, rfl⟩
theorem bc_at {l : List UInt8} {j : Nat} {c : UInt8} (h : l[j]? = some c) : (Lib.byteCells l)[j]? = some (.int .u8 (c.toNat : Int)) := by unfold Lib.byteCells; rw [List.getElem?_map, h]; rfl
theorem below_set {B b : Nat} {a : World} (hb : B ≤ b) : ∀ (vs : List Value) (o : Nat) (w : World), Below B a w → Below B a (w.setCells b o vs)
  | [], _, _, h => h
  | v :: r, o, w, h => below_set hb r (o + 1) (w.setCell ⟨b, o, none⟩ v) (h.setCell (p := ⟨b, o, none⟩) hb v)
theorem set_size (g : Nat) : ∀ (vs : List Value) (o : Nat) (w : World), (w.setCells g o vs).heap.size = w.heap.size
  | [], _, _ => rfl
  | v :: r, o, w => by
    show ((w.setCell ⟨g, o, none⟩ v).setCells g (o + 1) r).heap.size = _
    rw [set_size g r]
    simp
section
variable {P : Program} (w : World)
/-- The row written behind its end, where there is room. -/
theorem mb_room {B g cap : Nat} {l k : List UInt8} (h2 : B ≤ g) (h3 : g < w.heap.size) (h5 : cap ≤ maxLen) (hroom : l.length + k.length ≤ cap) (h6 : ∀ j, j < cap → (w.cell? ⟨g, j, none⟩).isSome = true) (h7 : ∀ j, j < cap → w.frozen? ⟨g, j, none⟩ = false) (h8 : ∀ (j : Nat) (c : UInt8), l[j]? = some c → w.cell? ⟨g, j, none⟩ = some (.int .u8 (c.toNat : Int))) :
    Mb B (w.setCells g l.length (Lib.byteCells k)) (.slice (some ⟨g, 0, none⟩) (l.length + k.length) cap) (l ++ k) := by
  have hkl : (Lib.byteCells k).length = k.length := Lib.byteCells_length k
  refine ⟨g, cap, by rw [List.length_append], h2, ?_, by rw [List.length_append]; exact hroom, h5, fun j hj => Lib.isSome_setCells g _ _ _ _ (h6 j hj), fun j hj => by rw [World.frozen?_setCells]; exact h7 j hj, fun j c hc => ?_⟩
  · rw [set_size]; exact h3
  · by_cases hj : j < l.length
    · rw [List.getElem?_append_left hj] at hc
      rw [World.cell?_setCells_out g _ _ _ _ (fun _ _ => .inl hj)]
      exact h8 j c hc
    · rw [List.getElem?_append_right (by omega)] at hc
      have hjk : j - l.length < (Lib.byteCells k).length := by rw [hkl]; exact (List.getElem?_eq_some_iff.1 hc).1
      have := World.cell?_setCells_in g (Lib.byteCells k) l.length w (fun q hq => h6 _ (by rw [hkl] at hq; omega)) (j - l.length) hjk
      rw [show l.length + (j - l.length) = j by omega] at this
      rw [this]
      have e := bc_at hc
      rw [List.getElem?_eq_getElem hjk] at e
      exact e
/-- A new row. -/
theorem mb_new {B : Nat} (W : World) (l : List UInt8) (cap : Nat) (t : TypeId) (vs : Array Value) (hB : B ≤ W.heap.size) (hl : l.length ≤ cap) (hc : cap ≤ maxLen) (hs : vs.size = cap) (hv : ∀ (j : Nat) (c : UInt8), l[j]? = some c → vs[j]? = some (.int .u8 (c.toNat : Int))) :
    Mb B (W.alloc (.cells vs t)) (.slice (some ⟨W.heap.size, 0, none⟩) l.length cap) l := by
  have hb : (W.alloc (.cells vs t)).heap[W.heap.size]? = some (.cells vs t (0, 0)) := new_at _ _ _ rfl
  refine ⟨W.heap.size, cap, rfl, hB, by simp, hl, hc, fun j hj => ?_, fun j hj => by simp, fun j c hc => ?_⟩
  · rw [cell_blk hb, Array.getElem?_eq_getElem (by omega)]; rfl
  · rw [cell_blk hb]; exact hv j c hc
theorem run_append_mb_str {B : Nat} (t u ty e : TypeId) (i : TypeInfo) (ht : P.underlying t = some (.slice e)) (hu : P.underlying u = some .string) (hi : P.info? e = some i) (hz : i.zero = some (.int .u8 0)) (hsize : i.size = 1) (hby : i.bytes = 1) {v : Value} {l : List UInt8} (h : Mb B w v l) (k : List UInt8) (hb : l.length + k.length ≤ 100000000) (hbase : B ≤ w.heap.size) :
    ∃ v' w', (Builtin.append_ #[t, u] ty #[v, .string ⟨k.toArray⟩]).run P w = .ok v' w' ∧ Mb B w' v' (l ++ k) ∧ Below B w w' := by
  obtain ⟨g, cap, rfl, h2, h3, h4, h5, h6, h7, h8⟩ := h
  have hks : (⟨k.toArray⟩ : ByteArray).size = k.length := sz_list k
  have hsc : Lib.strCells ⟨k.toArray⟩ = Lib.byteCells k := by rw [strCells_byte]
  have hkl : (Lib.byteCells k).length = k.length := Lib.byteCells_length k
  by_cases hroom : l.length + k.length ≤ cap
  · have hf := Lib.run_firstCells_string (P := P) w 1 ⟨k.toArray⟩
    rw [hks, hsc] at hf
    have hst := run_storeCells_cells (P := P) g l.length (Lib.byteCells k) 0 w (fun j hj => by rw [hkl] at hj; exact h6 _ (by omega)) (fun j hj => by rw [hkl] at hj; exact h7 _ (by omega)) (by intro x hx; simp only [Lib.byteCells, List.mem_map] at hx; obtain ⟨b, _, rfl⟩ := hx; rfl)
    refine ⟨_, _, ?_, mb_room w h2 h3 h5 hroom h6 h7 h8, below_set h2 _ _ _ (Below.refl _ _)⟩
    simp [Builtin.append_, run_underlying ht, run_underlying hu, sizeOf, typeInfo, hi, hsize, Builtin.lenOf, hks, hroom, hf, Addr.add_lit, hst]
  · have holds : ∀ j u, (Lib.byteCells l)[j]? = some u → w.cell? ((⟨g, 0, none⟩ : Addr).add j) = some u := fun j u hu => by
      obtain ⟨c, hc, rfl⟩ := bc_get l j u hu
      rw [add0]; exact h8 j c hc
    have hr := Lib.run_append_grow_string (P := P) w t u ty e i (.int .u8 0) ht hu hi hz ⟨g, 0, none⟩ l.length cap (Lib.byteCells l) (by rw [hsize, Nat.mul_one]; exact Lib.byteCells_length l) holds ⟨k.toArray⟩ (by rw [hks]; omega) (by rw [hks]; omega) (by rw [hby, hks]; exact growslice_fits (by omega) (by omega))
    rw [hks, hsc] at hr
    have hge := grownCap_ge w (l.length + k.length) cap e
    have hcm2 : grownCap w (l.length + k.length) cap e ≤ maxLen := grownCap_le_maxLen w (l.length + k.length) cap e (by unfold maxLen; omega)
    refine ⟨_, _, hr, ?_, ((Below.refl _ _).drew).alloc (by simpa using hbase) _⟩
    have := mb_new (B := B) w.drew (l ++ k) (grownCap w (l.length + k.length) cap e) e ((Lib.byteCells l).toArray ++ (Lib.byteCells k).toArray ++ Builtin.zeroCells (Value.int IntKind.u8 0).cells (grownCap w (l.length + k.length) cap e - (l.length + k.length))) (by simpa using hbase) (by rw [List.length_append]; exact hge) hcm2 (by
      have hz1 : (Value.int IntKind.u8 0).cells.size = 1 := rfl
      simp only [Array.size_append, List.size_toArray, size_zeroCells, hz1, Lib.byteCells_length]
      omega) (fun j c hc => by
      have hj : j < (l ++ k).length := (List.getElem?_eq_some_iff.1 hc).1
      rw [Array.getElem?_append_left (by simp only [Array.size_append, List.size_toArray, Lib.byteCells_length]; rw [List.length_append] at hj; exact hj)]
      have e2 : ((Lib.byteCells l).toArray ++ (Lib.byteCells k).toArray) = (Lib.byteCells (l ++ k)).toArray := by rw [Lib.byteCells_append]; simp
      rw [e2, List.getElem?_toArray]
      exact bc_at hc)
    rw [List.length_append] at this
    simpa using this
theorem run_append_mb {B : Nat} (t ty e : TypeId) (i : TypeInfo) (ht : P.underlying t = some (.slice e)) (hi : P.info? e = some i) (hz : i.zero = some (.int .u8 0)) (hsize : i.size = 1) (hby : i.bytes = 1) {v : Value} {l : List UInt8} (h : Mb B w v l) (ad : Addr) (m c : Nat) (k : List UInt8) (hm : m = k.length) (hnews : ∀ j u, (Lib.byteCells k)[j]? = some u → w.cell? (ad.add j) = some u) (hb : l.length + k.length ≤ 100000000) (hbase : B ≤ w.heap.size) :
    ∃ v' w', (Builtin.append_ #[t, t] ty #[v, .slice (some ad) m c]).run P w = .ok v' w' ∧ Mb B w' v' (l ++ k) ∧ Below B w w' := by
  obtain ⟨g, cap, rfl, h2, h3, h4, h5, h6, h7, h8⟩ := h
  subst hm
  have hkl : (Lib.byteCells k).length = k.length := Lib.byteCells_length k
  by_cases hroom : l.length + k.length ≤ cap
  · have hf := run_firstCells_some (P := P) w 1 k.length ad k.length c (Lib.byteCells k) (by rw [hkl, Nat.mul_one]) hnews
    have hst := run_storeCells_cells (P := P) g l.length (Lib.byteCells k) 0 w (fun j hj => by rw [hkl] at hj; exact h6 _ (by omega)) (fun j hj => by rw [hkl] at hj; exact h7 _ (by omega)) (by intro x hx; simp only [Lib.byteCells, List.mem_map] at hx; obtain ⟨b, _, rfl⟩ := hx; rfl)
    refine ⟨_, _, ?_, mb_room w h2 h3 h5 hroom h6 h7 h8, below_set h2 _ _ _ (Below.refl _ _)⟩
    simp [Builtin.append_, run_underlying ht, sizeOf, typeInfo, hi, hsize, Builtin.lenOf, hroom, hf, Addr.add_lit, hst]
  · have holds : ∀ j u, (Lib.byteCells l)[j]? = some u → w.cell? ((⟨g, 0, none⟩ : Addr).add j) = some u := fun j u hu => by
      obtain ⟨c, hc, rfl⟩ := bc_get l j u hu
      rw [add0]; exact h8 j c hc
    have hr := run_append_grow (P := P) w t ty e i (.int .u8 0) ht hi hz ⟨g, 0, none⟩ l.length cap (Lib.byteCells l) (by rw [hsize, Nat.mul_one]; exact Lib.byteCells_length l) holds ad k.length c (Lib.byteCells k) (by rw [hsize, Nat.mul_one]; exact hkl) hnews (by omega) (by omega) (by rw [hby]; exact growslice_fits (by omega) (by omega))
    have hge := grownCap_ge w (l.length + k.length) cap e
    have hcm2 : grownCap w (l.length + k.length) cap e ≤ maxLen := grownCap_le_maxLen w (l.length + k.length) cap e (by unfold maxLen; omega)
    refine ⟨_, _, hr, ?_, ((Below.refl _ _).drew).alloc (by simpa using hbase) _⟩
    have := mb_new (B := B) w.drew (l ++ k) (grownCap w (l.length + k.length) cap e) e ((Lib.byteCells l).toArray ++ (Lib.byteCells k).toArray ++ Builtin.zeroCells (Value.int IntKind.u8 0).cells (grownCap w (l.length + k.length) cap e - (l.length + k.length))) (by simpa using hbase) (by rw [List.length_append]; exact hge) hcm2 (by
      have hz1 : (Value.int IntKind.u8 0).cells.size = 1 := rfl
      simp only [Array.size_append, List.size_toArray, size_zeroCells, hz1, Lib.byteCells_length]
      omega) (fun j c hc => by
      have hj : j < (l ++ k).length := (List.getElem?_eq_some_iff.1 hc).1
      rw [Array.getElem?_append_left (by simp only [Array.size_append, List.size_toArray, Lib.byteCells_length]; rw [List.length_append] at hj; exact hj)]
      have e2 : ((Lib.byteCells l).toArray ++ (Lib.byteCells k).toArray) = (Lib.byteCells (l ++ k)).toArray := by rw [Lib.byteCells_append]; simp
      rw [e2, List.getElem?_toArray]
      exact bc_at hc)
    rw [List.length_append] at this
    simpa using this
/-- '[]byte(s)'. -/
theorem mb_convert {B : Nat} (e : TypeId) (k : List UInt8) (hk : k.length ≤ 100000000) (hbase : B ≤ w.heap.size) : Mb B (Lib.bytesWorld w e ⟨k.toArray⟩) (.slice (some ⟨w.heap.size, 0, none⟩) k.length (grownCap w k.length 0 e)) k ∧ Below B w (Lib.bytesWorld w e ⟨k.toArray⟩) := by
  have hks : (⟨k.toArray⟩ : ByteArray).size = k.length := sz_list k
  have hge := grownCap_ge w k.length 0 e
  have hcm2 : grownCap w k.length 0 e ≤ maxLen := grownCap_le_maxLen w k.length 0 e (by unfold maxLen; omega)
  have hnew := Lib.bytesWorld_at_new w e ⟨k.toArray⟩
  have hsz : (Lib.bytesCells w e ⟨k.toArray⟩).size = grownCap w k.length 0 e := by
    unfold Lib.bytesCells
    rw [hks]
    simp
    omega
  refine ⟨⟨w.heap.size, _, rfl, hbase, by rw [Lib.bytesWorld_size]; omega, hge, hcm2, fun j hj => ?_, fun j hj => ?_, fun j c hc => ?_⟩, ?_⟩
  · rw [cell_blk hnew, Array.getElem?_eq_getElem (by omega)]; rfl
  · simp only [World.frozen?, hnew]
    have : ¬ (Lib.bytesCells w e ⟨k.toArray⟩).size ≤ j := by omega
    simp [this]
  · have hj : j < k.length := (List.getElem?_eq_some_iff.1 hc).1
    rw [Lib.bytesWorld_cell w e _ j (by rw [hks]; exact hj)]
    simp [List.getD_eq_getElem?_getD, hc]
  · exact ⟨rfl, rfl, rfl, by rw [Lib.bytesWorld_size]; omega, fun j hj => Lib.bytesWorld_at_old w e _ j (by omega)⟩
end
end Go.Proofs.YtcomelbphdjnnaaGreatDoor.Sc
/-
  SCRIPT: the document's Word and Op.
-/
namespace Go.Proofs.YtcomelbphdjnnaaGreatDoor.Sc
open Go.RowKit
set_option linter.unusedVariables false
set_option linter.unusedSimpArgs false
/-- An op's word; empty where it has none. -/
def wdOf (op : Int) : ByteArray := match tbl.find? (fun x => x.1 == op) with | some x => x.2.1 | none => ⟨#[]⟩
theorem wdOf_some (k : Nat) (hk : k < 21) : wdOf (opA k) = wdA k := by
  have : k = 0 ∨ k = 1 ∨ k = 2 ∨ k = 3 ∨ k = 4 ∨ k = 5 ∨ k = 6 ∨ k = 7 ∨ k = 8 ∨ k = 9 ∨ k = 10 ∨ k = 11 ∨ k = 12 ∨ k = 13 ∨ k = 14 ∨ k = 15 ∨ k = 16 ∨ k = 17 ∨ k = 18 ∨ k = 19 ∨ k = 20 := by omega
  rcases this with rfl | rfl | rfl | rfl | rfl | rfl | rfl | rfl | rfl | rfl | rfl | rfl | rfl | rfl | rfl | rfl | rfl | rfl | rfl | rfl | rfl <;> rfl
theorem wdOf_none (op : Int) (h : ∀ j, j < 21 → (opA j == op) = false) : wdOf op = ⟨#[]⟩ := by
  have h0 : tbl.find? (fun x => x.1 == op) = none := by
    rw [List.find?_eq_none]
    intro x hx
    obtain ⟨j, hj, rfl⟩ := List.getElem_of_mem hx
    have := h j (by simpa [tbl] using hj)
    unfold opA at this
    simp only [List.getD_eq_getElem?_getD, List.getElem?_eq_getElem hj, Option.getD_some] at this
    simp [this]
  unfold wdOf
  rw [h0]
set_option maxHeartbeats 8000000 in
set_option maxRecDepth 100000 in
theorem refWord_some (k : Nat) (w : World) (hk : k < 21) : Calls Tryz.prog 32 #[.int .i64 (opA k)] w fun e w' => e = .returned (.string (wdA k)) ∧ w' = w := by
  have : k = 0 ∨ k = 1 ∨ k = 2 ∨ k = 3 ∨ k = 4 ∨ k = 5 ∨ k = 6 ∨ k = 7 ∨ k = 8 ∨ k = 9 ∨ k = 10 ∨ k = 11 ∨ k = 12 ∨ k = 13 ∨ k = 14 ∨ k = 15 ∨ k = 16 ∨ k = 17 ∨ k = 18 ∨ k = 19 ∨ k = 20 := by omega
  rcases this with rfl | rfl | rfl | rfl | rfl | rfl | rfl | rfl | rfl | rfl | rfl | rfl | rfl | rfl | rfl | rfl | rfl | rfl | rfl | rfl | rfl
  all_goals (clear hk; unfold opA wdA; simp only [tbl, List.getD_cons_zero, List.getD_cons_succ]; go_enter Tryz.func32, Tryz.ntmps32; go_wp2; go_ret; exact ⟨rfl, rfl⟩)
set_option maxHeartbeats 8000000 in
set_option maxRecDepth 100000 in
theorem refWord_none (op : Int) (w : World) (h : ∀ j, j < 21 → (opA j == op) = false) : Calls Tryz.prog 32 #[.int .i64 op] w fun e w' => e = .returned (.string ⟨#[]⟩) ∧ w' = w := by
  have e1 : (op == 1) = false := by have := h 0 (by decide); simp [opA, tbl] at this; exact beq_eq_false_iff_ne.2 (fun e => this e.symm)
  have e2 : (op == 2) = false := by have := h 1 (by decide); simp [opA, tbl] at this; exact beq_eq_false_iff_ne.2 (fun e => this e.symm)
  have e3 : (op == 10) = false := by have := h 2 (by decide); simp [opA, tbl] at this; exact beq_eq_false_iff_ne.2 (fun e => this e.symm)
  have e4 : (op == 11) = false := by have := h 3 (by decide); simp [opA, tbl] at this; exact beq_eq_false_iff_ne.2 (fun e => this e.symm)
  have e5 : (op == 12) = false := by have := h 4 (by decide); simp [opA, tbl] at this; exact beq_eq_false_iff_ne.2 (fun e => this e.symm)
  have e6 : (op == 20) = false := by have := h 5 (by decide); simp [opA, tbl] at this; exact beq_eq_false_iff_ne.2 (fun e => this e.symm)
  have e7 : (op == 21) = false := by have := h 6 (by decide); simp [opA, tbl] at this; exact beq_eq_false_iff_ne.2 (fun e => this e.symm)
  have e8 : (op == 22) = false := by have := h 7 (by decide); simp [opA, tbl] at this; exact beq_eq_false_iff_ne.2 (fun e => this e.symm)
  have e9 : (op == 23) = false := by have := h 8 (by decide); simp [opA, tbl] at this; exact beq_eq_false_iff_ne.2 (fun e => this e.symm)
  have e10 : (op == 24) = false := by have := h 9 (by decide); simp [opA, tbl] at this; exact beq_eq_false_iff_ne.2 (fun e => this e.symm)
  have e11 : (op == 25) = false := by have := h 10 (by decide); simp [opA, tbl] at this; exact beq_eq_false_iff_ne.2 (fun e => this e.symm)
  have e12 : (op == 30) = false := by have := h 11 (by decide); simp [opA, tbl] at this; exact beq_eq_false_iff_ne.2 (fun e => this e.symm)
  have e13 : (op == 31) = false := by have := h 12 (by decide); simp [opA, tbl] at this; exact beq_eq_false_iff_ne.2 (fun e => this e.symm)
  have e14 : (op == 40) = false := by have := h 13 (by decide); simp [opA, tbl] at this; exact beq_eq_false_iff_ne.2 (fun e => this e.symm)
  have e15 : (op == 41) = false := by have := h 14 (by decide); simp [opA, tbl] at this; exact beq_eq_false_iff_ne.2 (fun e => this e.symm)
  have e16 : (op == 50) = false := by have := h 15 (by decide); simp [opA, tbl] at this; exact beq_eq_false_iff_ne.2 (fun e => this e.symm)
  have e17 : (op == 51) = false := by have := h 16 (by decide); simp [opA, tbl] at this; exact beq_eq_false_iff_ne.2 (fun e => this e.symm)
  have e18 : (op == 52) = false := by have := h 17 (by decide); simp [opA, tbl] at this; exact beq_eq_false_iff_ne.2 (fun e => this e.symm)
  have e19 : (op == 60) = false := by have := h 18 (by decide); simp [opA, tbl] at this; exact beq_eq_false_iff_ne.2 (fun e => this e.symm)
  have e20 : (op == 61) = false := by have := h 19 (by decide); simp [opA, tbl] at this; exact beq_eq_false_iff_ne.2 (fun e => this e.symm)
  have e21 : (op == 62) = false := by have := h 20 (by decide); simp [opA, tbl] at this; exact beq_eq_false_iff_ne.2 (fun e => this e.symm)
  clear h
  go_enter Tryz.func32, Tryz.ntmps32
  go_wp2
  go_ret
  exact ⟨rfl, rfl⟩
/-- Has it a row? -/
theorem op_cases (op : Int) : (∃ k, k < 21 ∧ opA k = op) ∨ ∀ j, j < 21 → (opA j == op) = false := by
  by_cases h : ∃ k, k < 21 ∧ opA k = op
  · exact .inl h
  · exact .inr fun j hj => beq_eq_false_iff_ne.2 fun e => h ⟨j, hj, e⟩
theorem wd_cases (s : ByteArray) : (∃ k, k < 21 ∧ wdA k = s) ∨ ∀ j, j < 21 → ((wdA j).toList == s.toList) = false := by
  by_cases h : ∃ k, k < 21 ∧ wdA k = s
  · exact .inl h
  · exact .inr fun j hj => beq_eq_false_iff_ne.2 fun e => h ⟨j, hj, by
      have e2 : (wdA j).data = s.data := by
        have : (wdA j).data.toList = s.data.toList := by rw [← ByteArray.toList_eq, ← ByteArray.toList_eq]; exact e
        exact Array.toList_inj.1 this
      cases hq : wdA j; cases s; simp_all⟩
theorem refWord_any (op : Int) (w : World) : Calls Tryz.prog 32 #[.int .i64 op] w fun e w' => e = .returned (.string (wdOf op)) ∧ w' = w := by
  rcases op_cases op with ⟨k, hk, rfl⟩ | h
  · rw [wdOf_some k hk]; exact refWord_some k w hk
  · rw [wdOf_none op h]; exact refWord_none op w h
/-- What the document's Op passes by. -/
theorem ref_pass (k : Nat) (hk : k < 21) (i : Nat) (hi : (i : Int) < opA k) : wdOf i = ⟨#[]⟩ ∨ ((wdOf i).toList == []) = false ∧ ((wdOf i).toList == (wdA k).toList) = false := by
  have := all_below (P := fun k => (List.range (opA k).toNat).all fun i => ((wdOf i).data == #[]) || (!((wdOf i).toList == []) && !((wdOf i).toList == (wdA k).toList))) (n := 21) (by decide +kernel) hk
  have := all_below (P := fun i => ((wdOf i).data == #[]) || (!((wdOf i).toList == []) && !((wdOf i).toList == (wdA k).toList))) this (k := i) (by omega)
  rcases Bool.or_eq_true _ _ ▸ this with h | h
  · left
    have h2 : (wdOf i).data = #[] := eq_of_beq h
    cases hq : wdOf i; rw [hq] at h2; simp_all
  · right
    simpa using h
theorem ref_nil (k : Nat) (hk : k < 21) : ((wdA k).toList == []) = false ∧ 1 ≤ opA k ∧ opA k ≤ 62 := by
  have := all_below (P := fun k => !((wdA k).toList == []) && decide (1 ≤ opA k) && decide (opA k ≤ 62)) (n := 21) (by decide +kernel) hk
  simp at this
  exact ⟨by simp [this.1.1], this.1.2, this.2⟩
theorem toList_nil : ByteArray.toList ⟨#[]⟩ = [] := by rw [ByteArray.toList_eq]
set_option maxHeartbeats 8000000 in
theorem refOp_some (k : Nat) (w : World) (hk : k < 21) : Calls Tryz.prog 41 #[.string (wdA k)] w fun e w' => e = .returned (.int .i64 (opA k)) ∧ w' = w := by
  have hp : Hid (∀ i : Nat, (i : Int) < opA k → wdOf i = ⟨#[]⟩ ∨ ((wdOf i).toList == []) = false ∧ ((wdOf i).toList == (wdA k).toList) = false) := fun i hi => ref_pass k hk i hi
  have hq : Hid (((wdA k).toList == []) = false ∧ 1 ≤ opA k ∧ opA k ≤ 62) := ref_nil k hk
  have hr : Hid (wdOf (opA k) = wdA k) := wdOf_some k hk
  have tn := toList_nil
  clear hk
  generalize wdA k = xw at *
  obtain ⟨n, hn⟩ : ∃ n : Nat, opA k = n := ⟨(opA k).toNat, by have := hq.out; omega⟩
  rw [hn] at hp hq hr ⊢
  clear hn
  go_enter Tryz.func41, Tryz.ntmps41
  go_upto_region 2 with fail
  go_loopg [3] n (fun gk s3 wr => ∃ i : Nat, s3 = .int .i64 (i : Int) ∧ i + gk = n + 1 ∧ 1 ≤ i ∧ i ≤ n ∧ w = wr)
  case atStart => exact ⟨1, rfl, by omega, by omega, by have := hq.out; omega, rfl⟩
  case round =>
    obtain ⟨i, rfl, hi, h1, h2, rfl⟩ := hrel
    have dl : decide ((i : Int) ≤ 62) = true := by have := hq.out; simp; omega
    have hlI : (i : Int) ≤ 62 := by have := hq.out; omega
    have hw1 : IntKind.i64.wrap ((i : Int) + 1) = (i : Int) + 1 := i64x _ (by omega) (by omega)
    have C := Mr.hid (refWord_any i w)
    by_cases he : i = n
    · have e1 : wdOf (i : Int) = xw := by rw [he]; exact hr.out
      have e2 : (xw.toList == []) = false := hq.out.1
      have e3 : ¬ xw.toList = [] := by simpa using e2
      rw [e1] at C
      simp only [he] at hw1 hlI dl C ⊢
      clear he hi h1 h2 e1
      go_wp2_with (go_at_call 32; refine C.out.mono ?_; clear C; rintro e w1 ⟨rfl, hw⟩; obtain rfl := hw.symm)
      go_ret
      exact ⟨rfl, rfl⟩
    · have hi' : Hid (i + gk = n + 1 ∧ 1 ≤ i ∧ i + 1 ≤ n) := ⟨hi, h1, by omega⟩
      rcases hp.out i (by omega) with e1 | ⟨e1, e2⟩
      · rw [e1] at C
        clear e1 he hi h1 h2
        go_wp2_with (go_at_call 32; refine C.out.mono ?_; clear C; rintro e w1 ⟨rfl, hw⟩; obtain rfl := hw.symm)
        go_roundg (gk - 1)
        case measure => obtain ⟨_, _, _⟩ := hi'.out; omega
        case rel => exact ⟨i + 1, by simp, by obtain ⟨_, _, _⟩ := hi'.out; omega, by omega, by obtain ⟨_, _, _⟩ := hi'.out; omega, rfl⟩
      · have e3 : ¬ (wdOf i).toList = [] := by simpa using e1
        generalize wdOf i = yw at *
        clear he hi h1 h2
        go_wp2_with (go_at_call 32; refine C.out.mono ?_; clear C; rintro e w1 ⟨rfl, hw⟩; obtain rfl := hw.symm)
        go_roundg (gk - 1)
        case measure => obtain ⟨_, _, _⟩ := hi'.out; omega
        case rel => exact ⟨i + 1, by simp, by obtain ⟨_, _, _⟩ := hi'.out; omega, by omega, by obtain ⟨_, _, _⟩ := hi'.out; omega, rfl⟩
set_option maxHeartbeats 8000000 in
theorem refOp_none (s : ByteArray) (w : World) (h : ∀ j, j < 21 → ((wdA j).toList == s.toList) = false) : Calls Tryz.prog 41 #[.string s] w fun e w' => e = .returned (.int .i64 (-1)) ∧ w' = w := by
  have tn := toList_nil
  have hp : Hid (∀ i : Nat, wdOf i = ⟨#[]⟩ ∨ ((wdOf i).toList == []) = false ∧ ((wdOf i).toList == s.toList) = false) := by
    intro i
    rcases op_cases (i : Int) with ⟨k, hk, e⟩ | hno
    · right
      rw [← e, wdOf_some k hk]
      exact ⟨(ref_nil k hk).1, h k hk⟩
    · exact .inl (wdOf_none _ hno)
  clear h
  go_enter Tryz.func41, Tryz.ntmps41
  go_upto_region 2 with fail
  go_loopg [3] 62 (fun gk s3 wr => ∃ i : Nat, s3 = .int .i64 (i : Int) ∧ i + gk = 63 ∧ w = wr)
  case atStart => exact ⟨1, rfl, by omega, rfl⟩
  case round =>
    obtain ⟨i, rfl, hi, rfl⟩ := hrel
    by_cases hl : i ≤ 62
    · have dl : decide ((i : Int) ≤ 62) = true := by simp; omega
      have hlI : (i : Int) ≤ 62 := by omega
      have hw1 : IntKind.i64.wrap ((i : Int) + 1) = (i : Int) + 1 := i64x _ (by omega) (by omega)
      have C := Mr.hid (refWord_any i w)
      have hi' : Hid (i + gk = 63 ∧ i ≤ 62) := ⟨hi, hl⟩
      rcases hp.out i with e1 | ⟨e1, e2⟩
      · rw [e1] at C
        clear e1 hi hl
        go_wp2_with (go_at_call 32; refine C.out.mono ?_; clear C; rintro e w1 ⟨rfl, hw⟩; obtain rfl := hw.symm)
        go_roundg (gk - 1)
        case measure => obtain ⟨_, _⟩ := hi'.out; omega
        case rel => exact ⟨i + 1, by simp, by obtain ⟨_, _⟩ := hi'.out; omega, rfl⟩
      · have e3 : ¬ (wdOf i).toList = [] := by simpa using e1
        generalize wdOf i = yw at *
        clear hi hl
        go_wp2_with (go_at_call 32; refine C.out.mono ?_; clear C; rintro e w1 ⟨rfl, hw⟩; obtain rfl := hw.symm)
        go_roundg (gk - 1)
        case measure => obtain ⟨_, _⟩ := hi'.out; omega
        case rel => exact ⟨i + 1, by simp, by obtain ⟨_, _⟩ := hi'.out; omega, rfl⟩
    · have dl : decide ((i : Int) ≤ 62) = false := decide_eq_false (by omega)
      clear hi hl
      go_wp2
      go_ret
      exact ⟨rfl, rfl⟩
end Go.Proofs.YtcomelbphdjnnaaGreatDoor.Sc
