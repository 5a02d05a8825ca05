import Derived.Test.YtkimmfdicohoiaaRfRep
import Derived.Laws.Tables
/-
  THE DOCUMENT's MACHINE: a new thread's row, its 658 cells behind a name.
-/
namespace Go.Proofs.Ytkimmfdicohoiaa.Rf
open Go.RowKit Mr Me Ma
def rt0 : Rt := ⟨false, 0, 0, fun _ => 0, nilS, nilS, -1⟩
def tcA : Array Value := rt0.cells.toArray
set_option maxRecDepth 100000 in
theorem built_thr : Try.prog.built 66 [(6, .int .i64 (-1))] = some tcA := by kernel_rfl
theorem tcA_size : tcA.size = 658 := rt_len rt0
/-- What is written cell by cell from k on. -/
theorem fold_set : ∀ (l : List Value) (k : Nat) (A : Array Value), A.size = k + l.length → (l.zipIdx k).foldl (fun (cs : Array Value) (x : Value × Nat) => cs.setIfInBounds (0 + x.2) x.1) A = (A.toList.take k ++ l).toArray := by
  intro l
  induction l with
  | nil =>
    intro k A h
    simp only [List.zipIdx_nil, List.foldl_nil, List.append_nil]
    have : A.toList.take k = A.toList := List.take_of_length_le (by simp at h; simp; omega)
    rw [this]
  | cons c l ih =>
    intro k A h
    simp only [List.length_cons] at h
    simp only [List.zipIdx_cons, List.foldl_cons, Nat.zero_add]
    have h2 := ih (k + 1) (A.setIfInBounds k c) (by simp; omega)
    simp only [Nat.zero_add] at h2
    rw [h2]
    congr 1
    rw [Array.toList_setIfInBounds, List.take_set, List.take_add_one]
    have hk : k < A.toList.length := by simp; omega
    rw [List.getElem?_eq_getElem hk]
    have hl : (A.toList.take k).length = k := by simp; omega
    simp only [Option.toList_some]
    rw [List.set_append_right _ _ (by omega), hl, Nat.sub_self]
    simp
section
variable {P : Program}
theorem run_buildSlice_one (w : World) (t e : TypeId) (i : TypeInfo) (z : Value) (cells : Array Value) (ht : P.underlying t = some (.slice e)) (hi : P.info? e = some i) (hz : i.zero = some z) (hs : cells.size = i.size) (h0 : 0 < i.size) (hm : i.size ≤ 16777216) :
    (Instr.buildSlice t 1 #[(0, .agg cells)]).run P w = .ok (.slice (some ⟨w.heap.size, 0, none⟩) 1 1) (w.alloc (.cells cells e)) := by
  have hfill : ∀ A : Array Value, A.size = i.size → Instr.fill (fun j => some (j * i.size, i.size)) A [(0, .agg cells)] = some cells := fun A hA => by
    unfold Instr.fill
    simp only [Value.cells, Nat.zero_mul]
    rw [if_neg (by simp [hs, hA])]
    unfold Instr.fill
    congr 1
    have := fold_set cells.toList 0 A (by simp [hA, hs])
    rw [← Array.foldl_toList]
    simp only [Array.toList_zipIdx]
    rw [this]
    simp
  have hA : ((Array.range (1 * i.size)).map (fun j => z.cells[j % z.cells.size]!)).size = i.size := by simp
  have h1 : ¬ 16777216 < i.size := by omega
  have h2 : ¬ i.size = 0 := by omega
  have hF := hfill _ hA
  simp only [Nat.one_mul] at hF
  simp [Instr.buildSlice, run_underlying ht, sizeOf, typeInfo, hi, zeroValue, hz, newRow, h1, h2, hF]
end
def zA : Array Value := (⟨false, 0, 0, fun _ => 0, nilS, nilS, 0⟩ : Rt).cells.toArray
set_option maxRecDepth 100000 in
theorem info_thr : (Try.prog.info? 66).map (fun i => (i.zero, i.size, i.bytes)) = some (some (.agg zA), 658, 5360) := by kernel_rfl
theorem zA_size : zA.size = 658 := rt_len _
theorem one_cells (t : Rt) (h1 : t.bk.oneCell' = true) (h2 : t.ch.oneCell' = true) : ∀ u ∈ t.cells, u.oneCell' = true := by
  intro u hu
  unfold Rt.cells at hu
  simp only [List.mem_append, List.mem_cons, List.not_mem_nil, or_false] at hu
  rcases hu with (rfl | rfl | rfl) | hu | (rfl | rfl | rfl | rfl | rfl) | hu
  · rfl
  · rfl
  · rfl
  · unfold regs at hu
    obtain ⟨j, _, rfl⟩ := List.mem_map.1 hu
    rfl
  · exact h1
  · exact h2
  · rfl
  · rfl
  · rfl
  · unfold tailC at hu
    rcases List.mem_append.1 hu with hu | hu
    · rw [List.eq_of_mem_replicate hu]; rfl
    · simp only [List.mem_cons, List.not_mem_nil, or_false] at hu
      rcases hu with rfl | rfl <;> rfl
section
variable {w : World} {ops : Array Oper} {rest : List Oper} {o : Oper} {a : Act} {Q : Exit → Act → World → Prop}
theorem wpList_build_thr (hgd : o.guard = none) (ho : o.op = .build 66 #[(6, .const (.int .i64 (-1)))]) (h : wpList Try.prog ops Q rest (a.put o.dst (.agg tcA)) w) : wpList Try.prog ops Q (o :: rest) a w := by
  have e : (#[((6 : Nat), (Operand.const (.int .i64 (-1))))].map fun (i, x) => (i, a.eval x)).toList = [(6, .int .i64 (-1))] := by simp [Act.eval]
  refine wpList_build hgd _ _ ho (by rw [e, built_thr]; rfl) ?_
  rw [e, built_thr]
  exact h
theorem wpList_slice_thr (hgd : o.guard = none) (x : Operand) (ho : o.op = .buildSlice 52 1 #[(0, x)]) (hx : a.eval x = .agg tcA) (h : wpList Try.prog ops Q rest (a.put o.dst (.slice (some ⟨w.heap.size, 0, none⟩) 1 1)) (w.alloc (.cells tcA 66))) : wpList Try.prog ops Q (o :: rest) a w := by
  obtain ⟨i0, hi, hz0, hz1, hz2⟩ := info_parts info_thr
  have hr := run_buildSlice_one (P := Try.prog) w 52 66 i0 (.agg zA) tcA Try.underlying52 hi hz0 (by rw [tcA_size, hz1]) (by rw [hz1]; decide) (by rw [hz1]; decide)
  refine wpList_plain hgd fun _ hK => ?_
  unfold Oper.wp execOp
  simp only [ho, List.map_toArray, List.map_cons, List.map_nil, hx, Sem.run_bind, hr, Result.andThen_ok]
  exact hK _ _ h
end
end Go.Proofs.Ytkimmfdicohoiaa.Rf
