/-
  THE DEQUE's kit made: owners, kit, commonOf.
-/
import Derived.Test.YtpckcfdjgpdooaaDmKit
import Derived.Test.YtpckcfdjgpdooaaDmInv
import Derived.RangeFuncNested
namespace Go.Proofs.Ytpckcfdjgpdooaa.Dm
open Go.RowKit Go.Shelf Mr Me Ma Gm
set_option linter.unusedVariables false
set_option linter.unusedSimpArgs false
set_option maxRecDepth 100000
def fK (g ca : Nat) : Value := .func (.func g) #[] #[.pointer (some ⟨ca, 0, none⟩)]
theorem owners_any (g ca : Nat) (w : World) : Calls Try.prog 33 #[fK g ca] w fun e w' => e = .returned (fK 50 w.heap.size) ∧ w' = w.alloc (.cells #[fK g ca] 98 (0, 0)) := by
  unfold fK
  go_enter Try.func33, Try.ntmps33
  go_wp2
  go_ret
  exact ⟨rfl, rfl⟩
theorem run_makeMap (w : World) : (Instr.makeMap 68 none).run Try.prog w = .ok (.map (some w.heap.size)) (w.alloc (.map #[] 0)) := by rfl
theorem run_ins1 (w : World) (km : Nat) (v : Value) (h : w.heap[km]? = some (.map #[] 0)) : (Instr.mapUpdate 68 (.map (some km)) (.int .i64 90) v).run Try.prog w = .ok () (w.putObj km (.map #[⟨.int .i64 90, v, 0⟩] 1)) := by
  have hch : ∀ b, (Instr.checkKey b 10000 25 (.int .i64 90)).run Try.prog w = .ok () w := fun b => by cases b <;> kernel_rfl
  have hget : (getObj km).run Try.prog w = .ok (.map #[] 0) w := by simp [getObj, Sem.run, h]
  have hset : ∀ o, (setObj km o).run Try.prog w = .ok () (w.putObj km o) := fun o => by simp [setObj, Sem.run, h, World.putObj]
  simp [Instr.mapUpdate, run_underlying Try.underlying68, hget, hch, Instr.findKey, run_underlying Try.underlying25, Instr.findNow, hset]
theorem run_ins2 (w : World) (km : Nat) (v u : Value) (h : w.heap[km]? = some (.map #[⟨.int .i64 90, v, 0⟩] 1)) : (Instr.mapUpdate 68 (.map (some km)) (.int .i64 91) u).run Try.prog w = .ok () (w.putObj km (.map #[⟨.int .i64 90, v, 0⟩, ⟨.int .i64 91, u, 1⟩] 2)) := by
  have hch : ∀ b, (Instr.checkKey b 10000 25 (.int .i64 91)).run Try.prog w = .ok () w := fun b => by cases b <;> kernel_rfl
  have hget : (getObj km).run Try.prog w = .ok (.map #[⟨.int .i64 90, v, 0⟩] 1) w := by simp [getObj, Sem.run, h]
  have hset : ∀ o, (setObj km o).run Try.prog w = .ok () (w.putObj km o) := fun o => by simp [setObj, Sem.run, h, World.putObj]
  simp [Instr.mapUpdate, run_underlying Try.underlying68, hget, hch, Instr.findKey, run_underlying Try.underlying25, Instr.findNow, Instr.sameNow, hset]
theorem run_ins3 (w : World) (km : Nat) (v u x : Value) (h : w.heap[km]? = some (.map #[⟨.int .i64 90, v, 0⟩, ⟨.int .i64 91, u, 1⟩] 2)) : (Instr.mapUpdate 68 (.map (some km)) (.int .i64 92) x).run Try.prog w = .ok () (w.putObj km (.map #[⟨.int .i64 90, v, 0⟩, ⟨.int .i64 91, u, 1⟩, ⟨.int .i64 92, x, 2⟩] 3)) := by
  have hch : ∀ b, (Instr.checkKey b 10000 25 (.int .i64 92)).run Try.prog w = .ok () w := fun b => by cases b <;> kernel_rfl
  have hget : (getObj km).run Try.prog w = .ok (.map #[⟨.int .i64 90, v, 0⟩, ⟨.int .i64 91, u, 1⟩] 2) w := by simp [getObj, Sem.run, h]
  have hset : ∀ o, (setObj km o).run Try.prog w = .ok () (w.putObj km o) := fun o => by simp [setObj, Sem.run, h, World.putObj]
  simp [Instr.mapUpdate, run_underlying Try.underlying68, hget, hch, Instr.findKey, run_underlying Try.underlying25, Instr.findNow, Instr.sameNow, hset]
def sBox (bc : Nat) : Obj := .cells #[.pointer (some ⟨bc, 0, none⟩)] 69 (0, 0)
def fBox (f : Value) : Obj := .cells #[f] 98 (0, 0)
set_option maxHeartbeats 1000000 in
theorem kit_any (w : World) (bc : Nat) : Calls Try.prog 23 #[.pointer (some ⟨bc, 0, none⟩)] w fun e w' => e = .returned (.map (some (w.heap.size + 1))) ∧ KA bc w.heap.size (w.heap.size + 2) (w.heap.size + 3) w' (fun k => w.heap.size ≤ k ∧ k < w'.heap.size) (w.heap.size + 1) ∧ Below w.heap.size w w' := by
  have hmf : ∀ (fn : Fn) (first cap : Array Value) (w : World), (Instr.makeFunc fn first cap).run Try.prog w = .ok (.func fn first cap) w := fun _ _ _ _ => rfl
  obtain ⟨W1, hW1⟩ : ∃ W1, w.alloc (sBox bc) = W1 := ⟨_, rfl⟩
  have s1 : W1.heap.size = w.heap.size + 1 := by rw [← hW1]; simp
  have b1 : W1.heap[w.heap.size]? = some (sBox bc) := by rw [← hW1]; exact heap_alloc_new w _
  have B1 : Below w.heap.size w W1 := by rw [← hW1]; exact (Below.refl _ _).alloc (Nat.le_refl _) _
  obtain ⟨W2, hW2⟩ : ∃ W2, W1.alloc (.map #[] 0) = W2 := ⟨_, rfl⟩
  have s2 : W2.heap.size = w.heap.size + 2 := by rw [← hW2]; simp [s1]
  have g2 : W2.heap[w.heap.size + 1]? = some (.map #[] 0) := by rw [← hW2, ← s1]; exact heap_alloc_new W1 _
  have B2 : Below (w.heap.size + 1) W1 W2 := by rw [← hW2]; exact (Below.refl _ _).alloc (by omega) _
  have m0 := run_makeMap W1
  rw [hW2, s1] at m0
  have O1 := owners_any 34 w.heap.size W2
  obtain ⟨W3, hW3⟩ : ∃ W3, W2.alloc (fBox (fK 34 w.heap.size)) = W3 := ⟨_, rfl⟩
  have s3 : W3.heap.size = w.heap.size + 3 := by rw [← hW3]; simp [s2]
  have f3 : W3.heap[w.heap.size + 2]? = some (fBox (fK 34 w.heap.size)) := by rw [← hW3, ← s2]; exact heap_alloc_new W2 _
  have g3 : W3.heap[w.heap.size + 1]? = some (.map #[] 0) := by rw [← hW3]; exact (Below.heap_alloc _ _ _ (by omega)).trans g2
  have B3 : Below (w.heap.size + 1) W1 W3 := by rw [← hW3]; exact B2.alloc (by omega) _
  have e3 : W2.alloc (.cells #[fK 34 w.heap.size] 98 (0, 0)) = W3 := hW3
  rw [e3, s2] at O1
  have put : ∀ (V : World) (o : Obj), w.heap.size + 1 < V.heap.size → Below (w.heap.size + 1) W1 V → (V.putObj (w.heap.size + 1) o).heap.size = V.heap.size ∧ (V.putObj (w.heap.size + 1) o).heap[w.heap.size + 1]? = some o ∧ Below (w.heap.size + 1) W1 (V.putObj (w.heap.size + 1) o) ∧ ∀ k, k ≠ w.heap.size + 1 → (V.putObj (w.heap.size + 1) o).heap[k]? = V.heap[k]? := fun V o hs hB => by
    refine ⟨by simp [World.putObj], World.putObj_heap_same hs, ⟨hB.os, hB.tape, hB.output, by have := hB.size; simp only [World.putObj, Array.size_setIfInBounds]; omega, fun k hk => (World.putObj_heap_other (by omega)).trans (hB.block k hk)⟩, fun k hk => World.putObj_heap_other hk⟩
  have i1 := run_ins1 W3 (w.heap.size + 1) (fK 50 (w.heap.size + 2)) g3
  obtain ⟨s4, g4, B4, k4⟩ := put W3 (.map #[⟨.int .i64 90, fK 50 (w.heap.size + 2), 0⟩] 1) (by omega) B3
  generalize W3.putObj (w.heap.size + 1) (.map #[⟨.int .i64 90, fK 50 (w.heap.size + 2), 0⟩] 1) = W4 at *
  have O2 := owners_any 36 w.heap.size W4
  obtain ⟨W5, hW5⟩ : ∃ W5, W4.alloc (fBox (fK 36 w.heap.size)) = W5 := ⟨_, rfl⟩
  have s5 : W5.heap.size = w.heap.size + 4 := by rw [← hW5]; simp [s4, s3]
  have f5 : W5.heap[w.heap.size + 3]? = some (fBox (fK 36 w.heap.size)) := by rw [← hW5, ← s3, ← s4]; exact heap_alloc_new W4 _
  have g5 : W5.heap[w.heap.size + 1]? = some (.map #[⟨.int .i64 90, fK 50 (w.heap.size + 2), 0⟩] 1) := by rw [← hW5]; exact (Below.heap_alloc _ _ _ (by omega)).trans g4
  have f5' : W5.heap[w.heap.size + 2]? = some (fBox (fK 34 w.heap.size)) := by rw [← hW5]; exact (Below.heap_alloc _ _ _ (by omega)).trans ((k4 _ (by omega)).trans f3)
  have B5 : Below (w.heap.size + 1) W1 W5 := by rw [← hW5]; exact B4.alloc (by omega) _
  have e5 : W4.alloc (.cells #[fK 36 w.heap.size] 98 (0, 0)) = W5 := hW5
  rw [e5, s4, s3] at O2
  have i2 := run_ins2 W5 (w.heap.size + 1) _ (fK 50 (w.heap.size + 3)) g5
  obtain ⟨s6, g6, B6, k6⟩ := put W5 (.map #[⟨.int .i64 90, fK 50 (w.heap.size + 2), 0⟩, ⟨.int .i64 91, fK 50 (w.heap.size + 3), 1⟩] 2) (by omega) B5
  generalize W5.putObj (w.heap.size + 1) (.map #[⟨.int .i64 90, fK 50 (w.heap.size + 2), 0⟩, ⟨.int .i64 91, fK 50 (w.heap.size + 3), 1⟩] 2) = W6 at *
  have i3 := run_ins3 W6 (w.heap.size + 1) _ _ (fK 38 w.heap.size) g6
  obtain ⟨s7, g7, B7, k7⟩ := put W6 (.map #[⟨.int .i64 90, fK 50 (w.heap.size + 2), 0⟩, ⟨.int .i64 91, fK 50 (w.heap.size + 3), 1⟩, ⟨.int .i64 92, fK 38 w.heap.size, 2⟩] 3) (by omega) B6
  generalize W6.putObj (w.heap.size + 1) (.map #[⟨.int .i64 90, fK 50 (w.heap.size + 2), 0⟩, ⟨.int .i64 91, fK 50 (w.heap.size + 3), 1⟩, ⟨.int .i64 92, fK 38 w.heap.size, 2⟩] 3) = W7 at *
  have fin : KA bc w.heap.size (w.heap.size + 2) (w.heap.size + 3) W7 (fun k => w.heap.size ≤ k ∧ k < W7.heap.size) (w.heap.size + 1) ∧ Below w.heap.size w W7 := by
    have hb := (B7.block w.heap.size (by omega)).trans b1
    have h2 := (k7 _ (by omega)).trans ((k6 _ (by omega)).trans f5')
    have h3 := (k7 _ (by omega)).trans ((k6 _ (by omega)).trans f5)
    refine ⟨⟨g7, cell_at hb 0, cell_at h2 0, cell_at h3 0, ⟨by omega, by omega⟩, ⟨by omega, by omega⟩, ⟨by omega, by omega⟩, ⟨by omega, by omega⟩⟩, B1.trans (B7.mono (by omega))⟩
  replace fin := Mr.hid fin
  simp only [fK] at i1 i2 i3 O1 O2
  unfold sBox at hW1
  clear put b1 B1 B2 B3 B4 B5 B6 B7 g2 g3 g4 g5 g6 g7 f3 f5 f5' k4 k6 k7 hW3 hW5 e3 e5 s3 s4 s5 s6 s7
  go_enter Try.func23, Try.ntmps23
  go_wp2_with (first | (go_at_call 33; first | (refine O1.mono ?_; clear O1; rintro e w' ⟨rfl, hw⟩; obtain rfl := hw.symm) | (refine O2.mono ?_; clear O2; rintro e w' ⟨rfl, hw⟩; obtain rfl := hw.symm)))
  go_ret
  exact ⟨rfl, fin.out⟩
end Go.Proofs.Ytpckcfdjgpdooaa.Dm
