import Derived.Test.YtglppcoohojmpaaRfCopy
/-
  maps.Copy of a kit: its walk.
-/
namespace Go.Proofs.Ytglppcoohojmpaa.Rf
open Go.RowKit Go.Shelf Mr Me Ma
set_option maxRecDepth 100000 in
set_option maxHeartbeats 4000000 in
theorem copy_walk (w W1 W2 W3 : World) (km bm B : Nat) (i0 i1 i2 : Obj) (a1 a2 : Int) (v1 v2 : Value)
    (r0 : (Instr.range 32 (.map (some bm))).run Try.prog w = .ok (.pointer (some ⟨B, 0, none⟩)) (w.alloc i0))
    (n0 : ∀ ty, (Instr.next (.pointer (some ⟨B, 0, none⟩)) false ty).run Try.prog (w.alloc i0) = .ok (.tuple #[.bool true, .int .i64 a1, v1]) (W1.alloc i1))
    (e0 : (Instr.entry (.pointer (some ⟨B, 0, none⟩))).run Try.prog (W1.alloc i1) = .ok (.tuple #[.int .i64 a1, v1]) (W1.alloc i1))
    (u0 : (Instr.mapUpdate 32 (.map (some km)) (.int .i64 a1) v1).run Try.prog (W1.alloc i1) = .ok () (W2.alloc i1))
    (n1 : ∀ ty, (Instr.next (.pointer (some ⟨B, 0, none⟩)) false ty).run Try.prog (W2.alloc i1) = .ok (.tuple #[.bool true, .int .i64 a2, v2]) (W2.alloc i2))
    (e1 : (Instr.entry (.pointer (some ⟨B, 0, none⟩))).run Try.prog (W2.alloc i2) = .ok (.tuple #[.int .i64 a2, v2]) (W2.alloc i2))
    (u1 : (Instr.mapUpdate 32 (.map (some km)) (.int .i64 a2) v2).run Try.prog (W2.alloc i2) = .ok () (W3.alloc i2))
    (n2 : ∀ ty, (Instr.next (.pointer (some ⟨B, 0, none⟩)) false ty).run Try.prog (W3.alloc i2) = .ok (.tuple #[.bool false]) (W3.alloc i2)) :
    Calls Try.prog 32 #[.map (some km), .map (some bm)] w fun e w' => e = .returned (.tuple #[]) ∧ w' = W3.alloc i2 := by
  go_enter Try.func32, Try.ntmps32
  go_wp2
  refine wp_loop_rounds 3 ?_
  rw [rounds_succ]
  go_wp2
  rw [rounds_succ]
  go_wp2
  rw [rounds_succ]
  go_wp2
  go_end0
  exact ⟨rfl, rfl⟩
theorem alloc_putObj (w : World) (o x : Obj) (k : Nat) (hk : k < w.heap.size) : (w.alloc o).putObj k x = (w.putObj k x).alloc o := by
  have e : (w.heap.push o).setIfInBounds k x = (w.heap.setIfInBounds k x).push o := by
    apply Array.toList_inj.1
    simp [hk]
  show ({ w.alloc o with heap := (w.heap.push o).setIfInBounds k x } : World) = _
  rw [e]
  rfl
section
variable (w : World) (km : Nat) (it : Obj)
theorem upd_get {es : Array MapEntry} {c : Nat} (h : w.heap[km]? = some (.map es c)) : (w.alloc it).heap[km]? = some (.map es c) ∧ km < w.heap.size :=
  ⟨(Below.heap_alloc _ _ _ (Array.getElem?_eq_some_iff.1 h).1).trans h, (Array.getElem?_eq_some_iff.1 h).1⟩
theorem upd_0 (k : Int) (hk : k = 1 ∨ k = 2) (v : Value) (h : w.heap[km]? = some (.map #[] 0)) : (Instr.mapUpdate 32 (.map (some km)) (.int .i64 k) v).run Try.prog (w.alloc it) = .ok () ((w.putObj km (.map #[⟨.int .i64 k, v, 0⟩] 1)).alloc it) := by
  obtain ⟨h', hl⟩ := upd_get w km it h
  rw [← alloc_putObj w it _ km hl]
  have hget : (getObj km).run Try.prog (w.alloc it) = .ok (.map #[] 0) (w.alloc it) := get_map h'
  have hset : ∀ o, (setObj km o).run Try.prog (w.alloc it) = .ok () ((w.alloc it).putObj km o) := fun o => by simp [setObj, Sem.run, h', World.putObj]
  rcases hk with rfl | rfl
  · have hch : ∀ b, (Instr.checkKey b 10000 44 (.int .i64 1)).run Try.prog (w.alloc it) = .ok () (w.alloc it) := fun b => by cases b <;> kernel_rfl
    simp [Instr.mapUpdate, run_underlying Try.underlying32, hget, hch, Instr.findKey, run_underlying Try.underlying44, Instr.findNow, hset]
  · have hch : ∀ b, (Instr.checkKey b 10000 44 (.int .i64 2)).run Try.prog (w.alloc it) = .ok () (w.alloc it) := fun b => by cases b <;> kernel_rfl
    simp [Instr.mapUpdate, run_underlying Try.underlying32, hget, hch, Instr.findKey, run_underlying Try.underlying44, Instr.findNow, hset]
theorem upd_1 (j k : Int) (hk : (j = 1 ∧ k = 2) ∨ (j = 2 ∧ k = 1)) (v u : Value) (h : w.heap[km]? = some (.map #[⟨.int .i64 j, v, 0⟩] 1)) : (Instr.mapUpdate 32 (.map (some km)) (.int .i64 k) u).run Try.prog (w.alloc it) = .ok () ((w.putObj km (two j v k u)).alloc it) := by
  obtain ⟨h', hl⟩ := upd_get w km it h
  rw [← alloc_putObj w it _ km hl]
  have hget : (getObj km).run Try.prog (w.alloc it) = .ok (.map #[⟨.int .i64 j, v, 0⟩] 1) (w.alloc it) := get_map h'
  have hset : ∀ o, (setObj km o).run Try.prog (w.alloc it) = .ok () ((w.alloc it).putObj km o) := fun o => by simp [setObj, Sem.run, h', World.putObj]
  rcases hk with ⟨rfl, rfl⟩ | ⟨rfl, rfl⟩
  · have hch : ∀ b, (Instr.checkKey b 10000 44 (.int .i64 2)).run Try.prog (w.alloc it) = .ok () (w.alloc it) := fun b => by cases b <;> kernel_rfl
    simp [Instr.mapUpdate, run_underlying Try.underlying32, hget, hch, Instr.findKey, run_underlying Try.underlying44, Instr.findNow, Instr.sameNow, hset, two, ents]
  · have hch : ∀ b, (Instr.checkKey b 10000 44 (.int .i64 1)).run Try.prog (w.alloc it) = .ok () (w.alloc it) := fun b => by cases b <;> kernel_rfl
    simp [Instr.mapUpdate, run_underlying Try.underlying32, hget, hch, Instr.findKey, run_underlying Try.underlying44, Instr.findNow, Instr.sameNow, hset, two, ents]
theorem stays (k : Int) (hk : k = 1 ∨ k = 2) (W : World) : (Instr.keyThatStays (.int .i64 k) (.int .i64 k)).run Try.prog W = .ok (.int .i64 k) W := by
  rcases hk with rfl | rfl <;> kernel_rfl
theorem upd_2 (x y : Int) (hk : (x = 1 ∧ y = 2) ∨ (x = 2 ∧ y = 1)) (v u v' : Value) (h : w.heap[km]? = some (two x v y u)) : (Instr.mapUpdate 32 (.map (some km)) (.int .i64 x) v').run Try.prog (w.alloc it) = .ok () ((w.putObj km (two x v' y u)).alloc it) := by
  unfold two ents at h
  obtain ⟨h', hl⟩ := upd_get w km it h
  rw [← alloc_putObj w it _ km hl]
  have hget := get_map (P := Try.prog) h'
  have hset : ∀ o, (setObj km o).run Try.prog (w.alloc it) = .ok () ((w.alloc it).putObj km o) := fun o => by simp [setObj, Sem.run, h', World.putObj]
  rcases hk with ⟨rfl, rfl⟩ | ⟨rfl, rfl⟩
  · have hch : ∀ b, (Instr.checkKey b 10000 44 (.int .i64 1)).run Try.prog (w.alloc it) = .ok () (w.alloc it) := fun b => by cases b <;> kernel_rfl
    have hst := stays 1 (.inl rfl) (w.alloc it)
    simp [Instr.mapUpdate, run_underlying Try.underlying32, hget, hch, Instr.findKey, run_underlying Try.underlying44, Instr.findNow, Instr.sameNow, hset, hst, two, ents]
  · have hch : ∀ b, (Instr.checkKey b 10000 44 (.int .i64 2)).run Try.prog (w.alloc it) = .ok () (w.alloc it) := fun b => by cases b <;> kernel_rfl
    have hst := stays 2 (.inr rfl) (w.alloc it)
    simp [Instr.mapUpdate, run_underlying Try.underlying32, hget, hch, Instr.findKey, run_underlying Try.underlying44, Instr.findNow, Instr.sameNow, hset, hst, two, ents]
theorem upd_3 (x y : Int) (hk : (x = 1 ∧ y = 2) ∨ (x = 2 ∧ y = 1)) (v u u' : Value) (h : w.heap[km]? = some (two x v y u)) : (Instr.mapUpdate 32 (.map (some km)) (.int .i64 y) u').run Try.prog (w.alloc it) = .ok () ((w.putObj km (two x v y u')).alloc it) := by
  unfold two ents at h
  obtain ⟨h', hl⟩ := upd_get w km it h
  rw [← alloc_putObj w it _ km hl]
  have hget := get_map (P := Try.prog) h'
  have hset : ∀ o, (setObj km o).run Try.prog (w.alloc it) = .ok () ((w.alloc it).putObj km o) := fun o => by simp [setObj, Sem.run, h', World.putObj]
  rcases hk with ⟨rfl, rfl⟩ | ⟨rfl, rfl⟩
  · have hch : ∀ b, (Instr.checkKey b 10000 44 (.int .i64 2)).run Try.prog (w.alloc it) = .ok () (w.alloc it) := fun b => by cases b <;> kernel_rfl
    have hst := stays 2 (.inr rfl) (w.alloc it)
    simp [Instr.mapUpdate, run_underlying Try.underlying32, hget, hch, Instr.findKey, run_underlying Try.underlying44, Instr.findNow, Instr.sameNow, hset, hst, two, ents]
  · have hch : ∀ b, (Instr.checkKey b 10000 44 (.int .i64 1)).run Try.prog (w.alloc it) = .ok () (w.alloc it) := fun b => by cases b <;> kernel_rfl
    have hst := stays 1 (.inl rfl) (w.alloc it)
    simp [Instr.mapUpdate, run_underlying Try.underlying32, hget, hch, Instr.findKey, run_underlying Try.underlying44, Instr.findNow, Instr.sameNow, hset, hst, two, ents]
end
end Go.Proofs.Ytglppcoohojmpaa.Rf
