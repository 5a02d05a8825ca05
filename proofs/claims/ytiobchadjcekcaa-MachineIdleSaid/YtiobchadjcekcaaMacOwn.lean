/-
  Own by its contract: the map of the machine's own calls.
-/
import Derived.Test.YtiobchadjcekcaaMacMoves2
import Derived.RangeFuncNested
namespace Go.Proofs.Ytiobchadjcekcaa.Ma
open Go.RowKit Go.Shelf Mr Me
theorem within_any (size g : Nat) (w : World) : Calls Try.prog 18 #[.int .i64 (size : Int), .func (.func g) #[] #[]] w fun e w' => e = .returned (.func (.func 31) #[] #[.pointer (some ⟨w.heap.size, 0, none⟩), .pointer (some ⟨w.heap.size + 1, 0, none⟩)]) ∧ w' = (w.alloc (.cells #[.int .i64 (size : Int)] 3)).alloc (.cells #[.func (.func g) #[] #[]] 82) := by
  have hmf : ∀ (fn : Fn) (first cap : Array Value) (w : World), (Instr.makeFunc fn first cap).run Try.prog w = .ok (.func fn first cap) w := fun _ _ _ _ => rfl
  go_enter Try.func18, Try.ntmps18
  go_wp2
  go_ret
  exact ⟨rfl, rfl⟩
theorem run_makeMap (w : World) : (Instr.makeMap 30 none).run Try.prog w = .ok (.map (some w.heap.size)) (w.alloc (.map #[] 0)) := by rfl
theorem run_insert1 (w : World) (km : Nat) (v : Value) (h : w.heap[km]? = some (.map #[] 0)) : (Instr.mapUpdate 30 (.map (some km)) (.int .i64 1) v).run Try.prog w = .ok () (w.putObj km (.map #[⟨.int .i64 1, v, 0⟩] 1)) := by
  have hch : ∀ b, (Instr.checkKey b 10000 32 (.int .i64 1)).run Try.prog w = .ok () w := fun b => by cases b <;> kernel_rfl
  have hget : (getObj km).run Try.prog w = .ok (.map #[] 0) w := by simp [getObj, Sem.run, h]
  have hset : ∀ o, (setObj km o).run Try.prog w = .ok () (w.putObj km o) := fun o => by simp [setObj, Sem.run, h, World.putObj]
  simp [Instr.mapUpdate, run_underlying Try.underlying30, hget, hch, Instr.findKey, run_underlying Try.underlying32, Instr.findNow, hset]
theorem run_insert2 (w : World) (km : Nat) (v u : Value) (h : w.heap[km]? = some (.map #[⟨.int .i64 1, v, 0⟩] 1)) : (Instr.mapUpdate 30 (.map (some km)) (.int .i64 2) u).run Try.prog w = .ok () (w.putObj km (.map #[⟨.int .i64 1, v, 0⟩, ⟨.int .i64 2, u, 1⟩] 2)) := by
  have hch : ∀ b, (Instr.checkKey b 10000 32 (.int .i64 2)).run Try.prog w = .ok () w := fun b => by cases b <;> kernel_rfl
  have hget : (getObj km).run Try.prog w = .ok (.map #[⟨.int .i64 1, v, 0⟩] 1) w := by simp [getObj, Sem.run, h]
  have hset : ∀ o, (setObj km o).run Try.prog w = .ok () (w.putObj km o) := fun o => by simp [setObj, Sem.run, h, World.putObj]
  simp [Instr.mapUpdate, run_underlying Try.underlying30, hget, hch, Instr.findKey, run_underlying Try.underlying32, Instr.findNow, Instr.sameNow, hset]
set_option maxRecDepth 100000 in
set_option maxHeartbeats 1000000 in
theorem own_any (size : Nat) (w : World) : Calls Try.prog 10 #[.int .i64 (size : Int)] w fun e w' => e = .returned (.map (some w.heap.size)) ∧ Kt w' (fun k => w.heap.size ≤ k ∧ k < w'.heap.size) w.heap.size size (w.heap.size + 1) (w.heap.size + 1 + 1) (w.heap.size + 1 + 1 + 1) (w.heap.size + 1 + 1 + 1 + 1) ∧ Below w.heap.size w w' := by
  have m0 := run_makeMap
  obtain ⟨Wm, hWm⟩ : ∃ Wm, (((w.alloc (.map #[] 0)).alloc (.cells #[.int .i64 (size : Int)] 3)).alloc (.cells #[.func (.func 19) #[] #[]] 82)) = Wm := ⟨_, rfl⟩
  have sm : Wm.heap.size = w.heap.size + 1 + 1 + 1 := by rw [← hWm]; simp
  have g1 : Wm.heap[w.heap.size]? = some (.map #[] 0) := by
    rw [← hWm]
    exact (Below.heap_alloc _ _ _ (by simp; omega)).trans ((Below.heap_alloc _ _ _ (by simp)).trans (heap_alloc_new w _))
  have i1 := run_insert1 Wm w.heap.size (.func (.func 31) #[] #[.pointer (some ⟨w.heap.size + 1, 0, none⟩), .pointer (some ⟨w.heap.size + 1 + 1, 0, none⟩)]) g1
  have B1 : Below w.heap.size w Wm := by
    rw [← hWm]
    exact (((Below.refl _ w).alloc (Nat.le_refl _) _).alloc (by simp) _).alloc (by simp; omega) _
  have c1 : Clo Wm (w.heap.size + 1) (w.heap.size + 1 + 1) size 19 := by
    have h1 := Boxed.new (w.alloc (.map #[] 0)) 3 (.int .i64 (size : Int))
    have h2 := Boxed.new ((w.alloc (.map #[] 0)).alloc (.cells #[.int .i64 (size : Int)] 3)) 82 (.func (.func 19) #[] #[])
    rw [World.size_alloc] at h1
    rw [World.size_alloc, World.size_alloc] at h2
    have h1' := h1.alloc (.cells #[.func (.func 19) #[] #[]] 82)
    rw [hWm] at h1' h2
    exact ⟨h1'.cell, h2.cell⟩
  obtain ⟨Wp, hWp⟩ : ∃ Wp, Wm.putObj w.heap.size (.map #[⟨.int .i64 1, (.func (.func 31) #[] #[.pointer (some ⟨w.heap.size + 1, 0, none⟩), .pointer (some ⟨w.heap.size + 1 + 1, 0, none⟩)]), 0⟩] 1) = Wp := ⟨_, rfl⟩
  have sp : Wp.heap.size = w.heap.size + 1 + 1 + 1 := by rw [← hWp]; simp [World.putObj, sm]
  have gp : Wp.heap[w.heap.size]? = some (.map #[⟨.int .i64 1, (.func (.func 31) #[] #[.pointer (some ⟨w.heap.size + 1, 0, none⟩), .pointer (some ⟨w.heap.size + 1 + 1, 0, none⟩)]), 0⟩] 1) := by rw [← hWp]; exact World.putObj_heap_same (by omega)
  have op : ∀ k, k ≠ w.heap.size → Wp.heap[k]? = Wm.heap[k]? := fun k hk => by rw [← hWp]; exact World.putObj_heap_other hk
  rw [hWp] at i1
  have pos : Wp.os = Wm.os ∧ Wp.tape = Wm.tape ∧ Wp.output = Wm.output := by rw [← hWp]; exact ⟨rfl, rfl, rfl⟩
  obtain ⟨Wq, hWq⟩ : ∃ Wq, (Wp.alloc (.cells #[.int .i64 (size : Int)] 3)).alloc (.cells #[.func (.func 20) #[] #[]] 82) = Wq := ⟨_, rfl⟩
  have sq : Wq.heap.size = w.heap.size + 1 + 1 + 1 + 1 + 1 := by rw [← hWq]; simp [sp]
  have gq : Wq.heap[w.heap.size]? = some (.map #[⟨.int .i64 1, (.func (.func 31) #[] #[.pointer (some ⟨w.heap.size + 1, 0, none⟩), .pointer (some ⟨w.heap.size + 1 + 1, 0, none⟩)]), 0⟩] 1) := by
    rw [← hWq]
    exact (Below.heap_alloc _ _ _ (by simp; omega)).trans ((Below.heap_alloc _ _ _ (by omega)).trans gp)
  have oq : ∀ k, k < Wp.heap.size → Wq.heap[k]? = Wp.heap[k]? := fun k hk => by
    rw [← hWq]
    exact (Below.heap_alloc _ _ _ (by simp; omega)).trans (Below.heap_alloc _ _ _ hk)
  have c2 : Clo Wq (w.heap.size + 1 + 1 + 1) (w.heap.size + 1 + 1 + 1 + 1) size 20 := by
    have h1 := Boxed.new Wp 3 (.int .i64 (size : Int))
    have h2 := Boxed.new (Wp.alloc (.cells #[.int .i64 (size : Int)] 3)) 82 (.func (.func 20) #[] #[])
    rw [sp] at h1
    rw [World.size_alloc, sp] at h2
    have h1' := h1.alloc (.cells #[.func (.func 20) #[] #[]] 82)
    rw [hWq] at h1' h2
    exact ⟨h1'.cell, h2.cell⟩
  have c1q : Clo Wq (w.heap.size + 1) (w.heap.size + 1 + 1) size 19 := c1.kept ((oq _ (by omega)).trans (op _ (by omega))) ((oq _ (by omega)).trans (op _ (by omega)))
  have i2 := run_insert2 Wq w.heap.size (.func (.func 31) #[] #[.pointer (some ⟨w.heap.size + 1, 0, none⟩), .pointer (some ⟨w.heap.size + 1 + 1, 0, none⟩)]) (.func (.func 31) #[] #[.pointer (some ⟨w.heap.size + 1 + 1 + 1, 0, none⟩), .pointer (some ⟨w.heap.size + 1 + 1 + 1 + 1, 0, none⟩)]) gq
  have fin : Kt (Wq.putObj w.heap.size (.map #[⟨.int .i64 1, (.func (.func 31) #[] #[.pointer (some ⟨w.heap.size + 1, 0, none⟩), .pointer (some ⟨w.heap.size + 1 + 1, 0, none⟩)]), 0⟩, ⟨.int .i64 2, (.func (.func 31) #[] #[.pointer (some ⟨w.heap.size + 1 + 1 + 1, 0, none⟩), .pointer (some ⟨w.heap.size + 1 + 1 + 1 + 1, 0, none⟩)]), 1⟩] 2)) (fun k => w.heap.size ≤ k ∧ k < (Wq.putObj w.heap.size (.map #[⟨.int .i64 1, (.func (.func 31) #[] #[.pointer (some ⟨w.heap.size + 1, 0, none⟩), .pointer (some ⟨w.heap.size + 1 + 1, 0, none⟩)]), 0⟩, ⟨.int .i64 2, (.func (.func 31) #[] #[.pointer (some ⟨w.heap.size + 1 + 1 + 1, 0, none⟩), .pointer (some ⟨w.heap.size + 1 + 1 + 1 + 1, 0, none⟩)]), 1⟩] 2)).heap.size) w.heap.size size (w.heap.size + 1) (w.heap.size + 1 + 1) (w.heap.size + 1 + 1 + 1) (w.heap.size + 1 + 1 + 1 + 1) ∧ Below w.heap.size w (Wq.putObj w.heap.size (.map #[⟨.int .i64 1, (.func (.func 31) #[] #[.pointer (some ⟨w.heap.size + 1, 0, none⟩), .pointer (some ⟨w.heap.size + 1 + 1, 0, none⟩)]), 0⟩, ⟨.int .i64 2, (.func (.func 31) #[] #[.pointer (some ⟨w.heap.size + 1 + 1 + 1, 0, none⟩), .pointer (some ⟨w.heap.size + 1 + 1 + 1 + 1, 0, none⟩)]), 1⟩] 2)) := by
    have so : ∀ o, (Wq.putObj w.heap.size o).heap.size = w.heap.size + 1 + 1 + 1 + 1 + 1 := fun o => by simp [World.putObj, sq]
    refine ⟨⟨World.putObj_heap_same (by omega), c1q.kept (World.putObj_heap_other (by omega)) (World.putObj_heap_other (by omega)), c2.kept (World.putObj_heap_other (by omega)) (World.putObj_heap_other (by omega)), ?_⟩, ⟨?_, ?_, ?_, ?_, ?_⟩⟩
    · rw [so]
      refine ⟨⟨?_, ?_⟩, ⟨?_, ?_⟩, ⟨?_, ?_⟩, ⟨?_, ?_⟩, ⟨?_, ?_⟩⟩ <;> omega
    · show Wq.os = w.os
      rw [← hWq]
      exact pos.1.trans B1.os
    · show Wq.tape = w.tape
      rw [← hWq]
      exact pos.2.1.trans B1.tape
    · show Wq.output = w.output
      rw [← hWq]
      exact pos.2.2.trans B1.output
    · rw [so]; omega
    · intro k hk
      exact (World.putObj_heap_other (by omega)).trans ((oq k (by omega)).trans ((op k (by omega)).trans (B1.block k hk)))
  replace fin := Mr.hid fin
  replace hWq := hWq
  have within1 := within_any size 19 (w.alloc (.map #[] 0))
  have within2 := within_any size 20 Wp
  rw [World.size_alloc, hWm] at within1
  rw [sp, hWq] at within2
  clear c1 c2 c1q g1 gp gq op oq pos B1 hWm hWp hWq
  go_enter Try.func10, Try.ntmps10
  go_wp2_with (first | (go_at_call 18; refine within1.mono ?_; clear within1; rintro e w1 ⟨rfl, hw⟩; obtain rfl := hw.symm) | (go_at_call 18; refine within2.mono ?_; clear within2; rintro e w2 ⟨rfl, hw2⟩; obtain rfl := hw2.symm))
  go_ret
  exact ⟨rfl, fin.out⟩
end Go.Proofs.Ytiobchadjcekcaa.Ma
