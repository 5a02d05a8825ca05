import Derived.Test.YtglppcoohojmpaaRfCopyW
/-
  maps.Copy of a kit onto an empty map, or onto one with the same keys.
-/
namespace Go.Proofs.Ytglppcoohojmpaa.Rf
open Go.RowKit Go.Shelf Mr Me Ma
theorem fr_copy (w : World) (km : Nat) (x1 x2 it : Obj) : Fr w (((w.drew.putObj km x1).putObj km x2).alloc it) (fun k => k = km) := by
  refine ⟨rfl, rfl, rfl, by simp [World.putObj], fun k hk hne => ?_⟩
  have z : ((w.drew.putObj km x1).putObj km x2).heap.size = w.heap.size := by simp [World.putObj]
  exact (Below.heap_alloc _ _ _ (by rw [z]; exact hk)).trans ((World.putObj_heap_other hne).trans (World.putObj_heap_other hne))
/-- A map of the two calls. -/
def Rd (o : Obj) (f1 f2 : Value) : Prop := o = two 1 f1 2 f2 ∨ o = two 2 f2 1 f1
theorem copy_new (w : World) (km bm : Nat) (hne : bm ≠ km) (f1 f2 : Value) (hb : w.heap[bm]? = some (two 1 f1 2 f2)) (hd : w.heap[km]? = some (.map #[] 0)) :
    Calls Try.prog 32 #[.map (some km), .map (some bm)] w fun e w' => e = .returned (.tuple #[]) ∧ (∃ o, w'.heap[km]? = some o ∧ Rd o f1 f2) ∧ Fr w w' (fun k => k = km) := by
  have hkl : km < w.heap.size := (Array.getElem?_eq_some_iff.1 hd).1
  have r0 := run_range_map (P := Try.prog) w 32 _ _ bm (ents 1 f1 2 f2) 2 Try.underlying32 hb
  obtain ⟨o, n0⟩ := next_two (P := Try.prog) w bm 1 2 f1 f2 hb
  cases o
  · have n0' : ∀ ty, (Instr.next (.pointer (some ⟨w.heap.size, 0, none⟩)) false ty).run Try.prog (w.alloc (.mapIter (some bm) 2 #[] 2)) = .ok (.tuple #[.bool true, .int .i64 2, f2]) (w.drew.alloc (.mapIter (some bm) 2 #[1] 2)) := n0
    have k1 : (w.drew.putObj km (.map #[⟨.int .i64 2, f2, 0⟩] 1)).heap[km]? = some (.map #[⟨.int .i64 2, f2, 0⟩] 1) := World.putObj_heap_same hkl
    have k2 : (w.drew.putObj km (.map #[⟨.int .i64 2, f2, 0⟩] 1)).heap[bm]? = some (two 1 f1 2 f2) := (World.putObj_heap_other hne).trans hb
    have z2 : (w.drew.putObj km (.map #[⟨.int .i64 2, f2, 0⟩] 1)).heap.size = w.heap.size := by simp [World.putObj]
    have k3 : ((w.drew.putObj km (.map #[⟨.int .i64 2, f2, 0⟩] 1)).putObj km (two 2 f2 1 f1)).heap[bm]? = some (two 1 f1 2 f2) := (World.putObj_heap_other hne).trans k2
    have k4 : ((w.drew.putObj km (.map #[⟨.int .i64 2, f2, 0⟩] 1)).putObj km (two 2 f2 1 f1)).heap[km]? = some (two 2 f2 1 f1) := World.putObj_heap_same (by rw [z2]; exact hkl)
    have z3 : ((w.drew.putObj km (.map #[⟨.int .i64 2, f2, 0⟩] 1)).putObj km (two 2 f2 1 f1)).heap.size = w.heap.size := by simp [World.putObj]
    have e0 := run_entry_map (P := Try.prog) w.drew bm 2 #[] (ents 1 f1 2 f2) 2 ⟨.int .i64 2, f2, 1⟩ hb (by simp [ents]) (by simp [ents])
    have e1 := run_entry_map (P := Try.prog) (w.drew.putObj km (.map #[⟨.int .i64 2, f2, 0⟩] 1)) bm 2 #[1] (ents 1 f1 2 f2) 2 ⟨.int .i64 1, f1, 0⟩ k2 (by simp [ents]) (by simp [ents])
    have n1 := fun ty => next_last (P := Try.prog) (w.drew.putObj km (.map #[⟨.int .i64 2, f2, 0⟩] 1)) ty bm 1 2 f1 f2 false k2
    have n2 := fun ty => next_none (P := Try.prog) ((w.drew.putObj km (.map #[⟨.int .i64 2, f2, 0⟩] 1)).putObj km (two 2 f2 1 f1)) ty bm 1 2 f1 f2 false k3
    rw [z2] at e1
    simp only [z2] at n1
    simp only [z3] at n2
    refine (copy_walk w w.drew (w.drew.putObj km (.map #[⟨.int .i64 2, f2, 0⟩] 1)) ((w.drew.putObj km (.map #[⟨.int .i64 2, f2, 0⟩] 1)).putObj km (two 2 f2 1 f1)) km bm w.heap.size (.mapIter (some bm) 2 #[] 2) (.mapIter (some bm) 2 #[1] 2) (.mapIter (some bm) 2 #[1, 0] 2) 2 1 f2 f1 r0 n0' e0 (upd_0 w.drew km _ 2 (by decide) f2 hd) n1 e1 (upd_1 (w.drew.putObj km (.map #[⟨.int .i64 2, f2, 0⟩] 1)) km _ 2 1 (by decide) f2 f1 k1) n2).mono ?_
    rintro e w' ⟨rfl, rfl⟩
    exact ⟨rfl, ⟨_, (Below.heap_alloc _ _ _ (by rw [z3]; exact hkl)).trans k4, .inr rfl⟩, fr_copy w km _ _ _⟩
  · have n0' : ∀ ty, (Instr.next (.pointer (some ⟨w.heap.size, 0, none⟩)) false ty).run Try.prog (w.alloc (.mapIter (some bm) 2 #[] 2)) = .ok (.tuple #[.bool true, .int .i64 1, f1]) (w.drew.alloc (.mapIter (some bm) 2 #[0] 2)) := n0
    have k1 : (w.drew.putObj km (.map #[⟨.int .i64 1, f1, 0⟩] 1)).heap[km]? = some (.map #[⟨.int .i64 1, f1, 0⟩] 1) := World.putObj_heap_same hkl
    have k2 : (w.drew.putObj km (.map #[⟨.int .i64 1, f1, 0⟩] 1)).heap[bm]? = some (two 1 f1 2 f2) := (World.putObj_heap_other hne).trans hb
    have z2 : (w.drew.putObj km (.map #[⟨.int .i64 1, f1, 0⟩] 1)).heap.size = w.heap.size := by simp [World.putObj]
    have k3 : ((w.drew.putObj km (.map #[⟨.int .i64 1, f1, 0⟩] 1)).putObj km (two 1 f1 2 f2)).heap[bm]? = some (two 1 f1 2 f2) := (World.putObj_heap_other hne).trans k2
    have k4 : ((w.drew.putObj km (.map #[⟨.int .i64 1, f1, 0⟩] 1)).putObj km (two 1 f1 2 f2)).heap[km]? = some (two 1 f1 2 f2) := World.putObj_heap_same (by rw [z2]; exact hkl)
    have z3 : ((w.drew.putObj km (.map #[⟨.int .i64 1, f1, 0⟩] 1)).putObj km (two 1 f1 2 f2)).heap.size = w.heap.size := by simp [World.putObj]
    have e0 := run_entry_map (P := Try.prog) w.drew bm 2 #[] (ents 1 f1 2 f2) 2 ⟨.int .i64 1, f1, 0⟩ hb (by simp [ents]) (by simp [ents])
    have e1 := run_entry_map (P := Try.prog) (w.drew.putObj km (.map #[⟨.int .i64 1, f1, 0⟩] 1)) bm 2 #[0] (ents 1 f1 2 f2) 2 ⟨.int .i64 2, f2, 1⟩ k2 (by simp [ents]) (by simp [ents])
    have n1 := fun ty => next_last (P := Try.prog) (w.drew.putObj km (.map #[⟨.int .i64 1, f1, 0⟩] 1)) ty bm 1 2 f1 f2 true k2
    have n2 := fun ty => next_none (P := Try.prog) ((w.drew.putObj km (.map #[⟨.int .i64 1, f1, 0⟩] 1)).putObj km (two 1 f1 2 f2)) ty bm 1 2 f1 f2 true k3
    rw [z2] at e1
    simp only [z2] at n1
    simp only [z3] at n2
    refine (copy_walk w w.drew (w.drew.putObj km (.map #[⟨.int .i64 1, f1, 0⟩] 1)) ((w.drew.putObj km (.map #[⟨.int .i64 1, f1, 0⟩] 1)).putObj km (two 1 f1 2 f2)) km bm w.heap.size (.mapIter (some bm) 2 #[] 2) (.mapIter (some bm) 2 #[0] 2) (.mapIter (some bm) 2 #[0, 1] 2) 1 2 f1 f2 r0 n0' e0 (upd_0 w.drew km _ 1 (by decide) f1 hd) n1 e1 (upd_1 (w.drew.putObj km (.map #[⟨.int .i64 1, f1, 0⟩] 1)) km _ 1 2 (by decide) f1 f2 k1) n2).mono ?_
    rintro e w' ⟨rfl, rfl⟩
    exact ⟨rfl, ⟨_, (Below.heap_alloc _ _ _ (by rw [z3]; exact hkl)).trans k4, .inl rfl⟩, fr_copy w km _ _ _⟩
theorem copy_over (w : World) (km bm : Nat) (hne : bm ≠ km) (f1 f2 g1 g2 : Value) (hb : w.heap[bm]? = some (two 1 f1 2 f2)) {o0 : Obj} (hd0 : w.heap[km]? = some o0) (hr : Rd o0 g1 g2) :
    Calls Try.prog 32 #[.map (some km), .map (some bm)] w fun e w' => e = .returned (.tuple #[]) ∧ (∃ o, w'.heap[km]? = some o ∧ Rd o f1 f2) ∧ Fr w w' (fun k => k = km) := by
  have hkl : km < w.heap.size := (Array.getElem?_eq_some_iff.1 hd0).1
  have r0 := run_range_map (P := Try.prog) w 32 _ _ bm (ents 1 f1 2 f2) 2 Try.underlying32 hb
  obtain ⟨o, n0⟩ := next_two (P := Try.prog) w bm 1 2 f1 f2 hb
  rcases hr with rfl | rfl
  · cases o
    · have n0' : ∀ ty, (Instr.next (.pointer (some ⟨w.heap.size, 0, none⟩)) false ty).run Try.prog (w.alloc (.mapIter (some bm) 2 #[] 2)) = .ok (.tuple #[.bool true, .int .i64 2, f2]) (w.drew.alloc (.mapIter (some bm) 2 #[1] 2)) := n0
      have k1 : (w.drew.putObj km (two 1 g1 2 f2)).heap[km]? = some (two 1 g1 2 f2) := World.putObj_heap_same hkl
      have k2 : (w.drew.putObj km (two 1 g1 2 f2)).heap[bm]? = some (two 1 f1 2 f2) := (World.putObj_heap_other hne).trans hb
      have z2 : (w.drew.putObj km (two 1 g1 2 f2)).heap.size = w.heap.size := by simp [World.putObj]
      have k3 : ((w.drew.putObj km (two 1 g1 2 f2)).putObj km (two 1 f1 2 f2)).heap[bm]? = some (two 1 f1 2 f2) := (World.putObj_heap_other hne).trans k2
      have k4 : ((w.drew.putObj km (two 1 g1 2 f2)).putObj km (two 1 f1 2 f2)).heap[km]? = some (two 1 f1 2 f2) := World.putObj_heap_same (by rw [z2]; exact hkl)
      have z3 : ((w.drew.putObj km (two 1 g1 2 f2)).putObj km (two 1 f1 2 f2)).heap.size = w.heap.size := by simp [World.putObj]
      have e0 := run_entry_map (P := Try.prog) w.drew bm 2 #[] (ents 1 f1 2 f2) 2 ⟨.int .i64 2, f2, 1⟩ hb (by simp [ents]) (by simp [ents])
      have e1 := run_entry_map (P := Try.prog) (w.drew.putObj km (two 1 g1 2 f2)) bm 2 #[1] (ents 1 f1 2 f2) 2 ⟨.int .i64 1, f1, 0⟩ k2 (by simp [ents]) (by simp [ents])
      have n1 := fun ty => next_last (P := Try.prog) (w.drew.putObj km (two 1 g1 2 f2)) ty bm 1 2 f1 f2 false k2
      have n2 := fun ty => next_none (P := Try.prog) ((w.drew.putObj km (two 1 g1 2 f2)).putObj km (two 1 f1 2 f2)) ty bm 1 2 f1 f2 false k3
      rw [z2] at e1
      simp only [z2] at n1
      simp only [z3] at n2
      refine (copy_walk w w.drew (w.drew.putObj km (two 1 g1 2 f2)) ((w.drew.putObj km (two 1 g1 2 f2)).putObj km (two 1 f1 2 f2)) km bm w.heap.size (.mapIter (some bm) 2 #[] 2) (.mapIter (some bm) 2 #[1] 2) (.mapIter (some bm) 2 #[1, 0] 2) 2 1 f2 f1 r0 n0' e0 (upd_3 w.drew km _ 1 2 (by decide) g1 g2 f2 hd0) n1 e1 (upd_2 (w.drew.putObj km (two 1 g1 2 f2)) km _ 1 2 (by decide) g1 f2 f1 k1) n2).mono ?_
      rintro e w' ⟨rfl, rfl⟩
      exact ⟨rfl, ⟨_, (Below.heap_alloc _ _ _ (by rw [z3]; exact hkl)).trans k4, .inl rfl⟩, fr_copy w km _ _ _⟩
    · have n0' : ∀ ty, (Instr.next (.pointer (some ⟨w.heap.size, 0, none⟩)) false ty).run Try.prog (w.alloc (.mapIter (some bm) 2 #[] 2)) = .ok (.tuple #[.bool true, .int .i64 1, f1]) (w.drew.alloc (.mapIter (some bm) 2 #[0] 2)) := n0
      have k1 : (w.drew.putObj km (two 1 f1 2 g2)).heap[km]? = some (two 1 f1 2 g2) := World.putObj_heap_same hkl
      have k2 : (w.drew.putObj km (two 1 f1 2 g2)).heap[bm]? = some (two 1 f1 2 f2) := (World.putObj_heap_other hne).trans hb
      have z2 : (w.drew.putObj km (two 1 f1 2 g2)).heap.size = w.heap.size := by simp [World.putObj]
      have k3 : ((w.drew.putObj km (two 1 f1 2 g2)).putObj km (two 1 f1 2 f2)).heap[bm]? = some (two 1 f1 2 f2) := (World.putObj_heap_other hne).trans k2
      have k4 : ((w.drew.putObj km (two 1 f1 2 g2)).putObj km (two 1 f1 2 f2)).heap[km]? = some (two 1 f1 2 f2) := World.putObj_heap_same (by rw [z2]; exact hkl)
      have z3 : ((w.drew.putObj km (two 1 f1 2 g2)).putObj km (two 1 f1 2 f2)).heap.size = w.heap.size := by simp [World.putObj]
      have e0 := run_entry_map (P := Try.prog) w.drew bm 2 #[] (ents 1 f1 2 f2) 2 ⟨.int .i64 1, f1, 0⟩ hb (by simp [ents]) (by simp [ents])
      have e1 := run_entry_map (P := Try.prog) (w.drew.putObj km (two 1 f1 2 g2)) bm 2 #[0] (ents 1 f1 2 f2) 2 ⟨.int .i64 2, f2, 1⟩ k2 (by simp [ents]) (by simp [ents])
      have n1 := fun ty => next_last (P := Try.prog) (w.drew.putObj km (two 1 f1 2 g2)) ty bm 1 2 f1 f2 true k2
      have n2 := fun ty => next_none (P := Try.prog) ((w.drew.putObj km (two 1 f1 2 g2)).putObj km (two 1 f1 2 f2)) ty bm 1 2 f1 f2 true k3
      rw [z2] at e1
      simp only [z2] at n1
      simp only [z3] at n2
      refine (copy_walk w w.drew (w.drew.putObj km (two 1 f1 2 g2)) ((w.drew.putObj km (two 1 f1 2 g2)).putObj km (two 1 f1 2 f2)) km bm w.heap.size (.mapIter (some bm) 2 #[] 2) (.mapIter (some bm) 2 #[0] 2) (.mapIter (some bm) 2 #[0, 1] 2) 1 2 f1 f2 r0 n0' e0 (upd_2 w.drew km _ 1 2 (by decide) g1 g2 f1 hd0) n1 e1 (upd_3 (w.drew.putObj km (two 1 f1 2 g2)) km _ 1 2 (by decide) f1 g2 f2 k1) n2).mono ?_
      rintro e w' ⟨rfl, rfl⟩
      exact ⟨rfl, ⟨_, (Below.heap_alloc _ _ _ (by rw [z3]; exact hkl)).trans k4, .inl rfl⟩, fr_copy w km _ _ _⟩
  · cases o
    · have n0' : ∀ ty, (Instr.next (.pointer (some ⟨w.heap.size, 0, none⟩)) false ty).run Try.prog (w.alloc (.mapIter (some bm) 2 #[] 2)) = .ok (.tuple #[.bool true, .int .i64 2, f2]) (w.drew.alloc (.mapIter (some bm) 2 #[1] 2)) := n0
      have k1 : (w.drew.putObj km (two 2 f2 1 g1)).heap[km]? = some (two 2 f2 1 g1) := World.putObj_heap_same hkl
      have k2 : (w.drew.putObj km (two 2 f2 1 g1)).heap[bm]? = some (two 1 f1 2 f2) := (World.putObj_heap_other hne).trans hb
      have z2 : (w.drew.putObj km (two 2 f2 1 g1)).heap.size = w.heap.size := by simp [World.putObj]
      have k3 : ((w.drew.putObj km (two 2 f2 1 g1)).putObj km (two 2 f2 1 f1)).heap[bm]? = some (two 1 f1 2 f2) := (World.putObj_heap_other hne).trans k2
      have k4 : ((w.drew.putObj km (two 2 f2 1 g1)).putObj km (two 2 f2 1 f1)).heap[km]? = some (two 2 f2 1 f1) := World.putObj_heap_same (by rw [z2]; exact hkl)
      have z3 : ((w.drew.putObj km (two 2 f2 1 g1)).putObj km (two 2 f2 1 f1)).heap.size = w.heap.size := by simp [World.putObj]
      have e0 := run_entry_map (P := Try.prog) w.drew bm 2 #[] (ents 1 f1 2 f2) 2 ⟨.int .i64 2, f2, 1⟩ hb (by simp [ents]) (by simp [ents])
      have e1 := run_entry_map (P := Try.prog) (w.drew.putObj km (two 2 f2 1 g1)) bm 2 #[1] (ents 1 f1 2 f2) 2 ⟨.int .i64 1, f1, 0⟩ k2 (by simp [ents]) (by simp [ents])
      have n1 := fun ty => next_last (P := Try.prog) (w.drew.putObj km (two 2 f2 1 g1)) ty bm 1 2 f1 f2 false k2
      have n2 := fun ty => next_none (P := Try.prog) ((w.drew.putObj km (two 2 f2 1 g1)).putObj km (two 2 f2 1 f1)) ty bm 1 2 f1 f2 false k3
      rw [z2] at e1
      simp only [z2] at n1
      simp only [z3] at n2
      refine (copy_walk w w.drew (w.drew.putObj km (two 2 f2 1 g1)) ((w.drew.putObj km (two 2 f2 1 g1)).putObj km (two 2 f2 1 f1)) km bm w.heap.size (.mapIter (some bm) 2 #[] 2) (.mapIter (some bm) 2 #[1] 2) (.mapIter (some bm) 2 #[1, 0] 2) 2 1 f2 f1 r0 n0' e0 (upd_2 w.drew km _ 2 1 (by decide) g2 g1 f2 hd0) n1 e1 (upd_3 (w.drew.putObj km (two 2 f2 1 g1)) km _ 2 1 (by decide) f2 g1 f1 k1) n2).mono ?_
      rintro e w' ⟨rfl, rfl⟩
      exact ⟨rfl, ⟨_, (Below.heap_alloc _ _ _ (by rw [z3]; exact hkl)).trans k4, .inr rfl⟩, fr_copy w km _ _ _⟩
    · have n0' : ∀ ty, (Instr.next (.pointer (some ⟨w.heap.size, 0, none⟩)) false ty).run Try.prog (w.alloc (.mapIter (some bm) 2 #[] 2)) = .ok (.tuple #[.bool true, .int .i64 1, f1]) (w.drew.alloc (.mapIter (some bm) 2 #[0] 2)) := n0
      have k1 : (w.drew.putObj km (two 2 g2 1 f1)).heap[km]? = some (two 2 g2 1 f1) := World.putObj_heap_same hkl
      have k2 : (w.drew.putObj km (two 2 g2 1 f1)).heap[bm]? = some (two 1 f1 2 f2) := (World.putObj_heap_other hne).trans hb
      have z2 : (w.drew.putObj km (two 2 g2 1 f1)).heap.size = w.heap.size := by simp [World.putObj]
      have k3 : ((w.drew.putObj km (two 2 g2 1 f1)).putObj km (two 2 f2 1 f1)).heap[bm]? = some (two 1 f1 2 f2) := (World.putObj_heap_other hne).trans k2
      have k4 : ((w.drew.putObj km (two 2 g2 1 f1)).putObj km (two 2 f2 1 f1)).heap[km]? = some (two 2 f2 1 f1) := World.putObj_heap_same (by rw [z2]; exact hkl)
      have z3 : ((w.drew.putObj km (two 2 g2 1 f1)).putObj km (two 2 f2 1 f1)).heap.size = w.heap.size := by simp [World.putObj]
      have e0 := run_entry_map (P := Try.prog) w.drew bm 2 #[] (ents 1 f1 2 f2) 2 ⟨.int .i64 1, f1, 0⟩ hb (by simp [ents]) (by simp [ents])
      have e1 := run_entry_map (P := Try.prog) (w.drew.putObj km (two 2 g2 1 f1)) bm 2 #[0] (ents 1 f1 2 f2) 2 ⟨.int .i64 2, f2, 1⟩ k2 (by simp [ents]) (by simp [ents])
      have n1 := fun ty => next_last (P := Try.prog) (w.drew.putObj km (two 2 g2 1 f1)) ty bm 1 2 f1 f2 true k2
      have n2 := fun ty => next_none (P := Try.prog) ((w.drew.putObj km (two 2 g2 1 f1)).putObj km (two 2 f2 1 f1)) ty bm 1 2 f1 f2 true k3
      rw [z2] at e1
      simp only [z2] at n1
      simp only [z3] at n2
      refine (copy_walk w w.drew (w.drew.putObj km (two 2 g2 1 f1)) ((w.drew.putObj km (two 2 g2 1 f1)).putObj km (two 2 f2 1 f1)) km bm w.heap.size (.mapIter (some bm) 2 #[] 2) (.mapIter (some bm) 2 #[0] 2) (.mapIter (some bm) 2 #[0, 1] 2) 1 2 f1 f2 r0 n0' e0 (upd_3 w.drew km _ 2 1 (by decide) g2 g1 f1 hd0) n1 e1 (upd_2 (w.drew.putObj km (two 2 g2 1 f1)) km _ 2 1 (by decide) g2 f1 f2 k1) n2).mono ?_
      rintro e w' ⟨rfl, rfl⟩
      exact ⟨rfl, ⟨_, (Below.heap_alloc _ _ _ (by rw [z3]; exact hkl)).trans k4, .inr rfl⟩, fr_copy w km _ _ _⟩
end Go.Proofs.Ytglppcoohojmpaa.Rf
