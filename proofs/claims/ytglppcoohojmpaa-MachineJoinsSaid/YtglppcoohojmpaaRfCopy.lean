import Derived.Test.YtglppcoohojmpaaRfKgN
import Derived.Laws.IdiomRangeMap
import Derived.LoopN
/-
  maps.Copy of a kit: the steps of its range.
-/
namespace Go.Proofs.Ytglppcoohojmpaa.Rf
open Go.RowKit Go.Shelf Mr Me Ma
def ents (x : Int) (v : Value) (y : Int) (u : Value) : Array MapEntry := #[⟨.int .i64 x, v, 0⟩, ⟨.int .i64 y, u, 1⟩]
def two (x : Int) (v : Value) (y : Int) (u : Value) : Obj := .map (ents x v y u) 2
section
variable {P : Program}
theorem get_map {w : World} {b : Nat} {es : Array MapEntry} {c : Nat} (h : w.heap[b]? = some (.map es c)) : (getObj b).run P w = .ok (.map es c) w := by simp [getObj, Sem.run, h]
theorem get_iter (w : World) (m : Option Nat) (s : Nat) (seen : Array Nat) (c : Nat) : (getObj w.heap.size).run P (w.alloc (.mapIter m s seen c)) = .ok (.mapIter m s seen c) (w.alloc (.mapIter m s seen c)) := by
  have h := heap_alloc_new w (.mapIter m s seen c)
  simp only [getObj, Sem.run, h]
theorem set_iter (w w1 : World) (hs : w1.heap.size = w.heap.size) (m m' : Option Nat) (s s' : Nat) (x x' : Array Nat) (c c' : Nat) : (setObj w.heap.size (.mapIter m' s' x' c')).run P (w1.alloc (.mapIter m s x c)) = .ok () (w1.alloc (.mapIter m' s' x' c')) := by
  rw [← hs]
  have h := heap_alloc_new w1 (.mapIter m s x c)
  have e : (w1.heap.push (.mapIter m s x c)).setIfInBounds w1.heap.size (.mapIter m' s' x' c') = w1.heap.push (.mapIter m' s' x' c') := by
    apply Array.toList_inj.1
    simp
  simp only [setObj, Sem.run, h]
  show Result.ok () ({ w1.alloc (.mapIter m s x c) with heap := (w1.heap.push (.mapIter m s x c)).setIfInBounds w1.heap.size (.mapIter m' s' x' c') } : World) = _
  rw [e]
  rfl
theorem choose_two (W : World) : ∃ j, j < 2 ∧ (choose (Question.mapNext 2)).run P W = .ok j W.drew :=
  ⟨_, Nat.mod_lt _ (by decide), by simp only [choose, Sem.run, Question.forced, Question.cut]; rfl⟩
theorem choose_one (W : World) : (choose (Question.mapNext 1)).run P W = .ok 0 W := by simp [choose, Sem.run, Question.forced]
section
variable (x : Int) (v : Value) (y : Int) (u : Value)
theorem ents_old : Array.filter (fun z => decide (z.born < 2)) (ents x v y u) = ents x v y u := by rfl
theorem ents_new : Array.filter (fun z => decide (z.born ≥ 2)) (ents x v y u) = #[] := by rfl
theorem ents_all : ((ents x v y u).all fun z => decide (z.born ≥ 2)) = false := by simp [ents]
theorem left_0 : Array.filter (fun e => !(#[] : Array Nat).contains e.born) (ents x v y u) = ents x v y u := by simp [ents]
theorem left_a : Array.filter (fun e => !(#[0] : Array Nat).contains e.born) (ents x v y u) = #[⟨.int .i64 y, u, 1⟩] := by simp [ents]
theorem left_b : Array.filter (fun e => !(#[1] : Array Nat).contains e.born) (ents x v y u) = #[⟨.int .i64 x, v, 0⟩] := by simp [ents]
theorem left_ab : Array.filter (fun e => !(#[0, 1] : Array Nat).contains e.born) (ents x v y u) = #[] := by simp [ents]
theorem left_ba : Array.filter (fun e => !(#[1, 0] : Array Nat).contains e.born) (ents x v y u) = #[] := by simp [ents]
end
theorem next_two (w : World) (bm : Nat) (x y : Int) (f1 f2 : Value) (hb : w.heap[bm]? = some (two x f1 y f2)) :
    ∃ o : Bool, ∀ ty : TypeId, (Instr.next (.pointer (some ⟨w.heap.size, 0, none⟩)) false ty).run P (w.alloc (.mapIter (some bm) 2 #[] 2)) = .ok (.tuple #[.bool true, .int .i64 (if o then x else y), if o then f1 else f2]) (w.drew.alloc (.mapIter (some bm) 2 #[if o then 0 else 1] 2)) := by
  have hlt : bm < w.heap.size := (Array.getElem?_eq_some_iff.1 hb).1
  have hb' : (w.alloc (.mapIter (some bm) 2 #[] 2)).heap[bm]? = some (two x f1 y f2) := by rw [Below.heap_alloc _ _ _ hlt, hb]
  unfold two at hb'
  have g1 := get_map (P := P) hb'
  have g2 := get_iter (P := P) w (some bm) 2 #[] 2
  obtain ⟨j, hj, hc⟩ := choose_two (P := P) (w.alloc (.mapIter (some bm) 2 #[] 2))
  have hw : (w.alloc (.mapIter (some bm) 2 #[] 2)).drew = w.drew.alloc (.mapIter (some bm) 2 #[] 2) := rfl
  rw [hw] at hc
  have : j = 0 ∨ j = 1 := by omega
  rcases this with rfl | rfl
  · refine ⟨true, fun ty => ?_⟩
    simp only [Instr.next, Sem.run_bind, g2, g1, Result.andThen_ok, left_0, ents_old, ents_new, ents_all]
    have hz : (ents x f1 y f2).isEmpty = false := rfl
    simp only [hz, Bool.not_false, Bool.and_false, Bool.false_eq_true, if_false, Array.append_empty, Array.empty_append, Array.size_map, show (ents x f1 y f2).size = 2 from rfl, Sem.run_bind, hc, Result.andThen_ok]
    have s := set_iter (P := P) w w.drew rfl (some bm) (some bm) 2 2 #[] #[0] 2 2
    simp [ents, s]
  · refine ⟨false, fun ty => ?_⟩
    simp only [Instr.next, Sem.run_bind, g2, g1, Result.andThen_ok, left_0, ents_old, ents_new, ents_all]
    have hz : (ents x f1 y f2).isEmpty = false := rfl
    simp only [hz, Bool.not_false, Bool.and_false, Bool.false_eq_true, if_false, Array.append_empty, Array.empty_append, Array.size_map, show (ents x f1 y f2).size = 2 from rfl, Sem.run_bind, hc, Result.andThen_ok]
    have s := set_iter (P := P) w w.drew rfl (some bm) (some bm) 2 2 #[] #[1] 2 2
    simp [ents, s]
theorem next_last (w : World) (ty : TypeId) (bm : Nat) (x y : Int) (f1 f2 : Value) (o : Bool) (hb : w.heap[bm]? = some (two x f1 y f2)) :
    (Instr.next (.pointer (some ⟨w.heap.size, 0, none⟩)) false ty).run P (w.alloc (.mapIter (some bm) 2 #[if o then 0 else 1] 2)) = .ok (.tuple #[.bool true, .int .i64 (if o then y else x), if o then f2 else f1]) (w.alloc (.mapIter (some bm) 2 #[if o then 0 else 1, if o then 1 else 0] 2)) := by
  have hlt : bm < w.heap.size := (Array.getElem?_eq_some_iff.1 hb).1
  cases o
  · have hb' : (w.alloc (.mapIter (some bm) 2 #[1] 2)).heap[bm]? = some (two x f1 y f2) := by rw [Below.heap_alloc _ _ _ hlt, hb]
    unfold two at hb'
    have g1 := get_map (P := P) hb'
    have g2 := get_iter (P := P) w (some bm) 2 #[1] 2
    have hc := choose_one (P := P) (w.alloc (.mapIter (some bm) 2 #[1] 2))
    have s := set_iter (P := P) w w rfl (some bm) (some bm) 2 2 #[1] #[1, 0] 2 2
    have k1 : Array.filter (fun z => decide (z.born < 2)) (#[⟨.int .i64 x, f1, 0⟩] : Array MapEntry) = #[⟨.int .i64 x, f1, 0⟩] := by rfl
    have k2 : Array.filter (fun z => decide (z.born ≥ 2)) (#[⟨.int .i64 x, f1, 0⟩] : Array MapEntry) = #[] := by rfl
    have k3 : (#[⟨.int .i64 x, f1, 0⟩] : Array MapEntry).isEmpty = false := rfl
    have k4 : (#[⟨.int .i64 x, f1, 0⟩] : Array MapEntry).size = 1 := rfl
    simp only [Instr.next, Sem.run_bind, g2, g1, Result.andThen_ok, left_b, ents_all, k4, Bool.and_false, Bool.false_eq_true, if_false]
    simp [s, Question.forced]
  · have hb' : (w.alloc (.mapIter (some bm) 2 #[0] 2)).heap[bm]? = some (two x f1 y f2) := by rw [Below.heap_alloc _ _ _ hlt, hb]
    unfold two at hb'
    have g1 := get_map (P := P) hb'
    have g2 := get_iter (P := P) w (some bm) 2 #[0] 2
    have hc := choose_one (P := P) (w.alloc (.mapIter (some bm) 2 #[0] 2))
    have s := set_iter (P := P) w w rfl (some bm) (some bm) 2 2 #[0] #[0, 1] 2 2
    have k1 : Array.filter (fun z => decide (z.born < 2)) (#[⟨.int .i64 y, f2, 1⟩] : Array MapEntry) = #[⟨.int .i64 y, f2, 1⟩] := by rfl
    have k2 : Array.filter (fun z => decide (z.born ≥ 2)) (#[⟨.int .i64 y, f2, 1⟩] : Array MapEntry) = #[] := by rfl
    have k3 : (#[⟨.int .i64 y, f2, 1⟩] : Array MapEntry).isEmpty = false := rfl
    have k4 : (#[⟨.int .i64 y, f2, 1⟩] : Array MapEntry).size = 1 := rfl
    simp only [Instr.next, Sem.run_bind, g2, g1, Result.andThen_ok, eq_self, if_true, left_a, ents_all, k4, Bool.and_false, Bool.false_eq_true, if_false]
    simp [s, Question.forced]
theorem next_none (w : World) (ty : TypeId) (bm : Nat) (x y : Int) (f1 f2 : Value) (o : Bool) (hb : w.heap[bm]? = some (two x f1 y f2)) :
    (Instr.next (.pointer (some ⟨w.heap.size, 0, none⟩)) false ty).run P (w.alloc (.mapIter (some bm) 2 #[if o then 0 else 1, if o then 1 else 0] 2)) = .ok (.tuple #[.bool false]) (w.alloc (.mapIter (some bm) 2 #[if o then 0 else 1, if o then 1 else 0] 2)) := by
  have hlt : bm < w.heap.size := (Array.getElem?_eq_some_iff.1 hb).1
  cases o
  · have hb' : (w.alloc (.mapIter (some bm) 2 #[1, 0] 2)).heap[bm]? = some (two x f1 y f2) := by rw [Below.heap_alloc _ _ _ hlt, hb]
    unfold two at hb'
    have g1 := get_map (P := P) hb'
    have g2 := get_iter (P := P) w (some bm) 2 #[1, 0] 2
    have hc := choose_one (P := P) (w.alloc (.mapIter (some bm) 2 #[1, 0] 2))
    have k1 : Array.filter (fun z => decide (z.born < 2)) (#[] : Array MapEntry) = #[] := by rfl
    have k2 : Array.filter (fun z => decide (z.born ≥ 2)) (#[] : Array MapEntry) = #[] := by rfl
    have k3 : (#[] : Array MapEntry).isEmpty = true := rfl
    have k4 : (#[none] : Array (Option MapEntry)).size = 1 := rfl
    simp only [Instr.next, Sem.run_bind, g2, g1, Result.andThen_ok, left_ba, ents_all, k1, k2, k3, k4, Bool.and_false, Bool.false_eq_true, if_false, if_true, Array.append_empty, Array.map_empty, hc]
    simp []
  · have hb' : (w.alloc (.mapIter (some bm) 2 #[0, 1] 2)).heap[bm]? = some (two x f1 y f2) := by rw [Below.heap_alloc _ _ _ hlt, hb]
    unfold two at hb'
    have g1 := get_map (P := P) hb'
    have g2 := get_iter (P := P) w (some bm) 2 #[0, 1] 2
    have hc := choose_one (P := P) (w.alloc (.mapIter (some bm) 2 #[0, 1] 2))
    have k1 : Array.filter (fun z => decide (z.born < 2)) (#[] : Array MapEntry) = #[] := by rfl
    have k2 : Array.filter (fun z => decide (z.born ≥ 2)) (#[] : Array MapEntry) = #[] := by rfl
    have k3 : (#[] : Array MapEntry).isEmpty = true := rfl
    have k4 : (#[none] : Array (Option MapEntry)).size = 1 := rfl
    simp only [Instr.next, Sem.run_bind, g2, g1, Result.andThen_ok, eq_self, left_ab, ents_all, k1, k2, k3, k4, Bool.and_false, Bool.false_eq_true, if_false, if_true, Array.append_empty, Array.map_empty, hc]
    simp []
end
end Go.Proofs.Ytglppcoohojmpaa.Rf
