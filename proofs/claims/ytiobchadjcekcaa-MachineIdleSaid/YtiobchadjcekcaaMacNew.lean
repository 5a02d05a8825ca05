/-
  machine.New by its contract.
-/
import Derived.Test.YtiobchadjcekcaaMacRepeat
namespace Go.Proofs.Ytiobchadjcekcaa.Ma
open Go.RowKit Go.Shelf Mr Me
/-- A new machine. -/
def Pm.new (nth : Nat) (ws : List Int) : Pm := ⟨List.replicate nth ⟨.idle, false, -1⟩, 0, [], ws, []⟩
theorem thsOf_new (nth : Nat) (bt : Nat → Nat) : thsOf (List.replicate nth ⟨.idle, false, -1⟩) bt = List.replicate nth idleT := by
  apply List.ext_getElem?
  intro j
  rw [thsOf_get]
  simp only [List.getElem?_replicate]
  split <;> rfl
theorem new_idle {nth i : Nat} {t : Pt} (h : (List.replicate nth (⟨.idle, false, -1⟩ : Pt))[i]? = some t) : t = ⟨.idle, false, -1⟩ := by
  rw [List.getElem?_replicate] at h
  split at h
  · exact (Option.some.inj h).symm
  · cases h
set_option maxRecDepth 100000 in
set_option maxHeartbeats 1000000 in
theorem newM_any (w : World) (nth : Nat) (h1 : 1 ≤ nth) (h2 : nth ≤ 16) (a : Option Addr) (n cap : Nat) (ws : List Int) (hs : Src w a n cap ws) (hn : n ≤ 8192) {K : Nat → Prop} {km s1 a1 s2 a2 : Nat} (hK : Kt w K km ws.length s1 a1 s2 a2) (hKl : ∀ k, K k → k < w.heap.size) :
    Calls Try.prog 9 #[.int .i64 (nth : Int), .slice a n cap, .map (some km)] w fun e w' => ∃ q U, e = .returned (.tuple #[.pointer (some ⟨q.b, 0, none⟩), .int .i64 0]) ∧ R w' U K q km s1 a1 s2 a2 (Pm.new nth ws) ∧ q.vs = .slice none 0 0 ∧ (∀ k, U k → w.heap.size ≤ k) ∧ Below w.heap.size w w' := by
  have N := new_any _ _ _ _ _ hs hn
  have d1 : decide ((nth : Int) < 1) = false := by simp; omega
  have d2 : decide (16 < (nth : Int)) = false := by simp; omega
  have hws : ws.length ≤ 8192 := by have := hs.1; omega
  have RP := fun (w1 : World) => repeat_any (w1.alloc (.cells #[.nilIface, .bool false, .int .i64 (-1), .int .i64 0, .int .i64 0] 70)) w1.heap.size nth h1 h2 (heap_alloc_new w1 _)
  simp only [World.size_alloc] at RP
  replace hs := Mr.hid hs
  replace hK := Mr.hid hK
  go_enter Try.func9, Try.ntmps9
  go_wp2_with (first | (go_at_call 16; refine N.mono ?_; clear N; rintro e w1 ⟨bm, vw, rfl, hM, hB1⟩; have RP1 := RP w1; clear RP) | (go_at_call 17; refine RP1.mono ?_; clear RP1; rintro e w3 ⟨rfl, hT, hB3⟩))
  go_ret2
  have z1 := hB1.size
  have z3 := hB3.size
  obtain ⟨W5, hW5⟩ : ∃ W5, (w3.alloc (.cells #[.pointer (some ⟨bm, 0, none⟩), .slice none 0 0, .slice none 0 0] 73)).alloc (.cells #[.map (some km), .slice (some ⟨w1.heap.size + 1, 0, none⟩) nth nth, .int .i64 0, .pointer (some ⟨w3.heap.size, 0, none⟩)] 75) = W5 := ⟨_, rfl⟩
  have s5 : W5.heap.size = w3.heap.size + 1 + 1 := by rw [← hW5]; simp
  have k5 : ∀ k, k < w3.heap.size → W5.heap[k]? = w3.heap[k]? := fun k hk => by rw [← hW5]; exact (Below.heap_alloc _ _ _ (by simp; omega)).trans (Below.heap_alloc _ _ _ hk)
  have kb : W5.heap[w3.heap.size]? = some (.cells #[.pointer (some ⟨bm, 0, none⟩), .slice none 0 0, .slice none 0 0] 73 (0, 0)) := by rw [← hW5]; exact (Below.heap_alloc _ _ _ (by simp)).trans (heap_alloc_new w3 _)
  have km5 : W5.heap[w3.heap.size + 1]? = some (.cells #[.map (some km), .slice (some ⟨w1.heap.size + 1, 0, none⟩) nth nth, .int .i64 0, .pointer (some ⟨w3.heap.size, 0, none⟩)] 75 (0, 0)) := by
    rw [← hW5]
    have := heap_alloc_new (w3.alloc (.cells #[.pointer (some ⟨bm, 0, none⟩), .slice none 0 0, .slice none 0 0] 73)) (.cells #[.map (some km), .slice (some ⟨w1.heap.size + 1, 0, none⟩) nth nth, .int .i64 0, .pointer (some ⟨w3.heap.size, 0, none⟩)] 75)
    rw [World.size_alloc] at this
    exact this
  have B5 : Below w.heap.size w W5 := by
    rw [← hW5]
    simp only [World.size_alloc] at z3
    have b2 : Below w.heap.size w (w1.alloc (.cells #[.nilIface, .bool false, .int .i64 (-1), .int .i64 0, .int .i64 0] 70)) := hB1.alloc z1 _
    exact ((b2.trans (hB3.mono (by omega))).alloc (by omega) _).alloc (by simp; omega) _
  simp only [World.size_alloc] at z3
  have m5 : ∀ k, k < w1.heap.size → W5.heap[k]? = w1.heap[k]? := fun k hk => (k5 k (by omega)).trans ((hB3.block k (by omega)).trans (Below.heap_alloc _ _ _ hk))
  have u1 : (w.heap.size ≤ w3.heap.size + 1 ∧ w3.heap.size + 1 < W5.heap.size) ∧ ¬ (w.heap.size ≤ w3.heap.size + 1 ∧ w3.heap.size + 1 < w1.heap.size) := by omega
  have u2 : (w.heap.size ≤ w3.heap.size ∧ w3.heap.size < W5.heap.size) ∧ ¬ (w.heap.size ≤ w3.heap.size ∧ w3.heap.size < w1.heap.size) := by omega
  rw [hW5]
  refine ⟨⟨w3.heap.size + 1, w3.heap.size, bm, 0, 0, w1.heap.size + 1, nth, nth, .map (some km), .slice none 0 0, .slice none 0 0, vw⟩, (fun k => w.heap.size ≤ k ∧ k < W5.heap.size), rfl, ⟨(fun k => w.heap.size ≤ k ∧ k < w1.heap.size), .slice none 0 0, .slice none 0 0, .slice none 0 0, 0, [], (fun _ => 0), ⟨?_, ?_⟩, ?_, Nat.le_refl _, ?_, ?_, ?_, rfl⟩, rfl, fun k hk => hk.1, B5⟩
  · rintro k o ⟨j, t, hj, rfl, ho⟩
    rw [new_idle hj] at ho
    cases ho
  · refine ⟨km5, kb, (hM.narrow.kept (fun k _ hk => m5 k hk)), ?_, Has.nil _ _ _ _, Has.nil _ _ _ _, u1, u2, fun k hk => ⟨hk.1, by omega⟩, fun k hk => hk.2⟩
    have e : thsOf (Pm.new nth ws).pts (fun _ => 0) = List.replicate nth idleT := thsOf_new nth _
    simp only [e, List.length_replicate]
    refine hT.kept (fun k hk => k5 k (hT.lt k hk).2) (fun k hk => ?_)
    have h' := hT.lt k hk
    exact ⟨⟨by omega, by omega⟩, fun h => by omega⟩
  · intro i j t u hi hj ht
    rw [new_idle hi] at ht
    cases ht
  · exact hK.out.kept (fun k hk => B5.block k (hKl k hk))
  · intro k hk
    have := hKl k hk
    exact ⟨fun h => by omega, by omega⟩
  · refine ⟨by simp [Pm.new], by simp [Pm.new], by simp [Pm.new], fun i t hi => ?_⟩
    rw [new_idle hi]
    exact ⟨trivial, fun h => by cases h⟩
end Go.Proofs.Ytiobchadjcekcaa.Ma
