/-
  A machine that lives on beside rows of the law's own.
-/
import Derived.Test.YtiobchadjcekcaaMacMvs
import Derived.Test.YtiobchadjcekcaaMacLive
import Derived.Test.YtiobchadjcekcaaMacIdleP
namespace Go.Proofs.Ytiobchadjcekcaa.Ma
open Go.RowKit Go.Shelf Mr Me
theorem R.kept {W w : World} {U K : Nat → Prop} {q : Ph} {km s1 a1 s2 a2 : Nat} {P : Pm} (h : R W U K q km s1 a1 s2 a2 P) (hk : ∀ k, U k ∨ K k → w.heap[k]? = W.heap[k]?) (hs : W.heap.size ≤ w.heap.size) : R w U K q km s1 a1 s2 a2 P := by
  obtain ⟨S, vl, va, vc, mv, ah, bt, hM, hinj, hah, hK, hKU, hwf, hvk⟩ := h
  exact ⟨S, vl, va, vc, mv, ah, bt, ⟨Xs.kept hM.1 (fun k hU _ _ _ => hk k (.inl hU)) (fun _ h => h) (fun _ _ h => h), hM.2.kept (fun k hU => hk k (.inl hU)) (fun _ h => h) (fun k hU => Nat.lt_of_lt_of_le (hM.2.ul k hU) hs)⟩, hinj, hah, hK.kept (fun k hk' => hk k (.inr hk')), fun k hk' => ⟨(hKU k hk').1, Nat.lt_of_lt_of_le (hKU k hk').2 hs⟩, hwf, hvk⟩
theorem Lv.kept {W w : World} {U : Nat → Prop} {k0 k1 : Nat} {q : Ph} {P : Pm} (h : Lv W U k0 k1 q P) (hk : ∀ k, U k ∨ k < k1 → w.heap[k]? = W.heap[k]?) (hs : W.heap.size ≤ w.heap.size) : Lv w U k0 k1 q P :=
  ⟨h.r.kept (fun k hk' => hk k (by rcases hk' with h | h; exact .inl h; exact .inr h.2)) hs, h.u, h.vs⟩
/-- The law's rows: the moves kept, their numbers. -/
def nums (kt : Nat → List Mv) (L i : Nat) : List Value := (List.range (L + 1)).map (fun j => Value.int .i64 (if j < i then ((kt j).length : Int) else 0))
theorem nums_length (kt : Nat → List Mv) (L i : Nat) : (nums kt L i).length = L + 1 := by simp [nums]
theorem nums_get (kt : Nat → List Mv) (L i j : Nat) (hj : j ≤ L) : (nums kt L i)[j]? = some (.int .i64 (if j < i then ((kt j).length : Int) else 0)) := by
  simp [nums, show j < L + 1 by omega]
theorem nums_set (kt : Nat → List Mv) (L i : Nat) : (nums kt L i).set i (.int .i64 ((kt i).length : Int)) = nums kt L (i + 1) := by
  apply List.ext_getElem?
  intro j
  rw [List.getElem?_set, nums_length]
  by_cases h : i = j
  · subst h
    rw [if_pos rfl]
    by_cases hi : i < L + 1
    · rw [if_pos hi, nums_get _ _ _ _ (by omega), if_pos (by omega)]
    · rw [if_neg hi, List.getElem?_eq_none (by rw [nums_length]; omega)]
  · rw [if_neg h]
    by_cases hj : j < L + 1
    · rw [nums_get _ _ _ _ (by omega), nums_get _ _ _ _ (by omega)]
      congr 3
      exact propext ⟨fun _ => by omega, fun _ => by omega⟩
    · rw [List.getElem?_eq_none (by rw [nums_length]; omega), List.getElem?_eq_none (by rw [nums_length]; omega)]
theorem make_ints (W : World) (n : Nat) (hn : n ≤ 1000000) :
    (Instr.makeSlice 61 (.int .i64 ((n : Int) + 1)) (.int .i64 ((n : Int) + 1))).run Try.prog W = .ok (.slice (some ⟨W.heap.size, 0, none⟩) (n + 1) (n + 1)) (W.alloc (.cells (madeCells #[.int .i64 0] (n + 1)) 3)) := by
  obtain ⟨i0, hi, hz0, hz1, hz2⟩ := info_parts info_int
  have h := run_make (P := Try.prog) W 61 3 i0 (.int .i64 0) Try.underlying61 hi hz0 .i64 .i64 ((n : Int) + 1) ((n : Int) + 1) (by omega) (Int.le_refl _) (by rw [hz2]; omega) (by omega)
  have e : ((n : Int) + 1).toNat = n + 1 := by omega
  rw [e, hz1, Nat.mul_one] at h
  simpa [Value.cells] using h
theorem made_ints (W : World) (S : Nat → Prop) (kt : Nat → List Mv) (n : Nat) (hn : n ≤ 1000000) (hS : S W.heap.size) : Has (W.alloc (.cells (madeCells #[.int .i64 0] (n + 1)) 3)) S 3 1 (.slice (some ⟨W.heap.size, 0, none⟩) (n + 1) (n + 1)) (n + 1) (nums kt n 0) := by
  refine ⟨by rw [nums_length]; omega, .inr ⟨_, n + 1, _, rfl, hS, heap_alloc_new W _, Nat.le_refl _, by unfold maxLen; omega, by rw [size_madeCells]; omega, ?_⟩⟩
  apply List.ext_getElem?
  intro j
  rw [Nat.mul_one, List.getElem?_take]
  by_cases hj : j < n + 1
  · rw [if_pos hj, nums_get _ _ _ _ (by omega), if_neg (by omega)]
    simp [madeCells, hj, Nat.mod_one]
  · rw [if_neg hj, List.getElem?_eq_none (by rw [nums_length]; omega)]
/-- A row outside the machine stays outside. -/
theorem has_out {W w : World} {U U' : Nat → Prop} {k1 e size n : Nat} {v : Value} {xs : List Value} (h : Has W (fun k => k1 ≤ k ∧ ¬ U k) e size v n xs) (hU : ∀ k, U' k → U k ∨ W.heap.size ≤ k) (hf : Fr W w U) : Has w (fun k => k1 ≤ k ∧ ¬ U' k) e size v n xs :=
  h.kept (fun k hk => hf.block k (h.lt k hk).2 (h.lt k hk).1.2) (fun k hk => ⟨(h.lt k hk).1.1, fun hu => by
    rcases hU k hu with h' | h'
    · exact (h.lt k hk).1.2 h'
    · have := (h.lt k hk).2; omega⟩)
/-- A run's box is made behind the call. -/
theorem kq_next {W W5 : World} {u1 u2 u4 : Value} {P : Pm}
    (hu1 : Has W5 (fun k => W.heap.size ≤ k) 52 9 u1 P.cls.length (clc P.cls)) (hu2 : Has W5 (fun k => W.heap.size ≤ k) 57 7 u2 P.lg.length (lgc P.lg)) (hu4 : Has W5 (fun k => W.heap.size ≤ k) 27 1 u4 P.ws.length (wrd P.ws)) :
    Kq (W5.alloc (.cells #[u1, u2, .slice none 0 0, u4] 41)) W5.heap.size (W5.heap.size + 1) u1 u2 u4 P := by
  have kh : ∀ {e size m : Nat} {v : Value} {xs : List Value}, Has W5 (fun k => W.heap.size ≤ k) e size v m xs → Has (W5.alloc (.cells #[u1, u2, .slice none 0 0, u4] 41)) (fun k => k < W5.heap.size + 1) e size v m xs := fun {e size m v xs} hh =>
    (hh.alloc _).kept (fun _ _ => rfl) (fun k hk => by have := hh.lt k hk; omega)
  exact ⟨by omega, heap_alloc_new W5 _, kh hu1, kh hu2, kh hu4⟩
end Go.Proofs.Ytiobchadjcekcaa.Ma
