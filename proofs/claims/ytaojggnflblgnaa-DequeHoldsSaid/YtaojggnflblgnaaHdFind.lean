/-
  DEQUE: slices.ContainsFunc of untimely.
-/
import Derived.Test.YtaojggnflblgnaaHdOne
namespace Go.Proofs.Ytaojggnflblgnaa.Hd
open Go.RowKit Mr Md
set_option linter.unusedVariables false
set_option linter.unusedSimpArgs false
set_option maxRecDepth 100000
theorem any_step (l : List Cq) (i : Nat) (x : Cq) (hx : l[i]? = some x) : (l.drop i).any unt = (unt x || (l.drop (i + 1)).any unt) := by
  obtain ⟨h1, rfl⟩ := List.getElem?_eq_some_iff.1 hx
  rw [List.drop_eq_getElem_cons h1, List.any_cons]
set_option maxHeartbeats 16000000 in
theorem indexF_any {T : Nat → Prop} (l : List Cq) (a : Option Addr) (cap : Nat) (w : World) (hv : Sl w T 9 (.slice a l.length cap) l.length (cqs l)) (hn : l.length < 1152921504606846976) :
    Calls Try.prog 24 #[.slice a l.length cap, .func (.func 13) #[] #[]] w fun e w' => ∃ x : Int, e = .returned (.int .i64 x) ∧ decide (0 ≤ x) = l.any unt ∧ Below w.heap.size w w' := by
  obtain ⟨n, hnn⟩ : ∃ n, n = l.length := ⟨_, rfl⟩
  obtain ⟨r, hr⟩ : ∃ r, r = l.any unt := ⟨_, rfl⟩
  have hv0 := Mr.hid hv
  rw [← hnn] at hn ⊢
  rw [← hr]
  clear hv
  replace hnn := Mr.hid hnn
  replace hr := Mr.hid hr
  have UN := Mr.hid untimely_any
  go_enter Try.func24, Try.ntmps24
  go_wp2
  go_loopg [8] n (fun gk s8 wr => ∃ i : Nat, s8 = .int .i64 (i : Int) ∧ (i + gk = n) ∧ Hid ((l.drop i).any unt = l.any unt) ∧ Below w.heap.size w wr)
  case atStart => exact ⟨0, rfl, by omega, Mr.hid rfl, Below.refl _ _⟩
  case round =>
    obtain ⟨i, rfl, hi, hz, hB⟩ := hrel
    by_cases hlt : i < n
    · have q3 : (i : Int) < (n : Int) := by omega
      obtain ⟨x, hx⟩ : ∃ x, l[i]? = some x := ⟨_, List.getElem?_eq_getElem (by rw [← hnn.out]; omega)⟩
      obtain ⟨b, o, rfl, _, C1⟩ := cqx_at hv0.out hx
      have D1 := C1.below hB
      have hs := any_step l i x hx
      rw [hs] at hz
      clear hs hx C1
      obtain ⟨l1, x0, x1, x2, x3, x4, x5, x6, x7, x8⟩ := D1
      have U := UN.out x
      unfold Cq.val at U
      cases hu : unt x with
      | true =>
        rw [hu] at U hz
        replace U := Mr.hid U
        go_wp2_with (go_at_call 13; refine (U.out _).mono ?_; rintro e w5 ⟨rfl, hB5⟩)
        go_ret
        exact ⟨_, rfl, by rw [hr.out, ← hz.out]; simp, hB.trans (hB5.mono hB.size)⟩
      | false =>
        rw [hu] at U hz
        replace U := Mr.hid U
        go_wp2_with (go_at_call 13; refine (U.out _).mono ?_; rintro e w5 ⟨rfl, hB5⟩)
        go_roundg (gk - 1)
        case measure => omega
        case rel => exact ⟨i + 1, by simp, by omega, Mr.hid (by have := hz.out; simpa using this), hB.trans (hB5.mono hB.size)⟩
    · have q1 : decide ((i : Int) < (n : Int)) = false := decide_eq_false (by omega)
      have q2 : decide (i < n) = false := decide_eq_false hlt
      go_wp2
      go_ret
      refine ⟨_, rfl, ?_, hB⟩
      rw [hr.out, ← hz.out, List.drop_of_length_le (by rw [← hnn.out]; omega)]
      rfl
set_option maxHeartbeats 4000000 in
theorem containsF_any {T : Nat → Prop} (l : List Cq) (a : Option Addr) (cap : Nat) (w : World) (hv : Sl w T 9 (.slice a l.length cap) l.length (cqs l)) (hn : l.length < 1152921504606846976) :
    Calls Try.prog 12 #[.slice a l.length cap, .func (.func 13) #[] #[]] w fun e w' => e = .returned (.bool (l.any unt)) ∧ Below w.heap.size w w' := by
  have IF := Mr.hid (indexF_any l a cap w hv hn)
  generalize l.any unt = r at *
  generalize l.length = n at *
  clear hv hn
  go_enter Try.func12, Try.ntmps12
  go_wp2_with (go_at_call 24; refine (IF.out).mono ?_; rintro e w5 ⟨x, rfl, hx, hB5⟩)
  go_ret
  exact ⟨by rw [← hx]; rfl, hB5⟩
end Go.Proofs.Ytaojggnflblgnaa.Hd
