/-
  DEQUE: the law of Left.
-/
import Derived.Test.YtaojggnflblgnaaDqRef
namespace Go.Proofs.Ytaojggnflblgnaa.Dq
open Go.RowKit Mr
set_option linter.unusedVariables false
set_option linter.unusedSimpArgs false
set_option maxRecDepth 100000
set_option maxHeartbeats 8000000 in
theorem sameInts_eq (xs : List Int) (a a' : Option Addr) (n c c' : Nat) (w : World) (h1 : IsAt w a n xs) (h2 : IsAt w a' n xs) (hn : n ≤ 1000000000000000000) :
    Calls Try.prog 10 #[.slice a n c, .slice a' n c'] w fun e w' => e = .returned (.bool true) ∧ Below w.heap.size w w' := by
  have z : ((n : Int) != (n : Int)) = false := by simp
  have hl := Mr.hid h1.1
  replace h1 := Mr.hid h1
  replace h2 := Mr.hid h2
  go_enter Try.func10, Try.ntmps10
  go_upto_region 4 with fail
  go_loopg [5] n (fun gk s5 wr => ∃ i : Nat, s5 = .int .i64 (i : Int) ∧ i + gk = n ∧ Below w.heap.size w wr)
  case atStart => exact ⟨0, rfl, by omega, Below.refl _ _⟩
  case round =>
    obtain ⟨i, rfl, hi, B⟩ := hrel
    by_cases hlt : i < n
    · have hli : i < xs.length := by have := hl.out; omega
      obtain ⟨x, hx⟩ : ∃ x, xs[i]? = some x := ⟨xs[i], List.getElem?_eq_getElem hli⟩
      have hne : xs ≠ [] := by intro e; rw [e] at hli; simp at hli
      obtain ⟨g, o, rfl, hg, hc⟩ := (h1.out.below B).2.resolve_left hne
      obtain ⟨g', o', rfl, hg', hc'⟩ := (h2.out.below B).2.resolve_left hne
      have c0 := hc i x hx
      have c0' := hc' i x hx
      have hlI : (i : Int) < (n : Int) := by omega
      have dl : decide ((i : Int) < (n : Int)) = true := by simpa using hlI
      have hw : IntKind.i64.wrap ((i : Int) + 1) = (i : Int) + 1 := i64x _ (by omega) (by omega)
      have hi' := Mr.hid hi
      replace B := Mr.hid B
      clear hc hc' hx hli hi hne
      go_upto_region 6 with fail
      go_quiet (fail)
      replace B := Mr.hid (B.out.trans ⟨rfl, rfl, rfl, Nat.le_refl _, fun _ _ => rfl⟩ : Below w.heap.size w (wr.drewN nq))
      clear c0 c0' hg hg'
      generalize wr.drewN nq = w6 at *
      go_wp2
      go_roundg (gk - 1)
      case measure => have := hi'.out; omega
      case rel => exact ⟨i + 1, by simp, by have := hi'.out; omega, B.out⟩
    · have dl : decide ((i : Int) < (n : Int)) = false := decide_eq_false (by omega)
      have dl2 : ¬ (i : Int) < (n : Int) := by omega
      replace B := Mr.hid B
      clear hi hlt
      go_wp2
      go_ret
      exact ⟨rfl, B.out⟩
set_option maxHeartbeats 4000000 in
theorem num_any (x : Int) (w : World) : Calls Try.prog 7 #[.int .i64 x] w fun e w' => e = .returned (.int .i64 x) ∧ w' = w := by
  go_enter Try.func7, Try.ntmps7
  go_wp2
  go_ret
  exact ⟨rfl, rfl⟩
end Go.Proofs.Ytaojggnflblgnaa.Dq
