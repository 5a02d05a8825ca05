import Derived.Test.YtfgnaffomglmdaaGreatJ12
import Derived.Deep.LoopGhost
import Derived.BigQuiet
import Derived.Test.YtfgnaffomglmdaaGreatJ16
/-
  WITNESS: the laws' sameInts, of rows that are one.
-/
namespace Go.Proofs.YtfgnaffomglmdaaGreat.Wt
open Go.RowKit Mr Md
set_option linter.unusedVariables false
set_option linter.unusedSimpArgs false
set_option maxRecDepth 100000
set_option maxHeartbeats 8000000 in
theorem sameInts_eq {W : World} {S T : Nat → Prop} {u v : Value} {l : List Int} (hu : Sl W S 1 u l.length (ints l)) (hv : Sl W T 1 v l.length (ints l)) (hsm : l.length ≤ 1000000000000000) :
    Calls Tryz.prog 6 #[u, v] W fun e w' => e = .returned (.bool true) ∧ Below W.heap.size W w' := by
  obtain ⟨au, cu, rfl, hcu⟩ := hu.form
  obtain ⟨av, cv, rfl, hcv⟩ := hv.form
  obtain ⟨n, hn⟩ : ∃ n, n = l.length := ⟨_, rfl⟩
  rw [← hn] at hu hv hsm ⊢
  replace hn := Mr.hid hn
  replace hu := Mr.hid hu
  replace hv := Mr.hid hv
  have z : ((n : Int) != (n : Int)) = false := by simp
  clear hcu hcv
  go_enter Tryz.func6, Tryz.ntmps6
  go_wp2
  go_loopg [5] n (fun k s5 wr => ∃ i : Nat, s5 = .int .i64 (i : Int) ∧ i + k = n ∧ Below W.heap.size W wr)
  case atStart => exact ⟨0, rfl, by omega, Below.refl _ _⟩
  case round =>
    obtain ⟨i, rfl, hi, B⟩ := hrel
    by_cases hlt : i < n
    · obtain ⟨x, hx⟩ : ∃ x, l[i]? = some x := ⟨l[i]'(by have := hn.out; omega), List.getElem?_eq_getElem _⟩
      obtain ⟨g1, o1, c1, e1, _, _, hl1, r1⟩ := (hu.out.below B).there (by omega)
      obtain ⟨g2, o2, c2, e2, _, _, hl2, r2⟩ := (hv.out.below B).there (by omega)
      cases e1
      cases e2
      have k1 := r1 i _ (by rw [ints, List.getElem?_map, hx]; rfl)
      have k2 := r2 i _ (by rw [ints, List.getElem?_map, hx]; rfl)
      have hlI : (i : Int) < (n : Int) := by omega
      have hw1 : IntKind.i64.wrap ((i : Int) + 1) = (i : Int) + 1 := i64x _ (by omega) (by omega)
      clear r1 r2
      replace B := Mr.hid B
      replace hx := Mr.hid hx
      go_upto_region 6 with (fail)
      go_quiet (fail)
      replace B := Mr.hid (B.out.trans (Bx.draws _ _ nq))
      clear k1 k2 hl1 hl2
      generalize wr.drewN nq = w6 at *
      go_wp2
      go_roundg (gk - 1)
      case measure => omega
      case rel => exact ⟨i + 1, by simp, by omega, B.out⟩
    · have dl : decide ((i : Int) < (n : Int)) = false := decide_eq_false (by omega)
      replace B := Mr.hid B
      go_wp2
      go_ret
      exact ⟨rfl, B.out⟩
end Go.Proofs.YtfgnaffomglmdaaGreat.Wt
/-
  The document's order of points, pure: a number put into its place.
-/
namespace Go.Proofs.YtfgnaffomglmdaaGreat.Wt
open Md
set_option linter.unusedVariables false
def insAt (l : List Int) (k : Nat) (x : Int) : List Int := l.take k ++ x :: l.drop k
theorem insAt_len (l : List Int) (k : Nat) (x : Int) : (insAt l k x).length = l.length + 1 := by simp [insAt]; omega
theorem insAt_end (l : List Int) (x : Int) : insAt l l.length x = l ++ [x] := by simp [insAt]
theorem insAt_perm (l : List Int) (k : Nat) (x : Int) : (insAt l k x).Perm (l ++ [x]) := by
  unfold insAt
  have h1 : (l.take k ++ x :: l.drop k).Perm (x :: (l.take k ++ l.drop k)) := List.perm_middle
  rw [List.take_append_drop] at h1
  exact h1.trans (List.perm_append_singleton x l).symm
theorem insAt_at {l : List Int} {k : Nat} (h : k ≤ l.length) (x : Int) : (insAt l k x)[k]? = some x := by
  unfold insAt
  rw [List.getElem?_append_right (by simp; omega)]
  simp [Nat.min_eq_left h]
theorem insAt_pred {l : List Int} {k : Nat} (h : k < l.length) (x : Int) : (insAt l (k + 1) x)[k]? = l[k]? := by
  unfold insAt
  rw [List.getElem?_append_left (by simp; omega), List.getElem?_take, if_pos (by omega)]
theorem insAt_swap {l : List Int} {k : Nat} {y : Int} (hy : l[k]? = some y) (x : Int) : ((insAt l (k + 1) x).set k x).set (k + 1) y = insAt l k x := by
  obtain ⟨h, rfl⟩ := List.getElem?_eq_some_iff.1 hy
  unfold insAt
  apply List.ext_getElem?
  intro j
  rw [List.getElem?_set, List.getElem?_set]
  rcases Nat.lt_trichotomy j k with e | e | e
  · rw [if_neg (by omega), if_neg (by omega), List.getElem?_append_left (by simp; omega), List.getElem?_append_left (by simp; omega), List.getElem?_take, List.getElem?_take, if_pos (by omega), if_pos e]
  · subst e
    rw [if_neg (by omega), if_pos rfl, if_pos (by simp; omega), List.getElem?_append_right (by simp; omega)]
    simp [Nat.min_eq_left (Nat.le_of_lt h)]
  · by_cases e2 : j = k + 1
    · subst e2
      rw [if_pos rfl, if_pos (by simp; omega), List.getElem?_append_right (by simp; omega)]
      simp [Nat.min_eq_left (Nat.le_of_lt h), List.getElem?_drop]
    · rw [if_neg (by omega), if_neg (by omega), List.getElem?_append_right (by simp; omega), List.getElem?_append_right (by simp; omega)]
      have e3 : (l.take (k + 1)).length = k + 1 := by simp; omega
      have e4 : (l.take k).length = k := by simp; omega
      rw [e3, e4, show j - (k + 1) = (j - (k + 2)) + 1 from by omega, show j - k = (j - (k + 1)) + 1 from by omega, List.getElem?_cons_succ, List.getElem?_cons_succ, List.getElem?_drop, List.getElem?_drop]
      congr 1; omega
theorem insAt_up {f : Int → Int} {l : List Int} {k : Nat} {x : Int} (hl : l.Pairwise (fun a b => f a ≤ f b)) (h1 : ∀ y ∈ l.drop k, f x < f y) (h2 : ∀ q y, k = q + 1 → l[q]? = some y → f y ≤ f x) (hk : k ≤ l.length) : (insAt l k x).Pairwise (fun a b => f a ≤ f b) := by
  have hl' := hl
  rw [← List.take_append_drop k l, List.pairwise_append] at hl
  obtain ⟨a1, a2, a3⟩ := hl
  unfold insAt
  rw [List.pairwise_append, List.pairwise_cons]
  refine ⟨a1, ⟨fun y hy => Int.le_of_lt (h1 y hy), a2⟩, fun a ha b hb => ?_⟩
  have hax : f a ≤ f x := by
    cases k with
    | zero => simp at ha
    | succ q =>
      have hq : l[q]? = some (l[q]'(by omega)) := List.getElem?_eq_getElem _
      refine Int.le_trans ?_ (h2 q _ rfl hq)
      obtain ⟨i, hi⟩ := List.getElem?_of_mem ha
      rw [List.getElem?_take] at hi
      split at hi
      · obtain ⟨hil, rfl⟩ := List.getElem?_eq_some_iff.1 hi
        by_cases e : i = q
        · subst e; exact Int.le_refl _
        · exact (List.pairwise_iff_getElem.1 hl') i q hil (by omega) (by omega)
      · cases hi
  rcases List.mem_cons.1 hb with rfl | hb
  · exact hax
  · exact Int.le_trans hax (Int.le_of_lt (h1 b hb))
theorem drop_at {l : List Int} {k : Nat} {y : Int} (hy : l[k]? = some y) {z : Int} (hz : z ∈ l.drop k) : z = y ∨ z ∈ l.drop (k + 1) := by
  obtain ⟨h, rfl⟩ := List.getElem?_eq_some_iff.1 hy
  rw [List.drop_eq_getElem_cons h] at hz
  rcases List.mem_cons.1 hz with h | h
  · exact .inl h
  · exact .inr h
/-- What stands in a row of points: a call that counts and has one. -/
theorem pix_call {cs : List Cq} {i : Nat} {l : List Int} (hp : l.Perm (pix (cs.take i) 0)) {y : Int} (hy : y ∈ l) : ∃ (j : Nat) (d : Cq), y = (j : Int) ∧ cs[j]? = some d ∧ j < i := by
  obtain ⟨j, d, hd, h1, _⟩ := (mem_pix _ 0 y).1 (hp.mem_iff.1 hy)
  rw [List.getElem?_take] at hd
  split at hd
  · exact ⟨j, d, by simpa using h1, hd, by assumption⟩
  · cases hd
end Go.Proofs.YtfgnaffomglmdaaGreat.Wt
