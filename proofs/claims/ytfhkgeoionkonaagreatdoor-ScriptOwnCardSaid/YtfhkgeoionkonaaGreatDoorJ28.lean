import Derived.Test.YtfhkgeoionkonaaGreatDoorJ18
import Derived.Test.YtfhkgeoionkonaaGreatDoorJ24
import Derived.Test.YtfhkgeoionkonaaGreatDoorJ25
import Derived.Test.YtfhkgeoionkonaaGreatDoorJ27
import Derived.Test.YtfhkgeoionkonaaGreatDoorJ20
/-
  SCRIPT: a script that is cut and printed.
-/
namespace Go.Proofs.YtfhkgeoionkonaaGreatDoor.Sc
open Go.RowKit Mr
set_option linter.unusedVariables false
set_option linter.unusedSimpArgs false
set_option maxRecDepth 100000
/-- A script that is cut is printed in full. -/
theorem prints_len2 (c : Cf) (ms : List Mv) (hc : cfgC c = true) (hm : ∀ m ∈ ms, MvB m) (hl : ms.length ≤ 2000) : (prints (cfL c) ms).length ≤ 900000 := by
  obtain ⟨b0, b1, b2, b3, b4, b5, b6⟩ := cf_bd hc
  have h1 := fil_len fMachine (cfL c) (by intro x hx; simp [cfL] at hx; rcases hx with rfl | rfl | rfl | rfl | rfl | rfl | rfl <;> assumption)
  have h2 := lines_len ms.length ms (Nat.le_refl _) hm (by omega)
  have e : fMachine.length ≤ 80 := by decide
  unfold prints
  simp only [List.length_append, List.length_cons, List.length_nil]
  omega
theorem MvAt.cut {W : World} {a : Option Addr} {n : Nat} {ms : List Mv} (h : MvAt W a n ms) (k : Nat) (hk : k ≤ n) : MvAt W a k (ms.take k) := by
  have hn := h.1
  refine ⟨by rw [List.length_take]; omega, ?_⟩
  rcases h.2 with e | ⟨b, off, rfl, hb, hc⟩
  · left; rw [e]; simp
  · refine .inr ⟨b, off, rfl, hb, fun j hj => ?_⟩
    rw [List.length_take] at hj
    have e : (ms.take k)[j]?.getD noMv = ms[j]?.getD noMv := by rw [List.getElem?_take, if_pos (by omega)]
    rw [e]
    exact hc j (by omega)
theorem print_cut (x0 x1 x2 x3 x4 x5 x6 : Int) (a : Option Addr) (n n1 cap : Nat) (ms : List Mv) (W : World) (E : Env W) (hM : MvAt W a n ms) (hm : ∀ m ∈ ms, MvB m) (hc : Wc.cfgB x0 x1 x2 x3 x4 x5 x6 = true) (h1 : n1 ≤ n) (hcap : n1 ≤ cap) (h2 : n1 ≤ 2000) :
    Calls Tryz.prog 11 #[.agg #[.int .i64 x0, .int .i64 x1, .int .i64 x2, .int .i64 x3, .int .i64 x4, .int .i64 x5, .int .i64 x6], .slice a n1 cap] W fun e w' => e = .returned (.tuple #[.string ⟨(prints [x0, x1, x2, x3, x4, x5, x6] (ms.take n1)).toArray⟩, .int .i64 0]) ∧ Below W.heap.size W w' := by
  have hcd : cfgC ⟨x0, x1, x2, x3, x4, x5, x6⟩ = true := hc
  have hm1 : ∀ m ∈ ms.take n1, MvB m := fun m hx => hm m (List.mem_of_mem_take hx)
  have hl1 : (ms.take n1).length ≤ 2000 := by rw [List.length_take]; omega
  have hp := prints_len2 ⟨x0, x1, x2, x3, x4, x5, x6⟩ (ms.take n1) hcd hm1 hl1
  have hp' : (prints [x0, x1, x2, x3, x4, x5, x6] (ms.take n1)).length ≤ 1048576 := Nat.le_trans hp (by decide)
  have := Print_any x0 x1 x2 x3 x4 x5 x6 a n1 cap (ms.take n1) W E (hM.cut n1 h1) hm1 (by obtain ⟨b0, b1, b2, b3, b4, b5, b6⟩ := cf_bd hcd; intro x hx; simp only [List.mem_cons, List.not_mem_nil, or_false] at hx; rcases hx with rfl | rfl | rfl | rfl | rfl | rfl | rfl <;> assumption) hcap
  unfold prT prE at this
  have hq : (ms.take n1).length ≤ 65536 := by omega
  simp only [if_pos hc, if_pos hq, if_pos hp'] at this
  exact this
/-- What is known of the text. -/
theorem text_cut (x0 x1 x2 x3 x4 x5 x6 : Int) (n n1 : Nat) (ms : List Mv) (hc : Wc.cfgB x0 x1 x2 x3 x4 x5 x6 = true) (hl : n = ms.length) (hm : ∀ m ∈ ms, MvB m) (h1 : n1 ≤ n) (h2 : n1 ≤ 2000) :
    (prints [x0, x1, x2, x3, x4, x5, x6] (ms.take n1)).length ≤ 900000 ∧ cfgC ⟨x0, x1, x2, x3, x4, x5, x6⟩ = true ∧ (∀ m ∈ ms.take n1, MvB m) ∧ (ms.take n1).length = n1 :=
  ⟨prints_len2 ⟨x0, x1, x2, x3, x4, x5, x6⟩ (ms.take n1) hc (fun m hx => hm m (List.mem_of_mem_take hx)) (by rw [List.length_take]; omega), hc, fun m hx => hm m (List.mem_of_mem_take hx), by rw [List.length_take]; omega⟩
end Go.Proofs.YtfhkgeoionkonaaGreatDoor.Sc
/-
  SCRIPT: rows of moves that are written and grown.
-/
namespace Go.Proofs.YtfhkgeoionkonaaGreatDoor.Sc
open Go.RowKit Mr
set_option linter.unusedVariables false
set_option linter.unusedSimpArgs false
set_option maxRecDepth 100000
theorem has_set {W : World} {S : Nat → Prop} {e : TypeId} {size n : Nat} {v : Value} {xs : List Value} (h : Has W S e size v n xs) {g : Nat} (hv : v.ownBlock = some g) (p : Nat) (c : Value) : Has (W.setCell ⟨g, p, none⟩ c) S e size v n (xs.set p c) := by
  refine ⟨by rw [List.length_set]; exact h.1, ?_⟩
  rcases h.2 with ⟨rfl, _⟩ | ⟨g', cap, cur, rfl, hS, hgg, hnc, hcm, hcs, ht⟩
  · simp [Value.ownBlock] at hv
  · simp only [Value.ownBlock, Option.some.injEq] at hv
    subst hv
    refine .inr ⟨g', cap, cur.setIfInBounds p c, rfl, hS, setBlk hgg p c, hnc, hcm, by simpa using hcs, ?_⟩
    rw [Array.toList_setIfInBounds, List.take_set, ht]
theorem mvc_set : ∀ (ms : List Mv) (i : Nat) (m : Mv), i < ms.length → mvc (ms.set i m) = ((((mvc ms).set (i * 4) (.int .i64 m.th)).set (i * 4 + 1) (.int .i64 m.op)).set (i * 4 + 2) (.int .i64 m.arg)).set (i * 4 + 3) (.int .i64 m.data)
  | [], i, m, h => by simp at h
  | x :: l, 0, m, h => by
    rw [List.set_cons_zero, mvc_cons, mvc_cons]
    simp [Mv.cells]
  | x :: l, i + 1, m, h => by
    have ih := mvc_set l i m (by simpa using h)
    rw [List.set_cons_succ, mvc_cons, mvc_cons, ih]
    have e : ∀ r (y : List Value) (c : Value), (x.cells ++ y).set ((i + 1) * 4 + r) c = x.cells ++ y.set (i * 4 + r) c := fun r y c => by
      have hl : (Mv.cells x).length = 4 := rfl
      rw [List.set_append_right _ _ (by omega), hl, show (i + 1) * 4 + r - 4 = i * 4 + r by omega]
    have e0 := e 0
    simp only [Nat.add_zero] at e0
    rw [e0, e 1, e 2, e 3]
/-- A move written into a row. -/
theorem has_put {W : World} {S : Nat → Prop} {v : Value} {n : Nat} {ms : List Mv} (h : Has W S 38 4 v n (mvc ms)) {g : Nat} (hv : v.ownBlock = some g) (i : Nat) (m : Mv) (hi : i < ms.length) :
    Has ((((W.setCell ⟨g, i * 4, none⟩ (.int .i64 m.th)).setCell ⟨g, i * 4 + 1, none⟩ (.int .i64 m.op)).setCell ⟨g, i * 4 + 2, none⟩ (.int .i64 m.arg)).setCell ⟨g, i * 4 + 3, none⟩ (.int .i64 m.data)) S 38 4 v n (mvc (ms.set i m)) := by
  rw [mvc_set ms i m hi]
  exact has_set (has_set (has_set (has_set h hv _ _) hv _ _) hv _ _) hv _ _
theorem has_aside {W : World} {S : Nat → Prop} {v : Value} {n : Nat} {xs : List Value} (h : Has W S 38 4 v n xs) {g : Nat} (hv : v.ownBlock ≠ some g) (p q r t : Nat) (c0 c1 c2 c3 : Value) :
    Has ((((W.setCell ⟨g, p, none⟩ c0).setCell ⟨g, q, none⟩ c1).setCell ⟨g, r, none⟩ c2).setCell ⟨g, t, none⟩ c3) S 38 4 v n xs :=
  (((h.setCell _ _ hv).setCell _ _ hv).setCell _ _ hv).setCell _ _ hv
theorem has_len {W : World} {S : Nat → Prop} {v : Value} {n : Nat} {ms : List Mv} (h : Has W S 38 4 v n (mvc ms)) : ms.length = n := by have := h.1; rw [mvc_length] at this; omega
/-- The cells of a move in a row. -/
theorem has_mv {W : World} {S : Nat → Prop} {g n cap : Nat} {ms : List Mv} (h : Has W S 38 4 (.slice (some ⟨g, 0, none⟩) n cap) n (mvc ms)) (i : Nat) (m : Mv) (hi : ms[i]? = some m) : W.cell? ⟨g, i * 4, none⟩ = some (.int .i64 m.th) ∧ W.cell? ⟨g, i * 4 + 1, none⟩ = some (.int .i64 m.op) ∧ W.cell? ⟨g, i * 4 + 2, none⟩ = some (.int .i64 m.arg) ∧ W.cell? ⟨g, i * 4 + 3, none⟩ = some (.int .i64 m.data) := by
  have hce : ∀ t (_ : t < 4) u, m.cells[t]? = some u → W.cell? ⟨g, i * 4 + t, none⟩ = some u := fun t ht u hu => h.cells (g := g) rfl (i * 4 + t) u ((mvc_get ms i t _ hi ht).trans hu)
  exact ⟨hce 0 (by decide) _ rfl, hce 1 (by decide) _ rfl, hce 2 (by decide) _ rfl, hce 3 (by decide) _ rfl⟩
def mk77 (i : Nat) : Mv := ⟨-77, 0, (i : Int), 0⟩
def mk78 : Mv := ⟨-78, 0, 0, 0⟩
def mk79 : Mv := ⟨-79, 0, 0, 0⟩
/-- The first i moves are marks. -/
def Mk (i : Nat) (l : List Mv) : Prop := ∀ j, j < i → l[j]? = some (mk77 j)
theorem Mk.set {i : Nat} {l : List Mv} (h : Mk i l) (hi : i < l.length) : Mk (i + 1) (l.set i (mk77 i)) := by
  intro j hj
  by_cases e : j = i
  · subst e; rw [List.getElem?_set_self hi]
  · rw [List.getElem?_set_ne (by omega)]; exact h j (by omega)
theorem Mk.app {i : Nat} {l : List Mv} (h : Mk i l) (m : List Mv) : Mk i (l ++ m) := fun j hj => by
  have := h j hj
  rw [List.getElem?_append_left (List.getElem?_eq_some_iff.1 this).1]
  exact this
end Go.Proofs.YtfhkgeoionkonaaGreatDoor.Sc
