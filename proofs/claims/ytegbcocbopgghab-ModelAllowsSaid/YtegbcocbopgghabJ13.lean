import Derived.Test.YtegbcocbopgghabJ11
import Derived.Test.YtegbcocbopgghabJ03
import Derived.Test.YtegbcocbopgghabJ05
import Derived.Deep.RegionHeld3
/-
  Package model: slices.Clone, slices.Reverse, turned by their contracts.
-/
namespace Go.Proofs.Ytegbcocbopgghab.Md
open Go.RowKit Mr
set_option linter.unusedVariables false
set_option linter.unusedSimpArgs false
theorem mp_int : (Try.prog.info? 3).map (fun i => (i.zero, i.size, i.bytes)) = some (some (.int .i64 0), 1, 8) := by kernel_rfl
theorem mp_pair : (Try.prog.info? 81).map (fun i => (i.zero, i.size, i.bytes)) = some (some (.agg #[.int .i64 0, .int .i64 0]), 2, 16) := by kernel_rfl
theorem ints_len (l : List Int) : (ints l).length = l.length * 1 := by simp [ints]
theorem ints_one (l : List Int) : ∀ u ∈ ints l, u.oneCell' = true := by
  intro u hu
  obtain ⟨x, _, rfl⟩ := List.mem_map.1 hu
  rfl
theorem prs_one (l : List (Int × Int)) : ∀ u ∈ prs l, u.oneCell' = true := by
  intro u hu
  simp only [prs, List.mem_flatMap, pr] at hu
  obtain ⟨x, _, hu⟩ := hu
  simp at hu
  rcases hu with rfl | rfl <;> rfl
/-- A row's cells behind new blocks, as append asks them. -/
theorem Sl.news {W : World} {T : Nat → Prop} {size n : Nat} {a : Option Addr} {cap : Nat} {xs : List Value} (h : Sl W T size (.slice a n cap) n xs) (o : Obj) : ∀ ad, a = some ad → ∀ j u, xs[j]? = some u → (W.alloc o).cell? (ad.add j) = some u := by
  rintro ad rfl j u hu
  obtain ⟨hl, a, cap', hv, hc, h2⟩ := h
  rcases h2 with rfl | ⟨b, o', rfl, hT, hlt, hr⟩
  · have : xs = [] := List.eq_nil_of_length_eq_zero (by simpa using hl)
    subst this
    simp at hu
  · injection hv with e1 e2 e3
    cases e1
    rw [add1, World.cell?_alloc_past _ _ _ hlt]
    exact hr j u hu
theorem Sl.nothing {W : World} {T : Nat → Prop} {size n cap : Nat} {xs : List Value} (h : Sl W T size (.slice none n cap) n xs) : n = 0 := by
  obtain ⟨hl, a, cap', hv, hc, h2⟩ := h
  rcases h2 with rfl | ⟨b, o', rfl, _⟩
  · rfl
  · cases hv
set_option maxRecDepth 100000 in
set_option maxHeartbeats 1000000 in
theorem cloneI_any {w : World} {S : Nat → Prop} {u : Value} {l : List Int} (hu : Sl w S 1 u l.length (ints l)) (hsm : l.length * 8 ≤ 225100000000000) :
    Calls Try.prog 58 #[u] w fun e w' => ∃ v', e = .returned v' ∧ Own w' (fun k => w.heap.size ≤ k) 3 1 v' l.length (ints l) ∧ Below w.heap.size w w' := by
  obtain ⟨i0, hi, hz0, hz1, hz2⟩ := info_parts mp_int
  obtain ⟨a, c, rfl, hc⟩ := hu.form
  have hN := hu.news
  have hl := ints_len l
  have h1 := ints_one l
  cases a with
  | none =>
    have h0 : l = [] := List.eq_nil_of_length_eq_zero hu.nothing
    subst h0
    clear hu hN hl h1
    simp only [List.length_nil] at *
    have en := fun (w : World) => Lib.run_eql_slice_nil (P := Try.prog) w 22 3 none 0 c 0 0 Try.underlying22
    go_enter Try.func58, Try.ntmps58
    go_wp2
    go_ret
    exact ⟨_, rfl, Own.zero _ _ _ _ _, Below.refl _ _⟩
  | some ad =>
    have en := fun (w : World) => Lib.run_eql_slice_nil (P := Try.prog) w 22 3 (some ad) l.length c 0 0 Try.underlying22
    clear hu
    generalize ints l = xs at *
    generalize l.length = n at *
    replace hN := Mr.hid hN
    replace hl := Mr.hid hl
    replace h1 := Mr.hid h1
    go_enter Try.func58, Try.ntmps58
    go_wp2_with (at_builtin; refine wpList_append_mine _ rfl (.tmp 5) (.tmp 6) 22 rfl (fun k => w.heap.size ≤ k) 3 i0 _ 1 8 Try.underlying22 hi hz0 hz1 hz2 rfl (.slice (some ⟨w.heap.size, 0, none⟩) 0 0) 0 [] rfl (Own.zero _ _ _ _ _) (some ad) n c xs rfl hl.out (fun e => by cases e) (hN.out _) h1.out (by unfold maxLen; omega) (by omega) ?_; intro b' cap' w1 hown hfr)
    go_ret
    rw [Nat.zero_add, List.nil_append] at hown
    exact ⟨_, rfl, hown.mono (fun k h => by rcases h with h | h; exact h; simp at h; omega), ((Below.refl _ _).alloc (Nat.le_refl _) _).trans (hfr.below (fun _ h => h) (by simp))⟩
set_option maxRecDepth 100000 in
set_option maxHeartbeats 1000000 in
theorem cloneP_any {w : World} {S : Nat → Prop} {u : Value} {l : List (Int × Int)} (hu : Sl w S 2 u l.length (prs l)) (hsm : l.length * 16 ≤ 225100000000000) :
    Calls Try.prog 59 #[u] w fun e w' => ∃ v', e = .returned v' ∧ Own w' (fun k => w.heap.size ≤ k) 81 2 v' l.length (prs l) ∧ Below w.heap.size w w' := by
  obtain ⟨i0, hi, hz0, hz1, hz2⟩ := info_parts mp_pair
  obtain ⟨a, c, rfl, hc⟩ := hu.form
  have hN := hu.news
  have hl := prs_length l
  have h1 := prs_one l
  cases a with
  | none =>
    have h0 : l = [] := List.eq_nil_of_length_eq_zero hu.nothing
    subst h0
    clear hu hN hl h1
    simp only [List.length_nil] at *
    have en := fun (w : World) => Lib.run_eql_slice_nil (P := Try.prog) w 23 81 none 0 c 0 0 Try.underlying23
    go_enter Try.func59, Try.ntmps59
    go_wp2
    go_ret
    exact ⟨_, rfl, Own.zero _ _ _ _ _, Below.refl _ _⟩
  | some ad =>
    have en := fun (w : World) => Lib.run_eql_slice_nil (P := Try.prog) w 23 81 (some ad) l.length c 0 0 Try.underlying23
    clear hu
    generalize prs l = xs at *
    generalize l.length = n at *
    replace hN := Mr.hid hN
    replace hl := Mr.hid hl
    replace h1 := Mr.hid h1
    go_enter Try.func59, Try.ntmps59
    go_wp2_with (at_builtin; refine wpList_append_mine _ rfl (.tmp 5) (.tmp 6) 23 rfl (fun k => w.heap.size ≤ k) 81 i0 _ 2 16 Try.underlying23 hi hz0 hz1 hz2 rfl (.slice (some ⟨w.heap.size, 0, none⟩) 0 0) 0 [] rfl (Own.zero _ _ _ _ _) (some ad) n c xs rfl hl.out (fun e => by cases e) (hN.out _) h1.out (by unfold maxLen; omega) (by omega) ?_; intro b' cap' w1 hown hfr)
    go_ret
    rw [Nat.zero_add, List.nil_append] at hown
    exact ⟨_, rfl, hown.mono (fun k h => by rcases h with h | h; exact h; simp at h; omega), ((Below.refl _ _).alloc (Nat.le_refl _) _).trans (hfr.below (fun _ h => h) (by simp))⟩
/-- A write into a row of one's own. -/
theorem Own.set {W : World} {S : Nat → Prop} {e : TypeId} {n g o cap : Nat} {xs : List Value} (h : Own W S e 1 (.slice (some ⟨g, o, none⟩) n cap) n xs) (i : Nat) (hi : i < n) (u : Value) : Own (W.setCell ⟨g, o + i, none⟩ u) S e 1 (.slice (some ⟨g, o, none⟩) n cap) n (xs.set i u) := by
  obtain ⟨g', o', cap', cur, hv, hc, hm, hS, hg, hs, hx⟩ := h.there (by omega)
  cases hv
  refine ⟨by simpa using h.1, _, cap, rfl, hc, hm, .inr ⟨g, o, _, rfl, hS, setBlk hg _ u, by simpa using hs, ?_⟩⟩
  rw [Array.toList_setIfInBounds, List.drop_set, if_neg (by omega), Nat.add_sub_cancel_left, List.take_set, hx]
theorem Own.drew {W : World} {S : Nat → Prop} {e : TypeId} {size n : Nat} {v : Value} {xs : List Value} (h : Own W S e size v n xs) : Own W.drew S e size v n xs := h.kept (fun _ _ _ => rfl) (fun _ h => h)
theorem ints_set (l : List Int) (i : Nat) (x : Int) : (ints l).set i (.int .i64 x) = ints (l.set i x) := by simp [ints, List.map_set]
/-- What a reversal has done when its first i and its last i are exchanged. -/
def Rev (l d : List Int) (i : Nat) : Prop := d.length = l.length ∧ ∀ t, t < l.length → d[t]? = if t < i ∨ l.length < t + i + 1 then l[l.length - 1 - t]? else l[t]?
theorem rev_zero (l : List Int) : Rev l l 0 := ⟨rfl, fun t ht => by rw [if_neg (by omega)]⟩
theorem rev_step {l d : List Int} {i : Nat} (h : Rev l d i) (hi : 2 * i + 1 < l.length) : Rev l ((d.set i (d[l.length - 1 - i]?.getD 0)).set (l.length - 1 - i) (d[i]?.getD 0)) (i + 1) := by
  obtain ⟨h1, h2⟩ := h
  refine ⟨by simpa using h1, fun t ht => ?_⟩
  have e1 : d[i]? = l[i]? := by rw [h2 i (by omega), if_neg (by omega)]
  have e2 : d[l.length - 1 - i]? = l[l.length - 1 - i]? := by rw [h2 _ (by omega), if_neg (by omega)]
  have g1 : l[i]? = some (l[i]?.getD 0) := by rw [List.getElem?_eq_getElem (by omega)]; rfl
  have g2 : l[l.length - 1 - i]? = some (l[l.length - 1 - i]?.getD 0) := by rw [List.getElem?_eq_getElem (by omega)]; rfl
  rw [e1, e2]
  by_cases ht1 : t = l.length - 1 - i
  · subst ht1
    rw [List.getElem?_set_self (by simp; omega), if_pos (by omega), show l.length - 1 - (l.length - 1 - i) = i from by omega]
    exact g1.symm
  · rw [List.getElem?_set_ne (by omega)]
    by_cases ht2 : t = i
    · subst ht2
      rw [List.getElem?_set_self (by omega), if_pos (by omega)]
      exact g2.symm
    · rw [List.getElem?_set_ne (by omega), h2 t ht]
      by_cases ht3 : t < i ∨ l.length < t + i + 1
      · rw [if_pos ht3, if_pos (by omega)]
      · rw [if_neg ht3, if_neg (by omega)]
theorem rev_end {l d : List Int} {i : Nat} (h : Rev l d i) (hi : l.length ≤ 2 * i + 1) : d = l.reverse := by
  apply List.ext_getElem?
  intro t
  by_cases ht : t < l.length
  · rw [h.2 t ht, List.getElem?_reverse ht]
    by_cases c : t < i ∨ l.length < t + i + 1
    · rw [if_pos c]
    · rw [if_neg c, show l.length - 1 - t = t from by omega]
  · rw [List.getElem?_eq_none (by have := h.1; omega), List.getElem?_eq_none (by simp; omega)]
set_option maxRecDepth 100000 in
set_option maxHeartbeats 4000000 in
theorem reverse_any {w : World} {S : Nat → Prop} {v : Value} {l : List Int} (hv : Own w S 3 1 v l.length (ints l)) :
    Calls Try.prog 60 #[v] w fun e w' => e = .returned (.tuple #[]) ∧ Own w' S 3 1 v l.length (ints l.reverse) ∧ Fr w w' S := by
  obtain ⟨a, c, rfl, hc, hm⟩ := hv.form
  obtain ⟨n, hn⟩ : ∃ n, n = l.length := ⟨_, rfl⟩
  rw [← hn] at hv hc ⊢
  unfold maxLen at hm
  have hR := rev_zero l
  replace hn := Mr.hid hn
  replace hv := Mr.hid hv
  replace hR := Mr.hid hR
  go_enter Try.func60, Try.ntmps60
  go_wp2
  go_loopg [2, 3] n (fun k s2 s3 wr => ∃ (i : Nat) (d : List Int), s2 = .int .i64 (i : Int) ∧ s3 = .int .i64 ((n : Int) - 1 - (i : Int)) ∧ i + k = n ∧ Own wr S 3 1 (.slice a n c) n (ints d) ∧ Fr w wr S ∧ Rev l d i)
  case atStart => exact ⟨0, l, rfl, by simp, by omega, hv.out, Fr.refl _ _, hR.out⟩
  case round =>
    obtain ⟨i, d, rfl, rfl, hi, hO, hF, hR'⟩ := hrel
    clear hR hv
    by_cases hlt : 2 * i + 1 < n
    · obtain ⟨g, o, cap, cur, hv, hc', hm', hS, hg, hs, hx⟩ := hO.there (by omega)
      cases hv
      have hd : d.length = n := by rw [hR'.1]; exact hn.out.symm
      have c1 := own_cells hg hx i _ (ints_get d i (by omega))
      have c2 := own_cells hg hx (n - 1 - i) _ (ints_get d (n - 1 - i) (by omega))
      have z1 : wr.frozen? ⟨g, o + i, none⟩ = false := by simp [World.frozen?, hg]
      have z2 : wr.frozen? ⟨g, o + (n - 1 - i), none⟩ = false := by simp [World.frozen?, hg]
      have st := rev_step hR' (by have := hn.out; omega)
      rw [← hn.out] at st
      obtain ⟨j, hj⟩ : ∃ j, j = n - 1 - i := ⟨_, rfl⟩
      rw [← hj] at c2 z2 st
      have ej : (n : Int) - 1 - (i : Int) = (j : Int) := by omega
      rw [ej]
      have p1 : (0 : Int) ≤ (i : Int) := by omega
      have p2 : (i : Int) < (n : Int) := by omega
      have p3 : (0 : Int) ≤ (j : Int) := by omega
      have p4 : (j : Int) < (n : Int) := by omega
      have p5 : (i : Int) < (j : Int) := by omega
      have p6 : i ≠ j := by omega
      have hj2 : j < n := by omega
      have hi2 : i < n := by omega
      have ej2 : (n : Int) - 1 - ((i + 1 : Nat) : Int) = (j : Int) - 1 := by omega
      generalize d[i]?.getD 0 = q1 at *
      generalize d[j]?.getD 0 = q2 at *
      replace ej := Mr.hid ej
      replace ej2 := Mr.hid ej2
      replace hj := Mr.hid hj
      replace hO := Mr.hid hO
      replace hF := Mr.hid hF
      replace st := Mr.hid st
      replace hg := Mr.hid hg
      clear hR' hx hs
      go_wp2_with fail
      go_region
      go_wp2
      go_roundg (gk - 1)
      case measure => omega
      case rel => exact ⟨i + 1, _, by simp, by rw [ej2.out], by omega, by rw [← ints_set, ← ints_set]; exact ((hO.out.set i hi2 (.int .i64 q2)).set j hj2 (.int .i64 q1)).drew, ((hF.out.setCell ⟨g, o + i, none⟩ (.int .i64 q2) (.inl hS)).setCell ⟨g, o + j, none⟩ (.int .i64 q1) (.inl hS)).drew, st.out⟩
    · have d1 : decide ((i : Int) < (n : Int) - 1 - (i : Int)) = false := decide_eq_false (by omega)
      have he := rev_end hR' (by have := hn.out; omega)
      subst he
      replace hO := Mr.hid hO
      replace hF := Mr.hid hF
      clear hR'
      go_wp2
      go_end0
      exact ⟨rfl, hO.out, hF.out⟩
set_option maxRecDepth 100000 in
set_option maxHeartbeats 1000000 in
theorem turned_any {w : World} {S : Nat → Prop} {u : Value} {l : List Int} (hu : Sl w S 1 u l.length (ints l)) (hsm : l.length * 8 ≤ 225100000000000) :
    Calls Try.prog 52 #[u] w fun e w' => ∃ v', e = .returned v' ∧ Own w' (fun k => w.heap.size ≤ k) 3 1 v' l.length (ints l.reverse) ∧ Below w.heap.size w w' := by
  obtain ⟨a, c, rfl, hc⟩ := hu.form
  have C1 := cloneI_any hu hsm
  have C2 := fun (w' : World) v (h : Own w' (fun k => w.heap.size ≤ k) 3 1 v l.length (ints l)) => reverse_any h
  clear hu
  replace C1 := Mr.hid C1
  replace C2 := Mr.hid C2
  go_enter Try.func52, Try.ntmps52
  go_wp2_with (first | (go_at_call 58; refine C1.out.mono ?_; rintro e w1 ⟨v1, rfl, hO, hB⟩; obtain ⟨a1, c1, rfl, _, _⟩ := hO.form; replace hO := Mr.hid hO) | (go_at_call 60; refine (C2.out _ _ hO.out).mono ?_; rintro e w2 ⟨rfl, hO2, hF⟩))
  go_ret
  exact ⟨_, rfl, hO2, hB.trans (hF.below (fun _ h => h) hB.size)⟩
end Go.Proofs.Ytegbcocbopgghab.Md
/-
  Package model: the objects in the world; newCell .. newTable, worldOf.
-/
namespace Go.Proofs.Ytegbcocbopgghab.Md
open Go.RowKit Mr
set_option linter.unusedVariables false
set_option linter.unusedSimpArgs false
theorem Own.kept2 {W W' : World} {S T : Nat → Prop} {e : TypeId} {size n : Nat} {v : Value} {xs : List Value} (h : Own W S e size v n xs) (hb : ∀ k, S k → k < W.heap.size → W'.heap[k]? = W.heap[k]?) (hT : ∀ k, S k → k < W.heap.size → T k) : Own W' T e size v n xs := by
  obtain ⟨h1, a, cap, hv, hc, hm, h2⟩ := h
  refine ⟨h1, a, cap, hv, hc, hm, h2.imp id ?_⟩
  rintro ⟨g, o, cur, ha, hS, hg, hs, hx⟩
  have hl := (Array.getElem?_eq_some_iff.1 hg).1
  exact ⟨g, o, cur, ha, hT g hS hl, (hb g hS hl).trans hg, hs, hx⟩
/-- An object: its box holds a row of its own. -/
def Ob (W : World) (S : Nat → Prop) (g : Nat) (tb e : TypeId) (size n : Nat) (xs : List Value) : Prop :=
  ∃ v, S g ∧ W.heap[g]? = some (.cells #[v] tb (0, 0)) ∧ Own W (fun k => S k ∧ k ≠ g) e size v n xs
theorem Ob.kept {W W' : World} {S T : Nat → Prop} {g : Nat} {tb e : TypeId} {size n : Nat} {xs : List Value} (h : Ob W S g tb e size n xs) (hb : ∀ k, S k → k < W.heap.size → W'.heap[k]? = W.heap[k]?) (hT : ∀ k, S k → k < W.heap.size → T k) : Ob W' T g tb e size n xs := by
  obtain ⟨v, hS, hg, hO⟩ := h
  have hl := (Array.getElem?_eq_some_iff.1 hg).1
  exact ⟨v, hT g hS hl, (hb g hS hl).trans hg, hO.kept2 (fun k hk hl => hb k hk.1 hl) (fun k hk hl => ⟨hT k hk.1 hl, hk.2⟩)⟩
theorem Ob.below {W W' : World} {S : Nat → Prop} {g : Nat} {tb e : TypeId} {size n : Nat} {xs : List Value} (h : Ob W S g tb e size n xs) (hB : Below W.heap.size W W') : Ob W' (fun k => S k ∧ k < W.heap.size) g tb e size n xs :=
  h.kept (fun k _ hl => hB.block k hl) (fun k hk hl => ⟨hk, hl⟩)
theorem Ob.new {W1 : World} {B : Nat} {v : Value} {tb e : TypeId} {size n : Nat} {xs : List Value} (hO : Own W1 (fun k => B ≤ k) e size v n xs) (hB : B ≤ W1.heap.size) : Ob (W1.alloc (.cells #[v] tb (0, 0))) (fun k => B ≤ k) W1.heap.size tb e size n xs :=
  ⟨v, hB, heap_alloc_new W1 _, hO.kept2 (fun k _ hl => Below.heap_alloc W1 _ k hl) (fun k hk hl => ⟨hk, by omega⟩)⟩
set_option maxRecDepth 100000 in
set_option maxHeartbeats 1000000 in
theorem newCell_any {w : World} {S : Nat → Prop} {u : Value} {l : List Int} (hu : Sl w S 1 u l.length (ints l)) (hsm : l.length * 8 ≤ 225100000000000) :
    Calls Try.prog 46 #[u] w fun e w' => ∃ g, e = .returned (.pointer (some ⟨g, 0, none⟩)) ∧ Ob w' (fun k => w.heap.size ≤ k) g 104 3 1 l.length (ints l) ∧ Below w.heap.size w w' := by
  obtain ⟨a, c, rfl, hc⟩ := hu.form
  have C1 := cloneI_any hu hsm
  clear hu
  replace C1 := Mr.hid C1
  go_enter Try.func46, Try.ntmps46
  go_wp2_with (first | (go_at_call 58; refine C1.out.mono ?_; rintro e w1 ⟨v1, rfl, hO, hB⟩; obtain ⟨a1, c1, rfl, _, _⟩ := hO.form; replace hO := Mr.hid hO))
  go_ret
  exact ⟨_, rfl, Ob.new hO.out hB.size, hB.alloc hB.size _⟩
set_option maxRecDepth 100000 in
set_option maxHeartbeats 1000000 in
theorem newStack_any {w : World} {S : Nat → Prop} {u : Value} {l : List Int} (hu : Sl w S 1 u l.length (ints l)) (hsm : l.length * 8 ≤ 225100000000000) :
    Calls Try.prog 47 #[u] w fun e w' => ∃ g, e = .returned (.pointer (some ⟨g, 0, none⟩)) ∧ Ob w' (fun k => w.heap.size ≤ k) g 106 3 1 l.length (ints l.reverse) ∧ Below w.heap.size w w' := by
  obtain ⟨a, c, rfl, hc⟩ := hu.form
  have C1 := turned_any hu hsm
  clear hu
  replace C1 := Mr.hid C1
  go_enter Try.func47, Try.ntmps47
  go_wp2_with (first | (go_at_call 52; refine C1.out.mono ?_; rintro e w1 ⟨v1, rfl, hO, hB⟩; obtain ⟨a1, c1, rfl, _, _⟩ := hO.form; replace hO := Mr.hid hO))
  go_ret
  exact ⟨_, rfl, Ob.new hO.out hB.size, hB.alloc hB.size _⟩
set_option maxRecDepth 100000 in
set_option maxHeartbeats 1000000 in
theorem newQueue_any {w : World} {S : Nat → Prop} {u : Value} {l : List Int} (hu : Sl w S 1 u l.length (ints l)) (hsm : l.length * 8 ≤ 225100000000000) :
    Calls Try.prog 48 #[u] w fun e w' => ∃ g, e = .returned (.pointer (some ⟨g, 0, none⟩)) ∧ Ob w' (fun k => w.heap.size ≤ k) g 107 3 1 l.length (ints l) ∧ Below w.heap.size w w' := by
  obtain ⟨a, c, rfl, hc⟩ := hu.form
  have C1 := cloneI_any hu hsm
  clear hu
  replace C1 := Mr.hid C1
  go_enter Try.func48, Try.ntmps48
  go_wp2_with (first | (go_at_call 58; refine C1.out.mono ?_; rintro e w1 ⟨v1, rfl, hO, hB⟩; obtain ⟨a1, c1, rfl, _, _⟩ := hO.form; replace hO := Mr.hid hO))
  go_ret
  exact ⟨_, rfl, Ob.new hO.out hB.size, hB.alloc hB.size _⟩
set_option maxRecDepth 100000 in
set_option maxHeartbeats 1000000 in
theorem newSet_any {w : World} {S : Nat → Prop} {u : Value} {l : List Int} (hu : Sl w S 1 u l.length (ints l)) (hsm : l.length * 8 ≤ 225100000000000) :
    Calls Try.prog 49 #[u] w fun e w' => ∃ g, e = .returned (.pointer (some ⟨g, 0, none⟩)) ∧ Ob w' (fun k => w.heap.size ≤ k) g 109 3 1 l.length (ints l) ∧ Below w.heap.size w w' := by
  obtain ⟨a, c, rfl, hc⟩ := hu.form
  have C1 := cloneI_any hu hsm
  clear hu
  replace C1 := Mr.hid C1
  go_enter Try.func49, Try.ntmps49
  go_wp2_with (first | (go_at_call 58; refine C1.out.mono ?_; rintro e w1 ⟨v1, rfl, hO, hB⟩; obtain ⟨a1, c1, rfl, _, _⟩ := hO.form; replace hO := Mr.hid hO))
  go_ret
  exact ⟨_, rfl, Ob.new hO.out hB.size, hB.alloc hB.size _⟩
set_option maxRecDepth 100000 in
set_option maxHeartbeats 1000000 in
theorem newTable_any {w : World} {S : Nat → Prop} {u : Value} {l : List (Int × Int)} (hu : Sl w S 2 u l.length (prs l)) (hsm : l.length * 16 ≤ 225100000000000) :
    Calls Try.prog 50 #[u] w fun e w' => ∃ g, e = .returned (.pointer (some ⟨g, 0, none⟩)) ∧ Ob w' (fun k => w.heap.size ≤ k) g 111 81 2 l.length (prs l) ∧ Below w.heap.size w w' := by
  obtain ⟨a, c, rfl, hc⟩ := hu.form
  have C1 := cloneP_any hu hsm
  clear hu
  replace C1 := Mr.hid C1
  go_enter Try.func50, Try.ntmps50
  go_wp2_with (first | (go_at_call 59; refine C1.out.mono ?_; rintro e w1 ⟨v1, rfl, hO, hB⟩; obtain ⟨a1, c1, rfl, _, _⟩ := hO.form; replace hO := Mr.hid hO))
  go_ret
  exact ⟨_, rfl, Ob.new hO.out hB.size, hB.alloc hB.size _⟩
/-- Five objects, each with blocks of its own: those that lab gives its number; all of them are B or above. -/
structure Wd (W : World) (B : Nat) (lab : Nat → Nat) (g0 g1 g2 g3 g4 : Nat) (x : Ct) : Prop where
  low : ∀ k, lab k < 5 → B ≤ k
  cell : Ob W (fun k => lab k = 0) g0 104 3 1 x.cell.length (ints x.cell)
  stack : Ob W (fun k => lab k = 1) g1 106 3 1 x.stack.length (ints x.stack.reverse)
  queue : Ob W (fun k => lab k = 2) g2 107 3 1 x.queue.length (ints x.queue)
  set : Ob W (fun k => lab k = 3) g3 109 3 1 x.set.length (ints x.set)
  table : Ob W (fun k => lab k = 4) g4 111 81 2 x.table.length (prs x.table)
def labs (s0 s1 s2 s3 s4 : Nat) (k : Nat) : Nat := if k < s0 then 5 else if k < s1 then 0 else if k < s2 then 1 else if k < s3 then 2 else if k < s4 then 3 else 4
/-- The objects as a value: an array of interfaces. -/
def wdV (g0 g1 g2 g3 g4 : Nat) : Value := .agg #[.iface 92 (.pointer (some ⟨g0, 0, none⟩)), .iface 94 (.pointer (some ⟨g1, 0, none⟩)), .iface 96 (.pointer (some ⟨g2, 0, none⟩)), .iface 98 (.pointer (some ⟨g3, 0, none⟩)), .iface 100 (.pointer (some ⟨g4, 0, none⟩))]
/-- Two boxes above what was there. -/
def Tq (W w : World) (bU bR : Nat) (o r : Obj) : Prop := Below W.heap.size W w ∧ w.heap[bU]? = some o ∧ w.heap[bR]? = some r ∧ bR < w.heap.size ∧ W.heap.size ≤ bU ∧ W.heap.size ≤ bR ∧ bU < bR
theorem Tq.new (W : World) (o r : Obj) : Tq W ((W.alloc o).alloc r) W.heap.size (W.heap.size + 1) o r :=
  ⟨((Below.refl _ _).alloc (Nat.le_refl _) _).alloc (by simp) _, old_at (new_at W _ _ rfl) _, new_at _ _ _ (by simp), by simp, Nat.le_refl _, by omega, by omega⟩
theorem Tq.below {W w w' : World} {bU bR : Nat} {o r : Obj} (h : Tq W w bU bR o r) (hB : Below w.heap.size w w') : Tq W w' bU bR o r :=
  ⟨h.1.trans (hB.mono h.1.size), (hB.block _ (by have := h.2.2.2.1; have := h.2.2.2.2.2.2; omega)).trans h.2.1, (hB.block _ h.2.2.2.1).trans h.2.2.1, Nat.lt_of_lt_of_le h.2.2.2.1 hB.size, h.2.2.2.2⟩
theorem Tq.drew {W w : World} {bU bR : Nat} {o r : Obj} (h : Tq W w bU bR o r) : Tq W w.drew bU bR o r := ⟨h.1.drew, h.2⟩
theorem ifs_cells {W : World} {b : Nat} {v0 v1 v2 v3 v4 : Value} {t : TypeId} (h : W.heap[b]? = some (.cells #[v0, v1, v2, v3, v4] t (0, 0))) : W.cell? ⟨b, 0, none⟩ = some v0 ∧ W.cell? ⟨b, 1, none⟩ = some v1 ∧ W.cell? ⟨b, 2, none⟩ = some v2 ∧ W.cell? ⟨b, 3, none⟩ = some v3 ∧ W.cell? ⟨b, 4, none⟩ = some v4 ∧ b < W.heap.size :=
  ⟨by simp [World.cell?, h], by simp [World.cell?, h], by simp [World.cell?, h], by simp [World.cell?, h], by simp [World.cell?, h], (Array.getElem?_eq_some_iff.1 h).1⟩
theorem ifs_thaw {W : World} {b : Nat} {v0 v1 v2 v3 v4 : Value} {t : TypeId} (h : W.heap[b]? = some (.cells #[v0, v1, v2, v3, v4] t (0, 0))) : W.frozen? ⟨b, 0, none⟩ = false ∧ W.frozen? ⟨b, 1, none⟩ = false ∧ W.frozen? ⟨b, 2, none⟩ = false ∧ W.frozen? ⟨b, 3, none⟩ = false ∧ W.frozen? ⟨b, 4, none⟩ = false :=
  ⟨by simp [World.frozen?, h], by simp [World.frozen?, h], by simp [World.frozen?, h], by simp [World.frozen?, h], by simp [World.frozen?, h]⟩
theorem set5_five {w : World} {b : Nat} {t : TypeId} {u0 u1 u2 u3 u4 : Value} (v0 v1 v2 v3 v4 : Value) (h : w.heap[b]? = some (.cells #[u0, u1, u2, u3, u4] t (0, 0))) : (set5 w b v0 v1 v2 v3 v4).heap[b]? = some (.cells #[v0, v1, v2, v3, v4] t (0, 0)) := by
  unfold set5
  exact setBlk (setBlk (setBlk (setBlk (setBlk h 0 v0) 1 v1) 2 v2) 3 v3) 4 v4
theorem five_far {w : World} {bU bR : Nat} {s0 s1 s2 s3 s4 : Value} {t : TypeId} (h : w.heap[bU]? = some (.cells #[s0, s1, s2, s3, s4] t (0, 0))) (hne : bU < bR) (v0 v1 v2 v3 v4 : Value) :
    (((((w.setCell ⟨bR, 0, none⟩ v0).setCell ⟨bR, 1, none⟩ v1).setCell ⟨bR, 2, none⟩ v2).setCell ⟨bR, 3, none⟩ v3).setCell ⟨bR, 4, none⟩ v4).cell? ⟨bU, 0, none⟩ = some s0 ∧ (((((w.setCell ⟨bR, 0, none⟩ v0).setCell ⟨bR, 1, none⟩ v1).setCell ⟨bR, 2, none⟩ v2).setCell ⟨bR, 3, none⟩ v3).setCell ⟨bR, 4, none⟩ v4).cell? ⟨bU, 1, none⟩ = some s1 ∧ (((((w.setCell ⟨bR, 0, none⟩ v0).setCell ⟨bR, 1, none⟩ v1).setCell ⟨bR, 2, none⟩ v2).setCell ⟨bR, 3, none⟩ v3).setCell ⟨bR, 4, none⟩ v4).cell? ⟨bU, 2, none⟩ = some s2 ∧ (((((w.setCell ⟨bR, 0, none⟩ v0).setCell ⟨bR, 1, none⟩ v1).setCell ⟨bR, 2, none⟩ v2).setCell ⟨bR, 3, none⟩ v3).setCell ⟨bR, 4, none⟩ v4).cell? ⟨bU, 3, none⟩ = some s3 ∧ (((((w.setCell ⟨bR, 0, none⟩ v0).setCell ⟨bR, 1, none⟩ v1).setCell ⟨bR, 2, none⟩ v2).setCell ⟨bR, 3, none⟩ v3).setCell ⟨bR, 4, none⟩ v4).cell? ⟨bU, 4, none⟩ = some s4 := by
  obtain ⟨k0, k1, k2, k3, k4, _⟩ := ifs_cells ((set5_far w bR v0 v1 v2 v3 v4 bU (by omega)).trans h)
  exact ⟨k0, k1, k2, k3, k4⟩
theorem wd_made {w0 w1 w2 w3 w4 w5 w6 : World} {B g0 g1 g2 g3 g4 : Nat} {x : Ct} (o0 : Ob w1 (fun k => w0.heap.size ≤ k) g0 104 3 1 x.cell.length (ints x.cell)) (o1 : Ob w2 (fun k => w1.heap.size ≤ k) g1 106 3 1 x.stack.length (ints x.stack.reverse)) (o2 : Ob w3 (fun k => w2.heap.size ≤ k) g2 107 3 1 x.queue.length (ints x.queue)) (o3 : Ob w4 (fun k => w3.heap.size ≤ k) g3 109 3 1 x.set.length (ints x.set)) (o4 : Ob w5 (fun k => w4.heap.size ≤ k) g4 111 81 2 x.table.length (prs x.table)) (h1 : Below w0.heap.size w0 w1) (h2 : Below w1.heap.size w1 w2) (h3 : Below w2.heap.size w2 w3) (h4 : Below w3.heap.size w3 w4) (h5 : Below w4.heap.size w4 w5) (hw : ∀ k, w0.heap.size ≤ k → k < w5.heap.size → w6.heap[k]? = w5.heap[k]?) (hB : B ≤ w0.heap.size) : Wd w6 B (labs w0.heap.size w1.heap.size w2.heap.size w3.heap.size w4.heap.size) g0 g1 g2 g3 g4 x := by
  have s1 := h1.size
  have s2 := h2.size
  have s3 := h3.size
  have s4 := h4.size
  have s5 := h5.size
  refine ⟨fun k hk => ?_, ?_, ?_, ?_, ?_, ?_⟩
  · unfold labs at hk
    split at hk
    · omega
    · omega
  · refine o0.kept (fun k hk hl => ?_) (fun k hk hl => ?_)
    · exact (hw k (by omega) (by omega)).trans ((h5.block k (by omega)).trans ((h4.block k (by omega)).trans ((h3.block k (by omega)).trans (h2.block k (by omega)))))
    · unfold labs
      rw [if_neg (by omega)]
      rw [if_pos (by omega)]
  · refine o1.kept (fun k hk hl => ?_) (fun k hk hl => ?_)
    · exact (hw k (by omega) (by omega)).trans ((h5.block k (by omega)).trans ((h4.block k (by omega)).trans (h3.block k (by omega))))
    · unfold labs
      rw [if_neg (by omega)]
      rw [if_neg (by omega)]
      rw [if_pos (by omega)]
  · refine o2.kept (fun k hk hl => ?_) (fun k hk hl => ?_)
    · exact (hw k (by omega) (by omega)).trans ((h5.block k (by omega)).trans (h4.block k (by omega)))
    · unfold labs
      rw [if_neg (by omega)]
      rw [if_neg (by omega)]
      rw [if_neg (by omega)]
      rw [if_pos (by omega)]
  · refine o3.kept (fun k hk hl => ?_) (fun k hk hl => ?_)
    · exact (hw k (by omega) (by omega)).trans (h5.block k (by omega))
    · unfold labs
      rw [if_neg (by omega)]
      rw [if_neg (by omega)]
      rw [if_neg (by omega)]
      rw [if_neg (by omega)]
      rw [if_pos (by omega)]
  · refine o4.kept (fun k hk hl => ?_) (fun k hk hl => ?_)
    · exact (hw k (by omega) (by omega))
    · unfold labs
      rw [if_neg (by omega)]
      rw [if_neg (by omega)]
      rw [if_neg (by omega)]
      rw [if_neg (by omega)]
      rw [if_neg (by omega)]
end Go.Proofs.Ytegbcocbopgghab.Md
