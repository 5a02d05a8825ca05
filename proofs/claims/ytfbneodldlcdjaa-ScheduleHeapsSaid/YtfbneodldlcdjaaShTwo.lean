/-
  SCHEDULE: two heaps of the program's and two of the document's.
-/
import Derived.Test.YtfbneodldlcdjaaShActed
import Derived.Test.YtfbneodldlcdjaaShOpen
namespace Go.Proofs.Ytfbneodldlcdjaa.Sh
open Go.RowKit Mr Md Me
set_option linter.unusedVariables false
set_option linter.unusedSimpArgs false
set_option maxRecDepth 100000
/-- Both pairs; n, n': bounds; c, c': how many there are. -/
structure Tw (w wr : World) (B n n' c c' : Nat) (U V Sh Sd Th Td : Nat → Prop) (vh vd uh ud : Value) (l m l' m' : List Tr) (p p' : Int) : Prop where
  one : Sy wr B (B + 2) U Sh Sd vh vd l m p
  two : Sy wr (B + 1) (B + 3) V Th Td uh ud l' m' p'
  dj : ∀ k, U k → ¬ V k
  lo : ∀ k, U k → B ≤ k
  lo' : ∀ k, V k → B ≤ k
  hc : m.length = c
  hc' : m'.length = c'
  hn : c ≤ n
  hn' : c' ≤ n'
  p0 : 0 ≤ p
  p1 : p ≤ n
  p0' : 0 ≤ p'
  p1' : p' ≤ n'
  bel : Below B w wr
def Two (w wr : World) (B n n' c c' : Nat) : Prop := ∃ U V Sh Sd Th Td vh vd uh ud l m l' m' p p', Tw w wr B n n' c c' U V Sh Sd Th Td vh vd uh ud l m l' m' p p'
theorem fr_low {B : Nat} {w wr w' : World} {U : Nat → Prop} (h : Below B w wr) (hs : w.heap.size = B) (hf : Fr wr w' U) (hU : ∀ k, U k → B ≤ k) : Below B w w' :=
  h.trans (hf.below hU (by have := h.size; omega))
theorem Two.below {w wr w' : World} {B n n' c c' : Nat} (h : Two w wr B n n' c c') (hs : w.heap.size = B) (hB : Below wr.heap.size wr w') : Two w w' B n n' c c' := by
  obtain ⟨U, V, Sh, Sd, Th, Td, vh, vd, uh, ud, l, m, l', m', p, p', t⟩ := h
  exact ⟨U, V, Sh, Sd, Th, Td, vh, vd, uh, ud, l, m, l', m', p, p', t.one.below hB, t.two.below hB, t.dj, t.lo, t.lo', t.hc, t.hc', t.hn, t.hn', t.p0, t.p1, t.p0', t.p1', t.bel.trans (hB.mono (by have := t.bel.size; omega))⟩
theorem Two.more {w wr : World} {B n n' c c' q q' : Nat} (h : Two w wr B n n' c c') (hq : n ≤ q) (hq' : n' ≤ q') : Two w wr B q q' c c' := by
  obtain ⟨U, V, Sh, Sd, Th, Td, vh, vd, uh, ud, l, m, l', m', p, p', t⟩ := h
  have h1 := t.hn
  have h2 := t.hn'
  have h3 := t.p1
  have h4 := t.p1'
  exact ⟨U, V, Sh, Sd, Th, Td, vh, vd, uh, ud, l, m, l', m', p, p', t.one, t.two, t.dj, t.lo, t.lo', t.hc, t.hc', by omega, by omega, t.p0, by omega, t.p0', by omega, t.bel⟩
theorem Two.bel {w wr : World} {B n n' c c' : Nat} (h : Two w wr B n n' c c') (hs : w.heap.size = B) : Below w.heap.size w wr := by
  obtain ⟨U, V, Sh, Sd, Th, Td, vh, vd, uh, ud, l, m, l', m', p, p', t⟩ := h
  rw [hs]; exact t.bel
/-- One act on the first pair. -/
theorem two_one {w wr : World} {B n n' c c' : Nat} (h : Two w wr B n n' c c') (hs : w.heap.size = B) (hb : n ≤ 6000000000000) (a : Ac) :
    Calls Try.prog 12 #[.pointer (some ⟨B, 0, none⟩), .pointer (some ⟨B + 2, 0, none⟩), .agg #[.bool a.o, .int .i64 a.k, .int .i64 a.v]] wr fun e w' => e = .returned (.bool true) ∧ Two w w' B (n + 1) n' (if a.o then c - 1 else c + 1) c' := by
  obtain ⟨U, V, Sh, Sd, Th, Td, vh, vd, uh, ud, l, m, l', m', p, p', t⟩ := h
  have hc := t.hc
  have hn := t.hn
  have p1 := t.p1
  have key : ∀ w' Sh' Sd' vh' vd' l2 m2 p2, Sy w' B (B + 2) (fun k => U k ∨ (wr.heap.size ≤ k ∧ k < w'.heap.size)) Sh' Sd' vh' vd' l2 m2 p2 → Fr wr w' U → 0 ≤ p2 → p2 ≤ (n : Int) + 1 → m2.length ≤ n + 1 → Two w w' B (n + 1) n' m2.length c' := by
    intro w' Sh' Sd' vh' vd' l2 m2 p2 h1 h2 h3 h4 h5
    have hB := t.bel.size
    exact ⟨_, V, Sh', Sd', Th, Td, vh', vd', uh, ud, l2, m2, l', m', p2, p', h1, t.two.fr h2 (fun k hk e => t.dj k e hk), fun k hk e => by
      rcases hk with hk | hk
      · exact t.dj k hk e
      · have := t.two.inb k e; omega, fun k hk => by
      rcases hk with hk | hk
      · exact t.lo k hk
      · omega, t.lo', rfl, t.hc', h5, t.hn', h3, by omega, t.p0', t.p1', fr_low t.bel hs h2 t.lo⟩
  obtain ⟨o, k, x⟩ := a
  cases o with
  | false =>
    refine (acted_put t.one (by omega) t.p0 (by omega) k x).mono ?_
    rintro e w' ⟨rfl, Sh', Sd', vh', vd', l2, h1, h2⟩
    have := key _ _ _ _ _ _ _ _ h1 h2 (by have := t.p0; omega) (by omega) (by simp; omega)
    rw [List.length_append, hc] at this
    exact ⟨rfl, this⟩
  | true =>
    by_cases h0 : m.length = 0
    · refine (acted_none t.one h0 k x).mono ?_
      rintro e w' ⟨rfl, Sh', Sd', vh', vd', l2, m2, h1, h3, h2⟩
      have := key _ _ _ _ _ _ _ _ h1 h2 t.p0 (by omega) (by omega)
      rw [h3, hc] at this
      exact ⟨rfl, this⟩
    · refine (acted_some t.one (by omega) (by omega) k x).mono ?_
      rintro e w' ⟨rfl, Sh', Sd', vh', vd', l2, m2, h1, h3, h2⟩
      have := key _ _ _ _ _ _ _ _ h1 h2 t.p0 (by omega) (by omega)
      rw [h3, hc] at this
      exact ⟨rfl, this⟩
/-- One is taken out of the first pair. -/
theorem two_out {w wr : World} {B n n' c c' : Nat} (h : Two w wr B n n' c c') (hs : w.heap.size = B) (hb : n ≤ 6000000000000) :
    Calls Try.prog 12 #[.pointer (some ⟨B, 0, none⟩), .pointer (some ⟨B + 2, 0, none⟩), .agg #[.bool true, .int .i64 0, .int .i64 0]] wr fun e w' => e = .returned (.bool true) ∧ Two w w' B n n' (c - 1) c' := by
  obtain ⟨U, V, Sh, Sd, Th, Td, vh, vd, uh, ud, l, m, l', m', p, p', t⟩ := h
  have hc := t.hc
  have hn := t.hn
  have p1 := t.p1
  have key : ∀ w' Sh' Sd' vh' vd' l2 m2 p2, Sy w' B (B + 2) (fun k => U k ∨ (wr.heap.size ≤ k ∧ k < w'.heap.size)) Sh' Sd' vh' vd' l2 m2 p2 → Fr wr w' U → 0 ≤ p2 → p2 ≤ (n : Int) → m2.length ≤ n → Two w w' B n n' m2.length c' := by
    intro w' Sh' Sd' vh' vd' l2 m2 p2 h1 h2 h3 h4 h5
    have hB := t.bel.size
    exact ⟨_, V, Sh', Sd', Th, Td, vh', vd', uh, ud, l2, m2, l', m', p2, p', h1, t.two.fr h2 (fun k hk e => t.dj k e hk), fun k hk e => by
      rcases hk with hk | hk
      · exact t.dj k hk e
      · have := t.two.inb k e; omega, fun k hk => by
      rcases hk with hk | hk
      · exact t.lo k hk
      · omega, t.lo', rfl, t.hc', h5, t.hn', h3, by omega, t.p0', t.p1', fr_low t.bel hs h2 t.lo⟩
  by_cases h0 : m.length = 0
  · refine (acted_none t.one h0 0 0).mono ?_
    rintro e w' ⟨rfl, Sh', Sd', vh', vd', l2, m2, h1, h3, h2⟩
    have := key _ _ _ _ _ _ _ _ h1 h2 t.p0 (by omega) (by omega)
    rw [h3, hc] at this
    exact ⟨rfl, this⟩
  · refine (acted_some t.one (by omega) (by omega) 0 0).mono ?_
    rintro e w' ⟨rfl, Sh', Sd', vh', vd', l2, m2, h1, h3, h2⟩
    have := key _ _ _ _ _ _ _ _ h1 h2 t.p0 (by omega) (by omega)
    rw [h3, hc] at this
    exact ⟨rfl, this⟩
/-- One act on the second pair. -/
theorem two_two {w wr : World} {B n n' c c' : Nat} (h : Two w wr B n n' c c') (hs : w.heap.size = B) (hb : n' ≤ 6000000000000) (a : Ac) :
    Calls Try.prog 12 #[.pointer (some ⟨B + 1, 0, none⟩), .pointer (some ⟨B + 3, 0, none⟩), .agg #[.bool a.o, .int .i64 a.k, .int .i64 a.v]] wr fun e w' => e = .returned (.bool true) ∧ Two w w' B n (n' + 1) c (if a.o then c' - 1 else c' + 1) := by
  obtain ⟨U, V, Sh, Sd, Th, Td, vh, vd, uh, ud, l, m, l', m', p, p', t⟩ := h
  have hc := t.hc'
  have hn := t.hn'
  have p1 := t.p1'
  have key : ∀ w' Sh' Sd' vh' vd' l2 m2 p2, Sy w' (B + 1) (B + 3) (fun k => V k ∨ (wr.heap.size ≤ k ∧ k < w'.heap.size)) Sh' Sd' vh' vd' l2 m2 p2 → Fr wr w' V → 0 ≤ p2 → p2 ≤ (n' : Int) + 1 → m2.length ≤ n' + 1 → Two w w' B n (n' + 1) c m2.length := by
    intro w' Sh' Sd' vh' vd' l2 m2 p2 h1 h2 h3 h4 h5
    have hB := t.bel.size
    exact ⟨U, _, Sh, Sd, Sh', Sd', vh, vd, vh', vd', l, m, l2, m2, p, p2, t.one.fr h2 (fun k hk e => t.dj k hk e), h1, fun k hk e => by
      rcases e with e | e
      · exact t.dj k hk e
      · have := t.one.inb k hk; omega, t.lo, fun k hk => by
      rcases hk with hk | hk
      · exact t.lo' k hk
      · omega, t.hc, rfl, t.hn, h5, t.p0, t.p1, h3, by omega, fr_low t.bel hs h2 t.lo'⟩
  obtain ⟨o, k, x⟩ := a
  cases o with
  | false =>
    refine (acted_put t.two (by omega) t.p0' (by omega) k x).mono ?_
    rintro e w' ⟨rfl, Sh', Sd', vh', vd', l2, h1, h2⟩
    have := key _ _ _ _ _ _ _ _ h1 h2 (by have := t.p0'; omega) (by omega) (by simp; omega)
    rw [List.length_append, hc] at this
    exact ⟨rfl, this⟩
  | true =>
    by_cases h0 : m'.length = 0
    · refine (acted_none t.two h0 k x).mono ?_
      rintro e w' ⟨rfl, Sh', Sd', vh', vd', l2, m2, h1, h3, h2⟩
      have := key _ _ _ _ _ _ _ _ h1 h2 t.p0' (by omega) (by omega)
      rw [h3, hc] at this
      exact ⟨rfl, this⟩
    · refine (acted_some t.two (by omega) (by omega) k x).mono ?_
      rintro e w' ⟨rfl, Sh', Sd', vh', vd', l2, m2, h1, h3, h2⟩
      have := key _ _ _ _ _ _ _ _ h1 h2 t.p0' (by omega) (by omega)
      rw [h3, hc] at this
      exact ⟨rfl, this⟩
/-- What is asked of both. -/
theorem Two.ask {w wr : World} {B n n' c c' : Nat} (h : Two w wr B n n' c c') : (Calls Try.prog 13 #[.pointer (some ⟨B, 0, none⟩)] wr fun e w' => e = .returned (.int .i64 (c : Int)) ∧ w' = wr) ∧
    (Calls Try.prog 13 #[.pointer (some ⟨B + 1, 0, none⟩)] wr fun e w' => e = .returned (.int .i64 (c' : Int)) ∧ w' = wr) ∧
    (∃ a cap, wr.cell? ⟨B + 2, 0, none⟩ = some (.slice a c cap) ∧ B + 2 < wr.heap.size) ∧ (∃ a cap, wr.cell? ⟨B + 3, 0, none⟩ = some (.slice a c' cap) ∧ B + 3 < wr.heap.size) := by
  obtain ⟨U, V, Sh, Sd, Th, Td, vh, vd, uh, ud, l, m, l', m', p, p', t⟩ := h
  have l1 := len_any t.one.hh
  have l2 := len_any t.two.hh
  rw [t.one.len, t.hc] at l1
  rw [t.two.len, t.hc'] at l2
  obtain ⟨a, cap, rfl, _⟩ := t.one.hd.row.form
  obtain ⟨a', cap', rfl, _⟩ := t.two.hd.row.form
  have c1 := t.one.hd.c0
  have c2 := t.two.hd.c0
  rw [t.hc] at c1
  rw [t.hc'] at c2
  exact ⟨l1, l2, ⟨a, cap, c1, t.one.hd.lt⟩, ⟨a', cap', c2, t.two.hd.lt⟩⟩
theorem sy_new {w : World} {bh bd : Nat} (h1 : w.heap[bh]? = some (.cells #[.slice none 0 0, .int .u64 0] 38 (0, 0))) (h2 : w.heap[bd]? = some (.cells #[.slice none 0 0] 42 (0, 0))) (hne : bh ≠ bd) :
    Sy w bh bd (fun k => k = bh ∨ k = bd) (fun _ => False) (fun _ => False) (.slice none 0 0) (.slice none 0 0) [] [] 0 :=
  ⟨⟨h1, Has.nil _ _ _ _, fun e => e⟩, ⟨h2, Has.nil _ _ _ _, fun e => e⟩, tog_nil, .inl rfl, .inr rfl, fun _ e => e.elim, fun _ e => e.elim, hne, fun e => e, fun e => e, fun _ e => e.elim, fun k hk => by
    rcases hk with rfl | rfl
    · exact (Array.getElem?_eq_some_iff.1 h1).1
    · exact (Array.getElem?_eq_some_iff.1 h2).1⟩
theorem two_new (w : World) : Two w ((((w.alloc (.cells #[.slice none 0 0, .int .u64 0] 38)).alloc (.cells #[.slice none 0 0, .int .u64 0] 38)).alloc (.cells #[.slice none 0 0] 42)).alloc (.cells #[.slice none 0 0] 42)) w.heap.size 0 0 0 0 := by
  have e1 := old_at (old_at (old_at (new_at w (.cells #[.slice none 0 0, .int .u64 0] 38) _ rfl) (.cells #[.slice none 0 0, .int .u64 0] 38)) (.cells #[.slice none 0 0] 42)) (.cells #[.slice none 0 0] 42)
  have e2 := old_at (old_at (new_at (w.alloc (.cells #[.slice none 0 0, .int .u64 0] 38)) (.cells #[.slice none 0 0, .int .u64 0] 38) (w.heap.size + 1) (by simp)) (.cells #[.slice none 0 0] 42)) (.cells #[.slice none 0 0] 42)
  have e3 := old_at (new_at ((w.alloc (.cells #[.slice none 0 0, .int .u64 0] 38)).alloc (.cells #[.slice none 0 0, .int .u64 0] 38)) (.cells #[.slice none 0 0] 42) (w.heap.size + 2) (by simp)) (.cells #[.slice none 0 0] 42)
  have e4 := new_at (((w.alloc (.cells #[.slice none 0 0, .int .u64 0] 38)).alloc (.cells #[.slice none 0 0, .int .u64 0] 38)).alloc (.cells #[.slice none 0 0] 42)) (.cells #[.slice none 0 0] 42) (w.heap.size + 3) (by simp)
  have B4 : Below w.heap.size w ((((w.alloc (.cells #[.slice none 0 0, .int .u64 0] 38)).alloc (.cells #[.slice none 0 0, .int .u64 0] 38)).alloc (.cells #[.slice none 0 0] 42)).alloc (.cells #[.slice none 0 0] 42)) :=
    ((((Below.refl _ _).alloc (Nat.le_refl _) _).alloc (by simp) _).alloc (by simp; omega) _).alloc (by simp; omega) _
  exact ⟨_, _, _, _, _, _, _, _, _, _, _, _, _, _, _, _, sy_new e1 e3 (by omega), sy_new e2 e4 (by omega), fun k hk e => by omega, fun k hk => by omega, fun k hk => by omega, rfl, rfl, Nat.le_refl _, Nat.le_refl _, Int.le_refl _, Int.le_refl _, Int.le_refl _, Int.le_refl _, B4⟩
end Go.Proofs.Ytfbneodldlcdjaa.Sh
