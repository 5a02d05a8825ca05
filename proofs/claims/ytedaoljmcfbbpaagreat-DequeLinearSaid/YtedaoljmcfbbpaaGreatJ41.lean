import Derived.Test.YtedaoljmcfbbpaaGreatJ33
import Derived.Test.YtedaoljmcfbbpaaGreatJ34
import Derived.Test.YtedaoljmcfbbpaaGreatJ40
import Derived.Deep.RegionHeldLaw
/-
  DequeLinear: quiet, whatever it answers; the machine's calls as the walk of Holds reads them.
-/
namespace Go.Proofs.YtedaoljmcfbbpaaGreat.Dm
open Go.RowKit Go.Shelf Mr Me Ma Gm Dq
set_option linter.unusedVariables false
set_option linter.unusedSimpArgs false
set_option maxRecDepth 100000
theorem clc_at9 (cls : List Cl) (i : Nat) (x : Cl) (h : cls[i]? = some x) (j : Nat) (u : Value) (hj : x.cells[j]? = some u) (h9 : j < 9) : (clc cls)[i * 9 + j]? = some u := by
  induction cls generalizing i with
  | nil => simp at h
  | cons y cls ih =>
    have hl : (Cl.cells y).length = 9 := rfl
    have e : clc (y :: cls) = Cl.cells y ++ clc cls := by simp [clc]
    rw [e]
    cases i with
    | zero =>
      simp at h; subst h
      rw [List.getElem?_append_left (by omega)]
      simpa using hj
    | succ i =>
      rw [List.getElem?_append_right (by omega), hl]
      have : (i + 1) * 9 + j - 9 = i * 9 + j := by omega
      rw [this]
      exact ih i (by simpa using h)
def QtP (cls : List Cl) (w : World) (e : Ending) (w' : World) : Prop := ∃ b, e = .returned (.bool b) ∧ (b = true → ∀ (c : Nat) (x : Cl), cls[c]? = some x → 0 ≤ x.fin) ∧ Below w.heap.size w w'
theorem qtp {cls : List Cl} {w w' : World} {e : Ending} (b : Bool) (h1 : e = .returned (.bool b)) (h2 : b = true → ∀ (c : Nat) (x : Cl), cls[c]? = some x → 0 ≤ x.fin) (h3 : Below w.heap.size w w') : QtP cls w e w' := ⟨b, h1, h2, h3⟩
theorem qt_nil {w : World} {p1 p2 p3 p4 : Option Addr} {c1 n2 c2 n3 c3 n4 c4 : Nat} :
    Calls Tryz.prog 11 #[.agg #[.slice p1 0 c1, .slice p2 n2 c2, .slice p3 n3 c3, .slice p4 n4 c4]] w (QtP [] w) := by
  have fin : Hid (∀ o, Below w.heap.size w (w.alloc o)) := Mr.hid (fun o => (Below.refl _ _).alloc (Nat.le_refl _) _)
  go_enter Tryz.func11, Tryz.ntmps11
  go_wp2
  go_loopg [3] 0 (fun k s wr => s = .int .i64 0 ∧ wr = w.alloc (.cells #[.slice p1 0 c1, .slice p2 n2 c2, .slice p3 n3 c3, .slice p4 n4 c4] 32 (0, 0)))
  case atStart => exact ⟨rfl, rfl⟩
  case round =>
    obtain ⟨rfl, rfl⟩ := hrel
    go_wp2
    go_ret
    exact qtp true rfl (fun _ c x h => by cases h) (fin.out _)
set_option maxHeartbeats 4000000 in
theorem qt_some {w : World} {S : Nat → Prop} {g c1 : Nat} {p2 p3 p4 : Option Addr} {n2 c2 n3 c3 n4 c4 : Nat} (cls : List Cl) (hh : Has w S 45 9 (.slice (some ⟨g, 0, none⟩) cls.length c1) cls.length (clc cls)) (hg : g < w.heap.size) (hn : cls.length ≤ 100000) :
    Calls Tryz.prog 11 #[.agg #[.slice (some ⟨g, 0, none⟩) cls.length c1, .slice p2 n2 c2, .slice p3 n3 c3, .slice p4 n4 c4]] w (QtP cls w) := by
  have hc := hh.cells (g := g) rfl
  obtain ⟨W0, hW0⟩ : ∃ W0, w.alloc (.cells #[.slice (some ⟨g, 0, none⟩) cls.length c1, .slice p2 n2 c2, .slice p3 n3 c3, .slice p4 n4 c4] 32 (0, 0)) = W0 := ⟨_, rfl⟩
  have g0 : W0.heap[w.heap.size]? = some (.cells #[.slice (some ⟨g, 0, none⟩) cls.length c1, .slice p2 n2 c2, .slice p3 n3 c3, .slice p4 n4 c4] 32 (0, 0)) := by rw [← hW0]; exact heap_alloc_new w _
  have B0 : Below w.heap.size w W0 := by rw [← hW0]; exact (Below.refl _ _).alloc (Nat.le_refl _) _
  have y0 : W0.cell? ⟨w.heap.size, 0, none⟩ = some (.slice (some ⟨g, 0, none⟩) cls.length c1) := cell_at g0 0
  have s0 : W0.heap.size = w.heap.size + 1 := by rw [← hW0]; simp
  have atc : Hid (∀ (W : World), Below W0.heap.size W0 W → W.cell? ⟨w.heap.size, 0, none⟩ = some (.slice (some ⟨g, 0, none⟩) cls.length c1) ∧ ∀ (i : Nat) (x : Cl), cls[i]? = some x → W.cell? ⟨g, i * 9 + 5, none⟩ = some (.int .i64 x.fin)) := Mr.hid (fun W hB => by
    have lift : ∀ j u, (clc cls)[j]? = some u → W.cell? ⟨g, j, none⟩ = some u := fun j u hu => (hB.cell (p := ⟨g, j, none⟩) (by show g < _; omega)).trans ((B0.cell (p := ⟨g, j, none⟩) hg).trans (hc j u hu))
    exact ⟨(hB.cell (p := ⟨w.heap.size, 0, none⟩) (by show w.heap.size < _; omega)).trans y0, fun i x hx => lift _ _ (clc_at9 cls i x hx 5 _ rfl (by omega))⟩)
  replace B0 := Mr.hid B0
  replace s0 := Mr.hid s0
  clear hh hc g0
  go_enter Tryz.func11, Tryz.ntmps11
  go_wp2
  clear y0
  go_loopg [3] cls.length (fun k s wr => ∃ (i : Nat), s = .int .i64 (i : Int) ∧ i + k = cls.length ∧ Below W0.heap.size W0 wr ∧ Hid (∀ (c : Nat) (x : Cl), c < i → cls[c]? = some x → 0 ≤ x.fin))
  case atStart => exact ⟨0, rfl, by omega, Below.refl _ _, Mr.hid (fun c x h => by omega)⟩
  case round =>
    obtain ⟨i, rfl, hi, hB, hall⟩ := hrel
    obtain ⟨z, zc⟩ := atc.out wr hB
    by_cases hlt : i < cls.length
    · obtain ⟨x, hx⟩ : ∃ x, cls[i]? = some x := ⟨_, List.getElem?_eq_getElem hlt⟩
      have z5 := zc i x hx
      have hil : (i : Int) < (cls.length : Int) := by omega
      have fin := Mr.hid (B0.out.trans (hB.mono (by have := s0.out; omega)))
      replace hx := Mr.hid hx
      by_cases hf : x.fin < 0
      · have hb2 : decide (x.fin < 0) = true := decide_eq_true hf
        clear zc hf hB
        go_wp2
        go_ret
        exact qtp false rfl (fun h => by cases h) fin.out
      · have hb2 : decide (x.fin < 0) = false := decide_eq_false hf
        have hn2 : Hid (∀ (c : Nat) (x : Cl), c < i + 1 → cls[c]? = some x → 0 ≤ x.fin) := Mr.hid (fun c y h1 h2 => by
          by_cases e : c = i
          · subst e; rw [hx.out] at h2; cases h2; omega
          · exact hall.out c y (by omega) h2)
        replace hB := Mr.hid hB
        clear zc hf hall
        go_wp2
        go_roundg (gk - 1)
        case measure => omega
        case rel => exact ⟨i + 1, by simp, by omega, hB.out, hn2⟩
    · obtain rfl : i = cls.length := by omega
      have hb := Mr.hid (B0.out.trans (hB.mono (by have := s0.out; omega)))
      clear zc hB
      go_wp2
      go_ret
      exact qtp true rfl (fun _ c x h => hall.out c x (List.getElem?_eq_some_iff.1 h).1 h) hb.out
theorem qt_all {w : World} {S : Nat → Prop} {p1 p2 p3 p4 : Option Addr} {n1 c1 n2 c2 n3 c3 n4 c4 : Nat} (cls : List Cl) (hh : Has w S 45 9 (.slice p1 n1 c1) cls.length (clc cls)) (hn : cls.length ≤ 100000) :
    Calls Tryz.prog 11 #[.agg #[.slice p1 n1 c1, .slice p2 n2 c2, .slice p3 n3 c3, .slice p4 n4 c4]] w (QtP cls w) := by
  by_cases h0 : 0 < cls.length
  · obtain ⟨g, cap, e, h1, h2, h3⟩ := hh.there h0
    cases e
    exact qt_some cls hh h2 hn
  · obtain ⟨p, q, e, h1⟩ := hh.form
    cases e
    obtain rfl : cls = [] := List.eq_nil_of_length_eq_zero (by omega)
    exact qt_nil
theorem clc_cqs (cls : List Cl) : clc cls = Hd.cqs (cls.map qq) := by
  induction cls with
  | nil => rfl
  | cons x cls ih =>
    simp only [clc, Hd.cqs, List.flatMap_cons, List.map_cons] at ih ⊢
    rw [ih]; rfl
end Go.Proofs.YtedaoljmcfbbpaaGreat.Dm
/-
  DequeLinear: made (what it does; made by mk_dmmade.py).
-/
namespace Go.Proofs.YtedaoljmcfbbpaaGreat.Dm
open Go.RowKit Go.Shelf Mr Me Ma Gm Dq
set_option linter.unusedVariables false
set_option linter.unusedSimpArgs false
set_option maxRecDepth 100000
theorem old_at9 {W : World} {k : Nat} {x : Obj} (h : W.heap[k]? = some x) (o : Obj) : (W.alloc o).heap[k]? = some x := by
  have hlt := (Array.getElem?_eq_some_iff.1 h).1
  rw [heap_alloc_old _ _ hlt]; exact h
theorem newsOne {w : World} (u : Value) (b : Nat) (h : w.cell? ⟨b, 0, none⟩ = some u) : ∀ j v, [u][j]? = some v → w.cell? ((⟨b, 0, none⟩ : Addr).add j) = some v := by
  intro j v hj
  match j with
  | 0 => simp at hj; subst hj; rw [add1]; exact h
  | j + 1 => simp at hj
def MdC (rm : Int) (vs : List Int) (x : Cl) : Prop := ∀ (a : Option Addr) (cap : Nat) (w : World), IsAt w a vs.length vs → vs.length ≤ cap →
    Calls Tryz.prog 9 #[.slice a vs.length cap, .int .i64 rm, .agg #[.int .i64 x.th, .int .i64 x.op, .int .i64 x.arg, .int .i64 x.data, .int .i64 x.beg, .int .i64 x.fin, .int .i64 x.pt, .int .i64 x.ak, .int .i64 x.av]] w fun e w' => ∃ a' c', e = .returned (.tuple #[.slice a' (Hd.atO rm vs (qq x)).1.length c', .bool true]) ∧ IsAt w' a' (Hd.atO rm vs (qq x)).1.length (Hd.atO rm vs (qq x)).1 ∧ (Hd.atO rm vs (qq x)).1.length ≤ c' ∧ Below w.heap.size w w'
def boxC (x : Cl) : Obj := .cells #[.int .i64 x.th, .int .i64 x.op, .int .i64 x.arg, .int .i64 x.data, .int .i64 x.beg, .int .i64 x.fin, .int .i64 x.pt, .int .i64 x.ak, .int .i64 x.av] 45 (0, 0)
/-- append of numbers, some or none, onto an empty row of its own. -/
theorem app_wp {w : World} {o : Oper} {a : Act} {K : Act → World → Prop} {Q : Exit → Act → World → Prop} (s x : Operand)
    (ho : o.op = .call { callee := .builtin .append, args := #[s, x], argTypes := #[39, 39] }) (B b : Nat) (hs : a.eval s = .slice (some ⟨b, 0, none⟩) 0 0) (hE : Has w (fun k => B ≤ k) 3 1 (.slice (some ⟨b, 0, none⟩) 0 0) 0 [])
    (a1 : Option Addr) (n1 k1 : Nat) (c : List Int) (hx : a.eval x = .slice a1 n1 k1) (hC : IsAt w a1 n1 c) (hz : n1 * 8 ≤ 140737488351232) (hB : B ≤ w.heap.size)
    (h : ∀ ga ca w', Has w' (fun k => B ≤ k) 3 1 (.slice (some ⟨ga, 0, none⟩) n1 ca) n1 (intsV c) → n1 ≤ ca → (ga = b ∨ ga = w.heap.size) → w.grownBy w' (some b) → K (a.put o.dst (.slice (some ⟨ga, 0, none⟩) n1 ca)) w') : o.wp Tryz.prog a w K Q := by
  obtain ⟨nn, hnn, hn0, hn1, hn2⟩ := Dq.info_i
  have hbl := hE.lt b rfl
  by_cases h0 : n1 = 0
  · subst h0
    have hc : c = [] := List.eq_nil_of_length_eq_zero (by have := hC.1; omega)
    refine wp_append_zero s x 39 ho 3 nn Tryz.underlying39 hnn _ 0 0 (Nat.le_refl _) hs _ _ hx ?_
    exact h b 0 w (by rw [hc]; exact hE) (Nat.le_refl _) (.inl rfl) ⟨rfl, rfl, rfl, Nat.le_refl _, fun _ _ _ => rfl⟩
  · have hne : c ≠ [] := fun e => h0 (by have := hC.1; rw [e] at this; simpa using this)
    obtain ⟨g, q, rfl, hg, hcc⟩ := hC.2.resolve_left hne
    have hl := hC.1
    refine wp_append_has _ s x 39 ho (fun k => B ≤ k) 3 nn _ 1 8 Tryz.underlying39 hnn hn0 hn1 hn2 rfl _ 0 [] hs hE ⟨g, q, none⟩ n1 k1 (intsV c) hx (by simp [intsV, hl]) ?_ (intsV_one c) (by omega) (by unfold maxLen; omega) (by omega) hB ?_
    · intro j u hu
      rw [add1]
      simp only [intsV, List.getElem?_map] at hu
      cases hx : c[j]? with
      | none => rw [hx] at hu; cases hu
      | some y => rw [hx] at hu; cases hu; exact hcc j y hx
    · intro g2 cap2 w3 hh3 hgr hgg
      simp only [Nat.zero_add, List.nil_append] at hh3 ⊢
      obtain ⟨g9, cp9, hv9, -, hg9, hc9, -⟩ := hh3.there (by omega)
      cases hv9
      exact h g2 cap2 w3 hh3 hc9 (hgg.imp (fun e => by cases e; rfl) id) hgr
theorem empty_has (w : World) (b : Nat) (hb : b = w.heap.size) (B : Nat) (hB : B ≤ b) : Has (w.alloc (.cells #[] 3)) (fun k => B ≤ k) 3 1 (.slice (some ⟨b, 0, none⟩) 0 0) 0 [] := by
  subst hb
  exact ⟨by simp, .inr ⟨w.heap.size, 0, #[], rfl, hB, (new_at w (.cells #[] 3) _ rfl : (w.alloc (.cells #[] 3)).heap[w.heap.size]? = _), Nat.le_refl _, by decide, by simp, by simp⟩⟩
theorem isAt_take {w : World} {a : Option Addr} {vs : List Int} (h : IsAt w a vs.length vs) (m : Nat) (hm : m ≤ vs.length) : IsAt w a m (vs.take m) := by
  refine ⟨by rw [List.length_take]; omega, ?_⟩
  rcases h.2 with h0 | ⟨b, o, rfl, hl, hc⟩
  · left; rw [h0]; simp
  · right
    refine ⟨b, o, rfl, hl, fun j x hx => hc j x ?_⟩
    rw [List.getElem?_take] at hx
    split at hx
    · exact hx
    · cases hx
theorem isAt_drop {w : World} {b o : Nat} {v : Int} {l : List Int} (h : IsAt w (some ⟨b, o, none⟩) (l.length + 1) (v :: l)) : IsAt w (some ⟨b, o + 1, none⟩) l.length l := by
  refine ⟨rfl, .inr ⟨b, o + 1, rfl, ?_, fun j x hx => ?_⟩⟩
  · rcases h.2 with h0 | ⟨b', o', e, hl, hc⟩
    · cases h0
    · cases e; exact hl
  · rcases h.2 with h0 | ⟨b', o', e, hl, hc⟩
    · cases h0
    · cases e
      have := hc (j + 1) x (by simpa using hx)
      rw [show o + 1 + j = o + (j + 1) by omega]; exact this
end Go.Proofs.YtedaoljmcfbbpaaGreat.Dm
