import Derived.Test.YtfgnaffomglmdaaMdOpen
import Derived.Test.YtfgnaffomglmdaaMdPlayP
/-
  OPENING calls (api.Call) and lists of them that came in, with their reach.
-/
namespace Go.Proofs.Ytfgnaffomglmdaa.Md
open Go.ChangeShapes Go.WideShapes Go.ChangeAt Go.RowKit Go.Deep
open Mr
set_option linter.unusedVariables false
set_option maxRecDepth 100000
theorem cells_opC : Try.prog.cellsOf 38 = 1 := by kernel_rfl
theorem cells_ak : Try.prog.cellsOf 39 = 1 := by kernel_rfl
theorem cells_an : Try.prog.cellsOf 41 = 2 := by kernel_rfl
theorem cells_cq : Try.prog.cellsOf 43 = 9 := by kernel_rfl
theorem cells_lc : Try.prog.cellsOf 22 = 1 := by kernel_rfl
theorem bytes_cq : Try.prog.bytesOf 43 = 72 := by kernel_rfl
theorem flat_get {α : Type} (row : α → List Value) (size : Nat) (hrow : ∀ a, (row a).length = size) (l : List α) (i : Nat) (a : α) (h : l[i]? = some a) (t : Nat) (ht : t < size) : (l.flatMap row)[i * size + t]? = (row a)[t]? := by
  induction l generalizing i with
  | nil => simp at h
  | cons x l ih =>
    cases i with
    | zero =>
      simp at h; subst h
      rw [List.flatMap_cons, List.getElem?_append_left (by rw [hrow]; omega)]
      simp
    | succ i =>
      have := ih i (by simpa using h)
      rw [List.flatMap_cons, List.getElem?_append_right (by rw [hrow, Nat.add_mul]; omega), ← this]
      congr 1
      rw [hrow, Nat.add_mul]; omega
theorem flat_len {α : Type} (row : α → List Value) (size : Nat) (hrow : ∀ a, (row a).length = size) (l : List α) : (l.flatMap row).length = l.length * size := by
  induction l with
  | nil => simp
  | cons x l ih => rw [List.flatMap_cons, List.length_append, ih, hrow, List.length_cons, Nat.add_mul]; omega
theorem sl_rows {α : Type} (d : α) (row : α → List Value) (size : Nat) (hsz : 0 < size) (hrow : ∀ a, (row a).length = size) {w : World} {ad : Addr} {n cap : Nat} (hcap : n ≤ cap) (each : ∀ i, i < n → ∃ a : α, ∀ t, t < size → w.cell? ((ad.add (i * size)).add t) = (row a)[t]?) :
    ∃ l : List α, Sl w (fun _ => True) size (.slice (some ad) l.length cap) l.length (l.flatMap row) ∧ l.length = n := by
  obtain ⟨f, hf⟩ := Classical.axiomOfChoice (fun i => (if h : i < n then (by obtain ⟨o, ho⟩ := each i h; exact ⟨o, fun _ => ho⟩) else ⟨d, fun h' => absurd h' h⟩ : ∃ o : α, i < n → ∀ t, t < size → w.cell? ((ad.add (i * size)).add t) = (row o)[t]?))
  have hlen : ((List.range n).map f).length = n := by simp
  refine ⟨(List.range n).map f, ⟨flat_len row size hrow _, some ad, cap, rfl, by omega, ?_⟩, hlen⟩
  by_cases hn : n = 0
  · exact .inl (by omega)
  · have c0 := hf 0 (by omega) 0 hsz
    have hr0 : (row (f 0))[0]? = some ((row (f 0))[0]'(by rw [hrow]; exact hsz)) := List.getElem?_eq_getElem _
    rw [hr0] at c0
    have hs : (ad.add (0 * size)).spot = none := spot0 c0
    obtain ⟨b, o, s⟩ := ad
    have hs' : s = none := by simpa [Addr.add] using hs
    subst hs'
    refine .inr ⟨b, o, rfl, trivial, ?_, fun j u hu => ?_⟩
    · have := World.block_lt_of_cell? w _ c0
      rwa [blk_add, blk_add] at this
    · have hj : j < n * size := by
        have := (List.getElem?_eq_some_iff.1 hu).1
        rw [flat_len row size hrow, hlen] at this; exact this
      have hi : j / size < n := by rw [Nat.div_lt_iff_lt_mul hsz]; exact hj
      have ht : j % size < size := Nat.mod_lt _ hsz
      have c := hf (j / size) hi (j % size) ht
      have g := flat_get row size hrow ((List.range n).map f) (j / size) (f (j / size)) (by simp [hi]) (j % size) ht
      have ej : j / size * size + j % size = j := by rw [Nat.mul_comm]; exact Nat.div_add_mod j size
      rw [ej, hu] at g
      rw [add1, add1, Nat.add_assoc, ej] at c
      rw [c, ← g]
section
variable {H : Type} {enc : TypeId × Value → H} {w : World} {base : Nat} {spare : Nat → Bool} {held : Bool}
theorem trod_an {fuel : Nat} {cs : List Value} {x : DataW H × List MemPlace} (hf : DataW.trod enc Try.prog w base spare held fuel 41 cs = some x) : ∃ a b : Int, cs = [.int .i64 a, .int .i64 b] := by
  obtain ⟨xs, n, _, hxx, hl, hxl, hx⟩ := DataW.trod_struct Try.underlying41 hf
  rw [cells_an] at hl
  match cs, hl with
  | [x0, x1], _ =>
    have q0 := hx 0 _ rfl
    have q1 := hx 1 _ rfl
    have hxs : xs.length = 2 := by simpa using hxl
    match xs, hxs with
    | [y0, y1], _ =>
      simp [cells_ak, cells_i64] at q0 q1
      obtain ⟨z0, e0, _⟩ := DataW.trod_int Try.underlying39 q0
      obtain ⟨z1, e1, _⟩ := DataW.trod_int Try.underlying3 q1
      simp at e0 e1
      subst e0; subst e1
      exact ⟨z0, z1, rfl⟩
theorem trod_cq {fuel : Nat} {cs : List Value} {x : DataW H × List MemPlace} (hf : DataW.trod enc Try.prog w base spare held fuel 43 cs = some x) : ∃ c : Cq, cs = c.row := by
  obtain ⟨xs, n, _, hxx, hl, hxl, hx⟩ := DataW.trod_struct Try.underlying43 hf
  rw [cells_cq] at hl
  match cs, hl with
  | [x0, x1, x2, x3, x4, x5, x6, x7, x8], _ =>
    have q0 := hx 0 _ rfl
    have q1 := hx 1 _ rfl
    have q2 := hx 2 _ rfl
    have q3 := hx 3 _ rfl
    have q4 := hx 4 _ rfl
    have q5 := hx 5 _ rfl
    have q6 := hx 6 _ rfl
    have q7 := hx 7 _ rfl
    have hxs : xs.length = 8 := by simpa using hxl
    match xs, hxs with
    | [y0, y1, y2, y3, y4, y5, y6, y7], _ =>
      simp [cells_opC, cells_i64, cells_an] at q0 q1 q2 q3 q4 q5 q6 q7
      obtain ⟨z0, e0, _⟩ := DataW.trod_int Try.underlying3 q0
      obtain ⟨z1, e1, _⟩ := DataW.trod_int Try.underlying38 q1
      obtain ⟨z2, e2, _⟩ := DataW.trod_int Try.underlying3 q2
      obtain ⟨z3, e3, _⟩ := DataW.trod_int Try.underlying3 q3
      obtain ⟨z4, e4, _⟩ := DataW.trod_int Try.underlying3 q4
      obtain ⟨z5, e5, _⟩ := DataW.trod_int Try.underlying3 q5
      obtain ⟨z6, e6, _⟩ := DataW.trod_int Try.underlying3 q6
      obtain ⟨z7, z8, e7⟩ := trod_an q7
      simp at e0 e1 e2 e3 e4 e5 e6 e7
      obtain ⟨e7, e8⟩ := e7
      subst e0; subst e1; subst e2; subst e3; subst e4; subst e5; subst e6; subst e7; subst e8
      exact ⟨⟨z0, z1, z2, z3, z4, z5, z6, z7, z8⟩, rfl⟩
theorem open_cq {r : Reach} {b0 : Nat} {v : Value} {d : DataW H} {p : List MemPlace} (hv : Value.okWide Try.prog w r b0 43 v) (h : DataW.Trod enc Try.prog w base spare held 43 v d p) :
    ∃ c : Cq, v = .agg #[.int .i64 c.th, .int .i64 c.op, .int .i64 c.arg, .int .i64 c.data, .int .i64 c.beg, .int .i64 c.fin, .int .i64 c.pt, .int .i64 c.ak, .int .i64 c.av] := by
  obtain ⟨cs, rfl, hcz⟩ := okWide_struct Try.underlying43 hv
  obtain ⟨fuel, hfu⟩ := h
  obtain ⟨c, hc⟩ := trod_cq hfu
  have hcs : (Value.agg cs).cells.toList = cs.toList := rfl
  rw [hcs] at hc
  refine ⟨c, ?_⟩
  congr 1
  have : cs = (c.row).toArray := by rw [← hc]
  rw [this]
  rfl
theorem open_csl {fuel : Nat} {cs : List Value} {x : DataW H × List MemPlace} (hf : DataW.trod enc Try.prog w base spare held fuel 22 cs = some x) :
    ∃ v l, cs = [v] ∧ Sl w (fun _ => True) 9 v l.length (cqs l) := by
  rcases open_slice Try.underlying22 hf with ⟨hc, hx⟩ | ⟨ad, n, cap, m, k, D, Pl, hc, _, hl, _, hm, hx, hel⟩
  · exact ⟨_, [], hc, Sl.nil _ _ _⟩
  · have hle : n ≤ m := by rw [hm]; split <;> omega
    obtain ⟨l, hs, hn⟩ := sl_rows (w := w) (ad := ad) (n := n) (cap := cap) ⟨0, 0, 0, 0, 0, 0, 0, 0, 0⟩ Cq.row 9 (by omega) (fun _ => rfl) (by omega) (fun i hi => by
      obtain ⟨cs, h1, h2⟩ := hel i (by omega)
      rw [cells_cq] at h1
      obtain ⟨_, hcl, hce⟩ := World.cells?_some h1
      obtain ⟨c, hcc⟩ := trod_cq h2
      exact ⟨c, fun t ht => by rw [← hcc]; exact hce t (by omega)⟩)
    exact ⟨_, l, by rw [hc, hn], hs⟩
theorem open_calls {r : Reach} {b0 : Nat} {v : Value} {d : DataW H} {p : List MemPlace} (hv : Value.okWide Try.prog w r b0 22 v) (h : DataW.Trod enc Try.prog w base spare held 22 v d p) (hsz : (d.weights Try.prog 22).all (· ≤ reachBytes) = true) :
    ∃ l, Sl w (fun _ => True) 9 v l.length (cqs l) ∧ l.length * 72 ≤ 140737488351232 := by
  obtain ⟨a, n, cap, rfl⟩ := okWide_slice Try.underlying22 hv
  obtain ⟨fuel, hf⟩ := h
  have e0 : (Value.slice a n cap).cells.toList = [.slice a n cap] := rfl
  rw [e0] at hf
  obtain ⟨w0, l, e1, hs⟩ := open_csl hf
  simp at e1
  subst e1
  have f := len_slice Try.underlying22 hf rfl hs
  refine ⟨l, hs, ?_⟩
  rcases f with f | ⟨es, rs, hd, hl⟩
  · omega
  · simp only at hd
    subst hd
    simp only [DataW.weights, Try.underlying22, List.all_cons, Bool.and_eq_true, decide_eq_true_eq, bytes_cq] at hsz
    have e : reachBytes = 140737488351232 := by decide
    have := hsz.1
    rw [e, Nat.add_mul] at this
    omega
end
end Go.Proofs.Ytfgnaffomglmdaa.Md
