import Derived.Test.YtegbcocbopgghabJ02
import Derived.Test.YtegbcocbopgghabJ09
import Derived.Deep.CutRange
/-
  OPENING calls (api.Call) and lists of them that came in, with their reach.
-/
namespace Go.Proofs.Ytegbcocbopgghab.Md
open Go.ChangeShapes Go.WideShapes Go.ChangeAt Go.RowKit Go.Deep
open Mr
set_option linter.unusedVariables false
set_option maxRecDepth 100000
theorem cells_opC : Try.prog.cellsOf 35 = 1 := by kernel_rfl
theorem cells_ak : Try.prog.cellsOf 29 = 1 := by kernel_rfl
theorem cells_an : Try.prog.cellsOf 31 = 2 := by kernel_rfl
theorem cells_cq : Try.prog.cellsOf 50 = 9 := by kernel_rfl
theorem cells_lc : Try.prog.cellsOf 48 = 1 := by kernel_rfl
theorem bytes_cq : Try.prog.bytesOf 50 = 72 := by kernel_rfl
theorem flat_get {α : Type} (row : α → List Value) (size : Nat) (hrow : ∀ a, (row a).length = size) (l : List α) (i : Nat) (a : α) (h : l[i]? = some a) (t : Nat) (ht : t < size) : (l.flatMap row)[i * size + t]? = (row a)[t]? := by
  induction l generalizing i with
  | nil => simp at h
  | cons x l ih =>
    cases i with
    | zero =>
      simp at h; subst h
      rw [List.flatMap_cons, List.getElem?_append_left (by rw [hrow]; omega)]
      simp
    | succ i =>
      have := ih i (by simpa using h)
      rw [List.flatMap_cons, List.getElem?_append_right (by rw [hrow, Nat.add_mul]; omega), ← this]
      congr 1
      rw [hrow, Nat.add_mul]; omega
theorem flat_len {α : Type} (row : α → List Value) (size : Nat) (hrow : ∀ a, (row a).length = size) (l : List α) : (l.flatMap row).length = l.length * size := by
  induction l with
  | nil => simp
  | cons x l ih => rw [List.flatMap_cons, List.length_append, ih, hrow, List.length_cons, Nat.add_mul]; omega
theorem sl_rows {α : Type} (d : α) (row : α → List Value) (size : Nat) (hsz : 0 < size) (hrow : ∀ a, (row a).length = size) {w : World} {ad : Addr} {n cap : Nat} (hcap : n ≤ cap) (each : ∀ i, i < n → ∃ a : α, ∀ t, t < size → w.cell? ((ad.add (i * size)).add t) = (row a)[t]?) :
    ∃ l : List α, Sl w (fun _ => True) size (.slice (some ad) l.length cap) l.length (l.flatMap row) ∧ l.length = n := by
  obtain ⟨f, hf⟩ := Classical.axiomOfChoice (fun i => (if h : i < n then (by obtain ⟨o, ho⟩ := each i h; exact ⟨o, fun _ => ho⟩) else ⟨d, fun h' => absurd h' h⟩ : ∃ o : α, i < n → ∀ t, t < size → w.cell? ((ad.add (i * size)).add t) = (row o)[t]?))
  have hlen : ((List.range n).map f).length = n := by simp
  refine ⟨(List.range n).map f, ⟨flat_len row size hrow _, some ad, cap, rfl, by omega, ?_⟩, hlen⟩
  by_cases hn : n = 0
  · exact .inl (by omega)
  · have c0 := hf 0 (by omega) 0 hsz
    have hr0 : (row (f 0))[0]? = some ((row (f 0))[0]'(by rw [hrow]; exact hsz)) := List.getElem?_eq_getElem _
    rw [hr0] at c0
    have hs : (ad.add (0 * size)).spot = none := spot0 c0
    obtain ⟨b, o, s⟩ := ad
    have hs' : s = none := by simpa [Addr.add] using hs
    subst hs'
    refine .inr ⟨b, o, rfl, trivial, ?_, fun j u hu => ?_⟩
    · have := World.block_lt_of_cell? w _ c0
      rwa [blk_add, blk_add] at this
    · have hj : j < n * size := by
        have := (List.getElem?_eq_some_iff.1 hu).1
        rw [flat_len row size hrow, hlen] at this; exact this
      have hi : j / size < n := by rw [Nat.div_lt_iff_lt_mul hsz]; exact hj
      have ht : j % size < size := Nat.mod_lt _ hsz
      have c := hf (j / size) hi (j % size) ht
      have g := flat_get row size hrow ((List.range n).map f) (j / size) (f (j / size)) (by simp [hi]) (j % size) ht
      have ej : j / size * size + j % size = j := by rw [Nat.mul_comm]; exact Nat.div_add_mod j size
      rw [ej, hu] at g
      rw [add1, add1, Nat.add_assoc, ej] at c
      rw [c, ← g]
section
variable {H : Type} {enc : TypeId × Value → H} {w : World} {base : Nat} {spare : Nat → Bool} {held : Bool}
theorem trod_an {fuel : Nat} {cs : List Value} {x : DataW H × List MemPlace} (hf : DataW.trod enc Try.prog w base spare held fuel 31 cs = some x) : ∃ a b : Int, cs = [.int .i64 a, .int .i64 b] := by
  obtain ⟨xs, n, _, hxx, hl, hxl, hx⟩ := DataW.trod_struct Try.underlying31 hf
  rw [cells_an] at hl
  match cs, hl with
  | [x0, x1], _ =>
    have q0 := hx 0 _ rfl
    have q1 := hx 1 _ rfl
    have hxs : xs.length = 2 := by simpa using hxl
    match xs, hxs with
    | [y0, y1], _ =>
      simp [cells_ak, cells_i64] at q0 q1
      obtain ⟨z0, e0, _⟩ := DataW.trod_int Try.underlying29 q0
      obtain ⟨z1, e1, _⟩ := DataW.trod_int Try.underlying3 q1
      simp at e0 e1
      subst e0; subst e1
      exact ⟨z0, z1, rfl⟩
theorem trod_cq {fuel : Nat} {cs : List Value} {x : DataW H × List MemPlace} (hf : DataW.trod enc Try.prog w base spare held fuel 50 cs = some x) : ∃ c : Cq, cs = c.row := by
  obtain ⟨xs, n, _, hxx, hl, hxl, hx⟩ := DataW.trod_struct Try.underlying50 hf
  rw [cells_cq] at hl
  match cs, hl with
  | [x0, x1, x2, x3, x4, x5, x6, x7, x8], _ =>
    have q0 := hx 0 _ rfl
    have q1 := hx 1 _ rfl
    have q2 := hx 2 _ rfl
    have q3 := hx 3 _ rfl
    have q4 := hx 4 _ rfl
    have q5 := hx 5 _ rfl
    have q6 := hx 6 _ rfl
    have q7 := hx 7 _ rfl
    have hxs : xs.length = 8 := by simpa using hxl
    match xs, hxs with
    | [y0, y1, y2, y3, y4, y5, y6, y7], _ =>
      simp [cells_opC, cells_i64, cells_an] at q0 q1 q2 q3 q4 q5 q6 q7
      obtain ⟨z0, e0, _⟩ := DataW.trod_int Try.underlying3 q0
      obtain ⟨z1, e1, _⟩ := DataW.trod_int Try.underlying35 q1
      obtain ⟨z2, e2, _⟩ := DataW.trod_int Try.underlying3 q2
      obtain ⟨z3, e3, _⟩ := DataW.trod_int Try.underlying3 q3
      obtain ⟨z4, e4, _⟩ := DataW.trod_int Try.underlying3 q4
      obtain ⟨z5, e5, _⟩ := DataW.trod_int Try.underlying3 q5
      obtain ⟨z6, e6, _⟩ := DataW.trod_int Try.underlying3 q6
      obtain ⟨z7, z8, e7⟩ := trod_an q7
      simp at e0 e1 e2 e3 e4 e5 e6 e7
      obtain ⟨e7, e8⟩ := e7
      subst e0; subst e1; subst e2; subst e3; subst e4; subst e5; subst e6; subst e7; subst e8
      exact ⟨⟨z0, z1, z2, z3, z4, z5, z6, z7, z8⟩, rfl⟩
theorem open_cq {r : Reach} {b0 : Nat} {v : Value} {d : DataW H} {p : List MemPlace} (hv : Value.okWide Try.prog w r b0 50 v) (h : DataW.Trod enc Try.prog w base spare held 50 v d p) :
    ∃ c : Cq, v = .agg #[.int .i64 c.th, .int .i64 c.op, .int .i64 c.arg, .int .i64 c.data, .int .i64 c.beg, .int .i64 c.fin, .int .i64 c.pt, .int .i64 c.ak, .int .i64 c.av] := by
  obtain ⟨cs, rfl, hcz⟩ := okWide_struct Try.underlying50 hv
  obtain ⟨fuel, hfu⟩ := h
  obtain ⟨c, hc⟩ := trod_cq hfu
  have hcs : (Value.agg cs).cells.toList = cs.toList := rfl
  rw [hcs] at hc
  refine ⟨c, ?_⟩
  congr 1
  have : cs = (c.row).toArray := by rw [← hc]
  rw [this]
  rfl
theorem open_csl {fuel : Nat} {cs : List Value} {x : DataW H × List MemPlace} (hf : DataW.trod enc Try.prog w base spare held fuel 48 cs = some x) :
    ∃ v l, cs = [v] ∧ Sl w (fun _ => True) 9 v l.length (cqs l) := by
  rcases open_slice Try.underlying48 hf with ⟨hc, hx⟩ | ⟨ad, n, cap, m, k, D, Pl, hc, _, hl, _, hm, hx, hel⟩
  · exact ⟨_, [], hc, Sl.nil _ _ _⟩
  · have hle : n ≤ m := by rw [hm]; split <;> omega
    obtain ⟨l, hs, hn⟩ := sl_rows (w := w) (ad := ad) (n := n) (cap := cap) ⟨0, 0, 0, 0, 0, 0, 0, 0, 0⟩ Cq.row 9 (by omega) (fun _ => rfl) (by omega) (fun i hi => by
      obtain ⟨cs, h1, h2⟩ := hel i (by omega)
      rw [cells_cq] at h1
      obtain ⟨_, hcl, hce⟩ := World.cells?_some h1
      obtain ⟨c, hcc⟩ := trod_cq h2
      exact ⟨c, fun t ht => by rw [← hcc]; exact hce t (by omega)⟩)
    exact ⟨_, l, by rw [hc, hn], hs⟩
theorem open_calls {r : Reach} {b0 : Nat} {v : Value} {d : DataW H} {p : List MemPlace} (hv : Value.okWide Try.prog w r b0 48 v) (h : DataW.Trod enc Try.prog w base spare held 48 v d p) (hsz : (d.weights Try.prog 48).all (· ≤ reachBytes) = true) :
    ∃ l, Sl w (fun _ => True) 9 v l.length (cqs l) ∧ l.length * 72 ≤ 140737488351232 := by
  obtain ⟨a, n, cap, rfl⟩ := okWide_slice Try.underlying48 hv
  obtain ⟨fuel, hf⟩ := h
  have e0 : (Value.slice a n cap).cells.toList = [.slice a n cap] := rfl
  rw [e0] at hf
  obtain ⟨w0, l, e1, hs⟩ := open_csl hf
  simp at e1
  subst e1
  have f := len_slice Try.underlying48 hf rfl hs
  refine ⟨l, hs, ?_⟩
  rcases f with f | ⟨es, rs, hd, hl⟩
  · omega
  · simp only at hd
    subst hd
    simp only [DataW.weights, Try.underlying48, List.all_cons, Bool.and_eq_true, decide_eq_true_eq, bytes_cq] at hsz
    have e : reachBytes = 140737488351232 := by decide
    have := hsz.1
    rw [e, Nat.add_mul] at this
    omega
end
end Go.Proofs.Ytegbcocbopgghab.Md
/-
  reclaimref11's functions: they hand on to reclaimmodel's.
-/
namespace Go.Proofs.Ytegbcocbopgghab.Md
open Go.RowKit Mr Me
set_option linter.unusedVariables false
set_option linter.unusedSimpArgs false
set_option maxRecDepth 100000 in
set_option maxHeartbeats 8000000 in
theorem rMay_any {W : World} {S : Nat → Prop} {u0 u1 u2 u3 u4 : Value} {x : Ct} (hu : CtAt W S u0 u1 u2 u3 u4 x) (hsx : CtSm x) (b : Bool) (hb : b = true ↔ May x) :
    Calls Try.prog 23 #[.agg #[u0, u1, u2, u3, u4]] W fun e w' => e = .returned (.bool b) ∧ Below W.heap.size W w' := by
  have C := fun w' (hB : Below W.heap.size W w') => may_any (hu.below hB) hsx b hb
  obtain ⟨a0, c0, rfl, _⟩ := hu.cell.form
  obtain ⟨a1, c1, rfl, _⟩ := hu.stack.form
  obtain ⟨a2, c2, rfl, _⟩ := hu.queue.form
  obtain ⟨a3, c3, rfl, _⟩ := hu.set.form
  obtain ⟨a4, c4, rfl, _⟩ := hu.table.form
  have B0 := (Below.refl W.heap.size W).alloc (Nat.le_refl _) (ctO (.slice a0 x.cell.length c0) (.slice a1 x.stack.length c1) (.slice a2 x.queue.length c2) (.slice a3 x.set.length c3) (.slice a4 x.table.length c4))
  have BE := fun w1 (hB : Below (W.heap.size + 1) (W.alloc (ctO (.slice a0 x.cell.length c0) (.slice a1 x.stack.length c1) (.slice a2 x.queue.length c2) (.slice a3 x.set.length c3) (.slice a4 x.table.length c4))) w1) => B0.trans (hB.mono (by omega))
  clear hu hb
  unfold ctO at B0 BE
  replace C := Mr.hid C
  replace B0 := Mr.hid B0
  replace BE := Mr.hid BE
  go_enter Try.func23, Try.ntmps23
  go_wp2_with (go_at_call 42; refine (C.out _ B0.out).mono ?_; clear C; rintro e w1 ⟨rfl, hB1⟩; simp only [World.size_alloc] at hB1; have hE := Mr.hid (BE.out w1 hB1); clear hB1 BE)
  go_ret
  exact ⟨rfl, hE.out⟩
set_option maxRecDepth 100000 in
set_option maxHeartbeats 8000000 in
theorem rSame_any {W : World} {S : Nat → Prop} {u0 u1 u2 u3 u4 : Value} {x : Ct} (hu : CtAt W S u0 u1 u2 u3 u4 x) {T : Nat → Prop} {v0 v1 v2 v3 v4 : Value} {y : Ct} (hv : CtAt W T v0 v1 v2 v3 v4 y) (hsx : CtSm x) (hsy : CtSm y) :
    Calls Try.prog 21 #[.agg #[u0, u1, u2, u3, u4], .agg #[v0, v1, v2, v3, v4]] W fun e w' => e = .returned (.bool (ctB x y)) ∧ Below W.heap.size W w' := by
  have C := fun w' (hB : Below W.heap.size W w') => same_any (hu.below hB) (hv.below hB) hsx hsy
  obtain ⟨a0, c0, rfl, _⟩ := hu.cell.form
  obtain ⟨a1, c1, rfl, _⟩ := hu.stack.form
  obtain ⟨a2, c2, rfl, _⟩ := hu.queue.form
  obtain ⟨a3, c3, rfl, _⟩ := hu.set.form
  obtain ⟨a4, c4, rfl, _⟩ := hu.table.form
  obtain ⟨b0, d0, rfl, _⟩ := hv.cell.form
  obtain ⟨b1, d1, rfl, _⟩ := hv.stack.form
  obtain ⟨b2, d2, rfl, _⟩ := hv.queue.form
  obtain ⟨b3, d3, rfl, _⟩ := hv.set.form
  obtain ⟨b4, d4, rfl, _⟩ := hv.table.form
  obtain ⟨r, hr⟩ : ∃ r, r = ctB x y := ⟨_, rfl⟩
  rw [← hr] at C ⊢
  replace hr := Mr.hid hr
  have B0 := ((Below.refl W.heap.size W).alloc (Nat.le_refl _) (ctO (.slice a0 x.cell.length c0) (.slice a1 x.stack.length c1) (.slice a2 x.queue.length c2) (.slice a3 x.set.length c3) (.slice a4 x.table.length c4))).alloc (by simp) (ctO (.slice b0 y.cell.length d0) (.slice b1 y.stack.length d1) (.slice b2 y.queue.length d2) (.slice b3 y.set.length d3) (.slice b4 y.table.length d4))
  have BE := fun w1 (hB : Below (W.heap.size + 2) ((W.alloc (ctO (.slice a0 x.cell.length c0) (.slice a1 x.stack.length c1) (.slice a2 x.queue.length c2) (.slice a3 x.set.length c3) (.slice a4 x.table.length c4))).alloc (ctO (.slice b0 y.cell.length d0) (.slice b1 y.stack.length d1) (.slice b2 y.queue.length d2) (.slice b3 y.set.length d3) (.slice b4 y.table.length d4))) w1) => B0.trans (hB.mono (by omega))
  clear hu hv
  unfold ctO at B0 BE
  replace C := Mr.hid C
  replace B0 := Mr.hid B0
  replace BE := Mr.hid BE
  go_enter Try.func21, Try.ntmps21
  go_wp2_with (go_at_call 41; refine (C.out _ B0.out).mono ?_; clear C; rintro e w1 ⟨rfl, hB1⟩; simp only [World.size_alloc] at hB1; have hE := Mr.hid (BE.out w1 hB1); clear hB1 BE)
  go_ret
  exact ⟨rfl, hE.out⟩
theorem rObject_any (op : Int) (w : World) : Calls Try.prog 24 #[.int .i64 op] w fun e w' => e = .returned (.int .i64 (obj op)) ∧ w' = w := by
  have C := Mr.hid (object_any op w)
  obtain ⟨r, hr⟩ : ∃ r, r = obj op := ⟨_, rfl⟩
  rw [← hr] at C ⊢
  replace hr := Mr.hid hr
  go_enter Try.func24, Try.ntmps24
  go_wp2_with (go_at_call 43; refine C.out.mono ?_; clear C; rintro e w1 ⟨rfl, hw⟩; obtain rfl := hw.symm; clear hw)
  go_ret
  exact ⟨rfl, rfl⟩
set_option maxRecDepth 100000 in
set_option maxHeartbeats 8000000 in
theorem rCopy_any {W : World} {S : Nat → Prop} {u0 u1 u2 u3 u4 : Value} {x : Ct} (hu : CtAt W S u0 u1 u2 u3 u4 x) (hin : CtIn 225000000000000 x) :
    Calls Try.prog 19 #[.agg #[u0, u1, u2, u3, u4]] W fun e w' => ∃ v0 v1 v2 v3 v4, e = .returned (.agg #[v0, v1, v2, v3, v4]) ∧ CtAt w' (fun k => W.heap.size ≤ k) v0 v1 v2 v3 v4 x ∧ Below W.heap.size W w' := by
  have C := fun w' (hB : Below W.heap.size W w') => copy_any (hu.below hB) hin
  obtain ⟨a0, c0, rfl, _⟩ := hu.cell.form
  obtain ⟨a1, c1, rfl, _⟩ := hu.stack.form
  obtain ⟨a2, c2, rfl, _⟩ := hu.queue.form
  obtain ⟨a3, c3, rfl, _⟩ := hu.set.form
  obtain ⟨a4, c4, rfl, _⟩ := hu.table.form
  have B0 := (((Below.refl W.heap.size W).alloc (Nat.le_refl _) (ctO (.slice a0 x.cell.length c0) (.slice a1 x.stack.length c1) (.slice a2 x.queue.length c2) (.slice a3 x.set.length c3) (.slice a4 x.table.length c4))).alloc (by simp) nil5)
  have G0 : (((W.alloc (ctO (.slice a0 x.cell.length c0) (.slice a1 x.stack.length c1) (.slice a2 x.queue.length c2) (.slice a3 x.set.length c3) (.slice a4 x.table.length c4))).alloc nil5)).heap[W.heap.size + 1]? = some nil5 := (new_at _ nil5 _ (by simp))
  have BE := fun w1 (hB : Below (W.heap.size + 2) ((W.alloc (ctO (.slice a0 x.cell.length c0) (.slice a1 x.stack.length c1) (.slice a2 x.queue.length c2) (.slice a3 x.set.length c3) (.slice a4 x.table.length c4))).alloc nil5) w1) => (⟨B0.trans (hB.mono (by omega)), (hB.block (W.heap.size + 1) (by omega)).trans G0⟩ : Below W.heap.size W w1 ∧ w1.heap[W.heap.size + 1]? = some nil5)
  clear hu G0
  unfold nil5 ctO at B0
  unfold ctO at BE
  replace C := Mr.hid C
  replace B0 := Mr.hid B0
  replace BE := Mr.hid BE
  go_enter Try.func19, Try.ntmps19
  go_wp2_with (go_at_call 40; refine (C.out _ B0.out).mono ?_; clear C; rintro e w1 ⟨v0, v1, v2, v3, v4, rfl, hv, -, hB1⟩; simp only [World.size_alloc] at hB1 hv; obtain ⟨hE, hG⟩ := BE.out w1 hB1; obtain ⟨e1, e2, e3⟩ := end5a (v0 := v0) (v1 := v1) (v2 := v2) (v3 := v3) (v4 := v4) hE (b := W.heap.size + 1) (by omega) hG hv.at (fun k hk => by omega); clear hB1 BE hE; obtain ⟨k0, k1, k2, k3, k4, kl⟩ := ctO_cells hG; obtain ⟨f0, f1, f2, f3, f4⟩ := ctO_thaw hG; clear hG; obtain ⟨z0, q0, rfl, _⟩ := hv.cell.form; obtain ⟨z1, q1, rfl, _⟩ := hv.stack.form; obtain ⟨z2, q2, rfl, _⟩ := hv.queue.form; obtain ⟨z3, q3, rfl, _⟩ := hv.set.form; obtain ⟨z4, q4, rfl, _⟩ := hv.table.form; clear hv; replace e1 := Mr.hid e1; replace e2 := Mr.hid e2; replace e3 := Mr.hid e3)
  obtain ⟨d0, d1, d2, d3, d4, -⟩ := ctO_cells e3.out
  replace e1 := e1.out
  replace e2 := e2.out
  unfold set5 at e1 e2 d0 d1 d2 d3 d4
  replace e1 := Mr.hid e1
  replace e2 := Mr.hid e2
  clear e3 k0 k1 k2 k3 k4 f0 f1 f2 f3 f4
  refine bodyPost_ret (v := .agg #[.slice z0 x.cell.length q0, .slice z1 x.stack.length q1, .slice z2 x.queue.length q2, .slice z3 x.set.length q3, .slice z4 x.table.length q4]) (by simp [results, Try.results19, go_sem, d0, d1, d2, d3, d4]) rfl ?_
  exact ⟨_, _, _, _, _, rfl, e1.out, e2.out⟩
set_option maxRecDepth 100000 in
set_option maxHeartbeats 8000000 in
theorem rAllows_any {W : World} {S : Nat → Prop} {u0 u1 u2 u3 u4 : Value} {x : Ct} (hu : CtAt W S u0 u1 u2 u3 u4 x) (hin : CtIn 225000000000000 x) (c : Cq) (ho : obj c.op ≠ 0) :
    Calls Try.prog 26 #[.agg #[u0, u1, u2, u3, u4], .agg #[.int .i64 c.th, .int .i64 c.op, .int .i64 c.arg, .int .i64 c.data, .int .i64 c.beg, .int .i64 c.fin, .int .i64 c.pt, .int .i64 c.ak, .int .i64 c.av]] W fun e w' => ∃ v0 v1 v2 v3 v4, e = .returned (.tuple #[.agg #[v0, v1, v2, v3, v4], .bool (alw x c).2]) ∧ CtAt w' (fun k => W.heap.size ≤ k) v0 v1 v2 v3 v4 (alw x c).1 ∧ Below W.heap.size W w' := by
  have C := fun w' (hB : Below W.heap.size W w') => allows_any (hu.below hB) hin c ho
  obtain ⟨a0, c0, rfl, _⟩ := hu.cell.form
  obtain ⟨a1, c1, rfl, _⟩ := hu.stack.form
  obtain ⟨a2, c2, rfl, _⟩ := hu.queue.form
  obtain ⟨a3, c3, rfl, _⟩ := hu.set.form
  obtain ⟨a4, c4, rfl, _⟩ := hu.table.form
  obtain ⟨y, hy⟩ : ∃ y, y = (alw x c).1 := ⟨_, rfl⟩
  rw [← hy] at C ⊢
  replace hy := Mr.hid hy
  obtain ⟨bb, hbb⟩ : ∃ b, b = (alw x c).2 := ⟨_, rfl⟩
  rw [← hbb] at C ⊢
  replace hbb := Mr.hid hbb
  have B0 := ((((Below.refl W.heap.size W).alloc (Nat.le_refl _) (ctO (.slice a0 x.cell.length c0) (.slice a1 x.stack.length c1) (.slice a2 x.queue.length c2) (.slice a3 x.set.length c3) (.slice a4 x.table.length c4))).alloc (by simp) (cqO c)).alloc (by simp; omega) nil5)
  have G0 : ((((W.alloc (ctO (.slice a0 x.cell.length c0) (.slice a1 x.stack.length c1) (.slice a2 x.queue.length c2) (.slice a3 x.set.length c3) (.slice a4 x.table.length c4))).alloc (cqO c)).alloc nil5)).heap[W.heap.size + 2]? = some nil5 := (new_at _ nil5 _ (by simp))
  have BE := fun w1 (hB : Below (W.heap.size + 3) (((W.alloc (ctO (.slice a0 x.cell.length c0) (.slice a1 x.stack.length c1) (.slice a2 x.queue.length c2) (.slice a3 x.set.length c3) (.slice a4 x.table.length c4))).alloc (cqO c)).alloc nil5) w1) => (⟨B0.trans (hB.mono (by omega)), (hB.block (W.heap.size + 2) (by omega)).trans G0⟩ : Below W.heap.size W w1 ∧ w1.heap[W.heap.size + 2]? = some nil5)
  clear hu G0
  unfold nil5 ctO cqO at B0
  unfold ctO cqO at BE
  replace C := Mr.hid C
  replace B0 := Mr.hid B0
  replace BE := Mr.hid BE
  go_enter Try.func26, Try.ntmps26
  go_wp2_with (go_at_call 45; refine (C.out _ B0.out).mono ?_; clear C; rintro e w1 ⟨v0, v1, v2, v3, v4, rfl, hv, hB1⟩; simp only [World.size_alloc] at hB1 hv; obtain ⟨hE, hG⟩ := BE.out w1 hB1; obtain ⟨e1, e2, e3⟩ := end5a (v0 := v0) (v1 := v1) (v2 := v2) (v3 := v3) (v4 := v4) hE (b := W.heap.size + 2) (by omega) hG hv (fun k hk => by omega); clear hB1 BE hE; obtain ⟨k0, k1, k2, k3, k4, kl⟩ := ctO_cells hG; obtain ⟨f0, f1, f2, f3, f4⟩ := ctO_thaw hG; clear hG; obtain ⟨z0, q0, rfl, _⟩ := hv.cell.form; obtain ⟨z1, q1, rfl, _⟩ := hv.stack.form; obtain ⟨z2, q2, rfl, _⟩ := hv.queue.form; obtain ⟨z3, q3, rfl, _⟩ := hv.set.form; obtain ⟨z4, q4, rfl, _⟩ := hv.table.form; clear hv; replace e1 := Mr.hid e1; replace e2 := Mr.hid e2; replace e3 := Mr.hid e3)
  obtain ⟨d0, d1, d2, d3, d4, -⟩ := ctO_cells e3.out
  replace e1 := e1.out
  replace e2 := e2.out
  unfold set5 at e1 e2 d0 d1 d2 d3 d4
  replace e1 := Mr.hid e1
  replace e2 := Mr.hid e2
  clear e3 k0 k1 k2 k3 k4 f0 f1 f2 f3 f4
  refine bodyPost_ret (v := .tuple #[.agg #[.slice z0 y.cell.length q0, .slice z1 y.stack.length q1, .slice z2 y.queue.length q2, .slice z3 y.set.length q3, .slice z4 y.table.length q4], .bool bb]) (by simp [results, Try.results26, go_sem, d0, d1, d2, d3, d4]) rfl ?_
  exact ⟨_, _, _, _, _, rfl, e1.out, e2.out⟩
set_option maxRecDepth 100000 in
set_option maxHeartbeats 8000000 in
theorem rDo_any {W : World} {S : Nat → Prop} {u0 u1 u2 u3 u4 : Value} {x : Ct} (hu : CtAt W S u0 u1 u2 u3 u4 x) (hin : CtIn 225000000000000 x) (op arg data : Int) (ho : obj op ≠ 0) :
    Calls Try.prog 25 #[.agg #[u0, u1, u2, u3, u4], .int .i64 op, .int .i64 arg, .int .i64 data] W fun e w' => ∃ v0 v1 v2 v3 v4, e = .returned (.tuple #[.agg #[v0, v1, v2, v3, v4], ans (dan x op arg).1 (dan x op arg).2]) ∧ CtAt w' (fun k => W.heap.size ≤ k) v0 v1 v2 v3 v4 (dnx x op arg data) ∧ Below W.heap.size W w' := by
  have C := fun w' (hB : Below W.heap.size W w') => do_any (hu.below hB) hin op arg data ho
  obtain ⟨a0, c0, rfl, _⟩ := hu.cell.form
  obtain ⟨a1, c1, rfl, _⟩ := hu.stack.form
  obtain ⟨a2, c2, rfl, _⟩ := hu.queue.form
  obtain ⟨a3, c3, rfl, _⟩ := hu.set.form
  obtain ⟨a4, c4, rfl, _⟩ := hu.table.form
  obtain ⟨y, hy⟩ : ∃ y, y = dnx x op arg data := ⟨_, rfl⟩
  rw [← hy] at C ⊢
  replace hy := Mr.hid hy
  obtain ⟨ak, av, hak⟩ : ∃ a b, (dan x op arg) = (a, b) := ⟨_, _, rfl⟩
  rw [hak] at C ⊢
  replace hak := Mr.hid hak
  have B0 := (((Below.refl W.heap.size W).alloc (Nat.le_refl _) (ctO (.slice a0 x.cell.length c0) (.slice a1 x.stack.length c1) (.slice a2 x.queue.length c2) (.slice a3 x.set.length c3) (.slice a4 x.table.length c4))).alloc (by simp) nil5).alloc (by simp; omega) (ansO 0 0)
  have G0 : (((W.alloc (ctO (.slice a0 x.cell.length c0) (.slice a1 x.stack.length c1) (.slice a2 x.queue.length c2) (.slice a3 x.set.length c3) (.slice a4 x.table.length c4))).alloc nil5).alloc (ansO 0 0)).heap[W.heap.size + 1]? = some nil5 := old_at (new_at _ nil5 _ (by simp)) (ansO 0 0)
  have G1 : (((W.alloc (ctO (.slice a0 x.cell.length c0) (.slice a1 x.stack.length c1) (.slice a2 x.queue.length c2) (.slice a3 x.set.length c3) (.slice a4 x.table.length c4))).alloc nil5).alloc (ansO 0 0)).heap[W.heap.size + 2]? = some (ansO 0 0) := new_at _ (ansO 0 0) _ (by simp)
  have EK := fun w1 (hB : Below (W.heap.size + 3) (((W.alloc (ctO (.slice a0 x.cell.length c0) (.slice a1 x.stack.length c1) (.slice a2 x.queue.length c2) (.slice a3 x.set.length c3) (.slice a4 x.table.length c4))).alloc nil5).alloc (ansO 0 0)) w1) v0 v1 v2 v3 v4 (hat : CtAt w1 (fun k => W.heap.size + 3 ≤ k) v0 v1 v2 v3 v4 y) => (⟨ends_any (W := W) (B0.trans (hB.mono (by omega))) ((hB.block (W.heap.size + 1) (by omega)).trans G0) ((hB.block (W.heap.size + 2) (by omega)).trans G1) hat (fun k hk => by omega) ak av, (hB.block (W.heap.size + 1) (by omega)).trans G0, (hB.block (W.heap.size + 2) (by omega)).trans G1⟩ : _ ∧ w1.heap[W.heap.size + 1]? = some nil5 ∧ w1.heap[W.heap.size + 2]? = some (ansO 0 0))
  clear hu G0 G1
  unfold nil5 ctO ansO at B0
  unfold ctO ansO at EK
  replace C := Mr.hid C
  replace B0 := Mr.hid B0
  replace EK := Mr.hid EK
  replace ho := Mr.hid ho
  go_enter Try.func25, Try.ntmps25
  go_wp2_with (first | (go_at_call 44; refine (C.out _ B0.out).mono ?_; clear C; rintro e w4 ⟨v0, v1, v2, v3, v4, rfl, hat, hB4⟩; simp only [World.size_alloc] at hB4 hat; obtain ⟨⟨e1, e2, e3, e4⟩, h5, h6⟩ := EK.out w4 hB4 v0 v1 v2 v3 v4 hat; clear EK; obtain ⟨z0, q0, rfl, _⟩ := hat.cell.form; obtain ⟨z1, q1, rfl, _⟩ := hat.stack.form; obtain ⟨z2, q2, rfl, _⟩ := hat.queue.form; obtain ⟨z3, q3, rfl, _⟩ := hat.set.form; obtain ⟨z4, q4, rfl, _⟩ := hat.table.form; clear hat hB4; unfold ans; obtain ⟨r0, r1, r2, r3, r4, hr⟩ := ctO_cells h5; obtain ⟨f0, f1, f2, f3, f4⟩ := ctO_thaw h5; obtain ⟨s0, s1, hs, s2, s3⟩ := ansO_cells h6; clear h5 h6; replace e1 := Mr.hid e1; replace e2 := Mr.hid e2; replace e3 := Mr.hid e3; replace e4 := Mr.hid e4))
  obtain ⟨d0, d1, d2, d3, d4, -⟩ := ctO_cells e3.out
  obtain ⟨g0, g1, -, -, -⟩ := ansO_cells e4.out
  replace e1 := e1.out
  replace e2 := e2.out
  unfold set7 set5 at e1 e2 d0 d1 d2 d3 d4 g0 g1
  replace e1 := Mr.hid e1
  replace e2 := Mr.hid e2
  clear e3 e4 r0 r1 r2 r3 r4 f0 f1 f2 f3 f4 s0 s1 s2 s3
  refine bodyPost_ret (v := .tuple #[.agg #[.slice z0 y.cell.length q0, .slice z1 y.stack.length q1, .slice z2 y.queue.length q2, .slice z3 y.set.length q3, .slice z4 y.table.length q4], .agg #[.int .i64 ak, .int .i64 av]]) (by simp [results, Try.results25, go_sem, d0, d1, d2, d3, d4, g0, g1]) rfl ?_
  exact ⟨_, _, _, _, _, rfl, e1.out, e2.out⟩
end Go.Proofs.Ytegbcocbopgghab.Md
