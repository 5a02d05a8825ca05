import Derived.Test.YtegbcocbopgghacJ02
import Derived.Test.YtegbcocbopgghacJ09
import Derived.Deep.CutRange
/-
  OPENING calls (api.Call) and lists of them that came in, with their reach.
-/
namespace Go.Proofs.Ytegbcocbopgghac.Md
open Go.ChangeShapes Go.WideShapes Go.ChangeAt Go.RowKit Go.Deep
open Mr
set_option linter.unusedVariables false
set_option maxRecDepth 100000
theorem cells_opC : Try.prog.cellsOf 34 = 1 := by kernel_rfl
theorem cells_ak : Try.prog.cellsOf 35 = 1 := by kernel_rfl
theorem cells_an : Try.prog.cellsOf 37 = 2 := by kernel_rfl
theorem cells_cq : Try.prog.cellsOf 39 = 9 := by kernel_rfl
theorem cells_lc : Try.prog.cellsOf 26 = 1 := by kernel_rfl
theorem bytes_cq : Try.prog.bytesOf 39 = 72 := by kernel_rfl
theorem flat_get {α : Type} (row : α → List Value) (size : Nat) (hrow : ∀ a, (row a).length = size) (l : List α) (i : Nat) (a : α) (h : l[i]? = some a) (t : Nat) (ht : t < size) : (l.flatMap row)[i * size + t]? = (row a)[t]? := by
  induction l generalizing i with
  | nil => simp at h
  | cons x l ih =>
    cases i with
    | zero =>
      simp at h; subst h
      rw [List.flatMap_cons, List.getElem?_append_left (by rw [hrow]; omega)]
      simp
    | succ i =>
      have := ih i (by simpa using h)
      rw [List.flatMap_cons, List.getElem?_append_right (by rw [hrow, Nat.add_mul]; omega), ← this]
      congr 1
      rw [hrow, Nat.add_mul]; omega
theorem flat_len {α : Type} (row : α → List Value) (size : Nat) (hrow : ∀ a, (row a).length = size) (l : List α) : (l.flatMap row).length = l.length * size := by
  induction l with
  | nil => simp
  | cons x l ih => rw [List.flatMap_cons, List.length_append, ih, hrow, List.length_cons, Nat.add_mul]; omega
theorem sl_rows {α : Type} (d : α) (row : α → List Value) (size : Nat) (hsz : 0 < size) (hrow : ∀ a, (row a).length = size) {w : World} {ad : Addr} {n cap : Nat} (hcap : n ≤ cap) (each : ∀ i, i < n → ∃ a : α, ∀ t, t < size → w.cell? ((ad.add (i * size)).add t) = (row a)[t]?) :
    ∃ l : List α, Sl w (fun _ => True) size (.slice (some ad) l.length cap) l.length (l.flatMap row) ∧ l.length = n := by
  obtain ⟨f, hf⟩ := Classical.axiomOfChoice (fun i => (if h : i < n then (by obtain ⟨o, ho⟩ := each i h; exact ⟨o, fun _ => ho⟩) else ⟨d, fun h' => absurd h' h⟩ : ∃ o : α, i < n → ∀ t, t < size → w.cell? ((ad.add (i * size)).add t) = (row o)[t]?))
  have hlen : ((List.range n).map f).length = n := by simp
  refine ⟨(List.range n).map f, ⟨flat_len row size hrow _, some ad, cap, rfl, by omega, ?_⟩, hlen⟩
  by_cases hn : n = 0
  · exact .inl (by omega)
  · have c0 := hf 0 (by omega) 0 hsz
    have hr0 : (row (f 0))[0]? = some ((row (f 0))[0]'(by rw [hrow]; exact hsz)) := List.getElem?_eq_getElem _
    rw [hr0] at c0
    have hs : (ad.add (0 * size)).spot = none := spot0 c0
    obtain ⟨b, o, s⟩ := ad
    have hs' : s = none := by simpa [Addr.add] using hs
    subst hs'
    refine .inr ⟨b, o, rfl, trivial, ?_, fun j u hu => ?_⟩
    · have := World.block_lt_of_cell? w _ c0
      rwa [blk_add, blk_add] at this
    · have hj : j < n * size := by
        have := (List.getElem?_eq_some_iff.1 hu).1
        rw [flat_len row size hrow, hlen] at this; exact this
      have hi : j / size < n := by rw [Nat.div_lt_iff_lt_mul hsz]; exact hj
      have ht : j % size < size := Nat.mod_lt _ hsz
      have c := hf (j / size) hi (j % size) ht
      have g := flat_get row size hrow ((List.range n).map f) (j / size) (f (j / size)) (by simp [hi]) (j % size) ht
      have ej : j / size * size + j % size = j := by rw [Nat.mul_comm]; exact Nat.div_add_mod j size
      rw [ej, hu] at g
      rw [add1, add1, Nat.add_assoc, ej] at c
      rw [c, ← g]
section
variable {H : Type} {enc : TypeId × Value → H} {w : World} {base : Nat} {spare : Nat → Bool} {held : Bool}
theorem trod_an {fuel : Nat} {cs : List Value} {x : DataW H × List MemPlace} (hf : DataW.trod enc Try.prog w base spare held fuel 37 cs = some x) : ∃ a b : Int, cs = [.int .i64 a, .int .i64 b] := by
  obtain ⟨xs, n, _, hxx, hl, hxl, hx⟩ := DataW.trod_struct Try.underlying37 hf
  rw [cells_an] at hl
  match cs, hl with
  | [x0, x1], _ =>
    have q0 := hx 0 _ rfl
    have q1 := hx 1 _ rfl
    have hxs : xs.length = 2 := by simpa using hxl
    match xs, hxs with
    | [y0, y1], _ =>
      simp [cells_ak, cells_i64] at q0 q1
      obtain ⟨z0, e0, _⟩ := DataW.trod_int Try.underlying35 q0
      obtain ⟨z1, e1, _⟩ := DataW.trod_int Try.underlying3 q1
      simp at e0 e1
      subst e0; subst e1
      exact ⟨z0, z1, rfl⟩
theorem trod_cq {fuel : Nat} {cs : List Value} {x : DataW H × List MemPlace} (hf : DataW.trod enc Try.prog w base spare held fuel 39 cs = some x) : ∃ c : Cq, cs = c.row := by
  obtain ⟨xs, n, _, hxx, hl, hxl, hx⟩ := DataW.trod_struct Try.underlying39 hf
  rw [cells_cq] at hl
  match cs, hl with
  | [x0, x1, x2, x3, x4, x5, x6, x7, x8], _ =>
    have q0 := hx 0 _ rfl
    have q1 := hx 1 _ rfl
    have q2 := hx 2 _ rfl
    have q3 := hx 3 _ rfl
    have q4 := hx 4 _ rfl
    have q5 := hx 5 _ rfl
    have q6 := hx 6 _ rfl
    have q7 := hx 7 _ rfl
    have hxs : xs.length = 8 := by simpa using hxl
    match xs, hxs with
    | [y0, y1, y2, y3, y4, y5, y6, y7], _ =>
      simp [cells_opC, cells_i64, cells_an] at q0 q1 q2 q3 q4 q5 q6 q7
      obtain ⟨z0, e0, _⟩ := DataW.trod_int Try.underlying3 q0
      obtain ⟨z1, e1, _⟩ := DataW.trod_int Try.underlying34 q1
      obtain ⟨z2, e2, _⟩ := DataW.trod_int Try.underlying3 q2
      obtain ⟨z3, e3, _⟩ := DataW.trod_int Try.underlying3 q3
      obtain ⟨z4, e4, _⟩ := DataW.trod_int Try.underlying3 q4
      obtain ⟨z5, e5, _⟩ := DataW.trod_int Try.underlying3 q5
      obtain ⟨z6, e6, _⟩ := DataW.trod_int Try.underlying3 q6
      obtain ⟨z7, z8, e7⟩ := trod_an q7
      simp at e0 e1 e2 e3 e4 e5 e6 e7
      obtain ⟨e7, e8⟩ := e7
      subst e0; subst e1; subst e2; subst e3; subst e4; subst e5; subst e6; subst e7; subst e8
      exact ⟨⟨z0, z1, z2, z3, z4, z5, z6, z7, z8⟩, rfl⟩
theorem open_cq {r : Reach} {b0 : Nat} {v : Value} {d : DataW H} {p : List MemPlace} (hv : Value.okWide Try.prog w r b0 39 v) (h : DataW.Trod enc Try.prog w base spare held 39 v d p) :
    ∃ c : Cq, v = .agg #[.int .i64 c.th, .int .i64 c.op, .int .i64 c.arg, .int .i64 c.data, .int .i64 c.beg, .int .i64 c.fin, .int .i64 c.pt, .int .i64 c.ak, .int .i64 c.av] := by
  obtain ⟨cs, rfl, hcz⟩ := okWide_struct Try.underlying39 hv
  obtain ⟨fuel, hfu⟩ := h
  obtain ⟨c, hc⟩ := trod_cq hfu
  have hcs : (Value.agg cs).cells.toList = cs.toList := rfl
  rw [hcs] at hc
  refine ⟨c, ?_⟩
  congr 1
  have : cs = (c.row).toArray := by rw [← hc]
  rw [this]
  rfl
theorem open_csl {fuel : Nat} {cs : List Value} {x : DataW H × List MemPlace} (hf : DataW.trod enc Try.prog w base spare held fuel 26 cs = some x) :
    ∃ v l, cs = [v] ∧ Sl w (fun _ => True) 9 v l.length (cqs l) := by
  rcases open_slice Try.underlying26 hf with ⟨hc, hx⟩ | ⟨ad, n, cap, m, k, D, Pl, hc, _, hl, _, hm, hx, hel⟩
  · exact ⟨_, [], hc, Sl.nil _ _ _⟩
  · have hle : n ≤ m := by rw [hm]; split <;> omega
    obtain ⟨l, hs, hn⟩ := sl_rows (w := w) (ad := ad) (n := n) (cap := cap) ⟨0, 0, 0, 0, 0, 0, 0, 0, 0⟩ Cq.row 9 (by omega) (fun _ => rfl) (by omega) (fun i hi => by
      obtain ⟨cs, h1, h2⟩ := hel i (by omega)
      rw [cells_cq] at h1
      obtain ⟨_, hcl, hce⟩ := World.cells?_some h1
      obtain ⟨c, hcc⟩ := trod_cq h2
      exact ⟨c, fun t ht => by rw [← hcc]; exact hce t (by omega)⟩)
    exact ⟨_, l, by rw [hc, hn], hs⟩
theorem open_calls {r : Reach} {b0 : Nat} {v : Value} {d : DataW H} {p : List MemPlace} (hv : Value.okWide Try.prog w r b0 26 v) (h : DataW.Trod enc Try.prog w base spare held 26 v d p) (hsz : (d.weights Try.prog 26).all (· ≤ reachBytes) = true) :
    ∃ l, Sl w (fun _ => True) 9 v l.length (cqs l) ∧ l.length * 72 ≤ 140737488351232 := by
  obtain ⟨a, n, cap, rfl⟩ := okWide_slice Try.underlying26 hv
  obtain ⟨fuel, hf⟩ := h
  have e0 : (Value.slice a n cap).cells.toList = [.slice a n cap] := rfl
  rw [e0] at hf
  obtain ⟨w0, l, e1, hs⟩ := open_csl hf
  simp at e1
  subst e1
  have f := len_slice Try.underlying26 hf rfl hs
  refine ⟨l, hs, ?_⟩
  rcases f with f | ⟨es, rs, hd, hl⟩
  · omega
  · simp only at hd
    subst hd
    simp only [DataW.weights, Try.underlying26, List.all_cons, Bool.and_eq_true, decide_eq_true_eq, bytes_cq] at hsz
    have e : reachBytes = 140737488351232 := by decide
    have := hsz.1
    rw [e, Nat.add_mul] at this
    omega
end
end Go.Proofs.Ytegbcocbopgghac.Md
/-
  reclaimmodel.Play, of any calls whose ops have an object.
-/
namespace Go.Proofs.Ytegbcocbopgghac.Md
open Go.RowKit Mr Me
set_option linter.unusedVariables false
set_option linter.unusedSimpArgs false
/-- Within Play: the contents' box, the result's. -/
structure Dp (W w : World) (v0 v1 v2 v3 v4 : Value) (y : Ct) : Prop where
  bel : Below W.heap.size W w
  box : w.heap[W.heap.size]? = some (ctO v0 v1 v2 v3 v4)
  res : w.heap[W.heap.size + 1]? = some (ctO (.slice none 0 0) (.slice none 0 0) (.slice none 0 0) (.slice none 0 0) (.slice none 0 0))
  at_ : CtAt w (fun k => W.heap.size + 2 ≤ k) v0 v1 v2 v3 v4 y
theorem Dp.below {W w w' : World} {v0 v1 v2 v3 v4 : Value} {y : Ct} (h : Dp W w v0 v1 v2 v3 v4 y) (hB : Below w.heap.size w w') : Dp W w' v0 v1 v2 v3 v4 y :=
  ⟨h.bel.trans (hB.mono h.bel.size), (hB.block _ (Array.getElem?_eq_some_iff.1 h.box).1).trans h.box, (hB.block _ (Array.getElem?_eq_some_iff.1 h.res).1).trans h.res, h.at_.below hB⟩
/-- The contents' box written. -/
theorem Dp.next {W w : World} {u0 u1 u2 u3 u4 v0 v1 v2 v3 v4 : Value} {y z : Ct} (h : Dp W w u0 u1 u2 u3 u4 y) (hz : CtAt w (fun k => W.heap.size + 2 ≤ k) v0 v1 v2 v3 v4 z) : Dp W (set5 w W.heap.size v0 v1 v2 v3 v4) v0 v1 v2 v3 v4 z :=
  ⟨set5_below v0 v1 v2 v3 v4 h.bel (Nat.le_refl _), set5_at v0 v1 v2 v3 v4 h.box, (set5_far w W.heap.size v0 v1 v2 v3 v4 _ (by omega)).trans h.res, hz.fr (set5_fr w W.heap.size v0 v1 v2 v3 v4) (fun k hk _ e => by subst e; omega)⟩
theorem Dp.first {W w1 : World} {u0 u1 u2 u3 u4 v0 v1 v2 v3 v4 : Value} {y : Ct} (hv : CtAt w1 (fun k => W.heap.size + 2 ≤ k) v0 v1 v2 v3 v4 y) (hB : Below (W.heap.size + 2) ((W.alloc (ctO u0 u1 u2 u3 u4)).alloc (ctO (.slice none 0 0) (.slice none 0 0) (.slice none 0 0) (.slice none 0 0) (.slice none 0 0))) w1) :
    Dp W (set5 w1 W.heap.size v0 v1 v2 v3 v4) v0 v1 v2 v3 v4 y ∧ w1.heap[W.heap.size]? = some (ctO u0 u1 u2 u3 u4) := by
  have B0 := ((Below.refl W.heap.size W).alloc (Nat.le_refl _) (ctO u0 u1 u2 u3 u4)).alloc (by simp) (ctO (.slice none 0 0) (.slice none 0 0) (.slice none 0 0) (.slice none 0 0) (.slice none 0 0))
  have g0 := (hB.block W.heap.size (by omega)).trans (old_at (new_at W (ctO u0 u1 u2 u3 u4) _ rfl) (ctO (.slice none 0 0) (.slice none 0 0) (.slice none 0 0) (.slice none 0 0) (.slice none 0 0)))
  have g1 := (hB.block (W.heap.size + 1) (by omega)).trans (new_at (W.alloc (ctO u0 u1 u2 u3 u4)) (ctO (.slice none 0 0) (.slice none 0 0) (.slice none 0 0) (.slice none 0 0) (.slice none 0 0)) _ (by simp))
  have B1 := B0.trans (hB.mono (by omega))
  exact ⟨⟨set5_below v0 v1 v2 v3 v4 B1 (Nat.le_refl _), set5_at v0 v1 v2 v3 v4 g0, (set5_far w1 W.heap.size v0 v1 v2 v3 v4 _ (by omega)).trans g1, hv.fr (set5_fr w1 W.heap.size v0 v1 v2 v3 v4) (fun k hk _ e => by subst e; omega)⟩, g0⟩
set_option maxRecDepth 100000 in
set_option maxHeartbeats 8000000 in
theorem play_any {W : World} {S T : Nat → Prop} {u0 u1 u2 u3 u4 uc : Value} {x : Ct} {cs : List Cq} (hu : CtAt W S u0 u1 u2 u3 u4 x) (hin : CtIn 140737488355328 x) (hc : Sl W T 9 uc cs.length (cqs cs)) (hsm : cs.length * 72 ≤ 140737488355328) (ho : ∀ c ∈ cs, obj c.op ≠ 0) :
    Calls Try.prog 20 #[.agg #[u0, u1, u2, u3, u4], uc] W fun e w' => ∃ v0 v1 v2 v3 v4, e = .returned (.tuple #[.agg #[v0, v1, v2, v3, v4], .int .i64 (plays x cs 0).2]) ∧ CtAt w' (fun k => W.heap.size ≤ k) v0 v1 v2 v3 v4 (plays x cs 0).1 ∧ Below W.heap.size W w' := by
  have CC := fun w' (hB : Below W.heap.size W w') => copy_any (hu.below hB) (hin.mono (by decide))
  obtain ⟨a0, c0, rfl, _⟩ := hu.cell.form
  obtain ⟨a1, c1, rfl, _⟩ := hu.stack.form
  obtain ⟨a2, c2, rfl, _⟩ := hu.queue.form
  obtain ⟨a3, c3, rfl, _⟩ := hu.set.form
  obtain ⟨a4, c4, rfl, _⟩ := hu.table.form
  obtain ⟨ac, cc, rfl, hcc⟩ := hc.form
  have B0 := ((Below.refl W.heap.size W).alloc (Nat.le_refl _) (ctO (.slice a0 x.cell.length c0) (.slice a1 x.stack.length c1) (.slice a2 x.queue.length c2) (.slice a3 x.set.length c3) (.slice a4 x.table.length c4))).alloc (by simp) nil5
  have DP := fun w1 v0 v1 v2 v3 v4 (hv : CtAt w1 (fun k => W.heap.size + 2 ≤ k) v0 v1 v2 v3 v4 x) => Dp.first (W := W) (w1 := w1) (u0 := (.slice a0 x.cell.length c0)) (u1 := (.slice a1 x.stack.length c1)) (u2 := (.slice a2 x.queue.length c2)) (u3 := (.slice a3 x.set.length c3)) (u4 := (.slice a4 x.table.length c4)) hv
  have LI := fun i => lefts_in hin cs i
  clear hu
  obtain ⟨n, hn⟩ : ∃ n, n = cs.length := ⟨_, rfl⟩
  rw [← hn] at hc hsm hcc ⊢
  obtain ⟨r, hr⟩ : ∃ r, r = plays x cs 0 := ⟨_, rfl⟩
  rw [← hr]
  unfold nil5 ctO at B0
  unfold ctO at DP
  replace hn := Mr.hid hn
  replace hr := Mr.hid hr
  replace CC := Mr.hid CC
  replace B0 := Mr.hid B0
  replace DP := Mr.hid DP
  replace LI := Mr.hid LI
  replace ho := Mr.hid ho
  replace hc := Mr.hid hc
  clear hin
  go_enter Try.func20, Try.ntmps20
  go_upto_region 2 with (go_at_call 11; refine (CC.out _ B0.out).mono ?_; clear CC; rintro e w1 ⟨v0, v1, v2, v3, v4, rfl, hv, -, hB1⟩; simp only [World.size_alloc] at hB1 hv; obtain ⟨hD, hg⟩ := DP.out _ _ _ _ _ _ hv.at hB1; clear DP; obtain ⟨p0, q0, rfl, _⟩ := hv.cell.form; obtain ⟨p1, q1, rfl, _⟩ := hv.stack.form; obtain ⟨p2, q2, rfl, _⟩ := hv.queue.form; obtain ⟨p3, q3, rfl, _⟩ := hv.set.form; obtain ⟨p4, q4, rfl, _⟩ := hv.table.form;  clear hv hB1 B0; obtain ⟨k0, k1, k2, k3, k4, kl⟩ := ctO_cells hg; obtain ⟨f0, f1, f2, f3, f4⟩ := ctO_thaw hg; clear hg; replace hD := Mr.hid hD)
  replace hD := hD.out
  unfold set5 at hD
  clear k0 k1 k2 k3 k4 f0 f1 f2 f3 f4 kl
  generalize (((((w1.setCell { block := W.heap.size, off := 0 } (Value.slice p0 x.cell.length q0)).setCell { block := W.heap.size, off := 1 } (Value.slice p1 x.stack.length q1)).setCell { block := W.heap.size, off := 2 } (Value.slice p2 x.queue.length q2)).setCell { block := W.heap.size, off := 3 } (Value.slice p3 x.set.length q3)).setCell { block := W.heap.size, off := 4 } (Value.slice p4 x.table.length q4)) = w2 at *
  clear w1
  replace hD := Mr.hid hD
  go_wp2
  go_loopg [6] n (fun k s wr => ∃ i : Nat, s = .int .i64 (i : Int) ∧ i + k = n ∧ okTo x cs i ∧ ∃ v0 v1 v2 v3 v4, Dp W wr v0 v1 v2 v3 v4 (lefts x cs i))
  case atStart => exact ⟨0, rfl, by omega, fun j hj => by omega, _, _, _, _, _, hD.out⟩
  case round =>
    clear hD
    obtain ⟨i, rfl, hi, hok, v0, v1, v2, v3, v4, hD⟩ := hrel
    by_cases hlt : i < n
    · obtain ⟨c, hci⟩ : ∃ c, cs[i]? = some c := ⟨cs[i]'(by have := hn.out; omega), List.getElem?_eq_getElem _⟩
      have CA := fun w' (hB : Below wr.heap.size wr w') => allows_any (hD.at_.below hB) ((LI.out i).mono (by omega)) c (ho.out c (List.mem_of_getElem? hci))
      obtain ⟨yy, hyy⟩ : ∃ y, y = alw (lefts x cs i) c := ⟨_, rfl⟩
      rw [← hyy] at CA
      obtain ⟨bc, oc, cc', hcv, _, _, hcl, hcr⟩ := (hc.out.below hD.bel).there (by omega)
      cases hcv
      have hg := fun j (hj : j < 9) => cqs_get cs i c hci j hj
      have g0 : wr.cell? ⟨bc, oc + i * 9, none⟩ = some (.int .i64 c.th) := hcr (i * 9 + 0) _ (hg 0 (by omega))
      have g1 : wr.cell? ⟨bc, oc + i * 9 + 1, none⟩ = some (.int .i64 c.op) := hcr (i * 9 + 1) _ (hg 1 (by omega))
      have g2 : wr.cell? ⟨bc, oc + i * 9 + 2, none⟩ = some (.int .i64 c.arg) := hcr (i * 9 + 2) _ (hg 2 (by omega))
      have g3 : wr.cell? ⟨bc, oc + i * 9 + 3, none⟩ = some (.int .i64 c.data) := hcr (i * 9 + 3) _ (hg 3 (by omega))
      have g4 : wr.cell? ⟨bc, oc + i * 9 + 4, none⟩ = some (.int .i64 c.beg) := hcr (i * 9 + 4) _ (hg 4 (by omega))
      have g5 : wr.cell? ⟨bc, oc + i * 9 + 5, none⟩ = some (.int .i64 c.fin) := hcr (i * 9 + 5) _ (hg 5 (by omega))
      have g6 : wr.cell? ⟨bc, oc + i * 9 + 6, none⟩ = some (.int .i64 c.pt) := hcr (i * 9 + 6) _ (hg 6 (by omega))
      have g7 : wr.cell? ⟨bc, oc + i * 9 + 7, none⟩ = some (.int .i64 c.ak) := hcr (i * 9 + 7) _ (hg 7 (by omega))
      have g8 : wr.cell? ⟨bc, oc + i * 9 + 8, none⟩ = some (.int .i64 c.av) := hcr (i * 9 + 8) _ (hg 8 (by omega))
      clear hg hcr
      obtain ⟨z0, m0, rfl, _⟩ := hD.at_.cell.form
      obtain ⟨z1, m1, rfl, _⟩ := hD.at_.stack.form
      obtain ⟨z2, m2, rfl, _⟩ := hD.at_.queue.form
      obtain ⟨z3, m3, rfl, _⟩ := hD.at_.set.form
      obtain ⟨z4, m4, rfl, _⟩ := hD.at_.table.form
      obtain ⟨k0, k1, k2, k3, k4, kl⟩ := ctO_cells hD.box
      generalize (lefts x cs i).cell.length = l0 at *
      generalize (lefts x cs i).stack.length = l1 at *
      generalize (lefts x cs i).queue.length = l2 at *
      generalize (lefts x cs i).set.length = l3 at *
      generalize (lefts x cs i).table.length = l4 at *
      replace hD := Mr.hid hD
      replace CA := Mr.hid CA
      replace hyy := Mr.hid hyy
      replace hci := Mr.hid hci
      replace hok := Mr.hid hok
      have hlI : (i : Int) < (n : Int) := by omega
      go_upto_region 5 with (fail)
      have MT := fun (b7 : Nat) v0 v1 v2 v3 v4 (wx : World) (h1 : Below wr.heap.size wr wx) (h2 : wx.heap[b7]? = some (ctO v0 v1 v2 v3 v4)) (h3 : CtAt wx (fun k => W.heap.size + 2 ≤ k) v0 v1 v2 v3 v4 yy.1) => (⟨hD.out.below h1, h2, h3⟩ : Dp W wx (.slice z0 l0 m0) (.slice z1 l1 m1) (.slice z2 l2 m2) (.slice z3 l3 m3) (.slice z4 l4 m4) (lefts x cs i) ∧ wx.heap[b7]? = some (ctO v0 v1 v2 v3 v4) ∧ CtAt wx (fun k => W.heap.size + 2 ≤ k) v0 v1 v2 v3 v4 yy.1)
      have hw2 : W.heap.size + 2 ≤ wr.heap.size := by have := (Array.getElem?_eq_some_iff.1 hD.out.res).1; omega
      replace MT := Mr.hid MT
      go_cut [7, 8] from 17 to 30 (fun s7 s8 wx => ∃ (b7 : Nat) (v0 v1 v2 v3 v4 : Value), s7 = .pointer (some ⟨b7, 0, none⟩) ∧ s8 = .bool yy.2 ∧ Dp W wx (.slice z0 l0 m0) (.slice z1 l1 m1) (.slice z2 l2 m2) (.slice z3 l3 m3) (.slice z4 l4 m4) (lefts x cs i) ∧ wx.heap[b7]? = some (ctO v0 v1 v2 v3 v4) ∧ CtAt wx (fun k => W.heap.size + 2 ≤ k) v0 v1 v2 v3 v4 yy.1)
      case first =>
        go_region_held3 (fun w' => w'.cell? ⟨W.heap.size, 0, none⟩ = some (.slice z0 l0 m0) ∧ w'.cell? ⟨W.heap.size, 1, none⟩ = some (.slice z1 l1 m1) ∧ w'.cell? ⟨W.heap.size, 2, none⟩ = some (.slice z2 l2 m2) ∧ w'.cell? ⟨W.heap.size, 3, none⟩ = some (.slice z3 l3 m3) ∧ w'.cell? ⟨W.heap.size, 4, none⟩ = some (.slice z4 l4 m4) ∧ w'.cell? ⟨bc, oc + i * 9, none⟩ = some (.int .i64 c.th) ∧ w'.cell? ⟨bc, oc + i * 9 + 1, none⟩ = some (.int .i64 c.op) ∧ w'.cell? ⟨bc, oc + i * 9 + 2, none⟩ = some (.int .i64 c.arg) ∧ w'.cell? ⟨bc, oc + i * 9 + 3, none⟩ = some (.int .i64 c.data) ∧ w'.cell? ⟨bc, oc + i * 9 + 4, none⟩ = some (.int .i64 c.beg) ∧ w'.cell? ⟨bc, oc + i * 9 + 5, none⟩ = some (.int .i64 c.fin) ∧ w'.cell? ⟨bc, oc + i * 9 + 6, none⟩ = some (.int .i64 c.pt) ∧ w'.cell? ⟨bc, oc + i * 9 + 7, none⟩ = some (.int .i64 c.ak) ∧ w'.cell? ⟨bc, oc + i * 9 + 8, none⟩ = some (.int .i64 c.av)) (first | with_reducible exact K5.out | go_keep) (first | (go_at_call 32; refine (CA.out _ (Below.refl _ _).drew).mono ?_; rintro e w4 ⟨v0, v1, v2, v3, v4, rfl, hat4, hB4⟩; have B4 : Below wr.heap.size wr w4 := (((Below.refl _ _).drew).trans hB4); clear hB4 CA; obtain ⟨x0, j0, rfl, _⟩ := hat4.cell.form; obtain ⟨x1, j1, rfl, _⟩ := hat4.stack.form; obtain ⟨x2, j2, rfl, _⟩ := hat4.queue.form; obtain ⟨x3, j3, rfl, _⟩ := hat4.set.form; obtain ⟨x4, j4, rfl, _⟩ := hat4.table.form; have hD4 := hD.out.below B4; obtain ⟨k0, k1, k2, k3, k4, kl4⟩ := ctO_cells hD4.box; have g0 := (B4.cell (p := ⟨bc, oc + i * 9, none⟩) hcl).trans g0; have g1 := (B4.cell (p := ⟨bc, oc + i * 9 + 1, none⟩) hcl).trans g1; have g2 := (B4.cell (p := ⟨bc, oc + i * 9 + 2, none⟩) hcl).trans g2; have g3 := (B4.cell (p := ⟨bc, oc + i * 9 + 3, none⟩) hcl).trans g3; have g4 := (B4.cell (p := ⟨bc, oc + i * 9 + 4, none⟩) hcl).trans g4; have g5 := (B4.cell (p := ⟨bc, oc + i * 9 + 5, none⟩) hcl).trans g5; have g6 := (B4.cell (p := ⟨bc, oc + i * 9 + 6, none⟩) hcl).trans g6; have g7 := (B4.cell (p := ⟨bc, oc + i * 9 + 7, none⟩) hcl).trans g7; have g8 := (B4.cell (p := ⟨bc, oc + i * 9 + 8, none⟩) hcl).trans g8;  have hcl4 : bc < w4.heap.size := Nat.lt_of_lt_of_le hcl B4.size; clear hD4; have E5 := MT.out w4.heap.size _ _ _ _ _ (w4.alloc (ctO (.slice x0 yy.1.cell.length j0) (.slice x1 yy.1.stack.length j1) (.slice x2 yy.1.queue.length j2) (.slice x3 yy.1.set.length j3) (.slice x4 yy.1.table.length j4))) (B4.alloc B4.size _) (new_at _ _ _ rfl) ((hat4.mono (fun k hk => Nat.le_trans hw2 hk)).below ((Below.refl _ _).alloc (Nat.le_refl _) _)); clear hat4; unfold ctO at E5; replace E5 := Mr.hid E5; replace B4 := Mr.hid B4) | (go_at_call 32; refine (CA.out _ ((Below.refl _ _).alloc (Nat.le_refl _) _).drew).mono ?_; rintro e w4 ⟨v0, v1, v2, v3, v4, rfl, hat4, hB4⟩; have B4 : Below wr.heap.size wr w4 := (((Below.refl _ _).alloc (Nat.le_refl _) _).drew.trans (hB4.mono (by simp))); have bx4 := (hB4.block wr.heap.size (by simp)).trans (new_at wr nil5 _ rfl); clear hB4 CA; obtain ⟨h0, h1, h2, h3, h4, hl4⟩ := ctO_cells bx4; obtain ⟨e0, e1, e2, e3, e4⟩ := ctO_thaw bx4; obtain ⟨x0, j0, rfl, _⟩ := hat4.cell.form; obtain ⟨x1, j1, rfl, _⟩ := hat4.stack.form; obtain ⟨x2, j2, rfl, _⟩ := hat4.queue.form; obtain ⟨x3, j3, rfl, _⟩ := hat4.set.form; obtain ⟨x4, j4, rfl, _⟩ := hat4.table.form; have hD4 := hD.out.below B4; obtain ⟨k0, k1, k2, k3, k4, kl4⟩ := ctO_cells hD4.box; have g0 := (B4.cell (p := ⟨bc, oc + i * 9, none⟩) hcl).trans g0; have g1 := (B4.cell (p := ⟨bc, oc + i * 9 + 1, none⟩) hcl).trans g1; have g2 := (B4.cell (p := ⟨bc, oc + i * 9 + 2, none⟩) hcl).trans g2; have g3 := (B4.cell (p := ⟨bc, oc + i * 9 + 3, none⟩) hcl).trans g3; have g4 := (B4.cell (p := ⟨bc, oc + i * 9 + 4, none⟩) hcl).trans g4; have g5 := (B4.cell (p := ⟨bc, oc + i * 9 + 5, none⟩) hcl).trans g5; have g6 := (B4.cell (p := ⟨bc, oc + i * 9 + 6, none⟩) hcl).trans g6; have g7 := (B4.cell (p := ⟨bc, oc + i * 9 + 7, none⟩) hcl).trans g7; have g8 := (B4.cell (p := ⟨bc, oc + i * 9 + 8, none⟩) hcl).trans g8;  have hcl4 : bc < w4.heap.size := Nat.lt_of_lt_of_le hcl B4.size; clear hD4; have E5 := MT.out wr.heap.size _ _ _ _ _ (set5 w4 wr.heap.size (.slice x0 yy.1.cell.length j0) (.slice x1 yy.1.stack.length j1) (.slice x2 yy.1.queue.length j2) (.slice x3 yy.1.set.length j3) (.slice x4 yy.1.table.length j4)) (set5_below _ _ _ _ _ B4 (Nat.le_refl _)) (set5_at _ _ _ _ _ bx4) ((hat4.mono (T' := fun k => wr.heap.size + 1 ≤ k) (fun k hk => by simpa using hk)).fr (set5_fr w4 wr.heap.size _ _ _ _ _) (fun k hk _ e => by subst e; omega) |>.mono (fun k hk => by omega)); have K5 := And.intro (far5 (b := wr.heap.size) (v0 := (.slice x0 yy.1.cell.length j0)) (v1 := (.slice x1 yy.1.stack.length j1)) (v2 := (.slice x2 yy.1.queue.length j2)) (v3 := (.slice x3 yy.1.set.length j3)) (v4 := (.slice x4 yy.1.table.length j4)) k0 (by omega)) (And.intro (far5 (b := wr.heap.size) (v0 := (.slice x0 yy.1.cell.length j0)) (v1 := (.slice x1 yy.1.stack.length j1)) (v2 := (.slice x2 yy.1.queue.length j2)) (v3 := (.slice x3 yy.1.set.length j3)) (v4 := (.slice x4 yy.1.table.length j4)) k1 (by omega)) (And.intro (far5 (b := wr.heap.size) (v0 := (.slice x0 yy.1.cell.length j0)) (v1 := (.slice x1 yy.1.stack.length j1)) (v2 := (.slice x2 yy.1.queue.length j2)) (v3 := (.slice x3 yy.1.set.length j3)) (v4 := (.slice x4 yy.1.table.length j4)) k2 (by omega)) (And.intro (far5 (b := wr.heap.size) (v0 := (.slice x0 yy.1.cell.length j0)) (v1 := (.slice x1 yy.1.stack.length j1)) (v2 := (.slice x2 yy.1.queue.length j2)) (v3 := (.slice x3 yy.1.set.length j3)) (v4 := (.slice x4 yy.1.table.length j4)) k3 (by omega)) (And.intro (far5 (b := wr.heap.size) (v0 := (.slice x0 yy.1.cell.length j0)) (v1 := (.slice x1 yy.1.stack.length j1)) (v2 := (.slice x2 yy.1.queue.length j2)) (v3 := (.slice x3 yy.1.set.length j3)) (v4 := (.slice x4 yy.1.table.length j4)) k4 (by omega)) (And.intro (far5 (b := wr.heap.size) (v0 := (.slice x0 yy.1.cell.length j0)) (v1 := (.slice x1 yy.1.stack.length j1)) (v2 := (.slice x2 yy.1.queue.length j2)) (v3 := (.slice x3 yy.1.set.length j3)) (v4 := (.slice x4 yy.1.table.length j4)) g0 (by omega)) (And.intro (far5 (b := wr.heap.size) (v0 := (.slice x0 yy.1.cell.length j0)) (v1 := (.slice x1 yy.1.stack.length j1)) (v2 := (.slice x2 yy.1.queue.length j2)) (v3 := (.slice x3 yy.1.set.length j3)) (v4 := (.slice x4 yy.1.table.length j4)) g1 (by omega)) (And.intro (far5 (b := wr.heap.size) (v0 := (.slice x0 yy.1.cell.length j0)) (v1 := (.slice x1 yy.1.stack.length j1)) (v2 := (.slice x2 yy.1.queue.length j2)) (v3 := (.slice x3 yy.1.set.length j3)) (v4 := (.slice x4 yy.1.table.length j4)) g2 (by omega)) (And.intro (far5 (b := wr.heap.size) (v0 := (.slice x0 yy.1.cell.length j0)) (v1 := (.slice x1 yy.1.stack.length j1)) (v2 := (.slice x2 yy.1.queue.length j2)) (v3 := (.slice x3 yy.1.set.length j3)) (v4 := (.slice x4 yy.1.table.length j4)) g3 (by omega)) (And.intro (far5 (b := wr.heap.size) (v0 := (.slice x0 yy.1.cell.length j0)) (v1 := (.slice x1 yy.1.stack.length j1)) (v2 := (.slice x2 yy.1.queue.length j2)) (v3 := (.slice x3 yy.1.set.length j3)) (v4 := (.slice x4 yy.1.table.length j4)) g4 (by omega)) (And.intro (far5 (b := wr.heap.size) (v0 := (.slice x0 yy.1.cell.length j0)) (v1 := (.slice x1 yy.1.stack.length j1)) (v2 := (.slice x2 yy.1.queue.length j2)) (v3 := (.slice x3 yy.1.set.length j3)) (v4 := (.slice x4 yy.1.table.length j4)) g5 (by omega)) (And.intro (far5 (b := wr.heap.size) (v0 := (.slice x0 yy.1.cell.length j0)) (v1 := (.slice x1 yy.1.stack.length j1)) (v2 := (.slice x2 yy.1.queue.length j2)) (v3 := (.slice x3 yy.1.set.length j3)) (v4 := (.slice x4 yy.1.table.length j4)) g6 (by omega)) (And.intro (far5 (b := wr.heap.size) (v0 := (.slice x0 yy.1.cell.length j0)) (v1 := (.slice x1 yy.1.stack.length j1)) (v2 := (.slice x2 yy.1.queue.length j2)) (v3 := (.slice x3 yy.1.set.length j3)) (v4 := (.slice x4 yy.1.table.length j4)) g7 (by omega)) (far5 (b := wr.heap.size) (v0 := (.slice x0 yy.1.cell.length j0)) (v1 := (.slice x1 yy.1.stack.length j1)) (v2 := (.slice x2 yy.1.queue.length j2)) (v3 := (.slice x3 yy.1.set.length j3)) (v4 := (.slice x4 yy.1.table.length j4)) g8 (by omega)))))))))))))); unfold set5 at K5; replace K5 := Mr.hid K5; clear hat4 bx4; unfold set5 ctO at E5; replace E5 := Mr.hid E5; replace B4 := Mr.hid B4))
        all_goals
          go_wp2
          go_meet
          case rel => exact ⟨_, _, _, _, _, _, rfl, rfl, E5.out⟩
      case rest =>
        obtain ⟨b7, v0, v1, v2, v3, v4, rfl, rfl, hD5, hb7, hat5⟩ := hcut
        clear MT CA hD k0 k1 k2 k3 k4 g0 g1 g2 g3 g4 g5 g6 g7 g8
        obtain ⟨k0, k1, k2, k3, k4, kl5⟩ := ctO_cells hD5.box
        cases hb : yy.2 with
        | false =>
          have hq : r = (lefts x cs i, (i : Int)) := by rw [hr.out]; exact plays_no hok.out hci.out (by rw [← hyy.out]; exact hb)
          obtain ⟨e1, e2, e3⟩ := end5a (v0 := (.slice z0 l0 m0)) (v1 := (.slice z1 l1 m1)) (v2 := (.slice z2 l2 m2)) (v3 := (.slice z3 l3 m3)) (v4 := (.slice z4 l4 m4)) hD5.bel (b := W.heap.size + 1) (by omega) hD5.res hD5.at_ (fun k hk => by omega)
          obtain ⟨r0, r1, r2, r3, r4, rl⟩ := ctO_cells hD5.res
          obtain ⟨f0, f1, f2, f3, f4⟩ := ctO_thaw hD5.res
          obtain ⟨d0, d1, d2, d3, d4, -⟩ := ctO_cells e3
          unfold set5 at e1 e2 d0 d1 d2 d3 d4
          replace e1 := Mr.hid e1
          replace e2 := Mr.hid e2
          replace hq := Mr.hid hq
          replace hD5 := Mr.hid hD5
          clear e3 hb7 hat5 hb
          replace d0 := Mr.hid d0
          replace d1 := Mr.hid d1
          replace d2 := Mr.hid d2
          replace d3 := Mr.hid d3
          replace d4 := Mr.hid d4
          go_wp2
          replace d0 := d0.out
          replace d1 := d1.out
          replace d2 := d2.out
          replace d3 := d3.out
          replace d4 := d4.out
          refine bodyPost_ret (v := .tuple #[.agg #[.slice z0 l0 m0, .slice z1 l1 m1, .slice z2 l2 m2, .slice z3 l3 m3, .slice z4 l4 m4], .int .i64 (i : Int)]) (by simp [results, Try.results20, go_sem, d0, d1, d2, d3, d4]) rfl ?_
          exact ⟨_, _, _, _, _, by rw [hq.out], by rw [hq.out]; exact e1.out, e2.out⟩
        | true =>
          have hN := hD5.next hat5
          obtain ⟨x0, j0, rfl, _⟩ := hat5.cell.form
          obtain ⟨x1, j1, rfl, _⟩ := hat5.stack.form
          obtain ⟨x2, j2, rfl, _⟩ := hat5.queue.form
          obtain ⟨x3, j3, rfl, _⟩ := hat5.set.form
          obtain ⟨x4, j4, rfl, _⟩ := hat5.table.form
          obtain ⟨y0, y1, y2, y3, y4, yl⟩ := ctO_cells hb7
          obtain ⟨f0, f1, f2, f3, f4⟩ := ctO_thaw hD5.box
          have hok2 := Mr.hid (hok.out.succ hci.out (by rw [← hyy.out]; exact hb))
          have hle : lefts x cs (i + 1) = yy.1 := by rw [lefts_succ x cs i c hci.out, hyy.out]
          rw [← hle] at hN
          unfold set5 at hN
          replace hN := Mr.hid hN
          replace hle := Mr.hid hle
          replace hD5 := Mr.hid hD5
          clear hat5 hb7 hb
          go_wp2
          go_roundg (gk - 1)
          case measure => omega
          case rel => exact ⟨i + 1, by simp, by omega, hok2.out, _, _, _, _, _, by first | exact hN.out | (rw [← hle.out]; exact hN.out) | (rw [hle.out] at hN; exact hN.out)⟩
    · have hin' : i = n := by omega
      have hq : r = (lefts x cs i, -1) := by rw [hr.out, hin', hn.out]; exact plays_end (by have h := hok; rw [hin', hn.out] at h; exact h)
      obtain ⟨z0, m0, rfl, _⟩ := hD.at_.cell.form
      obtain ⟨z1, m1, rfl, _⟩ := hD.at_.stack.form
      obtain ⟨z2, m2, rfl, _⟩ := hD.at_.queue.form
      obtain ⟨z3, m3, rfl, _⟩ := hD.at_.set.form
      obtain ⟨z4, m4, rfl, _⟩ := hD.at_.table.form
      generalize (lefts x cs i).cell.length = l0 at *
      generalize (lefts x cs i).stack.length = l1 at *
      generalize (lefts x cs i).queue.length = l2 at *
      generalize (lefts x cs i).set.length = l3 at *
      generalize (lefts x cs i).table.length = l4 at *
      obtain ⟨k0, k1, k2, k3, k4, kl⟩ := ctO_cells hD.box
      obtain ⟨e1, e2, e3⟩ := end5a (v0 := (.slice z0 l0 m0)) (v1 := (.slice z1 l1 m1)) (v2 := (.slice z2 l2 m2)) (v3 := (.slice z3 l3 m3)) (v4 := (.slice z4 l4 m4)) hD.bel (b := W.heap.size + 1) (by omega) hD.res hD.at_ (fun k hk => by omega)
      obtain ⟨r0, r1, r2, r3, r4, rl⟩ := ctO_cells hD.res
      obtain ⟨f0, f1, f2, f3, f4⟩ := ctO_thaw hD.res
      obtain ⟨d0, d1, d2, d3, d4, -⟩ := ctO_cells e3
      unfold set5 at e1 e2 d0 d1 d2 d3 d4
      replace e1 := Mr.hid e1
      replace e2 := Mr.hid e2
      replace hq := Mr.hid hq
      replace hok := Mr.hid hok
      replace hD := Mr.hid hD
      clear e3 hin'
      replace d0 := Mr.hid d0
      replace d1 := Mr.hid d1
      replace d2 := Mr.hid d2
      replace d3 := Mr.hid d3
      replace d4 := Mr.hid d4
      have hge : decide ((i : Int) < (n : Int)) = false := decide_eq_false (by omega)
      go_wp2
      replace d0 := d0.out
      replace d1 := d1.out
      replace d2 := d2.out
      replace d3 := d3.out
      replace d4 := d4.out
      refine bodyPost_ret (v := .tuple #[.agg #[.slice z0 l0 m0, .slice z1 l1 m1, .slice z2 l2 m2, .slice z3 l3 m3, .slice z4 l4 m4], .int .i64 (-1)]) (by simp [results, Try.results20, go_sem, d0, d1, d2, d3, d4]) rfl ?_
      exact ⟨_, _, _, _, _, by rw [hq.out], by rw [hq.out]; exact e1.out, e2.out⟩
end Go.Proofs.Ytegbcocbopgghac.Md
