/-
  DEQUE: opening a run (api.Run) that came in: its calls, its accesses, its shifts, its words.
-/
import Derived.Test.YtaojggnflblgnaaHdLaw
import Derived.ProofKit
import Derived.OpenShut
import Derived.Deep.Slices
import Derived.SizedLaws
import Derived.ChangeSame
namespace Go.Proofs.Ytaojggnflblgnaa.Dq
open Go.ChangeShapes Go.WideShapes Go.ChangeAt Go.RowKit Go.Deep Mr
set_option linter.unusedVariables false
theorem ci : Try.prog.cellsOf 3 = 1 := by kernel_rfl
theorem cw : Try.prog.cellsOf 72 = 1 := by kernel_rfl
theorem byw : Try.prog.bytesOf 72 = 8 := by kernel_rfl
section
variable {H : Type} {enc : TypeId × Value → H} {w : World} {base : Nat} {spare : Nat → Bool} {held : Bool}
theorem at_of {cs : List Value} {t : Nat} {v : Value} (h : (cs.drop t).take 1 = [v]) : cs[t]? = some v := by
  have : ((cs.drop t).take 1)[0]? = some v := by rw [h]; rfl
  rw [List.getElem?_take] at this
  simpa using this
theorem fldI {n : Nat} {ty : TypeId} {fs : Array Field} {cs : List Value} {x : DataW H × List MemPlace} (hs : Try.prog.underlying ty = some (.struct fs)) (h : DataW.trod enc Try.prog w base spare held n ty cs = some x) (t : Nat) (f : Field) (hf : fs[t]? = some f) (ho : f.offset = t) (hc : Try.prog.cellsOf f.type = 1) (hk : Try.prog.underlying f.type = some (.int .i64)) : ∃ z, cs[t]? = some (Value.int .i64 z) := by
  obtain ⟨xs, m, _, _, hl, hxl, hx⟩ := DataW.trod_struct hs h
  have q := hx t f hf
  rw [ho, hc] at q
  have ht : t < fs.size := (Array.getElem?_eq_some_iff.1 hf).1
  rw [List.getElem?_eq_getElem (by omega)] at q
  obtain ⟨z, hz, _, _⟩ := DataW.trod_int hk q
  exact ⟨z, at_of hz⟩
set_option maxRecDepth 100000 in
theorem open_deq {r : Reach} {b0 : Nat} {v : Value} {d : DataW H} {p : List MemPlace} (hv : Value.okWide Try.prog w r b0 23 v) (h : DataW.Trod enc Try.prog w base spare held 23 v d p) : ∃ th rm : Int, v = dV th rm := by
  obtain ⟨cs, rfl, hcs⟩ := okWide_struct Try.underlying23 hv
  obtain ⟨fuel, hf⟩ := h
  obtain ⟨z0, e0⟩ := fldI Try.underlying23 hf 0 _ rfl rfl ci Try.underlying3
  obtain ⟨z1, e1⟩ := fldI Try.underlying23 hf 1 _ rfl rfl ci Try.underlying3
  have h9 : (Value.agg cs).cells.toList = cs.toList := rfl
  rw [h9] at e0 e1
  have hl2 : cs.toList.length = 2 := by
    have h8 : Try.prog.cellsOf 23 = 2 := by kernel_rfl
    rw [h8] at hcs
    simpa using hcs
  refine ⟨z0, z1, ?_⟩
  have hc2 : cs = #[.int .i64 z0, .int .i64 z1] := by
    apply Array.ext'
    apply List.ext_getElem?
    intro i
    match i with
    | 0 => exact e0
    | 1 => exact e1
    | i + 2 => rw [List.getElem?_eq_none (by omega)]; rfl
  rw [hc2]; rfl
theorem spn {a : Addr} {i : Nat} {v : Value} (h : w.cell? (a.add i) = some v) : a.spot = none ∨ i ≠ 0 := by
  by_cases e : i = 0
  · subst e
    have := World.cell?_spot h
    left
    simpa [Addr.add] using this
  · exact .inr e
theorem ad0 (a : Addr) (i : Nat) (v : Value) (ha : a.spot = none) (h : w.cell? (a.add i) = some v) : w.cell? ⟨a.block, a.off + i, none⟩ = some v := by
  obtain ⟨b, o, s⟩ := a
  simp at ha
  subst ha
  rw [add1] at h
  exact h
theorem some_of {a : Addr} (h : a.spot = none) : (some a : Option Addr) = some ⟨a.block, a.off, none⟩ := by
  obtain ⟨b, o, s⟩ := a
  simp at h
  subst h
  rfl
theorem fldK {n : Nat} {ty : TypeId} {fs : Array Field} {cs : List Value} {x : DataW H × List MemPlace} (hs : Try.prog.underlying ty = some (.struct fs)) (h : DataW.trod enc Try.prog w base spare held n ty cs = some x) (t : Nat) (f : Field) (k : IntKind) (hf : fs[t]? = some f) (ho : f.offset = t) (hc : Try.prog.cellsOf f.type = 1) (hk : Try.prog.underlying f.type = some (.int k)) : ∃ z, cs[t]? = some (Value.int k z) := by
  obtain ⟨xs, m, _, _, hl, hxl, hx⟩ := DataW.trod_struct hs h
  have q := hx t f hf
  rw [ho, hc] at q
  have ht : t < fs.size := (Array.getElem?_eq_some_iff.1 hf).1
  rw [List.getElem?_eq_getElem (by omega)] at q
  obtain ⟨z, hz, _, _⟩ := DataW.trod_int hk q
  exact ⟨z, at_of hz⟩
theorem add_at (a : Addr) (i t : Nat) (hs : a.spot = none) : (a.add i).add t = ⟨a.block, a.off + i + t, none⟩ := by
  obtain ⟨b, o, s⟩ := a
  simp at hs
  subst hs
  rw [add1, add1]
/-- A row of structs of one-cell values. -/
theorem rows_of {size : Nat} (hsz : 0 < size) {ad : Addr} {n cap : Nat} (hcap : n ≤ cap) (each : ∀ i, i < n → ∃ l : List Value, l.length = size ∧ (∀ u ∈ l, u.oneCell' = true) ∧ ∀ t, t < size → w.cell? ((ad.add (i * size)).add t) = l[t]?) :
    ∃ l : List {l : List Value // l.length = size ∧ ∀ u ∈ l, u.oneCell' = true}, l.length = n ∧ Md.Sl w (fun _ => True) size (.slice (some ad) n cap) n (l.flatMap Subtype.val) ∧ ∀ (i : Nat) (x : _), l[i]? = some x → ∀ t, t < size → w.cell? ((ad.add (i * size)).add t) = x.1[t]? := by
  classical
  obtain ⟨f, hf⟩ := Classical.axiomOfChoice (fun i => (if h : i < n then (by obtain ⟨o, h1, h2, h3⟩ := each i h; exact ⟨⟨o, h1, h2⟩, fun _ => h3⟩) else ⟨⟨List.replicate size (.int .i64 0), by simp, fun u hu => by rw [List.mem_replicate] at hu; rw [hu.2]; rfl⟩, fun h' => absurd h' h⟩ : ∃ o : {l : List Value // l.length = size ∧ ∀ u ∈ l, u.oneCell' = true}, i < n → ∀ t, t < size → w.cell? ((ad.add (i * size)).add t) = o.1[t]?))
  have hlen : ((List.range n).map f).length = n := by simp
  have hcell : ∀ (i : Nat) (x : _), ((List.range n).map f)[i]? = some x → ∀ t, t < size → w.cell? ((ad.add (i * size)).add t) = x.1[t]? := fun i x hx t ht => by
    have hi : i < n := by have := (List.getElem?_eq_some_iff.1 hx).1; omega
    simp [hi] at hx
    subst hx
    exact hf i hi t ht
  have fl : ∀ (l : List {l : List Value // l.length = size ∧ ∀ u ∈ l, u.oneCell' = true}), (l.flatMap Subtype.val).length = l.length * size := fun l => by
    induction l with
    | nil => simp
    | cons x l ih => rw [List.flatMap_cons, List.length_append, ih, x.2.1, List.length_cons, Nat.add_mul]; omega
  have fg : ∀ (l : List {l : List Value // l.length = size ∧ ∀ u ∈ l, u.oneCell' = true}) (i : Nat) (x : _), l[i]? = some x → ∀ t, t < size → (l.flatMap Subtype.val)[i * size + t]? = x.1[t]? := fun l => by
    induction l with
    | nil => intro i x h; simp at h
    | cons y l ih =>
      intro i x h t ht
      cases i with
      | zero =>
        simp at h; subst h
        rw [List.flatMap_cons, List.getElem?_append_left (by rw [y.2.1]; omega)]
        simp
      | succ i =>
        have := ih i x (by simpa using h) t ht
        rw [List.flatMap_cons, List.getElem?_append_right (by rw [y.2.1, Nat.add_mul]; omega), ← this]
        congr 1
        rw [y.2.1, Nat.add_mul]; omega
  refine ⟨(List.range n).map f, hlen, ⟨by rw [fl, hlen], some ad, cap, rfl, hcap, ?_⟩, hcell⟩
  by_cases hn : n = 0
  · exact .inl hn
  · have h0 : ((List.range n).map f)[0]? = some (f 0) := by rw [List.getElem?_map, List.getElem?_range (by omega)]; rfl
    have c0 := hcell 0 _ h0 0 hsz
    rw [Nat.zero_mul] at c0
    have hr0 : (f 0).1[0]? = some ((f 0).1[0]'(by rw [(f 0).2.1]; exact hsz)) := List.getElem?_eq_getElem _
    rw [hr0] at c0
    have e00 : (ad.add 0).add 0 = ad.add 0 := by unfold Addr.add; split <;> simp_all
    rw [e00] at c0
    have hsp : ad.spot = none := (spn c0).resolve_right (by simp)
    refine .inr ⟨ad.block, ad.off, some_of hsp, trivial, World.block_lt_of_cell? w ⟨ad.block, ad.off + 0, none⟩ (ad0 ad 0 _ hsp c0), fun j u hu => ?_⟩
    have hj : j < n * size := by
      have := (List.getElem?_eq_some_iff.1 hu).1
      rw [fl, hlen] at this; exact this
    have hi : j / size < n := by rw [Nat.div_lt_iff_lt_mul hsz]; exact hj
    have ht : j % size < size := Nat.mod_lt _ hsz
    have hx : ((List.range n).map f)[j / size]? = some (f (j / size)) := by simp [hi]
    have g := fg _ _ _ hx _ ht
    have c := hcell _ _ hx _ ht
    have ej : j / size * size + j % size = j := by rw [Nat.mul_comm]; exact Nat.div_add_mod j size
    rw [ej, hu] at g
    rw [add_at _ _ _ hsp, Nat.add_assoc, ej] at c
    rw [c, ← g]
def SzD (x : DataW H) (n : Nat) : Prop := n = 0 ∨ ∃ es rs, x = .slice es rs ∧ n = es.length
theorem sz_of {x : DataW H} {t e : TypeId} {n b : Nat} (h : SzD x n) (ht : Try.prog.underlying t = some (.slice e)) (hb : Try.prog.bytesOf e = b) (hw : ∀ k ∈ x.weights Try.prog t, k ≤ reachBytes) : n * b ≤ 140737488351232 := by
  rcases h with rfl | ⟨es, rs, rfl, rfl⟩
  · omega
  · have h1 := hw ((es.length + rs.length) * Try.prog.bytesOf e) (by unfold DataW.weights; rw [ht]; simp)
    have e1 : reachBytes = 140737488351232 := by decide
    rw [hb, e1, Nat.add_mul] at h1
    omega
theorem ca : Try.prog.cellsOf 117 = 7 := by kernel_rfl
theorem csh : Try.prog.cellsOf 120 = 5 := by kernel_rfl
theorem ccq : Try.prog.cellsOf 52 = 9 := by kernel_rfl
theorem can : Try.prog.cellsOf 50 = 2 := by kernel_rfl
theorem cop : Try.prog.cellsOf 47 = 1 := by kernel_rfl
theorem cak : Try.prog.cellsOf 48 = 1 := by kernel_rfl
theorem cac : Try.prog.cellsOf 115 = 1 := by kernel_rfl
theorem cst : Try.prog.cellsOf 118 = 1 := by kernel_rfl
theorem cl0 : Try.prog.cellsOf 24 = 1 := by kernel_rfl
theorem cl1 : Try.prog.cellsOf 25 = 1 := by kernel_rfl
theorem cl2 : Try.prog.cellsOf 26 = 1 := by kernel_rfl
theorem cl3 : Try.prog.cellsOf 27 = 1 := by kernel_rfl
theorem by0 : Try.prog.bytesOf 52 = 72 := by kernel_rfl
theorem by1 : Try.prog.bytesOf 117 = 56 := by kernel_rfl
theorem by2 : Try.prog.bytesOf 120 = 40 := by kernel_rfl
theorem list_eq {cs : List Value} {m : Nat} (h : cs.length = m) (l : List Value) (hl : l.length = m) (he : ∀ t, t < m → cs[t]? = l[t]?) : cs = l := by
  apply List.ext_getElem?
  intro i
  by_cases hi : i < m
  · exact he i hi
  · rw [List.getElem?_eq_none (by omega), List.getElem?_eq_none (by omega)]
set_option maxRecDepth 100000 in
theorem open_acs {fuel : Nat} {cs : List Value} {x : DataW H × List MemPlace} (hf : DataW.trod enc Try.prog w base spare held fuel 25 cs = some x) : ∃ a n cap xs, cs = [.slice a n cap] ∧ Hd.Sr w 7 a n xs ∧ SzD x.1 n := by
  rcases open_slice Try.underlying25 hf with ⟨hc, hx⟩ | ⟨ad, n, cap, m, k, D, Pl, hc, _, hl, _, hm, hx, hel⟩
  · exact ⟨none, 0, 0, [], hc, Hd.Sr.of_sl (Md.Sl.nil w (fun _ => True) 7) (by simp), .inl rfl⟩
  · have hle : n ≤ m := by rw [hm]; split <;> omega
    obtain ⟨l, hln, hsl, _⟩ := rows_of (w := w) (size := 7) (by omega) (ad := ad) hl (fun i hi => by
      obtain ⟨cs', h1, h2⟩ := hel i (by omega)
      rw [ca] at h1
      obtain ⟨_, hcl, hce⟩ := World.cells?_some h1
      obtain ⟨z0, e0⟩ := fldK Try.underlying117 h2 0 _ .i64 rfl rfl ci Try.underlying3
      obtain ⟨z1, e1⟩ := fldK Try.underlying117 h2 1 _ .i64 rfl rfl ci Try.underlying3
      obtain ⟨z2, e2⟩ := fldK Try.underlying117 h2 2 _ .i64 rfl rfl cac Try.underlying115
      obtain ⟨z3, e3⟩ := fldK Try.underlying117 h2 3 _ .i64 rfl rfl ci Try.underlying3
      obtain ⟨z4, e4⟩ := fldK Try.underlying117 h2 4 _ .u64 rfl rfl cw Try.underlying72
      obtain ⟨z5, e5⟩ := fldK Try.underlying117 h2 5 _ .u64 rfl rfl cw Try.underlying72
      obtain ⟨z6, e6⟩ := fldK Try.underlying117 h2 6 _ .u64 rfl rfl cw Try.underlying72
      have hl7 : cs'.length = 7 := hcl
      have hcs := list_eq hl7 [.int .i64 z0, .int .i64 z1, .int .i64 z2, .int .i64 z3, .int .u64 z4, .int .u64 z5, .int .u64 z6] rfl (fun t ht => by
        match t, ht with
        | 0, _ => exact e0
        | 1, _ => exact e1
        | 2, _ => exact e2
        | 3, _ => exact e3
        | 4, _ => exact e4
        | 5, _ => exact e5
        | 6, _ => exact e6)
      refine ⟨cs', hl7, fun u hu => ?_, fun t ht => hce t (by omega)⟩
      rw [hcs] at hu
      simp at hu
      rcases hu with rfl | rfl | rfl | rfl | rfl | rfl | rfl <;> rfl)
    refine ⟨some ad, n, cap, _, hc, Hd.Sr.of_sl hsl (fun u hu => ?_), .inr ⟨_, _, by rw [hx], by simp⟩⟩
    obtain ⟨y, _, hy⟩ := List.mem_flatMap.1 hu
    exact y.2.2 u hy
set_option maxRecDepth 100000 in
theorem open_shs {fuel : Nat} {cs : List Value} {x : DataW H × List MemPlace} (hf : DataW.trod enc Try.prog w base spare held fuel 26 cs = some x) : ∃ a n cap xs, cs = [.slice a n cap] ∧ Hd.Sr w 5 a n xs ∧ SzD x.1 n := by
  rcases open_slice Try.underlying26 hf with ⟨hc, hx⟩ | ⟨ad, n, cap, m, k, D, Pl, hc, _, hl, _, hm, hx, hel⟩
  · exact ⟨none, 0, 0, [], hc, Hd.Sr.of_sl (Md.Sl.nil w (fun _ => True) 5) (by simp), .inl rfl⟩
  · have hle : n ≤ m := by rw [hm]; split <;> omega
    obtain ⟨l, hln, hsl, _⟩ := rows_of (w := w) (size := 5) (by omega) (ad := ad) hl (fun i hi => by
      obtain ⟨cs', h1, h2⟩ := hel i (by omega)
      rw [csh] at h1
      obtain ⟨_, hcl, hce⟩ := World.cells?_some h1
      obtain ⟨z0, e0⟩ := fldK Try.underlying120 h2 0 _ .i64 rfl rfl ci Try.underlying3
      obtain ⟨z1, e1⟩ := fldK Try.underlying120 h2 1 _ .i64 rfl rfl ci Try.underlying3
      obtain ⟨z2, e2⟩ := fldK Try.underlying120 h2 2 _ .i64 rfl rfl ci Try.underlying3
      obtain ⟨z3, e3⟩ := fldK Try.underlying120 h2 3 _ .i64 rfl rfl cst Try.underlying118
      obtain ⟨z4, e4⟩ := fldK Try.underlying120 h2 4 _ .i64 rfl rfl cst Try.underlying118
      have hl5 : cs'.length = 5 := hcl
      have hcs := list_eq hl5 [.int .i64 z0, .int .i64 z1, .int .i64 z2, .int .i64 z3, .int .i64 z4] rfl (fun t ht => by
        match t, ht with
        | 0, _ => exact e0
        | 1, _ => exact e1
        | 2, _ => exact e2
        | 3, _ => exact e3
        | 4, _ => exact e4)
      refine ⟨cs', hl5, fun u hu => ?_, fun t ht => hce t (by omega)⟩
      rw [hcs] at hu
      simp at hu
      rcases hu with rfl | rfl | rfl | rfl | rfl <;> rfl)
    refine ⟨some ad, n, cap, _, hc, Hd.Sr.of_sl hsl (fun u hu => ?_), .inr ⟨_, _, by rw [hx], by simp⟩⟩
    obtain ⟨y, _, hy⟩ := List.mem_flatMap.1 hu
    exact y.2.2 u hy
theorem trod_an {fuel : Nat} {cs : List Value} {x : DataW H × List MemPlace} (hf : DataW.trod enc Try.prog w base spare held fuel 50 cs = some x) : ∃ a b : Int, cs = [.int .i64 a, .int .i64 b] := by
  obtain ⟨xs, n, _, hxx, hl, hxl, hx⟩ := DataW.trod_struct Try.underlying50 hf
  rw [can] at hl
  obtain ⟨z0, e0⟩ := fldK Try.underlying50 hf 0 _ .i64 rfl rfl cak Try.underlying48
  obtain ⟨z1, e1⟩ := fldK Try.underlying50 hf 1 _ .i64 rfl rfl ci Try.underlying3
  exact ⟨z0, z1, list_eq hl [.int .i64 z0, .int .i64 z1] rfl (fun t ht => by
    match t, ht with
    | 0, _ => exact e0
    | 1, _ => exact e1)⟩
set_option maxRecDepth 100000 in
theorem trod_cq {fuel : Nat} {cs : List Value} {x : DataW H × List MemPlace} (hf : DataW.trod enc Try.prog w base spare held fuel 52 cs = some x) : ∃ c : Hd.Cq, cs = c.row := by
  obtain ⟨xs, n, _, hxx, hl, hxl, hx⟩ := DataW.trod_struct Try.underlying52 hf
  rw [ccq] at hl
  obtain ⟨z0, e0⟩ := fldK Try.underlying52 hf 0 _ .i64 rfl rfl ci Try.underlying3
  obtain ⟨z1, e1⟩ := fldK Try.underlying52 hf 1 _ .i64 rfl rfl cop Try.underlying47
  obtain ⟨z2, e2⟩ := fldK Try.underlying52 hf 2 _ .i64 rfl rfl ci Try.underlying3
  obtain ⟨z3, e3⟩ := fldK Try.underlying52 hf 3 _ .i64 rfl rfl ci Try.underlying3
  obtain ⟨z4, e4⟩ := fldK Try.underlying52 hf 4 _ .i64 rfl rfl ci Try.underlying3
  obtain ⟨z5, e5⟩ := fldK Try.underlying52 hf 5 _ .i64 rfl rfl ci Try.underlying3
  obtain ⟨z6, e6⟩ := fldK Try.underlying52 hf 6 _ .i64 rfl rfl ci Try.underlying3
  have q7 := hx 7 _ rfl
  have h8 : xs.length = 8 := by simpa using hxl
  rw [List.getElem?_eq_getElem (by omega)] at q7
  obtain ⟨z7, z8, e7⟩ := trod_an q7
  have f7 : cs.drop 7 = [.int .i64 z7, .int .i64 z8] := by
    have h9 : (cs.drop 7).take 2 = [.int .i64 z7, .int .i64 z8] := by simpa [can] using e7
    rw [List.take_of_length_le (by rw [List.length_drop]; omega)] at h9
    exact h9
  have g7 : cs[7]? = some (.int .i64 z7) := by have := congrArg (·[0]?) f7; simpa using this
  have g8 : cs[8]? = some (.int .i64 z8) := by have := congrArg (·[1]?) f7; simpa using this
  exact ⟨⟨z0, z1, z2, z3, z4, z5, z6, z7, z8⟩, list_eq hl _ rfl (fun t ht => by
    match t, ht with
    | 0, _ => exact e0
    | 1, _ => exact e1
    | 2, _ => exact e2
    | 3, _ => exact e3
    | 4, _ => exact e4
    | 5, _ => exact e5
    | 6, _ => exact e6
    | 7, _ => exact g7
    | 8, _ => exact g8)⟩
set_option maxRecDepth 100000 in
theorem open_cls {fuel : Nat} {cs : List Value} {x : DataW H × List MemPlace} (hf : DataW.trod enc Try.prog w base spare held fuel 24 cs = some x) : ∃ a cap l, cs = [.slice a l.length cap] ∧ Md.Sl w (fun _ => True) 9 (.slice a l.length cap) l.length (Hd.cqs l) ∧ SzD x.1 l.length := by
  rcases open_slice Try.underlying24 hf with ⟨hc, hx⟩ | ⟨ad, n, cap, m, k, D, Pl, hc, _, hl, _, hm, hx, hel⟩
  · exact ⟨none, 0, [], hc, Md.Sl.nil w (fun _ => True) 9, .inl rfl⟩
  · have hle : n ≤ m := by rw [hm]; split <;> omega
    have each : ∀ i, i < n → ∃ c : Hd.Cq, ∀ t, t < 9 → w.cell? ((ad.add (i * 9)).add t) = c.row[t]? := fun i hi => by
      obtain ⟨cs', h1, h2⟩ := hel i (by omega)
      rw [ccq] at h1
      obtain ⟨_, hcl, hce⟩ := World.cells?_some h1
      obtain ⟨c, hcc⟩ := trod_cq h2
      exact ⟨c, fun t ht => by rw [← hcc]; exact hce t (by omega)⟩
    obtain ⟨f, hf'⟩ := Classical.axiomOfChoice (fun i => (if h : i < n then (by obtain ⟨o, ho⟩ := each i h; exact ⟨o, fun _ => ho⟩) else ⟨default, fun h' => absurd h' h⟩ : ∃ o : Hd.Cq, i < n → ∀ t, t < 9 → w.cell? ((ad.add (i * 9)).add t) = (o.row)[t]?))
    have hlen : ((List.range n).map f).length = n := by simp
    refine ⟨some ad, cap, (List.range n).map f, by rw [hlen]; exact hc, ?_, .inr ⟨_, _, by rw [hx], by simp⟩⟩
    rw [hlen]
    refine ⟨by rw [Hd.cqs_length, hlen], some ad, cap, rfl, hl, ?_⟩
    by_cases hn : n = 0
    · exact .inl hn
    · have c0 := hf' 0 (by omega) 0 (by omega)
      rw [Nat.zero_mul] at c0
      have e00 : (ad.add 0).add 0 = ad.add 0 := by unfold Addr.add; split <;> simp_all
      rw [e00] at c0
      have c0' : w.cell? (ad.add 0) = some (.int .i64 (f 0).th) := c0
      have hsp : ad.spot = none := (spn c0').resolve_right (by simp)
      refine .inr ⟨ad.block, ad.off, some_of hsp, trivial, World.block_lt_of_cell? w ⟨ad.block, ad.off + 0, none⟩ (ad0 ad 0 _ hsp c0'), fun j u hu => ?_⟩
      have hj : j < n * 9 := by
        have := (List.getElem?_eq_some_iff.1 hu).1
        rw [Hd.cqs_length, hlen] at this; exact this
      have hi : j / 9 < n := by omega
      have g := Hd.cqs_get ((List.range n).map f) (j / 9) (f (j / 9)) (by simp [hi]) (j % 9) (by omega)
      have c := hf' (j / 9) hi (j % 9) (by omega)
      have ej : j / 9 * 9 + j % 9 = j := by omega
      rw [ej, hu] at g
      rw [add_at _ _ _ hsp, Nat.add_assoc, ej] at c
      rw [c, ← g]
theorem open_wd1 {fuel : Nat} {cs : List Value} {x : DataW H × List MemPlace} (hf : DataW.trod enc Try.prog w base spare held fuel 27 cs = some x) : ∃ a n cap xs, cs = [.slice a n cap] ∧ WdAt w a n xs ∧ SzD x.1 n := by
  rcases open_slice Try.underlying27 hf with ⟨hc, hx⟩ | ⟨ad, n, cap, m, k, D, Pl, hc, _, hl, _, hm, hx, hel⟩
  · exact ⟨none, 0, 0, [], hc, ⟨rfl, .inl rfl⟩, .inl rfl⟩
  · have hle : n ≤ m := by rw [hm]; split <;> omega
    have each : ∀ i, i < n → ∃ z : Int, w.cell? (ad.add i) = some (.int .u64 z) := fun i hi => by
      obtain ⟨cs', h1, h2⟩ := hel i (by omega)
      rw [cw, Nat.mul_one] at h1
      obtain ⟨_, hcl, hce⟩ := World.cells?_some h1
      obtain ⟨z, hz, _, _⟩ := DataW.trod_int Try.underlying72 h2
      have h9 := hce 0 (by omega)
      have e : (ad.add i).add 0 = ad.add i := by unfold Addr.add; split <;> simp_all
      rw [e, hz] at h9
      exact ⟨z, h9⟩
    obtain ⟨f, hf'⟩ := Classical.axiomOfChoice (fun i => (if h : i < n then (by obtain ⟨o, ho⟩ := each i h; exact ⟨o, fun _ => ho⟩) else ⟨0, fun h' => absurd h' h⟩ : ∃ o : Int, i < n → w.cell? (ad.add i) = some (.int .u64 o)))
    refine ⟨some ad, n, cap, (List.range n).map f, hc, ⟨by simp, ?_⟩, .inr ⟨_, _, by rw [hx], by simp⟩⟩
    by_cases hn : n = 0
    · exact .inl (by simp [hn])
    · have c0 := hf' 0 (by omega)
      have hsp : ad.spot = none := (spn c0).resolve_right (by simp)
      refine .inr ⟨ad.block, ad.off, some_of hsp, World.block_lt_of_cell? w ⟨ad.block, ad.off + 0, none⟩ (ad0 ad 0 _ hsp c0), fun j z hz => ?_⟩
      have hj : j < n := by have := (List.getElem?_eq_some_iff.1 hz).1; simpa using this
      simp [hj] at hz
      subst hz
      exact ad0 ad j _ hsp (hf' j hj)
set_option maxRecDepth 100000 in
theorem open_run {ts : List TypeId} {ds : List (DataW H)} {r : Reach} {b0 : Nat} {v : Value} {d : DataW H} {p : List MemPlace} (hv : Value.okWide Try.prog w r b0 29 v) (h : DataW.Trod enc Try.prog w base spare held 29 v d p) (hsz : (DataW.weightsEach Try.prog ts ds).all (· ≤ reachBytes) = true) (j : Nat) (ht : ts[j]? = some 29) (hd : ds[j]? = some d) :
    ∃ (a : Option Addr) (cap : Nat) (cs : List Hd.Cq) (a1 : Option Addr) (n1 c1 : Nat) (xs1 : List Value) (a2 : Option Addr) (n2 c2 : Nat) (xs2 : List Value) (a3 : Option Addr) (n3 c3 : Nat) (ws : List Int), v = Hd.rnV (.slice a cs.length cap) (.slice a1 n1 c1) (.slice a2 n2 c2) (.slice a3 n3 c3) ∧ Md.Sl w (fun _ => True) 9 (.slice a cs.length cap) cs.length (Hd.cqs cs) ∧ cs.length * 72 ≤ 140737488351232 ∧ Hd.Sr w 7 a1 n1 xs1 ∧ n1 * 56 ≤ 140737488351232 ∧ Hd.Sr w 5 a2 n2 xs2 ∧ n2 * 40 ≤ 140737488351232 ∧ WdAt w a3 n3 ws ∧ n3 * 8 ≤ 140737488351232 := by
  have hwt : ∀ k ∈ d.weights Try.prog 29, k ≤ reachBytes := fun k hk => by
    have := List.all_eq_true.1 hsz k (DataW.weights_mem_each ht hd k hk)
    simpa using this
  obtain ⟨cs, rfl, hcs⟩ := okWide_struct Try.underlying29 hv
  obtain ⟨fuel, hf⟩ := h
  obtain ⟨xs, m, _, hx, hl, hxl, hel⟩ := DataW.trod_struct Try.underlying29 hf
  have hxl4 : xs.length = 4 := hxl
  match xs, hxl4, hx, hel with
  | [y0, y1, y2, y3], _, hx, hel =>
  have q0 := hel 0 _ rfl
  have q1 := hel 1 _ rfl
  have q2 := hel 2 _ rfl
  have q3 := hel 3 _ rfl
  have hd2 : d = .agg [y0.1, y1.1, y2.1, y3.1] := congrArg Prod.fst hx
  subst hd2
  have hwk : ∀ (j : Nat) (t : TypeId) (y : DataW H), [24, 25, 26, 27][j]? = some t → [y0.1, y1.1, y2.1, y3.1][j]? = some y → ∀ k ∈ y.weights Try.prog t, k ≤ reachBytes := fun j t y h1 h2 k hk => hwt k (by
    unfold DataW.weights
    rw [Try.underlying29]
    exact DataW.weights_mem_each (ts := [24, 25, 26, 27]) (ds := [y0.1, y1.1, y2.1, y3.1]) (j := j) h1 h2 k hk)
  obtain ⟨a0, c0, l, e0, h0, s0⟩ := open_cls q0
  obtain ⟨a1, n1, c1, x1, e1, h1, s1⟩ := open_acs q1
  obtain ⟨a2, n2, c2, x2, e2, h2, s2⟩ := open_shs q2
  obtain ⟨a3, n3, c3, x3, e3, h3, s3⟩ := open_wd1 q3
  have h9 : (Value.agg cs).cells.toList = cs.toList := rfl
  rw [h9] at e0 e1 e2 e3
  have f0 : cs.toList[0]? = some (.slice a0 l.length c0) := at_of (t := 0) (by simpa [cl0] using e0)
  have f1 : cs.toList[1]? = some (.slice a1 n1 c1) := at_of (t := 1) (by simpa [cl1] using e1)
  have f2 : cs.toList[2]? = some (.slice a2 n2 c2) := at_of (t := 2) (by simpa [cl2] using e2)
  have f3 : cs.toList[3]? = some (.slice a3 n3 c3) := at_of (t := 3) (by simpa [cl3] using e3)
  have hl2 : cs.toList.length = 4 := by
    have h9 : Try.prog.cellsOf 29 = 4 := by kernel_rfl
    have h8 : (Value.agg cs).cells.toList.length = Try.prog.cellsOf 29 := hl
    rw [h9] at h8
    exact h8
  have hc2 : cs = #[.slice a0 l.length c0, .slice a1 n1 c1, .slice a2 n2 c2, .slice a3 n3 c3] := by
    apply Array.ext'
    exact list_eq hl2 _ rfl (fun t ht => by
      match t, ht with
      | 0, _ => exact f0
      | 1, _ => exact f1
      | 2, _ => exact f2
      | 3, _ => exact f3)
  subst hc2
  exact ⟨a0, c0, l, a1, n1, c1, x1, a2, n2, c2, x2, a3, n3, c3, x3, rfl, h0, sz_of s0 Try.underlying24 by0 (hwk 0 _ _ rfl rfl), h1, sz_of s1 Try.underlying25 by1 (hwk 1 _ _ rfl rfl), h2, sz_of s2 Try.underlying26 by2 (hwk 2 _ _ rfl rfl), h3, sz_of s3 Try.underlying27 byw (hwk 3 _ _ rfl rfl)⟩
end
end Go.Proofs.Ytaojggnflblgnaa.Dq
