import Derived.Test.YtfgnaffomglmdaaGreatJ02
import Derived.Test.YtfgnaffomglmdaaGreatJ09
/-
  OPENING calls (api.Call) and lists of them that came in, with their reach.
-/
namespace Go.Proofs.YtfgnaffomglmdaaGreat.Md
open Go.ChangeShapes Go.WideShapes Go.ChangeAt Go.RowKit Go.Deep
open Mr
set_option linter.unusedVariables false
set_option maxRecDepth 100000
theorem cells_opC : Tryz.prog.cellsOf 31 = 1 := by kernel_rfl
theorem cells_ak : Tryz.prog.cellsOf 32 = 1 := by kernel_rfl
theorem cells_an : Tryz.prog.cellsOf 34 = 2 := by kernel_rfl
theorem cells_cq : Tryz.prog.cellsOf 36 = 9 := by kernel_rfl
theorem cells_lc : Tryz.prog.cellsOf 22 = 1 := by kernel_rfl
theorem bytes_cq : Tryz.prog.bytesOf 36 = 72 := by kernel_rfl
theorem flat_get {α : Type} (row : α → List Value) (size : Nat) (hrow : ∀ a, (row a).length = size) (l : List α) (i : Nat) (a : α) (h : l[i]? = some a) (t : Nat) (ht : t < size) : (l.flatMap row)[i * size + t]? = (row a)[t]? := by
  induction l generalizing i with
  | nil => simp at h
  | cons x l ih =>
    cases i with
    | zero =>
      simp at h; subst h
      rw [List.flatMap_cons, List.getElem?_append_left (by rw [hrow]; omega)]
      simp
    | succ i =>
      have := ih i (by simpa using h)
      rw [List.flatMap_cons, List.getElem?_append_right (by rw [hrow, Nat.add_mul]; omega), ← this]
      congr 1
      rw [hrow, Nat.add_mul]; omega
theorem flat_len {α : Type} (row : α → List Value) (size : Nat) (hrow : ∀ a, (row a).length = size) (l : List α) : (l.flatMap row).length = l.length * size := by
  induction l with
  | nil => simp
  | cons x l ih => rw [List.flatMap_cons, List.length_append, ih, hrow, List.length_cons, Nat.add_mul]; omega
theorem sl_rows {α : Type} (d : α) (row : α → List Value) (size : Nat) (hsz : 0 < size) (hrow : ∀ a, (row a).length = size) {w : World} {ad : Addr} {n cap : Nat} (hcap : n ≤ cap) (each : ∀ i, i < n → ∃ a : α, ∀ t, t < size → w.cell? ((ad.add (i * size)).add t) = (row a)[t]?) :
    ∃ l : List α, Sl w (fun _ => True) size (.slice (some ad) l.length cap) l.length (l.flatMap row) ∧ l.length = n := by
  obtain ⟨f, hf⟩ := Classical.axiomOfChoice (fun i => (if h : i < n then (by obtain ⟨o, ho⟩ := each i h; exact ⟨o, fun _ => ho⟩) else ⟨d, fun h' => absurd h' h⟩ : ∃ o : α, i < n → ∀ t, t < size → w.cell? ((ad.add (i * size)).add t) = (row o)[t]?))
  have hlen : ((List.range n).map f).length = n := by simp
  refine ⟨(List.range n).map f, ⟨flat_len row size hrow _, some ad, cap, rfl, by omega, ?_⟩, hlen⟩
  by_cases hn : n = 0
  · exact .inl (by omega)
  · have c0 := hf 0 (by omega) 0 hsz
    have hr0 : (row (f 0))[0]? = some ((row (f 0))[0]'(by rw [hrow]; exact hsz)) := List.getElem?_eq_getElem _
    rw [hr0] at c0
    have hs : (ad.add (0 * size)).spot = none := spot0 c0
    obtain ⟨b, o, s⟩ := ad
    have hs' : s = none := by simpa [Addr.add] using hs
    subst hs'
    refine .inr ⟨b, o, rfl, trivial, ?_, fun j u hu => ?_⟩
    · have := World.block_lt_of_cell? w _ c0
      rwa [blk_add, blk_add] at this
    · have hj : j < n * size := by
        have := (List.getElem?_eq_some_iff.1 hu).1
        rw [flat_len row size hrow, hlen] at this; exact this
      have hi : j / size < n := by rw [Nat.div_lt_iff_lt_mul hsz]; exact hj
      have ht : j % size < size := Nat.mod_lt _ hsz
      have c := hf (j / size) hi (j % size) ht
      have g := flat_get row size hrow ((List.range n).map f) (j / size) (f (j / size)) (by simp [hi]) (j % size) ht
      have ej : j / size * size + j % size = j := by rw [Nat.mul_comm]; exact Nat.div_add_mod j size
      rw [ej, hu] at g
      rw [add1, add1, Nat.add_assoc, ej] at c
      rw [c, ← g]
section
variable {H : Type} {enc : TypeId × Value → H} {w : World} {base : Nat} {spare : Nat → Bool} {held : Bool}
theorem trod_an {fuel : Nat} {cs : List Value} {x : DataW H × List MemPlace} (hf : DataW.trod enc Tryz.prog w base spare held fuel 34 cs = some x) : ∃ a b : Int, cs = [.int .i64 a, .int .i64 b] := by
  obtain ⟨xs, n, _, hxx, hl, hxl, hx⟩ := DataW.trod_struct Tryz.underlying34 hf
  rw [cells_an] at hl
  match cs, hl with
  | [x0, x1], _ =>
    have q0 := hx 0 _ rfl
    have q1 := hx 1 _ rfl
    have hxs : xs.length = 2 := by simpa using hxl
    match xs, hxs with
    | [y0, y1], _ =>
      simp [cells_ak, cells_i64] at q0 q1
      obtain ⟨z0, e0, _⟩ := DataW.trod_int Tryz.underlying32 q0
      obtain ⟨z1, e1, _⟩ := DataW.trod_int Tryz.underlying3 q1
      simp at e0 e1
      subst e0; subst e1
      exact ⟨z0, z1, rfl⟩
theorem trod_cq {fuel : Nat} {cs : List Value} {x : DataW H × List MemPlace} (hf : DataW.trod enc Tryz.prog w base spare held fuel 36 cs = some x) : ∃ c : Cq, cs = c.row := by
  obtain ⟨xs, n, _, hxx, hl, hxl, hx⟩ := DataW.trod_struct Tryz.underlying36 hf
  rw [cells_cq] at hl
  match cs, hl with
  | [x0, x1, x2, x3, x4, x5, x6, x7, x8], _ =>
    have q0 := hx 0 _ rfl
    have q1 := hx 1 _ rfl
    have q2 := hx 2 _ rfl
    have q3 := hx 3 _ rfl
    have q4 := hx 4 _ rfl
    have q5 := hx 5 _ rfl
    have q6 := hx 6 _ rfl
    have q7 := hx 7 _ rfl
    have hxs : xs.length = 8 := by simpa using hxl
    match xs, hxs with
    | [y0, y1, y2, y3, y4, y5, y6, y7], _ =>
      simp [cells_opC, cells_i64, cells_an] at q0 q1 q2 q3 q4 q5 q6 q7
      obtain ⟨z0, e0, _⟩ := DataW.trod_int Tryz.underlying3 q0
      obtain ⟨z1, e1, _⟩ := DataW.trod_int Tryz.underlying31 q1
      obtain ⟨z2, e2, _⟩ := DataW.trod_int Tryz.underlying3 q2
      obtain ⟨z3, e3, _⟩ := DataW.trod_int Tryz.underlying3 q3
      obtain ⟨z4, e4, _⟩ := DataW.trod_int Tryz.underlying3 q4
      obtain ⟨z5, e5, _⟩ := DataW.trod_int Tryz.underlying3 q5
      obtain ⟨z6, e6, _⟩ := DataW.trod_int Tryz.underlying3 q6
      obtain ⟨z7, z8, e7⟩ := trod_an q7
      simp at e0 e1 e2 e3 e4 e5 e6 e7
      obtain ⟨e7, e8⟩ := e7
      subst e0; subst e1; subst e2; subst e3; subst e4; subst e5; subst e6; subst e7; subst e8
      exact ⟨⟨z0, z1, z2, z3, z4, z5, z6, z7, z8⟩, rfl⟩
theorem open_cq {r : Reach} {b0 : Nat} {v : Value} {d : DataW H} {p : List MemPlace} (hv : Value.okWide Tryz.prog w r b0 36 v) (h : DataW.Trod enc Tryz.prog w base spare held 36 v d p) :
    ∃ c : Cq, v = .agg #[.int .i64 c.th, .int .i64 c.op, .int .i64 c.arg, .int .i64 c.data, .int .i64 c.beg, .int .i64 c.fin, .int .i64 c.pt, .int .i64 c.ak, .int .i64 c.av] := by
  obtain ⟨cs, rfl, hcz⟩ := okWide_struct Tryz.underlying36 hv
  obtain ⟨fuel, hfu⟩ := h
  obtain ⟨c, hc⟩ := trod_cq hfu
  have hcs : (Value.agg cs).cells.toList = cs.toList := rfl
  rw [hcs] at hc
  refine ⟨c, ?_⟩
  congr 1
  have : cs = (c.row).toArray := by rw [← hc]
  rw [this]
  rfl
theorem open_csl {fuel : Nat} {cs : List Value} {x : DataW H × List MemPlace} (hf : DataW.trod enc Tryz.prog w base spare held fuel 22 cs = some x) :
    ∃ v l, cs = [v] ∧ Sl w (fun _ => True) 9 v l.length (cqs l) := by
  rcases open_slice Tryz.underlying22 hf with ⟨hc, hx⟩ | ⟨ad, n, cap, m, k, D, Pl, hc, _, hl, _, hm, hx, hel⟩
  · exact ⟨_, [], hc, Sl.nil _ _ _⟩
  · have hle : n ≤ m := by rw [hm]; split <;> omega
    obtain ⟨l, hs, hn⟩ := sl_rows (w := w) (ad := ad) (n := n) (cap := cap) ⟨0, 0, 0, 0, 0, 0, 0, 0, 0⟩ Cq.row 9 (by omega) (fun _ => rfl) (by omega) (fun i hi => by
      obtain ⟨cs, h1, h2⟩ := hel i (by omega)
      rw [cells_cq] at h1
      obtain ⟨_, hcl, hce⟩ := World.cells?_some h1
      obtain ⟨c, hcc⟩ := trod_cq h2
      exact ⟨c, fun t ht => by rw [← hcc]; exact hce t (by omega)⟩)
    exact ⟨_, l, by rw [hc, hn], hs⟩
theorem open_calls {r : Reach} {b0 : Nat} {v : Value} {d : DataW H} {p : List MemPlace} (hv : Value.okWide Tryz.prog w r b0 22 v) (h : DataW.Trod enc Tryz.prog w base spare held 22 v d p) (hsz : (d.weights Tryz.prog 22).all (· ≤ reachBytes) = true) :
    ∃ l, Sl w (fun _ => True) 9 v l.length (cqs l) ∧ l.length * 72 ≤ 140737488351232 := by
  obtain ⟨a, n, cap, rfl⟩ := okWide_slice Tryz.underlying22 hv
  obtain ⟨fuel, hf⟩ := h
  have e0 : (Value.slice a n cap).cells.toList = [.slice a n cap] := rfl
  rw [e0] at hf
  obtain ⟨w0, l, e1, hs⟩ := open_csl hf
  simp at e1
  subst e1
  have f := len_slice Tryz.underlying22 hf rfl hs
  refine ⟨l, hs, ?_⟩
  rcases f with f | ⟨es, rs, hd, hl⟩
  · omega
  · simp only at hd
    subst hd
    simp only [DataW.weights, Tryz.underlying22, List.all_cons, Bool.and_eq_true, decide_eq_true_eq, bytes_cq] at hsz
    have e : reachBytes = 140737488351232 := by decide
    have := hsz.1
    rw [e, Nat.add_mul] at this
    omega
end
end Go.Proofs.YtfgnaffomglmdaaGreat.Md
/-
  WITNESS, pure: which calls may be, by the program's way and by the document's, and that they are one.
-/
namespace Go.Proofs.YtfgnaffomglmdaaGreat.Wt
open Md
set_option linter.unusedVariables false
def endB (c : Cq) : Bool := c.fin != -1
def ahB (c d : Cq) : Bool := c.fin != -1 && decide (c.fin < d.beg)
def Tim (c : Cq) : Prop := 0 ≤ c.beg ∧ (c.fin = -1 ∨ c.beg < c.fin) ∧ (c.pt = -1 ∨ c.beg < c.pt ∧ (c.fin = -1 ∨ c.pt ≤ c.fin))
def Anw (c : Cq) : Prop := 0 ≤ c.ak ∧ c.ak ≤ 6 ∧ (c.ak = 0 ↔ c.fin = -1) ∧ (c.ak = 2 ∨ c.av = 0)
def Fit (c : Cq) : Prop := 0 ≤ c.th ∧ c.th < 16 ∧ Tim c ∧ Anw c
instance (c : Cq) : Decidable (Tim c) := by unfold Tim; infer_instance
instance (c : Cq) : Decidable (Anw c) := by unfold Anw; infer_instance
instance (c : Cq) : Decidable (Fit c) := by unfold Fit; infer_instance
/-- The first n calls fit and rise. -/
def Up (cs : List Cq) (n : Nat) : Prop := ∀ i, i < n → (∀ c, cs[i]? = some c → Fit c) ∧ ∀ c d, 0 < i → cs[i - 1]? = some c → cs[i]? = some d → c.beg < d.beg
theorem Up.zero (cs : List Cq) : Up cs 0 := fun i h => absurd h (Nat.not_lt_zero i)
theorem Up.mono {cs : List Cq} {m n : Nat} (h : Up cs n) (hm : m ≤ n) : Up cs m := fun i hi => h i (Nat.lt_of_lt_of_le hi hm)
theorem Up.succ {cs : List Cq} {n : Nat} {d : Cq} (h : Up cs n) (hd : cs[n]? = some d) (hf : Fit d) (hr : ∀ c, 0 < n → cs[n - 1]? = some c → c.beg < d.beg) : Up cs (n + 1) := fun i hi => by
  by_cases e : i < n
  · exact h i e
  · have : i = n := by omega
    subst this
    refine ⟨fun c hc => ?_, fun c d' h0 hc hd' => ?_⟩
    · rw [hd] at hc; cases hc; exact hf
    · rw [hd] at hd'; cases hd'; exact hr c h0 hc
theorem Up.fit {cs : List Cq} {n : Nat} (h : Up cs n) {i : Nat} (hi : i < n) {c : Cq} (hc : cs[i]? = some c) : Fit c := (h i hi).1 c hc
theorem get_of_lt {cs : List Cq} {i : Nat} (h : i < cs.length) : ∃ c, cs[i]? = some c := ⟨cs[i], List.getElem?_eq_getElem h⟩
theorem Up.lt {cs : List Cq} {n : Nat} (h : Up cs n) (hn : n ≤ cs.length) : ∀ (j i : Nat), i < j → j < n → ∀ c d, cs[i]? = some c → cs[j]? = some d → c.beg < d.beg := by
  intro j
  induction j with
  | zero => intro i hi; omega
  | succ j ih =>
    intro i hi hj c d hc hd
    obtain ⟨e, he⟩ := get_of_lt (cs := cs) (i := j) (by omega)
    have h2 := (h (j + 1) hj).2 e d (by omega) (by simpa using he) hd
    by_cases hij : i = j
    · subst hij; rw [hc] at he; cases he; exact h2
    · have := ih i (by omega) (by omega) c e hc he
      omega
/-- The moves of a call, as the program tells them. -/
def mvc (c : Cq) : List Int := c.beg :: ((if c.fin = -1 then [] else [c.fin]) ++ (if c.pt = -1 ∨ c.pt = c.fin then [] else [c.pt]))
def mvl (cs : List Cq) : List Int := cs.flatMap mvc
theorem mvc_len (c : Cq) : (mvc c).length ≤ 3 := by unfold mvc; split <;> split <;> simp
theorem mvl_len (cs : List Cq) : (mvl cs).length ≤ 3 * cs.length := by
  induction cs with
  | nil => simp [mvl]
  | cons c cs ih => have := mvc_len c; simp only [mvl, List.flatMap_cons, List.length_append, List.length_cons] at ih ⊢; omega
theorem mvl_take (cs : List Cq) (i : Nat) (c : Cq) (h : cs[i]? = some c) : mvl (cs.take (i + 1)) = mvl (cs.take i) ++ mvc c := by
  rw [List.take_add_one, h]; simp [mvl]
/-- The document's marks: a move, and the call's number. -/
def mkc (c : Cq) (i : Nat) : List (Int × Int) := (c.beg, (i : Int)) :: ((if c.fin = -1 then [] else [(c.fin, (i : Int))]) ++ (if c.pt = -1 then [] else [(c.pt, (i : Int))]))
def mkl : List Cq → Nat → List (Int × Int)
  | [], _ => []
  | c :: cs, i => mkc c i ++ mkl cs (i + 1)
theorem mkc_len (c : Cq) (i : Nat) : (mkc c i).length ≤ 3 := by unfold mkc; split <;> split <;> simp
theorem mkl_len (cs : List Cq) : ∀ i, (mkl cs i).length ≤ 3 * cs.length := by
  induction cs with
  | nil => simp [mkl]
  | cons c cs ih => intro i; have := mkc_len c i; have := ih (i + 1); simp only [mkl, List.length_append, List.length_cons] at *; omega
theorem mkl_app (cs : List Cq) (ds : List Cq) : ∀ i, mkl (cs ++ ds) i = mkl cs i ++ mkl ds (i + cs.length) := by
  induction cs with
  | nil => simp [mkl]
  | cons c cs ih => intro i; simp only [List.cons_append, mkl, ih, List.append_assoc, List.length_cons]; congr 3; omega
theorem mkl_take (cs : List Cq) (i : Nat) (c : Cq) (h : cs[i]? = some c) : mkl (cs.take (i + 1)) 0 = mkl (cs.take i) 0 ++ mkc c i := by
  have hl := (List.getElem?_eq_some_iff.1 h).1
  rw [List.take_add_one, h, mkl_app]; simp [mkl, List.length_take]
  congr 1; omega
theorem mem_mkl (cs : List Cq) : ∀ (n : Nat) (x : Int × Int), x ∈ mkl cs n ↔ ∃ i c, cs[i]? = some c ∧ x ∈ mkc c (n + i) := by
  induction cs with
  | nil => simp [mkl]
  | cons d cs ih =>
    intro n x
    simp only [mkl, List.mem_append, ih]
    constructor
    · rintro (h | ⟨i, c, hc, h⟩)
      · exact ⟨0, d, by simp, by simpa using h⟩
      · exact ⟨i + 1, c, by simpa using hc, by rw [show n + (i + 1) = n + 1 + i from by omega]; exact h⟩
    · rintro ⟨i, c, hc, h⟩
      cases i with
      | zero => simp at hc; subst hc; exact .inl (by simpa using h)
      | succ i => exact .inr ⟨i, c, by simpa using hc, by rw [show n + 1 + i = n + (i + 1) from by omega]; exact h⟩
theorem mem_mkc (c : Cq) (i : Nat) (x : Int × Int) : x ∈ mkc c i ↔ x.1 ∈ mvc c ∧ x.2 = (i : Int) := by
  obtain ⟨a, b⟩ := x
  unfold mkc mvc
  split <;> split <;> rename_i h1 h2 <;> simp <;> (try split) <;> simp_all <;> omega
/-- No two calls share a move. -/
def Apart (cs : List Cq) : Prop := ∀ (i j : Nat) (c d : Cq) (x : Int), cs[i]? = some c → cs[j]? = some d → x ∈ mvc c → x ∈ mvc d → i = j
theorem fit_nodup {c : Cq} (h : Fit c) : (mvc c).Nodup := by
  obtain ⟨_, _, ⟨h0, h1, h2⟩, _⟩ := h
  unfold mvc
  split <;> split <;> simp <;> omega
theorem apart_mvl {cs : List Cq} (h : Up cs cs.length) : (mvl cs).Nodup ↔ Apart cs := by
  unfold mvl List.Nodup
  rw [List.pairwise_flatMap, List.pairwise_iff_getElem]
  constructor
  · rintro ⟨_, h2⟩ i j c d x hc hd hx hy
    obtain ⟨hi, rfl⟩ := List.getElem?_eq_some_iff.1 hc
    obtain ⟨hj, rfl⟩ := List.getElem?_eq_some_iff.1 hd
    rcases Nat.lt_trichotomy i j with e | e | e
    · exact absurd rfl (h2 i j hi hj e x hx x hy)
    · exact e
    · exact absurd rfl (h2 j i hj hi e x hy x hx)
  · intro hA
    refine ⟨fun c hc => ?_, fun i j hi hj hij x hx y hy e => ?_⟩
    · obtain ⟨i, hi, rfl⟩ := List.getElem_of_mem hc
      exact fit_nodup (h.fit hi (List.getElem?_eq_getElem hi))
    · subst e
      exact absurd (hA i j _ _ x (List.getElem?_eq_getElem hi) (List.getElem?_eq_getElem hj) hx hy) (by omega)
def ApartR (l : List (Int × Int)) : Prop := ∀ x y, x ∈ l → y ∈ l → x.1 = y.1 → x.2 = y.2
theorem apart_mkl (cs : List Cq) : ApartR (mkl cs 0) ↔ Apart cs := by
  constructor
  · intro h i j c d x hc hd hx hy
    have h1 : (x, (i : Int)) ∈ mkl cs 0 := (mem_mkl cs 0 _).2 ⟨i, c, hc, (mem_mkc _ _ _).2 ⟨hx, by simp⟩⟩
    have h2 : (x, (j : Int)) ∈ mkl cs 0 := (mem_mkl cs 0 _).2 ⟨j, d, hd, (mem_mkc _ _ _).2 ⟨hy, by simp⟩⟩
    have e : (i : Int) = (j : Int) := h _ _ h1 h2 rfl
    omega
  · intro h x y hx hy e
    obtain ⟨i, c, hc, h1⟩ := (mem_mkl cs 0 _).1 hx
    obtain ⟨j, d, hd, h2⟩ := (mem_mkl cs 0 _).1 hy
    obtain ⟨h1, e1⟩ := (mem_mkc _ _ _).1 h1
    obtain ⟨h2, e2⟩ := (mem_mkc _ _ _).1 h2
    have := h i j c d x.1 hc hd h1 (by rw [e]; exact h2)
    rw [e1, e2, this]
/-- Rows that don't fall: told by what stands side by side. -/
theorem sorted_nodup {s : List Int} (h : s.Pairwise (· ≤ ·)) : s.Nodup ↔ ∀ i a b, s[i]? = some a → s[i + 1]? = some b → b ≠ a := by
  rw [List.pairwise_iff_getElem] at h
  unfold List.Nodup
  rw [List.pairwise_iff_getElem]
  constructor
  · intro hn i a b ha hb
    obtain ⟨hi, rfl⟩ := List.getElem?_eq_some_iff.1 ha
    obtain ⟨hj, rfl⟩ := List.getElem?_eq_some_iff.1 hb
    exact fun e => hn i (i + 1) hi hj (by omega) e.symm
  · intro hn i j hi hj hij e
    have h1 : s[i] ≤ s[j - 1] := by
      by_cases e2 : i = j - 1
      · simp [← e2]
      · exact h i (j - 1) hi (by omega) (by omega)
    have h2 := h (j - 1) j (by omega) hj (by omega)
    have h3 := hn (j - 1) s[j - 1] s[j] (List.getElem?_eq_getElem _) (by rw [show j - 1 + 1 = j from by omega]; exact List.getElem?_eq_getElem _)
    omega
theorem sorted_apart {s : List (Int × Int)} (h : s.Pairwise (fun a b => a.1 ≤ b.1)) : ApartR s ↔ ∀ i a b, s[i]? = some a → s[i + 1]? = some b → ¬ (b.1 = a.1 ∧ b.2 ≠ a.2) := by
  rw [List.pairwise_iff_getElem] at h
  constructor
  · rintro hA i a b ha hb ⟨e, n⟩
    exact n (hA b a (List.mem_of_getElem? hb) (List.mem_of_getElem? ha) e)
  · intro hn
    have key : ∀ (k i : Nat) (hi : i < s.length) (hj : i + k < s.length), s[i].1 = s[i + k].1 → s[i].2 = s[i + k].2 := by
      intro k
      induction k with
      | zero => intros; rfl
      | succ k ih =>
        intro i hi hj e
        have h1 : s[i].1 ≤ s[i + k].1 := by
          by_cases e2 : k = 0
          · subst e2; simp
          · exact h i (i + k) hi (by omega) (by omega)
        have h2 := h (i + k) (i + (k + 1)) (by omega) hj (by omega)
        have e3 := ih i hi (by omega) (by omega)
        have h3 := hn (i + k) s[i + k] s[i + (k + 1)] (List.getElem?_eq_getElem _) (List.getElem?_eq_getElem _)
        have e4 : s[i + (k + 1)].1 = s[i + k].1 := by omega
        by_cases e5 : s[i + (k + 1)].2 = s[i + k].2
        · rw [e3, e5]
        · exact absurd ⟨e4, e5⟩ h3
    intro x y hx hy e
    obtain ⟨i, hi, rfl⟩ := List.getElem_of_mem hx
    obtain ⟨j, hj, rfl⟩ := List.getElem_of_mem hy
    rcases Nat.le_total i j with o | o
    · obtain ⟨k, rfl⟩ := Nat.exists_eq_add_of_le o
      exact key k i hi hj e
    · obtain ⟨k, rfl⟩ := Nat.exists_eq_add_of_le o
      exact (key k j hj hi e.symm).symm
theorem ApartR.perm {s l : List (Int × Int)} (p : s.Perm l) : ApartR s ↔ ApartR l := by
  unfold ApartR
  simp only [p.mem_iff]
/-- The number, more one, of a thread's last call below n (0: none). -/
def lastT (cs : List Cq) (t : Int) : Nat → Nat
  | 0 => 0
  | n + 1 => if (cs[n]?.map Cq.th) = some t then n + 1 else lastT cs t n
theorem lastT_le (cs : List Cq) (t : Int) : ∀ n, lastT cs t n ≤ n := by
  intro n
  induction n with
  | zero => simp [lastT]
  | succ n ih => unfold lastT; split <;> omega
theorem lastT_hit {cs : List Cq} {n : Nat} {c : Cq} (h : cs[n]? = some c) : lastT cs c.th (n + 1) = n + 1 := by simp [lastT, h]
theorem lastT_miss {cs : List Cq} {n : Nat} {c : Cq} (h : cs[n]? = some c) {t : Int} (ht : c.th ≠ t) : lastT cs t (n + 1) = lastT cs t n := by simp [lastT, h, ht]
/-- The first n calls are in turn, by the program's way (R: ahead) or by the document's. -/
def Turn (R : Cq → Cq → Prop) (cs : List Cq) (n : Nat) : Prop := ∀ i, i < n → ∀ c d, cs[i]? = some c → 0 < lastT cs c.th i → cs[lastT cs c.th i - 1]? = some d → R d c
theorem Turn.zero (R : Cq → Cq → Prop) (cs : List Cq) : Turn R cs 0 := fun i h => absurd h (Nat.not_lt_zero i)
theorem Turn.succ {R : Cq → Cq → Prop} {cs : List Cq} {n : Nat} {c : Cq} (h : Turn R cs n) (hc : cs[n]? = some c) (hr : ∀ d, 0 < lastT cs c.th n → cs[lastT cs c.th n - 1]? = some d → R d c) : Turn R cs (n + 1) := fun i hi => by
  by_cases e : i < n
  · exact h i e
  · have : i = n := by omega
    subst this
    intro c' d hc' h0 hd
    rw [hc] at hc'; cases hc'; exact hr d h0 hd
def AhP (d c : Cq) : Prop := d.fin ≠ -1 ∧ d.fin < c.beg
def AhR (d c : Cq) : Prop := d.fin ≠ -1 ∧ d.fin ≤ c.beg
theorem turn_same {cs : List Cq} (hA : Apart cs) : Turn AhP cs cs.length ↔ Turn AhR cs cs.length := by
  constructor
  · intro h i hi c d hc h0 hd
    have := h i hi c d hc h0 hd
    exact ⟨this.1, Int.le_of_lt this.2⟩
  · intro h i hi c d hc h0 hd
    have ⟨h1, h2⟩ := h i hi c d hc h0 hd
    refine ⟨h1, ?_⟩
    by_cases e : d.fin = c.beg
    · have hm : d.fin ∈ mvc d := by simp [mvc, h1]
      have hb : d.fin ∈ mvc c := by simp [mvc, e]
      have := hA _ _ _ _ _ hd hc hm hb
      have := lastT_le cs c.th i
      omega
    · omega
/-- Calls that may be. -/
def MayC (cs : List Cq) : Prop := Up cs cs.length ∧ Apart cs ∧ Turn AhP cs cs.length
open Classical in
noncomputable def mayB (cs : List Cq) : Bool := decide (MayC cs)
theorem mayB_true {cs : List Cq} (h : MayC cs) : mayB cs = true := by simp [mayB, h]
theorem mayB_false {cs : List Cq} (h : ¬ MayC cs) : mayB cs = false := by simp [mayB, h]
theorem may_doc (cs : List Cq) : MayC cs ↔ Up cs cs.length ∧ Turn AhR cs cs.length ∧ Apart cs := by
  unfold MayC
  constructor
  · rintro ⟨a, b, c⟩; exact ⟨a, (turn_same b).1 c, b⟩
  · rintro ⟨a, b, c⟩; exact ⟨a, c, (turn_same c).2 b⟩
end Go.Proofs.YtfgnaffomglmdaaGreat.Wt
