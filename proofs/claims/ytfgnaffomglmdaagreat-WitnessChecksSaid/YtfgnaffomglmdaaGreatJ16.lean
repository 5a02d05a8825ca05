import Derived.Test.YtfgnaffomglmdaaGreatJ10
/-
  WITNESS, pure: the calls' points in their order; orders of calls.
-/
namespace Go.Proofs.YtfgnaffomglmdaaGreat.Wt
open Md
set_option linter.unusedVariables false
/-- The numbers of the calls that count and have a point. -/
def pix : List Cq → Nat → List Int
  | [], _ => []
  | c :: cs, i => (if obj c.op ≠ 0 ∧ c.pt ≠ -1 then [(i : Int)] else []) ++ pix cs (i + 1)
theorem pix_app (cs ds : List Cq) : ∀ i, pix (cs ++ ds) i = pix cs i ++ pix ds (i + cs.length) := by
  induction cs with
  | nil => simp [pix]
  | cons c cs ih => intro i; simp only [List.cons_append, pix, ih, List.append_assoc, List.length_cons]; congr 3; omega
theorem pix_take (cs : List Cq) (i : Nat) (c : Cq) (h : cs[i]? = some c) : pix (cs.take (i + 1)) 0 = pix (cs.take i) 0 ++ (if obj c.op ≠ 0 ∧ c.pt ≠ -1 then [(i : Int)] else []) := by
  have hl := (List.getElem?_eq_some_iff.1 h).1
  rw [List.take_add_one, h, pix_app]; simp [pix, List.length_take]
  rw [Nat.min_eq_left (by omega)]
theorem pix_len (cs : List Cq) : ∀ i, (pix cs i).length ≤ cs.length := by
  induction cs with
  | nil => simp [pix]
  | cons c cs ih => intro i; have := ih (i + 1); simp only [pix, List.length_append, List.length_cons]; split <;> simp only [List.length_nil, List.length_cons] <;> omega
theorem mem_pix (cs : List Cq) : ∀ (n : Nat) (x : Int), x ∈ pix cs n ↔ ∃ (i : Nat) (c : Cq), cs[i]? = some c ∧ x = ((n + i : Nat) : Int) ∧ obj c.op ≠ 0 ∧ c.pt ≠ -1 := by
  induction cs with
  | nil => simp [pix]
  | cons d cs ih =>
    intro n x
    simp only [pix, List.mem_append, ih]
    constructor
    · rintro (h | ⟨i, c, hc, h, h2⟩)
      · split at h
        · rename_i h2
          simp at h
          exact ⟨0, d, by simp, by simpa using h, h2⟩
        · simp at h
      · exact ⟨i + 1, c, by simpa using hc, by rw [h]; omega, h2⟩
    · rintro ⟨i, c, hc, h, h2⟩
      cases i with
      | zero => simp at hc; subst hc; left; rw [if_pos h2]; simpa using h
      | succ i => exact .inr ⟨i, c, by simpa using hc, by rw [h]; omega, h2⟩
/-- A call's point by its number. -/
def ptAt (cs : List Cq) (x : Int) : Int := (cs[x.toNat]?.map Cq.pt).getD 0
theorem ptAt_get {cs : List Cq} {i : Nat} {c : Cq} (h : cs[i]? = some c) : ptAt cs (i : Int) = c.pt := by simp [ptAt, h]
theorem pt_mem {c : Cq} (h : c.pt ≠ -1) : c.pt ∈ mvc c := by
  unfold mvc
  by_cases e : c.pt = c.fin
  · rw [if_neg (by omega)]; simp [e]
  · rw [if_neg (show ¬ (c.pt = -1 ∨ c.pt = c.fin) by omega)]; simp
theorem pt_inj {cs : List Cq} (hA : Apart cs) : ∀ x y, x ∈ pix cs 0 → y ∈ pix cs 0 → ptAt cs x = ptAt cs y → x = y := by
  intro x y hx hy e
  obtain ⟨i, c, hc, h1, _, h2⟩ := (mem_pix cs 0 x).1 hx
  obtain ⟨j, d, hd, h3, _, h4⟩ := (mem_pix cs 0 y).1 hy
  rw [Nat.zero_add] at h1 h3
  subst h1; subst h3
  rw [ptAt_get hc, ptAt_get hd] at e
  have := hA i j c d c.pt hc hd (pt_mem h2) (by rw [e]; exact pt_mem h4)
  rw [this]
/-- Two rows of the same, in the order of a key that parts them, are one. -/
theorem sorted_one (f : Int → Int) : ∀ {l m : List Int}, l.Perm m → l.Pairwise (fun a b => f a ≤ f b) → m.Pairwise (fun a b => f a ≤ f b) → (∀ x y, x ∈ l → y ∈ l → f x = f y → x = y) → l = m := by
  intro l
  induction l with
  | nil => intro m p _ _ _; exact (List.Perm.nil_eq p)
  | cons a l ih =>
    intro m p hl hm hi
    cases m with
    | nil => exact absurd p.length_eq (by simp)
    | cons b m =>
      have hb : b ∈ a :: l := p.mem_iff.2 (by simp)
      have ha : a ∈ b :: m := p.mem_iff.1 (by simp)
      have h1 : f a ≤ f b := by
        rcases List.mem_cons.1 hb with e | e
        · rw [e]; exact Int.le_refl _
        · exact (List.pairwise_cons.1 hl).1 b e
      have h2 : f b ≤ f a := by
        rcases List.mem_cons.1 ha with e | e
        · rw [e]; exact Int.le_refl _
        · exact (List.pairwise_cons.1 hm).1 a e
      have e := hi a b (by simp) hb (by omega)
      subst e
      rw [ih (List.Perm.cons_inv p) (List.pairwise_cons.1 hl).2 (List.pairwise_cons.1 hm).2 (fun x y hx hy => hi x y (List.mem_cons_of_mem _ hx) (List.mem_cons_of_mem _ hy))]
/-- The call of a number. -/
def cAt (cs : List Cq) (x : Int) : List Cq := if 0 ≤ x then (cs[x.toNat]?).toList else []
def calls (cs : List Cq) (o : List Int) : List Cq := o.flatMap (cAt cs)
/-- The first n of a list of numbers are calls that count, none twice. -/
def Some1 (cs : List Cq) (o : List Int) (n : Nat) : Prop := (∀ j x, j < n → o[j]? = some x → 0 ≤ x ∧ ∃ c, cs[x.toNat]? = some c ∧ obj c.op ≠ 0) ∧ (o.take n).Nodup
def Full1 (cs : List Cq) (o : List Int) (n : Nat) : Prop := ∀ (i : Nat) c, i < n → cs[i]? = some c → obj c.op ≠ 0 → c.fin ≠ -1 → (i : Int) ∈ o
def IsOrd (cs : List Cq) (o : List Int) : Prop := Some1 cs o o.length ∧ Full1 cs o cs.length
theorem Some1.zero (cs : List Cq) (o : List Int) : Some1 cs o 0 := ⟨fun j x h => absurd h (Nat.not_lt_zero j), by simp⟩
theorem Some1.succ {cs : List Cq} {o : List Int} {n : Nat} {x : Int} {c : Cq} (h : Some1 cs o n) (hx : o[n]? = some x) (h0 : 0 ≤ x) (hc : cs[x.toNat]? = some c) (ho : obj c.op ≠ 0) (hn : x ∉ o.take n) : Some1 cs o (n + 1) := by
  refine ⟨fun j y hj hy => ?_, ?_⟩
  · by_cases e : j < n
    · exact h.1 j y e hy
    · have : j = n := by omega
      subst this; rw [hx] at hy; cases hy; exact ⟨h0, c, hc, ho⟩
  · rw [List.take_add_one, hx]
    show (o.take n ++ [x]).Nodup
    unfold List.Nodup
    rw [List.pairwise_append]
    refine ⟨h.2, by simp, fun a ha b hb e => ?_⟩
    simp at hb; subst hb; subst e; exact hn ha
theorem Some1.not {cs : List Cq} {o : List Int} {n : Nat} {x : Int} (hn : n < o.length) (hx : o[n]? = some x) (h : ¬ (0 ≤ x ∧ (∃ c, cs[x.toNat]? = some c ∧ obj c.op ≠ 0) ∧ x ∉ o.take n)) : ¬ IsOrd cs o := by
  rintro ⟨⟨h1, h2⟩, -⟩
  obtain ⟨h3, h4⟩ := h1 n x hn hx
  refine h ⟨h3, h4, fun hm => ?_⟩
  rw [List.take_length] at h2
  obtain ⟨k, hk⟩ := List.getElem?_of_mem hm
  rw [List.getElem?_take] at hk
  split at hk
  · rename_i hkn
    obtain ⟨a1, a2⟩ := List.getElem?_eq_some_iff.1 hk
    obtain ⟨b1, b2⟩ := List.getElem?_eq_some_iff.1 hx
    exact (List.pairwise_iff_getElem.1 h2) k n a1 b1 hkn (by rw [a2, b2])
  · cases hk
end Go.Proofs.YtfgnaffomglmdaaGreat.Wt
/-
  WITNESS, pure: orders of calls, in time, and what they leave.
-/
namespace Go.Proofs.YtfgnaffomglmdaaGreat.Wt
open Md
set_option linter.unusedVariables false
def cq0 : Cq := ⟨0, 0, 0, 0, 0, 0, 0, 0, 0⟩
def callD (cs : List Cq) (x : Int) : Cq := (cs[x.toNat]?).getD cq0
def ordc (cs : List Cq) (o : List Int) : List Cq := o.map (callD cs)
theorem callD_get {cs : List Cq} {j : Nat} {d : Cq} (h : cs[j]? = some d) : callD cs (j : Int) = d := by simp [callD, h]
theorem ordc_len (cs : List Cq) (o : List Int) : (ordc cs o).length = o.length := by simp [ordc]
theorem ordc_get {cs : List Cq} {o : List Int} {k j : Nat} {d : Cq} (hk : o[k]? = some (j : Int)) (hd : cs[j]? = some d) : (ordc cs o)[k]? = some d := by simp [ordc, hk, callD_get hd]
/-- What an order's place holds. -/
theorem IsOrd.at {cs : List Cq} {o : List Int} (h : IsOrd cs o) {k : Nat} {x : Int} (hx : o[k]? = some x) : ∃ (j : Nat) (d : Cq), x = (j : Int) ∧ cs[j]? = some d ∧ obj d.op ≠ 0 := by
  obtain ⟨h0, c, hc, ho⟩ := h.1.1 k x (List.getElem?_eq_some_iff.1 hx).1 hx
  exact ⟨x.toNat, c, by omega, hc, ho⟩
theorem IsOrd.obj {cs : List Cq} {o : List Int} (h : IsOrd cs o) : ∀ c ∈ ordc cs o, obj c.op ≠ 0 := by
  intro c hc
  obtain ⟨k, hk⟩ := List.getElem?_of_mem hc
  have hl := (List.getElem?_eq_some_iff.1 hk).1
  rw [ordc_len] at hl
  obtain ⟨j, d, hx, hd, ho⟩ := h.at (List.getElem?_eq_getElem hl)
  have := ordc_get (hx ▸ List.getElem?_eq_getElem hl) hd
  rw [hk] at this; cases this; exact ho
theorem pigeons : ∀ (n : Nat) (l : List Int), l.Nodup → (∀ x ∈ l, 0 ≤ x ∧ x < (n : Int)) → l.length ≤ n := by
  intro n
  induction n with
  | zero =>
    intro l _ h
    cases l with
    | nil => simp
    | cons x l => have := h x (by simp); omega
  | succ n ih =>
    intro l hn h
    have h1 := ih (l.erase (n : Int)) (hn.erase _) (fun x hx => by
      have h2 := (hn.mem_erase_iff).1 hx
      have h3 := h x h2.2
      have h4 := h2.1
      omega)
    have h5 := List.length_erase (a := (n : Int)) (l := l)
    split at h5 <;> omega
theorem IsOrd.len {cs : List Cq} {o : List Int} (h : IsOrd cs o) : o.length ≤ cs.length := by
  have hn := h.1.2
  rw [List.take_length] at hn
  refine pigeons cs.length o hn (fun x hx => ?_)
  obtain ⟨k, hk⟩ := List.getElem?_of_mem hx
  obtain ⟨j, d, rfl, hd, _⟩ := h.at hk
  have := (List.getElem?_eq_some_iff.1 hd).1
  constructor <;> omega
/-- None stands behind one that it is ahead of, among the first n. -/
def InT (os : List Cq) (n : Nat) : Prop := ∀ i j c d, i < j → j < n → os[i]? = some c → os[j]? = some d → ¬ AhP d c
theorem InT.zero (os : List Cq) : InT os 0 := fun i j c d _ hj => by omega
theorem InT.succ {os : List Cq} {n : Nat} (h : InT os n) {d : Cq} (hd : os[n]? = some d) (hs : ∀ i c, i < n → os[i]? = some c → ¬ AhP d c) : InT os (n + 1) := fun i j c d' hij hj hc hd' => by
  by_cases e : j < n
  · exact h i j c d' hij e hc hd'
  · have : j = n := by omega
    subst this; rw [hd] at hd'; cases hd'; exact hs i c hij hc
/-- The call that began last among the first n (the zero call ahead of all). -/
def Lat (os : List Cq) (n : Nat) (lt : Cq) : Prop := (lt = cq0 ∨ ∃ i, i < n ∧ os[i]? = some lt) ∧ 0 ≤ lt.beg ∧ ∀ i c, i < n → os[i]? = some c → c.beg ≤ lt.beg
theorem Lat.zero (os : List Cq) : Lat os 0 cq0 := ⟨.inl rfl, by simp [cq0], fun i c h => by omega⟩
theorem Lat.keep {os : List Cq} {n : Nat} {lt d : Cq} (h : Lat os n lt) (hd : os[n]? = some d) (hb : ¬ lt.beg < d.beg) : Lat os (n + 1) lt := by
  refine ⟨h.1.imp id (fun ⟨i, hi, e⟩ => ⟨i, by omega, e⟩), h.2.1, fun i c hi hc => ?_⟩
  by_cases e : i < n
  · exact h.2.2 i c e hc
  · have : i = n := by omega
    subst this; rw [hd] at hc; cases hc; omega
theorem Lat.next {os : List Cq} {n : Nat} {lt d : Cq} (h : Lat os n lt) (hd : os[n]? = some d) (hb : lt.beg < d.beg) : Lat os (n + 1) d := by
  refine ⟨.inr ⟨n, by omega, hd⟩, by have := h.2.1; omega, fun i c hi hc => ?_⟩
  by_cases e : i < n
  · have := h.2.2 i c e hc; omega
  · have : i = n := by omega
    subst this; rw [hd] at hc; cases hc; exact Int.le_refl _
theorem Lat.free {os : List Cq} {n : Nat} {lt d : Cq} (h : Lat os n lt) (ha : ahB d lt = false) : ∀ i c, i < n → os[i]? = some c → ¬ AhP d c := fun i c hi hc hA => by
  have := h.2.2 i c hi hc
  simp [ahB] at ha
  have := ha hA.1
  have := hA.2
  omega
theorem Lat.bad {os : List Cq} {n : Nat} {lt d : Cq} (h : Lat os n lt) (hd : os[n]? = some d) (hf : Fit d) (ha : ahB d lt = true) {m : Nat} (hm : n < m) : ¬ InT os m := fun hI => by
  simp [ahB] at ha
  rcases h.1 with rfl | ⟨i, hi, he⟩
  · obtain ⟨_, _, ⟨h0, h1, _⟩, _⟩ := hf
    have : cq0.beg = 0 := rfl
    omega
  · exact hI i n lt d hi hm he hd ha
/-- Which of n calls stand among the first k of a list. -/
def plc (n : Nat) (o : List Int) (k : Nat) : Array Value := ((List.range n).map fun (i : Nat) => Value.bool (decide ((i : Int) ∈ o.take k))).toArray
theorem plc_size (n : Nat) (o : List Int) (k : Nat) : (plc n o k).size = n := by simp [plc]
theorem plc_get {n : Nat} (o : List Int) (k : Nat) {i : Nat} (h : i < n) : (plc n o k)[i]? = some (.bool (decide ((i : Int) ∈ o.take k))) := by simp [plc, h]
theorem plc_set {n : Nat} {o : List Int} {k j : Nat} (hk : o[k]? = some (j : Int)) : (plc n o k).setIfInBounds j (.bool true) = plc n o (k + 1) := by
  apply Array.ext
  · simp [plc_size]
  · intro i h1 h2
    have hi : i < n := by simpa [plc_size] using h2
    rw [Array.getElem_setIfInBounds (by rw [plc_size]; exact hi)]
    by_cases e : j = i
    · subst e
      rw [if_pos rfl]
      simp [plc, List.take_add_one, hk]
    · rw [if_neg e]
      have : ((i : Nat) : Int) ≠ (j : Int) := by omega
      simp [plc, List.take_add_one, hk, this]
end Go.Proofs.YtfgnaffomglmdaaGreat.Wt
