import Derived.Test.YtnbibkohgppjnaaGreatJ09
import Derived.Test.YtnbibkohgppjnaaGreatJ01
import Derived.Laws.BitsAllLaws
import Derived.Laws.Shifts
import Derived.Laws.CopyRow
import Derived.Lib.SliceRun
set_option linter.unusedVariables false
set_option linter.unusedSimpArgs false
set_option maxRecDepth 100000
namespace Go.Proofs.YtnbibkohgppjnaaGreat.Wt
open Md
def endB (c : Cq) : Bool := c.fin != -1
def ahB (c d : Cq) : Bool := c.fin != -1 && decide (c.fin < d.beg)
def Tim (c : Cq) : Prop := 0 ≤ c.beg ∧ (c.fin = -1 ∨ c.beg < c.fin) ∧ (c.pt = -1 ∨ c.beg < c.pt ∧ (c.fin = -1 ∨ c.pt ≤ c.fin))
def Anw (c : Cq) : Prop := 0 ≤ c.ak ∧ c.ak ≤ 6 ∧ (c.ak = 0 ↔ c.fin = -1) ∧ (c.ak = 2 ∨ c.av = 0)
def Fit (c : Cq) : Prop := 0 ≤ c.th ∧ c.th < 16 ∧ Tim c ∧ Anw c
instance (c : Cq) : Decidable (Tim c) := by unfold Tim; infer_instance
instance (c : Cq) : Decidable (Anw c) := by unfold Anw; infer_instance
instance (c : Cq) : Decidable (Fit c) := by unfold Fit; infer_instance
def Up (cs : List Cq) (n : Nat) : Prop := ∀ i, i < n → (∀ c, cs[i]? = some c → Fit c) ∧ ∀ c d, 0 < i → cs[i - 1]? = some c → cs[i]? = some d → c.beg < d.beg
theorem Up.zero (cs : List Cq) : Up cs 0 := fun i h => absurd h (Nat.not_lt_zero i)
theorem Up.mono {cs : List Cq} {m n : Nat} (h : Up cs n) (hm : m ≤ n) : Up cs m := fun i hi => h i (Nat.lt_of_lt_of_le hi hm)
theorem Up.succ {cs : List Cq} {n : Nat} {d : Cq} (h : Up cs n) (hd : cs[n]? = some d) (hf : Fit d) (hr : ∀ c, 0 < n → cs[n - 1]? = some c → c.beg < d.beg) : Up cs (n + 1) := fun i hi => by
 by_cases e : i < n
 ·exact h i e
 ·have : i = n := by omega
  subst this
  refine ⟨fun c hc => ?_, fun c d' h0 hc hd' => ?_⟩
  ·rw [hd] at hc; cases hc; exact hf
  ·rw [hd] at hd'; cases hd'; exact hr c h0 hc
theorem Up.fit {cs : List Cq} {n : Nat} (h : Up cs n) {i : Nat} (hi : i < n) {c : Cq} (hc : cs[i]? = some c) : Fit c := (h i hi).1 c hc
theorem get_of_lt {cs : List Cq} {i : Nat} (h : i < cs.length) : ∃ c, cs[i]? = some c := ⟨cs[i], List.getElem?_eq_getElem h⟩
theorem Up.lt {cs : List Cq} {n : Nat} (h : Up cs n) (hn : n ≤ cs.length) : ∀ (j i : Nat), i < j → j < n → ∀ c d, cs[i]? = some c → cs[j]? = some d → c.beg < d.beg := by
 intro j
 induction j with
 | zero => intro i hi; omega
 | succ j ih =>
  intro i hi hj c d hc hd
  obtain ⟨e, he⟩ := get_of_lt (cs := cs) (i := j) (by omega)
  have h2 := (h (j + 1) hj).2 e d (by omega) (by simpa using he) hd
  by_cases hij : i = j
  ·subst hij; rw [hc] at he; cases he; exact h2
  ·have := ih i (by omega) (by omega) c e hc he
   omega
def mvc (c : Cq) : List Int := c.beg :: ((if c.fin = -1 then [] else [c.fin]) ++ (if c.pt = -1 ∨ c.pt = c.fin then [] else [c.pt]))
def mvl (cs : List Cq) : List Int := cs.flatMap mvc
theorem mvc_len (c : Cq) : (mvc c).length ≤ 3 := by unfold mvc; split <;> split <;> simp
theorem mvl_len (cs : List Cq) : (mvl cs).length ≤ 3 * cs.length := by
 induction cs with
 | nil => simp [mvl]
 | cons c cs ih => have := mvc_len c; simp only [mvl, List.flatMap_cons, List.length_append, List.length_cons] at ih ⊢; omega
theorem mvl_take (cs : List Cq) (i : Nat) (c : Cq) (h : cs[i]? = some c) : mvl (cs.take (i + 1)) = mvl (cs.take i) ++ mvc c := by
 rw [List.take_add_one, h]; simp [mvl]
def mkc (c : Cq) (i : Nat) : List (Int × Int) := (c.beg, (i : Int)) :: ((if c.fin = -1 then [] else [(c.fin, (i : Int))]) ++ (if c.pt = -1 then [] else [(c.pt, (i : Int))]))
def mkl : List Cq → Nat → List (Int × Int)
 | [], _ => []
 | c :: cs, i => mkc c i ++ mkl cs (i + 1)
theorem mkc_len (c : Cq) (i : Nat) : (mkc c i).length ≤ 3 := by unfold mkc; split <;> split <;> simp
theorem mkl_len (cs : List Cq) : ∀ i, (mkl cs i).length ≤ 3 * cs.length := by
 induction cs with
 | nil => simp [mkl]
 | cons c cs ih => intro i; have := mkc_len c i; have := ih (i + 1); simp only [mkl, List.length_append, List.length_cons] at *; omega
theorem mkl_app (cs : List Cq) (ds : List Cq) : ∀ i, mkl (cs ++ ds) i = mkl cs i ++ mkl ds (i + cs.length) := by
 induction cs with
 | nil => simp [mkl]
 | cons c cs ih => intro i; simp only [List.cons_append, mkl, ih, List.append_assoc, List.length_cons]; congr 3; omega
theorem mkl_take (cs : List Cq) (i : Nat) (c : Cq) (h : cs[i]? = some c) : mkl (cs.take (i + 1)) 0 = mkl (cs.take i) 0 ++ mkc c i := by
 have hl := (List.getElem?_eq_some_iff.1 h).1
 rw [List.take_add_one, h, mkl_app]; simp [mkl, List.length_take]
 congr 1; omega
theorem mem_mkl (cs : List Cq) : ∀ (n : Nat) (x : Int × Int), x ∈ mkl cs n ↔ ∃ i c, cs[i]? = some c ∧ x ∈ mkc c (n + i) := by
 induction cs with
 | nil => simp [mkl]
 | cons d cs ih =>
  intro n x
  simp only [mkl, List.mem_append, ih]
  constructor
  ·rintro (h | ⟨i, c, hc, h⟩)
   ·exact ⟨0, d, by simp, by simpa using h⟩
   ·exact ⟨i + 1, c, by simpa using hc, by rw [show n + (i + 1) = n + 1 + i from by omega]; exact h⟩
  ·rintro ⟨i, c, hc, h⟩
   cases i with
   | zero => simp at hc; subst hc; exact .inl (by simpa using h)
   | succ i => exact .inr ⟨i, c, by simpa using hc, by rw [show n + 1 + i = n + (i + 1) from by omega]; exact h⟩
theorem mem_mkc (c : Cq) (i : Nat) (x : Int × Int) : x ∈ mkc c i ↔ x.1 ∈ mvc c ∧ x.2 = (i : Int) := by
 obtain ⟨a, b⟩ := x
 unfold mkc mvc
 split <;> split <;> rename_i h1 h2 <;> simp <;> (try split) <;> simp_all <;> omega
def Apart (cs : List Cq) : Prop := ∀ (i j : Nat) (c d : Cq) (x : Int), cs[i]? = some c → cs[j]? = some d → x ∈ mvc c → x ∈ mvc d → i = j
theorem fit_nodup {c : Cq} (h : Fit c) : (mvc c).Nodup := by
 obtain ⟨_, _, ⟨h0, h1, h2⟩, _⟩ := h
 unfold mvc
 split <;> split <;> simp <;> omega
theorem apart_mvl {cs : List Cq} (h : Up cs cs.length) : (mvl cs).Nodup ↔ Apart cs := by
 unfold mvl List.Nodup
 rw [List.pairwise_flatMap, List.pairwise_iff_getElem]
 constructor
 ·rintro ⟨_, h2⟩ i j c d x hc hd hx hy
  obtain ⟨hi, rfl⟩ := List.getElem?_eq_some_iff.1 hc
  obtain ⟨hj, rfl⟩ := List.getElem?_eq_some_iff.1 hd
  rcases Nat.lt_trichotomy i j with e | e | e
  ·exact absurd rfl (h2 i j hi hj e x hx x hy)
  ·exact e
  ·exact absurd rfl (h2 j i hj hi e x hy x hx)
 ·intro hA
  refine ⟨fun c hc => ?_, fun i j hi hj hij x hx y hy e => ?_⟩
  ·obtain ⟨i, hi, rfl⟩ := List.getElem_of_mem hc
   exact fit_nodup (h.fit hi (List.getElem?_eq_getElem hi))
  ·subst e
   exact absurd (hA i j _ _ x (List.getElem?_eq_getElem hi) (List.getElem?_eq_getElem hj) hx hy) (by omega)
def ApartR (l : List (Int × Int)) : Prop := ∀ x y, x ∈ l → y ∈ l → x.1 = y.1 → x.2 = y.2
theorem apart_mkl (cs : List Cq) : ApartR (mkl cs 0) ↔ Apart cs := by
 constructor
 ·intro h i j c d x hc hd hx hy
  have h1 : (x, (i : Int)) ∈ mkl cs 0 := (mem_mkl cs 0 _).2 ⟨i, c, hc, (mem_mkc _ _ _).2 ⟨hx, by simp⟩⟩
  have h2 : (x, (j : Int)) ∈ mkl cs 0 := (mem_mkl cs 0 _).2 ⟨j, d, hd, (mem_mkc _ _ _).2 ⟨hy, by simp⟩⟩
  have e : (i : Int) = (j : Int) := h _ _ h1 h2 rfl
  omega
 ·intro h x y hx hy e
  obtain ⟨i, c, hc, h1⟩ := (mem_mkl cs 0 _).1 hx
  obtain ⟨j, d, hd, h2⟩ := (mem_mkl cs 0 _).1 hy
  obtain ⟨h1, e1⟩ := (mem_mkc _ _ _).1 h1
  obtain ⟨h2, e2⟩ := (mem_mkc _ _ _).1 h2
  have := h i j c d x.1 hc hd h1 (by rw [e]; exact h2)
  rw [e1, e2, this]
theorem sorted_nodup {s : List Int} (h : s.Pairwise (· ≤ ·)) : s.Nodup ↔ ∀ i a b, s[i]? = some a → s[i + 1]? = some b → b ≠ a := by
 rw [List.pairwise_iff_getElem] at h
 unfold List.Nodup
 rw [List.pairwise_iff_getElem]
 constructor
 ·intro hn i a b ha hb
  obtain ⟨hi, rfl⟩ := List.getElem?_eq_some_iff.1 ha
  obtain ⟨hj, rfl⟩ := List.getElem?_eq_some_iff.1 hb
  exact fun e => hn i (i + 1) hi hj (by omega) e.symm
 ·intro hn i j hi hj hij e
  have h1 : s[i] ≤ s[j - 1] := by
   by_cases e2 : i = j - 1
   ·simp [← e2]
   ·exact h i (j - 1) hi (by omega) (by omega)
  have h2 := h (j - 1) j (by omega) hj (by omega)
  have h3 := hn (j - 1) s[j - 1] s[j] (List.getElem?_eq_getElem _) (by rw [show j - 1 + 1 = j from by omega]; exact List.getElem?_eq_getElem _)
  omega
theorem sorted_apart {s : List (Int × Int)} (h : s.Pairwise (fun a b => a.1 ≤ b.1)) : ApartR s ↔ ∀ i a b, s[i]? = some a → s[i + 1]? = some b → ¬ (b.1 = a.1 ∧ b.2 ≠ a.2) := by
 rw [List.pairwise_iff_getElem] at h
 constructor
 ·rintro hA i a b ha hb ⟨e, n⟩
  exact n (hA b a (List.mem_of_getElem? hb) (List.mem_of_getElem? ha) e)
 ·intro hn
  have key : ∀ (k i : Nat) (hi : i < s.length) (hj : i + k < s.length), s[i].1 = s[i + k].1 → s[i].2 = s[i + k].2 := by
   intro k
   induction k with
   | zero => intros; rfl
   | succ k ih =>
    intro i hi hj e
    have h1 : s[i].1 ≤ s[i + k].1 := by
     by_cases e2 : k = 0
     ·subst e2; simp
     ·exact h i (i + k) hi (by omega) (by omega)
    have h2 := h (i + k) (i + (k + 1)) (by omega) hj (by omega)
    have e3 := ih i hi (by omega) (by omega)
    have h3 := hn (i + k) s[i + k] s[i + (k + 1)] (List.getElem?_eq_getElem _) (List.getElem?_eq_getElem _)
    have e4 : s[i + (k + 1)].1 = s[i + k].1 := by omega
    by_cases e5 : s[i + (k + 1)].2 = s[i + k].2
    ·rw [e3, e5]
    ·exact absurd ⟨e4, e5⟩ h3
  intro x y hx hy e
  obtain ⟨i, hi, rfl⟩ := List.getElem_of_mem hx
  obtain ⟨j, hj, rfl⟩ := List.getElem_of_mem hy
  rcases Nat.le_total i j with o | o
  ·obtain ⟨k, rfl⟩ := Nat.exists_eq_add_of_le o
   exact key k i hi hj e
  ·obtain ⟨k, rfl⟩ := Nat.exists_eq_add_of_le o
   exact (key k j hj hi e.symm).symm
theorem ApartR.perm {s l : List (Int × Int)} (p : s.Perm l) : ApartR s ↔ ApartR l := by
 unfold ApartR
 simp only [p.mem_iff]
def lastT (cs : List Cq) (t : Int) : Nat → Nat
 | 0 => 0
 | n + 1 => if (cs[n]?.map Cq.th) = some t then n + 1 else lastT cs t n
theorem lastT_le (cs : List Cq) (t : Int) : ∀ n, lastT cs t n ≤ n := by
 intro n
 induction n with
 | zero => simp [lastT]
 | succ n ih => unfold lastT; split <;> omega
theorem lastT_hit {cs : List Cq} {n : Nat} {c : Cq} (h : cs[n]? = some c) : lastT cs c.th (n + 1) = n + 1 := by simp [lastT, h]
theorem lastT_miss {cs : List Cq} {n : Nat} {c : Cq} (h : cs[n]? = some c) {t : Int} (ht : c.th ≠ t) : lastT cs t (n + 1) = lastT cs t n := by simp [lastT, h, ht]
def Turn (R : Cq → Cq → Prop) (cs : List Cq) (n : Nat) : Prop := ∀ i, i < n → ∀ c d, cs[i]? = some c → 0 < lastT cs c.th i → cs[lastT cs c.th i - 1]? = some d → R d c
theorem Turn.zero (R : Cq → Cq → Prop) (cs : List Cq) : Turn R cs 0 := fun i h => absurd h (Nat.not_lt_zero i)
theorem Turn.succ {R : Cq → Cq → Prop} {cs : List Cq} {n : Nat} {c : Cq} (h : Turn R cs n) (hc : cs[n]? = some c) (hr : ∀ d, 0 < lastT cs c.th n → cs[lastT cs c.th n - 1]? = some d → R d c) : Turn R cs (n + 1) := fun i hi => by
 by_cases e : i < n
 ·exact h i e
 ·have : i = n := by omega
  subst this
  intro c' d hc' h0 hd
  rw [hc] at hc'; cases hc'; exact hr d h0 hd
def AhP (d c : Cq) : Prop := d.fin ≠ -1 ∧ d.fin < c.beg
def AhR (d c : Cq) : Prop := d.fin ≠ -1 ∧ d.fin ≤ c.beg
theorem turn_same {cs : List Cq} (hA : Apart cs) : Turn AhP cs cs.length ↔ Turn AhR cs cs.length := by
 constructor
 ·intro h i hi c d hc h0 hd
  have := h i hi c d hc h0 hd
  exact ⟨this.1, Int.le_of_lt this.2⟩
 ·intro h i hi c d hc h0 hd
  have ⟨h1, h2⟩ := h i hi c d hc h0 hd
  refine ⟨h1, ?_⟩
  by_cases e : d.fin = c.beg
  ·have hm : d.fin ∈ mvc d := by simp [mvc, h1]
   have hb : d.fin ∈ mvc c := by simp [mvc, e]
   have := hA _ _ _ _ _ hd hc hm hb
   have := lastT_le cs c.th i
   omega
  ·omega
def MayC (cs : List Cq) : Prop := Up cs cs.length ∧ Apart cs ∧ Turn AhP cs cs.length
open Classical in
noncomputable def mayB (cs : List Cq) : Bool := decide (MayC cs)
theorem mayB_true {cs : List Cq} (h : MayC cs) : mayB cs = true := by simp [mayB, h]
theorem mayB_false {cs : List Cq} (h : ¬ MayC cs) : mayB cs = false := by simp [mayB, h]
theorem may_doc (cs : List Cq) : MayC cs ↔ Up cs cs.length ∧ Turn AhR cs cs.length ∧ Apart cs := by
 unfold MayC
 constructor
 ·rintro ⟨a, b, c⟩; exact ⟨a, (turn_same b).1 c, b⟩
 ·rintro ⟨a, b, c⟩; exact ⟨a, c, (turn_same c).2 b⟩
end Go.Proofs.YtnbibkohgppjnaaGreat.Wt
namespace Go.Proofs.YtnbibkohgppjnaaGreat.Wt
open Md
def pix : List Cq → Nat → List Int
 | [], _ => []
 | c :: cs, i => (if obj c.op ≠ 0 ∧ c.pt ≠ -1 then [(i : Int)] else []) ++ pix cs (i + 1)
theorem pix_app (cs ds : List Cq) : ∀ i, pix (cs ++ ds) i = pix cs i ++ pix ds (i + cs.length) := by
 induction cs with
 | nil => simp [pix]
 | cons c cs ih => intro i; simp only [List.cons_append, pix, ih, List.append_assoc, List.length_cons]; congr 3; omega
theorem pix_take (cs : List Cq) (i : Nat) (c : Cq) (h : cs[i]? = some c) : pix (cs.take (i + 1)) 0 = pix (cs.take i) 0 ++ (if obj c.op ≠ 0 ∧ c.pt ≠ -1 then [(i : Int)] else []) := by
 have hl := (List.getElem?_eq_some_iff.1 h).1
 rw [List.take_add_one, h, pix_app]; simp [pix, List.length_take]
 rw [Nat.min_eq_left (by omega)]
theorem pix_len (cs : List Cq) : ∀ i, (pix cs i).length ≤ cs.length := by
 induction cs with
 | nil => simp [pix]
 | cons c cs ih => intro i; have := ih (i + 1); simp only [pix, List.length_append, List.length_cons]; split <;> simp only [List.length_nil, List.length_cons] <;> omega
theorem mem_pix (cs : List Cq) : ∀ (n : Nat) (x : Int), x ∈ pix cs n ↔ ∃ (i : Nat) (c : Cq), cs[i]? = some c ∧ x = ((n + i : Nat) : Int) ∧ obj c.op ≠ 0 ∧ c.pt ≠ -1 := by
 induction cs with
 | nil => simp [pix]
 | cons d cs ih =>
  intro n x
  simp only [pix, List.mem_append, ih]
  constructor
  ·rintro (h | ⟨i, c, hc, h, h2⟩)
   ·split at h
    ·rename_i h2
     simp at h
     exact ⟨0, d, by simp, by simpa using h, h2⟩
    ·simp at h
   ·exact ⟨i + 1, c, by simpa using hc, by rw [h]; omega, h2⟩
  ·rintro ⟨i, c, hc, h, h2⟩
   cases i with
   | zero => simp at hc; subst hc; left; rw [if_pos h2]; simpa using h
   | succ i => exact .inr ⟨i, c, by simpa using hc, by rw [h]; omega, h2⟩
def ptAt (cs : List Cq) (x : Int) : Int := (cs[x.toNat]?.map Cq.pt).getD 0
theorem ptAt_get {cs : List Cq} {i : Nat} {c : Cq} (h : cs[i]? = some c) : ptAt cs (i : Int) = c.pt := by simp [ptAt, h]
def cAt (cs : List Cq) (x : Int) : List Cq := if 0 ≤ x then (cs[x.toNat]?).toList else []
def calls (cs : List Cq) (o : List Int) : List Cq := o.flatMap (cAt cs)
def Some1 (cs : List Cq) (o : List Int) (n : Nat) : Prop := (∀ j x, j < n → o[j]? = some x → 0 ≤ x ∧ ∃ c, cs[x.toNat]? = some c ∧ obj c.op ≠ 0) ∧ (o.take n).Nodup
def Full1 (cs : List Cq) (o : List Int) (n : Nat) : Prop := ∀ (i : Nat) c, i < n → cs[i]? = some c → obj c.op ≠ 0 → c.fin ≠ -1 → (i : Int) ∈ o
def IsOrd (cs : List Cq) (o : List Int) : Prop := Some1 cs o o.length ∧ Full1 cs o cs.length
theorem Some1.zero (cs : List Cq) (o : List Int) : Some1 cs o 0 := ⟨fun j x h => absurd h (Nat.not_lt_zero j), by simp⟩
theorem Some1.succ {cs : List Cq} {o : List Int} {n : Nat} {x : Int} {c : Cq} (h : Some1 cs o n) (hx : o[n]? = some x) (h0 : 0 ≤ x) (hc : cs[x.toNat]? = some c) (ho : obj c.op ≠ 0) (hn : x ∉ o.take n) : Some1 cs o (n + 1) := by
 refine ⟨fun j y hj hy => ?_, ?_⟩
 ·by_cases e : j < n
  ·exact h.1 j y e hy
  ·have : j = n := by omega
   subst this; rw [hx] at hy; cases hy; exact ⟨h0, c, hc, ho⟩
 ·rw [List.take_add_one, hx]
  show (o.take n ++ [x]).Nodup
  unfold List.Nodup
  rw [List.pairwise_append]
  refine ⟨h.2, by simp, fun a ha b hb e => ?_⟩
  simp at hb; subst hb; subst e; exact hn ha
theorem Some1.not {cs : List Cq} {o : List Int} {n : Nat} {x : Int} (hn : n < o.length) (hx : o[n]? = some x) (h : ¬ (0 ≤ x ∧ (∃ c, cs[x.toNat]? = some c ∧ obj c.op ≠ 0) ∧ x ∉ o.take n)) : ¬ IsOrd cs o := by
 rintro ⟨⟨h1, h2⟩, -⟩
 obtain ⟨h3, h4⟩ := h1 n x hn hx
 refine h ⟨h3, h4, fun hm => ?_⟩
 rw [List.take_length] at h2
 obtain ⟨k, hk⟩ := List.getElem?_of_mem hm
 rw [List.getElem?_take] at hk
 split at hk
 ·rename_i hkn
  obtain ⟨a1, a2⟩ := List.getElem?_eq_some_iff.1 hk
  obtain ⟨b1, b2⟩ := List.getElem?_eq_some_iff.1 hx
  exact (List.pairwise_iff_getElem.1 h2) k n a1 b1 hkn (by rw [a2, b2])
 ·cases hk
end Go.Proofs.YtnbibkohgppjnaaGreat.Wt
namespace Go.Proofs.YtnbibkohgppjnaaGreat.Wt
open Md
def cq0 : Cq := ⟨0, 0, 0, 0, 0, 0, 0, 0, 0⟩
def callD (cs : List Cq) (x : Int) : Cq := (cs[x.toNat]?).getD cq0
def ordc (cs : List Cq) (o : List Int) : List Cq := o.map (callD cs)
theorem callD_get {cs : List Cq} {j : Nat} {d : Cq} (h : cs[j]? = some d) : callD cs (j : Int) = d := by simp [callD, h]
theorem ordc_len (cs : List Cq) (o : List Int) : (ordc cs o).length = o.length := by simp [ordc]
theorem ordc_get {cs : List Cq} {o : List Int} {k j : Nat} {d : Cq} (hk : o[k]? = some (j : Int)) (hd : cs[j]? = some d) : (ordc cs o)[k]? = some d := by simp [ordc, hk, callD_get hd]
theorem IsOrd.at {cs : List Cq} {o : List Int} (h : IsOrd cs o) {k : Nat} {x : Int} (hx : o[k]? = some x) : ∃ (j : Nat) (d : Cq), x = (j : Int) ∧ cs[j]? = some d ∧ obj d.op ≠ 0 := by
 obtain ⟨h0, c, hc, ho⟩ := h.1.1 k x (List.getElem?_eq_some_iff.1 hx).1 hx
 exact ⟨x.toNat, c, by omega, hc, ho⟩
theorem IsOrd.obj {cs : List Cq} {o : List Int} (h : IsOrd cs o) : ∀ c ∈ ordc cs o, obj c.op ≠ 0 := by
 intro c hc
 obtain ⟨k, hk⟩ := List.getElem?_of_mem hc
 have hl := (List.getElem?_eq_some_iff.1 hk).1
 rw [ordc_len] at hl
 obtain ⟨j, d, hx, hd, ho⟩ := h.at (List.getElem?_eq_getElem hl)
 have := ordc_get (hx ▸ List.getElem?_eq_getElem hl) hd
 rw [hk] at this; cases this; exact ho
theorem pigeons : ∀ (n : Nat) (l : List Int), l.Nodup → (∀ x ∈ l, 0 ≤ x ∧ x < (n : Int)) → l.length ≤ n := by
 intro n
 induction n with
 | zero =>
  intro l _ h
  cases l with
  | nil => simp
  | cons x l => have := h x (by simp); omega
 | succ n ih =>
  intro l hn h
  have h1 := ih (l.erase (n : Int)) (hn.erase _) (fun x hx => by
   have h2 := (hn.mem_erase_iff).1 hx
   have h3 := h x h2.2
   have h4 := h2.1
   omega)
  have h5 := List.length_erase (a := (n : Int)) (l := l)
  split at h5 <;> omega
theorem IsOrd.len {cs : List Cq} {o : List Int} (h : IsOrd cs o) : o.length ≤ cs.length := by
 have hn := h.1.2
 rw [List.take_length] at hn
 refine pigeons cs.length o hn (fun x hx => ?_)
 obtain ⟨k, hk⟩ := List.getElem?_of_mem hx
 obtain ⟨j, d, rfl, hd, _⟩ := h.at hk
 have := (List.getElem?_eq_some_iff.1 hd).1
 constructor <;> omega
def InT (os : List Cq) (n : Nat) : Prop := ∀ i j c d, i < j → j < n → os[i]? = some c → os[j]? = some d → ¬ AhP d c
theorem InT.zero (os : List Cq) : InT os 0 := fun i j c d _ hj => by omega
theorem InT.succ {os : List Cq} {n : Nat} (h : InT os n) {d : Cq} (hd : os[n]? = some d) (hs : ∀ i c, i < n → os[i]? = some c → ¬ AhP d c) : InT os (n + 1) := fun i j c d' hij hj hc hd' => by
 by_cases e : j < n
 ·exact h i j c d' hij e hc hd'
 ·have : j = n := by omega
  subst this; rw [hd] at hd'; cases hd'; exact hs i c hij hc
def Lat (os : List Cq) (n : Nat) (lt : Cq) : Prop := (lt = cq0 ∨ ∃ i, i < n ∧ os[i]? = some lt) ∧ 0 ≤ lt.beg ∧ ∀ i c, i < n → os[i]? = some c → c.beg ≤ lt.beg
theorem Lat.zero (os : List Cq) : Lat os 0 cq0 := ⟨.inl rfl, by simp [cq0], fun i c h => by omega⟩
theorem Lat.keep {os : List Cq} {n : Nat} {lt d : Cq} (h : Lat os n lt) (hd : os[n]? = some d) (hb : ¬ lt.beg < d.beg) : Lat os (n + 1) lt := by
 refine ⟨h.1.imp id (fun ⟨i, hi, e⟩ => ⟨i, by omega, e⟩), h.2.1, fun i c hi hc => ?_⟩
 by_cases e : i < n
 ·exact h.2.2 i c e hc
 ·have : i = n := by omega
  subst this; rw [hd] at hc; cases hc; omega
theorem Lat.next {os : List Cq} {n : Nat} {lt d : Cq} (h : Lat os n lt) (hd : os[n]? = some d) (hb : lt.beg < d.beg) : Lat os (n + 1) d := by
 refine ⟨.inr ⟨n, by omega, hd⟩, by have := h.2.1; omega, fun i c hi hc => ?_⟩
 by_cases e : i < n
 ·have := h.2.2 i c e hc; omega
 ·have : i = n := by omega
  subst this; rw [hd] at hc; cases hc; exact Int.le_refl _
theorem Lat.free {os : List Cq} {n : Nat} {lt d : Cq} (h : Lat os n lt) (ha : ahB d lt = false) : ∀ i c, i < n → os[i]? = some c → ¬ AhP d c := fun i c hi hc hA => by
 have := h.2.2 i c hi hc
 simp [ahB] at ha
 have := ha hA.1
 have := hA.2
 omega
theorem Lat.bad {os : List Cq} {n : Nat} {lt d : Cq} (h : Lat os n lt) (hd : os[n]? = some d) (hf : Fit d) (ha : ahB d lt = true) {m : Nat} (hm : n < m) : ¬ InT os m := fun hI => by
 simp [ahB] at ha
 rcases h.1 with rfl | ⟨i, hi, he⟩
 ·obtain ⟨_, _, ⟨h0, h1, _⟩, _⟩ := hf
  have : cq0.beg = 0 := rfl
  omega
 ·exact hI i n lt d hi hm he hd ha
def plc (n : Nat) (o : List Int) (k : Nat) : Array Value := ((List.range n).map fun (i : Nat) => Value.bool (decide ((i : Int) ∈ o.take k))).toArray
theorem plc_size (n : Nat) (o : List Int) (k : Nat) : (plc n o k).size = n := by simp [plc]
theorem plc_get {n : Nat} (o : List Int) (k : Nat) {i : Nat} (h : i < n) : (plc n o k)[i]? = some (.bool (decide ((i : Int) ∈ o.take k))) := by simp [plc, h]
theorem plc_set {n : Nat} {o : List Int} {k j : Nat} (hk : o[k]? = some (j : Int)) : (plc n o k).setIfInBounds j (.bool true) = plc n o (k + 1) := by
 apply Array.ext
 ·simp [plc_size]
 ·intro i h1 h2
  have hi : i < n := by simpa [plc_size] using h2
  rw [Array.getElem_setIfInBounds (by rw [plc_size]; exact hi)]
  by_cases e : j = i
  ·subst e
   rw [if_pos rfl]
   simp [plc, List.take_add_one, hk]
  ·rw [if_neg e]
   have : ((i : Nat) : Int) ≠ (j : Int) := by omega
   simp [plc, List.take_add_one, hk, this]
end Go.Proofs.YtnbibkohgppjnaaGreat.Wt
namespace Go.Proofs.YtnbibkohgppjnaaGreat.Ws
open Md Wt
def cnt1 : List Cq → Nat → List (Nat × Cq)
 | [], _ => []
 | c :: cs, i => (if obj c.op ≠ 0 then [(i, c)] else []) ++ cnt1 cs (i + 1)
def nms (cs : List Cq) : List Nat := (cnt1 cs 0).map (·.1)
def scs (cs : List Cq) : List Cq := (cnt1 cs 0).map (·.2)
def cd (sc : List Cq) (i : Nat) : Cq := sc[i]?.getD cq0
def nd (nm : List Nat) (i : Nat) : Nat := nm[i]?.getD 0
theorem cnt1_app (cs ds : List Cq) : ∀ i, cnt1 (cs ++ ds) i = cnt1 cs i ++ cnt1 ds (i + cs.length) := by
 induction cs with
 | nil => intro i; simp [cnt1]
 | cons c cs ih => intro i; simp only [List.cons_append, cnt1, ih, List.append_assoc, List.length_cons]; congr 3; omega
theorem mem_cnt1 (cs : List Cq) : ∀ (n : Nat) (x : Nat × Cq), x ∈ cnt1 cs n ↔ ∃ i, cs[i]? = some x.2 ∧ x.1 = n + i ∧ obj x.2.op ≠ 0 := by
 induction cs with
 | nil => intro n x; simp [cnt1]
 | cons c cs ih =>
  intro n x
  rw [cnt1, List.mem_append, ih]
  constructor
  ·rintro (h | ⟨i, h1, h2, h3⟩)
   ·split at h
    ·rename_i ho
     simp at h; subst h
     exact ⟨0, by simp, by simp, ho⟩
    ·simp at h
   ·exact ⟨i + 1, by simpa using h1, by omega, h3⟩
  ·rintro ⟨i, h1, h2, h3⟩
   cases i with
   | zero =>
    simp at h1
    left
    rw [h1, if_pos h3]
    simp
    exact Prod.ext (by simpa using h2) rfl
   | succ i => exact .inr ⟨i, by simpa using h1, by omega, h3⟩
theorem cnt1_pair (cs : List Cq) : ∀ n, (cnt1 cs n).Pairwise (fun a b => a.1 < b.1) := by
 induction cs with
 | nil => intro n; simp [cnt1]
 | cons c cs ih =>
  intro n
  rw [cnt1]
  refine List.pairwise_append.2 ⟨?_, ih _, ?_⟩
  ·split <;> simp
  ·intro a ha b hb
   obtain ⟨i, _, h2, _⟩ := (mem_cnt1 cs (n + 1) b).1 hb
   split at ha
   ·simp at ha; subst ha; simp; omega
   ·simp at ha
theorem scs_len (cs : List Cq) : (scs cs).length = (nms cs).length := by simp [scs, nms]
theorem at_i {cs : List Cq} {i : Nat} (h : i < (nms cs).length) : cs[nd (nms cs) i]? = some (cd (scs cs) i) ∧ obj (cd (scs cs) i).op ≠ 0 := by
 have h' : i < (cnt1 cs 0).length := by simpa [nms] using h
 have e1 : nd (nms cs) i = ((cnt1 cs 0)[i]).1 := by simp [nd, nms, h']
 have e2 : cd (scs cs) i = ((cnt1 cs 0)[i]).2 := by simp [cd, scs, h']
 obtain ⟨k, h1, h2, h3⟩ := (mem_cnt1 cs 0 _).1 (List.getElem_mem h')
 rw [e1, e2]
 refine ⟨?_, h3⟩
 rw [h2, Nat.zero_add]
 exact h1
theorem nd_inj {cs : List Cq} {i j : Nat} (hi : i < (nms cs).length) (hj : j < (nms cs).length) (h : nd (nms cs) i = nd (nms cs) j) : i = j := by
 have hi' : i < (cnt1 cs 0).length := by simpa [nms] using hi
 have hj' : j < (cnt1 cs 0).length := by simpa [nms] using hj
 have e1 : nd (nms cs) i = ((cnt1 cs 0)[i]).1 := by simp [nd, nms, hi']
 have e2 : nd (nms cs) j = ((cnt1 cs 0)[j]).1 := by simp [nd, nms, hj']
 have hp := List.pairwise_iff_getElem.1 (cnt1_pair cs 0)
 rcases Nat.lt_trichotomy i j with h1 | h1 | h1
 ·have := hp i j hi' hj' h1; omega
 ·exact h1
 ·have := hp j i hj' hi' h1; omega
theorem of_num {cs : List Cq} {k : Nat} {c : Cq} (h : cs[k]? = some c) (ho : obj c.op ≠ 0) : ∃ i, i < (nms cs).length ∧ nd (nms cs) i = k ∧ cd (scs cs) i = c := by
 have hm : (k, c) ∈ cnt1 cs 0 := (mem_cnt1 cs 0 (k, c)).2 ⟨k, h, by simp, ho⟩
 obtain ⟨i, hi, e⟩ := List.getElem_of_mem hm
 refine ⟨i, by simpa [nms] using hi, ?_, ?_⟩
 ·simp [nd, nms, hi, e]
 ·simp [cd, scs, hi, e]
def whlB (sc : List Cq) (P : Nat) : Bool := (List.range sc.length).all fun i => (cd sc i).fin == -1 || P.testBit i
def ahmB (sc : List Cq) (P i : Nat) : Bool := (List.range sc.length).all fun k => !(ahB (cd sc k) (cd sc i)) || P.testBit k
def spc (sc : List Cq) : Sp Ct where
 n := sc.length
 ok P x i := !P.testBit i && ahmB sc P i && (alw x (cd sc i)).2
 nx x i := (alw x (cd sc i)).1
 whl P := whlB sc P
 new P x i h := by simp at h; exact h.1.1
def msk (p : List Nat) : Nat := p.foldl (fun P i => P ||| 2 ^ i) 0
theorem msk_snoc (p : List Nat) (i : Nat) : msk (p ++ [i]) = msk p ||| 2 ^ i := by simp [msk]
theorem msk_test (p : List Nat) : ∀ j, (msk p).testBit j = decide (j ∈ p) := by
 intro j
 have H : ∀ (l : List Nat) (P : Nat), (l.foldl (fun P i => P ||| 2 ^ i) P).testBit j = (P.testBit j || decide (j ∈ l)) := by
  intro l
  induction l with
  | nil => intro P; simp
  | cons i l ih =>
   intro P
   rw [List.foldl_cons, ih, test_or]
   by_cases e : i = j
   ·subst e; simp
   ·have : ¬ j = i := fun h => e h.symm
    simp [e, this]
 rw [msk, H]; simp
structure Exp (sc : List Cq) (l : List Nat) : Prop where
 nod : l.Nodup
 lt : ∀ i ∈ l, i < sc.length
 full : ∀ i, i < sc.length → (cd sc i).fin ≠ -1 → i ∈ l
 tim : l.Pairwise (fun i j => ¬ AhP (cd sc j) (cd sc i))
 ans : okTo ct0 (l.map (cd sc)) l.length
theorem okTo_snoc {x : Ct} {l : List Cq} {c : Cq} : okTo x (l ++ [c]) (l.length + 1) ↔ okTo x l l.length ∧ (alw (lefts x l l.length) c).2 = true := by
 have e : ∀ j, j ≤ l.length → lefts x (l ++ [c]) j = lefts x l j := fun j hj => by
  unfold lefts
  rw [List.take_append_of_le_length hj]
 constructor
 ·intro h
  refine ⟨fun j hj d hd => ?_, ?_⟩
  ·have := h j (by omega) d (by rw [List.getElem?_append_left hj]; exact hd)
   rwa [e j (by omega)] at this
  ·have := h l.length (by omega) c (by simp)
   rwa [e _ (Nat.le_refl _)] at this
 ·rintro ⟨h1, h2⟩ j hj d hd
  by_cases ej : j < l.length
  ·rw [e j (by omega)]
   rw [List.getElem?_append_left ej] at hd
   exact h1 j ej d hd
  ·have : j = l.length := by omega
   subst this
   simp at hd
   subst hd
   rw [e _ (Nat.le_refl _)]
   exact h2
theorem lefts_snoc (x : Ct) (l : List Cq) (c : Cq) : lefts x (l ++ [c]) (l.length + 1) = (alw (lefts x l l.length) c).1 := by
 rw [lefts_succ x (l ++ [c]) l.length c (by simp)]
 unfold lefts
 rw [List.take_append_of_le_length (Nat.le_refl _)]
theorem go_exp {sc : List Cq} (hfit : ∀ c ∈ sc, Fit c) : ∀ (l p : List Nat), p.Nodup → (∀ i ∈ p, i < sc.length) → p.Pairwise (fun i j => ¬ AhP (cd sc j) (cd sc i)) → (∀ i ∈ p, ∀ k, k < sc.length → AhP (cd sc k) (cd sc i) → k ∈ p) → okTo ct0 (p.map (cd sc)) p.length →
  ((spc sc).Go (msk p) (lefts ct0 (p.map (cd sc)) p.length) l ↔ Exp sc (p ++ l)) := by
 have hirr : ∀ i, i < sc.length → ¬ AhP (cd sc i) (cd sc i) := by
  intro i hi h
  have hm : cd sc i ∈ sc := by unfold cd; rw [List.getElem?_eq_getElem hi]; exact List.getElem_mem hi
  obtain ⟨_, _, ⟨_, h2, _⟩, _⟩ := hfit _ hm
  obtain ⟨h3, h4⟩ := h
  rcases h2 with h2 | h2
  ·exact h3 h2
  ·omega
 intro l
 induction l with
 | nil =>
  intro p h1 h2 h3 h4 h5
  rw [List.append_nil]
  show whlB sc (msk p) = true ↔ _
  unfold whlB
  rw [List.all_eq_true]
  constructor
  ·intro h
   refine ⟨h1, h2, fun i hi hf => ?_, h3, h5⟩
   have := h i (List.mem_range.2 hi)
   rw [msk_test] at this
   simpa [hf] using this
  ·intro h i hi
   rw [msk_test]
   by_cases hf : (cd sc i).fin = -1
   ·simp [hf]
   ·have := h.full i (List.mem_range.1 hi) hf
    simp [this]
 | cons i l ih =>
  intro p h1 h2 h3 h4 h5
  have hx : (alw (lefts ct0 (p.map (cd sc)) p.length) (cd sc i)).1 = lefts ct0 ((p ++ [i]).map (cd sc)) (p ++ [i]).length := by
   rw [List.map_append, List.map_cons, List.map_nil, List.length_append, List.length_cons, List.length_nil]
   have := lefts_snoc ct0 (p.map (cd sc)) (cd sc i)
   rw [List.length_map] at this
   exact this.symm
  constructor
  ·rintro ⟨hi, hok, hg⟩
   have hok' : (!(msk p).testBit i && ahmB sc (msk p) i && (alw (lefts ct0 (p.map (cd sc)) p.length) (cd sc i)).2) = true := hok
   simp only [Bool.and_eq_true, Bool.not_eq_true'] at hok'
   obtain ⟨⟨q1, q2⟩, q3⟩ := hok'
   rw [msk_test] at q1
   have hni : i ∉ p := by simpa using q1
   have hah : ∀ k, k < sc.length → AhP (cd sc k) (cd sc i) → k ∈ p := by
    intro k hk ha
    have := List.all_eq_true.1 q2 k (List.mem_range.2 hk)
    rw [msk_test] at this
    have hb : ahB (cd sc k) (cd sc i) = true := by obtain ⟨a1, a2⟩ := ha; simp [ahB, a1, a2]
    simpa [hb] using this
   have hg' : (spc sc).Go (msk (p ++ [i])) (lefts ct0 ((p ++ [i]).map (cd sc)) (p ++ [i]).length) l := by
    rw [msk_snoc, ← hx]; exact hg
   have := (ih (p ++ [i]) ?_ ?_ ?_ ?_ ?_).1 hg'
   ·rw [List.append_assoc] at this; exact this
   ·exact List.nodup_append.2 ⟨h1, by simp, fun a ha b hb => by simp at hb; subst hb; exact fun e => hni (e ▸ ha)⟩
   ·intro j hj
    rcases List.mem_append.1 hj with hj | hj
    ·exact h2 j hj
    ·simp at hj; subst hj; exact hi
   ·refine List.pairwise_append.2 ⟨h3, by simp, fun a ha b hb => ?_⟩
    simp at hb; subst hb
    exact fun e => hni (h4 a ha b hi e)
   ·intro a ha k hk hA
    rcases List.mem_append.1 ha with ha | ha
    ·exact List.mem_append.2 (.inl (h4 a ha k hk hA))
    ·simp at ha; subst ha
     exact List.mem_append.2 (.inl (hah k hk hA))
   ·rw [List.map_append, List.map_cons, List.map_nil, List.length_append, List.length_cons, List.length_nil]
    have := (okTo_snoc (x := ct0) (l := p.map (cd sc)) (c := cd sc i)).2 ⟨by rw [List.length_map]; exact h5, by rw [List.length_map]; exact q3⟩
    rw [List.length_map] at this
    exact this
  ·intro hE
   have hi : i < sc.length := hE.lt i (by simp)
   have hnd := List.nodup_append.1 hE.nod
   have hni : i ∉ p := fun e => hnd.2.2 i e i (by simp) rfl
   have htm := List.pairwise_append.1 hE.tim
   have hah : ∀ k, k < sc.length → AhP (cd sc k) (cd sc i) → k ∈ p := by
    intro k hk hA
    have hin := hE.full k hk hA.1
    rcases List.mem_append.1 hin with h | h
    ·exact h
    ·rcases List.mem_cons.1 h with h | h
     ·subst h; exact absurd hA (hirr k hk)
     ·exact absurd hA ((List.pairwise_cons.1 htm.2.1).1 k h)
   have hko : okTo ct0 ((p ++ [i]).map (cd sc)) (p ++ [i]).length := by
    intro j hj c hc
    have h6 := hE.ans j (by simp at hj ⊢; omega) c ?_
    ·have e : lefts ct0 ((p ++ i :: l).map (cd sc)) j = lefts ct0 ((p ++ [i]).map (cd sc)) j := by
      unfold lefts
      rw [show p ++ i :: l = (p ++ [i]) ++ l from by simp, List.map_append, List.take_append_of_le_length (by simp at hj ⊢; omega)]
     rwa [e] at h6
    ·rw [show p ++ i :: l = (p ++ [i]) ++ l from by simp, List.map_append, List.getElem?_append_left (by simpa using hj)]
     exact hc
   have hko' := hko
   rw [List.map_append, List.map_cons, List.map_nil, List.length_append, List.length_cons, List.length_nil] at hko'
   have hk2 := (okTo_snoc (x := ct0) (l := p.map (cd sc)) (c := cd sc i)).1 (by rw [List.length_map]; exact hko')
   rw [List.length_map] at hk2
   have hp1 : (p ++ [i]).Nodup := List.nodup_append.2 ⟨h1, by simp, fun a ha b hb => by simp at hb; subst hb; exact fun e => hni (e ▸ ha)⟩
   refine ⟨hi, ?_, ?_⟩
   ·show (!(msk p).testBit i && ahmB sc (msk p) i && (alw (lefts ct0 (p.map (cd sc)) p.length) (cd sc i)).2) = true
    simp only [Bool.and_eq_true, Bool.not_eq_true']
    refine ⟨⟨by rw [msk_test]; simpa using hni, ?_⟩, hk2.2⟩
    unfold ahmB
    rw [List.all_eq_true]
    intro k hk
    rw [msk_test]
    cases hb : ahB (cd sc k) (cd sc i) with
    | false => simp
    | true =>
     have hA : AhP (cd sc k) (cd sc i) := by simp [ahB] at hb; exact ⟨hb.1, hb.2⟩
     have := hah k (List.mem_range.1 hk) hA
     simp [this]
   ·have := (ih (p ++ [i]) hp1 ?_ ?_ ?_ hko).2 (by rw [List.append_assoc]; exact hE)
    ·rw [msk_snoc, ← hx] at this; exact this
    ·intro j hj
     exact hE.lt j (by rcases List.mem_append.1 hj with h | h; exact List.mem_append.2 (.inl h); simp at h; subst h; simp)
    ·refine List.pairwise_append.2 ⟨h3, by simp, fun a ha b hb => ?_⟩
     simp at hb; subst hb
     exact fun e => hni (h4 a ha b hi e)
    ·intro a ha k hk hA
     rcases List.mem_append.1 ha with ha | ha
     ·exact List.mem_append.2 (.inl (h4 a ha k hk hA))
     ·simp at ha; subst ha
      exact List.mem_append.2 (.inl (hah k hk hA))
theorem go_exp0 {sc : List Cq} (hfit : ∀ c ∈ sc, Fit c) (l : List Nat) : (spc sc).Go 0 ct0 l ↔ Exp sc l := by
 have := go_exp hfit l [] (by simp) (by simp) (by simp) (by simp) (fun j hj => by simp at hj)
 simpa [msk, lefts] using this
end Go.Proofs.YtnbibkohgppjnaaGreat.Ws
namespace Go.Proofs.YtnbibkohgppjnaaGreat.Ws
open Go.RowKit Mr
def gv (P : Nat) : Value := .int .u64 (P : Int)
theorem and_pow (P i : Nat) : (P &&& 2 ^ i = 0) ↔ P.testBit i = false := by
 constructor
 ·intro h
  have := congrArg (fun n => n.testBit i) h
  simpa [Nat.testBit_and, Nat.testBit_two_pow] using this
 ·intro h
  apply Nat.eq_of_testBit_eq
  intro j
  rw [Nat.testBit_and, Nat.testBit_two_pow, Nat.zero_testBit]
  by_cases e : i = j
  ·subst e; simp [h]
  ·simp [e]
theorem pow_i (i : Nat) (h : i < 8) : ∃ q : Nat, (2 : Nat) ^ i = q ∧ q < 256 ∧ IntKind.u64.wrap ((2 : Int) ^ i) = (q : Int) := by
 match i, h with
 | 0, _ => exact ⟨_, rfl, by decide, by decide⟩
 | 1, _ => exact ⟨_, rfl, by decide, by decide⟩
 | 2, _ => exact ⟨_, rfl, by decide, by decide⟩
 | 3, _ => exact ⟨_, rfl, by decide, by decide⟩
 | 4, _ => exact ⟨_, rfl, by decide, by decide⟩
 | 5, _ => exact ⟨_, rfl, by decide, by decide⟩
 | 6, _ => exact ⟨_, rfl, by decide, by decide⟩
 | 7, _ => exact ⟨_, rfl, by decide, by decide⟩
theorem within_nat (P Q : Nat) (hP : P < 256) (hQ : Q < 256) : (P &&& (18446744073709551615 - Q) = 0) ↔ ∀ i, i < 8 → P.testBit i = true → Q.testBit i = true := by
 ·have hx : ∀ i, i < 64 → (18446744073709551615 - Q).testBit i = !Q.testBit i := by
   intro i hi
   have := Nat.testBit_two_pow_sub_succ (n := 64) (x := Q) (by omega) i
   rw [show 2 ^ 64 - (Q + 1) = 18446744073709551615 - Q from by omega] at this
   simpa [hi] using this
  constructor
  ·intro h i hi h1
   have := congrArg (fun n => n.testBit i) h
   simp only [Nat.testBit_and, h1, hx i (by omega), Bool.true_and, Nat.zero_testBit] at this
   simpa using this
  ·intro h
   apply Nat.eq_of_testBit_eq
   intro j
   rw [Nat.testBit_and, Nat.zero_testBit]
   by_cases hj : j < 8
   ·rw [hx j (by omega)]
    cases h1 : P.testBit j with
    | false => rfl
    | true => simp [h j hj h1]
   ·rw [Nat.testBit_lt_two_pow (Nat.lt_of_lt_of_le hP (show 256 ≤ 2 ^ j from Nat.pow_le_pow_right (n := 2) (by omega) (show 8 ≤ j by omega))), Bool.false_and]
def inB8 (P Q : Nat) : Bool := (List.range 8).all fun i => !P.testBit i || Q.testBit i
theorem ret_bool {a b : Bool} (h : a = b) : Ending.returned (Value.bool a) = Ending.returned (Value.bool b) := by rw [h]
set_option maxHeartbeats 2000000 in
theorem has_any (P i : Nat) (hP : P < 256) (hi : i < 8) (w : World) : Calls Tryz.prog 50 #[gv P, .int .i64 (i : Int)] w fun e w' => e = .returned (.bool (P.testBit i)) ∧ w' = w := by
 obtain ⟨q, hq, hq2, hq3⟩ := pow_i i hi
 have h0 : (0 : Int) ≤ (i : Int) := by omega
 unfold gv
 go_enter Tryz.func50, Tryz.ntmps50
 go_wp2
 go_ret
 refine ⟨ret_bool ?_, rfl⟩
 rw [u64_and _ _ (by omega) (by omega) (by omega) (by omega), Int.toNat_natCast, Int.toNat_natCast, ← hq]
 have := and_pow P i
 cases h : P.testBit i with
 | false => rw [this.2 h]; rfl
 | true =>
  have h1 : P &&& 2 ^ i ≠ 0 := fun e => by rw [this.1 e] at h; cases h
  simpa using h1
set_option maxHeartbeats 2000000 in
theorem with_any (P i : Nat) (hP : P < 256) (hi : i < 8) (w : World) : Calls Tryz.prog 28 #[gv P, .int .i64 (i : Int)] w fun e w' => e = .returned (gv (P ||| 2 ^ i)) ∧ w' = w := by
 obtain ⟨q, hq, hq2, hq3⟩ := pow_i i hi
 have h0 : (0 : Int) ≤ (i : Int) := by omega
 unfold gv
 go_enter Tryz.func28, Tryz.ntmps28
 go_wp2
 go_ret
 refine ⟨?_, rfl⟩
 show Ending.returned (Value.int IntKind.u64 (bits BinOp.or IntKind.u64 (P : Int) (q : Int))) = _
 rw [u64_or _ _ (by omega) (by omega) (by omega) (by omega), Int.toNat_natCast, Int.toNat_natCast, ← hq]
set_option maxHeartbeats 2000000 in
theorem within_any (P Q : Nat) (hP : P < 256) (hQ : Q < 256) (w : World) : Calls Tryz.prog 47 #[gv P, gv Q] w fun e w' => e = .returned (.bool (inB8 P Q)) ∧ w' = w := by
 unfold gv
 go_enter Tryz.func47, Tryz.ntmps47
 go_wp2
 go_ret
 refine ⟨ret_bool ?_, rfl⟩
 rw [u64_andNot _ _ (by omega) (by omega) (by omega) (by omega), Int.toNat_natCast, Int.toNat_natCast]
 have := within_nat P Q hP hQ
 cases h : inB8 P Q with
 | true =>
  have h2 := List.all_eq_true.1 h
  rw [this.2 (fun i hi h1 => by have := h2 i (List.mem_range.2 hi); simpa [h1] using this)]
  rfl
 | false =>
  have h1 : P &&& (18446744073709551615 - Q) ≠ 0 := by
   intro e
   have h3 := this.1 e
   have : inB8 P Q = true := List.all_eq_true.2 (fun i hi => by
    cases h4 : P.testBit i with
    | false => rfl
    | true => simp [h3 i (List.mem_range.1 hi) h4])
   rw [this] at h; cases h
  simpa using h1
end Go.Proofs.YtnbibkohgppjnaaGreat.Ws
namespace Go.Proofs.YtnbibkohgppjnaaGreat.Md
open Go.RowKit Mr
def Own (W : World) (S : Nat → Prop) (e : TypeId) (size : Nat) (v : Value) (n : Nat) (xs : List Value) : Prop :=
 xs.length = n * size ∧ ∃ a cap, v = .slice a n cap ∧ n ≤ cap ∧ cap ≤ maxLen ∧ (cap = 0 ∨ ∃ g o cur, a = some ⟨g, o, none⟩ ∧ S g ∧ W.heap[g]? = some (.cells cur e (0, 0)) ∧ o + cap * size ≤ cur.size ∧ (cur.toList.drop o).take (n * size) = xs)
section
variable {W W' : World} {S T : Nat → Prop} {e : TypeId} {size n : Nat} {v : Value} {xs : List Value}
theorem Own.kept (h : Own W S e size v n xs) (hb : ∀ k, S k → k < W.heap.size → W'.heap[k]? = W.heap[k]?) (hT : ∀ k, S k → T k) : Own W' T e size v n xs := by
 obtain ⟨h1, a, cap, hv, hc, hm, h2⟩ := h
 refine ⟨h1, a, cap, hv, hc, hm, h2.imp id ?_⟩
 rintro ⟨g, o, cur, ha, hS, hg, hs, hx⟩
 exact ⟨g, o, cur, ha, hT g hS, (hb g hS (Array.getElem?_eq_some_iff.1 hg).1).trans hg, hs, hx⟩
theorem Own.mono (h : Own W S e size v n xs) (hT : ∀ k, S k → T k) : Own W T e size v n xs := h.kept (fun _ _ _ => rfl) hT
theorem Own.fr (h : Own W S e size v n xs) (hf : Fr W W' T) (hd : ∀ k, S k → k < W.heap.size → ¬ T k) : Own W' S e size v n xs := h.kept (fun k hk hl => hf.block k hl (hd k hk hl)) (fun _ h => h)
theorem Own.below (h : Own W S e size v n xs) (hB : Below W.heap.size W W') : Own W' S e size v n xs := h.kept (fun k _ hl => hB.block k hl) (fun _ h => h)
theorem Own.of_has (h : Has W S e size v n xs) : Own W S e size v n xs := by
 refine ⟨h.1, ?_⟩
 rcases h.2 with ⟨rfl, rfl⟩ | ⟨g, cap, cur, rfl, hS, hg, hc, hm, hs, hx⟩
 ·exact ⟨none, 0, rfl, Nat.le_refl _, Nat.zero_le _, .inl rfl⟩
 ·exact ⟨_, cap, rfl, hc, hm, .inr ⟨g, 0, cur, rfl, hS, hg, by omega, by simpa using hx⟩⟩
theorem own_cells {W : World} {g o k : Nat} {cur : Array Value} {e : TypeId} {xs : List Value} (hg : W.heap[g]? = some (.cells cur e (0, 0))) (hx : (cur.toList.drop o).take k = xs) (j : Nat) (u : Value) (hu : xs[j]? = some u) : W.cell? ⟨g, o + j, none⟩ = some u := by
 rw [cell_of_row W g (o + j) cur e (0, 0) hg]
 rw [← hx, List.getElem?_take] at hu
 split at hu
 ·rw [List.getElem?_drop] at hu
  simpa using hu
 ·cases hu
theorem Own.sl (h : Own W S e size v n xs) : Sl W S size v n xs := by
 obtain ⟨h1, a, cap, hv, hc, hm, h2⟩ := h
 refine ⟨h1, a, cap, hv, hc, ?_⟩
 rcases h2 with rfl | ⟨g, o, cur, rfl, hS, hg, hs, hx⟩
 ·exact .inl (by omega)
 ·exact .inr ⟨g, o, rfl, hS, (Array.getElem?_eq_some_iff.1 hg).1, own_cells hg hx⟩
theorem Own.form (h : Own W S e size v n xs) : ∃ a cap, v = .slice a n cap ∧ n ≤ cap ∧ cap ≤ maxLen := by obtain ⟨_, a, cap, hv, hc, hm, _⟩ := h; exact ⟨a, cap, hv, hc, hm⟩
theorem Own.there (h : Own W S e size v n xs) (hn : 0 < n) : ∃ g o cap cur, v = .slice (some ⟨g, o, none⟩) n cap ∧ n ≤ cap ∧ cap ≤ maxLen ∧ S g ∧ W.heap[g]? = some (.cells cur e (0, 0)) ∧ o + cap * size ≤ cur.size ∧ (cur.toList.drop o).take (n * size) = xs := by
 obtain ⟨_, a, cap, hv, hc, hm, h2⟩ := h
 rcases h2 with rfl | ⟨g, o, cur, rfl, hS, hg, hs, hx⟩
 ·omega
 ·exact ⟨g, o, cap, cur, hv, hc, hm, hS, hg, hs, hx⟩
theorem Own.zero (W : World) (S : Nat → Prop) (e : TypeId) (size : Nat) (a : Option Addr) : Own W S e size (.slice a 0 0) 0 [] := ⟨by simp, a, 0, rfl, Nat.le_refl _, Nat.zero_le _, .inl rfl⟩
end
theorem seg_len (cur : List Value) (o k : Nat) (news : List Value) (h : o + k + news.length ≤ cur.length) : (cur.take (o + k) ++ news ++ cur.drop (o + k + news.length)).length = cur.length := by
 simp; omega
theorem seg_put (cur : List Value) (o k : Nat) (news xs : List Value) (hx : (cur.drop o).take k = xs) (hl : xs.length = k) (h : o + k + news.length ≤ cur.length) :
  ((cur.take (o + k) ++ news ++ cur.drop (o + k + news.length)).drop o).take (k + news.length) = xs ++ news := by
 have e1 : cur.take (o + k) = cur.take o ++ xs := by rw [List.take_add, hx]
 have lo : (cur.take o).length = o := by rw [List.length_take]; omega
 rw [e1, List.append_assoc, List.append_assoc, List.drop_append_of_le_length (by omega), List.drop_of_length_le (by omega), List.nil_append, ← List.append_assoc, List.take_append_of_le_length (by simp; omega), List.take_of_length_le (by simp; omega)]
section
variable {P : Program} (w : World)
theorem run_append_at (t ty e e' : TypeId) (i : TypeInfo) (ht : P.underlying t = some (.slice e)) (hi : P.info? e = some i) (g o n cap : Nat) (cur : Array Value) (hg : w.heap[g]? = some (.cells cur e' (0, 0)))
  (a : Addr) (m c : Nat) (news : List Value) (hl : news.length = m * i.size) (hnews : ∀ j u, news[j]? = some u → w.cell? (a.add j) = some u) (h1 : ∀ u ∈ news, u.oneCell' = true) (hroom : n + m ≤ cap) (hfit : o + n * i.size + news.length ≤ cur.size) :
  (Builtin.append_ #[t, t] ty #[.slice (some ⟨g, o, none⟩) n cap, .slice (some a) m c]).run P w = .ok (.slice (some ⟨g, o, none⟩) (n + m) cap) (w.setRow g (cur.toList.take (o + n * i.size) ++ news ++ cur.toList.drop (o + n * i.size + news.length)).toArray) := by
 have hfc := run_firstCells_some (P := P) w i.size m a m c news hl hnews
 have hst := run_storeCells_at P g (o + n * i.size) e' news 0 cur w hg (by simpa using hfit) h1
 simp only [Nat.add_zero] at hst
 simp [Builtin.append_, run_underlying ht, sizeOf, typeInfo, hi, Builtin.lenOf, hroom, hfc, Addr.add_lit, hst]
theorem setRow_fr {w : World} {S : Nat → Prop} {g : Nat} (hS : S g) (cs : Array Value) : Fr w (w.setRow g cs) S := ⟨rfl, rfl, rfl, by simp, fun k _ hk => setRow_other w g k _ (fun e => hk (e ▸ hS))⟩
theorem run_append_mine (S : Nat → Prop) (t ty e : TypeId) (i : TypeInfo) (z : Value) (size bytes : Nat) (ht : P.underlying t = some (.slice e)) (hi : P.info? e = some i) (hz : i.zero = some z)
  (hsize : i.size = size) (hby : i.bytes = bytes) (hzs : z.cells.size = size) (v : Value) (n : Nat) (xs : List Value) (hown : Own w S e size v n xs) (a0 : Option Addr) (m c : Nat) (news : List Value) (hl : news.length = m * size) (ha : a0 = none → m = 0) (hnews : ∀ ad, a0 = some ad → ∀ j u, news[j]? = some u → w.cell? (ad.add j) = some u)
  (h1 : ∀ u ∈ news, u.oneCell' = true) (h63 : n + m ≤ maxLen) (hbytes : ((n + m) + (n + m) / 4 + 192) * bytes ≤ 281474976710656) :
  ∃ b' cap' w', (Builtin.append_ #[t, t] ty #[v, .slice a0 m c]).run P w = .ok (.slice b' (n + m) cap') w' ∧ Own w' (fun k => S k ∨ k = w.heap.size) e size (.slice b' (n + m) cap') (n + m) (xs ++ news) ∧ Fr w w' S := by
 subst hsize
 subst hby
 have hsmall : n + m ≤ 9223372036854775807 := by simp only [maxLen] at h63; omega
 by_cases hm : m = 0
 ·subst hm
  have hn : news = [] := List.eq_nil_of_length_eq_zero (by simpa using hl)
  subst hn
  obtain ⟨b0, cap, rfl, hc, _⟩ := hown.form
  refine ⟨b0, cap, w, ?_, ?_, Fr.refl _ _⟩
  ·cases b0 <;> cases a0 <;> simp [Builtin.append_, run_underlying ht, sizeOf, typeInfo, hi, Builtin.lenOf, Builtin.firstCells, loadCells, loadCellsFrom, hc, storeCells]
  ·rw [List.append_nil]; exact hown.mono (fun _ => .inl)
 ·cases a0 with
  | none => exact absurd (ha rfl) hm
  | some a =>
   have hnews := hnews a rfl
   have hlen : (xs ++ news).length = (n + m) * i.size := by rw [List.length_append, hown.1, hl, Nat.add_mul]
   have hfr : ∀ o, Fr w (w.drew.alloc o) S := fun o => (Fr.refl w S).drew.alloc o
   obtain ⟨hx1, b0, cap, rfl, hc, hcm, h2⟩ := hown
   rcases h2 with rfl | ⟨g, o, cur, rfl, hS, hg, hs, hx⟩
   ·obtain rfl : n = 0 := by omega
    have hx : xs = [] := List.eq_nil_of_length_eq_zero (by simpa using hx1)
    subst hx
    have hgr := grown_has w e i.size z hzs (0 + m) 0 h63 (fun k => S k ∨ k = w.heap.size) (.inr rfl) ([] ++ news) hlen #[] news.toArray (by simp) none
    have hbz : Builtin.nextslicecap m 0 * i.bytes ≤ 281474976710656 := by rw [Nat.zero_add] at hbytes; exact growslice_fits_wide (by omega) hbytes
    cases b0 with
    | none =>
     have hr := run_append_nil (P := P) w t ty e i z ht hi hz a m c news hl hnews (by omega) (by omega) (by
      refine Nat.le_trans (Nat.mul_le_mul_right _ ?_) hbytes; omega)
     simp only [Nat.zero_add, List.nil_append, Array.empty_append] at hgr ⊢
     exact ⟨_, _, _, hr, Own.of_has hgr.1, hfr _⟩
    | some b =>
     have hr := run_append_grow (P := P) w t ty e i z ht hi hz b 0 0 [] (by simp) (fun j u hu => by simp at hu) a m c news hl hnews (by omega) (by omega) (by simpa using hbz)
     simp only [Nat.zero_add, List.nil_append] at hgr hr ⊢
     exact ⟨_, _, _, hr, Own.of_has hgr.1, hfr _⟩
   ·by_cases hroom : n + m ≤ cap
    ·have hmul : (n + m) * i.size ≤ cap * i.size := Nat.mul_le_mul_right _ hroom
     rw [Nat.add_mul] at hmul
     have hfit : o + n * i.size + news.length ≤ cur.size := by omega
     have hr := run_append_at (P := P) w t ty e e i ht hi g o n cap cur hg a m c news hl hnews h1 hroom hfit
     refine ⟨_, _, _, hr, ⟨hlen, _, cap, rfl, hroom, hcm, .inr ⟨g, o, _, rfl, .inl hS, setRow_heap w g cur _ e _ hg, ?_, ?_⟩⟩, setRow_fr hS _⟩
     ·have := seg_len cur.toList o (n * i.size) news (by simpa using hfit)
      simp only [List.size_toArray]
      rw [this]
      simpa using hs
     ·rw [Nat.add_mul, ← hl]
      exact seg_put cur.toList o (n * i.size) news xs hx hx1 (by simpa using hfit)
    ·have holds : ∀ j u, xs[j]? = some u → w.cell? ((⟨g, o, none⟩ : Addr).add j) = some u := fun j u hu => by
      rw [add1]; exact own_cells hg hx j u hu
     have hr := run_append_grow (P := P) w t ty e i z ht hi hz ⟨g, o, none⟩ n cap xs hx1 holds a m c news hl hnews (by omega) (by omega) (growslice_fits_wide (by omega) hbytes)
     have hgr := grown_has w e i.size z hzs (n + m) cap h63 (fun k => S k ∨ k = w.heap.size) (.inr rfl) (xs ++ news) hlen xs.toArray news.toArray (by simp) none
     exact ⟨_, _, _, hr, Own.of_has hgr.1, hfr _⟩
theorem wp_append_mine {o : Oper} {a : Act} {K : Act → World → Prop} {Q : Exit → Act → World → Prop} (s x : Operand) (t : TypeId)
  (ho : o.op = .call { callee := .builtin .append, args := #[s, x], argTypes := #[t, t] })
  (S : Nat → Prop) (e : TypeId) (i : TypeInfo) (z : Value) (size bytes : Nat) (ht : P.underlying t = some (.slice e)) (hi : P.info? e = some i) (hz : i.zero = some z)
  (hsize : i.size = size) (hby : i.bytes = bytes) (hzs : z.cells.size = size) (v : Value) (n : Nat) (xs : List Value) (hs : a.eval s = v) (hown : Own w S e size v n xs) (a0 : Option Addr) (m c : Nat) (news : List Value) (hx : a.eval x = .slice a0 m c) (hl : news.length = m * size) (ha : a0 = none → m = 0) (hnews : ∀ ad, a0 = some ad → ∀ j u, news[j]? = some u → w.cell? (ad.add j) = some u)
  (h1 : ∀ u ∈ news, u.oneCell' = true) (h63 : n + m ≤ maxLen) (hbytes : ((n + m) + (n + m) / 4 + 192) * bytes ≤ 281474976710656)
  (h : ∀ b' cap' w', Own w' (fun k => S k ∨ k = w.heap.size) e size (.slice b' (n + m) cap') (n + m) (xs ++ news) → Fr w w' S → K (a.put o.dst (.slice b' (n + m) cap')) w') : o.wp P a w K Q := by
 obtain ⟨b', cap', w', hr, h2, h3⟩ := run_append_mine (P := P) w S t o.type e i z size bytes ht hi hz hsize hby hzs v n xs hown a0 m c news hl ha hnews h1 h63 hbytes
 unfold Oper.wp execOp
 simp only [ho, resolve, invoke, builtin, Sem.run_bind, Sem.run_pure, Result.andThen_ok, List.map_toArray, List.map_cons, List.map_nil, hs, hx, hr]
 exact h b' cap' w' h2 h3
theorem wpList_append_mine {ops : Array Oper} {rest : List Oper} {o : Oper} {a : Act} {Q : Exit → Act → World → Prop} (hgd : o.guard = none) (s x : Operand) (t : TypeId)
  (ho : o.op = .call { callee := .builtin .append, args := #[s, x], argTypes := #[t, t] })
  (S : Nat → Prop) (e : TypeId) (i : TypeInfo) (z : Value) (size bytes : Nat) (ht : P.underlying t = some (.slice e)) (hi : P.info? e = some i) (hz : i.zero = some z)
  (hsize : i.size = size) (hby : i.bytes = bytes) (hzs : z.cells.size = size) (v : Value) (n : Nat) (xs : List Value) (hs : a.eval s = v) (hown : Own w S e size v n xs) (a0 : Option Addr) (m c : Nat) (news : List Value) (hx : a.eval x = .slice a0 m c) (hl : news.length = m * size) (ha : a0 = none → m = 0) (hnews : ∀ ad, a0 = some ad → ∀ j u, news[j]? = some u → w.cell? (ad.add j) = some u)
  (h1 : ∀ u ∈ news, u.oneCell' = true) (h63 : n + m ≤ maxLen) (hbytes : ((n + m) + (n + m) / 4 + 192) * bytes ≤ 281474976710656)
  (h : ∀ b' cap' w', Own w' (fun k => S k ∨ k = w.heap.size) e size (.slice b' (n + m) cap') (n + m) (xs ++ news) → Fr w w' S → wpList P ops Q rest (a.put o.dst (.slice b' (n + m) cap')) w') : wpList P ops Q (o :: rest) a w :=
 wpList_plain hgd fun _ hK => wp_append_mine w s x t ho S e i z size bytes ht hi hz hsize hby hzs v n xs hs hown a0 m c news hx hl ha hnews h1 h63 hbytes fun b' cap' w' h2 h3 => hK _ _ (h b' cap' w' h2 h3)
theorem step_append_mine {ops : Array Oper} {o : Oper} {a : Act} {K : Act → World → Prop} {Q : Exit → Act → World → Prop} {E : Prop} (hgd : o.guard = none) (s x : Operand) (t : TypeId)
  (ho : o.op = .call { callee := .builtin .append, args := #[s, x], argTypes := #[t, t] })
  (S : Nat → Prop) (e : TypeId) (i : TypeInfo) (z : Value) (size bytes : Nat) (ht : P.underlying t = some (.slice e)) (hi : P.info? e = some i) (hz : i.zero = some z)
  (hsize : i.size = size) (hby : i.bytes = bytes) (hzs : z.cells.size = size) (v : Value) (n : Nat) (xs : List Value) (hs : a.eval s = v) (hown : Own w S e size v n xs) (a0 : Option Addr) (m c : Nat) (news : List Value) (hx : a.eval x = .slice a0 m c) (hl : news.length = m * size) (ha : a0 = none → m = 0) (hnews : ∀ ad, a0 = some ad → ∀ j u, news[j]? = some u → w.cell? (ad.add j) = some u)
  (h1 : ∀ u ∈ news, u.oneCell' = true) (h63 : n + m ≤ maxLen) (hbytes : ((n + m) + (n + m) / 4 + 192) * bytes ≤ 281474976710656)
  (h : ∀ b' cap' w', Own w' (fun k => S k ∨ k = w.heap.size) e size (.slice b' (n + m) cap') (n + m) (xs ++ news) → Fr w w' S → K (a.put o.dst (.slice b' (n + m) cap')) w') :
  if Region.wanted o (yielded ops a.tmps) = true then Oper.wp P o a w K Q else E := by
 have hw : Region.wanted o (yielded ops a.tmps) = true := by simp [Region.wanted, hgd]
 rw [if_pos hw]
 exact wp_append_mine w s x t ho S e i z size bytes ht hi hz hsize hby hzs v n xs hs hown a0 m c news hx hl ha hnews h1 h63 hbytes h
theorem run_copy_at (dT sT ty e e' : TypeId) (i : TypeInfo) (hu : P.underlying dT = some (.slice e)) (hi : P.info? e = some i) (g o dLen dCap : Nat) (a : Addr) (sLen sCap : Nat) (cur : Array Value) (cs : List Value)
  (hg : w.heap[g]? = some (.cells cur e' (0, 0))) (hn : cs.length = Nat.min sLen dLen * i.size) (hsrc : ∀ j v, cs[j]? = some v → w.cell? (a.add j) = some v) (hfit : o + cs.length ≤ cur.size) (h1 : ∀ v ∈ cs, v.oneCell' = true) :
  (Builtin.copy_ #[dT, sT] ty #[.slice (some ⟨g, o, none⟩) dLen dCap, .slice (some a) sLen sCap]).run P w =
   .ok (goInt (Nat.min sLen dLen)) (w.setRow g (cur.toList.take o ++ cs ++ cur.toList.drop (o + cs.length)).toArray) := by
 have hl := run_loadCells_list (P := P) w a cs hsrc
 have hst := run_storeCells_at P g o e' cs 0 cur w hg (by simpa using hfit) h1
 simp [Builtin.copy_, run_underlying hu, Builtin.lenOf, Builtin.firstCells, sizeOf, typeInfo, hi, ← hn, hl, hst]
theorem run_clear_at (t e e' ty : TypeId) (z : Value) (ht : P.underlying t = some (.slice e)) (hv : ∀ w, (zeroValue e).run P w = .ok z w) (g o n c : Nat) (hn : 0 < n) (cur : Array Value) (zs : List Value) (hz : (Builtin.zeroCells z.cells n).toList = zs)
  (hg : w.heap[g]? = some (.cells cur e' (0, 0))) (hfit : o + zs.length ≤ cur.size) (h1 : ∀ v ∈ zs, v.oneCell' = true) :
  (Builtin.clear_ #[t] ty #[.slice (some ⟨g, o, none⟩) n c]).run P w = .ok (.tuple #[]) (w.setRow g (cur.toList.take o ++ zs ++ cur.toList.drop (o + zs.length)).toArray) := by
 have hst := run_storeCells_at P g o e' zs 0 cur w hg (by simpa using hfit) h1
 simp only [Nat.add_zero] at hst
 obtain ⟨m, rfl⟩ : ∃ m, n = m + 1 := ⟨n - 1, by omega⟩
 simp [Builtin.clear_, run_underlying ht, hv, hz, hst]
end
end Go.Proofs.YtnbibkohgppjnaaGreat.Md
namespace Go.Proofs.YtnbibkohgppjnaaGreat.Md
open Go.RowKit Mr
theorem mp_int : (Tryz.prog.info? 3).map (fun i => (i.zero, i.size, i.bytes)) = some (some (.int .i64 0), 1, 8) := by kernel_rfl
theorem mp_pair : (Tryz.prog.info? 92).map (fun i => (i.zero, i.size, i.bytes)) = some (some (.agg #[.int .i64 0, .int .i64 0]), 2, 16) := by kernel_rfl
theorem ints_len (l : List Int) : (ints l).length = l.length * 1 := by simp [ints]
theorem ints_one (l : List Int) : ∀ u ∈ ints l, u.oneCell' = true := by
 intro u hu
 obtain ⟨x, _, rfl⟩ := List.mem_map.1 hu
 rfl
theorem prs_one (l : List (Int × Int)) : ∀ u ∈ prs l, u.oneCell' = true := by
 intro u hu
 simp only [prs, List.mem_flatMap, pr] at hu
 obtain ⟨x, _, hu⟩ := hu
 simp at hu
 rcases hu with rfl | rfl <;> rfl
theorem Sl.news {W : World} {T : Nat → Prop} {size n : Nat} {a : Option Addr} {cap : Nat} {xs : List Value} (h : Sl W T size (.slice a n cap) n xs) (o : Obj) : ∀ ad, a = some ad → ∀ j u, xs[j]? = some u → (W.alloc o).cell? (ad.add j) = some u := by
 rintro ad rfl j u hu
 obtain ⟨hl, a, cap', hv, hc, h2⟩ := h
 rcases h2 with rfl | ⟨b, o', rfl, hT, hlt, hr⟩
 ·have : xs = [] := List.eq_nil_of_length_eq_zero (by simpa using hl)
  subst this
  simp at hu
 ·injection hv with e1 e2 e3
  cases e1
  rw [add1, World.cell?_alloc_past _ _ _ hlt]
  exact hr j u hu
theorem Sl.nothing {W : World} {T : Nat → Prop} {size n cap : Nat} {xs : List Value} (h : Sl W T size (.slice none n cap) n xs) : n = 0 := by
 obtain ⟨hl, a, cap', hv, hc, h2⟩ := h
 rcases h2 with rfl | ⟨b, o', rfl, _⟩
 ·rfl
 ·cases hv
set_option maxRecDepth 100000 in
set_option maxHeartbeats 1000000 in
theorem cloneI_any {w : World} {S : Nat → Prop} {u : Value} {l : List Int} (hu : Sl w S 1 u l.length (ints l)) (hsm : l.length * 8 ≤ 225100000000000) :
  Calls Tryz.prog 113 #[u] w fun e w' => ∃ v', e = .returned v' ∧ Own w' (fun k => w.heap.size ≤ k) 3 1 v' l.length (ints l) ∧ Below w.heap.size w w' := by
 obtain ⟨i0, hi, hz0, hz1, hz2⟩ := info_parts mp_int
 obtain ⟨a, c, rfl, hc⟩ := hu.form
 have hN := hu.news
 have hl := ints_len l
 have h1 := ints_one l
 cases a with
 | none =>
  have h0 : l = [] := List.eq_nil_of_length_eq_zero hu.nothing
  subst h0
  clear hu hN hl h1
  simp only [List.length_nil] at *
  have en := fun (w : World) => Lib.run_eql_slice_nil (P := Tryz.prog) w 24 3 none 0 c 0 0 Tryz.underlying24
  go_enter Tryz.func113, Tryz.ntmps113
  go_wp2
  go_ret
  exact ⟨_, rfl, Own.zero _ _ _ _ _, Below.refl _ _⟩
 | some ad =>
  have en := fun (w : World) => Lib.run_eql_slice_nil (P := Tryz.prog) w 24 3 (some ad) l.length c 0 0 Tryz.underlying24
  clear hu
  generalize ints l = xs at *
  generalize l.length = n at *
  replace hN := Mr.hid hN
  replace hl := Mr.hid hl
  replace h1 := Mr.hid h1
  go_enter Tryz.func113, Tryz.ntmps113
  go_wp2_with (at_builtin; refine wpList_append_mine _ rfl (.tmp 5) (.tmp 6) 24 rfl (fun k => w.heap.size ≤ k) 3 i0 _ 1 8 Tryz.underlying24 hi hz0 hz1 hz2 rfl (.slice (some ⟨w.heap.size, 0, none⟩) 0 0) 0 [] rfl (Own.zero _ _ _ _ _) (some ad) n c xs rfl hl.out (fun e => by cases e) (hN.out _) h1.out (by unfold maxLen; omega) (by omega) ?_; intro b' cap' w1 hown hfr)
  go_ret
  rw [Nat.zero_add, List.nil_append] at hown
  exact ⟨_, rfl, hown.mono (fun k h => by rcases h with h | h; exact h; simp at h; omega), ((Below.refl _ _).alloc (Nat.le_refl _) _).trans (hfr.below (fun _ h => h) (by simp))⟩
set_option maxRecDepth 100000 in
set_option maxHeartbeats 1000000 in
theorem cloneP_any {w : World} {S : Nat → Prop} {u : Value} {l : List (Int × Int)} (hu : Sl w S 2 u l.length (prs l)) (hsm : l.length * 16 ≤ 225100000000000) :
  Calls Tryz.prog 115 #[u] w fun e w' => ∃ v', e = .returned v' ∧ Own w' (fun k => w.heap.size ≤ k) 92 2 v' l.length (prs l) ∧ Below w.heap.size w w' := by
 obtain ⟨i0, hi, hz0, hz1, hz2⟩ := info_parts mp_pair
 obtain ⟨a, c, rfl, hc⟩ := hu.form
 have hN := hu.news
 have hl := prs_length l
 have h1 := prs_one l
 cases a with
 | none =>
  have h0 : l = [] := List.eq_nil_of_length_eq_zero hu.nothing
  subst h0
  clear hu hN hl h1
  simp only [List.length_nil] at *
  have en := fun (w : World) => Lib.run_eql_slice_nil (P := Tryz.prog) w 53 92 none 0 c 0 0 Tryz.underlying53
  go_enter Tryz.func115, Tryz.ntmps115
  go_wp2
  go_ret
  exact ⟨_, rfl, Own.zero _ _ _ _ _, Below.refl _ _⟩
 | some ad =>
  have en := fun (w : World) => Lib.run_eql_slice_nil (P := Tryz.prog) w 53 92 (some ad) l.length c 0 0 Tryz.underlying53
  clear hu
  generalize prs l = xs at *
  generalize l.length = n at *
  replace hN := Mr.hid hN
  replace hl := Mr.hid hl
  replace h1 := Mr.hid h1
  go_enter Tryz.func115, Tryz.ntmps115
  go_wp2_with (at_builtin; refine wpList_append_mine _ rfl (.tmp 5) (.tmp 6) 53 rfl (fun k => w.heap.size ≤ k) 92 i0 _ 2 16 Tryz.underlying53 hi hz0 hz1 hz2 rfl (.slice (some ⟨w.heap.size, 0, none⟩) 0 0) 0 [] rfl (Own.zero _ _ _ _ _) (some ad) n c xs rfl hl.out (fun e => by cases e) (hN.out _) h1.out (by unfold maxLen; omega) (by omega) ?_; intro b' cap' w1 hown hfr)
  go_ret
  rw [Nat.zero_add, List.nil_append] at hown
  exact ⟨_, rfl, hown.mono (fun k h => by rcases h with h | h; exact h; simp at h; omega), ((Below.refl _ _).alloc (Nat.le_refl _) _).trans (hfr.below (fun _ h => h) (by simp))⟩
theorem Own.set {W : World} {S : Nat → Prop} {e : TypeId} {n g o cap : Nat} {xs : List Value} (h : Own W S e 1 (.slice (some ⟨g, o, none⟩) n cap) n xs) (i : Nat) (hi : i < n) (u : Value) : Own (W.setCell ⟨g, o + i, none⟩ u) S e 1 (.slice (some ⟨g, o, none⟩) n cap) n (xs.set i u) := by
 obtain ⟨g', o', cap', cur, hv, hc, hm, hS, hg, hs, hx⟩ := h.there (by omega)
 cases hv
 refine ⟨by simpa using h.1, _, cap, rfl, hc, hm, .inr ⟨g, o, _, rfl, hS, setBlk hg _ u, by simpa using hs, ?_⟩⟩
 rw [Array.toList_setIfInBounds, List.drop_set, if_neg (by omega), Nat.add_sub_cancel_left, List.take_set, hx]
theorem Own.drew {W : World} {S : Nat → Prop} {e : TypeId} {size n : Nat} {v : Value} {xs : List Value} (h : Own W S e size v n xs) : Own W.drew S e size v n xs := h.kept (fun _ _ _ => rfl) (fun _ h => h)
theorem ints_set (l : List Int) (i : Nat) (x : Int) : (ints l).set i (.int .i64 x) = ints (l.set i x) := by simp [ints, List.map_set]
def Rev (l d : List Int) (i : Nat) : Prop := d.length = l.length ∧ ∀ t, t < l.length → d[t]? = if t < i ∨ l.length < t + i + 1 then l[l.length - 1 - t]? else l[t]?
theorem rev_zero (l : List Int) : Rev l l 0 := ⟨rfl, fun t ht => by rw [if_neg (by omega)]⟩
theorem rev_step {l d : List Int} {i : Nat} (h : Rev l d i) (hi : 2 * i + 1 < l.length) : Rev l ((d.set i (d[l.length - 1 - i]?.getD 0)).set (l.length - 1 - i) (d[i]?.getD 0)) (i + 1) := by
 obtain ⟨h1, h2⟩ := h
 refine ⟨by simpa using h1, fun t ht => ?_⟩
 have e1 : d[i]? = l[i]? := by rw [h2 i (by omega), if_neg (by omega)]
 have e2 : d[l.length - 1 - i]? = l[l.length - 1 - i]? := by rw [h2 _ (by omega), if_neg (by omega)]
 have g1 : l[i]? = some (l[i]?.getD 0) := by rw [List.getElem?_eq_getElem (by omega)]; rfl
 have g2 : l[l.length - 1 - i]? = some (l[l.length - 1 - i]?.getD 0) := by rw [List.getElem?_eq_getElem (by omega)]; rfl
 rw [e1, e2]
 by_cases ht1 : t = l.length - 1 - i
 ·subst ht1
  rw [List.getElem?_set_self (by simp; omega), if_pos (by omega), show l.length - 1 - (l.length - 1 - i) = i from by omega]
  exact g1.symm
 ·rw [List.getElem?_set_ne (by omega)]
  by_cases ht2 : t = i
  ·subst ht2
   rw [List.getElem?_set_self (by omega), if_pos (by omega)]
   exact g2.symm
  ·rw [List.getElem?_set_ne (by omega), h2 t ht]
   by_cases ht3 : t < i ∨ l.length < t + i + 1
   ·rw [if_pos ht3, if_pos (by omega)]
   ·rw [if_neg ht3, if_neg (by omega)]
theorem rev_end {l d : List Int} {i : Nat} (h : Rev l d i) (hi : l.length ≤ 2 * i + 1) : d = l.reverse := by
 apply List.ext_getElem?
 intro t
 by_cases ht : t < l.length
 ·rw [h.2 t ht, List.getElem?_reverse ht]
  by_cases c : t < i ∨ l.length < t + i + 1
  ·rw [if_pos c]
  ·rw [if_neg c, show l.length - 1 - t = t from by omega]
 ·rw [List.getElem?_eq_none (by have := h.1; omega), List.getElem?_eq_none (by simp; omega)]
set_option maxRecDepth 100000 in
set_option maxHeartbeats 4000000 in
theorem reverse_any {w : World} {S : Nat → Prop} {v : Value} {l : List Int} (hv : Own w S 3 1 v l.length (ints l)) :
  Calls Tryz.prog 119 #[v] w fun e w' => e = .returned (.tuple #[]) ∧ Own w' S 3 1 v l.length (ints l.reverse) ∧ Fr w w' S := by
 obtain ⟨a, c, rfl, hc, hm⟩ := hv.form
 obtain ⟨n, hn⟩ : ∃ n, n = l.length := ⟨_, rfl⟩
 rw [← hn] at hv hc ⊢
 unfold maxLen at hm
 have hR := rev_zero l
 replace hn := Mr.hid hn
 replace hv := Mr.hid hv
 replace hR := Mr.hid hR
 go_enter Tryz.func119, Tryz.ntmps119
 go_wp2
 go_loopg [2, 3] n (fun k s2 s3 wr => ∃ (i : Nat) (d : List Int), s2 = .int .i64 (i : Int) ∧ s3 = .int .i64 ((n : Int) - 1 - (i : Int)) ∧ i + k = n ∧ Own wr S 3 1 (.slice a n c) n (ints d) ∧ Fr w wr S ∧ Rev l d i)
 case atStart => exact ⟨0, l, rfl, by simp, by omega, hv.out, Fr.refl _ _, hR.out⟩
 case round =>
  obtain ⟨i, d, rfl, rfl, hi, hO, hF, hR'⟩ := hrel
  clear hR hv
  by_cases hlt : 2 * i + 1 < n
  ·obtain ⟨g, o, cap, cur, hv, hc', hm', hS, hg, hs, hx⟩ := hO.there (by omega)
   cases hv
   have hd : d.length = n := by rw [hR'.1]; exact hn.out.symm
   have c1 := own_cells hg hx i _ (ints_get d i (by omega))
   have c2 := own_cells hg hx (n - 1 - i) _ (ints_get d (n - 1 - i) (by omega))
   have z1 : wr.frozen? ⟨g, o + i, none⟩ = false := by simp [World.frozen?, hg]
   have z2 : wr.frozen? ⟨g, o + (n - 1 - i), none⟩ = false := by simp [World.frozen?, hg]
   have st := rev_step hR' (by have := hn.out; omega)
   rw [← hn.out] at st
   obtain ⟨j, hj⟩ : ∃ j, j = n - 1 - i := ⟨_, rfl⟩
   rw [← hj] at c2 z2 st
   have ej : (n : Int) - 1 - (i : Int) = (j : Int) := by omega
   rw [ej]
   have p1 : (0 : Int) ≤ (i : Int) := by omega
   have p2 : (i : Int) < (n : Int) := by omega
   have p3 : (0 : Int) ≤ (j : Int) := by omega
   have p4 : (j : Int) < (n : Int) := by omega
   have p5 : (i : Int) < (j : Int) := by omega
   have p6 : i ≠ j := by omega
   have hj2 : j < n := by omega
   have hi2 : i < n := by omega
   have ej2 : (n : Int) - 1 - ((i + 1 : Nat) : Int) = (j : Int) - 1 := by omega
   generalize d[i]?.getD 0 = q1 at *
   generalize d[j]?.getD 0 = q2 at *
   replace ej := Mr.hid ej
   replace ej2 := Mr.hid ej2
   replace hj := Mr.hid hj
   replace hO := Mr.hid hO
   replace hF := Mr.hid hF
   replace st := Mr.hid st
   replace hg := Mr.hid hg
   clear hR' hx hs
   go_wp2_with fail
   go_region
   go_wp2
   go_roundg (gk - 1)
   case measure => omega
   case rel => exact ⟨i + 1, _, by simp, by rw [ej2.out], by omega, by rw [← ints_set, ← ints_set]; exact ((hO.out.set i hi2 (.int .i64 q2)).set j hj2 (.int .i64 q1)).drew, ((hF.out.setCell ⟨g, o + i, none⟩ (.int .i64 q2) (.inl hS)).setCell ⟨g, o + j, none⟩ (.int .i64 q1) (.inl hS)).drew, st.out⟩
  ·have d1 : decide ((i : Int) < (n : Int) - 1 - (i : Int)) = false := decide_eq_false (by omega)
   have he := rev_end hR' (by have := hn.out; omega)
   subst he
   replace hO := Mr.hid hO
   replace hF := Mr.hid hF
   clear hR'
   go_wp2
   go_end0
   exact ⟨rfl, hO.out, hF.out⟩
set_option maxRecDepth 100000 in
set_option maxHeartbeats 1000000 in
theorem turned_any {w : World} {S : Nat → Prop} {u : Value} {l : List Int} (hu : Sl w S 1 u l.length (ints l)) (hsm : l.length * 8 ≤ 225100000000000) :
  Calls Tryz.prog 114 #[u] w fun e w' => ∃ v', e = .returned v' ∧ Own w' (fun k => w.heap.size ≤ k) 3 1 v' l.length (ints l.reverse) ∧ Below w.heap.size w w' := by
 obtain ⟨a, c, rfl, hc⟩ := hu.form
 have C1 := cloneI_any hu hsm
 have C2 := fun (w' : World) v (h : Own w' (fun k => w.heap.size ≤ k) 3 1 v l.length (ints l)) => reverse_any h
 clear hu
 replace C1 := Mr.hid C1
 replace C2 := Mr.hid C2
 go_enter Tryz.func114, Tryz.ntmps114
 go_wp2_with (first | (go_at_call 113; refine C1.out.mono ?_; rintro e w1 ⟨v1, rfl, hO, hB⟩; obtain ⟨a1, c1, rfl, _, _⟩ := hO.form; replace hO := Mr.hid hO) | (go_at_call 119; refine (C2.out _ _ hO.out).mono ?_; rintro e w2 ⟨rfl, hO2, hF⟩))
 go_ret
 exact ⟨_, rfl, hO2, hB.trans (hF.below (fun _ h => h) hB.size)⟩
end Go.Proofs.YtnbibkohgppjnaaGreat.Md
