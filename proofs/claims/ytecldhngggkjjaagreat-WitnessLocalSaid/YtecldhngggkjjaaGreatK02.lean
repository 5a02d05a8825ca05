import Derived.Test.YtecldhngggkjjaaGreatK01
import Derived.Test.YtecldhngggkjjaaGreatJ51
namespace Go.Proofs.YtecldhngggkjjaaGreat.Ws
open Md Wt
set_option linter.unusedVariables false
set_option linter.unusedSimpArgs false
structure Ex (cs os : List Cq) : Prop where
 nod : os.Nodup
 mem : ∀ c ∈ os, c ∈ cs ∧ obj c.op ≠ 0
 full : ∀ c ∈ cs, obj c.op ≠ 0 → c.fin ≠ -1 → c ∈ os
 tim : os.Pairwise (fun c d => ¬ AhP d c)
 ans : okL ct0 os
theorem may_nodup {cs : List Cq} (h : MayC cs) : cs.Pairwise (fun c d => c.beg < d.beg) := by
 rw [List.pairwise_iff_getElem]
 intro i j hi hj hij
 exact up_lt h i j _ _ hij (List.getElem?_eq_getElem hi) (List.getElem?_eq_getElem hj)
theorem may_inj {cs : List Cq} (h : MayC cs) {i j : Nat} {c : Cq} (hi : cs[i]? = some c) (hj : cs[j]? = some c) : i = j := by
 rcases Nat.lt_trichotomy i j with e | e | e
 ·have := up_lt h i j c c e hi hj; omega
 ·exact e
 ·have := up_lt h j i c c e hj hi; omega
theorem oks_ex {cs : List Cq} (h : MayC cs) {o : List Int} (ho : Oks cs o) : Ex cs (ordc cs o) := by
 obtain ⟨⟨⟨s1, s2⟩, f1⟩, t1, k1⟩ := ho
 rw [List.take_length] at s2
 have hx : ∀ x ∈ o, 0 ≤ x ∧ ∃ c, cs[x.toNat]? = some c ∧ obj c.op ≠ 0 ∧ callD cs x = c := fun x hx => by
  obtain ⟨j, hj, e⟩ := List.getElem_of_mem hx
  obtain ⟨q1, c, q2, q3⟩ := s1 j x hj (by rw [List.getElem?_eq_getElem hj, e])
  exact ⟨q1, c, q2, q3, by simp [callD, q2]⟩
 refine ⟨nodup_map s2 (fun a ha b hb e => ?_), fun c hc => ?_, fun c hc ho hf => ?_, pair_int.1 t1, (okTo_iff _ _).1 (by rw [ordc_len]; exact k1)⟩
 ·obtain ⟨p1, c, p2, _, p4⟩ := hx a ha
  obtain ⟨q1, d, q2, _, q4⟩ := hx b hb
  rw [p4, q4] at e
  subst e
  have := may_inj h p2 q2
  omega
 ·obtain ⟨x, hm, rfl⟩ := List.mem_map.1 hc
  obtain ⟨p1, c, p2, p3, p4⟩ := hx x hm
  rw [p4]
  exact ⟨List.mem_of_getElem? p2, p3⟩
 ·obtain ⟨i, hi, e⟩ := List.getElem_of_mem hc
  have hci : cs[i]? = some c := by rw [List.getElem?_eq_getElem hi, e]
  exact List.mem_map.2 ⟨(i : Int), f1 i c hi hci ho hf, callD_get hci⟩
open Classical in
theorem ex_oks {cs os : List Cq} (h : MayC cs) (he : Ex cs os) : ∃ o, Oks cs o := by
 have key : ∀ c ∈ os, cs.idxOf c < cs.length ∧ cs[cs.idxOf c]? = some c := fun c hc => by
  have hm := (he.mem c hc).1
  have hl := List.idxOf_lt_length_iff.2 hm
  exact ⟨hl, by rw [List.getElem?_eq_getElem hl, List.getElem_idxOf hl]⟩
 have hord : ordc cs (os.map (fun c => (cs.idxOf c : Int))) = os := by
  rw [ordc, List.map_map]
  conv => rhs; rw [← List.map_id os]
  exact List.map_congr_left (fun c hc => callD_get (key c hc).2)
 refine ⟨os.map (fun c => (cs.idxOf c : Int)), ⟨⟨fun j x hj hx => ?_, ?_⟩, fun i c hi hc ho hf => ?_⟩, ?_, ?_⟩
 ·rw [List.getElem?_map] at hx
  cases hq : os[j]? with
  | none => rw [hq] at hx; cases hx
  | some c =>
   rw [hq] at hx
   cases hx
   have hm := List.mem_of_getElem? hq
   exact ⟨Int.natCast_nonneg _, c, by simpa using (key c hm).2, (he.mem c hm).2⟩
 ·rw [List.take_length]
  refine nodup_map he.nod (fun a ha b hb e => ?_)
  have e' : cs.idxOf a = cs.idxOf b := Int.ofNat.inj e
  have h1 := (key a ha).2
  rw [e', (key b hb).2] at h1
  cases h1; rfl
 ·have hm := he.full c (List.mem_of_getElem? hc) ho hf
  exact List.mem_map.2 ⟨c, hm, by rw [may_inj h (key c hm).2 hc]⟩
 ·rw [hord, pair_int]; exact he.tim
 ·have : (os.map (fun c => (cs.idxOf c : Int))).length = os.length := by simp
  rw [this, hord, okTo_iff]; exact he.ans
def mrg : List Cq → List Cq → List Cq
 | [], m => m
 | l, [] => l
 | a :: l, b :: m => if a.beg ≤ b.beg then a :: mrg l (b :: m) else b :: mrg (a :: l) m
termination_by l m => l.length + m.length
theorem mem_mrg : ∀ (l m : List Cq) (c : Cq), c ∈ mrg l m ↔ c ∈ l ∨ c ∈ m
 | [], m, c => by simp [mrg]
 | a :: l, [], c => by simp [mrg]
 | a :: l, b :: m, c => by
  rw [mrg]
  split
  ·rw [List.mem_cons, mem_mrg l (b :: m) c, List.mem_cons (a := c) (b := a) (l := l)]
   constructor
   ·rintro (h | h | h)
    ·exact .inl (.inl h)
    ·exact .inl (.inr h)
    ·exact .inr h
   ·rintro ((h | h) | h)
    ·exact .inl h
    ·exact .inr (.inl h)
    ·exact .inr (.inr h)
  ·rw [List.mem_cons, mem_mrg (a :: l) m c, List.mem_cons (a := c) (b := b) (l := m)]
   constructor
   ·rintro (h | h | h)
    ·exact .inr (.inl h)
    ·exact .inl h
    ·exact .inr (.inr h)
   ·rintro (h | h | h)
    ·exact .inr (.inl h)
    ·exact .inl h
    ·exact .inr (.inr h)
termination_by l m => l.length + m.length
theorem head_free {b : Cq} {m : List Cq} (hm : (b :: m).Pairwise (fun c d => ¬ AhP d c)) (hf : ∀ c ∈ b :: m, Fit c) {a : Cq} (hab : a.beg ≤ b.beg) : ∀ k ∈ b :: m, ¬ AhP k a := by
 intro k hk ⟨h1, h2⟩
 obtain ⟨_, _, ⟨t1, t2, _⟩, _⟩ := hf k hk
 rcases List.mem_cons.1 hk with e | e
 ·subst e; rcases t2 with t2 | t2
  ·exact h1 t2
  ·omega
 ·have := (List.pairwise_cons.1 hm).1 k e
  exact this ⟨h1, by omega⟩
theorem mrg_tim : ∀ (l m : List Cq), (∀ c ∈ l, Fit c) → (∀ c ∈ m, Fit c) → l.Pairwise (fun c d => ¬ AhP d c) → m.Pairwise (fun c d => ¬ AhP d c) → (mrg l m).Pairwise (fun c d => ¬ AhP d c)
 | [], m, _, _, _, hm => by simpa [mrg] using hm
 | a :: l, [], _, _, hl, _ => by simpa [mrg] using hl
 | a :: l, b :: m, fl, fm, hl, hm => by
  rw [mrg]
  split
  ·rename_i h
   refine List.pairwise_cons.2 ⟨fun k hk => ?_, mrg_tim l (b :: m) (fun c hc => fl c (by simp [hc])) fm (List.pairwise_cons.1 hl).2 hm⟩
   rcases (mem_mrg _ _ _).1 hk with e | e
   ·exact (List.pairwise_cons.1 hl).1 k e
   ·exact head_free hm fm h k e
  ·rename_i h
   refine List.pairwise_cons.2 ⟨fun k hk => ?_, mrg_tim (a :: l) m fl (fun c hc => fm c (by simp [hc])) hl (List.pairwise_cons.1 hm).2⟩
   rcases (mem_mrg _ _ _).1 hk with e | e
   ·exact head_free hl fl (by omega) k e
   ·exact (List.pairwise_cons.1 hm).1 k e
termination_by l m => l.length + m.length
theorem mrg_nod : ∀ (l m : List Cq), l.Nodup → m.Nodup → (∀ c ∈ l, c ∉ m) → (mrg l m).Nodup
 | [], m, _, hm, _ => by simpa [mrg] using hm
 | a :: l, [], hl, _, _ => by simpa [mrg] using hl
 | a :: l, b :: m, hl, hm, hd => by
  rw [List.nodup_cons] at hl hm
  rw [mrg]
  split
  ·rw [List.nodup_cons, mem_mrg]
   refine ⟨fun e => ?_, mrg_nod l (b :: m) hl.2 (List.nodup_cons.2 hm) (fun c hc => hd c (by simp [hc]))⟩
   rcases e with e | e
   ·exact hl.1 e
   ·exact hd a (by simp) e
  ·rw [List.nodup_cons, mem_mrg]
   refine ⟨fun e => ?_, mrg_nod (a :: l) m (List.nodup_cons.2 hl) hm.2 (fun c hc e => hd c hc (by simp [e]))⟩
   rcases e with e | e
   ·exact hd b e (by simp)
   ·exact hm.1 e
termination_by l m => l.length + m.length
theorem mrg_filter (p : Cq → Bool) : ∀ (l m : List Cq), (∀ c ∈ m, p c = false) → (mrg l m).filter p = l.filter p
 | [], m, h => by simp [mrg]; exact fun c hc => by simp [h c hc]
 | a :: l, [], _ => by simp [mrg]
 | a :: l, b :: m, h => by
  rw [mrg]
  split
  ·rw [List.filter_cons, List.filter_cons, mrg_filter p l (b :: m) h]
  ·rw [List.filter_cons_of_neg (by simp [h b (by simp)]), mrg_filter p (a :: l) m (fun c hc => h c (by simp [hc]))]
termination_by l m => l.length + m.length
theorem mrg_filter' (p : Cq → Bool) : ∀ (l m : List Cq), (∀ c ∈ l, p c = false) → (mrg l m).filter p = m.filter p
 | [], m, h => by simp [mrg]
 | a :: l, [], h => by simp [mrg]; exact ⟨by simp [h a (by simp)], fun c hc => by simp [h c (by simp [hc])]⟩
 | a :: l, b :: m, h => by
  rw [mrg]
  split
  ·rw [List.filter_cons_of_neg (by simp [h a (by simp)]), mrg_filter' p l (b :: m) (fun c hc => h c (by simp [hc]))]
  ·rw [List.filter_cons, List.filter_cons, mrg_filter' p (a :: l) m h]
termination_by l m => l.length + m.length
def agr (n : Int) (x y : Ct) : Prop := (n = 1 → x.cell = y.cell) ∧ (n = 2 → x.stack = y.stack) ∧ (n = 3 → x.queue = y.queue) ∧ (n = 4 → x.set = y.set) ∧ (n = 5 → x.table = y.table)
theorem obj_cases {op : Int} (h : obj op ≠ 0) : (obj op = 1 ∧ (op = 22 ∨ op = 23)) ∨ (obj op = 2 ∧ (op = 30 ∨ op = 31)) ∨ (obj op = 3 ∧ (op = 40 ∨ op = 41)) ∨ (obj op = 4 ∧ (op = 50 ∨ op = 51 ∨ op = 52)) ∨ (obj op = 5 ∧ (op = 60 ∨ op = 61 ∨ op = 62)) := by
 unfold obj at *
 split at h
 ·rename_i e; rw [if_pos e]; exact .inl ⟨rfl, e⟩
 split at h
 ·rename_i e1 e; rw [if_neg e1, if_pos e]; exact .inr (.inl ⟨rfl, e⟩)
 split at h
 ·rename_i e1 e2 e; rw [if_neg e1, if_neg e2, if_pos e]; exact .inr (.inr (.inl ⟨rfl, e⟩))
 split at h
 ·rename_i e1 e2 e3 e; rw [if_neg e1, if_neg e2, if_neg e3, if_pos e]; exact .inr (.inr (.inr (.inl ⟨rfl, e⟩)))
 split at h
 ·rename_i e1 e2 e3 e4 e; rw [if_neg e1, if_neg e2, if_neg e3, if_neg e4, if_pos e]; exact .inr (.inr (.inr (.inr ⟨rfl, e⟩)))
 ·exact absurd rfl h
theorem dan_agr {x y : Ct} {op : Int} (h : obj op ≠ 0) (ha : agr (obj op) x y) (arg : Int) : dan x op arg = dan y op arg := by
 obtain ⟨a1, a2, a3, a4, a5⟩ := ha
 rcases obj_cases h with ⟨e, q⟩ | ⟨e, q⟩ | ⟨e, q⟩ | ⟨e, q⟩ | ⟨e, q⟩
 ·have := a1 e
  rcases q with rfl | rfl <;> simp [dan, this]
 ·have := a2 e
  rcases q with rfl | rfl <;> simp [dan, this]
 ·have := a3 e
  rcases q with rfl | rfl <;> simp [dan, this]
 ·have := a4 e
  rcases q with rfl | rfl | rfl <;> simp [dan, this]
 ·have := a5 e
  rcases q with rfl | rfl | rfl <;> simp [dan, this]
theorem dnx_agr {x y : Ct} {op : Int} (h : obj op ≠ 0) (ha : agr (obj op) x y) (arg data : Int) : agr (obj op) (dnx x op arg data) (dnx y op arg data) := by
 obtain ⟨a1, a2, a3, a4, a5⟩ := ha
 rcases obj_cases h with ⟨e, q⟩ | ⟨e, q⟩ | ⟨e, q⟩ | ⟨e, q⟩ | ⟨e, q⟩
 ·have := a1 e
  rcases q with rfl | rfl <;> (rw [e]; simp [agr, dnx, this])
 ·have := a2 e
  rcases q with rfl | rfl <;> (rw [e]; simp [agr, dnx, this])
 ·have := a3 e
  rcases q with rfl | rfl <;> (rw [e]; simp [agr, dnx, this])
 ·have := a4 e
  rcases q with rfl | rfl | rfl <;> (rw [e]; simp [agr, dnx, this])
 ·have := a5 e
  rcases q with rfl | rfl | rfl <;> (rw [e]; simp [agr, dnx, this])
theorem dnx_other {x : Ct} {op : Int} (h : obj op ≠ 0) {n : Int} (hn : n ≠ obj op) (arg data : Int) : agr n x (dnx x op arg data) := by
 rcases obj_cases h with ⟨e, q⟩ | ⟨e, q⟩ | ⟨e, q⟩ | ⟨e, q⟩ | ⟨e, q⟩ <;> rw [e] at hn
 ·rcases q with rfl | rfl <;> simp [agr, dnx] <;> omega
 ·rcases q with rfl | rfl <;> simp [agr, dnx] <;> omega
 ·rcases q with rfl | rfl <;> simp [agr, dnx] <;> omega
 ·rcases q with rfl | rfl | rfl <;> simp [agr, dnx] <;> omega
 ·rcases q with rfl | rfl | rfl <;> simp [agr, dnx] <;> omega
theorem agr_refl (n : Int) (x : Ct) : agr n x x := ⟨fun _ => rfl, fun _ => rfl, fun _ => rfl, fun _ => rfl, fun _ => rfl⟩
theorem agr_symm {n : Int} {x y : Ct} (h : agr n x y) : agr n y x :=
 ⟨fun e => (h.1 e).symm, fun e => (h.2.1 e).symm, fun e => (h.2.2.1 e).symm, fun e => (h.2.2.2.1 e).symm, fun e => (h.2.2.2.2 e).symm⟩
theorem alw_agr {x y : Ct} {c : Cq} (h : obj c.op ≠ 0) (ha : agr (obj c.op) x y) (hk : (alw x c).2 = true) : (alw y c).2 = true ∧ agr (obj c.op) (alw x c).1 (alw y c).1 := by
 have hd := dan_agr h ha c.arg
 have hn := dnx_agr h ha c.arg c.data
 unfold alw at hk ⊢
 by_cases h0 : c.ak = 0
 ·simp only [h0, if_true]; exact ⟨trivial, hn⟩
 ·by_cases h4 : c.ak = 4
  ·simp only [if_neg h0, if_pos h4] at hk ⊢
   by_cases hf : fullOp c.op
   ·simp only [if_pos hf]; exact ⟨trivial, ha⟩
   ·simp [if_neg hf] at hk
  ·simp only [h0, h4, if_false] at hk ⊢
   rw [← hd]
   by_cases hq : dan x c.op c.arg = (c.ak, c.av)
   ·simp only [hq, if_true]; exact ⟨trivial, hn⟩
   ·simp [hq] at hk
theorem alw_other {x : Ct} {c : Cq} (h : obj c.op ≠ 0) {n : Int} (hn : n ≠ obj c.op) (hk : (alw x c).2 = true) : agr n x (alw x c).1 := by
 have ho := dnx_other (x := x) h hn c.arg c.data
 unfold alw at hk ⊢
 by_cases h0 : c.ak = 0
 ·simp only [h0, if_true]; exact ho
 ·by_cases h4 : c.ak = 4
  ·simp only [if_neg h0, if_pos h4] at hk ⊢
   by_cases hf : fullOp c.op
   ·simp only [if_pos hf]; exact agr_refl _ _
   ·simp [if_neg hf] at hk
  ·simp only [h0, h4, if_false] at hk ⊢
   by_cases hq : dan x c.op c.arg = (c.ak, c.av)
   ·simp only [hq, if_true]; exact ho
   ·simp [hq] at hk
theorem okL_agr {n : Int} : ∀ {os : List Cq}, (∀ c ∈ os, obj c.op = n ∧ obj c.op ≠ 0) → ∀ {x y : Ct}, agr n x y → okL x os → okL y os := by
 intro os
 induction os with
 | nil => intro _ x y _ _; exact trivial
 | cons c os ih =>
  intro h x y ha hk
  obtain ⟨e, e0⟩ := h c (by simp)
  obtain ⟨k1, k2⟩ := alw_agr e0 (by rw [e]; exact ha) hk.1
  rw [e] at k2
  exact ⟨k1, ih (fun d hd => h d (by simp [hd])) k2 hk.2⟩
theorem okL_parts : ∀ {os : List Cq}, (∀ c ∈ os, obj c.op ≠ 0) → ∀ x, okL x os ↔ ∀ n, okL x (os.filter (fun c => decide (obj c.op = n))) := by
 intro os
 induction os with
 | nil => intro _ x; exact ⟨fun _ _ => trivial, fun _ => trivial⟩
 | cons c os ih =>
  intro h x
  have e0 := h c (by simp)
  have ht := ih (fun d hd => h d (by simp [hd]))
  have hp : ∀ n, ∀ d ∈ os.filter (fun c => decide (obj c.op = n)), obj d.op = n ∧ obj d.op ≠ 0 := fun n d hd => by
   obtain ⟨q1, q2⟩ := List.mem_filter.1 hd
   exact ⟨by simpa using q2, h d (by simp [q1])⟩
  constructor
  ·rintro ⟨h1, h2⟩ n
   have h3 := (ht _).1 h2 n
   by_cases hn : obj c.op = n
   ·rw [List.filter_cons_of_pos (by simpa using hn)]
    exact ⟨h1, h3⟩
   ·rw [List.filter_cons_of_neg (by simpa using hn)]
    exact okL_agr (hp n) (agr_symm (alw_other e0 (fun e => hn e.symm) h1)) h3
  ·intro hk
   have h1 := hk (obj c.op)
   rw [List.filter_cons_of_pos (by simp)] at h1
   refine ⟨h1.1, (ht _).2 (fun n => ?_)⟩
   by_cases hn : obj c.op = n
   ·rw [← hn]; exact h1.2
   ·have h2 := hk n
    rw [List.filter_cons_of_neg (by simpa using hn)] at h2
    exact okL_agr (hp n) (alw_other e0 (fun e => hn e.symm) h1.1) h2
end Go.Proofs.YtecldhngggkjjaaGreat.Ws
namespace Go.Proofs.YtecldhngggkjjaaGreat.Ws
open Md Wt
set_option linter.unusedVariables false
set_option linter.unusedSimpArgs false
theorem turn_all {cs : List Cq} (h : MayC cs) : ∀ (j i : Nat) (c d : Cq), i < j → cs[i]? = some c → cs[j]? = some d → c.th = d.th → AhP c d := by
 intro j
 induction j using Nat.strongRecOn with
 | _ j ih =>
  intro i c d hij hc hd ht
  have hlast : ∀ n, i < n → n ≤ j → i + 1 ≤ lastT cs d.th n ∧ ∀ k, lastT cs d.th n = k + 1 → ∃ e, cs[k]? = some e ∧ e.th = d.th ∧ k < n := by
   intro n
   induction n with
   | zero => intro h1; omega
   | succ n ihn =>
    intro h1 h2
    unfold lastT
    by_cases hq : (cs[n]?.map Cq.th) = some d.th
    ·rw [if_pos hq]
     refine ⟨by omega, fun k hk => ?_⟩
     have : n = k := by omega
     subst this
     cases he : cs[n]? with
     | none => rw [he] at hq; cases hq
     | some e => rw [he] at hq; exact ⟨e, rfl, by simpa using hq, by omega⟩
    ·rw [if_neg hq]
     have hin : i < n := by
      rcases Nat.lt_or_ge i n with h3 | h3
      ·exact h3
      ·exfalso
       have : n = i := by omega
       subst this
       rw [hc] at hq
       exact hq (by simp [ht])
     obtain ⟨q1, q2⟩ := ihn hin (by omega)
     exact ⟨q1, fun k hk => by obtain ⟨e, e1, e2, e3⟩ := q2 k hk; exact ⟨e, e1, e2, by omega⟩⟩
  obtain ⟨q1, q2⟩ := hlast j hij (Nat.le_refl _)
  obtain ⟨k, hk⟩ : ∃ k, lastT cs d.th j = k + 1 := ⟨lastT cs d.th j - 1, by omega⟩
  obtain ⟨e, e1, e2, e3⟩ := q2 k hk
  have hr := h.2.2 j (List.getElem?_eq_some_iff.1 hd).1 d e hd (by omega) (by rw [hk]; exact e1)
  by_cases hik : i = k
  ·subst hik
   rw [hc] at e1
   cases e1
   exact hr
  ·have hce := ih k e3 i c e (by omega) hc e1 (ht.trans e2.symm)
   have fe := h.1.fit (List.getElem?_eq_some_iff.1 e1).1 e1
   obtain ⟨_, _, ⟨_, t2, _⟩, _⟩ := fe
   obtain ⟨h1, h2⟩ := hce
   obtain ⟨h3, h4⟩ := hr
   exact ⟨h1, by rcases t2 with t2 | t2 <;> omega⟩
theorem pair_ord {cs : List Cq} {R : Cq → Cq → Prop} : cs.Pairwise R → ∀ (i j : Nat) (c d : Cq), i < j → cs[i]? = some c → cs[j]? = some d → R c d := by
 intro h i j c d hij hc hd
 obtain ⟨hi, e1⟩ := List.getElem?_eq_some_iff.1 hc
 obtain ⟨hj, e2⟩ := List.getElem?_eq_some_iff.1 hd
 have := (List.pairwise_iff_getElem.1 h) i j hi hj hij
 rw [e1, e2] at this
 exact this
theorem may_filter {cs : List Cq} (h : MayC cs) (p : Cq → Bool) : MayC (cs.filter p) := by
 have hb := (may_nodup h).filter p
 have ht : cs.Pairwise (fun c d => c.th = d.th → AhP c d) := by
  rw [List.pairwise_iff_getElem]
  intro i j hi hj hij
  exact turn_all h j i _ _ hij (List.getElem?_eq_getElem hi) (List.getElem?_eq_getElem hj)
 have htf := ht.filter p
 have hfit : ∀ c ∈ cs.filter p, Fit c := fun c hc => by
  obtain ⟨i, hi, e⟩ := List.getElem_of_mem (List.mem_filter.1 hc).1
  exact h.1.fit hi (by rw [List.getElem?_eq_getElem hi, e])
 refine ⟨fun i hi => ⟨fun c hc => hfit c (List.mem_of_getElem? hc), fun c d h0 hc hd => pair_ord hb (i - 1) i c d (by omega) hc hd⟩, fun i j c d x hc hd hx hy => ?_, fun i hi c d hc h0 hd => ?_⟩
 ·obtain ⟨a, ha, ea⟩ := List.getElem_of_mem (List.mem_filter.1 (List.mem_of_getElem? hc)).1
  obtain ⟨b, hb', eb⟩ := List.getElem_of_mem (List.mem_filter.1 (List.mem_of_getElem? hd)).1
  have e := h.2.1 a b c d x (by rw [List.getElem?_eq_getElem ha, ea]) (by rw [List.getElem?_eq_getElem hb', eb]) hx hy
  subst e
  have : c = d := by rw [← ea, ← eb]
  subst this
  rcases Nat.lt_trichotomy i j with e | e | e
  ·have := pair_ord hb i j c c e hc hd; omega
  ·exact e
  ·have := pair_ord hb j i c c e hd hc; omega
 ·have hle := lastT_le (cs.filter p) c.th i
  have hth : d.th = c.th := by
   have : ∀ n, 0 < lastT (cs.filter p) c.th n → ∀ d, (cs.filter p)[lastT (cs.filter p) c.th n - 1]? = some d → d.th = c.th := by
    intro n
    induction n with
    | zero => intro h1; simp [lastT] at h1
    | succ n ihn =>
     intro h1 d' hd'
     unfold lastT at h1 hd'
     by_cases hq : ((cs.filter p)[n]?.map Cq.th) = some c.th
     ·rw [if_pos hq] at hd'
      simp at hd'
      rw [hd'] at hq
      simpa using hq
     ·rw [if_neg hq] at h1 hd'
      exact ihn h1 d' hd'
   exact this i h0 d hd
  exact pair_ord htf _ i d c (by omega) hd hc hth
def prt (n : Int) (cs : List Cq) : List Cq := cs.filter (fun c => decide (obj c.op = n))
theorem ex_part {cs os : List Cq} (h : Ex cs os) (n : Int) (hn : n ≠ 0) : Ex (prt n cs) (os.filter (fun c => decide (obj c.op = n))) := by
 refine ⟨h.nod.filter _, fun c hc => ?_, fun c hc ho hf => ?_, h.tim.filter _, (okL_parts (fun c hc => (h.mem c hc).2) ct0).1 h.ans n⟩
 ·obtain ⟨q1, q2⟩ := List.mem_filter.1 hc
  exact ⟨List.mem_filter.2 ⟨(h.mem c q1).1, q2⟩, (h.mem c q1).2⟩
 ·obtain ⟨q1, q2⟩ := List.mem_filter.1 hc
  exact List.mem_filter.2 ⟨h.full c q1 ho hf, q2⟩
theorem ex_ob {n : Int} {cs os : List Cq} (h : Ex (prt n cs) os) : ∀ c ∈ os, obj c.op = n ∧ c ∈ cs ∧ obj c.op ≠ 0 := fun c hc => by
 obtain ⟨q1, q2⟩ := h.mem c hc
 obtain ⟨p1, p2⟩ := List.mem_filter.1 q1
 exact ⟨by simpa using p2, p1, q2⟩
theorem filter_all {n : Int} {os : List Cq} (h : ∀ c ∈ os, obj c.op = n) : os.filter (fun c => decide (obj c.op = n)) = os := List.filter_eq_self.2 (fun c hc => by simp [h c hc])
theorem ob_range (op : Int) (h : obj op ≠ 0) : obj op = 1 ∨ obj op = 2 ∨ obj op = 3 ∨ obj op = 4 ∨ obj op = 5 := by
 rcases obj_cases h with ⟨e, _⟩ | ⟨e, _⟩ | ⟨e, _⟩ | ⟨e, _⟩ | ⟨e, _⟩ <;> simp [e]
theorem ex_whole {cs o1 o2 o3 o4 o5 : List Cq} (hm : MayC cs) (h1 : Ex (prt 1 cs) o1) (h2 : Ex (prt 2 cs) o2) (h3 : Ex (prt 3 cs) o3) (h4 : Ex (prt 4 cs) o4) (h5 : Ex (prt 5 cs) o5) : Ex cs (mrg o1 (mrg o2 (mrg o3 (mrg o4 o5)))) := by
 have b1 := ex_ob h1
 have b2 := ex_ob h2
 have b3 := ex_ob h3
 have b4 := ex_ob h4
 have b5 := ex_ob h5
 have hfit : ∀ c ∈ cs, Fit c := fun c hc => by
  obtain ⟨i, hi, e⟩ := List.getElem_of_mem hc
  exact hm.1.fit hi (by rw [List.getElem?_eq_getElem hi, e])
 have m45 : ∀ c, c ∈ mrg o4 o5 ↔ c ∈ o4 ∨ c ∈ o5 := mem_mrg _ _
 have m35 : ∀ c, c ∈ mrg o3 (mrg o4 o5) ↔ c ∈ o3 ∨ c ∈ o4 ∨ c ∈ o5 := fun c => by rw [mem_mrg, m45]
 have m25 : ∀ c, c ∈ mrg o2 (mrg o3 (mrg o4 o5)) ↔ c ∈ o2 ∨ c ∈ o3 ∨ c ∈ o4 ∨ c ∈ o5 := fun c => by rw [mem_mrg, m35]
 have m15 : ∀ c, c ∈ mrg o1 (mrg o2 (mrg o3 (mrg o4 o5))) ↔ c ∈ o1 ∨ c ∈ o2 ∨ c ∈ o3 ∨ c ∈ o4 ∨ c ∈ o5 := fun c => by rw [mem_mrg, m25]
 have f1 : ∀ c ∈ o1, Fit c := fun c hc => hfit c (b1 c hc).2.1
 have f2 : ∀ c ∈ o2, Fit c := fun c hc => hfit c (b2 c hc).2.1
 have f3 : ∀ c ∈ o3, Fit c := fun c hc => hfit c (b3 c hc).2.1
 have f4 : ∀ c ∈ o4, Fit c := fun c hc => hfit c (b4 c hc).2.1
 have f5 : ∀ c ∈ o5, Fit c := fun c hc => hfit c (b5 c hc).2.1
 have f45 : ∀ c ∈ mrg o4 o5, Fit c := fun c hc => by rcases (m45 c).1 hc with q | q; exact f4 c q; exact f5 c q
 have f35 : ∀ c ∈ mrg o3 (mrg o4 o5), Fit c := fun c hc => by rcases (mem_mrg _ _ c).1 hc with q | q; exact f3 c q; exact f45 c q
 have f25 : ∀ c ∈ mrg o2 (mrg o3 (mrg o4 o5)), Fit c := fun c hc => by rcases (mem_mrg _ _ c).1 hc with q | q; exact f2 c q; exact f35 c q
 refine ⟨?_, fun c hc => ?_, fun c hc ho hf => ?_, ?_, ?_⟩
 ·refine mrg_nod _ _ h1.nod (mrg_nod _ _ h2.nod (mrg_nod _ _ h3.nod (mrg_nod _ _ h4.nod h5.nod ?_) ?_) ?_) ?_
  ·intro c q e; have := (b4 c q).1; have := (b5 c e).1; omega
  ·intro c q e
   have := (b3 c q).1
   rcases (m45 c).1 e with e | e
   ·have := (b4 c e).1; omega
   ·have := (b5 c e).1; omega
  ·intro c q e
   have := (b2 c q).1
   rcases (m35 c).1 e with e | e | e
   ·have := (b3 c e).1; omega
   ·have := (b4 c e).1; omega
   ·have := (b5 c e).1; omega
  ·intro c q e
   have := (b1 c q).1
   rcases (m25 c).1 e with e | e | e | e
   ·have := (b2 c e).1; omega
   ·have := (b3 c e).1; omega
   ·have := (b4 c e).1; omega
   ·have := (b5 c e).1; omega
 ·rcases (m15 c).1 hc with q | q | q | q | q
  ·exact (b1 c q).2
  ·exact (b2 c q).2
  ·exact (b3 c q).2
  ·exact (b4 c q).2
  ·exact (b5 c q).2
 ·rw [m15]
  rcases ob_range c.op ho with e | e | e | e | e
  ·exact .inl (h1.full c (List.mem_filter.2 ⟨hc, by simp [e]⟩) ho hf)
  ·exact .inr (.inl (h2.full c (List.mem_filter.2 ⟨hc, by simp [e]⟩) ho hf))
  ·exact .inr (.inr (.inl (h3.full c (List.mem_filter.2 ⟨hc, by simp [e]⟩) ho hf)))
  ·exact .inr (.inr (.inr (.inl (h4.full c (List.mem_filter.2 ⟨hc, by simp [e]⟩) ho hf))))
  ·exact .inr (.inr (.inr (.inr (h5.full c (List.mem_filter.2 ⟨hc, by simp [e]⟩) ho hf))))
 ·exact mrg_tim _ _ f1 f25 h1.tim (mrg_tim _ _ f2 f35 h2.tim (mrg_tim _ _ f3 f45 h3.tim (mrg_tim _ _ f4 f5 h4.tim h5.tim)))
 ·rw [okL_parts (fun c hc => by
   rcases (m15 c).1 hc with q | q | q | q | q
   ·exact (b1 c q).2.2
   ·exact (b2 c q).2.2
   ·exact (b3 c q).2.2
   ·exact (b4 c q).2.2
   ·exact (b5 c q).2.2)]
  have no : ∀ {n k : Int} {os : List Cq}, (∀ c ∈ os, obj c.op = k ∧ c ∈ cs ∧ obj c.op ≠ 0) → k ≠ n → ∀ c ∈ os, decide (obj c.op = n) = false := fun h hk c hc => by simp [(h c hc).1, hk]
  intro n
  by_cases n1 : 1 = n
  ·rw [mrg_filter _ _ _ (fun c hc => by
    rcases (m25 c).1 hc with q | q | q | q
    ·exact no b2 (by omega) c q
    ·exact no b3 (by omega) c q
    ·exact no b4 (by omega) c q
    ·exact no b5 (by omega) c q), ← n1, filter_all (fun c hc => (b1 c hc).1)]
   exact h1.ans
  ·rw [mrg_filter' _ _ _ (no b1 n1)]
   by_cases n2 : 2 = n
   ·rw [mrg_filter _ _ _ (fun c hc => by
     rcases (m35 c).1 hc with q | q | q
     ·exact no b3 (by omega) c q
     ·exact no b4 (by omega) c q
     ·exact no b5 (by omega) c q), ← n2, filter_all (fun c hc => (b2 c hc).1)]
    exact h2.ans
   ·rw [mrg_filter' _ _ _ (no b2 n2)]
    by_cases n3 : 3 = n
    ·rw [mrg_filter _ _ _ (fun c hc => by
      rcases (m45 c).1 hc with q | q
      ·exact no b4 (by omega) c q
      ·exact no b5 (by omega) c q), ← n3, filter_all (fun c hc => (b3 c hc).1)]
     exact h3.ans
    ·rw [mrg_filter' _ _ _ (no b3 n3)]
     by_cases n4 : 4 = n
     ·rw [mrg_filter _ _ _ (no b5 (by omega)), ← n4, filter_all (fun c hc => (b4 c hc).1)]
      exact h4.ans
     ·rw [mrg_filter' _ _ _ (no b4 n4)]
      by_cases n5 : 5 = n
      ·rw [← n5, filter_all (fun c hc => (b5 c hc).1)]
       exact h5.ans
      ·rw [List.filter_eq_nil_iff.2 (fun c hc => by simp [(b5 c hc).1, n5])]
       exact trivial
theorem local_iff {cs : List Cq} (hm : MayC cs) : (∃ o, Oks cs o) ↔ ∀ n, 1 ≤ n → n ≤ 5 → ∃ o, Oks (prt n cs) o := by
 constructor
 ·rintro ⟨o, ho⟩ n h1 h5
  exact ex_oks (may_filter hm _) (ex_part (oks_ex hm ho) n (by omega))
 ·intro h
  obtain ⟨o1, p1⟩ := h 1 (by omega) (by omega)
  obtain ⟨o2, p2⟩ := h 2 (by omega) (by omega)
  obtain ⟨o3, p3⟩ := h 3 (by omega) (by omega)
  obtain ⟨o4, p4⟩ := h 4 (by omega) (by omega)
  obtain ⟨o5, p5⟩ := h 5 (by omega) (by omega)
  exact ex_oks hm (ex_whole hm (oks_ex (may_filter hm _) p1) (oks_ex (may_filter hm _) p2) (oks_ex (may_filter hm _) p3) (oks_ex (may_filter hm _) p4) (oks_ex (may_filter hm _) p5))
end Go.Proofs.YtecldhngggkjjaaGreat.Ws
namespace Go.Proofs.YtecldhngggkjjaaGreat.Ws
open Go.RowKit Mr Md
set_option linter.unusedVariables false
set_option linter.unusedSimpArgs false
set_option maxRecDepth 100000
theorem fnd_iff {cs : List Cq} (h : Wt.MayC cs) : (fndA cs).isSome = true ↔ ∃ o, Oks cs o := by
 have hfit := scs_fit (Wt.mayB_true h)
 cases hl : (spc (scs cs)).lm 0 ct0 with
 | none =>
  have : fndA cs = none := by rw [fndA, hl]; rfl
  rw [this]
  exact ⟨fun e => (by cases e), fun ⟨o, ho⟩ => absurd ho (find_none hfit hl o)⟩
 | some l =>
  have : fndA cs = some (nmo cs l) := by rw [fndA, hl]; rfl
  rw [this]
  exact ⟨fun _ => ⟨_, find_good hfit hl⟩, fun _ => rfl⟩
def alB (cs : List Cq) : Nat → Bool
 | 0 => true
 | j + 1 => alB cs j && (fndA (prt ((j : Int) + 1) cs)).isSome
theorem alB_iff {cs : List Cq} : ∀ j, alB cs j = true ↔ ∀ n : Int, 1 ≤ n → n ≤ j → (fndA (prt n cs)).isSome = true := by
 intro j
 induction j with
 | zero => exact ⟨fun _ n h1 h2 => by omega, fun _ => rfl⟩
 | succ j ih =>
  rw [alB, Bool.and_eq_true, ih]
  constructor
  ·rintro ⟨h1, h2⟩ n h3 h4
   by_cases e : n = (j : Int) + 1
   ·rw [e]; exact h2
   ·exact h1 n h3 (by omega)
  ·intro h
   exact ⟨fun n h3 h4 => h n h3 (by omega), h _ (by omega) (by omega)⟩
theorem all_whole {cs : List Cq} (h : Wt.MayC cs) : alB cs 5 = (fndA cs).isSome := by
 rw [Bool.eq_iff_iff, alB_iff, fnd_iff h, local_iff h]
 constructor
 ·intro hk n h1 h5
  exact (fnd_iff (may_filter h _)).1 (hk n h1 (by omega))
 ·intro hk n h1 h5
  exact (fnd_iff (may_filter h _)).2 (hk n h1 (by omega))
theorem prt_src {n : Int} {cs : List Cq} (h : Wt.MayC cs) (hs : srcB cs = true) : srcB (prt n cs) = true := by
 unfold srcB at hs ⊢
 rw [Bool.and_eq_true, decide_eq_true_eq] at hs ⊢
 refine ⟨Nat.le_trans ?_ hs.1, Wt.mayB_true (may_filter h _)⟩
 unfold scs prt
 rw [List.length_map, List.length_map, cnt1_len, cnt1_len]
 exact (List.filter_sublist.filter _).length_le
theorem prt_yes {n : Int} {cs : List Cq} {i : Nat} {c : Cq} (h : cs[i]? = some c) (ho : obj c.op = n) : prt n (cs.take (i + 1)) = prt n (cs.take i) ++ [c] := by
 rw [List.take_add_one, h, prt, prt, List.filter_append]
 simp [ho]
theorem prt_no {n : Int} {cs : List Cq} {i : Nat} {c : Cq} (h : cs[i]? = some c) (ho : obj c.op ≠ n) : prt n (cs.take (i + 1)) = prt n (cs.take i) := by
 rw [List.take_add_one, h, prt, prt, List.filter_append]
 simp [ho]
theorem prt_len (n : Int) (cs : List Cq) (i : Nat) : (prt n (cs.take i)).length ≤ i :=
 Nat.le_trans (List.length_filter_le _ _) (by rw [List.length_take]; exact Nat.min_le_left _ _)
set_option maxHeartbeats 16000000 in
theorem law_local (v : Value) (cs : List Cq) (W : World) (hv : Sl W (fun _ => True) 9 v cs.length (cqs cs)) (hsm : cs.length * 72 ≤ 140737488351232) (hwf : ∀ c ∈ cs, WfC c) :
  Calls Tryz.prog 4 #[v] W fun e w' => e = .returned (.bool true) ∧ Below W.heap.size W w' := by
 have AW := Mr.hid (awake_any W)
 have SR := Mr.hid (fun (w' : World) (hB : Below W.heap.size W w') => searched_any (hv.below hB) (by omega : cs.length * 72 ≤ 140737488355328))
 have LO := Mr.hid lObj
 cases hsB : srcB cs with
 | false =>
  rw [hsB] at SR
  obtain ⟨a, cap, rfl, hcap⟩ := hv.form
  replace hv := Mr.hid hv
  generalize cs.length = n at *
  go_enter Tryz.func4, Tryz.ntmps4
  go_upto_region 3 with (go_at_call 9; refine AW.out.mono ?_; rintro e w1 ⟨rfl, hB1⟩)
  go_wp2_with (go_at_call 10; refine (SR.out _ hB1).mono ?_; rintro e w2 ⟨rfl, hB2⟩)
  go_ret
  exact ⟨rfl, hB1.trans (hB2.mono hB1.size)⟩
 | true =>
  rw [hsB] at SR
  obtain ⟨hE, hmB, hMay⟩ := src_err' hsB
  have haw := all_whole hMay
  have FD := Mr.hid (fun (w' : World) (hB : Below W.heap.size W w') => found_any (hv.below hB) (by omega) hwf hsB)
  have FP := Mr.hid (fun (n : Int) (w' : World) (lv : Value) (hl : Sl w' (fun _ => True) 9 lv (prt n cs).length (cqs (prt n cs))) => found_any hl (by have := List.length_filter_le (fun c => decide (obj c.op = n)) cs; unfold prt; omega) (fun c hc => hwf c (List.mem_filter.1 hc).1) (prt_src hMay hsB))
  obtain ⟨i0, hinf, hz0, hz1, hz2⟩ := info_parts ws_call
  obtain ⟨a, cap, rfl, hcap⟩ := hv.form
  obtain ⟨n, hn⟩ : ∃ n, n = cs.length := ⟨_, rfl⟩
  rw [← hn] at hsm hcap SR FD ⊢
  replace hn := Mr.hid hn
  replace hv := Mr.hid hv
  replace haw := Mr.hid haw
  generalize hwh : (fndA cs).isSome = wh at *
  replace hwh := Mr.hid hwh
  go_enter Tryz.func4, Tryz.ntmps4
  go_upto_region 3 with (go_at_call 9; refine AW.out.mono ?_; rintro e w1 ⟨rfl, hB1⟩)
  go_upto_region 5 with (go_at_call 10; refine (SR.out _ hB1).mono ?_; rintro e w2 ⟨rfl, hB2⟩)
  have hB12 := hB1.trans (hB2.mono hB1.size)
  have FDw := Mr.hid (FD.out _ hB12)
  clear AW SR FD hB1 hB2
  go_upto_region 8 with (go_at_call 16; refine FDw.out.mono ?_; rintro e w3 ⟨rfl, hB3⟩)
  have hB13 := hB12.trans (hB3.mono hB12.size)
  clear FDw hB12 hB3
  go_wp2
  go_loopg [5, 6] 5 (fun gk s5 s6 wr => ∃ j : Nat, s5 = .bool (alB cs j) ∧ s6 = .int .i64 ((j : Int) + 1) ∧ j + gk = 5 ∧ Below W.heap.size W wr)
  case atStart => exact ⟨0, rfl, rfl, by omega, hB13⟩
  case round =>
   obtain ⟨j, rfl, rfl, hj, hBo⟩ := hrel
   obtain ⟨g2, hg2⟩ : ∃ g2, g2 = gk := ⟨_, rfl⟩
   clear hB13
   by_cases hlt : j < 5
   ·have hle : ((j : Int) + 1 ≤ 5) := by omega
    have hwj : IntKind.i64.wrap ((j : Int) + 1 + 1) = (j : Int) + 1 + 1 := Wt.i64x _ (by omega) (by omega)
    go_wp2
    go_loopg [7, 8] n (fun gk s7 s8 wi => ∃ i : Nat, s8 = .int .i64 (i : Int) ∧ i + gk = n ∧ Has wi (fun k => W.heap.size ≤ k) 30 9 s7 (prt ((j : Int) + 1) (cs.take i)).length (cqs (prt ((j : Int) + 1) (cs.take i))) ∧ Below W.heap.size W wi)
    case atStart => exact ⟨0, rfl, by omega, by simpa [prt, cqs] using Has.nil wr (fun k => W.heap.size ≤ k) 30 9, hBo⟩
    case round =>
     obtain ⟨i, rfl, hi, hH, hB⟩ := hrel
     clear hBo
     obtain ⟨av, cv, hvf, hcv⟩ := hH.form
     subst hvf
     by_cases hlti : i < n
     ·obtain ⟨c, hci⟩ := Wt.get_of_lt (cs := cs) (i := i) (by have := hn.out; omega)
      obtain ⟨bc, oc, rfl, A9⟩ := Wt.call_at (hv.out.below hB) hci
      have hlen := prt_len ((j : Int) + 1) cs i
      have hw : IntKind.i64.wrap ((i : Int) + 1) = (i : Int) + 1 := Wt.i64x _ (by omega) (by omega)
      obtain ⟨hbl, k0, k1, k2, k3, k4, k5, k6, k7, k8⟩ := A9
      have hlI : (i : Int) < (n : Int) := by omega
      have qi : (0 : Int) ≤ (i : Int) := by omega
      by_cases hob : obj c.op = (j : Int) + 1
      ·have e0 : (obj c.op == (j : Int) + 1) = true := by simp [hob]
       have hnx := Mr.hid (prt_yes hci hob)
       replace hob := Mr.hid hob
       have hHA := Mr.hid (fun o => hH.alloc o)
       have hBA := Mr.hid (fun o => hB.alloc hB.size o)
       have hsz := hB.size
       have hge := Mr.hid (fun k hk => (hH.lt k hk).1)
       clear hH
       go_wp2_with (first
        | (go_at_call 17; refine (LO.out _ _).mono ?_; rintro e w6 ⟨rfl, rfl⟩)
        | (at_builtin; refine wpList_append_has _ rfl (.tmp 41) (.tmp 46) 22 rfl (fun k => W.heap.size ≤ k) 30 i0 _ 9 72 Tryz.underlying22 hinf hz0 hz1 hz2 rfl (.slice av (prt ((j : Int) + 1) (cs.take i)).length cv) (prt ((j : Int) + 1) (cs.take i)).length (cqs (prt ((j : Int) + 1) (cs.take i))) rfl (hHA.out _) ⟨_, 0, none⟩ 1 1 c.row rfl rfl (newsCq _ c) (row_one c) (by omega) (by unfold maxLen; omega) (by omega) (by rw [World.size_alloc]; omega) ?_; intro g capx wx hh hgr hor; have hBx := (hBA.out _).grown hgr (by rw [World.size_alloc]; omega) (fun j hj => hge.out j hj); clear hgr hor))
       go_roundg (gk - 1)
       case measure => omega
       case rel => exact ⟨i + 1, by simp, by omega, by rw [hnx.out, List.length_append, cqs_snoc]; exact hh, hBx⟩
      ·have e0 : (obj c.op == (j : Int) + 1) = false := by simp [hob]
       have hnx := Mr.hid (prt_no hci hob)
       replace hob := Mr.hid hob
       go_wp2_with (go_at_call 17; refine (LO.out _ _).mono ?_; rintro e w6 ⟨rfl, rfl⟩)
       go_roundg (gk - 1)
       case measure => omega
       case rel => exact ⟨i + 1, by simp, by omega, by rw [hnx.out]; exact hH, hB⟩
     ·obtain rfl : i = n := by omega
      have hH2 : Sl wr (fun _ => True) 9 (.slice av (prt ((j : Int) + 1) (cs.take i)).length cv) (prt ((j : Int) + 1) cs).length (cqs (prt ((j : Int) + 1) cs)) := by
       have e : cs.take i = cs := by rw [hn.out, List.take_length]
       have := Sl.mono (Sl.of_has hH) (fun _ _ => trivial) (T' := fun _ => True)
       rw [e] at this ⊢
       exact this
      have FPw := Mr.hid (FP.out _ _ _ hH2)
      clear hH hH2
      have hal : alB cs (j + 1) = (alB cs j && (fndA (prt ((j : Int) + 1) cs)).isSome) := rfl
      replace hal := Mr.hid hal
      generalize (fndA (prt ((j : Int) + 1) cs)).isSome = q at *
      cases hq0 : alB cs j with
      | false =>
       rw [hq0] at hal
       go_wp2_with (go_at_call 16; refine FPw.out.mono ?_; rintro e w7 ⟨rfl, hB7⟩)
       go_roundg (g2 - 1)
       case measure => omega
       case rel => exact ⟨j + 1, by rw [hal.out]; rfl, by simp, by omega, hB.trans (hB7.mono hB.size)⟩
      | true =>
       rw [hq0] at hal
       go_wp2_with (go_at_call 16; refine FPw.out.mono ?_; rintro e w7 ⟨rfl, hB7⟩)
       go_roundg (g2 - 1)
       case measure => omega
       case rel => exact ⟨j + 1, by rw [hal.out]; rfl, by simp, by omega, hB.trans (hB7.mono hB.size)⟩
   ·obtain rfl : j = 5 := by omega
    have ha := haw.out
    replace ha := Mr.hid ha
    go_wp2
    go_ret
    refine ⟨?_, hBo⟩
    show Ending.returned (Value.bool (alB cs 5 == wh)) = _
    rw [ha.out]
    simp
end Go.Proofs.YtecldhngggkjjaaGreat.Ws
