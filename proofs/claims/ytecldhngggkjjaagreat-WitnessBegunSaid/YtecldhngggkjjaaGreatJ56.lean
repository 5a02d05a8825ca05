import Derived.Test.YtecldhngggkjjaaGreatJ53
import Derived.Test.YtecldhngggkjjaaGreatJ38
import Derived.Test.YtecldhngggkjjaaGreatJ51
set_option linter.unusedVariables false
set_option linter.unusedSimpArgs false
set_option maxRecDepth 100000
namespace Go.Proofs.YtecldhngggkjjaaGreat.Ws
open Md Wt
def cutc (m : Int) (c : Cq) : Cq := { c with fin := if m ≤ c.fin then -1 else c.fin, ak := if m ≤ c.fin then 0 else c.ak, av := if m ≤ c.fin then 0 else c.av, pt := if m ≤ c.pt then -1 else c.pt }
def cutl (m : Int) (cs : List Cq) : List Cq := (cs.filter (fun c => decide (c.beg < m))).map (cutc m)
def cutn (m : Int) (cs : List Cq) : Nat := (cs.filter (fun c => decide (c.beg < m))).length
theorem filter_take {m : Int} : ∀ {cs : List Cq}, (∀ (i j : Nat) (c d : Cq), i < j → cs[i]? = some c → cs[j]? = some d → c.beg < d.beg) → cs.filter (fun c => decide (c.beg < m)) = cs.take (cutn m cs) := by
 intro cs
 induction cs with
 | nil => intro _; rfl
 | cons c cs ih =>
  intro h
  have ht : ∀ (i j : Nat) (a d : Cq), i < j → cs[i]? = some a → cs[j]? = some d → a.beg < d.beg := fun i j a d hij ha hd => h (i + 1) (j + 1) a d (by omega) (by simpa using ha) (by simpa using hd)
  by_cases hc : c.beg < m
  ·have e : cutn m (c :: cs) = cutn m cs + 1 := by simp [cutn, hc]
   rw [e, List.take_succ_cons, List.filter_cons_of_pos (by simpa using hc), ih ht]
  ·have e0 : cs.filter (fun c => decide (c.beg < m)) = [] := by
    rw [List.filter_eq_nil_iff]
    intro d hd
    obtain ⟨j, hj, ed⟩ := List.getElem_of_mem hd
    have := h 0 (j + 1) c d (by omega) rfl (by simp [hj, ed])
    simp; omega
   have e : cutn m (c :: cs) = 0 := by simp [cutn, hc, e0]
   rw [e, List.filter_cons_of_neg (by simpa using hc), e0]
   rfl
theorem up_lt {cs : List Cq} (h : MayC cs) : ∀ (i j : Nat) (c d : Cq), i < j → cs[i]? = some c → cs[j]? = some d → c.beg < d.beg := fun i j c d hij hc hd =>
 h.1.lt (Nat.le_refl _) j i hij (List.getElem?_eq_some_iff.1 hd).1 c d hc hd
theorem cut_take {m : Int} {cs : List Cq} (h : MayC cs) : cutl m cs = (cs.take (cutn m cs)).map (cutc m) := by
 rw [cutl, filter_take (up_lt h)]
theorem cut_get {m : Int} {cs : List Cq} (h : MayC cs) {i : Nat} {d : Cq} (hd : (cutl m cs)[i]? = some d) : ∃ c, cs[i]? = some c ∧ d = cutc m c ∧ c.beg < m := by
 have hd2 := hd
 rw [cut_take h, List.getElem?_map] at hd
 cases hq : (cs.take (cutn m cs))[i]? with
 | none => rw [hq] at hd; cases hd
 | some c =>
  rw [hq] at hd
  cases hd
  have hm : c ∈ cs.filter (fun c => decide (c.beg < m)) := by rw [filter_take (up_lt h)]; exact List.mem_of_getElem? hq
  refine ⟨c, ?_, rfl, by have := (List.mem_filter.1 hm).2; simpa using this⟩
  have hi : i < cutn m cs := by
   have := (List.getElem?_eq_some_iff.1 hq).1
   rw [List.length_take] at this
   omega
  rw [List.getElem?_take_of_lt hi] at hq
  exact hq
theorem cut_at {m : Int} {cs : List Cq} (h : MayC cs) {i : Nat} {c : Cq} (hc : cs[i]? = some c) (hb : c.beg < m) : (cutl m cs)[i]? = some (cutc m c) := by
 have hi : i < cutn m cs := by
  rcases Nat.lt_or_ge i (cutn m cs) with h1 | h1
  ·exact h1
  ·exfalso
   have hm : c ∈ cs.filter (fun c => decide (c.beg < m)) := List.mem_filter.2 ⟨List.mem_of_getElem? hc, by simpa using hb⟩
   rw [filter_take (up_lt h)] at hm
   obtain ⟨j, hj, e⟩ := List.getElem_of_mem hm
   rw [List.length_take] at hj
   rw [List.getElem_take] at e
   have := up_lt h j i c c (by omega) (by rw [List.getElem?_eq_getElem (by omega), e]) hc
   omega
 rw [cut_take h, List.getElem?_map, List.getElem?_take_of_lt hi, hc]
 rfl
theorem cutc_fit {m : Int} {c : Cq} (h : Fit c) (hb : c.beg < m) : Fit (cutc m c) := by
 obtain ⟨t1, t2, ⟨h1, h2, h3⟩, ⟨a1, a2, a3, a4⟩⟩ := h
 have hm : 0 < m := by omega
 unfold cutc
 by_cases hf : m ≤ c.fin
 ·by_cases hp : m ≤ c.pt
  ·refine ⟨t1, t2, ⟨h1, ?_, ?_⟩, ?_, ?_, ?_, ?_⟩ <;> simp [hf, hp]
  ·refine ⟨t1, t2, ⟨h1, ?_, ?_⟩, ?_, ?_, ?_, ?_⟩ <;> simp [hf, hp] <;> omega
 ·by_cases hp : m ≤ c.pt
  ·refine ⟨t1, t2, ⟨h1, ?_, ?_⟩, ?_, ?_, ?_, ?_⟩ <;> simp [hf, hp] <;> first | omega | assumption
  ·refine ⟨t1, t2, ⟨h1, ?_, ?_⟩, ?_, ?_, ?_, ?_⟩ <;> simp [hf, hp] <;> first | omega | assumption
theorem cutc_mvc {m : Int} {c : Cq} (h : Fit c) {x : Int} (hx : x ∈ mvc (cutc m c)) : x ∈ mvc c := by
 unfold mvc cutc at *
 simp only [List.mem_cons, List.mem_append] at hx ⊢
 by_cases hf : m ≤ c.fin <;> by_cases hp : m ≤ c.pt <;> simp only [hf, hp, if_true, if_false] at hx
 all_goals
  by_cases e1 : c.fin = -1 <;> by_cases e2 : c.pt = -1 <;> by_cases e3 : c.pt = c.fin <;> simp_all <;> omega
def okL : Ct → List Cq → Prop
 | _, [] => True
 | x, c :: l => (alw x c).2 = true ∧ okL (alw x c).1 l
theorem okTo_iff : ∀ (os : List Cq) (x : Ct), okTo x os os.length ↔ okL x os := by
 intro os
 induction os with
 | nil => intro x; exact ⟨fun _ => trivial, fun _ j hj => by simp at hj⟩
 | cons c os ih =>
  intro x
  have hl : ∀ j, lefts x (c :: os) (j + 1) = lefts (alw x c).1 os j := fun j => by simp [lefts]
  constructor
  ·intro h
   refine ⟨h 0 (by simp) c rfl, (ih _).1 (fun j hj d hd => ?_)⟩
   have := h (j + 1) (by simp; omega) d (by simpa using hd)
   rwa [hl] at this
  ·rintro ⟨h1, h2⟩ j hj d hd
   cases j with
   | zero => simp at hd; subst hd; simpa [lefts] using h1
   | succ j =>
    rw [hl]
    exact (ih _).2 h2 j (by simpa using hj) d (by simpa using hd)
def omt (m : Int) (c : Cq) : Bool := decide (m ≤ c.fin) && decide (c.ak = 4)
theorem okL_cut {m : Int} (hm : 0 < m) : ∀ {os : List Cq}, (∀ c ∈ os, Fit c) → ∀ x, okL x os → okL x ((os.filter (fun c => !omt m c)).map (cutc m)) := by
 intro os
 induction os with
 | nil => intro _ x _; exact trivial
 | cons c os ih =>
  intro hf x h
  obtain ⟨h1, h2⟩ := h
  have hfc := hf c (by simp)
  have ht := ih (fun d hd => hf d (by simp [hd]))
  obtain ⟨_, _, ⟨t1, t2, _⟩, ⟨a1, a2, a3, a4⟩⟩ := hfc
  by_cases hq : m ≤ c.fin
  ·have hak : c.ak ≠ 0 := fun e => by have := a3.1 e; omega
   by_cases h4 : c.ak = 4
   ·have e1 : omt m c = true := by simp [omt, hq, h4]
    rw [List.filter_cons_of_neg (by simp [e1])]
    have e2 : (alw x c).1 = x := by
     unfold alw at h1 ⊢
     rw [if_neg hak, if_pos h4] at h1 ⊢
     split at h1
     ·rename_i hfo; rw [if_pos hfo]
     ·cases h1
    rw [e2] at h2
    exact ht x h2
   ·have e1 : omt m c = false := by simp [omt, h4]
    rw [List.filter_cons_of_pos (by simp [e1]), List.map_cons]
    have e2 : alw x (cutc m c) = alw x c := by
     unfold alw at h1 ⊢
     rw [if_neg hak, if_neg h4] at h1 ⊢
     have ek : (cutc m c).ak = 0 := by simp [cutc, hq]
     rw [if_pos ek]
     split at h1
     ·rename_i hd; rw [if_pos hd]; rfl
     ·cases h1
    exact ⟨by rw [e2]; exact h1, by rw [e2]; exact ht _ h2⟩
  ·have e1 : omt m c = false := by simp [omt, hq]
   rw [List.filter_cons_of_pos (by simp [e1]), List.map_cons]
   have e2 : alw x (cutc m c) = alw x c := by
    unfold alw cutc
    simp only [hq, if_false]
   exact ⟨by rw [e2]; exact h1, by rw [e2]; exact ht _ h2⟩
theorem okL_pre : ∀ {os ps : List Cq} (x : Ct), okL x (os ++ ps) → okL x os := by
 intro os
 induction os with
 | nil => intro ps x _; exact trivial
 | cons c os ih => intro ps x h; exact ⟨h.1, ih _ h.2⟩
theorem tw_mem {α : Type} {p : α → Bool} {x : α} : ∀ {l : List α}, x ∈ l.takeWhile p → p x = true := by
 intro l
 induction l with
 | nil => intro h; simp at h
 | cons a l ih =>
  intro h
  rw [List.takeWhile_cons] at h
  split at h
  ·rename_i ha
   rcases List.mem_cons.1 h with e | e
   ·rw [e]; exact ha
   ·exact ih e
  ·cases h
def cuto (m : Int) (cs : List Cq) (o : List Int) : List Int := (o.takeWhile (fun x => decide ((callD cs x).beg < m))).filter (fun x => !omt m (callD cs x))
theorem cut_oks {m : Int} {cs : List Cq} (h : MayC cs) (hm : 0 < m) {o : List Int} (ho : Oks cs o) : Oks (cutl m cs) (cuto m cs o) := by
 obtain ⟨⟨⟨s1, s2⟩, f1⟩, t1, k1⟩ := ho
 rw [List.take_length] at s2
 have hx : ∀ x ∈ o, 0 ≤ x ∧ ∃ c, cs[x.toNat]? = some c ∧ obj c.op ≠ 0 ∧ callD cs x = c := fun x hx => by
  obtain ⟨j, hj, e⟩ := List.getElem_of_mem hx
  obtain ⟨q1, c, q2, q3⟩ := s1 j x hj (by rw [List.getElem?_eq_getElem hj, e])
  exact ⟨q1, c, q2, q3, by simp [callD, q2]⟩
 have htw : ∀ x ∈ o.takeWhile (fun x => decide ((callD cs x).beg < m)), x ∈ o ∧ (callD cs x).beg < m := fun x hx => ⟨(List.takeWhile_sublist _).subset hx, by simpa using tw_mem hx⟩
 have hco : ∀ x ∈ cuto m cs o, x ∈ o ∧ (callD cs x).beg < m ∧ omt m (callD cs x) = false := fun x hx => by
  obtain ⟨q1, q2⟩ := List.mem_filter.1 hx
  exact ⟨(htw x q1).1, (htw x q1).2, by simpa using q2⟩
 have hcd : ∀ x ∈ cuto m cs o, callD (cutl m cs) x = cutc m (callD cs x) := fun x hxm => by
  obtain ⟨q1, q2, _⟩ := hco x hxm
  obtain ⟨p1, c, p2, p3, p4⟩ := hx x q1
  rw [p4] at q2 ⊢
  have := cut_at h p2 q2
  simp [callD, this]
 have hsub : (cuto m cs o).Sublist o := List.filter_sublist.trans (List.takeWhile_sublist _)
 have hord : ordc (cutl m cs) (cuto m cs o) = ((ordc cs (o.takeWhile (fun x => decide ((callD cs x).beg < m)))).filter (fun c => !omt m c)).map (cutc m) := by
  have e1 : ordc (cutl m cs) (cuto m cs o) = (cuto m cs o).map (fun x => cutc m (callD cs x)) := List.map_congr_left hcd
  rw [e1, cuto, ordc, List.filter_map, List.map_map]
  rfl
 refine ⟨⟨⟨fun j x hj hjx => ?_, ?_⟩, fun i d hi hd hob hfd => ?_⟩, ?_, ?_⟩
 ·have hxm := List.mem_of_getElem? hjx
  obtain ⟨q1, q2, _⟩ := hco x hxm
  obtain ⟨p1, c, p2, p3, p4⟩ := hx x q1
  rw [p4] at q2
  exact ⟨p1, _, cut_at h p2 q2, p3⟩
 ·rw [List.take_length]
  exact s2.sublist hsub
 ·obtain ⟨c, hc, rfl, hb⟩ := cut_get h hd
  have hfm : ¬ m ≤ c.fin := fun e => hfd (by simp [cutc, e])
  have hfc : c.fin ≠ -1 := fun e => hfd (by simp [cutc, hfm, e])
  have hio : (i : Int) ∈ o := f1 i c (List.getElem?_eq_some_iff.1 hc).1 hc hob hfc
  have hci : callD cs (i : Int) = c := callD_get hc
  refine List.mem_filter.2 ⟨?_, by rw [hci]; simp [omt, hfm]⟩
  rw [← List.takeWhile_append_dropWhile (p := fun x => decide ((callD cs x).beg < m)) (l := o)] at hio t1
  rcases List.mem_append.1 hio with hq | hq
  ·exact hq
  ·exfalso
   cases hdw : o.dropWhile (fun x => decide ((callD cs x).beg < m)) with
   | nil => rw [hdw] at hq; cases hq
   | cons y r =>
    have hy : ¬ (callD cs y).beg < m := by
     have := List.head?_dropWhile_not (fun x => decide ((callD cs x).beg < m)) o
     rw [hdw] at this
     simpa using this
    rw [hdw] at hq t1
    rcases List.mem_cons.1 hq with e | e
    ·rw [← e, hci] at hy; exact hy hb
    ·rw [pair_int, ordc, List.pairwise_map] at t1
     have h2 := (List.pairwise_append.1 t1).2.1
     have h3 := (List.pairwise_cons.1 h2).1 (i : Int) e
     rw [hci] at h3
     exact h3 ⟨hfc, by omega⟩
 ·rw [pair_int] at t1 ⊢
  rw [ordc, List.pairwise_map] at t1
  have e1 : ordc (cutl m cs) (cuto m cs o) = (cuto m cs o).map (fun x => cutc m (callD cs x)) := List.map_congr_left hcd
  rw [e1, List.pairwise_map]
  refine (t1.sublist hsub).imp (fun {a b} hn ha => hn ?_)
  obtain ⟨h1, h2⟩ := ha
  by_cases e : m ≤ (callD cs b).fin
  ·exact absurd (by simp [cutc, e]) h1
  ·simp only [cutc, e, if_false] at h1 h2
   exact ⟨h1, h2⟩
 ·have hl : (cuto m cs o).length = (ordc (cutl m cs) (cuto m cs o)).length := by rw [ordc_len]
  rw [hl, okTo_iff, hord]
  have k2 : okL ct0 (ordc cs o) := (okTo_iff _ _).1 (by rw [ordc_len]; exact k1)
  rw [← List.takeWhile_append_dropWhile (p := fun x => decide ((callD cs x).beg < m)) (l := o), ordc, List.map_append] at k2
  refine okL_cut hm (fun c hc => ?_) ct0 (okL_pre _ k2)
  obtain ⟨x, hxm, rfl⟩ := List.mem_map.1 hc
  obtain ⟨p1, c, p2, p3, p4⟩ := hx x (htw x hxm).1
  rw [p4]
  exact h.1.fit (List.getElem?_eq_some_iff.1 p2).1 p2
theorem lastT_cut {m : Int} {cs : List Cq} (h : MayC cs) (t : Int) : ∀ n, n ≤ (cutl m cs).length → lastT (cutl m cs) t n = lastT cs t n := by
 intro n
 induction n with
 | zero => intro _; rfl
 | succ n ih =>
  intro hn
  obtain ⟨d, hd⟩ : ∃ d, (cutl m cs)[n]? = some d := ⟨_, List.getElem?_eq_getElem (by omega)⟩
  obtain ⟨c, hc, rfl, _⟩ := cut_get h hd
  unfold lastT
  rw [hd, hc, ih (by omega)]
  rfl
theorem cut_may {m : Int} {cs : List Cq} (h : MayC cs) : MayC (cutl m cs) := by
 refine ⟨fun i hi => ⟨fun d hd => ?_, fun d d' h0 hd hd' => ?_⟩, fun i j d d' x hd hd' hx hx' => ?_, fun i hi d d' hd h0 hd' => ?_⟩
 ·obtain ⟨c, hc, rfl, hb⟩ := cut_get h hd
  exact cutc_fit (h.1.fit (List.getElem?_eq_some_iff.1 hc).1 hc) hb
 ·obtain ⟨c, hc, rfl, hb⟩ := cut_get h hd
  obtain ⟨c', hc', rfl, hb'⟩ := cut_get h hd'
  exact up_lt h (i - 1) i c c' (by omega) hc hc'
 ·obtain ⟨c, hc, rfl, hb⟩ := cut_get h hd
  obtain ⟨c', hc', rfl, hb'⟩ := cut_get h hd'
  exact h.2.1 i j c c' x hc hc' (cutc_mvc (h.1.fit (List.getElem?_eq_some_iff.1 hc).1 hc) hx) (cutc_mvc (h.1.fit (List.getElem?_eq_some_iff.1 hc').1 hc') hx')
 ·obtain ⟨c, hc, rfl, hb⟩ := cut_get h hd
  have e : (cutc m c).th = c.th := rfl
  rw [e, lastT_cut h _ i (by omega)] at h0 hd'
  obtain ⟨c', hc', rfl, hb'⟩ := cut_get h hd'
  have hr := h.2.2 i (List.getElem?_eq_some_iff.1 hc).1 c c' hc h0 hc'
  obtain ⟨r1, r2⟩ := hr
  have hn : ¬ m ≤ c'.fin := by omega
  refine ⟨?_, ?_⟩
  ·simp only [cutc, hn, if_false]; exact r1
  ·simp only [cutc, hn, if_false]; exact r2
theorem cut_wf {m : Int} {cs : List Cq} (h : ∀ c ∈ cs, WfC c) : ∀ c ∈ cutl m cs, WfC c := by
 intro d hd
 obtain ⟨c, hc, rfl⟩ := List.mem_map.1 hd
 exact h c (List.mem_filter.1 hc).1
theorem cnt1_len (cs : List Cq) : ∀ n, (cnt1 cs n).length = (cs.filter (fun c => decide (obj c.op ≠ 0))).length := by
 induction cs with
 | nil => intro n; rfl
 | cons c cs ih =>
  intro n
  rw [cnt1, List.length_append, ih, List.filter_cons]
  by_cases e : obj c.op = 0 <;> simp [e]
  omega
theorem cut_few {m : Int} {cs : List Cq} : (scs (cutl m cs)).length ≤ (scs cs).length := by
 unfold scs cutl
 rw [List.length_map, List.length_map, cnt1_len, cnt1_len, List.filter_map, List.length_map]
 exact (List.filter_sublist.filter _).length_le
theorem cut_found {m : Int} {cs : List Cq} (h : MayC cs) (hm : 0 < m) (hF : (fndA cs).isSome = true) : (fndA (cutl m cs)).isSome = true := by
 have hfit : ∀ c ∈ scs cs, Fit c := scs_fit (mayB_true h)
 have hfit' : ∀ c ∈ scs (cutl m cs), Fit c := scs_fit (mayB_true (cut_may h))
 cases hl : (spc (scs cs)).lm 0 ct0 with
 | none => rw [fndA, hl] at hF; cases hF
 | some l =>
  have := cut_oks h hm (find_good hfit hl)
  obtain ⟨l', hl', _⟩ := find_least' hfit' this
  rw [fndA, hl']
  rfl
end Go.Proofs.YtecldhngggkjjaaGreat.Ws
namespace Go.Proofs.YtecldhngggkjjaaGreat.Ws
open Go.RowKit Mr Md
theorem bx_set {w : World} {b : Nat} {c : Cq} (h : w.heap[b]? = some (cqO c)) (j : Nat) (u : Value) : (w.setCell ⟨b, j, none⟩ u).heap[b]? = some (.cells ((#[.int .i64 c.th, .int .i64 c.op, .int .i64 c.arg, .int .i64 c.data, .int .i64 c.beg, .int .i64 c.fin, .int .i64 c.pt, .int .i64 c.ak, .int .i64 c.av] : Array Value).setIfInBounds j u) 30 (0, 0)) := heap_setCell_same w b j _ _ u h
theorem bx_fro {w : World} {b : Nat} {c : Cq} (h : w.heap[b]? = some (cqO c)) (j : Nat) : w.frozen? ⟨b, j, none⟩ = false := by simp [World.frozen?, h, cqO]
structure Cb (W w : World) (bx : Nat) (d : Cq) (v : Value) (n : Nat) (xs : List Value) : Prop where
 be : Below W.heap.size W w
 ha : Has w (fun k => W.heap.size ≤ k ∧ k < bx) 30 9 v n xs
 bo : w.heap[bx]? = some (cqO d)
 ge : W.heap.size ≤ bx
theorem Cb.set {W w : World} {bx : Nat} {d d' : Cq} {v : Value} {n : Nat} {xs : List Value} (h : Cb W w bx d v n xs) (j : Nat) (u : Value) (hd : (w.setCell ⟨bx, j, none⟩ u).heap[bx]? = some (cqO d')) : Cb W (w.setCell ⟨bx, j, none⟩ u) bx d' v n xs :=
 ⟨h.be.setCell (p := ⟨bx, j, none⟩) h.ge u, h.ha.setCell _ _ (fun e => by have := (h.ha.lt bx e).1.2; exact absurd this (Nat.lt_irrefl _)), hd, h.ge⟩
theorem cutl_snoc_no {m : Int} {cs : List Cq} {i : Nat} {c : Cq} (h : cs[i]? = some c) (hb : m ≤ c.beg) : cutl m (cs.take (i + 1)) = cutl m (cs.take i) := by
 rw [List.take_add_one, h, cutl, cutl, List.filter_append]
 have : ¬ c.beg < m := by omega
 simp [this]
theorem cutl_snoc {m : Int} {cs : List Cq} {i : Nat} {c : Cq} (h : cs[i]? = some c) (hb : ¬ m ≤ c.beg) : cutl m (cs.take (i + 1)) = cutl m (cs.take i) ++ [cutc m c] := by
 rw [List.take_add_one, h, cutl, cutl, List.filter_append]
 have : c.beg < m := by omega
 simp [this]
theorem cutl_len {m : Int} (cs : List Cq) (i : Nat) : (cutl m (cs.take i)).length ≤ i := by
 rw [cutl, List.length_map]
 exact Nat.le_trans (List.length_filter_le _ _) (by rw [List.length_take]; exact Nat.min_le_left _ _)
set_option maxHeartbeats 16000000 in
theorem cut_any {W : World} {T : Nat → Prop} {v : Value} {cs : List Cq} (m : Int) (hv : Sl W T 9 v cs.length (cqs cs)) (hsm : cs.length * 72 ≤ 140737488355328) :
  Calls Tryz.prog 18 #[v, .int .i64 m] W fun e w' => ∃ lv, e = .returned lv ∧ Has w' (fun k => W.heap.size ≤ k) 30 9 lv (cutl m cs).length (cqs (cutl m cs)) ∧ Below W.heap.size W w' := by
 obtain ⟨i0, hinf, hz0, hz1, hz2⟩ := info_parts ws_call
 obtain ⟨a, cap, rfl, hcap⟩ := hv.form
 obtain ⟨n, hn⟩ : ∃ n, n = cs.length := ⟨_, rfl⟩
 rw [← hn] at hsm hcap ⊢
 replace hn := Mr.hid hn
 replace hv := Mr.hid hv
 go_enter Tryz.func18, Tryz.ntmps18
 go_wp2
 go_loopg [5, 6] n (fun gk s5 s6 wr => ∃ i : Nat, s6 = .int .i64 (i : Int) ∧ i + gk = n ∧ Has wr (fun k => W.heap.size ≤ k) 30 9 s5 (cutl m (cs.take i)).length (cqs (cutl m (cs.take i))) ∧ Below W.heap.size W wr)
 case atStart => exact ⟨0, rfl, by omega, by simpa [cutl, cqs] using Has.nil W (fun k => W.heap.size ≤ k) 30 9, Below.refl _ _⟩
 case round =>
  obtain ⟨i, rfl, hi, hH, hB⟩ := hrel
  obtain ⟨av, cv, hvf, hcv⟩ := hH.form
  subst hvf
  by_cases hlt : i < n
  ·obtain ⟨c, hci⟩ := Wt.get_of_lt (cs := cs) (i := i) (by have := hn.out; omega)
   obtain ⟨bc, oc, rfl, A9⟩ := Wt.call_at (hv.out.below hB) hci
   have hlen := cutl_len (m := m) cs i
   have hw : IntKind.i64.wrap ((i : Int) + 1) = (i : Int) + 1 := Wt.i64x _ (by omega) (by omega)
   have K5 : Hid (Cb W (wr.alloc (cqO c)) wr.heap.size c (.slice av (cutl m (cs.take i)).length cv) (cutl m (cs.take i)).length (cqs (cutl m (cs.take i)))) := Mr.hid ⟨hB.alloc hB.size _, (hH.kept (fun _ _ => rfl) (fun k hk => ⟨(hH.lt k hk).1, (hH.lt k hk).2⟩)).alloc _, new_at wr (cqO c) _ rfl, hB.size⟩
   obtain ⟨hbl, g0, g1, g2, g3, g4, g5, g6, g7, g8⟩ := A9
   have hlI : (i : Int) < (n : Int) := by omega
   have qi : (0 : Int) ≤ (i : Int) := by omega
   have hBA := Mr.hid (hB.alloc hB.size (cqO c))
   go_upto_region 6 with (fail)
   unfold cqO at K5 hBA
   clear g0 g1 g2 g3 g4 g5 g6 g7 g8 hbl
   generalize (wr.alloc (Obj.cells #[.int .i64 c.th, .int .i64 c.op, .int .i64 c.arg, .int .i64 c.data, .int .i64 c.beg, .int .i64 c.fin, .int .i64 c.pt, .int .i64 c.ak, .int .i64 c.av] 30 (0, 0))) = w5 at *
   generalize wr.heap.size = bx at *
   clear hB hH wr hBA
   obtain ⟨k0, k1, k2, k3, k4, k5, k6, k7, k8, kl⟩ := cq_cells (c := c) K5.out.bo
   by_cases hb : m ≤ c.beg
   ·have hnx := Mr.hid (cutl_snoc_no hci hb)
    go_wp2
    go_roundg (gk - 1)
    case measure => omega
    case rel => exact ⟨i + 1, by simp, by omega, by rw [hnx.out]; exact K5.out.ha.mono (fun k hk => hk.1), K5.out.be⟩
   ·have hnx := Mr.hid (cutl_snoc hci hb)
    go_upto_region 7 with (fail)
    by_cases hf : m ≤ c.fin
    ·go_upto_region 8 with (fail)
     have f5 := bx_fro K5.out.bo 5
     have K6 := Mr.hid (K5.out.set (d' := { c with fin := -1 }) 5 (.int .i64 (-1)) (bx_set K5.out.bo 5 _))
     clear K5 k0 k1 k2 k3 k4 k6 k7 k8 kl
     go_upto_region 9 with (fail)
     generalize hw6 : World.setCell _ _ _ = w6 at *
     clear hw6 f5 k5
     have f7 := bx_fro K6.out.bo 7
     obtain ⟨k0, k1, k2, k3, k4, k5, k6, k7, k8, kl⟩ := cq_cells (c := { c with fin := -1 }) K6.out.bo
     have K7 := K6.out.set (d' := { c with fin := -1, ak := 0 }) 7 (.int .i64 0) (bx_set K6.out.bo 7 _)
     have f8 := bx_fro K6.out.bo 8
     have K8 := Mr.hid (K7.set (d' := { c with fin := -1, ak := 0, av := 0 }) 8 (.int .i64 0) (bx_set K7.bo 8 _))
     clear K7 K6
     try dsimp only at k0 k1 k2 k3 k4 k5 k6 k7 k8
     go_upto_region 10 with (fail)
     generalize hw8 : World.setCell _ _ _ = w8 at *
     clear hw8 f7 f8 k0 k1 k2 k3 k4 k5 k6 k7 k8 kl
     have f6 := bx_fro K8.out.bo 6
     obtain ⟨k0, k1, k2, k3, k4, k5, k6, k7, k8, kl⟩ := cq_cells (c := { c with fin := -1, ak := 0, av := 0 }) K8.out.bo
     try dsimp only at k0 k1 k2 k3 k4 k5 k6 k7 k8
     by_cases hp : m ≤ c.pt
     ·go_upto_region 11 with (fail)
      have K9 := Mr.hid (K8.out.set (d' := { c with fin := -1, ak := 0, av := 0, pt := -1 }) 6 (.int .i64 (-1)) (bx_set K8.out.bo 6 _))
      have hcut : ({ c with fin := -1, ak := 0, av := 0, pt := -1 } : Cq) = cutc m c := by simp [cutc, hf, hp]
      rw [hcut] at K9
      clear hcut K8
      go_upto_region 12 with (fail)
      generalize hw9 : World.setCell _ _ _ = w9 at *
      clear hw9 f6 k0 k1 k2 k3 k4 k5 k6 k7 k8 kl
      generalize cutc m c = d at *
      obtain ⟨k0, k1, k2, k3, k4, k5, k6, k7, k8, kl⟩ := cq_cells (c := d) K9.out.bo
      have hHA := Mr.hid (fun o => (K9.out.ha.mono (T := fun k => W.heap.size ≤ k) (fun k hk => hk.1)).alloc o)
      have hBA := Mr.hid (fun o => K9.out.be.alloc K9.out.be.size o)
      have hsz := K9.out.be.size
      have hge := Mr.hid (fun k hk => (K9.out.ha.lt k hk).1.1)
      go_wp2_with (at_builtin; refine wpList_append_has _ rfl (.tmp 34) (.tmp 36) 22 rfl (fun k => W.heap.size ≤ k) 30 i0 _ 9 72 Tryz.underlying22 hinf hz0 hz1 hz2 rfl (.slice av (cutl m (cs.take i)).length cv) (cutl m (cs.take i)).length (cqs (cutl m (cs.take i))) rfl (hHA.out _) ⟨_, 0, none⟩ 1 1 d.row rfl rfl (newsCq _ d) (row_one d) (by omega) (by unfold maxLen; omega) (by omega) (by rw [World.size_alloc]; omega) ?_; intro g capx wx hh hgr hor; have hBx := (hBA.out _).grown hgr (by rw [World.size_alloc]; omega) (fun j hj => hge.out j hj); clear hgr hor)
      go_roundg (gk - 1)
      case measure => omega
      case rel => exact ⟨i + 1, by simp, by omega, by rw [hnx.out, List.length_append, cqs_snoc]; exact hh, hBx⟩
     ·have K9 := K8
      have hcut : ({ c with fin := -1, ak := 0, av := 0 } : Cq) = cutc m c := by simp [cutc, hf, hp]
      rw [hcut] at K9
      clear hcut K8
      go_upto_region 12 with (fail)
      clear f6 k0 k1 k2 k3 k4 k5 k6 k7 k8 kl
      generalize cutc m c = d at *
      obtain ⟨k0, k1, k2, k3, k4, k5, k6, k7, k8, kl⟩ := cq_cells (c := d) K9.out.bo
      have hHA := Mr.hid (fun o => (K9.out.ha.mono (T := fun k => W.heap.size ≤ k) (fun k hk => hk.1)).alloc o)
      have hBA := Mr.hid (fun o => K9.out.be.alloc K9.out.be.size o)
      have hsz := K9.out.be.size
      have hge := Mr.hid (fun k hk => (K9.out.ha.lt k hk).1.1)
      go_wp2_with (at_builtin; refine wpList_append_has _ rfl (.tmp 34) (.tmp 36) 22 rfl (fun k => W.heap.size ≤ k) 30 i0 _ 9 72 Tryz.underlying22 hinf hz0 hz1 hz2 rfl (.slice av (cutl m (cs.take i)).length cv) (cutl m (cs.take i)).length (cqs (cutl m (cs.take i))) rfl (hHA.out _) ⟨_, 0, none⟩ 1 1 d.row rfl rfl (newsCq _ d) (row_one d) (by omega) (by unfold maxLen; omega) (by omega) (by rw [World.size_alloc]; omega) ?_; intro g capx wx hh hgr hor; have hBx := (hBA.out _).grown hgr (by rw [World.size_alloc]; omega) (fun j hj => hge.out j hj); clear hgr hor)
      go_roundg (gk - 1)
      case measure => omega
      case rel => exact ⟨i + 1, by simp, by omega, by rw [hnx.out, List.length_append, cqs_snoc]; exact hh, hBx⟩
    ·go_upto_region 10 with (fail)
     clear k0 k1 k2 k3 k4 k5 k6 k7 k8 kl
     have f6 := bx_fro K5.out.bo 6
     obtain ⟨k0, k1, k2, k3, k4, k5, k6, k7, k8, kl⟩ := cq_cells (c := c) K5.out.bo
     try dsimp only at k0 k1 k2 k3 k4 k5 k6 k7 k8
     by_cases hp : m ≤ c.pt
     ·go_upto_region 11 with (fail)
      have K9 := Mr.hid (K5.out.set (d' := { c with pt := -1 }) 6 (.int .i64 (-1)) (bx_set K5.out.bo 6 _))
      have hcut : ({ c with pt := -1 } : Cq) = cutc m c := by simp [cutc, hf, hp]
      rw [hcut] at K9
      clear hcut K5
      go_upto_region 12 with (fail)
      generalize hw9 : World.setCell _ _ _ = w9 at *
      clear hw9 f6 k0 k1 k2 k3 k4 k5 k6 k7 k8 kl
      generalize cutc m c = d at *
      obtain ⟨k0, k1, k2, k3, k4, k5, k6, k7, k8, kl⟩ := cq_cells (c := d) K9.out.bo
      have hHA := Mr.hid (fun o => (K9.out.ha.mono (T := fun k => W.heap.size ≤ k) (fun k hk => hk.1)).alloc o)
      have hBA := Mr.hid (fun o => K9.out.be.alloc K9.out.be.size o)
      have hsz := K9.out.be.size
      have hge := Mr.hid (fun k hk => (K9.out.ha.lt k hk).1.1)
      go_wp2_with (at_builtin; refine wpList_append_has _ rfl (.tmp 34) (.tmp 36) 22 rfl (fun k => W.heap.size ≤ k) 30 i0 _ 9 72 Tryz.underlying22 hinf hz0 hz1 hz2 rfl (.slice av (cutl m (cs.take i)).length cv) (cutl m (cs.take i)).length (cqs (cutl m (cs.take i))) rfl (hHA.out _) ⟨_, 0, none⟩ 1 1 d.row rfl rfl (newsCq _ d) (row_one d) (by omega) (by unfold maxLen; omega) (by omega) (by rw [World.size_alloc]; omega) ?_; intro g capx wx hh hgr hor; have hBx := (hBA.out _).grown hgr (by rw [World.size_alloc]; omega) (fun j hj => hge.out j hj); clear hgr hor)
      go_roundg (gk - 1)
      case measure => omega
      case rel => exact ⟨i + 1, by simp, by omega, by rw [hnx.out, List.length_append, cqs_snoc]; exact hh, hBx⟩
     ·have K9 := K5
      have hcut : (c : Cq) = cutc m c := by simp [cutc, hf, hp]
      rw [hcut] at K9
      clear hcut K5
      go_upto_region 12 with (fail)
      clear f6 k0 k1 k2 k3 k4 k5 k6 k7 k8 kl
      generalize cutc m c = d at *
      obtain ⟨k0, k1, k2, k3, k4, k5, k6, k7, k8, kl⟩ := cq_cells (c := d) K9.out.bo
      have hHA := Mr.hid (fun o => (K9.out.ha.mono (T := fun k => W.heap.size ≤ k) (fun k hk => hk.1)).alloc o)
      have hBA := Mr.hid (fun o => K9.out.be.alloc K9.out.be.size o)
      have hsz := K9.out.be.size
      have hge := Mr.hid (fun k hk => (K9.out.ha.lt k hk).1.1)
      go_wp2_with (at_builtin; refine wpList_append_has _ rfl (.tmp 34) (.tmp 36) 22 rfl (fun k => W.heap.size ≤ k) 30 i0 _ 9 72 Tryz.underlying22 hinf hz0 hz1 hz2 rfl (.slice av (cutl m (cs.take i)).length cv) (cutl m (cs.take i)).length (cqs (cutl m (cs.take i))) rfl (hHA.out _) ⟨_, 0, none⟩ 1 1 d.row rfl rfl (newsCq _ d) (row_one d) (by omega) (by unfold maxLen; omega) (by omega) (by rw [World.size_alloc]; omega) ?_; intro g capx wx hh hgr hor; have hBx := (hBA.out _).grown hgr (by rw [World.size_alloc]; omega) (fun j hj => hge.out j hj); clear hgr hor)
      go_roundg (gk - 1)
      case measure => omega
      case rel => exact ⟨i + 1, by simp, by omega, by rw [hnx.out, List.length_append, cqs_snoc]; exact hh, hBx⟩
  ·obtain rfl : i = n := by omega
   have hH2 : Has wr (fun k => W.heap.size ≤ k) 30 9 (.slice av (cutl m (cs.take i)).length cv) (cutl m cs).length (cqs (cutl m cs)) := by
    have e : cs.take i = cs := by rw [hn.out, List.take_length]
    have := hH
    rw [e] at this ⊢
    exact this
   replace hH2 := Mr.hid hH2
   go_wp2
   go_ret
   exact ⟨_, rfl, hH2.out, hB⟩
end Go.Proofs.YtecldhngggkjjaaGreat.Ws
namespace Go.Proofs.YtecldhngggkjjaaGreat.Ws
open Go.RowKit Mr Md
theorem cut_none {m : Int} {cs : List Cq} (h : Wt.MayC cs) (hm : ¬ 0 < m) : cutl m cs = [] := by
 rw [cutl, List.map_eq_nil_iff, List.filter_eq_nil_iff]
 intro c hc
 obtain ⟨i, hi, e⟩ := List.getElem_of_mem hc
 have := h.1.fit hi (c := c) (by rw [List.getElem?_eq_getElem hi, e])
 obtain ⟨_, _, ⟨h1, _⟩, _⟩ := this
 simp
 omega
theorem nil_found : (fndA []).isSome = true := by decide
theorem cut_src {m : Int} {cs : List Cq} (h : Wt.MayC cs) (hs : srcB cs = true) : srcB (cutl m cs) = true := by
 unfold srcB at hs ⊢
 rw [Bool.and_eq_true, decide_eq_true_eq] at hs ⊢
 exact ⟨Nat.le_trans cut_few hs.1, Wt.mayB_true (cut_may h)⟩
set_option maxHeartbeats 16000000 in
theorem law_begun (v : Value) (cs : List Cq) (m : Int) (W : World) (hv : Sl W (fun _ => True) 9 v cs.length (cqs cs)) (hsm : cs.length * 72 ≤ 140737488351232) (hwf : ∀ c ∈ cs, WfC c) (hwm : (Lit.int .i64 m).wf = true) :
  Calls Tryz.prog 5 #[v, .int .i64 m] W fun e w' => e = .returned (.bool true) ∧ Below W.heap.size W w' := by
 have AW := Mr.hid (awake_any W)
 have SR := Mr.hid (fun (w' : World) (hB : Below W.heap.size W w') => searched_any (hv.below hB) (by omega : cs.length * 72 ≤ 140737488355328))
 have CT := Mr.hid (fun (w' : World) (hB : Below W.heap.size W w') => cut_any m (hv.below hB) (by omega))
 cases hsB : srcB cs with
 | false =>
  rw [hsB] at SR
  obtain ⟨a, cap, rfl, hcap⟩ := hv.form
  replace hv := Mr.hid hv
  generalize cs.length = n at *
  go_enter Tryz.func5, Tryz.ntmps5
  go_upto_region 3 with (go_at_call 9; refine AW.out.mono ?_; rintro e w1 ⟨rfl, hB1⟩)
  go_wp2_with (go_at_call 10; refine (SR.out _ hB1).mono ?_; rintro e w2 ⟨rfl, hB2⟩)
  go_ret
  exact ⟨rfl, hB1.trans (hB2.mono hB1.size)⟩
 | true =>
  rw [hsB] at SR
  obtain ⟨hE, hmB, hMay⟩ := src_err' hsB
  have hcs := cut_src (m := m) hMay hsB
  have hcm := cut_may (m := m) hMay
  have hcw := cut_wf (m := m) hwf
  have hcl : (cutl m cs).length ≤ cs.length := by have := cutl_len (m := m) cs cs.length; rwa [List.take_length] at this
  have hff : (fndA cs).isSome = true → (fndA (cutl m cs)).isSome = true := fun h => by
   by_cases h0 : 0 < m
   ·exact cut_found hMay h0 h
   ·rw [cut_none hMay h0]; exact nil_found
  have FD := Mr.hid (fun (w' : World) (hB : Below W.heap.size W w') => found_any (hv.below hB) (by omega) hwf hsB)
  obtain ⟨a, cap, rfl, hcap⟩ := hv.form
  replace hv := Mr.hid hv
  generalize hdsn : cutl m cs = ds at *
  have hds8 : ds.length * 72 ≤ 140737488355328 := by omega
  generalize cs.length = n at *
  go_enter Tryz.func5, Tryz.ntmps5
  go_upto_region 3 with (go_at_call 9; refine AW.out.mono ?_; rintro e w1 ⟨rfl, hB1⟩)
  go_upto_region 5 with (go_at_call 10; refine (SR.out _ hB1).mono ?_; rintro e w2 ⟨rfl, hB2⟩)
  have hB12 := hB1.trans (hB2.mono hB1.size)
  have FDw := Mr.hid (FD.out _ hB12)
  clear AW SR FD hB1 hB2
  go_upto_region 8 with (go_at_call 16; refine FDw.out.mono ?_; rintro e w3 ⟨rfl, hB3⟩)
  have hB13 := hB12.trans (hB3.mono hB12.size)
  have CTw := Mr.hid (CT.out _ hB13)
  clear CT hB12 hB3 FDw
  go_upto_region 9 with (go_at_call 18; refine CTw.out.mono ?_; rintro e w4 ⟨lv, rfl, hh, hB4⟩; obtain ⟨al, cl, rfl, hcc⟩ := hh.form)
  have hB14 := hB13.trans (hB4.mono hB13.size)
  have hS4 := Sl.mono (Sl.of_has hh) (fun _ _ => trivial) (T' := fun _ => True)
  have RMw := Mr.hid (Wt.rMay_any hS4 (by omega))
  have PMw := Mr.hid (fun (w' : World) (hB : Below w4.heap.size w4 w') => Wt.may_any (hS4.below hB) (by omega))
  rw [Wt.mayB_true hcm] at RMw PMw
  have FDd := Mr.hid (fun (w' : World) (hB : Below w4.heap.size w4 w') => found_any (hS4.below hB) hds8 hcw hcs)
  clear hh CTw hB13 hB4
  replace hS4 := Mr.hid hS4
  go_upto_region 11 with (first
   | (go_at_call 11; refine RMw.out.mono ?_; rintro e w5 ⟨rfl, hB5⟩)
   | (go_at_call 19; refine (PMw.out _ hB5).mono ?_; rintro e w6 ⟨rfl, hB6⟩))
  have hB46 := hB5.trans (hB6.mono hB5.size)
  have FDe := Mr.hid (FDd.out _ hB46)
  clear FDd PMw RMw hB5 hB6
  go_upto_region 12 with (go_at_call 16; refine FDe.out.mono ?_; rintro e w7 ⟨rfl, hB7⟩)
  have hB17 := hB14.trans ((hB46.trans (hB7.mono hB46.size)).mono hB14.size)
  clear hB14 hB46 hB7 FDe
  generalize (fndA cs).isSome = p at *
  generalize (fndA ds).isSome = q at *
  cases p with
  | false =>
   cases q with
   | false => go_wp2; go_ret; exact ⟨rfl, hB17⟩
   | true => go_wp2; go_ret; exact ⟨rfl, hB17⟩
  | true =>
   obtain rfl := hff rfl
   go_wp2
   go_ret
   exact ⟨rfl, hB17⟩
end Go.Proofs.YtecldhngggkjjaaGreat.Ws
