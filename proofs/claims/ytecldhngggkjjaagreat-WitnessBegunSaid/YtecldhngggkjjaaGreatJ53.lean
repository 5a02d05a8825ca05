import Derived.Test.YtecldhngggkjjaaGreatJ36
import Derived.Test.YtecldhngggkjjaaGreatJ42
set_option linter.unusedVariables false
set_option linter.unusedSimpArgs false
namespace Go.Proofs.YtecldhngggkjjaaGreat.Ws
open Md Wt
structure Lgr (c d : Cq) : Prop where
 op : d.op = c.op
 arg : d.arg = c.arg
 data : d.data = c.data
 ak : d.ak = c.ak
 av : d.av = c.av
 beg : d.beg ≤ c.beg
 fin : (c.fin = -1 ∧ d.fin = -1) ∨ (c.fin ≠ -1 ∧ d.fin ≠ -1 ∧ c.fin ≤ d.fin)
theorem Lgr.refl (c : Cq) : Lgr c c := by
 refine ⟨rfl, rfl, rfl, rfl, rfl, Int.le_refl _, ?_⟩
 by_cases h : c.fin = -1
 ·exact .inl ⟨h, h⟩
 ·exact .inr ⟨h, h, Int.le_refl _⟩
theorem Lgr.alw {c d : Cq} (h : Lgr c d) (x : Ct) : alw x d = alw x c := by
 unfold Md.alw
 rw [h.op, h.arg, h.data, h.ak, h.av]
def Lgs (cs ds : List Cq) : Prop := ds.length = cs.length ∧ ∀ (i : Nat) (c d : Cq), cs[i]? = some c → ds[i]? = some d → Lgr c d
theorem lgs_cnt : ∀ {cs ds : List Cq}, Lgs cs ds → ∀ n, (cnt1 ds n).map (·.1) = (cnt1 cs n).map (·.1) ∧ Lgs ((cnt1 cs n).map (·.2)) ((cnt1 ds n).map (·.2)) := by
 intro cs
 induction cs with
 | nil =>
  intro ds h n
  have : ds = [] := List.eq_nil_of_length_eq_zero (by simpa using h.1)
  subst this
  exact ⟨rfl, by simp [cnt1, Lgs]⟩
 | cons c cs ih =>
  intro ds h n
  cases ds with
  | nil => simp [Lgs] at h
  | cons d ds =>
   have h0 := h.2 0 c d rfl rfl
   have ht : Lgs cs ds := ⟨by simpa using h.1, fun i a b ha hb => h.2 (i + 1) a b (by simpa using ha) (by simpa using hb)⟩
   obtain ⟨i1, i2⟩ := ih ht (n + 1)
   unfold cnt1
   rw [h0.op]
   by_cases ho : obj c.op = 0
   ·simp only [ho, ne_eq, not_true_eq_false, if_false, List.nil_append]
    exact ⟨i1, i2⟩
   ·simp only [ho, ne_eq, not_false_eq_true, if_true, List.singleton_append, List.map_cons]
    refine ⟨by rw [i1], by simpa using i2.1, fun i a b ha hb => ?_⟩
    cases i with
    | zero =>
     simp at ha hb
     subst ha; subst hb
     exact h0
    | succ i => exact i2.2 i a b (by simpa using ha) (by simpa using hb)
theorem lgs_nms {cs ds : List Cq} (h : Lgs cs ds) : nms ds = nms cs := (lgs_cnt h 0).1
theorem lgs_scs {cs ds : List Cq} (h : Lgs cs ds) : Lgs (scs cs) (scs ds) := (lgs_cnt h 0).2
theorem lgs_cd {sc sd : List Cq} (h : Lgs sc sd) (i : Nat) : Lgr (cd sc i) (cd sd i) := by
 unfold cd
 by_cases hi : i < sc.length
 ·have hj : i < sd.length := by rw [h.1]; exact hi
  have := h.2 i _ _ (List.getElem?_eq_getElem hi) (List.getElem?_eq_getElem hj)
  rw [List.getElem?_eq_getElem hi, List.getElem?_eq_getElem hj]
  exact this
 ·rw [List.getElem?_eq_none (by omega), List.getElem?_eq_none (by rw [h.1]; omega)]
  exact Lgr.refl _
theorem lgr_ah {c c' d d' : Cq} (h : Lgr c c') (k : Lgr d d') (ha : AhP c' d') : AhP c d := by
 obtain ⟨h1, h2⟩ := ha
 rcases h.fin with ⟨_, e⟩ | ⟨e1, _, e3⟩
 ·exact absurd e h1
 ·have := k.beg
  exact ⟨e1, by omega⟩
theorem ahB_iff (c d : Cq) : ahB c d = true ↔ AhP c d := by
 unfold ahB AhP
 simp [bne_iff_ne]
theorem lgs_lefts {sc sd : List Cq} (h : Lgs sc sd) (l : List Nat) (x : Ct) : ∀ j, lefts x (l.map (cd sd)) j = lefts x (l.map (cd sc)) j := by
 intro j
 unfold lefts
 rw [← List.map_take, ← List.map_take, List.foldl_map, List.foldl_map]
 congr 1
 funext y i
 rw [(lgs_cd h i).alw]
theorem lgs_okTo {sc sd : List Cq} (h : Lgs sc sd) (l : List Nat) (hk : okTo ct0 (l.map (cd sc)) l.length) : okTo ct0 (l.map (cd sd)) l.length := by
 intro j hj d hd
 rw [List.getElem?_map] at hd
 cases hq : l[j]? with
 | none => rw [hq] at hd; cases hd
 | some i =>
  rw [hq] at hd
  cases hd
  rw [lgs_lefts h, (lgs_cd h i).alw]
  exact hk j hj _ (by rw [List.getElem?_map, hq]; rfl)
theorem lgs_exp {sc sd : List Cq} (h : Lgs sc sd) {l : List Nat} (he : Exp sc l) : Exp sd l := by
 refine ⟨he.nod, fun i hi => by rw [h.1]; exact he.lt i hi, fun i hi hf => ?_, ?_, lgs_okTo h l he.ans⟩
 ·refine he.full i (by rw [← h.1]; exact hi) ?_
  rcases (lgs_cd h i).fin with ⟨_, e⟩ | ⟨e, _, _⟩
  ·exact absurd e hf
  ·exact e
 ·exact he.tim.imp (fun {a b} hn ha => hn (lgr_ah (lgs_cd h b) (lgs_cd h a) ha))
theorem lgs_oks {cs ds : List Cq} (h : Lgs cs ds) {o : List Int} (ho : Oks cs o) : Oks ds o := by
 obtain ⟨l, hl, rfl⟩ := oks_exp ho
 have := exp_oks (lgs_exp (lgs_scs h) hl)
 unfold nmo at this ⊢
 rw [lgs_nms h] at this
 exact this
theorem cnt_mono {s t : Sp Ct} (hn : s.n = t.n) (hw : ∀ P, s.whl P = true → t.whl P = true) (hx : ∀ x i, s.nx x i = t.nx x i) (hok : ∀ P x i, s.ok P x i = true → t.ok P x i = true) : ∀ (f P : Nat) (x : Ct), s.cnt f P x ≤ t.cnt f P x := by
 have hw1 : ∀ P, (if s.whl P then 1 else 0) ≤ (if t.whl P then 1 else 0) := fun P => by
  by_cases h : s.whl P = true
  ·rw [if_pos h, if_pos (hw P h)]; exact Nat.le_refl _
  ·rw [if_neg h]; exact Nat.zero_le _
 intro f
 induction f with
 | zero => intro P x; exact hw1 P
 | succ f ih =>
  intro P x
  rw [Sp.cnt, Sp.cnt, hn]
  refine Nat.add_le_add (hw1 P) ?_
  have : ∀ l : List Nat, (l.map (fun i => if s.ok P x i then s.cnt f (P ||| 2 ^ i) (s.nx x i) else 0)).sum ≤ (l.map (fun i => if t.ok P x i then t.cnt f (P ||| 2 ^ i) (t.nx x i) else 0)).sum := by
   intro l
   induction l with
   | nil => simp
   | cons i l ihl =>
    rw [List.map_cons, List.map_cons, List.sum_cons, List.sum_cons]
    refine Nat.add_le_add ?_ ihl
    by_cases h : s.ok P x i = true
    ·rw [if_pos h, if_pos (hok P x i h), hx]; exact ih _ _
    ·rw [if_neg h]; exact Nat.zero_le _
  exact this _
theorem lgs_num {cs ds : List Cq} (h : Lgs cs ds) : (spc (scs cs)).num 0 ct0 ≤ (spc (scs ds)).num 0 ct0 := by
 have hs := lgs_scs h
 have hn : (spc (scs cs)).n = (spc (scs ds)).n := hs.1.symm
 unfold Sp.num
 rw [← hn]
 refine cnt_mono hn (fun P hw => ?_) (fun x i => ?_) (fun P x i ho => ?_) _ _ _
 ·show whlB (scs ds) P = true
  have hw : whlB (scs cs) P = true := hw
  unfold whlB at hw ⊢
  rw [List.all_eq_true] at hw ⊢
  intro i hi
  have := hw i (by rw [← hs.1]; exact hi)
  rw [Bool.or_eq_true] at this ⊢
  rcases this with e | e
  ·left
   rcases (lgs_cd hs i).fin with ⟨_, e'⟩ | ⟨e', _, _⟩
   ·simp [e']
   ·exact absurd (by simpa using e) e'
  ·exact .inr e
 ·show (alw x (cd (scs cs) i)).1 = (alw x (cd (scs ds) i)).1
  rw [(lgs_cd hs i).alw]
 ·simp only [spc, Bool.and_eq_true] at ho ⊢
  refine ⟨⟨ho.1.1, ?_⟩, by rw [(lgs_cd hs i).alw]; exact ho.2⟩
  have ha := ho.1.2
  unfold ahmB at ha ⊢
  rw [List.all_eq_true] at ha ⊢
  intro k hk
  have := ha k (by rw [← hs.1]; exact hk)
  rw [Bool.or_eq_true] at this ⊢
  rcases this with e | e
  ·left
   cases hq : ahB (cd (scs ds) k) (cd (scs ds) i) with
   | false => rfl
   | true =>
    have h1 := (ahB_iff _ _).2 (lgr_ah (lgs_cd hs k) (lgs_cd hs i) ((ahB_iff _ _).1 hq))
    rw [h1] at e; cases e
  ·exact .inr e
def mvd (c : Cq) (b e : Int) : Cq := { c with beg := min c.beg b, fin := if c.fin = -1 then -1 else max c.fin e }
theorem mvd_lgr {c : Cq} (h : Fit c) (b e : Int) : Lgr c (mvd c b e) := by
 obtain ⟨_, _, ⟨h1, h2, _⟩, _⟩ := h
 refine ⟨rfl, rfl, rfl, rfl, rfl, by show min c.beg b ≤ c.beg; omega, ?_⟩
 by_cases hf : c.fin = -1
 ·exact .inl ⟨hf, by simp [mvd, hf]⟩
 ·refine .inr ⟨hf, ?_, ?_⟩
  ·show (if c.fin = -1 then -1 else max c.fin e) ≠ -1
   rw [if_neg hf]; omega
  ·show c.fin ≤ (if c.fin = -1 then -1 else max c.fin e)
   rw [if_neg hf]; omega
theorem lgs_set {cs : List Cq} {i : Nat} {c : Cq} (hc : cs[i]? = some c) (hf : Fit c) (b e : Int) : Lgs cs (cs.set i (mvd c b e)) := by
 refine ⟨by simp, fun j a d ha hd => ?_⟩
 by_cases hj : i = j
 ·subst hj
  rw [List.getElem?_set_self (List.getElem?_eq_some_iff.1 hc).1] at hd
  rw [hc] at ha
  cases ha; cases hd
  exact mvd_lgr hf b e
 ·rw [List.getElem?_set_ne hj] at hd
  rw [ha] at hd
  cases hd
  exact Lgr.refl _
end Go.Proofs.YtecldhngggkjjaaGreat.Ws
