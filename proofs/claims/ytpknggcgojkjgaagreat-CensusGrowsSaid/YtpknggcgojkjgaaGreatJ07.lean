import Derived.Test.YtpknggcgojkjgaaGreatJ06
/-
  Calls one behind the other, purely; rows of calls; sizes.
-/
namespace Go.Proofs.YtpknggcgojkjgaaGreat.Md
open Go.RowKit Mr Me
set_option linter.unusedVariables false
set_option linter.unusedSimpArgs false
/-- A call's cells; calls' rows. -/
def Cq.row (c : Cq) : List Value := [.int .i64 c.th, .int .i64 c.op, .int .i64 c.arg, .int .i64 c.data, .int .i64 c.beg, .int .i64 c.fin, .int .i64 c.pt, .int .i64 c.ak, .int .i64 c.av]
def cqs (l : List Cq) : List Value := l.flatMap Cq.row
theorem cqs_get (l : List Cq) (i : Nat) (c : Cq) (h : l[i]? = some c) (j : Nat) (hj : j < 9) : (cqs l)[i * 9 + j]? = c.row[j]? := by
  induction l generalizing i with
  | nil => simp at h
  | cons x l ih =>
    cases i with
    | zero =>
      simp at h; subst h
      simp only [cqs, List.flatMap_cons]
      rw [List.getElem?_append_left (by simp [Cq.row]; omega)]
      simp
    | succ i =>
      have := ih i (by simpa using h)
      simp only [cqs, List.flatMap_cons] at this ⊢
      rw [List.getElem?_append_right (by simp [Cq.row]; omega)]
      rw [← this]
      congr 1
      simp [Cq.row]; omega
theorem cqs_length (l : List Cq) : (cqs l).length = l.length * 9 := by
  induction l with
  | nil => rfl
  | cons x l ih => simp only [cqs, List.flatMap_cons, List.length_append] at ih ⊢; simp [Cq.row] at ih ⊢; omega
end Go.Proofs.YtpknggcgojkjgaaGreat.Md
/-
  CENSUS, pure: a run's events, in their order, and monitors that are told of them.
-/
namespace Go.Proofs.YtpknggcgojkjgaaGreat.Cn
open Md
set_option linter.unusedVariables false
/-- An access. -/
structure Ax where
  mv : Int
  th : Int
  kd : Int
  ad : Int
  old : Int
  nw : Int
  saw : Int
/-- A shift. -/
structure Sx where
  mv : Int
  th : Int
  slot : Int
  fr : Int
  to : Int
/-- An event: its kind (1 begins, 2 accesses, 3 shifts, 4 ends), move, thread, number in its list. -/
structure Ev where
  kd : Int
  mv : Int
  th : Int
  nb : Int
deriving DecidableEq
instance : Inhabited Ev := ⟨⟨0, 0, 0, 0⟩⟩
def Ev.lt (a b : Ev) : Prop := a.mv < b.mv ∨ (a.mv = b.mv ∧ (a.kd < b.kd ∨ (a.kd = b.kd ∧ a.nb < b.nb)))
def bev (c : Cq) (i : Nat) : Ev := ⟨1, c.beg, c.th, (i : Int)⟩
def fev (c : Cq) (i : Nat) : Ev := ⟨4, c.fin, c.th, (i : Int)⟩
def aev (a : Ax) (i : Nat) : Ev := ⟨2, a.mv, a.th, (i : Int)⟩
def sev (a : Sx) (i : Nat) : Ev := ⟨3, a.mv, a.th, (i : Int)⟩
def evC : List Cq → Nat → List Ev
  | [], _ => []
  | c :: cs, i => (bev c i :: if c.fin = -1 then [] else [fev c i]) ++ evC cs (i + 1)
def evT : List Ax → Nat → List Ev
  | [], _ => []
  | a :: l, i => aev a i :: evT l (i + 1)
def evS : List Sx → Nat → List Ev
  | [], _ => []
  | a :: l, i => sev a i :: evS l (i + 1)
def evB : List Cq → Nat → List Ev
  | [], _ => []
  | c :: cs, i => bev c i :: evB cs (i + 1)
/-- All that a run has. -/
def evA (cs : List Cq) (tr : List Ax) (sh : List Sx) : List Ev := evC cs 0 ++ evT tr 0 ++ evS sh 0
/-- In its order. -/
structure Srt (cs : List Cq) (tr : List Ax) (sh : List Sx) (es : List Ev) : Prop where
  perm : es.Perm (evA cs tr sh)
  up : es.Pairwise Ev.lt

theorem evC_mem {cs : List Cq} {e : Ev} : ∀ {k : Nat}, e ∈ evC cs k ↔ ∃ i c, cs[i]? = some c ∧ (e = bev c (k + i) ∨ c.fin ≠ -1 ∧ e = fev c (k + i)) := by
  induction cs with
  | nil => intro k; simp [evC]
  | cons d cs ih =>
    intro k
    constructor
    · intro h
      rw [evC, List.mem_append] at h
      rcases h with h | h
      · refine ⟨0, d, rfl, ?_⟩
        by_cases hd : d.fin = -1
        · rw [if_pos hd] at h; simp at h; exact .inl h
        · rw [if_neg hd] at h; simp at h
          exact h.imp id (fun h => ⟨hd, h⟩)
      · obtain ⟨i, c, hc, h⟩ := ih.1 h
        exact ⟨i + 1, c, by simpa using hc, by rw [show k + (i + 1) = k + 1 + i from by omega]; exact h⟩
    · rintro ⟨i, c, hc, h⟩
      rw [evC, List.mem_append]
      cases i with
      | zero =>
        simp at hc; subst hc
        left
        rcases h with h | ⟨hd, h⟩
        · simp [h]
        · rw [if_neg hd]; simp [h]
      | succ i => right; exact ih.2 ⟨i, c, by simpa using hc, by rw [show k + 1 + i = k + (i + 1) from by omega]; exact h⟩
theorem evT_mem {l : List Ax} {e : Ev} : ∀ {k : Nat}, e ∈ evT l k ↔ ∃ i c, l[i]? = some c ∧ e = aev c (k + i) := by
  induction l with
  | nil => intro k; simp [evT]
  | cons d cs ih =>
    intro k
    constructor
    · intro h
      rw [evT, List.mem_cons] at h
      rcases h with h | h
      · exact ⟨0, d, rfl, h⟩
      · obtain ⟨i, c, hc, h⟩ := ih.1 h
        exact ⟨i + 1, c, by simpa using hc, by rw [show k + (i + 1) = k + 1 + i from by omega]; exact h⟩
    · rintro ⟨i, c, hc, h⟩
      rw [evT, List.mem_cons]
      cases i with
      | zero => simp at hc; subst hc; exact .inl h
      | succ i => right; exact ih.2 ⟨i, c, by simpa using hc, by rw [show k + 1 + i = k + (i + 1) from by omega]; exact h⟩
theorem evS_mem {l : List Sx} {e : Ev} : ∀ {k : Nat}, e ∈ evS l k ↔ ∃ i c, l[i]? = some c ∧ e = sev c (k + i) := by
  induction l with
  | nil => intro k; simp [evS]
  | cons d cs ih =>
    intro k
    constructor
    · intro h
      rw [evS, List.mem_cons] at h
      rcases h with h | h
      · exact ⟨0, d, rfl, h⟩
      · obtain ⟨i, c, hc, h⟩ := ih.1 h
        exact ⟨i + 1, c, by simpa using hc, by rw [show k + (i + 1) = k + 1 + i from by omega]; exact h⟩
    · rintro ⟨i, c, hc, h⟩
      rw [evS, List.mem_cons]
      cases i with
      | zero => simp at hc; subst hc; exact .inl h
      | succ i => right; exact ih.2 ⟨i, c, by simpa using hc, by rw [show k + 1 + i = k + (i + 1) from by omega]; exact h⟩
theorem evB_mem {cs : List Cq} {e : Ev} : ∀ {k : Nat}, e ∈ evB cs k ↔ ∃ i c, cs[i]? = some c ∧ e = bev c (k + i) := by
  induction cs with
  | nil => intro k; simp [evB]
  | cons d cs ih =>
    intro k
    constructor
    · intro h
      rw [evB, List.mem_cons] at h
      rcases h with h | h
      · exact ⟨0, d, rfl, h⟩
      · obtain ⟨i, c, hc, h⟩ := ih.1 h
        exact ⟨i + 1, c, by simpa using hc, by rw [show k + (i + 1) = k + 1 + i from by omega]; exact h⟩
    · rintro ⟨i, c, hc, h⟩
      rw [evB, List.mem_cons]
      cases i with
      | zero => simp at hc; subst hc; exact .inl h
      | succ i => right; exact ih.2 ⟨i, c, by simpa using hc, by rw [show k + 1 + i = k + (i + 1) from by omega]; exact h⟩
theorem evA_mem {cs : List Cq} {tr : List Ax} {sh : List Sx} {e : Ev} : e ∈ evA cs tr sh ↔ (∃ i c, cs[i]? = some c ∧ (e = bev c i ∨ c.fin ≠ -1 ∧ e = fev c i)) ∨ (∃ i a, tr[i]? = some a ∧ e = aev a i) ∨ (∃ i a, sh[i]? = some a ∧ e = sev a i) := by
  unfold evA
  rw [List.mem_append, List.mem_append, evC_mem, evT_mem, evS_mem]
  simp only [Nat.zero_add, or_assoc]
/-- Events have keys of their own. -/
theorem evA_key {cs : List Cq} {tr : List Ax} {sh : List Sx} {e f : Ev} (he : e ∈ evA cs tr sh) (hf : f ∈ evA cs tr sh) (hk : e.kd = f.kd) (hn : e.nb = f.nb) : e = f := by
  rw [evA_mem] at he hf
  rcases he with ⟨i, c, hc, rfl | ⟨_, rfl⟩⟩ | ⟨i, c, hc, rfl⟩ | ⟨i, c, hc, rfl⟩ <;> rcases hf with ⟨j, d, hd, rfl | ⟨_, rfl⟩⟩ | ⟨j, d, hd, rfl⟩ | ⟨j, d, hd, rfl⟩ <;> simp [bev, fev, aev, sev] at hk hn ⊢ <;> (have hij := Int.ofNat.inj hn; subst hij; rw [hc] at hd; cases hd; simp)
theorem Ev.lt_irrefl {a : Ev} : ¬ Ev.lt a a := by unfold Ev.lt; omega
theorem Ev.lt_trans {a b c : Ev} (h : Ev.lt a b) (k : Ev.lt b c) : Ev.lt a c := by unfold Ev.lt at *; omega
theorem Ev.lt_asymm {a b : Ev} (h : Ev.lt a b) : ¬ Ev.lt b a := by unfold Ev.lt at *; omega
theorem Ev.tri {a b : Ev} (h : ¬ Ev.lt a b) (k : ¬ Ev.lt b a) : a.mv = b.mv ∧ a.kd = b.kd ∧ a.nb = b.nb := by unfold Ev.lt at *; omega
/-- Two rows in order of the same events are one. -/
theorem srt_unique {l m : List Ev} (hp : l.Perm m) (hl : l.Pairwise Ev.lt) (hm : m.Pairwise Ev.lt) : l = m := by
  induction l generalizing m with
  | nil => simpa using hp.symm
  | cons a l ih =>
    cases m with
    | nil => simp at hp
    | cons b m =>
      have ha : a ∈ b :: m := hp.mem_iff.1 (by simp)
      have hb : b ∈ a :: l := hp.mem_iff.2 (by simp)
      have e : a = b := by
        rcases List.mem_cons.1 ha with e | h
        · exact e
        · rcases List.mem_cons.1 hb with e | k
          · exact e.symm
          · exact absurd (List.rel_of_pairwise_cons hm h) (Ev.lt_asymm (List.rel_of_pairwise_cons hl k))
      subst e
      rw [ih (List.Perm.cons_inv hp) (List.Pairwise.of_cons hl) (List.Pairwise.of_cons hm)]
section
variable {cs : List Cq} {tr : List Ax} {sh : List Sx} {es : List Ev}
theorem Srt.mem (h : Srt cs tr sh es) {e : Ev} : e ∈ es ↔ e ∈ evA cs tr sh := h.perm.mem_iff
/-- What lies ahead of an event. -/
theorem Srt.ahead (h : Srt cs tr sh es) {p q : List Ev} {e : Ev} (hs : es = p ++ e :: q) {f : Ev} : f ∈ p ↔ f ∈ es ∧ Ev.lt f e := by
  have hu := h.up
  rw [hs, List.pairwise_append] at hu
  constructor
  · intro hf
    exact ⟨by rw [hs]; simp [hf], hu.2.2 f hf e (by simp)⟩
  · rintro ⟨hf, hl⟩
    rw [hs, List.mem_append, List.mem_cons] at hf
    rcases hf with hf | rfl | hf
    · exact hf
    · exact absurd hl Ev.lt_irrefl
    · exact absurd (List.rel_of_pairwise_cons hu.2.1 hf) (Ev.lt_asymm hl)
/-- The events of a kind. -/
def ofk (k : Int) (l : List Ev) : List Ev := l.filter fun e => decide (e.kd = k)
theorem ofk_app (k : Int) (l m : List Ev) : ofk k (l ++ m) = ofk k l ++ ofk k m := by simp [ofk]
theorem ofk_cons (k : Int) (e : Ev) (m : List Ev) : ofk k (e :: m) = (if e.kd = k then [e] else []) ++ ofk k m := by
  unfold ofk; by_cases h : e.kd = k <;> simp [h]
theorem ofk_evT {k : Int} {l : List Ax} : ∀ {i : Nat}, ofk k (evT l i) = if k = 2 then evT l i else [] := by
  induction l with
  | nil => intro i; simp [evT, ofk]
  | cons a l ih =>
    intro i
    rw [evT, ofk_cons, ih]
    by_cases h : k = 2
    · subst h; rw [if_pos rfl, if_pos (show (aev a i).kd = 2 from rfl)]; rfl
    · rw [if_neg h, if_neg (show ¬ (aev a i).kd = k from fun e => h e.symm)]; simp [h]
theorem ofk_evS {k : Int} {l : List Sx} : ∀ {i : Nat}, ofk k (evS l i) = if k = 3 then evS l i else [] := by
  induction l with
  | nil => intro i; simp [evS, ofk]
  | cons a l ih =>
    intro i
    rw [evS, ofk_cons, ih]
    by_cases h : k = 3
    · subst h; rw [if_pos rfl, if_pos (show (sev a i).kd = 3 from rfl)]; rfl
    · rw [if_neg h, if_neg (show ¬ (sev a i).kd = k from fun e => h e.symm)]; simp [h]
theorem ofk_evC2 {k : Int} {l : List Cq} (h1 : k ≠ 1) (h4 : k ≠ 4) : ∀ {i : Nat}, ofk k (evC l i) = [] := by
  induction l with
  | nil => intro i; simp [evC, ofk]
  | cons a l ih => intro i; rw [evC, ofk_app, ih]; by_cases h : a.fin = -1 <;> simp [h, ofk, bev, fev] <;> omega
theorem ofk_evC1 {l : List Cq} : ∀ {i : Nat}, ofk 1 (evC l i) = evB l i := by
  induction l with
  | nil => intro i; simp [evC, evB, ofk]
  | cons a l ih => intro i; rw [evC, ofk_app, ih, evB]; by_cases h : a.fin = -1 <;> simp [h, ofk, bev, fev]
theorem ofk_1 : ofk 1 (evA cs tr sh) = evB cs 0 := by unfold evA; rw [ofk_app, ofk_app, ofk_evC1, ofk_evT, ofk_evS]; simp
theorem ofk_2 : ofk 2 (evA cs tr sh) = evT tr 0 := by unfold evA; rw [ofk_app, ofk_app, ofk_evC2 (by omega) (by omega), ofk_evT, ofk_evS]; simp
theorem ofk_3 : ofk 3 (evA cs tr sh) = evS sh 0 := by unfold evA; rw [ofk_app, ofk_app, ofk_evC2 (by omega) (by omega), ofk_evT, ofk_evS]; simp
/-- Events whose numbers count them. -/
def Ranked (k : Int) (es : List Ev) : Prop := ∀ p e q, es = p ++ e :: q → e.kd = k → e.nb = ((ofk k p).length : Int)
theorem ofk_split {k : Int} {l p q : List Ev} {e : Ev} (h : ofk k l = p ++ e :: q) : ∃ p' q', l = p' ++ e :: q' ∧ ofk k p' = p ∧ e.kd = k := by
  induction l generalizing p with
  | nil => simp [ofk] at h
  | cons a l ih =>
    rw [ofk_cons] at h
    by_cases ha : a.kd = k
    · rw [if_pos ha] at h
      cases p with
      | nil => simp at h; exact ⟨[], l, by simp [h.1], by simp [ofk], by rw [← h.1]; exact ha⟩
      | cons b p =>
        simp at h
        obtain ⟨p', q', hl, hp, he⟩ := ih h.2
        exact ⟨a :: p', q', by simp [hl], by rw [ofk_cons, if_pos ha, hp]; simp [h.1], he⟩
    · rw [if_neg ha] at h
      obtain ⟨p', q', hl, hp, he⟩ := ih (by simpa using h)
      exact ⟨a :: p', q', by simp [hl], by rw [ofk_cons, if_neg ha, hp]; rfl, he⟩
/-- Numbered events: those of number i stand at place i. -/
def Numbd (l : List Ev) : Prop := ∀ (i : Nat) (e : Ev), l[i]? = some e → e.nb = (i : Int)
theorem ranked_numbd {k : Int} {es : List Ev} : Ranked k es ↔ Numbd (ofk k es) := by
  constructor
  · intro h i e he
    have hi := (List.getElem?_eq_some_iff.1 he).1
    have e1 : ofk k es = (ofk k es).take i ++ e :: (ofk k es).drop (i + 1) := by
      have h2 := (List.getElem?_eq_some_iff.1 he).2
      rw [← h2]; simp
    obtain ⟨p', q', hl, hp, hk⟩ := ofk_split e1
    have := h p' e q' hl hk
    rw [hp] at this
    rw [this]; simp; omega
  · intro h p e q hs hk
    refine h _ e ?_
    rw [hs, ofk_app, ofk_cons, if_pos hk]
    simp
theorem numbd_unique {l m : List Ev} {k : Int} (hp : l.Perm m) (hl : Numbd l) (hm : Numbd m) (hk : ∀ e ∈ m, ∀ f ∈ m, e.nb = f.nb → e = f) : l = m := by
  apply List.ext_getElem?
  intro i
  by_cases hi : i < l.length
  · have hi' : i < m.length := by rw [← hp.length_eq]; exact hi
    rw [List.getElem?_eq_getElem hi, List.getElem?_eq_getElem hi']
    congr 1
    refine hk _ (hp.mem_iff.1 (List.getElem_mem hi)) _ (List.getElem_mem hi') ?_
    rw [hl i _ (List.getElem?_eq_getElem hi), hm i _ (List.getElem?_eq_getElem hi')]
  · rw [List.getElem?_eq_none (by omega), List.getElem?_eq_none (by rw [← hp.length_eq]; omega)]
theorem evB_get {cs : List Cq} : ∀ {k i : Nat}, (evB cs k)[i]? = (cs[i]?).map (fun c => bev c (k + i)) := by
  induction cs with
  | nil => intro k i; simp [evB]
  | cons c cs ih => intro k i; cases i <;> simp [evB, ih]; congr 1; funext c; rw [Nat.add_assoc, Nat.add_comm 1]
theorem evT_get {l : List Ax} : ∀ {k i : Nat}, (evT l k)[i]? = (l[i]?).map (fun c => aev c (k + i)) := by
  induction l with
  | nil => intro k i; simp [evT]
  | cons c cs ih => intro k i; cases i <;> simp [evT, ih]; congr 1; funext c; rw [Nat.add_assoc, Nat.add_comm 1]
theorem evS_get {l : List Sx} : ∀ {k i : Nat}, (evS l k)[i]? = (l[i]?).map (fun c => sev c (k + i)) := by
  induction l with
  | nil => intro k i; simp [evS]
  | cons c cs ih => intro k i; cases i <;> simp [evS, ih]; congr 1; funext c; rw [Nat.add_assoc, Nat.add_comm 1]
/-- Moves that don't fall, in a row of numbered events of one kind. -/
theorem ranked_iff (h : Srt cs tr sh es) {k : Int} {m : List Ev} (hm : ofk k (evA cs tr sh) = m) (hn : Numbd m) :
    (Ranked k es ↔ ofk k es = m) ∧ (Ranked k es ↔ m.Pairwise fun a b => a.mv ≤ b.mv) := by
  have hp : (ofk k es).Perm m := by rw [← hm]; exact h.perm.filter _
  have hmk : ∀ e ∈ m, e.kd = k := by intro e he; rw [← hm] at he; simp [ofk] at he; exact he.2
  have hme : ∀ e ∈ m, e ∈ evA cs tr sh := by intro e he; rw [← hm] at he; simp [ofk] at he; exact he.1
  have A : Ranked k es ↔ ofk k es = m := by
    rw [ranked_numbd]
    constructor
    · intro hl
      exact numbd_unique (k := k) hp hl hn (fun e he f hf hne => evA_key (hme e he) (hme f hf) (by rw [hmk e he, hmk f hf]) hne)
    · intro e; rw [e]; exact hn
  refine ⟨A, A.trans ⟨fun e => ?_, fun hu => ?_⟩⟩
  · rw [← e]
    refine (h.up.filter _).imp ?_
    intro a b hab; unfold Ev.lt at hab; omega
  · refine srt_unique hp (h.up.filter _) ?_
    rw [List.pairwise_iff_getElem] at hu ⊢
    intro i j hi hj hij
    have h1 := hu i j hi hj hij
    have n1 := hn i _ (List.getElem?_eq_getElem hi)
    have n2 := hn j _ (List.getElem?_eq_getElem hj)
    have k1 := hmk _ (List.getElem_mem hi)
    have k2 := hmk _ (List.getElem_mem hj)
    unfold Ev.lt
    omega
theorem numbd_B : Numbd (evB cs 0) := by intro i e he; rw [evB_get] at he; cases hc : cs[i]? <;> simp [hc] at he; rw [← he]; rfl
theorem numbd_T : Numbd (evT tr 0) := by intro i e he; rw [evT_get] at he; cases hc : tr[i]? <;> simp [hc] at he; rw [← he]; rfl
theorem numbd_S : Numbd (evS sh 0) := by intro i e he; rw [evS_get] at he; cases hc : sh[i]? <;> simp [hc] at he; rw [← he]; rfl
end
end Go.Proofs.YtpknggcgojkjgaaGreat.Cn
