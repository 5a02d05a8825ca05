import Derived.Test.YtedaoljmcfbbpaaGreatJ29
import Derived.Test.YtedaoljmcfbbpaaGreatJ30
/-
  DequeLinear, pure, the first part: the calls that have a point, in their order; how a step changes that order.
-/
namespace Go.Proofs.YtedaoljmcfbbpaaGreat.Dm
open Go.RowKit Go.Shelf Mr Me Ma Gm Dq
set_option linter.unusedVariables false
set_option linter.unusedSimpArgs false
def qq (x : Cl) : Hd.Cq := ⟨x.th, x.op, x.arg, x.data, x.beg, x.fin, x.pt, x.ak, x.av⟩
def noCl : Cl := ⟨0, 0, 0, 0, 0, 0, 0, 0, 0⟩
def atC (cls : List Cl) (c : Nat) : Cl := (cls[c]?).getD noCl
theorem atC_of {cls : List Cl} {c : Nat} {x : Cl} (h : cls[c]? = some x) : atC cls c = x := by unfold atC; rw [h]; rfl
theorem atC_set {cls : List Cl} {c : Nat} (hc : c < cls.length) (x' : Cl) : atC (cls.set c x') c = x' := atC_of (List.getElem?_set_self hc)
theorem atC_ne {cls : List Cl} {c d : Nat} (h : d ≠ c) (x' : Cl) : atC (cls.set c x') d = atC cls d := by unfold atC; rw [List.getElem?_set_ne (fun e => h e.symm)]
theorem atC_app {cls : List Cl} {c : Nat} (h : c < cls.length) (x' : Cl) : atC (cls ++ [x']) c = atC cls c := by unfold atC; rw [List.getElem?_append_left h]
def lk (cls : List Cl) (ord : List Nat) : List Cl := ord.map (atC cls)
theorem lk_app (cls : List Cl) (A B : List Nat) : lk cls (A ++ B) = lk cls A ++ lk cls B := List.map_append
theorem lk_cons (cls : List Cl) (c : Nat) (B : List Nat) : lk cls (c :: B) = atC cls c :: lk cls B := rfl
theorem ne_of {α : Type} {ord : List α} {a c : α} (hn : c ∉ ord) (ha : a ∈ ord) : a ≠ c := fun e => hn (by rw [← e]; exact ha)
theorem lk_ne {cls : List Cl} {c : Nat} {ord : List Nat} (h : c ∉ ord) (x' : Cl) : lk (cls.set c x') ord = lk cls ord :=
  List.map_congr_left (fun d hd => atC_ne (ne_of h hd) x')
theorem lk_push {cls : List Cl} {ord : List Nat} (h : ∀ c ∈ ord, c < cls.length) (x' : Cl) : lk (cls ++ [x']) ord = lk cls ord :=
  List.map_congr_left (fun d hd => atC_app (h d hd) x')
/-- The calls made at once, one after another: what they leave, if each may answer so. -/
def exO (rm : Int) : List Int → List Cl → Option (List Int)
  | vs, [] => some vs
  | vs, c :: l => if Hd.okA (qq c) (Hd.atO rm vs (qq c)).2 = true then exO rm (Hd.atO rm vs (qq c)).1 l else none
theorem exO_app (rm : Int) : ∀ (A : List Cl) (vs : List Int) (B : List Cl), exO rm vs (A ++ B) = (exO rm vs A).bind (fun v => exO rm v B)
  | [], vs, B => rfl
  | c :: A, vs, B => by
      show (if _ then exO rm _ (A ++ B) else none) = (if _ then exO rm _ A else none).bind _
      split
      · exact exO_app rm A _ B
      · rfl
theorem exO_then {rm : Int} {A B : List Cl} {vs vs' : List Int} (h : exO rm vs A = some vs') : exO rm vs (A ++ B) = exO rm vs' B := by rw [exO_app, h]; rfl
theorem exO_cons {rm : Int} {c : Cl} {B : List Cl} {vs : List Int} (h : Hd.okA (qq c) (Hd.atO rm vs (qq c)).2 = true) : exO rm vs (c :: B) = exO rm (Hd.atO rm vs (qq c)).1 B := by
  show (if _ then _ else none) = _
  rw [if_pos h]
theorem okA_open {c : Cl} (h : c.fin = -1) (a : Int × Int) : Hd.okA (qq c) a = true := by unfold Hd.okA; rw [show (qq c).fin = -1 from h]; rfl
theorem okA_end {c : Cl} {a b : Int} (h1 : c.ak = a) (h2 : c.av = b) : Hd.okA (qq c) (a, b) = true := by unfold Hd.okA; rw [show (qq c).ak = a from h1, show (qq c).av = b from h2]; simp
/-- What is ahead of what. -/
def ltC (a b : Cl) : Prop := a.pt < b.pt ∨ (a.pt = b.pt ∧ a.op = 92 ∧ b.op = 91)
structure Lb (cls : List Cl) (ord : List Nat) (n : Int) (nt : Nat) : Prop where
  nd : ord.Nodup
  mem : ∀ c, c ∈ ord ↔ ∃ x, cls[c]? = some x ∧ x.pt ≠ -1
  srt : ord.Pairwise (fun a b => ltC (atC cls a) (atC cls b))
  tm : ∀ (c : Nat) (x : Cl), cls[c]? = some x → 0 ≤ x.beg ∧ x.beg < n ∧ (x.pt ≠ -1 → x.beg < x.pt ∧ x.pt < n ∧ (x.fin ≠ -1 → x.pt ≤ x.fin)) ∧ (x.fin ≠ -1 → x.pt ≠ -1)
  kn : ∀ (c : Nat) (x : Cl), cls[c]? = some x → ((x.op = 90 ∨ x.op = 91) ∧ x.th = 0) ∨ (x.op = 92 ∧ 0 ≤ x.th ∧ x.th < nt)
section
variable {cls : List Cl} {ord : List Nat} {n : Int} {nt : Nat} {c : Nat} {x x' : Cl}
theorem Lb.lt (h : Lb cls ord n nt) (hc : c ∈ ord) : c < cls.length := by
  obtain ⟨x, hx, _⟩ := (h.mem c).1 hc
  exact (List.getElem?_eq_some_iff.1 hx).1
theorem Lb.pt (h : Lb cls ord n nt) (hc : c ∈ ord) : (atC cls c).pt < n := by
  obtain ⟨x, hx, hp⟩ := (h.mem c).1 hc
  rw [atC_of hx]
  exact ((h.tm c x hx).2.2.1 hp).2.1
theorem Lb.count (h : Lb cls ord n nt) : Lb cls ord (n + 1) nt :=
  ⟨h.nd, h.mem, h.srt, fun c x hx => by obtain ⟨h1, h2, h3, h4⟩ := h.tm c x hx; exact ⟨h1, by omega, fun hp => by obtain ⟨g1, g2, g3⟩ := h3 hp; exact ⟨g1, by omega, g3⟩, h4⟩, h.kn⟩
theorem Lb.begins (h : Lb cls ord n nt) (hb : x'.beg = n) (h0 : 0 ≤ n) (hp : x'.pt = -1) (hf : x'.fin = -1) (hk : ((x'.op = 90 ∨ x'.op = 91) ∧ x'.th = 0) ∨ (x'.op = 92 ∧ 0 ≤ x'.th ∧ x'.th < nt)) : Lb (cls ++ [x']) ord (n + 1) nt := by
  have app : ∀ {c : Nat} {x : Cl}, (cls ++ [x'])[c]? = some x → cls[c]? = some x ∨ (c = cls.length ∧ x = x') := fun {c x} h => by
    by_cases hl : c < cls.length
    · rw [List.getElem?_append_left hl] at h; exact .inl h
    · have he : c = cls.length := by
        have := (List.getElem?_eq_some_iff.1 h).1
        simp at this; omega
      subst he
      rw [List.getElem?_append_right (Nat.le_refl _)] at h
      simp at h
      exact .inr ⟨rfl, h.symm⟩
  have c' := h.count
  refine ⟨h.nd, fun d => ⟨fun hd => ?_, fun hd => ?_⟩, ?_, fun d y hy => ?_, fun d y hy => ?_⟩
  · obtain ⟨y, hy, h2⟩ := (h.mem d).1 hd
    exact ⟨y, by rw [List.getElem?_append_left (List.getElem?_eq_some_iff.1 hy).1]; exact hy, h2⟩
  · obtain ⟨y, hy, h2⟩ := hd
    rcases app hy with hy | ⟨_, rfl⟩
    · exact (h.mem d).2 ⟨y, hy, h2⟩
    · exact absurd hp h2
  · refine h.srt.imp_of_mem (fun {a b} ha hb hab => ?_)
    rw [atC_app (h.lt ha), atC_app (h.lt hb)]; exact hab
  · rcases app hy with hy | ⟨_, rfl⟩
    · exact c'.tm d y hy
    · exact ⟨by omega, by omega, fun e => absurd hp e, fun e => absurd hf e⟩
  · rcases app hy with hy | ⟨_, rfl⟩
    · exact h.kn d y hy
    · exact hk
/-- What a step may do to a call. -/
structure Up (n : Int) (x x' : Cl) : Prop where
  th : x'.th = x.th
  op : x'.op = x.op
  beg : x'.beg = x.beg
  fin : x'.fin = x.fin ∨ x'.fin = n
theorem Lb.tmU (h : Lb cls ord n nt) (hx : cls[c]? = some x) (u : Up n x x') (hp : x'.pt ≠ -1 → x.beg < x'.pt ∧ x'.pt ≤ n ∧ (x.fin ≠ -1 → x'.pt ≤ x.fin)) (hf : x'.fin ≠ -1 → x'.pt ≠ -1) :
    ∀ (d : Nat) (y : Cl), (cls.set c x')[d]? = some y → 0 ≤ y.beg ∧ y.beg < n + 1 ∧ (y.pt ≠ -1 → y.beg < y.pt ∧ y.pt < n + 1 ∧ (y.fin ≠ -1 → y.pt ≤ y.fin)) ∧ (y.fin ≠ -1 → y.pt ≠ -1) := fun d y hy => by
  have hl := (List.getElem?_eq_some_iff.1 hx).1
  by_cases ec : c = d
  · subst ec
    rw [List.getElem?_set_self hl] at hy
    cases hy
    have h1 := h.tm c x hx
    refine ⟨by rw [u.beg]; exact h1.1, by rw [u.beg]; omega, fun e => ?_, hf⟩
    obtain ⟨g1, g2, g3⟩ := hp e
    refine ⟨by rw [u.beg]; exact g1, by omega, fun e2 => ?_⟩
    rcases u.fin with h9 | h9
    · rw [h9] at e2 ⊢; exact g3 e2
    · omega
  · rw [List.getElem?_set_ne ec] at hy
    exact h.count.tm d y hy
theorem Lb.knU (h : Lb cls ord n nt) (hx : cls[c]? = some x) (u : Up n x x') : ∀ (d : Nat) (y : Cl), (cls.set c x')[d]? = some y → ((y.op = 90 ∨ y.op = 91) ∧ y.th = 0) ∨ (y.op = 92 ∧ 0 ≤ y.th ∧ y.th < nt) := fun d y hy => by
  have hl := (List.getElem?_eq_some_iff.1 hx).1
  by_cases ec : c = d
  · subst ec
    rw [List.getElem?_set_self hl] at hy
    cases hy
    rw [u.op, u.th]; exact h.kn c x hx
  · rw [List.getElem?_set_ne ec] at hy
    exact h.kn d y hy
theorem Lb.memU (h : Lb cls ord n nt) (hx : cls[c]? = some x) (x' : Cl) (d : Nat) : (∃ y, (cls.set c x')[d]? = some y ∧ y.pt ≠ -1) ↔ (if d = c then x'.pt ≠ -1 else d ∈ ord) := by
  have hl := (List.getElem?_eq_some_iff.1 hx).1
  by_cases e : d = c
  · subst e
    rw [List.getElem?_set_self hl, if_pos rfl]
    exact ⟨fun ⟨y, h1, h2⟩ => by cases h1; exact h2, fun h => ⟨_, rfl, h⟩⟩
  · rw [List.getElem?_set_ne (fun e' => e e'.symm), if_neg e, h.mem d]
/-- The point stays; the call may end. -/
theorem Lb.stay (h : Lb cls ord n nt) (hx : cls[c]? = some x) (u : Up n x x') (hp : x'.pt = x.pt) (hf : x'.fin ≠ -1 → x.pt ≠ -1) : Lb (cls.set c x') ord (n + 1) nt := by
  have hl := (List.getElem?_eq_some_iff.1 hx).1
  have hk : ∀ d, (atC (cls.set c x') d).pt = (atC cls d).pt ∧ (atC (cls.set c x') d).op = (atC cls d).op := fun d => by
    by_cases e : d = c
    · subst e; rw [atC_set hl, atC_of hx]; exact ⟨hp, u.op⟩
    · rw [atC_ne e]; exact ⟨rfl, rfl⟩
  refine ⟨h.nd, fun d => ?_, h.srt.imp (fun {a b} hab => ?_), h.tmU hx u (fun e => ?_) (fun e => by rw [hp]; exact hf e), h.knU hx u⟩
  · rw [h.memU hx]
    by_cases e : d = c
    · subst e; rw [if_pos rfl, hp, h.mem d]
      exact ⟨fun ⟨y, h1, h2⟩ => by rw [hx] at h1; cases h1; exact h2, fun h => ⟨x, hx, h⟩⟩
    · rw [if_neg e]
  · unfold ltC at hab ⊢
    rw [(hk a).1, (hk b).1, (hk a).2, (hk b).2]; exact hab
  · rw [hp] at e ⊢
    obtain ⟨g1, g2, g3⟩ := (h.tm c x hx).2.2.1 e
    exact ⟨g1, by omega, g3⟩
/-- A point now. -/
theorem Lb.now (h : Lb cls ord n nt) (hx : cls[c]? = some x) (u : Up n x x') (hp : x'.pt = n) (h0 : 0 ≤ n) (hpo : x.pt = -1) (hfo : x.fin = -1) : Lb (cls.set c x') (ord ++ [c]) (n + 1) nt ∧ c ∉ ord := by
  have hl := (List.getElem?_eq_some_iff.1 hx).1
  have hn : c ∉ ord := fun hc => by obtain ⟨y, h1, h2⟩ := (h.mem c).1 hc; rw [hx] at h1; cases h1; exact h2 hpo
  refine ⟨⟨?_, fun d => ?_, ?_, h.tmU hx u (fun e => ⟨by have := (h.tm c x hx).2.1; omega, by omega, fun e => absurd hfo e⟩) (fun _ => by omega), h.knU hx u⟩, hn⟩
  · rw [List.nodup_append]
    exact ⟨h.nd, by simp, fun a ha b hb => by simp at hb; subst hb; exact ne_of hn ha⟩
  · rw [h.memU hx]
    by_cases e : d = c
    · subst e; rw [if_pos rfl]; simp; omega
    · rw [if_neg e]; simp [e]
  · rw [List.pairwise_append]
    refine ⟨h.srt.imp_of_mem (fun {a b} ha hb hab => ?_), by simp, fun a ha b hb => ?_⟩
    · rw [atC_ne (ne_of hn ha), atC_ne (ne_of hn hb)]; exact hab
    · simp at hb; subst hb
      rw [atC_ne (ne_of hn ha), atC_set hl]
      exact .inl (by rw [hp]; exact h.pt ha)
/-- A point that moves to now. -/
theorem Lb.move {A D : List Nat} (h : Lb cls (A ++ c :: D) n nt) (hx : cls[c]? = some x) (u : Up n x x') (hp : x'.pt = n) (h0 : 0 ≤ n) (hfo : x.fin = -1) : Lb (cls.set c x') (A ++ D ++ [c]) (n + 1) nt ∧ c ∉ A ++ D := by
  have hl := (List.getElem?_eq_some_iff.1 hx).1
  have hnd := h.nd
  rw [List.nodup_append] at hnd
  obtain ⟨n1, n2, n3⟩ := hnd
  rw [List.nodup_cons] at n2
  have hn : c ∉ A ++ D := fun hc => by
    rcases List.mem_append.1 hc with hc | hc
    · exact n3 c hc c (by simp) rfl
    · exact n2.1 hc
  have hsub : ∀ d, d ∈ A ++ D → d ∈ A ++ c :: D := fun d hd => by
    rcases List.mem_append.1 hd with hd | hd
    · exact List.mem_append.2 (.inl hd)
    · exact List.mem_append.2 (.inr (List.mem_cons_of_mem _ hd))
  have hs : (A ++ D).Sublist (A ++ c :: D) := List.Sublist.append (List.Sublist.refl _) (List.sublist_cons_self _ _)
  refine ⟨⟨?_, fun d => ?_, ?_, h.tmU hx u (fun e => ⟨by have := (h.tm c x hx).2.1; omega, by omega, fun e => absurd hfo e⟩) (fun _ => by omega), h.knU hx u⟩, hn⟩
  · rw [List.nodup_append]
    exact ⟨h.nd.sublist hs, by simp, fun a ha b hb => by simp at hb; subst hb; exact ne_of hn ha⟩
  · rw [h.memU hx]
    by_cases e : d = c
    · subst e; rw [if_pos rfl]; simp; omega
    · rw [if_neg e]; simp [e]
  · rw [List.pairwise_append]
    refine ⟨(h.srt.sublist hs).imp_of_mem (fun {a b} ha hb hab => ?_), by simp, fun a ha b hb => ?_⟩
    · rw [atC_ne (ne_of hn ha), atC_ne (ne_of hn hb)]; exact hab
    · simp at hb; subst hb
      rw [atC_ne (ne_of hn ha), atC_set hl]
      exact .inl (by rw [hp]; exact h.pt (hsub _ ha))
/-- A steal whose point is the one of the take that is on its way. -/
theorem Lb.ins {A D : List Nat} {ct : Nat} {y : Cl} {m : Int} (h : Lb cls (A ++ ct :: D) n nt) (hx : cls[c]? = some x) (u : Up n x x') (hp : x'.pt = m) (hop : x.op = 92) (hpo : x.pt = -1) (hfo : x.fin = -1) (hy : cls[ct]? = some y) (hyp : y.pt = m) (hyo : y.op = 91) (hA : ∀ a ∈ A, (atC cls a).pt < m) (hb : x.beg < m) (hm : m ≤ n) (hm1 : m ≠ -1) :
    Lb (cls.set c x') (A ++ c :: ct :: D) (n + 1) nt ∧ c ∉ A ++ ct :: D := by
  have hl := (List.getElem?_eq_some_iff.1 hx).1
  have hn : c ∉ A ++ ct :: D := fun hc => by obtain ⟨z, h1, h2⟩ := (h.mem c).1 hc; rw [hx] at h1; cases h1; exact h2 hpo
  have hP : (A ++ c :: ct :: D).Perm (c :: (A ++ ct :: D)) := List.perm_middle
  have hne : ∀ d ∈ A ++ ct :: D, d ≠ c := fun d hd => ne_of hn hd
  refine ⟨⟨?_, fun d => ?_, ?_, h.tmU hx u (fun e => ⟨by rw [hp]; exact hb, by omega, fun e => absurd hfo e⟩) (fun _ => by omega), h.knU hx u⟩, hn⟩
  · rw [hP.nodup_iff, List.nodup_cons]; exact ⟨hn, h.nd⟩
  · rw [h.memU hx, hP.mem_iff]
    by_cases e : d = c
    · subst e; rw [if_pos rfl]; simp; omega
    · rw [if_neg e]; simp [e]
  · have s0 : (A ++ ct :: D).Pairwise (fun a b => ltC (atC (cls.set c x') a) (atC (cls.set c x') b)) := h.srt.imp_of_mem (fun {a b} ha hb hab => by rw [atC_ne (hne a ha), atC_ne (hne b hb)]; exact hab)
    have s1 := h.srt
    rw [List.pairwise_append] at s0 s1 ⊢
    obtain ⟨p1, p2, p3⟩ := s0
    obtain ⟨_, r2, _⟩ := s1
    rw [List.pairwise_cons] at r2
    refine ⟨p1, List.pairwise_cons.2 ⟨fun b hb => ?_, p2⟩, fun a ha b hb => ?_⟩
    · rw [atC_set hl]
      rcases List.mem_cons.1 hb with rfl | hb
      · rw [atC_ne (hne _ (by simp)), atC_of hy]
        exact .inr ⟨by rw [hp, hyp], by rw [u.op]; exact hop, hyo⟩
      · rw [atC_ne (hne _ (by simp [hb]))]
        have := r2.1 b hb
        rw [atC_of hy] at this
        rcases this with h9 | ⟨_, h9, _⟩
        · exact .inl (by rw [hp, ← hyp]; exact h9)
        · omega
    · rcases List.mem_cons.1 hb with rfl | hb
      · rw [atC_set hl, atC_ne (hne _ (List.mem_append.2 (.inl ha)))]
        exact .inl (by rw [hp]; exact hA a ha)
      · exact p3 a ha b hb
end
end Go.Proofs.YtedaoljmcfbbpaaGreat.Dm
/-
  DequeLinear, pure, the second part: what the points' order explains, at every moment; a thief's steps.
-/
namespace Go.Proofs.YtedaoljmcfbbpaaGreat.Dm
open Go.RowKit Go.Shelf Mr Me Ma Gm Dq
set_option linter.unusedVariables false
set_option linter.unusedSimpArgs false
theorem at_e (rm : Int) {x : Cl} (h : x.op ≠ 90) : Hd.atO rm [] (qq x) = ([], 3, 0) := by
  have h' : (qq x).op ≠ 90 := h
  simp [Hd.atO, h']
theorem at_s (rm : Int) {x : Cl} (h : x.op = 92) (a : Int) (l : List Int) : Hd.atO rm (a :: l) (qq x) = (l, 2, a) := by
  have h' : (qq x).op = 92 := h
  simp [Hd.atO, h']
theorem at_t (rm : Int) {x : Cl} (h : x.op = 91) (C : List Int) (w : Int) : Hd.atO rm (C ++ [w]) (qq x) = (C, 2, w) := by
  have h' : (qq x).op = 91 := h
  simp [Hd.atO, h']
theorem at_p {rm : Int} {x : Cl} (h : x.op = 90) {vs : List Int} (hl : ¬ rm ≤ (vs.length : Int)) : Hd.atO rm vs (qq x) = (vs ++ [x.arg], 1, 0) := by
  have h' : (qq x).op = 90 := h
  have ha : (qq x).arg = x.arg := rfl
  unfold Hd.atO
  rw [if_neg (fun e => hl e.2), if_pos h', ha]
theorem at_f {rm : Int} {x : Cl} (h : x.op = 90) {vs : List Int} (hl : rm ≤ (vs.length : Int)) : Hd.atO rm vs (qq x) = (vs, 4, 0) := by
  have h' : (qq x).op = 90 := h
  unfold Hd.atO
  rw [if_pos ⟨h', hl⟩]
theorem ex_one {rm : Int} {vs vs' : List Int} {x : Cl} {a : Int × Int} (h : Hd.atO rm vs (qq x) = (vs', a)) (ho : Hd.okA (qq x) a = true) : exO rm vs [x] = some vs' := by
  rw [exO_cons (by rw [h]; exact ho), h]; rfl
theorem sg_len (r : Nat) (ws : List Int) (t : Int) (n : Nat) : (sg r ws t n).length = n := by simp [sg]
def low : Dt → Prop
  | .take nx _ _ _ => 3 ≤ nx
  | _ => False
/-- No take of the owner is on its way that has put bottom down. -/
def Fr' (r : Nat) (P : Pg Dt Lw) (ord : List Nat) : Prop := P.g = none ∧ exO r [] (lk P.cls ord) = some (sg r P.ws (rd P.ws 0) (wrap64 (rd P.ws 1) - rd P.ws 0).toNat)
def Th (cls : List Cl) (l : Int) (C1 : List Int) (m : Int) (u : Pt Dt) : Dt → Prop
  | .steal nx t _ => 3 ≤ nx → t = l → C1 = [] ∧ ∀ c : Nat, u.call = (c : Int) → (atC cls c).beg < m
  | _ => True
/-- The value that it puts bottom down to is there. -/
def Pv (r : Nat) (P : Pg Dt Lw) (ord : List Nat) (m : Int) (t : Pt Dt) (nx : Nat) (l : Int) : Prop :=
  (nx = 3 ∨ nx = 5 ∨ nx = 6) ∧ rd P.ws 0 ≤ l ∧ ∃ (A : List Nat) (ct : Nat) (D : List Nat) (C1 : List Int), ord = A ++ ct :: D ∧ t.call = (ct : Int) ∧ (atC P.cls ct).pt = m ∧ (∀ a ∈ A, (atC P.cls a).pt < m) ∧
    exO r [] (lk P.cls A) = some (C1 ++ [cv r P.ws l]) ∧ exO r C1 (lk P.cls D) = some (sg r P.ws (rd P.ws 0) (l - rd P.ws 0).toNat) ∧
    ∀ (i : Nat) (u : Pt Dt) (k : Dt), P.pts[i]? = some u → u.tk = some k → Th P.cls l C1 m u k
/-- There is none, or a thief has it. -/
def Pe (r : Nat) (P : Pg Dt Lw) (ord : List Nat) (t : Pt Dt) (nx : Nat) (l : Int) : Prop :=
  ((nx = 3 ∨ nx = 5 ∨ nx = 6) → rd P.ws 0 = l + 1) ∧ ((nx = 4 ∨ nx = 7) → t.ak = 3 ∧ t.av = 0) ∧ ∃ (X : List Nat) (ct : Nat) (Y : List Nat), ord = X ++ ct :: Y ∧ t.call = (ct : Int) ∧
    exO r [] (lk P.cls X) = some [] ∧ exO r [] (lk P.cls Y) = some []
/-- It has it. -/
def Ph (r : Nat) (P : Pg Dt Lw) (ord : List Nat) (t : Pt Dt) (nx : Nat) : Prop :=
  nx = 7 ∧ ∃ (A : List Nat) (ct : Nat) (D : List Nat) (C1 : List Int) (w : Int), ord = A ++ ct :: D ∧ t.call = (ct : Int) ∧
    exO r [] (lk P.cls A) = some (C1 ++ [w]) ∧ exO r C1 (lk P.cls D) = some [] ∧ t.ak = 2 ∧ t.av = w
def Lo (r : Nat) (P : Pg Dt Lw) (ord : List Nat) (t : Pt Dt) (nx : Nat) (l : Int) : Prop :=
  ∃ m, P.g = some (m, l) ∧ (Pv r P ord m t nx l ∨ Pe r P ord t nx l ∨ Ph r P ord t nx)
structure Lc (r : Nat) (P : Pg Dt Lw) (ord : List Nat) : Prop where
  lb : Lb P.cls ord P.n P.pts.length
  lnk : ∀ (i : Nat) (t : Pt Dt) (k : Dt), P.pts[i]? = some t → t.tk = some k → ∃ (c : Nat) (x : Cl), t.call = (c : Int) ∧ P.cls[c]? = some x ∧ x.th = (i : Int) ∧ x.fin = -1 ∧ Cb x k ∧ (¬ low k → x.pt = -1)
  lo : ∀ (t : Pt Dt) (nx : Nat) (l tt v : Int), P.pts[0]? = some t → t.tk = some (.take nx l tt v) → 3 ≤ nx → Lo r P ord t nx l
  fr : (∀ (t : Pt Dt) (k : Dt), P.pts[0]? = some t → t.tk = some k → ¬ low k) → Fr' r P ord
/-- A call behind a step. -/
def nxC (x : Cl) (now : Int) (t : Pt Dt) (e : Df) : Cl :=
  match e.tk with
  | some _ => { x with pt := e.pt.getD x.pt }
  | none => { x with pt := e.pt.getD x.pt, fin := now, ak := (endA (told t.ak t.av e.tl).1 (told t.ak t.av e.tl).2).1, av := (endA (told t.ak t.av e.tl).1 (told t.ak t.av e.tl).2).2 }
theorem step_set {P : Pg Dt Lw} {i : Nat} {t : Pt Dt} {now : Int} {e : Df} {c : Nat} {x : Cl} (hc : t.call = (c : Int)) (hx : P.cls[c]? = some x) : (P.count.stepE i t now e).cls = P.cls.set c (nxC x now t e) := by
  have hct : t.call.toNat = c := by rw [hc]; exact Int.toNat_natCast c
  have hl := (List.getElem?_eq_some_iff.1 hx).1
  have hP : setP P.cls c e.pt = P.cls.set c { x with pt := e.pt.getD x.pt } := by
    unfold setP
    rw [hx]
    cases e.pt with
    | none => exact (set_same hx).symm
    | some m => rfl
  unfold Pg.stepE nxC
  cases hk : e.tk with
  | some k' =>
    show setP P.cls t.call.toNat e.pt = _
    rw [hct, hP]
  | none =>
    show setE (setP P.cls t.call.toNat e.pt) t.call.toNat now _ _ = _
    rw [hct, hP]
    unfold setE
    rw [List.getElem?_set_self hl]
    simp
theorem nxC_up (x : Cl) (now : Int) (t : Pt Dt) (e : Df) : Up now x (nxC x now t e) := by
  unfold nxC
  split
  · exact ⟨rfl, rfl, rfl, .inl rfl⟩
  · exact ⟨rfl, rfl, rfl, .inr rfl⟩
theorem nxC_pt (x : Cl) (now : Int) (t : Pt Dt) (e : Df) : (nxC x now t e).pt = e.pt.getD x.pt := by unfold nxC; split <;> rfl
/-- A step, put together. -/
theorem Lc.stepE {r : Nat} {P : Pg Dt Lw} {ord ord' : List Nat} (h : Lc r P ord) {i : Nat} {t : Pt Dt} {k : Dt} (ht : P.pts[i]? = some t) (hk : t.tk = some k) (now : Int) (e : Df) {c : Nat} {x : Cl} (hc : t.call = (c : Int)) (hx : P.cls[c]? = some x) (hth : x.th = (i : Int))
    (E1 : Lb (P.cls.set c (nxC x now t e)) ord' (P.n + 1) P.pts.length)
    (E2 : ∀ k', e.tk = some k' → (∀ y, Cb y k → Cb y k') ∧ (¬ low k' → e.pt = none ∧ ¬ low k))
    (E3 : ∀ (Q : Pg Dt Lw) (u : Pt Dt), Q.cls = P.cls.set c (nxC x now t e) → Q.ws = e.ws → Q.g = e.g → Q.pts = P.pts.set i u → u.tk = e.tk → u.call = t.call → (e.tk.isSome = true → (u.ak, u.av) = told t.ak t.av e.tl) → (∀ (t0 : Pt Dt) (nx : Nat) (l tt v : Int), Q.pts[0]? = some t0 → t0.tk = some (.take nx l tt v) → 3 ≤ nx → Lo r Q ord' t0 nx l) ∧ ((∀ (t0 : Pt Dt) (k0 : Dt), Q.pts[0]? = some t0 → t0.tk = some k0 → ¬ low k0) → Fr' r Q ord')) :
    Lc r (P.count.stepE i t now e) ord' := by
  have hi : i < P.pts.length := (List.getElem?_eq_some_iff.1 ht).1
  have hl := (List.getElem?_eq_some_iff.1 hx).1
  have hcl := step_set (i := i) (now := now) (e := e) hc hx
  obtain ⟨Q, hQ⟩ : ∃ Q, P.count.stepE i t now e = Q := ⟨_, rfl⟩
  have q1 : Q.ws = e.ws := by rw [← hQ]; unfold Pg.stepE; split <;> rfl
  have q2 : Q.n = P.n + 1 := by rw [← hQ, stepE_n]; rfl
  have q4 : Q.g = e.g := by rw [← hQ]; unfold Pg.stepE; split <;> rfl
  have q3 : ∃ u : Pt Dt, u.tk = e.tk ∧ u.call = t.call ∧ Q.pts = P.pts.set i u ∧ (e.tk.isSome = true → (u.ak, u.av) = told t.ak t.av e.tl) := by
    rw [← hQ]; unfold Pg.stepE
    split
    · rename_i k hk; exact ⟨⟨some k, false, t.call, (told t.ak t.av e.tl).1, (told t.ak t.av e.tl).2⟩, hk.symm, rfl, rfl, fun _ => rfl⟩
    · rename_i hk; exact ⟨⟨none, false, t.call, 0, 0⟩, hk.symm, rfl, rfl, fun h => by rw [hk] at h; cases h⟩
  rw [hQ] at hcl ⊢
  obtain ⟨u, hu, hcu, hpt, hak⟩ := q3
  obtain ⟨F1, F2⟩ := E3 Q u hcl q1 q4 hpt hu hcu hak
  refine ⟨by rw [hcl, q2, hpt, List.length_set]; exact E1, fun j t' k' hj hk' => ?_, F1, F2⟩
  rw [hpt] at hj
  rcases pts_set hj with ⟨rfl, rfl⟩ | ⟨hji, hj⟩
  · have he : e.tk = some k' := by rw [← hu]; exact hk'
    obtain ⟨c0, x0, h1, h2, h3, h4, h5, h6⟩ := h.lnk j t k ht hk
    have ec : c0 = c := by omega
    subst ec
    rw [hx] at h2; cases h2
    have hcb : Cb (nxC x now t e) k := by
      have e9 : nxC x now t e = { x with pt := e.pt.getD x.pt } := by unfold nxC; rw [he]
      rw [e9]
      cases k <;> exact h5
    refine ⟨c0, nxC x now t e, hcu.trans hc, by rw [hcl]; exact List.getElem?_set_self hl, ?_, ?_, (E2 k' he).1 _ hcb, fun hlow => ?_⟩
    · rw [(nxC_up x now t e).th]; exact h3
    · unfold nxC; rw [he]; exact h4
    · obtain ⟨g1, g2⟩ := (E2 k' he).2 hlow
      rw [nxC_pt, g1]; exact h6 g2
  · obtain ⟨c', z, w1, w2, w3, w4, w5, w6⟩ := h.lnk j t' k' hj hk'
    refine ⟨c', z, w1, ?_, w3, w4, w5, w6⟩
    rw [hcl, List.getElem?_set_ne]
    · exact w2
    · rintro rfl
      rw [hx] at w2; cases w2
      omega
/-- What a thief's step keeps: the words but top, or top raised by it. -/
theorem sg_0 (r : Nat) (ws : List Int) (y t : Int) (n : Nat) : sg r (ws.set 0 y) t n = sg r ws t n := sg_cv t n (fun k => cv_0 r ws y k)
theorem lk_snoc {cls : List Cl} {c : Nat} {ord : List Nat} (hl : c < cls.length) (h : c ∉ ord) (x' : Cl) : lk (cls.set c x') (ord ++ [c]) = lk cls ord ++ [x'] := by
  rw [lk_app, lk_ne h, lk_cons, atC_set hl]; rfl
end Go.Proofs.YtedaoljmcfbbpaaGreat.Dm
