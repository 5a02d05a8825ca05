import Derived.Test.YtglppcoohojmpaaJ22
import Derived.Test.YtglppcoohojmpaaJ10
/-
  THE DOCUMENT's MACHINE with the machine's own calls: it does what the program's does.
-/
namespace Go.Proofs.Ytglppcoohojmpaa.Rf
open Go.RowKit Mr Me Ma
def ownCode : List Ins := [⟨10, 1, 0, 0, 0, 0⟩, ⟨48, 0, 0, 0, 0, 0⟩, ⟨1, 1, 0, 0, 0, 0⟩, ⟨27, 0, 0, 0, 0, 0⟩, ⟨14, 1, 0, 0, 2, 0⟩, ⟨10, 2, 0, 0, 0, 0⟩, ⟨48, 0, 0, 0, 0, 0⟩, ⟨10, 3, 0, 0, 0, 0⟩, ⟨1, 1, 0, 0, 0, 0⟩, ⟨17, 2, 1, 0, 1, 0⟩, ⟨3, 1, 0, 0, 2, 3⟩, ⟨27, 0, 0, 0, 0, 0⟩, ⟨14, 1, 0, 0, 2, 0⟩]
def ownLabs : List Int := [0, 0, 5, 7]
def ownEns : List En := [⟨1, 1, 5⟩, ⟨2, 2, 5⟩]
structure OwnQ (q : Rc) : Prop where
  code : q.code = ownCode
  labs : q.labs = ownLabs
  ens : q.ens = ownEns
/-- The call of a thread that is about an address. -/
def Cal (cls : List Cl) (c tc : Int) (ad : Nat) : Prop := ∃ (n : Nat) (cl : Cl), c = n ∧ tc = n ∧ cls[n]? = some cl ∧ cl.arg = ad
def TR (cls : List Cl) (p : Pt) (t : Rt) : Prop := match p.tk with
  | .idle => t.busy = false
  | .look ad => t.busy = true ∧ t.pc = 0 ∧ Cal cls p.call t.call ad
  | .bump ad x ld => t.busy = true ∧ Cal cls p.call t.call ad ∧ (if ld = true then t.pc = 10 ∧ t.R 0 = ad ∧ t.R 1 = x ∧ t.R 2 = up x else t.pc = 5 ∨ (t.pc = 8 ∧ t.R 0 = ad))
structure Rel (P : Pm) (s : Rs) : Prop where
  ws : s.ws = P.ws
  n : s.n = P.n
  cls : s.cls = P.cls
  lg : s.lg = P.lg
  len : s.ths.length = P.pts.length
  th : ∀ (i : Nat) (p : Pt) (t : Rt), P.pts[i]? = some p → s.ths[i]? = some t → TR P.cls p t
section
variable {q : Rc} {vs : Value} {s : Rs} {i : Nat} {t : Rt}
theorem u64_small (n : Nat) (h : n ≤ 100000) : IntKind.u64.wrap (n : Int) = n := by
  show (n : Int) % 18446744073709551616 = n
  omega
/-- A look. -/
theorem LocC.to {I : Ins} {s s1 s2 : Rs} (h : LocC q vs i I s s1) (e : s1 = s2) : LocC q vs i I s s2 := by rw [← e]; exact h
theorem AccC.to {I : Ins} {s s1 s2 : Rs} (h : AccC q vs i I s s1) (e : s1 = s2) : AccC q vs i I s s2 := by rw [← e]; exact h
theorem exe_look (hq : OwnQ q) (ht : s.ths[i]? = some t) (hb : t.busy = true) (hp : t.pc = 0) {n ad : Nat} {cl : Cl} {x : Int} (hc : t.call = n) (hcl : s.cls[n]? = some cl) (ha : cl.arg = ad) (hw : s.ws.length ≤ 100000) (hx : s.ws[ad]? = some x) (hl : s.lg.length ≤ 100000) :
    ∃ k t', Exe q vs i k false s ((({ s.put i t' with lg := s.lg ++ [⟨s.n, i, 1, ad, 0, 0, x⟩] } : Rs)).putC n { cl with pt := s.n, fin := s.n, ak := 2, av := wrap64 x }) ∧ t'.busy = false := by
  obtain ⟨busy, call, pc, R, bk, ch, rc⟩ := t
  simp only at hb hp hc
  subst hb hp hc
  have hal := (List.getElem?_eq_some_iff.1 hx).1
  have hnl := (List.getElem?_eq_some_iff.1 hcl).1
  have cd : ∀ (p : Nat) (I : Ins), ownCode[p]? = some I → q.code[p]? = some I := fun p I h => by rw [hq.code]; exact h
  have hu : IntKind.u64.wrap cl.arg = ad := by rw [ha]; exact u64_small ad (by omega)
  refine ⟨6, ⟨false, n, 5, upd (upd R 0 ad) 1 x, bk, ch, rc⟩, ?_, rfl⟩
  refine .loc (s1 := (s.put i ⟨true, n, 1, R, bk, ch, rc⟩)) (I := ⟨10, 1, 0, 0, 0, 0⟩) ⟨_, 0, ht, rfl, rfl, cd 0 _ rfl⟩ (by decide) (LocC.to (fun W U vc vl h => local_label h ht ⟨by simp, by simp⟩ 1 0 0 0 0) (by simp [Rs.put])) ?_
  refine .loc (s1 := (s.put i ⟨true, n, 2, upd R 0 ad, bk, ch, rc⟩)) (I := ⟨48, 0, 0, 0, 0, 0⟩) ⟨_, 1, put_get s ht _, rfl, rfl, cd 1 _ rfl⟩ (by decide) (LocC.to (fun W U vc vl h => local_arg h (put_get s ht _) ⟨by simp, by simp⟩ 0 (by decide) 0 0 0 0 (n := n) rfl hcl) (by simp [Rs.put, hu])) ?_
  refine .acc (s1 := ({ s.put i ⟨true, n, 3, upd (upd R 0 ad) 1 x, bk, ch, rc⟩ with lg := s.lg ++ [⟨s.n, i, 1, ad, 0, 0, x⟩] } : Rs)) (I := ⟨1, 1, 0, 0, 0, 0⟩) ⟨_, 2, put_get s ht _, rfl, rfl, cd 2 _ rfl⟩ (by decide) (AccC.to (fun W U vc vl h => access_load h (put_get s ht _) ⟨by simp, by simp⟩ hl 1 0 (by decide) (by decide) 0 0 (ad := ad) rfl hx) (by simp [Rs.put])) ?_
  refine .loc (s1 := (({ s.put i ⟨true, n, 4, upd (upd R 0 ad) 1 x, bk, ch, rc⟩ with lg := s.lg ++ [⟨s.n, i, 1, ad, 0, 0, x⟩] } : Rs).putC n { cl with pt := s.n })) (I := ⟨27, 0, 0, 0, 0, 0⟩) ⟨_, 3, put_get { s with lg := s.lg ++ [⟨s.n, i, 1, ad, 0, 0, x⟩] } ht _, rfl, rfl, cd 3 _ rfl⟩ (by decide) (LocC.to (fun W U vc vl h => local_point h (put_get { s with lg := s.lg ++ [⟨s.n, i, 1, ad, 0, 0, x⟩] } ht _) ⟨by simp, by simp⟩ 0 0 0 0 0 (n := n) rfl hcl) (by simp [Rs.put, Rs.putC])) ?_
  refine .loc (s1 := (({ s.put i ⟨false, n, 5, upd (upd R 0 ad) 1 x, bk, ch, rc⟩ with lg := s.lg ++ [⟨s.n, i, 1, ad, 0, 0, x⟩] } : Rs).putC n { cl with pt := s.n, fin := s.n, ak := 2, av := wrap64 x })) (I := ⟨14, 1, 0, 0, 2, 0⟩) ⟨_, 4, put_get { s with lg := s.lg ++ [⟨s.n, i, 1, ad, 0, 0, x⟩] } ht _, rfl, rfl, cd 4 _ rfl⟩ (by decide) (LocC.to (fun W U vc vl h => local_end2 h (put_get { s with lg := s.lg ++ [⟨s.n, i, 1, ad, 0, 0, x⟩] } ht _) ⟨by simp, by simp⟩ 1 (by decide) 0 0 0 (n := n) (cl := { cl with pt := s.n }) rfl (by simp [Rs.putC, Rs.put, hnl])) (by simp [Rs.put, Rs.putC, upd])) ?_
  exact .stop ⟨_, put_get { s with lg := s.lg ++ [⟨s.n, i, 1, ad, 0, 0, x⟩] } ht _, rfl⟩
theorem u64_one : IntKind.u64.wrap 1 = 1 := rfl
theorem exe_first (hq : OwnQ q) (ht : s.ths[i]? = some t) (hb : t.busy = true) (hp : t.pc = 5) {n ad : Nat} {cl : Cl} {x : Int} (hc : t.call = n) (hcl : s.cls[n]? = some cl) (ha : cl.arg = ad) (hw : s.ws.length ≤ 100000) (hx : s.ws[ad]? = some x) (hl : s.lg.length ≤ 100000) :
    ∃ k t', Exe q vs i k false s ({ s.put i t' with lg := s.lg ++ [⟨s.n, i, 1, ad, 0, 0, x⟩] } : Rs) ∧ t'.busy = true ∧ t'.call = n ∧ t'.pc = 10 ∧ t'.R 0 = ad ∧ t'.R 1 = x ∧ t'.R 2 = up x := by
  obtain ⟨busy, call, pc, R, bk, ch, rc⟩ := t
  simp only at hb hp hc
  subst hb hp hc
  have hal := (List.getElem?_eq_some_iff.1 hx).1
  have hnl := (List.getElem?_eq_some_iff.1 hcl).1
  have cd : ∀ (p : Nat) (I : Ins), ownCode[p]? = some I → q.code[p]? = some I := fun p I h => by rw [hq.code]; exact h
  have hu : IntKind.u64.wrap cl.arg = ad := by rw [ha]; exact u64_small ad (by omega)
  refine ⟨6, ⟨true, n, 10, upd (upd (upd R 0 ad) 1 x) 2 (up x), bk, ch, rc⟩, ?_, rfl, rfl, rfl, by simp [upd], by simp [upd], by simp [upd]⟩
  refine .loc (s1 := (s.put i ⟨true, n, 6, R, bk, ch, rc⟩)) (I := ⟨10, 2, 0, 0, 0, 0⟩) ⟨_, 5, ht, rfl, rfl, cd 5 _ rfl⟩ (by decide) (LocC.to (fun W U vc vl h => local_label h ht ⟨by simp, by simp⟩ 2 0 0 0 0) (by simp [Rs.put])) ?_
  refine .loc (s1 := (s.put i ⟨true, n, 7, upd R 0 ad, bk, ch, rc⟩)) (I := ⟨48, 0, 0, 0, 0, 0⟩) ⟨_, 6, put_get s ht _, rfl, rfl, cd 6 _ rfl⟩ (by decide) (LocC.to (fun W U vc vl h => local_arg h (put_get s ht _) ⟨by simp, by simp⟩ 0 (by decide) 0 0 0 0 (n := n) rfl hcl) (by simp [Rs.put, hu])) ?_
  refine .loc (s1 := (s.put i ⟨true, n, 8, upd R 0 ad, bk, ch, rc⟩)) (I := ⟨10, 3, 0, 0, 0, 0⟩) ⟨_, 7, put_get s ht _, rfl, rfl, cd 7 _ rfl⟩ (by decide) (LocC.to (fun W U vc vl h => local_label h (put_get s ht _) ⟨by simp, by simp⟩ 3 0 0 0 0) (by simp [Rs.put])) ?_
  refine .acc (s1 := ({ s.put i ⟨true, n, 9, upd (upd R 0 ad) 1 x, bk, ch, rc⟩ with lg := s.lg ++ [⟨s.n, i, 1, ad, 0, 0, x⟩] } : Rs)) (I := ⟨1, 1, 0, 0, 0, 0⟩) ⟨_, 8, put_get s ht _, rfl, rfl, cd 8 _ rfl⟩ (by decide) (AccC.to (fun W U vc vl h => access_load h (put_get s ht _) ⟨by simp, by simp⟩ hl 1 0 (by decide) (by decide) 0 0 (ad := ad) rfl hx) (by simp [Rs.put])) ?_
  refine .loc (s1 := ({ s.put i ⟨true, n, 10, upd (upd (upd R 0 ad) 1 x) 2 (up x), bk, ch, rc⟩ with lg := s.lg ++ [⟨s.n, i, 1, ad, 0, 0, x⟩] } : Rs)) (I := ⟨17, 2, 1, 0, 1, 0⟩) ⟨_, 9, put_get { s with lg := s.lg ++ [⟨s.n, i, 1, ad, 0, 0, x⟩] } ht _, rfl, rfl, cd 9 _ rfl⟩ (by decide) (LocC.to (fun W U vc vl h => local_add h (put_get { s with lg := s.lg ++ [⟨s.n, i, 1, ad, 0, 0, x⟩] } ht _) ⟨by simp, by simp⟩ 2 1 (by decide) (by decide) 0 1 0) (by simp [Rs.put, upd, up, u64_one])) ?_
  exact .wait (I := ⟨3, 1, 0, 0, 2, 3⟩) ⟨_, 10, put_get { s with lg := s.lg ++ [⟨s.n, i, 1, ad, 0, 0, x⟩] } ht _, rfl, rfl, cd 10 _ rfl⟩ (by decide)
theorem exe_again (hq : OwnQ q) (ht : s.ths[i]? = some t) (hb : t.busy = true) (hp : t.pc = 8) {n ad : Nat} {cl : Cl} {x : Int} (hc : t.call = n) (hcl : s.cls[n]? = some cl) (hx : s.ws[ad]? = some x) (hl : s.lg.length ≤ 100000) (hR : t.R 0 = ad) :
    ∃ k t', Exe q vs i k false s ({ s.put i t' with lg := s.lg ++ [⟨s.n, i, 1, ad, 0, 0, x⟩] } : Rs) ∧ t'.busy = true ∧ t'.call = n ∧ t'.pc = 10 ∧ t'.R 0 = ad ∧ t'.R 1 = x ∧ t'.R 2 = up x := by
  obtain ⟨busy, call, pc, R, bk, ch, rc⟩ := t
  simp only at hb hp hc hR
  subst hb hp hc
  have hal := (List.getElem?_eq_some_iff.1 hx).1
  have hnl := (List.getElem?_eq_some_iff.1 hcl).1
  have cd : ∀ (p : Nat) (I : Ins), ownCode[p]? = some I → q.code[p]? = some I := fun p I h => by rw [hq.code]; exact h
  refine ⟨6, ⟨true, n, 10, upd (upd (R) 1 x) 2 (up x), bk, ch, rc⟩, ?_, rfl, rfl, rfl, by simp [upd, hR], by simp [upd], by simp [upd]⟩
  refine .acc (s1 := ({ s.put i ⟨true, n, 9, upd (R) 1 x, bk, ch, rc⟩ with lg := s.lg ++ [⟨s.n, i, 1, ad, 0, 0, x⟩] } : Rs)) (I := ⟨1, 1, 0, 0, 0, 0⟩) ⟨_, 8, ht, rfl, rfl, cd 8 _ rfl⟩ (by decide) (AccC.to (fun W U vc vl h => access_load h (ht) ⟨by simp, by simp⟩ hl 1 0 (by decide) (by decide) 0 0 (ad := ad) hR hx) (by simp [Rs.put])) ?_
  refine .loc (s1 := ({ s.put i ⟨true, n, 10, upd (upd (R) 1 x) 2 (up x), bk, ch, rc⟩ with lg := s.lg ++ [⟨s.n, i, 1, ad, 0, 0, x⟩] } : Rs)) (I := ⟨17, 2, 1, 0, 1, 0⟩) ⟨_, 9, put_get { s with lg := s.lg ++ [⟨s.n, i, 1, ad, 0, 0, x⟩] } ht _, rfl, rfl, cd 9 _ rfl⟩ (by decide) (LocC.to (fun W U vc vl h => local_add h (put_get { s with lg := s.lg ++ [⟨s.n, i, 1, ad, 0, 0, x⟩] } ht _) ⟨by simp, by simp⟩ 2 1 (by decide) (by decide) 0 1 0) (by simp [Rs.put, upd, up, u64_one])) ?_
  exact .wait (I := ⟨3, 1, 0, 0, 2, 3⟩) ⟨_, 10, put_get { s with lg := s.lg ++ [⟨s.n, i, 1, ad, 0, 0, x⟩] } ht _, rfl, rfl, cd 10 _ rfl⟩ (by decide)
theorem exe_hit (hq : OwnQ q) (ht : s.ths[i]? = some t) (hb : t.busy = true) (hp : t.pc = 10) {n ad : Nat} {cl : Cl} {x : Int} (hc : t.call = n) (hcl : s.cls[n]? = some cl) (hx : s.ws[ad]? = some x) (hl : s.lg.length ≤ 100000) {y : Int} (h0 : t.R 0 = ad) (h1 : t.R 1 = y) (h2 : t.R 2 = up y) (he : x = y) :
    ∃ k t', Exe q vs i k false s (({ s.put i t' with ws := s.ws.set ad (up x), lg := s.lg ++ [⟨s.n, i, 3, ad, x, up x, x⟩] } : Rs).putC n { cl with pt := s.n, fin := s.n, ak := 2, av := wrap64 x }) ∧ t'.busy = false := by
  subst he
  obtain ⟨busy, call, pc, R, bk, ch, rc⟩ := t
  simp only at hb hp hc h0 h1 h2
  subst hb hp hc
  have hal := (List.getElem?_eq_some_iff.1 hx).1
  have hnl := (List.getElem?_eq_some_iff.1 hcl).1
  have cd : ∀ (p : Nat) (I : Ins), ownCode[p]? = some I → q.code[p]? = some I := fun p I h => by rw [hq.code]; exact h
  refine ⟨4, ⟨false, n, 13, R, bk, ch, rc⟩, ?_, rfl⟩
  refine .acc (s1 := ({ s.put i ⟨true, n, 11, R, bk, ch, rc⟩ with ws := s.ws.set ad (up x), lg := s.lg ++ [⟨s.n, i, 3, ad, x, up x, x⟩] } : Rs)) (I := ⟨3, 1, 0, 0, 2, 3⟩) ⟨_, 10, ht, rfl, rfl, cd 10 _ rfl⟩ (by decide) (AccC.to (fun W U vc vl h => access_hit h ht ⟨by simp, by simp⟩ hl 1 0 2 (by decide) (by decide) (by decide) 3 (ad := ad) h0 hx h1.symm) (by simp [Rs.put, h1, h2])) ?_
  refine .loc (s1 := (({ s.put i ⟨true, n, 12, R, bk, ch, rc⟩ with ws := s.ws.set ad (up x), lg := s.lg ++ [⟨s.n, i, 3, ad, x, up x, x⟩] } : Rs).putC n { cl with pt := s.n })) (I := ⟨27, 0, 0, 0, 0, 0⟩) ⟨_, 11, put_get { s with ws := s.ws.set ad (up x), lg := s.lg ++ [⟨s.n, i, 3, ad, x, up x, x⟩] } ht _, rfl, rfl, cd 11 _ rfl⟩ (by decide) (LocC.to (fun W U vc vl h => local_point h (put_get { s with ws := s.ws.set ad (up x), lg := s.lg ++ [⟨s.n, i, 3, ad, x, up x, x⟩] } ht _) ⟨by simp, by simp⟩ 0 0 0 0 0 (n := n) rfl hcl) (by simp [Rs.put, Rs.putC])) ?_
  refine .loc (s1 := (({ s.put i ⟨false, n, 13, R, bk, ch, rc⟩ with ws := s.ws.set ad (up x), lg := s.lg ++ [⟨s.n, i, 3, ad, x, up x, x⟩] } : Rs).putC n { cl with pt := s.n, fin := s.n, ak := 2, av := wrap64 x })) (I := ⟨14, 1, 0, 0, 2, 0⟩) ⟨_, 12, put_get { s with ws := s.ws.set ad (up x), lg := s.lg ++ [⟨s.n, i, 3, ad, x, up x, x⟩] } ht _, rfl, rfl, cd 12 _ rfl⟩ (by decide) (LocC.to (fun W U vc vl h => local_end2 h (put_get { s with ws := s.ws.set ad (up x), lg := s.lg ++ [⟨s.n, i, 3, ad, x, up x, x⟩] } ht _) ⟨by simp, by simp⟩ 1 (by decide) 0 0 0 (n := n) (cl := { cl with pt := s.n }) rfl (by simp [Rs.putC, Rs.put, hnl])) (by simp [Rs.put, Rs.putC, h1])) ?_
  exact .stop ⟨_, put_get { s with ws := s.ws.set ad (up x), lg := s.lg ++ [⟨s.n, i, 3, ad, x, up x, x⟩] } ht _, rfl⟩
theorem exe_miss (hq : OwnQ q) (ht : s.ths[i]? = some t) (hb : t.busy = true) (hp : t.pc = 10) {n ad : Nat} {cl : Cl} {x : Int} (hc : t.call = n) (hcl : s.cls[n]? = some cl) (hx : s.ws[ad]? = some x) (hl : s.lg.length ≤ 100000) {y : Int} (h0 : t.R 0 = ad) (h1 : t.R 1 = y) (h2 : t.R 2 = up y) (hne : x ≠ y) :
    ∃ k t', Exe q vs i k false s ({ s.put i t' with lg := s.lg ++ [⟨s.n, i, 3, ad, y, up y, x⟩] } : Rs) ∧ t'.busy = true ∧ t'.call = n ∧ t'.pc = 8 ∧ t'.R 0 = ad := by
  obtain ⟨busy, call, pc, R, bk, ch, rc⟩ := t
  simp only at hb hp hc h0 h1 h2
  subst hb hp hc
  have hal := (List.getElem?_eq_some_iff.1 hx).1
  have hnl := (List.getElem?_eq_some_iff.1 hcl).1
  have cd : ∀ (p : Nat) (I : Ins), ownCode[p]? = some I → q.code[p]? = some I := fun p I h => by rw [hq.code]; exact h
  refine ⟨3, ⟨true, n, 8, R, bk, ch, rc⟩, ?_, rfl, rfl, rfl, h0⟩
  refine .acc (s1 := ({ s.put i ⟨true, n, 7, R, bk, ch, rc⟩ with lg := s.lg ++ [⟨s.n, i, 3, ad, y, up y, x⟩] } : Rs)) (I := ⟨3, 1, 0, 0, 2, 3⟩) ⟨_, 10, ht, rfl, rfl, cd 10 _ rfl⟩ (by decide) (AccC.to (fun W U vc vl h => access_miss h ht ⟨by simp, by simp⟩ hl 1 0 2 3 (by decide) (by decide) (by decide) (lab := 7) (by rw [hq.labs]; rfl) (ad := ad) h0 hx (by show x ≠ R 1; rw [h1]; exact hne)) (by simp [Rs.put, h1, h2])) ?_
  refine .loc (s1 := ({ s.put i ⟨true, n, 8, R, bk, ch, rc⟩ with lg := s.lg ++ [⟨s.n, i, 3, ad, y, up y, x⟩] } : Rs)) (I := ⟨10, 3, 0, 0, 0, 0⟩) ⟨_, 7, put_get { s with lg := s.lg ++ [⟨s.n, i, 3, ad, y, up y, x⟩] } ht _, rfl, rfl, cd 7 _ rfl⟩ (by decide) (LocC.to (fun W U vc vl h => local_label h (put_get { s with lg := s.lg ++ [⟨s.n, i, 3, ad, y, up y, x⟩] } ht _) ⟨by simp, by simp⟩ 3 0 0 0 0) (by simp [Rs.put])) ?_
  exact .wait (I := ⟨1, 1, 0, 0, 0, 0⟩) ⟨_, 8, put_get { s with lg := s.lg ++ [⟨s.n, i, 3, ad, y, up y, x⟩] } ht _, rfl, rfl, cd 8 _ rfl⟩ (by decide)
end
end Go.Proofs.Ytglppcoohojmpaa.Rf
/-
  THE DOCUMENT's MACHINE with the machine's own calls does what the program's does: a move.
-/
namespace Go.Proofs.Ytglppcoohojmpaa.Rf
open Go.RowKit Mr Me Ma
section
variable {P : Pm} {q : Rc} {vs : Value} {s : Rs} {i : Nat} {t : Rt}
theorem TR.mono {cls cls' : List Cl} (hm : ∀ c tc ad, Cal cls c tc ad → Cal cls' c tc ad) {p : Pt} (h : TR cls p t) : TR cls' p t := by
  unfold TR at h ⊢
  cases hp : p.tk with
  | idle => rw [hp] at h; exact h
  | look ad => rw [hp] at h; exact ⟨h.1, h.2.1, hm _ _ _ h.2.2⟩
  | bump ad x ld => rw [hp] at h; exact ⟨h.1, hm _ _ _ h.2.1, h.2.2⟩
theorem Cal.app {cls : List Cl} {c tc : Int} {ad : Nat} (h : Cal cls c tc ad) (l : List Cl) : Cal (cls ++ l) c tc ad := by
  obtain ⟨n, cl, h1, h2, h3, h4⟩ := h
  exact ⟨n, cl, h1, h2, by rw [List.getElem?_append_left (List.getElem?_eq_some_iff.1 h3).1]; exact h3, h4⟩
theorem Cal.set {cls : List Cl} {c tc : Int} {ad : Nat} (h : Cal cls c tc ad) {n : Nat} {x x' : Cl} (hx : cls[n]? = some x) (ha : x'.arg = x.arg) : Cal (cls.set n x') c tc ad := by
  obtain ⟨m, cl, h1, h2, h3, h4⟩ := h
  have hl := (List.getElem?_eq_some_iff.1 hx).1
  by_cases e : n = m
  · subst e
    rw [hx] at h3
    cases h3
    exact ⟨n, x', h1, h2, by simp [hl], by rw [ha]; exact h4⟩
  · exact ⟨m, cl, h1, h2, by rw [List.getElem?_set_ne e]; exact h3, h4⟩
theorem Rel.upd (hR : Rel P s) {p' : Pt} {t' : Rt} {P' : Pm} {s' : Rs} (e1 : P'.pts = P.pts.set i p') (e2 : s'.ths = s.ths.set i t') (ew : s'.ws = P'.ws) (en : s'.n = P'.n) (ec : s'.cls = P'.cls) (el : s'.lg = P'.lg) (hT : TR P'.cls p' t') (hm : ∀ c tc ad, Cal P.cls c tc ad → Cal P'.cls c tc ad) : Rel P' s' := by
  refine ⟨ew, en, ec, el, by rw [e1, e2, List.length_set, List.length_set]; exact hR.len, fun j p t hp ht => ?_⟩
  rw [e1] at hp
  rw [e2] at ht
  by_cases e : i = j
  · subst e
    rw [List.getElem?_set] at hp ht
    simp only [if_true] at hp ht
    split at hp
    · split at ht
      · cases hp; cases ht; exact hT
      · cases ht
    · cases hp
  · rw [List.getElem?_set_ne e] at hp ht
    exact (hR.th j p t hp ht).mono hm
theorem setC_at {cls : List Cl} {n : Nat} {cl : Cl} (h : cls[n]? = some cl) (now x : Int) : Ma.setC cls n now x = cls.set n { cl with pt := now, fin := now, ak := 2, av := wrap64 x } := by
  unfold Ma.setC
  rw [h]
/-- What a step makes, on both sides. -/
theorem sim_step (hq : OwnQ q) (hR : Rel P s) (hwf : Wf P) (hws : P.ws.length ≤ 8192) {p : Pt} (hp : P.pts[i]? = some p) (ht : s.ths[i]? = some t) (hb : t.busy = true) :
    ∃ k s1, Exe q vs i k false s s1 ∧ s1.n = s.n ∧ Rel (P.count.step i p P.n).1 { s1 with n := s.n + 1 } ∧ (P.count.step i p P.n).2 = true := by
  have hT := hR.th i p t hp ht
  have hok := (hwf.th i p hp).1
  have hlg : s.lg.length ≤ 100000 := by rw [hR.lg]; have := hwf.lg; have := hwf.n; omega
  have hwl : s.ws.length ≤ 100000 := by rw [hR.ws]; omega
  have hnn : s.n + 1 = ((P.n + 1 : Nat) : Int) := by rw [hR.n]; omega
  obtain ⟨tk, fr, call⟩ := p
  cases tk with
  | idle =>
    have : t.busy = false := hT
    rw [hb] at this
    cases this
  | look ad =>
    obtain ⟨_, h2, n, cl, h3, h4, h5, h6⟩ := hT
    have had : ad < P.ws.length := hok
    obtain ⟨x, hx⟩ : ∃ x, P.ws[ad]? = some x := ⟨_, List.getElem?_eq_getElem had⟩
    have hxs : s.ws[ad]? = some x := by rw [hR.ws]; exact hx
    have hcs : s.cls[n]? = some cl := by rw [hR.cls]; exact h5
    obtain ⟨k, t', E, hb'⟩ := exe_look (vs := vs) hq ht hb h2 h4 hcs h6 hwl hxs hlg
    simp only at h3
    subst h3
    have hst : (P.count.step i ⟨.look ad, fr, n⟩ P.n) = ({ P.count with lg := P.lg ++ [⟨P.n, i, 1, ad, 0, 0, x⟩], cls := P.cls.set n { cl with pt := P.n, fin := P.n, ak := 2, av := wrap64 x }, pts := P.pts.set i ⟨.idle, false, n⟩ }, true) := by
      have hxx : P.count.ws[ad]?.getD 0 = x := by show P.ws[ad]?.getD 0 = x; rw [hx]; rfl
      unfold Pm.step
      simp only [hxx, Int.toNat_natCast]
      rw [show P.count.cls = P.cls from rfl, setC_at h5]
      rfl
    refine ⟨k, _, E, rfl, ?_, by rw [hst]⟩
    rw [hst]
    refine hR.upd (i := i) (t' := t') rfl rfl hR.ws hnn ?_ ?_ hb' (fun c tc ad h => h.set h5 rfl)
    · show s.cls.set n _ = P.cls.set n _
      rw [hR.cls, hR.n]
    · show s.lg ++ _ = P.lg ++ _
      rw [hR.lg, hR.n]
  | bump ad y ld =>
    obtain ⟨_, ⟨n, cl, h3, h4, h5, h6⟩, h7⟩ := hT
    have had : ad < P.ws.length := hok
    obtain ⟨x, hx⟩ : ∃ x, P.ws[ad]? = some x := ⟨_, List.getElem?_eq_getElem had⟩
    have hxs : s.ws[ad]? = some x := by rw [hR.ws]; exact hx
    have hcs : s.cls[n]? = some cl := by rw [hR.cls]; exact h5
    simp only at h3
    subst h3
    cases ld with
    | false =>
      simp only [Bool.false_eq_true, if_false] at h7
      have main : ∃ k t', Exe q vs i k false s ({ s.put i t' with lg := s.lg ++ [⟨s.n, i, 1, ad, 0, 0, x⟩] } : Rs) ∧ t'.busy = true ∧ t'.call = n ∧ t'.pc = 10 ∧ t'.R 0 = ad ∧ t'.R 1 = x ∧ t'.R 2 = up x := by
        rcases h7 with h7 | ⟨h7, h8⟩
        · exact exe_first hq ht hb h7 h4 hcs h6 hwl hxs hlg
        · exact exe_again hq ht hb h7 h4 hcs hxs hlg h8
      obtain ⟨k, t', E, b1, b2, b3, b4, b5, b6⟩ := main
      have hst : (P.count.step i ⟨.bump ad y false, fr, n⟩ P.n) = ({ P.count with lg := P.lg ++ [⟨P.n, i, 1, ad, 0, 0, x⟩], pts := P.pts.set i ⟨.bump ad x true, false, n⟩ }, true) := by
        have hxx : P.count.ws[ad]?.getD 0 = x := by show P.ws[ad]?.getD 0 = x; rw [hx]; rfl
        unfold Pm.step
        simp only [hxx]
        rfl
      refine ⟨k, _, E, rfl, ?_, by rw [hst]⟩
      rw [hst]
      refine hR.upd (i := i) (t' := t') rfl rfl hR.ws hnn hR.cls ?_ ⟨b1, ⟨n, cl, rfl, b2, h5, h6⟩, b3, b4, b5, b6⟩ (fun c tc ad h => h)
      show s.lg ++ _ = P.lg ++ _
      rw [hR.lg, hR.n]
    | true =>
      simp only [if_true] at h7
      obtain ⟨g1, g2, g3, g4⟩ := h7
      by_cases he : x = y
      · obtain ⟨k, t', E, hb'⟩ := exe_hit (vs := vs) hq ht hb g1 h4 hcs hxs hlg g2 g3 g4 he
        subst he
        have hst : (P.count.step i ⟨.bump ad x true, fr, n⟩ P.n) = ({ P.count with ws := P.ws.set ad (up x), lg := P.lg ++ [⟨P.n, i, 3, ad, x, up x, x⟩], cls := Ma.setC P.cls ((n : Int)).toNat P.n x, pts := P.pts.set i ⟨.idle, false, n⟩ }, true) := by
          unfold Pm.step
          simp only
          rw [if_pos (by show P.ws[ad]?.getD 0 = x; rw [hx]; rfl)]
          rfl
        refine ⟨k, _, E, rfl, ?_, by rw [hst]⟩
        rw [hst]
        refine hR.upd (i := i) (t' := t') rfl rfl (by show s.ws.set ad _ = _; rw [hR.ws]) hnn ?_ ?_ hb' (fun c tc ad h => ?_)
        · show s.cls.set n _ = Ma.setC P.cls ((n : Int)).toNat P.n x
          rw [Int.toNat_natCast, setC_at h5, hR.cls, hR.n]
        · show s.lg ++ _ = P.lg ++ _
          rw [hR.lg, hR.n]
        · show Cal (Ma.setC P.cls ((n : Int)).toNat P.n x) c tc ad
          rw [Int.toNat_natCast, setC_at h5]
          exact h.set h5 rfl
      · obtain ⟨k, t', E, b1, b2, b3, b4⟩ := exe_miss (vs := vs) hq ht hb g1 h4 hcs hxs hlg g2 g3 g4 he
        have hst : (P.count.step i ⟨.bump ad y true, fr, n⟩ P.n) = ({ P.count with lg := P.lg ++ [⟨P.n, i, 3, ad, y, up y, x⟩], pts := P.pts.set i ⟨.bump ad y false, false, n⟩ }, true) := by
          have hxx : P.count.ws[ad]?.getD 0 = x := by show P.ws[ad]?.getD 0 = x; rw [hx]; rfl
          unfold Pm.step
          simp only [hxx]
          rw [if_neg he]
          rfl
        refine ⟨k, _, E, rfl, ?_, by rw [hst]⟩
        rw [hst]
        refine hR.upd (i := i) (t' := t') rfl rfl hR.ws hnn hR.cls ?_ ?_ (fun c tc ad h => h)
        · show s.lg ++ _ = P.lg ++ _
          rw [hR.lg, hR.n]
        · exact ⟨b1, ⟨n, cl, rfl, b2, h5, h6⟩, .inr ⟨b3, b4⟩⟩
def ownLab (x : En) : Int := if x.lb = 1 then 0 else 5
theorem find_own (op : Int) (m : Bool) : ownEns.find? (fun x => (x.op == op) && m) = if m = true then (if op = 1 then some ⟨1, 1, 5⟩ else if op = 2 then some ⟨2, 2, 5⟩ else none) else none := by
  cases m with
  | false => simp [ownEns]
  | true =>
    by_cases h1 : op = 1
    · subst h1; rfl
    · by_cases h2 : op = 2
      · subst h2; rfl
      · have e1 : ((1 : Int) == op) = false := by simpa using fun e : (1 : Int) = op => h1 e.symm
        have e2 : ((2 : Int) == op) = false := by simpa using fun e : (2 : Int) = op => h2 e.symm
        simp [ownEns, List.find?, e1, e2, h1, h2]
/-- A move, on both sides. -/
theorem sim_move (hq : OwnQ q) (hR : Rel P s) (hwf : Wf P) (hws : P.ws.length ≤ 8192) (hnt : q.nt = P.pts.length) (hn : P.n < 65536) (th op arg data : Int) :
    ∃ s1, s1.n = s.n ∧ Rel (P.move th op arg data).1 { s1 with n := s.n + 1 } ∧ ∀ (W : World) (U : Nat → Prop) (vc vl : Value), Rm W U q vc vl vs s → Calls Try.prog 40 #[.pointer (some ⟨q.b, 0, none⟩), .agg #[.int .i64 th, .int .i64 op, .int .i64 arg, .int .i64 data]] W fun e w' => e = .returned (.bool (P.move th op arg data).2) ∧ OutR W U q vs s1 w' := by
  have hnn : s.n + 1 = ((P.n + 1 : Nat) : Int) := by rw [hR.n]; omega
  have hcount : Rel P.count { s with n := s.n + 1 } := ⟨hR.ws, hnn, hR.cls, hR.lg, hR.len, hR.th⟩
  by_cases hth : 0 ≤ th ∧ th < P.pts.length
  · obtain ⟨i, rfl⟩ : ∃ i : Nat, th = i := ⟨th.toNat, by omega⟩
    have hi : i < P.pts.length := by omega
    obtain ⟨p, hp⟩ : ∃ p, P.pts[i]? = some p := ⟨_, List.getElem?_eq_getElem hi⟩
    obtain ⟨t, ht⟩ : ∃ t, s.ths[i]? = some t := ⟨_, List.getElem?_eq_getElem (by rw [hR.len]; exact hi)⟩
    have hT := hR.th i p t hp ht
    have hbz : t.busy = p.tk.busy := by
      unfold TR at hT
      cases hk : p.tk with
      | idle => rw [hk] at hT; exact hT
      | look ad => rw [hk] at hT; exact hT.1
      | bump ad x ld => rw [hk] at hT; exact hT.1
    have hmv : P.move (i : Int) op arg data = if op = 0 then P.count.step i p P.n else if p.tk.busy = true then (P.count, false) else P.count.begins i op arg data P.n := by
      unfold Pm.move
      rw [if_neg (by omega), if_pos hth]
      simp only [Int.toNat_natCast]
      rw [hp]
    rw [hmv]
    by_cases hop : op = 0
    · subst hop
      rw [if_pos rfl]
      cases hb : t.busy with
      | true =>
        obtain ⟨k, s1, E, e1, e2, e3⟩ := sim_step (vs := vs) hq hR hwf hws hp ht hb
        refine ⟨s1, e1, e2, fun W U vc vl h => ?_⟩
        have := move_step h ht arg data (fun _ => E)
        rw [hb] at this
        rw [e3]
        exact this
      | false =>
        have hid : P.count.step i p P.n = (P.count, false) := by
          obtain ⟨tk, fr, call⟩ := p
          rw [hb] at hbz
          cases tk with
          | idle => rfl
          | look ad => cases hbz
          | bump ad x ld => cases hbz
        rw [hid]
        refine ⟨s, rfl, hcount, fun W U vc vl h => ?_⟩
        have := move_step (k := 0) (s' := s) h ht arg data (fun e => by rw [hb] at e; cases e)
        rw [hb] at this
        exact this
    · rw [if_neg hop]
      cases hb : t.busy with
      | true =>
        rw [if_pos (by rw [← hbz]; exact hb)]
        exact ⟨s, rfl, hcount, fun W U vc vl h => move_busy h ht hb op arg data hop⟩
      | false =>
        rw [if_neg (by rw [← hbz, hb]; decide)]
        obtain ⟨m, hm⟩ : ∃ m, (decide (0 ≤ arg) && decide (arg < P.ws.length)) = m := ⟨_, rfl⟩
        have hf := find_own op m
        have hmay : ∀ (W : World) (U : Nat → Prop) (vc vl : Value), Rm W U q vc vl vs s → Calls Try.prog 40 #[.pointer (some ⟨q.b, 0, none⟩), .agg #[.int .i64 (i : Int), .int .i64 op, .int .i64 arg, .int .i64 data]] W fun e w' => e = .returned (.bool (s.beg i t op arg data ownLab (ownEns.find? (fun x => (x.op == op) && m))).1) ∧ OutR W U q vs (s.beg i t op arg data ownLab (ownEns.find? (fun x => (x.op == op) && m))).2 w' := fun W U vc vl h => by
          have := move_new h ht hb op arg data hop (by rw [hR.cls]; have := hwf.cls; omega) (fun _ => m) ownLab (fun e he W U vc vl h => by
            rw [hq.ens] at he
            have e5 : e.nd = 5 := by
              simp [ownEns] at he
              rcases he with rfl | rfl <;> rfl
            have := may_addr h ht op arg data
            rw [hR.ws, hm] at this
            rw [e5]
            exact this) (fun e he => by
            rw [hq.ens] at he
            rw [hq.labs]
            simp [ownEns] at he
            rcases he with rfl | rfl
            · exact ⟨1, rfl, rfl⟩
            · exact ⟨2, rfl, rfl⟩)
          rw [hq.ens] at this
          exact this
        rw [hf] at hmay
        have hwl : P.count.ws = P.ws := rfl
        cases m with
        | false =>
          have hno : P.count.begins i op arg data P.n = (P.count, false) := by
            unfold Pm.begins
            rw [if_neg]
            rintro ⟨_, h2, h3⟩
            rw [hwl] at h3
            simp [h2, h3] at hm
          rw [hno]
          exact ⟨s, rfl, hcount, hmay⟩
        | true =>
          have hrg : 0 ≤ arg ∧ arg < P.ws.length := by simpa using hm
          by_cases h12 : op = 1 ∨ op = 2
          · have hyes : P.count.begins i op arg data P.n = ({ P.count with cls := P.cls ++ [⟨i, op, arg, data, P.n, -1, -1, 0, 0⟩], pts := P.pts.set i ⟨if op = 1 then .look arg.toNat else .bump arg.toNat 0 false, true, (P.cls.length : Int)⟩ }, true) := by
              unfold Pm.begins
              rw [if_pos ⟨h12, hrg⟩]
              rfl
            rw [hyes]
            have hcal : Cal (P.cls ++ [⟨i, op, arg, data, P.n, -1, -1, 0, 0⟩]) (P.cls.length : Int) (s.cls.length : Int) arg.toNat := ⟨P.cls.length, ⟨i, op, arg, data, P.n, -1, -1, 0, 0⟩, rfl, by rw [hR.cls], by simp, by show arg = (arg.toNat : Int); omega⟩
            have hc : s.cls ++ [⟨i, op, arg, data, s.n, -1, -1, 0, 0⟩] = P.cls ++ [⟨i, op, arg, data, (P.n : Int), -1, -1, 0, 0⟩] := by rw [hR.cls, hR.n]
            by_cases h1 : op = 1
            · subst h1
              refine ⟨_, ?_, ?_, hmay⟩
              · rfl
              · refine hR.upd (i := i) (t' := t.begun s.cls.length 0) rfl rfl hR.ws hnn hc hR.lg ?_ (fun c tc ad h => h.app _)
                exact ⟨rfl, rfl, hcal⟩
            · have h2 : op = 2 := by omega
              subst h2
              refine ⟨_, ?_, ?_, hmay⟩
              · rfl
              · refine hR.upd (i := i) (t' := t.begun s.cls.length 5) rfl rfl hR.ws hnn hc hR.lg ?_ (fun c tc ad h => h.app _)
                exact ⟨rfl, hcal, .inl rfl⟩
          · have hno : P.count.begins i op arg data P.n = (P.count, false) := by
              unfold Pm.begins
              rw [if_neg (fun h => h12 h.1)]
            rw [hno]
            have e1 : ¬ op = 1 := fun e => h12 (.inl e)
            have e2 : ¬ op = 2 := fun e => h12 (.inr e)
            rw [if_pos rfl, if_neg e1, if_neg e2] at hmay
            exact ⟨s, rfl, hcount, hmay⟩
  · have hmv : P.move th op arg data = (P.count, false) := by
      unfold Pm.move
      rw [if_neg (by omega), if_neg hth]
    rw [hmv]
    exact ⟨s, rfl, hcount, fun W U vc vl h => move_out h th op arg data (by rw [hnt]; omega)⟩
end
end Go.Proofs.Ytglppcoohojmpaa.Rf
