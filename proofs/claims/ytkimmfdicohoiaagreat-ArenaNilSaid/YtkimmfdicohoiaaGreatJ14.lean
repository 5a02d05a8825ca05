import Derived.Test.YtkimmfdicohoiaaGreatJ03
/-
  THE ARENA on the machine, without the model: what its parts do, and what a move makes of it all.
-/
namespace Go.Proofs.YtkimmfdicohoiaaGreat.Ar
open Ma Me
/-- Slots (each one's state and holder) and caches. -/
structure Ao where
  sl : List (Int × Int)
  ca : List (List Int)
/-- Where a part stands: the place, its slot, Free as loaded, the spare word as loaded, whether it has taken. -/
structure Pk where
  nx : Int
  sl : Int
  hd : Int
  bh : Int
  tk : Bool
inductive Kd where
  | take
  | give
  | flush
def firstOf (h : Int) : Int := if h % 4294967296 ≤ 2147483647 then h % 4294967296 - 1 else -1
def nextOf (w : Int) : Int := if w < 8589934592 ∧ w % 4294967296 ≤ 2147483647 then w % 4294967296 - 1 else -1
def tagOf (h : Int) : Int := if h % 4294967296 ≤ 2147483647 then h / 4294967296 else 0
def headBehind (h : Int) (s : Int) : Int := if -1 ≤ s ∧ s ≤ 2147483646 then (tagOf h + 1) % 4294967296 * 4294967296 + (s + 1) else 0
def Ao.cache (A : Ao) (th : Nat) : List Int := A.ca[th]?.getD []
def Ao.last (A : Ao) (th : Nat) : Int := (A.cache th).getLast?.getD (-1)
def Ao.has (A : Ao) (slot : Int) : Prop := 0 ≤ slot ∧ slot < A.sl.length
instance (A : Ao) (slot : Int) : Decidable (A.has slot) := by unfold Ao.has; infer_instance
def Ao.st (A : Ao) (slot : Int) : Int × Int := A.sl[slot.toNat]?.getD (0, -1)
def holder (to : Int) (i : Nat) : Int := if to = 0 ∨ to = 3 then -1 else i
def Ao.put (A : Ao) (slot to : Int) (i : Nat) : Ao := { A with sl := A.sl.set slot.toNat (to, holder to i) }
def Ao.keep (A : Ao) (i : Nat) (l : List Int) : Ao := { A with ca := A.ca.set i l }
/-- A thread: its task, whether its call has made no step, its last call. -/
structure At where
  tk : Option (Kd × Pk)
  fr : Bool
  call : Int
/-- The machine with an arena: m is where the spare words begin, K how many slots a cache takes. -/
structure Pa where
  m : Nat
  K : Nat
  A : Ao
  pts : List At
  n : Nat
  cls : List Cl
  shs : List Sh
  ws : List Int
  lg : List Acc
namespace Pa
variable (P : Pa)
def word (ad : Nat) : Int := P.ws[ad]?.getD 0
def spare (slot : Int) : Nat := P.m + slot.toNat
def shift (i : Nat) (now slot to : Int) : Pa := { P with A := P.A.put slot to i, shs := P.shs ++ [⟨now, i, slot, (P.A.st slot).1, to⟩] }
def keep (i : Nat) (l : List Int) : Pa := { P with A := P.A.keep i l }
def load (i : Nat) (now : Int) (ad : Nat) : Pa := { P with lg := P.lg ++ [⟨now, i, 1, ad, 0, 0, P.word ad⟩] }
def store (i : Nat) (now : Int) (ad : Nat) (x : Int) : Pa := { P with ws := P.ws.set ad x, lg := P.lg ++ [⟨now, i, 2, ad, 0, x, 0⟩] }
def hit (i : Nat) (now : Int) (ad : Nat) (old x : Int) : Pa := { P with ws := P.ws.set ad x, lg := P.lg ++ [⟨now, i, 3, ad, old, x, old⟩] }
def miss (i : Nat) (now : Int) (ad : Nat) (old x : Int) : Pa := { P with lg := P.lg ++ [⟨now, i, 3, ad, old, x, P.word ad⟩] }
/-- What Ready does: the machine, the part, whether it has ended. -/
def ready (i : Nat) (now : Int) (k : Pk) : Kd → Pa × Pk × Bool
  | .take => if P.A.last i = -1 then (P, { k with nx := 5, sl := -1 }, false) else ((P.keep i (P.A.cache i).dropLast).shift i now (P.A.last i) 2, { k with nx := 0, sl := P.A.last i, tk := true }, true)
  | .give => if (P.A.cache i).length < P.K then ((P.keep i (P.A.cache i ++ [k.sl])).shift i now k.sl 1, { k with nx := 0 }, true) else (P, { k with nx := 5 }, false)
  | .flush => if P.A.last i = -1 then (P, { k with nx := 0, sl := -1 }, true) else (P, { k with nx := 5, sl := P.A.last i }, false)
/-- What becomes of a flush that has put its slot into the free list. -/
def next (i : Nat) (k : Pk) : Pa × Pk × Bool :=
  let Q := P.keep i (P.A.cache i).dropLast
  if Q.A.last i = -1 then (Q, { k with nx := 0, sl := -1 }, true) else (Q, { k with nx := 5, sl := Q.A.last i }, false)
/-- What Step does. -/
def stepP (i : Nat) (now : Int) (k : Pk) : Kd → Pa × Pk × Bool
  | .take =>
    if k.nx = 5 then
      if P.A.has (firstOf (P.word 0)) then (P.load i now 0, { k with nx := 6, hd := P.word 0, sl := firstOf (P.word 0) }, false) else (P.load i now 0, { k with nx := 0, hd := P.word 0, sl := firstOf (P.word 0) }, true)
    else if k.nx = 6 then (P.load i now (P.spare k.sl), { k with nx := 8, bh := P.word (P.spare k.sl) }, false)
    else if P.word 0 = k.hd then ((P.hit i now 0 k.hd (headBehind k.hd (nextOf k.bh))).shift i now k.sl 2, { k with nx := 0, tk := true }, true)
    else (P.miss i now 0 k.hd (headBehind k.hd (nextOf k.bh)), { k with nx := 5 }, false)
  | kd =>
    if k.nx = 5 then (P.load i now 0, { k with nx := 7, hd := P.word 0 }, false)
    else if k.nx = 7 then (P.store i now (P.spare k.sl) (firstOf k.hd + 1), { k with nx := 8 }, false)
    else if P.word 0 = k.hd then
      match kd with
      | .flush => ((P.hit i now 0 k.hd (headBehind k.hd k.sl)).shift i now k.sl 0).next i k
      | _ => ((P.hit i now 0 k.hd (headBehind k.hd k.sl)).shift i now k.sl 0, { k with nx := 0 }, true)
    else (P.miss i now 0 k.hd (headBehind k.hd k.sl), { k with nx := 5 }, false)
/-- A step of thread i, which is about kd at k. -/
def work (i : Nat) (now : Int) (fr : Bool) (kd : Kd) (k : Pk) : Pa × Pk × Bool :=
  if fr = true then
    let r := P.ready i now k kd
    if r.2.2 = true then r else r.1.stepP i now r.2.1 kd
  else P.stepP i now k kd
/-- What a call answers that has ended. -/
def answer (kd : Kd) (k : Pk) : Int × Int := match kd with
  | .take => if k.tk = true then (2, k.sl) else (4, 0)
  | _ => (1, 0)
def setC (cls : List Cl) (c : Nat) (now ak av : Int) : List Cl := match cls[c]? with
  | some cl => cls.set c { cl with fin := now, ak := ak, av := av }
  | none => cls
def step (i : Nat) (t : At) (now : Int) : Pa × Bool := match t.tk with
  | none => (P, false)
  | some (kd, k) =>
    let r := P.work i now t.fr kd k
    if r.2.2 = true then ({ r.1 with cls := setC r.1.cls t.call.toNat now (answer kd r.2.1).1 (answer kd r.2.1).2, pts := r.1.pts.set i ⟨none, false, t.call⟩ }, true)
    else ({ r.1 with pts := r.1.pts.set i ⟨some (kd, r.2.1), false, t.call⟩ }, true)
/-- What begins with an op; none: it is refused. -/
def maker (i : Nat) (op arg : Int) : Option (Kd × Pk) :=
  if op = 10 then some (.take, ⟨1, 0, 0, 0, false⟩)
  else if op = 11 then if P.A.has arg ∧ P.A.st arg = (2, (i : Int)) then some (.give, ⟨2, arg, 0, 0, false⟩) else none
  else if op = 12 then some (.flush, ⟨3, 0, 0, 0, false⟩) else none
def begins (i : Nat) (op arg data now : Int) : Pa × Bool := match P.maker i op arg with
  | some tk => ({ P with cls := P.cls ++ [⟨i, op, arg, data, now, -1, -1, 0, 0⟩], pts := P.pts.set i ⟨some tk, true, (P.cls.length : Int)⟩ }, true)
  | none => (P, false)
def count : Pa := { P with n := P.n + 1 }
def move (th op arg data : Int) : Pa × Bool :=
  if 65536 ≤ P.n then (P, false)
  else if 0 ≤ th ∧ th < P.pts.length then
    match P.pts[th.toNat]? with
    | none => (P.count, false)
    | some t => if op = 0 then P.count.step th.toNat t P.n else if t.tk.isSome = true then (P.count, false) else P.count.begins th.toNat op arg data P.n
  else (P.count, false)
end Pa
end Go.Proofs.YtkimmfdicohoiaaGreat.Ar
/-
  WHAT HOLDS of an arena on the machine behind every move: nothing is lost, nothing is doubled; and where each thread stands.
-/
namespace Go.Proofs.YtkimmfdicohoiaaGreat.Ar
open Ma Me
/-- The slots of l, one behind the other along f, from the link x on. -/
def Chn (f : Int → Int) : List Int → Int → Prop
  | [], x => x = 0
  | s :: l, x => x = s + 1 ∧ Chn f l (f s)
theorem Chn.congr {f g : Int → Int} : ∀ {l : List Int} {x : Int}, Chn f l x → (∀ s ∈ l, g s = f s) → Chn g l x
  | [], _, h, _ => h
  | s :: l, _, h, hg => ⟨h.1, by rw [hg s (by simp)]; exact Chn.congr h.2 (fun t ht => hg t (by simp [ht]))⟩
def sp (P : Pa) (s : Int) : Int := P.word (P.spare s)
def tag (P : Pa) : Int := P.word 0 / 4294967296
/-- Free, as it was once. -/
def Hd (P : Pa) (h : Int) : Prop := 0 ≤ h ∧ h ≤ 18446744073709551615 ∧ h % 4294967296 ≤ P.A.sl.length ∧ h / 4294967296 ≤ tag P
/-- A giver on its way. -/
def Gv (P : Pa) (k : Pk) : Prop := k.nx = 5 ∨ (k.nx = 7 ∧ Hd P k.hd) ∨ (k.nx = 8 ∧ Hd P k.hd ∧ sp P k.sl = firstOf k.hd + 1)
def Tok (P : Pa) (i : Nat) (fr : Bool) (kd : Kd) (k : Pk) : Prop := match kd with
  | .take => k.tk = false ∧ (if fr = true then k.nx = 1 else P.A.cache i = [] ∧ (k.nx = 5 ∨ ((k.nx = 6 ∨ k.nx = 8) ∧ P.A.has k.sl ∧ k.sl = firstOf k.hd ∧ Hd P k.hd ∧ (k.nx = 8 → (0 ≤ k.bh ∧ k.bh ≤ 18446744073709551615) ∧ (k.hd = P.word 0 → k.bh = sp P k.sl)))))
  | .give => P.A.has k.sl ∧ P.A.st k.sl = (2, (i : Int)) ∧ (if fr = true then k.nx = 2 else Gv P k)
  | .flush => if fr = true then k.nx = 3 else P.A.has k.sl ∧ (P.A.cache i).getLast? = some k.sl ∧ Gv P k
structure Inv (P : Pa) (b : Nat) : Prop where
  bd : b ≤ 65536
  lg : P.lg.length ≤ b
  cls : P.cls.length ≤ b
  shs : P.shs.length ≤ b
  m0 : 0 < P.m
  ns : P.A.sl.length ≤ 1024
  ml : P.m + P.A.sl.length ≤ P.ws.length
  kc : P.A.ca.length = P.pts.length
  wd : ∀ x ∈ P.ws, 0 ≤ x ∧ x ≤ 18446744073709551615
  w0 : P.word 0 % 4294967296 ≤ P.A.sl.length ∧ tag P ≤ b
  fl : ∃ l, Chn (sp P) l (P.word 0 % 4294967296) ∧ l.Nodup ∧ ∀ s, s ∈ l ↔ P.A.has s ∧ (P.A.st s).1 = 0
  ca : ∀ (i : Nat) (l : List Int), P.A.ca[i]? = some l → l.Nodup ∧ l.length ≤ P.K ∧ ∀ s ∈ l, P.A.has s ∧ P.A.st s = (1, (i : Int))
  cd : ∀ s, P.A.has s → (P.A.st s).1 = 1 → ∃ (i : Nat) (l : List Int), P.A.ca[i]? = some l ∧ s ∈ l
  th : ∀ (i : Nat) (t : At) (kd : Kd) (k : Pk), P.pts[i]? = some t → t.tk = some (kd, k) → Tok P i t.fr kd k
  cl : ∀ (i : Nat) (t : At), P.pts[i]? = some t → t.tk.isSome = true → ∃ c : Nat, t.call = c ∧ c < P.cls.length
/-- What thread i has made of P is nothing to the others. -/
structure Frm (P P' : Pa) (i : Nat) : Prop where
  ns : P'.A.sl.length = P.A.sl.length
  ca : ∀ j, j ≠ i → P'.A.ca[j]? = P.A.ca[j]?
  st : ∀ j : Nat, j ≠ i → ∀ x, P.A.has x → (P.A.st x = (2, (j : Int)) ∨ P.A.st x = (1, (j : Int))) → P'.A.st x = P.A.st x ∧ sp P' x = sp P x
  w0 : (P'.word 0 = P.word 0 ∧ ∀ x, P.A.has x → (P.A.st x).1 = 0 → sp P' x = sp P x) ∨ tag P < tag P'
section
variable {P P' : Pa} {b i : Nat}
theorem Frm.has (h : Frm P P' i) (x : Int) : P'.A.has x ↔ P.A.has x := by unfold Ao.has; rw [h.ns]
theorem Frm.tagle (h : Frm P P' i) : tag P ≤ tag P' := by
  rcases h.w0 with ⟨h, _⟩ | h
  · unfold tag; rw [h]; omega
  · omega
theorem Frm.hd (h : Frm P P' i) {x : Int} (hx : Hd P x) : Hd P' x := by
  have := h.tagle
  obtain ⟨h1, h2, h3, h4⟩ := hx
  exact ⟨h1, h2, by rw [h.ns]; exact h3, by omega⟩
theorem Frm.cache (h : Frm P P' i) {j : Nat} (hj : j ≠ i) : P'.A.cache j = P.A.cache j := by unfold Ao.cache; rw [h.ca j hj]
theorem Frm.gv (h : Frm P P' i) {k : Pk} (hs : sp P' k.sl = sp P k.sl) (hk : Gv P k) : Gv P' k := by
  rcases hk with hk | ⟨h1, h2⟩ | ⟨h1, h2, h3⟩
  · exact .inl hk
  · exact .inr (.inl ⟨h1, h.hd h2⟩)
  · exact .inr (.inr ⟨h1, h.hd h2, by rw [hs]; exact h3⟩)
/-- What Free names is in the free list. -/
theorem Inv.head (h : Inv P b) {s : Int} (hs : P.word 0 % 4294967296 = s + 1) (h0 : 0 ≤ s) : P.A.has s ∧ (P.A.st s).1 = 0 := by
  obtain ⟨l, h1, h2, h3⟩ := h.fl
  cases l with
  | nil => simp only [Chn] at h1; omega
  | cons a l =>
    obtain ⟨h4, h5⟩ := h1
    have : a = s := by omega
    subst this
    exact (h3 a).1 (by simp)
theorem firstOf_eq {h : Int} (hh : h % 4294967296 ≤ 1024) : firstOf h = h % 4294967296 - 1 := by unfold firstOf; rw [if_pos (by omega)]
theorem Frm.tok (h : Frm P P' i) (hI : Inv P b) {j : Nat} (hj : j ≠ i) {fr : Bool} {kd : Kd} {k : Pk} (hk : Tok P j fr kd k) : Tok P' j fr kd k := by
  cases kd with
  | take =>
    obtain ⟨h0, hk⟩ := hk
    refine ⟨h0, ?_⟩
    split
    · rename_i e; rw [if_pos e] at hk; exact hk
    · rename_i e
      rw [if_neg e] at hk
      obtain ⟨h1, hk⟩ := hk
      refine ⟨by rw [h.cache hj]; exact h1, ?_⟩
      rcases hk with hk | ⟨h2, h3, h4, h5, h6⟩
      · exact .inl hk
      · refine .inr ⟨h2, (h.has _).2 h3, h4, h.hd h5, fun h8 => ⟨(h6 h8).1, fun he => ?_⟩⟩
        rcases h.w0 with ⟨w1, w2⟩ | w
        · rw [w1] at he
          have hns := hI.ns
          have hw := hI.w0.1
          have e1 : P.word 0 % 4294967296 = k.sl + 1 := by
            have := firstOf_eq (h := P.word 0) (by omega)
            rw [h4, he, this]; omega
          obtain ⟨_, hz⟩ := hI.head e1 h3.1
          rw [w2 _ h3 hz]
          exact (h6 h8).2 he
        · have := h5.2.2.2
          have : k.hd / 4294967296 = tag P' := by rw [he]; rfl
          omega
  | give =>
    obtain ⟨h1, h2, h3⟩ := hk
    obtain ⟨s1, s2⟩ := h.st j hj k.sl h1 (.inl h2)
    refine ⟨(h.has _).2 h1, s1.trans h2, ?_⟩
    split
    · rename_i e; rw [if_pos e] at h3; exact h3
    · rename_i e; rw [if_neg e] at h3; exact h.gv s2 h3
  | flush =>
    simp only [Tok] at hk ⊢
    split
    · rename_i e; rw [if_pos e] at hk; exact hk
    · rename_i e
      rw [if_neg e] at hk
      obtain ⟨h1, h2, h3⟩ := hk
      have hst : P.A.st k.sl = (1, (j : Int)) := by
        cases hc : P.A.ca[j]? with
        | none => simp [Ao.cache, hc] at h2
        | some l =>
          simp only [Ao.cache, hc, Option.getD_some] at h2
          exact ((hI.ca j l hc).2.2 _ (List.mem_of_getLast? h2)).2
      obtain ⟨s1, s2⟩ := h.st j hj k.sl h1 (.inr hst)
      exact ⟨(h.has _).2 h1, by rw [h.cache hj]; exact h2, h.gv s2 h3⟩
end
end Go.Proofs.YtkimmfdicohoiaaGreat.Ar
/-
  WHAT HOLDS, kept by every step.
-/
namespace Go.Proofs.YtkimmfdicohoiaaGreat.Ar
open Ma Me
theorem put_has (A : Ao) (s to x : Int) (i : Nat) : (A.put s to i).has x ↔ A.has x := by simp [Ao.has, Ao.put]
theorem put_same (A : Ao) (s to : Int) (i : Nat) (hs : A.has s) : (A.put s to i).st s = (to, holder to i) := by
  unfold Ao.has at hs
  simp only [Ao.st, Ao.put]
  rw [List.getElem?_set_self (by omega)]
  rfl
theorem put_other (A : Ao) (s to x : Int) (i : Nat) (hs : A.has s) (hx : A.has x) (hne : x ≠ s) : (A.put s to i).st x = A.st x := by
  unfold Ao.has at hs hx
  simp only [Ao.st, Ao.put]
  rw [List.getElem?_set_ne (by omega)]
theorem keep_st (A : Ao) (i : Nat) (l : List Int) (x : Int) : (A.keep i l).st x = A.st x := rfl
theorem keep_has (A : Ao) (i : Nat) (l : List Int) (x : Int) : (A.keep i l).has x ↔ A.has x := Iff.rfl
theorem keep_get (A : Ao) (i j : Nat) (l : List Int) (hj : j ≠ i) : (A.keep i l).ca[j]? = A.ca[j]? := by
  simp only [Ao.keep]
  rw [List.getElem?_set_ne (by omega)]
/-- What a step has made of P, but for the thread's own row and the calls. -/
structure Res (P P' : Pa) (b i : Nat) : Prop where
  frm : Frm P P' i
  m : P'.m = P.m
  K : P'.K = P.K
  pts : P'.pts = P.pts
  cls : P'.cls = P.cls
  n : P'.n = P.n
  lg : P'.lg.length ≤ b + 1
  shs : P'.shs.length ≤ b + 1
  kc : P'.A.ca.length = P.A.ca.length
  wl : P'.ws.length = P.ws.length
  wd : ∀ x ∈ P'.ws, 0 ≤ x ∧ x ≤ 18446744073709551615
  w0 : P'.word 0 % 4294967296 ≤ P'.A.sl.length ∧ tag P' ≤ b + 1
  fl : ∃ l, Chn (sp P') l (P'.word 0 % 4294967296) ∧ l.Nodup ∧ ∀ s, s ∈ l ↔ P'.A.has s ∧ (P'.A.st s).1 = 0
  ca : ∀ l : List Int, P'.A.ca[i]? = some l → l.Nodup ∧ l.length ≤ P'.K ∧ ∀ s ∈ l, P'.A.has s ∧ P'.A.st s = (1, (i : Int))
  cd : ∀ s, P'.A.has s → (P'.A.st s).1 = 1 → ∃ (i : Nat) (l : List Int), P'.A.ca[i]? = some l ∧ s ∈ l
section
variable {P P' : Pa} {b i : Nat}
theorem Res.inv (h : Inv P b) (hb : b < 65536) (hr : Res P P' b i) {t t' : At} {cls' : List Cl} (ht : P.pts[i]? = some t) (hcl : t'.tk.isSome = true → ∃ c : Nat, t'.call = c ∧ c < cls'.length) (hc1 : P.cls.length ≤ cls'.length) (hc2 : cls'.length ≤ b + 1) (htk : ∀ kd k, t'.tk = some (kd, k) → Tok P' i t'.fr kd k) :
    Inv { P' with cls := cls', pts := P.pts.set i t' } (b + 1) := by
  have hi : i < P.pts.length := (List.getElem?_eq_some_iff.1 ht).1
  refine ⟨hb, hr.lg, hc2, hr.shs, ?_, ?_, ?_, ?_, hr.wd, hr.w0, hr.fl, ?_, hr.cd, ?_, ?_⟩
  · show 0 < P'.m; rw [hr.m]; exact h.m0
  · show P'.A.sl.length ≤ 1024; rw [hr.frm.ns]; exact h.ns
  · show P'.m + P'.A.sl.length ≤ P'.ws.length; rw [hr.m, hr.frm.ns, hr.wl]; exact h.ml
  · show P'.A.ca.length = (P.pts.set i t').length; rw [hr.kc, List.length_set]; exact h.kc
  · intro j l hl
    by_cases hj : j = i
    · subst hj; exact hr.ca l hl
    · have hl' : P'.A.ca[j]? = some l := hl
      rw [hr.frm.ca j hj] at hl'
      obtain ⟨h1, h2, h3⟩ := h.ca j l hl'
      refine ⟨h1, by show l.length ≤ P'.K; rw [hr.K]; exact h2, fun s hs => ?_⟩
      obtain ⟨h4, h5⟩ := h3 s hs
      exact ⟨(hr.frm.has s).2 h4, ((hr.frm.st j hj s h4 (.inr h5)).1).trans h5⟩
  · intro j u kd k hj hu
    have hj' : (P.pts.set i t')[j]? = some u := hj
    by_cases e : j = i
    · subst e
      rw [List.getElem?_set_self hi] at hj'
      cases hj'
      exact htk kd k hu
    · rw [List.getElem?_set_ne (fun e' => e e'.symm)] at hj'
      exact hr.frm.tok h e (h.th j u kd k hj' hu)
  · intro j u hj hu
    have hj' : (P.pts.set i t')[j]? = some u := hj
    by_cases e : j = i
    · subst e
      rw [List.getElem?_set_self hi] at hj'
      cases hj'
      exact hcl hu
    · rw [List.getElem?_set_ne (fun e' => e e'.symm)] at hj'
      obtain ⟨c, h1, h2⟩ := h.cl j u hj' hu
      exact ⟨c, h1, Nat.lt_of_lt_of_le h2 hc1⟩
theorem Inv.word (h : Inv P b) (ad : Nat) : 0 ≤ P.word ad ∧ P.word ad ≤ 18446744073709551615 := by
  unfold Pa.word
  cases hx : P.ws[ad]? with
  | none => simp
  | some x => simpa using h.wd x (List.mem_of_getElem? hx)
theorem Inv.hd0 (h : Inv P b) : Hd P (P.word 0) := ⟨(h.word 0).1, (h.word 0).2, h.w0.1, by unfold tag; omega⟩
/-- Only the log has turned. -/
theorem Res.quiet (h : Inv P b) (hA : P'.A = P.A) (hws : P'.ws = P.ws) (hm : P'.m = P.m) (hK : P'.K = P.K) (hp : P'.pts = P.pts) (hc : P'.cls = P.cls) (hn : P'.n = P.n) (hs : P'.shs = P.shs) (hl : P'.lg.length ≤ b + 1) : Res P P' b i := by
  have e0 : P'.word 0 = P.word 0 := by simp [Pa.word, hws]
  have es : sp P' = sp P := by funext s; simp [sp, Pa.word, Pa.spare, hws, hm]
  have et : tag P' = tag P := by simp [tag, e0]
  refine ⟨⟨by rw [hA], fun j _ => by rw [hA], fun j _ x _ _ => ⟨by rw [hA], by rw [es]⟩, .inl ⟨e0, fun x _ _ => by rw [es]⟩⟩, hm, hK, hp, hc, hn, hl, by rw [hs]; exact Nat.le_succ_of_le h.shs, by rw [hA], by rw [hws], by rw [hws]; exact h.wd, ?_, ?_, ?_, ?_⟩
  · rw [e0, hA, et]; exact ⟨h.w0.1, by have := h.w0.2; omega⟩
  · rw [e0, hA, es]; exact h.fl
  · rw [hA, hK]; exact h.ca i
  · rw [hA]; exact h.cd
theorem spare_inj {s x : Int} (hs : P.A.has s) (hx : P.A.has x) (h : P.spare s = P.spare x) : s = x := by
  unfold Ao.has at hs hx
  unfold Pa.spare at h
  omega
/-- A giver's store. -/
theorem Res.stored (h : Inv P b) {now x : Int} {s : Int} (hs : P.A.has s) (hst : P.A.st s = (2, (i : Int)) ∨ P.A.st s = (1, (i : Int))) (hx : 0 ≤ x ∧ x ≤ 18446744073709551615) : Res P (P.store i now (P.spare s) x) b i ∧ sp (P.store i now (P.spare s) x) s = x := by
  have hlt : P.spare s < P.ws.length := by have := h.ml; unfold Ao.has at hs; unfold Pa.spare; omega
  have hne0 : P.spare s ≠ 0 := by have := h.m0; unfold Pa.spare; omega
  have e0 : (P.store i now (P.spare s) x).word 0 = P.word 0 := by
    simp only [Pa.word, Pa.store]
    rw [List.getElem?_set_ne hne0]
  have es : ∀ y, P.A.has y → y ≠ s → sp (P.store i now (P.spare s) x) y = sp P y := fun y hy hne => by
    have : P.spare s ≠ P.spare y := fun e => hne (spare_inj hs hy e).symm
    show ((P.ws.set (P.spare s) x)[P.spare y]?).getD 0 = _
    rw [List.getElem?_set_ne this]
    rfl
  have hst0 : (P.A.st s).1 ≠ 0 := by rcases hst with e | e <;> rw [e] <;> simp
  have et : tag (P.store i now (P.spare s) x) = tag P := by simp [tag, e0]
  refine ⟨⟨⟨rfl, fun _ _ => rfl, fun j hj y hy hyst => ⟨rfl, es y hy (fun e => ?_)⟩, .inl ⟨e0, fun y hy hy0 => es y hy (fun e => hst0 (e ▸ hy0))⟩⟩, rfl, rfl, rfl, rfl, rfl, ?_, Nat.le_succ_of_le h.shs, rfl, by simp [Pa.store], ?_, ?_, ?_, h.ca i, h.cd⟩, ?_⟩
  · subst e
    rcases hst with e | e <;> rcases hyst with e' | e' <;> rw [e] at e' <;> simp at e' <;> omega
  · have := h.lg; simp [Pa.store]; omega
  · intro y hy
    rcases List.mem_or_eq_of_mem_set hy with hy | rfl
    · exact h.wd y hy
    · exact hx
  · rw [e0, et]; exact ⟨h.w0.1, by have := h.w0.2; omega⟩
  · obtain ⟨l, h1, h2, h3⟩ := h.fl
    refine ⟨l, ?_, h2, h3⟩
    rw [e0]
    refine h1.congr (fun y hy => ?_)
    obtain ⟨y1, y2⟩ := (h3 y).1 hy
    exact es y y1 (fun e => hst0 (e ▸ y2))
  · show ((P.ws.set (P.spare s) x)[P.spare s]?).getD 0 = _
    rw [List.getElem?_set_self hlt]
    rfl
end
end Go.Proofs.YtkimmfdicohoiaaGreat.Ar
