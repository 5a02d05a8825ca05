import Derived.Test.YtmmjdlbeiaoojaaGreatArAloneP
/-
  The pure part of ArenaHonest: a take that answers Full saw no slot in Free, none is free, and its thread's cache is empty.
-/
namespace Go.Proofs.YtmmjdlbeiaoojaaGreat.Ar
open Go.RowKit Go.Shelf Mr Me Ma Wc Wm Wr
/-- An access that is a load of Free, at the move e, by the thread th, that saw no slot. -/
def Saw (lg : List Acc) (e th : Int) : Prop := ∃ (k : Nat) (a : Acc), lg[k]? = some a ∧ a.mv = e ∧ a.th = th ∧ a.kd = 1 ∧ a.ad = 0 ∧ a.saw % 4294967296 = 0
theorem Saw.more {lg : List Acc} {e th : Int} (h : Saw lg e th) (l : List Acc) : Saw (lg ++ l) e th := by
  obtain ⟨k, a, h1, h2⟩ := h
  exact ⟨k, a, by rw [List.getElem?_append_left (List.getElem?_eq_some_iff.1 h1).1]; exact h1, h2⟩
section
variable {P : Pa} {b i : Nat}
/-- What a step makes of the log: it grows. -/
theorem step_grow {now : Int} {kd : Kd} {k : Pk} : ∃ l, (P.stepP i now k kd).1.lg = P.lg ++ l := by
  cases kd with
  | take => simp only [Pa.stepP]; (repeat' split) <;> exact ⟨_, rfl⟩
  | give => rw [stepP_give]; unfold givP; simp only [Bool.false_eq_true, if_false]; (repeat' split) <;> exact ⟨_, rfl⟩
  | flush =>
    rw [stepP_flush]
    unfold givP
    split
    · exact ⟨_, rfl⟩
    · split
      · exact ⟨_, rfl⟩
      · split
        · simp only [if_true, Pa.next]
          split <;> exact ⟨_, rfl⟩
        · exact ⟨_, rfl⟩
theorem ready_lg {now : Int} {kd : Kd} {k : Pk} : (P.ready i now k kd).1.lg = P.lg := by
  cases kd <;> simp only [Pa.ready] <;> split <;> rfl
theorem work_grow {now : Int} {fr : Bool} {kd : Kd} {k : Pk} : ∃ l, (P.work i now fr kd k).1.lg = P.lg ++ l := by
  unfold Pa.work
  cases fr with
  | false => rw [if_neg (by decide)]; exact step_grow
  | true =>
    rw [if_pos rfl]
    cases he : (P.ready i now k kd).2.2 with
    | true => simp only [he, if_true]; exact ⟨[], by rw [ready_lg]; simp⟩
    | false =>
      simp only [he, Bool.false_eq_true, if_false]
      obtain ⟨l, hl⟩ := step_grow (P := (P.ready i now k kd).1) (i := i) (now := now) (k := (P.ready i now k kd).2.1) (kd := kd)
      exact ⟨l, by rw [hl, ready_lg]⟩
/-- No slot in Free: none is free. -/
theorem none_free (h : Inv P b) (hh : ¬ P.A.has (firstOf (P.word 0))) : P.word 0 % 4294967296 = 0 ∧ ∀ s, P.A.has s → (P.A.st s).1 ≠ 0 := by
  obtain ⟨l, h1, h2, h3⟩ := h.fl
  have hns := h.ns
  have hw := h.w0.1
  have hf := firstOf_eq (h := P.word 0) (by omega)
  cases l with
  | nil =>
    refine ⟨h1, fun s hs h0 => ?_⟩
    have := (h3 s).2 ⟨hs, h0⟩
    simp at this
  | cons a l =>
    exfalso
    apply hh
    have := ((h3 a).1 (by simp)).1
    rw [hf, h1.1]
    rw [show a + 1 - 1 = a by omega]
    exact this
/-- A take that ends with nothing. -/
theorem take_lack (h : Inv P b) (hi : i < P.pts.length) {now : Int} {fr : Bool} {k : Pk} (hT : Tok P i fr .take k) (he : (P.work i now fr .take k).2.2 = true) (ht : (P.work i now fr .take k).2.1.tk = false) :
    (P.work i now fr .take k).1.lg = P.lg ++ [⟨now, i, 1, 0, 0, 0, P.word 0⟩] ∧ P.word 0 % 4294967296 = 0 ∧ (∀ s, P.A.has s → (P.A.st s).1 ≠ 0) ∧ P.A.cache i = [] ∧ (P.work i now fr .take k).1.A = P.A := by
  have key : ∀ k', Tok P i false .take k' → (P.stepP i now k' .take).2.2 = true → (P.stepP i now k' .take).2.1.tk = false → (P.stepP i now k' .take).1.lg = P.lg ++ [⟨now, i, 1, 0, 0, 0, P.word 0⟩] ∧ P.word 0 % 4294967296 = 0 ∧ (∀ s, P.A.has s → (P.A.st s).1 ≠ 0) ∧ P.A.cache i = [] ∧ (P.stepP i now k' .take).1.A = P.A := by
    intro k' hT' he' ht'
    obtain ⟨t0, t1⟩ := hT'
    simp only [Bool.false_eq_true, if_false] at t1
    obtain ⟨t1, t2⟩ := t1
    simp only [Pa.stepP] at he' ht' ⊢
    split at he'
    · rename_i h5
      rw [if_pos h5] at ht' ⊢
      split at he'
      · cases he'
      · rename_i hh
        rw [if_neg hh]
        obtain ⟨g1, g2⟩ := none_free h hh
        exact ⟨rfl, g1, g2, t1, rfl⟩
    · rename_i h5
      rw [if_neg h5] at ht'
      split at he'
      · cases he'
      · rename_i h6
        rw [if_neg h6] at ht'
        split at he'
        · rename_i hw
          rw [if_pos hw] at ht'
          cases ht'
        · cases he'
  unfold Pa.work at he ht ⊢
  cases fr with
  | false => rw [if_neg (by decide)] at he ht ⊢; exact key k hT he ht
  | true =>
    rw [if_pos rfl] at he ht ⊢
    cases hr : (P.ready i now k .take).2.2 with
    | true =>
      simp only [hr, if_true] at he ht ⊢
      simp only [Pa.ready] at hr ht
      split at hr
      · cases hr
      · rename_i hn
        rw [if_neg hn] at ht
        cases ht
    | false =>
      simp only [hr, Bool.false_eq_true, if_false] at he ht ⊢
      obtain ⟨e1, e2⟩ := ready_no h hi hT hr
      rw [e1] at he ht ⊢
      exact key _ e2 he ht
/-- Each Full has its load. -/
structure Hn (P : Pa) : Prop where
  sw : ∀ (j : Nat) (x : Cl), P.cls[j]? = some x → x.ak = 4 → Saw P.lg x.fin x.th
theorem Hn.step {bo : Int} (hI : Inv P b) (hO : On P bo) (hH : Hn P) {now : Int} {t : At} (ht : P.pts[i]? = some t) : Hn (P.step i t now).1 := by
  have hi : i < P.pts.length := (List.getElem?_eq_some_iff.1 ht).1
  cases hk : t.tk with
  | none => simp only [Pa.step, hk]; exact hH
  | some kk =>
    obtain ⟨kd, k⟩ := kk
    have hT := hI.th i t kd k ht hk
    obtain ⟨l, hl⟩ := work_grow (P := P) (i := i) (now := now) (fr := t.fr) (kd := kd) (k := k)
    have hcl : (P.work i now t.fr kd k).1.cls = P.cls := by
      unfold Pa.work
      cases hf : t.fr with
      | false =>
        rw [if_neg (by decide)]
        cases kd with
        | take => simp only [Pa.stepP]; (repeat' split) <;> rfl
        | give => rw [stepP_give]; unfold givP; simp only [Bool.false_eq_true, if_false]; (repeat' split) <;> rfl
        | flush => rw [stepP_flush]; unfold givP; simp only [if_true, Pa.next]; (repeat' split) <;> rfl
      | true =>
        rw [if_pos rfl]
        have r0 : (P.ready i now k kd).1.cls = P.cls := by cases kd <;> simp only [Pa.ready] <;> split <;> rfl
        cases he : (P.ready i now k kd).2.2 with
        | true => simp only [he, if_true]; exact r0
        | false =>
          simp only [he, Bool.false_eq_true, if_false]
          generalize (P.ready i now k kd).1 = P1 at *
          rw [← r0]
          generalize (P.ready i now k kd).2.1 = k1 at *
          cases kd with
          | take => simp only [Pa.stepP]; (repeat' split) <;> rfl
          | give => rw [stepP_give]; unfold givP; simp only [Bool.false_eq_true, if_false]; (repeat' split) <;> rfl
          | flush => rw [stepP_flush]; unfold givP; simp only [if_true, Pa.next]; (repeat' split) <;> rfl
    obtain ⟨c, z, h1, h2, h3, h4, h5, h6⟩ := hO.th i t kd k ht hk
    have hc : t.call.toNat = c := by omega
    simp only [Pa.step, hk]
    cases he : (P.work i now t.fr kd k).2.2 with
    | true =>
      simp only [if_true]
      refine ⟨fun j x hx h4' => ?_⟩
      have hx' : (Pa.setC (P.work i now t.fr kd k).1.cls t.call.toNat now (Pa.answer kd (P.work i now t.fr kd k).2.1).1 (Pa.answer kd (P.work i now t.fr kd k).2.1).2)[j]? = some x := hx
      rw [hcl, hc, setC_get h2] at hx'
      show Saw (P.work i now t.fr kd k).1.lg x.fin x.th
      split at hx'
      · cases hx'
        have ha : (Pa.answer kd (P.work i now t.fr kd k).2.1).1 = 4 := h4'
        cases kd with
        | take =>
          have htk : (P.work i now t.fr .take k).2.1.tk = false := by
            cases hh : (P.work i now t.fr .take k).2.1.tk with
            | false => rfl
            | true => simp [Pa.answer, hh] at ha
          obtain ⟨g1, g2, _⟩ := take_lack hI hi hT he htk
          rw [g1]
          refine ⟨P.lg.length, ⟨now, i, 1, 0, 0, 0, P.word 0⟩, by simp, rfl, ?_, rfl, rfl, g2⟩
          show (i : Int) = z.th
          omega
        | give => simp [Pa.answer] at ha
        | flush => simp [Pa.answer] at ha
      · rw [hl]
        exact (hH.sw j x hx' h4').more l
    | false =>
      simp only [Bool.false_eq_true, if_false]
      refine ⟨fun j x hx h4' => ?_⟩
      have hx' : (P.work i now t.fr kd k).1.cls[j]? = some x := hx
      rw [hcl] at hx'
      show Saw (P.work i now t.fr kd k).1.lg x.fin x.th
      rw [hl]
      exact (hH.sw j x hx' h4').more l
theorem Hn.begins (hH : Hn P) (op arg data now : Int) : Hn (P.begins i op arg data now).1 := by
  unfold Pa.begins
  split
  · refine ⟨fun j x hx h4 => ?_⟩
    have hx' : (P.cls ++ [⟨i, op, arg, data, now, -1, -1, 0, 0⟩])[j]? = some x := hx
    rw [List.getElem?_append] at hx'
    split at hx'
    · exact hH.sw j x hx' h4
    · have hl := (List.getElem?_eq_some_iff.1 hx').1
      simp at hl
      rw [hl] at hx'
      cases hx'
      cases h4
  · exact hH
theorem Hn.move (hH : Hn P) (hO : On P P.n) (h : Inv P P.n) (th op arg data : Int) : Hn (P.move th op arg data).1 := by
  have hc : Hn P.count := ⟨hH.sw⟩
  have hOc : On P.count P.n := ⟨hO.fin, hO.ok, hO.pair, hO.th⟩
  unfold Pa.move
  split
  · exact hH
  · split
    · split
      · exact hc
      · rename_i t ht
        split
        · exact Hn.step h.count hOc hc ht
        · split
          · exact hc
          · exact hc.begins op arg data _
    · exact hc
theorem Hn.play (ms : List Mv) : ∀ {P : Pa}, Hn P → On P P.n → Inv P P.n → Hn (P.play ms) := by
  induction ms with
  | nil => exact fun h _ _ => h
  | cons x ms ih => exact fun h hO hI => ih (h.move hO hI x.th x.op x.arg x.data) (hO.move hI x.th x.op x.arg x.data) (hI.move _ _ _ _)
theorem Hn.start (m K : Nat) (A : Ao) (nt : Nat) (ws : List Int) : Hn (Pa.new m K A nt ws) := ⟨fun j x hx => by simp [Pa.new] at hx⟩
/-- A thread's last call, if there is one. -/
def callAt (P : Pa) (i : Nat) : Option Cl := match P.pts[i]? with
  | none => none
  | some t => if t.call = -1 then none else P.cls[t.call.toNat]?
/-- A take that was busy and is so no more: what it answered. -/
theorem honest_move (h : Inv P P.n) (hO : On P P.n) (hB : busy P i = true) (op arg data : Int) (hB' : busy (P.move i op arg data).1 i = false) {x : Cl} (hx : callAt (P.move i op arg data).1 i = some x) (hop : x.op = 10) :
    x.ak = 2 ∨ (x.ak = 4 ∧ (∀ s, (P.move i op arg data).1.A.has s → ((P.move i op arg data).1.A.st s).1 ≠ 0) ∧ (P.move i op arg data).1.A.cache i = []) := by
  unfold busy at hB
  cases ht : P.pts[i]? with
  | none => rw [ht] at hB; cases hB
  | some t =>
    rw [ht] at hB
    have hi : i < P.pts.length := (List.getElem?_eq_some_iff.1 ht).1
    cases hk : t.tk with
    | none => simp [hk] at hB
    | some kk =>
      obtain ⟨kd, k⟩ := kk
      have hOc : On P.count P.n := ⟨hO.fin, hO.ok, hO.pair, hO.th⟩
      obtain ⟨c, z, h1, h2, h3, h4, h5, h6⟩ := hOc.th i t kd k ht hk
      have hbusy : busy P i = true := by simp [busy, ht, hk]
      by_cases hn : 65536 ≤ P.n
      · exfalso
        have : (P.move i op arg data).1 = P := by unfold Pa.move; rw [if_pos hn]
        rw [this, hbusy] at hB'
        cases hB'
      by_cases hop0 : op = 0
      · have e0 : (P.move i op arg data).1 = (P.count.step i t P.n).1 := by
          unfold Pa.move
          rw [if_neg hn, if_pos (by omega)]
          simp only [Int.toNat_natCast]
          rw [ht]
          simp [hop0]
        rw [e0] at hB' hx ⊢
        have hT := h.count.th i t kd k ht hk
        have hR := (work_core (P := P.count) (now := (P.n : Int)) h.count (by omega) hi hT).1
        have hE := work_ef (P := P.count) (now := (P.n : Int)) h.count hi hT
        simp only [Pa.step, hk] at hB' hx ⊢
        cases he : (P.count.work i P.n t.fr kd k).2.2 with
        | false =>
          exfalso
          have hr : i < (P.count.work i P.n t.fr kd k).1.pts.length := by rw [hR.pts]; exact hi
          simp [he, busy, hr] at hB'
        | true =>
          simp only [he, if_true] at hx ⊢
          have hr : i < (P.count.work i P.n t.fr kd k).1.pts.length := by rw [hR.pts]; exact hi
          have hc : t.call.toNat = c := by omega
          have e1 : callAt { (P.count.work i P.n t.fr kd k).1 with cls := Pa.setC (P.count.work i P.n t.fr kd k).1.cls t.call.toNat P.n (Pa.answer kd (P.count.work i P.n t.fr kd k).2.1).1 (Pa.answer kd (P.count.work i P.n t.fr kd k).2.1).2, pts := (P.count.work i P.n t.fr kd k).1.pts.set i ⟨none, false, t.call⟩ } i = some { z with fin := P.n, ak := (Pa.answer kd (P.count.work i P.n t.fr kd k).2.1).1, av := (Pa.answer kd (P.count.work i P.n t.fr kd k).2.1).2 } := by
            simp only [callAt, List.getElem?_set, if_true, hr]
            rw [if_neg (by omega), hR.cls, hc, setC_get h2, if_pos rfl]
          rw [e1] at hx
          cases hx
          have hz : z.op = 10 := hop
          have hkd : kd = .take := by
            cases kd with
            | take => rfl
            | give => have := h5.1; omega
            | flush => have : z.op = 12 := h5; omega
          subst hkd
          cases htk : (P.count.work i P.n t.fr .take k).2.1.tk with
          | true => left; simp [Pa.answer, htk]
          | false =>
            right
            obtain ⟨g1, g2, g3, g4, g5⟩ := take_lack (P := P.count) h.count hi hT he htk
            refine ⟨by simp [Pa.answer, htk], ?_, ?_⟩
            · show ∀ s, (P.count.work i P.n t.fr .take k).1.A.has s → ((P.count.work i P.n t.fr .take k).1.A.st s).1 ≠ 0
              rw [g5]
              exact g3
            · show (P.count.work i P.n t.fr .take k).1.A.cache i = []
              rw [g5]
              exact g4
      · exfalso
        have e0 : (P.move i op arg data).1 = P.count := by
          unfold Pa.move
          rw [if_neg hn, if_pos (by omega)]
          simp only [Int.toNat_natCast]
          rw [ht]
          simp [hop0, hk]
        rw [e0] at hB'
        have : busy P.count i = true := hbusy
        rw [this] at hB'
        cases hB'
/-- What the law's last loop has found among the first n accesses. -/
def swf (lg : List Acc) (e th : Int) : Nat → Bool
  | 0 => false
  | n + 1 => swf lg e th n || (match lg[n]? with
    | some a => a.mv == e && (a.th == th && (a.kd == 1 && (a.ad == 0 && decide (a.saw % 4294967296 = 0))))
    | none => false)
theorem swf_le {lg : List Acc} {e th : Int} {n : Nat} (h : swf lg e th n = true) (m : Nat) : swf lg e th (n + m) = true := by
  induction m with
  | zero => exact h
  | succ m ih => show (swf lg e th (n + m) || _) = true; rw [ih]; rfl
theorem swf_of {lg : List Acc} {e th : Int} (h : Saw lg e th) : swf lg e th lg.length = true := by
  obtain ⟨n, a, h1, h2, h3, h4, h5, h6⟩ := h
  have hg : n < lg.length := (List.getElem?_eq_some_iff.1 h1).1
  have : swf lg e th (n + 1) = true := by
    show (swf lg e th n || _) = true
    rw [h1]
    simp [h2, h3, h4, h5, h6]
  have := swf_le this (lg.length - (n + 1))
  rwa [show n + 1 + (lg.length - (n + 1)) = lg.length by omega] at this
end
end Go.Proofs.YtmmjdlbeiaoojaaGreat.Ar
