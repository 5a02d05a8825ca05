import Derived.Test.YtpknggcgojkjgaaGreatJ13
import Derived.Deep.RegionHeld3
import Derived.WalkKit
/-
  CENSUS: the judge's rows of monitors.
-/
namespace Go.Proofs.YtpknggcgojkjgaaGreat.Cn
open Go.RowKit Mr Md
set_option linter.unusedVariables false
set_option linter.unusedSimpArgs false
set_option maxRecDepth 100000
def jfv (g bj : Nat) : Fv := ⟨g, #[.pointer (some ⟨bj, 0, none⟩)], #[]⟩
theorem jargs (g bj : Nat) (e : Ev) : (jfv g bj).bd ++ #[e.val] ++ (jfv g bj).cb = #[.pointer (some ⟨bj, 0, none⟩), e.val] := rfl
section
variable (K : Jc) (sh : List Sx)
def jc (s : Jg) (e : Ev) : Jg := { s with cnt := updI s.cnt e.kd.toNat (s.cnt e.kd.toNat + 1) }
def jo (s : Jg) (e : Ev) : Jg := { jc s e with told := updI s.told e.kd.toNat (s.told e.kd.toNat + 1) }
def jst1 (s : Jg) (e : Ev) : Nat → Jg
  | 0 => s | 1 => jc s e | 2 => jc s e | 3 => jo s e | _ => { jo s e with busy := updB s.busy e.th.toNat true }
def jbb1 (s : Jg) (e : Ev) : Nat → Bool
  | 0 => true | 1 => e.th == s.thr | 2 => e.nb == s.told e.kd.toNat | _ => !s.busy e.th.toNat
def sxAt (e : Ev) : Sx := sh[e.nb.toNat]?.getD ⟨0, 0, 0, 0, 0⟩
def jst3 (s : Jg) (e : Ev) : Nat → Jg
  | 0 => s | 1 => jc s e | 2 => jc s e | 3 => jo s e | 4 => jo s e | _ => if shiftB (K.c 5) s.sl (sxAt sh e) then { jo s e with sl := s.sl.turn (sxAt sh e) } else jo s e
def jbb3 (s : Jg) (e : Ev) : Nat → Bool
  | 0 => true | 1 => e.th == s.thr | 2 => e.nb == s.told e.kd.toNat | 3 => inCallB K s e.th | _ => shiftB (K.c 5) s.sl (sxAt sh e)
end
def rowM {σ : Type} (st : Nat → σ) (bb : Nat → Bool) (n : Nat) : σ × Bool := (st (stopAt bb n), allB bb n)
def Bd (i : Nat) (s : Jg) : Prop := ∀ k, k < 6 → (0 ≤ s.cnt k ∧ s.cnt k ≤ (i : Int)) ∧ 0 ≤ s.told k ∧ s.told k ≤ (i : Int)
theorem bd_up {i k : Nat} {f : Nat → Int} (h : ∀ j, j < 6 → 0 ≤ f j ∧ f j ≤ (i : Int)) (hk : k < 6) : ∀ j, j < 6 → 0 ≤ updI f k (f k + 1) j ∧ updI f k (f k + 1) j ≤ ((i + 1 : Nat) : Int) := by
  intro j hj
  unfold updI
  by_cases e : j = k
  · subst e; rw [if_pos rfl]; have := h j hj; omega
  · rw [if_neg e]; have := h j hj; omega
theorem bd_le {i : Nat} {f : Nat → Int} (h : ∀ j, j < 6 → 0 ≤ f j ∧ f j ≤ (i : Int)) : ∀ j, j < 6 → 0 ≤ f j ∧ f j ≤ ((i + 1 : Nat) : Int) := fun j hj => by have := h j hj; omega
theorem Bd.jc {i : Nat} {s : Jg} (h : Bd i s) {e : Ev} (hk : e.kd.toNat < 6) : Bd (i + 1) (jc s e) := fun k hk' => ⟨bd_up (fun j hj => (h j hj).1) hk k hk', bd_le (fun j hj => (h j hj).2) k hk'⟩
theorem Bd.jo {i : Nat} {s : Jg} (h : Bd i s) {e : Ev} (hk : e.kd.toNat < 6) : Bd (i + 1) (jo s e) := fun k hk' => ⟨bd_up (fun j hj => (h j hj).1) hk k hk', bd_up (fun j hj => (h j hj).2) hk k hk'⟩
theorem Bd.next {i : Nat} {s : Jg} (h : Bd i s) : Bd (i + 1) s := fun k hk' => ⟨bd_le (fun j hj => (h j hj).1) k hk', bd_le (fun j hj => (h j hj).2) k hk'⟩
section
variable {w : World} {T T' : Nat → Prop} {K : Jc} {bj n g1 g2 gw : Nat} {cs : List Cq} {tr : List Ax} {sh : List Sx} {wl : List Int}
theorem js_of {bj : Nat} {a b : World} {k1 k2 k3 k4 : Nat} (h : Fr a b (fun k => k = bj)) : Fr a b (Js bj k1 k2 k3 k4) := h.mono (fun k e => .inl e)
theorem js_lt {s : Jg} (h : Jw w T K bj n g1 g2 gw cs tr sh wl s) : ∀ j, Js bj K.bs g1 g2 gw j → j < w.heap.size := by
  rintro j (rfl | rfl | rfl | rfl | rfl)
  · exact h.box.lt
  · exact h.sl.box.lt
  · exact h.sl.r1.lt
  · exact h.sl.r2.lt
  · exact h.wd.lt
theorem jopn_row {v0 v1 v2 v3 v4 v5 : Value} {s : Jg} (h : Jw w T K bj n g1 g2 gw cs tr sh wl s) (hr : Frow w T' v0 [jfv 60 bj, jfv 149 bj]) (hT' : ∀ j, T' j → ¬ Js bj K.bs g1 g2 gw j) (e : Ev) :
    Calls Tryz.prog 81 #[tabV v0 v1 v2 v3 v4 v5, (opn e).val] w fun r w' => r = .returned (.bool true) ∧ Jw w' T K bj n g1 g2 gw cs tr sh wl { s with cnt := fun _ => 0, thr := e.th } ∧ Fr w w' (Js bj K.bs g1 g2 gw) := by
  have := tell_any (k := 0) (e := opn e) (v0 := v0) (v1 := v1) (v2 := v2) (v3 := v3) (v4 := v4) (v5 := v5) rfl (by omega) (by simp) hr (js_lt h) hT' (fun _ => true) (fun i w => match i with | 0 => Jw w T K bj n g1 g2 gw cs tr sh wl s | 1 => Jw w T K bj n g1 g2 gw cs tr sh wl { s with cnt := fun _ => 0 } | _ => Jw w T K bj n g1 g2 gw cs tr sh wl { s with cnt := fun _ => 0, thr := e.th })
    (by
      rintro (_ | _ | i) w1 w2 hJ hB
      · exact Jw.below hJ hB
      · exact Jw.below hJ hB
      · exact Jw.below hJ hB)
    (by
      rintro (_ | _ | i) f hf
      · simp at hf; subst hf; exact enters_of Tryz.func60 (by kernel_rfl) rfl
      · simp at hf; subst hf; exact enters_of Tryz.func149 (by kernel_rfl) rfl
      · simp at hf)
    (by
      rintro (_ | _ | i) f hf ha w1 hJ hF
      · simp at hf; subst hf
        rw [jargs]
        refine (jstart_any (Jw.box hJ) (by omega) _).mono ?_
        rintro r w2 ⟨rfl, hb, hf⟩
        refine ⟨rfl, Jw.step hJ (hb.congr (fun k hk => ?_)) hf rfl rfl, js_of hf⟩
        unfold zero6 jf
        by_cases e6 : k < 6 <;> simp [e6]
      · simp at hf; subst hf
        rw [jargs]
        refine (jopen_any (Jw.box hJ) _).mono ?_
        rintro r w2 ⟨rfl, hb, hf⟩
        exact ⟨rfl, Jw.step hJ hb hf rfl rfl, js_of hf⟩
      · simp at hf) h
  refine this.mono ?_
  rintro r w' ⟨rfl, hJ, hF⟩
  exact ⟨rfl, hJ, hF⟩
theorem jcls_row {v0 v1 v2 v3 v4 v5 : Value} {s : Jg} (h : Jw w T K bj n g1 g2 gw cs tr sh wl s) (hb : ∀ k, k < 6 → 0 ≤ s.cnt k ∧ s.cnt k ≤ 1152921504606846976) (hr : Frow w T' v5 [jfv 157 bj]) (hT' : ∀ j, T' j → ¬ Js bj K.bs g1 g2 gw j) (e : Ev) :
    Calls Tryz.prog 81 #[tabV v0 v1 v2 v3 v4 v5, (cls e).val] w fun r w' => r = .returned (.bool (closeB s.cnt)) ∧ Jw w' T K bj n g1 g2 gw cs tr sh wl s ∧ Fr w w' (Js bj K.bs g1 g2 gw) := by
  have := tell_any (k := 5) (e := cls e) (v0 := v0) (v1 := v1) (v2 := v2) (v3 := v3) (v4 := v4) (v5 := v5) rfl (by omega) (by simp) hr (js_lt h) hT' (fun _ => closeB s.cnt) (fun i w => Jw w T K bj n g1 g2 gw cs tr sh wl s)
    (fun i w1 w2 hJ hB => Jw.below hJ hB)
    (by
      rintro (_ | i) f hf
      · simp at hf; subst hf; exact enters_of Tryz.func157 (by kernel_rfl) rfl
      · simp at hf)
    (by
      rintro (_ | i) f hf ha w1 hJ hF
      · simp at hf; subst hf
        rw [jargs]
        refine (jclose_any (Jw.box hJ) hb _).mono ?_
        rintro r w2 ⟨rfl, hb, hf⟩
        exact ⟨rfl, Jw.step hJ hb hf rfl rfl, js_of hf⟩
      · simp at hf) h
  refine this.mono ?_
  rintro r w' ⟨rfl, hJ, hF⟩
  exact ⟨by simp [allB], hJ, hF⟩
theorem jbeg_row {v0 v1 v2 v3 v4 v5 : Value} {s : Jg} {i : Nat} (h : Jw w T K bj n g1 g2 gw cs tr sh wl s) (hB : Bd i s) (hi : (i : Int) < 4611686018427387904) (hr : Frow w T' v1 [jfv 62 bj, jfv 150 bj, jfv 151 bj, jfv 152 bj]) (hT' : ∀ j, T' j → ¬ Js bj K.bs g1 g2 gw j) (e : Ev) (hk : e.kd = 1) (ht : 0 ≤ e.th ∧ e.th < 16) :
    Calls Tryz.prog 81 #[tabV v0 v1 v2 v3 v4 v5, e.val] w fun r w' => r = .returned (.bool (allB (jbb1 s e) 4)) ∧ Jw w' T K bj n g1 g2 gw cs tr sh wl (jst1 s e (stopAt (jbb1 s e) 4)) ∧ Fr w w' (Js bj K.bs g1 g2 gw) := by
  have hkn : e.kd.toNat = 1 := by omega
  have hb1 := hB 1 (by omega)
  have := tell_any (k := 1) (e := e) (v0 := v0) (v1 := v1) (v2 := v2) (v3 := v3) (v4 := v4) (v5 := v5) hk (by omega) (by simp) hr (js_lt h) hT' (jbb1 s e) (fun i w => Jw w T K bj n g1 g2 gw cs tr sh wl (jst1 s e i))
    (fun i w1 w2 hJ hB => Jw.below hJ hB)
    (by
      rintro (_ | _ | _ | _ | i) f hf
      · simp at hf; subst hf; exact enters_of Tryz.func62 (by kernel_rfl) rfl
      · simp at hf; subst hf; exact enters_of Tryz.func150 (by kernel_rfl) rfl
      · simp at hf; subst hf; exact enters_of Tryz.func151 (by kernel_rfl) rfl
      · simp at hf; subst hf; exact enters_of Tryz.func152 (by kernel_rfl) rfl
      · simp at hf)
    (by
      rintro (_ | _ | _ | _ | i) f hf ha w1 hJ hF
      · simp at hf; subst hf
        rw [jargs]
        refine (jcount_any (Jw.box hJ) (by omega) e 1 hk (by omega) (x := s.cnt 1) rfl hb1.1.1 (by omega)).mono ?_
        rintro r w2 ⟨rfl, hb, hf⟩
        refine ⟨rfl, Jw.step hJ (hb.congr ?_) hf rfl rfl, js_of hf⟩
        have := jf_cnt (K := K) (s := s) 1 (by omega) (s.cnt 1 + 1)
        show ∀ k, k < 44 → _ = jf K (jc s e) k
        unfold jc; rw [hkn]; exact this
      · simp at hf; subst hf
        rw [jargs]
        refine (jofOne_any (Jw.box hJ) e).mono ?_
        rintro r w2 ⟨rfl, hb, hf⟩
        exact ⟨rfl, Jw.step hJ hb hf rfl rfl, js_of hf⟩
      · simp at hf; subst hf
        rw [jargs]
        refine (jinOrder_any (Jw.box hJ) e 1 hk (by omega) hb1.2.1 (by show s.told 1 < _; omega)).mono ?_
        rintro r w2 ⟨rfl, hb, hf⟩
        refine ⟨by show _ = Ending.returned (.bool (e.nb == s.told e.kd.toNat)); rw [hkn]; rfl, Jw.step hJ ?_ hf rfl rfl, js_of hf⟩
        show Box w2 bj 44 (jf K (jo s e))
        unfold jo; rw [hkn]; exact hb
      · simp at hf; subst hf
        rw [jargs]
        refine (jbegin_any (Jw.box hJ) e e.th.toNat (by omega) (by omega)).mono ?_
        rintro r w2 ⟨rfl, hb, hf⟩
        exact ⟨rfl, Jw.step hJ hb hf rfl rfl, js_of hf⟩
      · simp at hf) h
  exact this
theorem jshf_row {v0 v1 v2 v3 v4 v5 : Value} {s : Jg} {i : Nat} (h : Jw w T K bj n g1 g2 gw cs tr sh wl s) (hB : Bd i s) (hi : (i : Int) < 4611686018427387904) (hc5 : K.c 5 = (n : Int)) (hc0 : K.c 0 ≤ 16) (hr : Frow w T' v3 [jfv 62 bj, jfv 150 bj, jfv 151 bj, jfv 153 bj, jfv 155 bj]) (hT' : ∀ j, T' j → ¬ Js bj K.bs g1 g2 gw j) (e : Ev) (hk : e.kd = 3) (m : Nat) (x : Sx) (hm : e.nb = (m : Int)) (hx : sh[m]? = some x) (hth : e.th = x.th) :
    Calls Tryz.prog 81 #[tabV v0 v1 v2 v3 v4 v5, e.val] w fun r w' => r = .returned (.bool (allB (jbb3 K sh s e) 5)) ∧ Jw w' T K bj n g1 g2 gw cs tr sh wl (jst3 K sh s e (stopAt (jbb3 K sh s e) 5)) ∧ Fr w w' (Js bj K.bs g1 g2 gw) := by
  have hkn : e.kd.toNat = 3 := by omega
  have hb1 := hB 3 (by omega)
  have hxa : sxAt sh e = x := by unfold sxAt; rw [hm, Int.toNat_natCast, hx]; rfl
  have := tell_any (k := 3) (e := e) (v0 := v0) (v1 := v1) (v2 := v2) (v3 := v3) (v4 := v4) (v5 := v5) hk (by omega) (by simp) hr (js_lt h) hT' (jbb3 K sh s e) (fun i w => Jw w T K bj n g1 g2 gw cs tr sh wl (jst3 K sh s e i))
    (fun i w1 w2 hJ hB => Jw.below hJ hB)
    (by
      rintro (_ | _ | _ | _ | _ | i) f hf
      · simp at hf; subst hf; exact enters_of Tryz.func62 (by kernel_rfl) rfl
      · simp at hf; subst hf; exact enters_of Tryz.func150 (by kernel_rfl) rfl
      · simp at hf; subst hf; exact enters_of Tryz.func151 (by kernel_rfl) rfl
      · simp at hf; subst hf; exact enters_of Tryz.func153 (by kernel_rfl) rfl
      · simp at hf; subst hf; exact enters_of Tryz.func155 (by kernel_rfl) rfl
      · simp at hf)
    (by
      rintro (_ | _ | _ | _ | _ | i) f hf ha w1 hJ hF
      · simp at hf; subst hf
        rw [jargs]
        refine (jcount_any (Jw.box hJ) (by omega) e 3 hk (by omega) (x := s.cnt 3) rfl hb1.1.1 (by omega)).mono ?_
        rintro r w2 ⟨rfl, hb, hf⟩
        refine ⟨rfl, Jw.step hJ (hb.congr ?_) hf rfl rfl, js_of hf⟩
        have := jf_cnt (K := K) (s := s) 3 (by omega) (s.cnt 3 + 1)
        show ∀ k, k < 44 → _ = jf K (jc s e) k
        unfold jc; rw [hkn]; exact this
      · simp at hf; subst hf
        rw [jargs]
        refine (jofOne_any (Jw.box hJ) e).mono ?_
        rintro r w2 ⟨rfl, hb, hf⟩
        exact ⟨rfl, Jw.step hJ hb hf rfl rfl, js_of hf⟩
      · simp at hf; subst hf
        rw [jargs]
        refine (jinOrder_any (Jw.box hJ) e 3 hk (by omega) hb1.2.1 (by show s.told 3 < _; omega)).mono ?_
        rintro r w2 ⟨rfl, hb, hf⟩
        refine ⟨by show _ = Ending.returned (.bool (e.nb == s.told e.kd.toNat)); rw [hkn]; rfl, Jw.step hJ ?_ hf rfl rfl, js_of hf⟩
        show Box w2 bj 44 (jf K (jo s e))
        unfold jo; rw [hkn]; exact hb
      · simp at hf; subst hf
        rw [jargs]
        refine (jinCall_any (Jw.box hJ) hc0 e).mono ?_
        rintro r w2 ⟨rfl, hb, hf⟩
        exact ⟨rfl, Jw.step hJ hb hf rfl rfl, js_of hf⟩
      · simp at hf; subst hf
        rw [jargs]
        have hin : inCallB K s e.th = true := allB_lt ha 3 (by omega)
        unfold inCallB at hin
        simp only [Bool.and_eq_true, decide_eq_true_eq] at hin
        refine (jshift_any hJ hc5 e m hm x hx (by rw [← hth]; omega)).mono ?_
        rintro r w2 ⟨rfl, hb, hf⟩
        refine ⟨?_, ?_, hf⟩
        · show _ = Ending.returned (.bool (shiftB (K.c 5) s.sl (sxAt sh e))); rw [hxa]; rfl
        · show Jw w2 T K bj n g1 g2 gw cs tr sh wl (if shiftB (K.c 5) s.sl (sxAt sh e) then { jo s e with sl := s.sl.turn (sxAt sh e) } else jo s e)
          rw [hxa]; exact hb
      · simp at hf) h
  exact this
end
end Go.Proofs.YtpknggcgojkjgaaGreat.Cn
/-
  A REGION THAT DRAWS, with several operations that make memory and may come in any order: walked by the set of those that are done, not by their orders.
-/
namespace Go.Proofs.YtpknggcgojkjgaaGreat.Cn
open Go.RowKit
set_option linter.unusedVariables false
def subs : List Nat → List (List Nat)
  | [] => [[]]
  | i :: l => subs l ++ (subs l).map (i :: ·)
theorem subs_filter (p : Nat → Bool) : ∀ l : List Nat, l.filter p ∈ subs l
  | [] => by simp [subs]
  | i :: l => by
    have := subs_filter p l
    by_cases h : p i = true
    · rw [List.filter_cons_of_pos h, subs, List.mem_append]; right; exact List.mem_map.2 ⟨_, this, rfl⟩
    · rw [List.filter_cons_of_neg h, subs, List.mem_append]; left; exact this
def setAll (L : Array Bool) (d : List Nat) : Array Bool := d.foldl (fun L i => L.setIfInBounds i true) L
theorem setAll_size (L : Array Bool) : ∀ d : List Nat, (setAll L d).size = L.size := by
  intro d
  induction d generalizing L with
  | nil => rfl
  | cons i d ih => unfold setAll at *; rw [List.foldl_cons, ih]; simp
theorem setAll_get (L : Array Bool) (k : Nat) : ∀ d : List Nat, (setAll L d)[k]? = if k < L.size then (if k ∈ d then some true else L[k]?) else none := by
  intro d
  induction d generalizing L with
  | nil => unfold setAll; simp only [List.foldl_nil]; by_cases h : k < L.size <;> simp [h]
  | cons i d ih =>
    have h1 := ih (L.setIfInBounds i true)
    unfold setAll at *
    rw [List.foldl_cons, h1]
    by_cases h : k < L.size
    · by_cases hd : k ∈ d
      · simp [h, hd]
      · by_cases hi : i = k
        · subst hi; simp [h]
        · have : k ≠ i := fun e => hi e.symm
          rw [Array.getElem?_setIfInBounds_ne hi]; simp [h, hd, this]
    · simp [h]
theorem setAll_ext (L : Array Bool) {d e : List Nat} (h : ∀ k, k ∈ d ↔ k ∈ e) : setAll L d = setAll L e := by
  apply Array.ext_getElem?
  intro k
  rw [setAll_get, setAll_get]
  simp only [h]
theorem setAll_snoc (L : Array Bool) (d : List Nat) (i : Nat) : (setAll L d).setIfInBounds i true = setAll L (d ++ [i]) := by unfold setAll; rw [List.foldl_append]; rfl
/-- While not all of al are done only those of al come up, each behind those that it needs. -/
def chk (md : Region.Mode) (ops : Array Oper) (L : Array Bool) (al : List Nat) (dep : Nat → List Nat) : Bool :=
  (subs al).all fun d => d.length == al.length || (!(Region.ready md ops (setAll L d)).isEmpty && (Region.ready md ops (setAll L d)).all fun i => al.contains i && !d.contains i && (dep i).all d.contains)
def upd (x : Nat → Value) (i : Nat) (y : Value) : Nat → Value := fun j => if j = i then y else x j
theorem upd_self (x : Nat → Value) (i : Nat) (y : Value) : upd x i y i = y := by simp [upd]
theorem upd_ne (x : Nat → Value) {i j : Nat} (y : Value) (h : j ≠ i) : upd x i y j = x j := by simp [upd, h]
theorem filter_full {p : Nat → Bool} {l : List Nat} (h : (l.filter p).length = l.length) : ∀ i ∈ l, p i = true := by
  have := List.length_filter_eq_length_iff.1 h
  exact this
section
variable {P : Program} {ops : Array Oper} {Q : Exit → Act → World → Prop} {md : Region.Mode} {S : World → Prop}
theorem wpAnyH_float {al : List Nat} {dep : Nat → List Nat} {L : Array Bool} (hnd : al.Nodup) (hchk : chk md ops L al dep = true) (A : (Nat → Value) → Act) (Φ : Nat → Value → World → Prop) (G : World → Prop)
    (hstep : ∀ i ∈ al, ∀ (x : Nat → Value) (d : List Nat) (w : World), S w → G w → (∀ j ∈ d, Φ j (x j) w) → (∀ j ∈ dep i, j ∈ d) → ∀ K : Act → World → Prop, (∀ y w', S w' → G w' → (∀ j ∈ d, Φ j (x j) w') → Φ i y w' → K (A (upd x i y)) w') → wpOp P ops Q i K (A x) w)
    {fuel : Nat} (hend : ∀ (x : Nat → Value) (w : World), S w → G w → (∀ j ∈ al, Φ j (x j) w) → wpAnyH P md ops Q S fuel (setAll L al) (A x) w) :
    ∀ (n : Nat) (p : Nat → Bool) (x : Nat → Value) (w : World), n = al.length - (al.filter p).length → S w → G w → (∀ j ∈ al.filter p, Φ j (x j) w) → wpAnyH P md ops Q S (fuel + n) (setAll L (al.filter p)) (A x) w := by
  intro n
  induction n with
  | zero =>
    intro p x w hn hS hG hΦ
    have hle := List.length_filter_le p al
    have hf := filter_full (p := p) (l := al) (by omega)
    have he : al.filter p = al := List.filter_eq_self.2 hf
    rw [he] at hΦ ⊢
    exact hend x w hS hG hΦ
  | succ n ih =>
    intro p x w hn hS hG hΦ
    have h1 := List.all_eq_true.1 hchk _ (subs_filter p al)
    have hlt : ¬ (al.filter p).length = al.length := by omega
    simp only [Bool.or_eq_true, beq_iff_eq, hlt, false_or, Bool.and_eq_true, List.all_eq_true] at h1
    refine ⟨fun h0 => by rw [h0] at h1; simp at h1, fun i hi => ?_⟩
    have h2 := h1.2 i hi
    have hia : i ∈ al := by simpa using h2.1.1
    have hid : i ∉ al.filter p := fun hm => by have h3 := h2.1.2; rw [Bool.not_eq_true', List.contains_eq_mem, decide_eq_false_iff_not] at h3; exact h3 hm
    have hde : ∀ j ∈ dep i, j ∈ al.filter p := fun j hj => by simpa using h2.2 j hj
    refine hstep i hia x (al.filter p) w hS hG hΦ hde _ (fun y w' hS' hG' hΦ' hy => ⟨hS', ?_⟩)
    have hpi : p i = false := by
      cases h : p i with
      | false => rfl
      | true => exact absurd (List.mem_filter.2 ⟨hia, h⟩) hid
    have hmem : ∀ k, k ∈ al.filter p ++ [i] ↔ k ∈ al.filter (fun j => p j || decide (j = i)) := by
      intro k
      simp only [List.mem_append, List.mem_filter, List.mem_singleton, Bool.or_eq_true, decide_eq_true_eq]
      constructor
      · rintro (⟨h, h'⟩ | rfl)
        · exact ⟨h, .inl h'⟩
        · exact ⟨hia, .inr rfl⟩
      · rintro ⟨h, h' | h'⟩
        · exact .inl ⟨h, h'⟩
        · exact .inr h'
    rw [setAll_snoc, setAll_ext L hmem]
    refine ih _ (upd x i y) w' ?_ hS' hG' (fun j hj => ?_)
    · have : (al.filter (fun j => p j || decide (j = i))).length = (al.filter p).length + 1 := by
        clear ih hstep hend hΦ hΦ' h1 h2 hmem hid hde hchk hn hlt hi
        induction al with
        | nil => simp at hia
        | cons a l ihl =>
          have hn2 := List.nodup_cons.1 hnd
          by_cases hai : a = i
          · subst hai
            have : l.filter (fun j => p j || decide (j = a)) = l.filter p := by
              apply List.filter_congr
              intro j hj
              have : j ≠ a := fun e => hn2.1 (e ▸ hj)
              simp [this]
            rw [List.filter_cons_of_pos (by simp), List.filter_cons_of_neg (by simp [hpi]), this]
            rfl
          · have hil : i ∈ l := by
              rcases List.mem_cons.1 hia with e | h
              · exact absurd e.symm hai
              · exact h
            have := ihl hn2.2 hil
            by_cases hpa : p a = true
            · rw [List.filter_cons_of_pos (by simp [hpa]), List.filter_cons_of_pos hpa]; simp [this]
            · rw [List.filter_cons_of_neg (by simp [hpa, hai]), List.filter_cons_of_neg hpa]; exact this
      omega
    · rcases List.mem_append.1 ((hmem j).2 hj) with h | h
      · have hji : j ≠ i := fun e => hid (e ▸ h)
        rw [upd_ne x y hji]; exact hΦ' j h
      · simp at h; subst h; rw [upd_self]; exact hy
/-- From the beginning. -/
theorem wpAnyH_floats {al : List Nat} {dep : Nat → List Nat} {L : Array Bool} {n fuel : Nat} (hnd : al.Nodup) (hchk : chk md ops L al dep = true) (hn : n = fuel + al.length) (A : (Nat → Value) → Act) (Φ : Nat → Value → World → Prop) (G : World → Prop) (x : Nat → Value) (w : World) (hS : S w) (hG : G w)
    (hstep : ∀ i ∈ al, ∀ (x : Nat → Value) (d : List Nat) (w : World), S w → G w → (∀ j ∈ d, Φ j (x j) w) → (∀ j ∈ dep i, j ∈ d) → ∀ K : Act → World → Prop, (∀ y w', S w' → G w' → (∀ j ∈ d, Φ j (x j) w') → Φ i y w' → K (A (upd x i y)) w') → wpOp P ops Q i K (A x) w)
    (hend : ∀ (x : Nat → Value) (w : World), S w → G w → (∀ j ∈ al, Φ j (x j) w) → wpAnyH P md ops Q S fuel (setAll L al) (A x) w) : wpAnyH P md ops Q S n L (A x) w := by
  have hf : al.filter (fun _ => false) = [] := by simp
  have := wpAnyH_float hnd hchk A Φ G hstep hend al.length (fun _ => false) x w (by rw [hf]; simp) hS hG (by rw [hf]; simp)
  rw [hf] at this
  rw [hn]
  exact this
end
end Go.Proofs.YtpknggcgojkjgaaGreat.Cn
