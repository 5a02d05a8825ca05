import Derived.Test.YtpknggcgojkjgaaGreatJ11
import Derived.Test.YtpknggcgojkjgaaGreatJ12
import Derived.Deep.RegionWith
import Derived.Test.YtpknggcgojkjgaaGreatJ09
/-
  CENSUS: the judge, its slots, its words and the run, in the world; shift.
-/
namespace Go.Proofs.YtpknggcgojkjgaaGreat.Cn
open Go.RowKit Mr Md
set_option linter.unusedVariables false
set_option linter.unusedSimpArgs false
set_option maxRecDepth 100000
/-- Cells that may be read and written. -/
structure Rw (w : World) (b n : Nat) (f : Nat → Value) : Prop where
  lt : b < w.heap.size
  cell : ∀ k, k < n → w.cell? ⟨b, k, none⟩ = some (f k)
  live : ∀ k, k < n → w.frozen? ⟨b, k, none⟩ = false
theorem Rw.kept {w w' : World} {b n : Nat} {f : Nat → Value} (h : Rw w b n f) (e : w'.heap[b]? = w.heap[b]?) (hs : w.heap.size ≤ w'.heap.size) : Rw w' b n f :=
  ⟨Nat.lt_of_lt_of_le h.lt hs, fun k hk => by rw [← h.cell k hk]; simp [World.cell?, e], fun k hk => by rw [← h.live k hk]; simp [World.frozen?, e]⟩
theorem Rw.fr {w w' : World} {b n : Nat} {f : Nat → Value} {S : Nat → Prop} (h : Rw w b n f) (hf : Fr w w' S) (hS : ¬ S b) : Rw w' b n f := h.kept (hf.block b h.lt hS) hf.size
theorem Rw.below {w w' : World} {b n : Nat} {f : Nat → Value} (h : Rw w b n f) (hB : Below w.heap.size w w') : Rw w' b n f := h.kept (hB.block b h.lt) hB.size
def wdF (l : List Int) (k : Nat) : Value := .int .u64 (l[k]?.getD 0)
structure Jw (w : World) (T : Nat → Prop) (K : Jc) (bj n g1 g2 gw : Nat) (cs : List Cq) (tr : List Ax) (sh : List Sx) (wl : List Int) (s : Jg) : Prop where
  box : Box w bj 44 (jf K s)
  sl : Sw w n K.bs g1 g2 s.sl
  wd : Rw w gw s.wds.length (wdF s.wds)
  run : RunAt w T K.v0 K.v1 K.v2 K.v3 cs tr sh wl
  hT : ∀ k, T k → ¬ Js bj K.bs g1 g2 gw k
  e0 : bj ≠ K.bs
  e1 : bj ≠ g1
  e2 : bj ≠ g2
  e3 : bj ≠ gw
  e4 : gw ≠ K.bs
  e5 : gw ≠ g1
  e6 : gw ≠ g2
  ok : s.sl.Ok n
section
variable {w w' : World} {T : Nat → Prop} {K : Jc} {bj n g1 g2 gw : Nat} {cs : List Cq} {tr : List Ax} {sh : List Sx} {wl : List Int} {s s' : Jg}
theorem Jw.below (h : Jw w T K bj n g1 g2 gw cs tr sh wl s) (hB : Below w.heap.size w w') : Jw w' T K bj n g1 g2 gw cs tr sh wl s :=
  ⟨h.box.below hB, h.sl.below hB, h.wd.below hB, h.run.below hB, h.hT, h.e0, h.e1, h.e2, h.e3, h.e4, h.e5, h.e6, h.ok⟩
theorem Jw.step (h : Jw w T K bj n g1 g2 gw cs tr sh wl s) (hb : Box w' bj 44 (jf K s')) (hf : Fr w w' (fun k => k = bj)) (h1 : s'.sl = s.sl) (h2 : s'.wds = s.wds) : Jw w' T K bj n g1 g2 gw cs tr sh wl s' :=
  ⟨hb, by rw [h1]; exact h.sl.fr hf (fun e => h.e0 e.symm) (fun e => h.e1 e.symm) (fun e => h.e2 e.symm), by rw [h2]; exact h.wd.fr hf (fun e => h.e3 e.symm), h.run.fr hf (fun k hk _ e => h.hT k hk (.inl e)), h.hT, h.e0, h.e1, h.e2, h.e3, h.e4, h.e5, h.e6, by rw [h1]; exact h.ok⟩
theorem Jw.turned (h : Jw w T K bj n g1 g2 gw cs tr sh wl s) {sk : Sk} (hs : Sw w' n K.bs g1 g2 sk) (hf : Fr w w' (fun k => k = K.bs ∨ k = g1 ∨ k = g2)) (ho : sk.Ok n) : Jw w' T K bj n g1 g2 gw cs tr sh wl { s with sl := sk } :=
  ⟨(h.box.fr hf (fun e => by rcases e with e | e | e; exact h.e0 e; exact h.e1 e; exact h.e2 e)).congr (fun k hk => rfl), hs, h.wd.fr hf (fun e => by rcases e with e | e | e; exact h.e4 e; exact h.e5 e; exact h.e6 e), h.run.fr hf (fun k hk _ e => h.hT k hk (by unfold Js; rcases e with e | e | e; exact .inr (.inl e); exact .inr (.inr (.inl e)); exact .inr (.inr (.inr (.inl e))))), h.hT, h.e0, h.e1, h.e2, h.e3, h.e4, h.e5, h.e6, ho⟩
end
theorem Fr.of_drew {a b : World} {S : Nat → Prop} (h : Fr a.drew b S) : Fr a b S := ⟨h.os, h.tape, h.output, h.size, h.block⟩
def shiftB (c5 : Int) (s : Sk) (x : Sx) : Bool := decide (0 ≤ x.slot) && decide (x.slot < c5) && (decide (0 ≤ x.to) && decide (x.to < 6)) && (x.fr == s.st x.slot.toNat)
set_option maxHeartbeats 16000000 in
theorem jshift_any {w : World} {T : Nat → Prop} {K : Jc} {bj n g1 g2 gw : Nat} {cs : List Cq} {tr : List Ax} {sh : List Sx} {wl : List Int} {s : Jg} (h : Jw w T K bj n g1 g2 gw cs tr sh wl s) (hc : K.c 5 = (n : Int)) (e : Ev) (m : Nat) (hm : e.nb = (m : Int)) (x : Sx) (hx : sh[m]? = some x) (hth : 0 ≤ x.th ∧ x.th < 16) :
    Calls Tryz.prog 155 #[.pointer (some ⟨bj, 0, none⟩), e.val] w fun r w' => r = .returned (.bool (shiftB (K.c 5) s.sl x)) ∧ Jw w' T K bj n g1 g2 gw cs tr sh wl (if shiftB (K.c 5) s.sl x then { s with sl := s.sl.turn x } else s) ∧ Fr w w' (Js bj K.bs g1 g2 gw) := by
  have A := Mr.hid (h.below ((Below.refl _ w).alloc (Nat.le_refl _) (evO e)))
  have F : Hid (Fr w (w.alloc (evO e)) (Js bj K.bs g1 g2 gw)) := (Fr.refl _ _).alloc _
  have hb : Hid ((w.alloc (evO e)).heap[w.heap.size]? = some (evO e)) := heap_alloc_new _ _
  have nb := ne_new h.box
  obtain ⟨r, hr⟩ : ∃ r, r = shiftB (K.c 5) s.sl x := ⟨_, rfl⟩
  rw [← hr]
  obtain ⟨a2, p2, hv2, hp2⟩ := h.run.shifts.form
  clear h hp2
  obtain ⟨kd, mv, th, nm⟩ := e
  simp only at hm
  subst hm
  unfold Ev.val
  unfold evO at A F hb
  replace hx := Mr.hid hx
  replace hr := Mr.hid hr
  go_enter Tryz.func155, Tryz.ntmps155
  go_upto_region 1 with (fail)
  generalize (w.alloc _) = wa at *
  generalize w.heap.size = B at *
  obtain ⟨b0, b1, b2, b3⟩ := evO_cells (e := ⟨kd, mv, th, (m : Int)⟩) hb.out
  have bl := (Array.getElem?_eq_some_iff.1 hb.out).1
  have al := A.out.box.lt
  have c16 := jb_16 A.out.box
  have hrow := A.out.run.shifts
  rw [hv2] at c16 hrow
  obtain ⟨bc, oc, rfl, hTb, X5⟩ := sx_at hrow hx.out
  obtain ⟨xl, x0, x1, x2, x3, x4⟩ := X5
  have hml : m < sh.length := (List.getElem?_eq_some_iff.1 hx.out).1
  have hmI : (m : Int) < (sh.length : Int) := by omega
  replace hrow := Mr.hid hrow
  replace hTb := Mr.hid hTb
  replace hv2 := Mr.hid hv2
  go_region
  have A2 : Hid (Jw ((wa.alloc (sxO x)).drew) T K bj n g1 g2 gw cs tr sh wl s) := A.out.below (((Below.refl _ wa).alloc (Nat.le_refl _) _).drew)
  have F2 : Hid (Fr w ((wa.alloc (sxO x)).drew) (Js bj K.bs g1 g2 gw)) := (F.out.alloc _).drew
  have hb2 : Hid (((wa.alloc (sxO x)).drew).heap[wa.heap.size]? = some (sxO x)) := heap_alloc_new _ _
  have nb2 := ne_new A.out.box
  clear b0 b1 b2 b3 bl al c16 xl x0 x1 x2 x3 x4 A F hb hmI hml
  unfold sxO at A2 F2 hb2
  generalize ((wa.alloc _).drew) = wb at *
  generalize wa.heap.size = B2 at *
  obtain ⟨bl, b0, b1, b2, b3, b4⟩ := sxO_cells (a := x) hb2.out
  simp only [Nat.zero_add] at b0 b1 b2 b3 b4
  have al := A2.out.box.lt
  have c11 := jb_c A2.out.box 5 (by omega)
  rw [hc] at c11
  have c20 := jb_20 A2.out.box
  have cl0 := A2.out.sl.c0
  have cl1 := A2.out.sl.r1.lt
  have CW := Mr.hid cwithin_any
  rw [hc] at hr
  replace hc := Mr.hid hc
  go_upto_region 2 with (fail)
  by_cases hsl : 0 ≤ x.slot ∧ x.slot < (n : Int)
  · obtain ⟨i, hi⟩ : ∃ i : Nat, x.slot = (i : Int) := ⟨x.slot.toNat, by omega⟩
    have hin : i < n := by omega
    have hiI : (i : Int) < (n : Int) := by omega
    have cst := A2.out.sl.r1.cell i hin
    unfold ntF at cst
    have sl0 := A2.out.sl.box.lt
    rw [hi] at b2
    have q1 : decide ((0 : Int) ≤ (i : Int)) = true := by simp
    have q2 : decide ((i : Int) < (n : Int)) = true := decide_eq_true hiI
    have q2' : decide (i < n) = true := decide_eq_true hin
    by_cases hto : 0 ≤ x.to ∧ x.to < 6
    · have q3 : decide (0 ≤ x.to) = true := decide_eq_true hto.1
      have q4 : decide (x.to < 6) = true := decide_eq_true hto.2
      by_cases hfr : x.fr = s.sl.st i
      · have q5 : (x.fr != s.sl.st i) = false := by simp [hfr]
        have q6 : (x.fr == s.sl.st i) = true := by simp [hfr]
        have hrt : r = true := by rw [hr.out]; unfold shiftB; rw [decide_eq_true hsl.1, decide_eq_true hsl.2, q3, q4, hi, Int.toNat_natCast, q6]; rfl
        have TN := Mr.hid (fun W (hW : Sw W n K.bs g1 g2 s.sl) => turn_any hW A2.out.ok x hsl hto hth)
        have OK := Mr.hid (turn_ok A2.out.ok hto hth)
        unfold Sx.val at TN
        replace hfr := Mr.hid hfr
        subst hrt
        replace hi := Mr.hid hi
        replace hsl := Mr.hid hsl
        replace hto := Mr.hid hto
        replace hth := Mr.hid hth
        go_quiet ((go_at_call 118; exact Calls.quiet_of_same (CW.out _ _ _)))
        have A3 := Mr.hid (A2.out.below (Bx.draws _ _ nq))
        have F3 := Mr.hid (Fr.drewN F2.out nq)
        have hb3 : Hid ((wb.drewN nq).heap[B2]? = some (sxO x)) := hb2.out
        clear A2 F2 hb2 b0 b1 b2 b3 b4 bl al c11 c20 cl0 cl1 cst sl0 q1 q2 q2' q3 q4 q5 q6
        generalize (World.drewN _ nq) = wc at *
        obtain ⟨bl, b0, b1, b2, b3, b4⟩ := sxO_cells hb3.out
        simp only [Nat.zero_add] at b0 b1 b2 b3 b4
        have al := A3.out.box.lt
        have c20 := jb_20 A3.out.box
        go_upto_region 4 with (fail)
        go_region_with (go_at_call 80; refine (TN.out _ A3.out.sl.drew).mono ?_; rintro e wd ⟨rfl, hA4, hF4⟩; replace hA4 := Mr.hid hA4; replace hF4 := Mr.hid hF4)
        all_goals
          go_wp2
          go_ret
          exact ⟨rfl, (A3.out.below (Bx.draws _ _ 1)).turned hA4.out hF4.out OK.out, F3.out.trans (Fr.mono (Fr.of_drew hF4.out) (fun k hk => .inl (by unfold Js; rcases hk with e | e | e; exact .inr (.inl e); exact .inr (.inr (.inl e)); exact .inr (.inr (.inr (.inl e))))))⟩
      · have q5 : (x.fr != s.sl.st i) = true := by simp [hfr]
        have q6 : (x.fr == s.sl.st i) = false := by simp [hfr]
        have hrf : r = false := by rw [hr.out]; unfold shiftB; rw [hi, Int.toNat_natCast, q6]; simp
        subst hrf
        replace hfr := Mr.hid hfr
        replace hi := Mr.hid hi
        replace hsl := Mr.hid hsl
        replace hto := Mr.hid hto
        go_quiet ((go_at_call 118; exact Calls.quiet_of_same (CW.out _ _ _)))
        have A3 := Mr.hid (A2.out.below (Bx.draws _ _ nq))
        have F3 := Mr.hid (Fr.drewN F2.out nq)
        generalize (World.drewN _ nq) = wc at *
        clear b0 b1 b2 b3 bl al c11 c20 cl0 cl1
        go_wp2
        go_ret
        exact ⟨rfl, A3.out, F3.out⟩
    · have hq : (decide (0 ≤ x.to) && decide (x.to < 6)) = false := by
        by_cases h0 : 0 ≤ x.to
        · have : ¬ x.to < 6 := fun h => hto ⟨h0, h⟩
          simp [this]
        · simp [h0]
      have hrf : r = false := by rw [hr.out]; unfold shiftB; rw [hq]; simp
      subst hrf
      replace hi := Mr.hid hi
      replace hsl := Mr.hid hsl
      replace hto := Mr.hid hto
      go_quiet ((go_at_call 118; exact Calls.quiet_of_same (CW.out _ _ _)))
      have A3 := Mr.hid (A2.out.below (Bx.draws _ _ nq))
      have F3 := Mr.hid (Fr.drewN F2.out nq)
      generalize (World.drewN _ nq) = wc at *
      clear b0 b1 b2 b3 bl al c11 c20 cl0 cl1
      go_wp2
      go_ret
      exact ⟨rfl, A3.out, F3.out⟩
  · have hq : (decide (0 ≤ x.slot) && decide (x.slot < (n : Int))) = false := by
      by_cases h0 : 0 ≤ x.slot
      · have : ¬ x.slot < (n : Int) := fun h => hsl ⟨h0, h⟩
        simp [this]
      · simp [h0]
    have hrf : r = false := by rw [hr.out]; unfold shiftB; rw [hq]; simp
    subst hrf
    replace hsl := Mr.hid hsl
    go_quiet ((go_at_call 118; exact Calls.quiet_of_same (CW.out _ _ _)))
    have A3 := Mr.hid (A2.out.below (Bx.draws _ _ nq))
    have F3 := Mr.hid (Fr.drewN F2.out nq)
    generalize (World.drewN _ nq) = wc at *
    clear b0 b1 b2 b3 bl al c11 c20 cl0 cl1
    go_wp2
    go_ret
    exact ⟨rfl, A3.out, F3.out⟩
end Go.Proofs.YtpknggcgojkjgaaGreat.Cn
/-
  CENSUS: table.watch, walked.
-/
namespace Go.Proofs.YtpknggcgojkjgaaGreat.Cn
open Go.RowKit Mr Md
set_option linter.unusedVariables false
set_option linter.unusedSimpArgs false
set_option maxRecDepth 100000
theorem evAt_of {es : List Ev} {i : Nat} {e : Ev} (h : es[i]? = some e) : evAt es i = e := by simp [evAt, h]
def Tl (w : World) (S : Nat → Prop) (V : Value) {σ : Type} (I I' : σ → World → Prop) (t : σ → Ev → σ × Bool) (e : Ev) : Prop :=
  ∀ s w1, I s w1 → Fr w w1 S → Calls Tryz.prog 81 #[V, e.val] w1 fun r w2 => r = .returned (.bool (t s e).2) ∧ I' (t s e).1 w2 ∧ Fr w1 w2 S
/-- What a round keeps. -/
structure Wk (w : World) (S : Nat → Prop) (V : Value) (ov : Obj) {σ : Type} (I : σ → World → Prop) (s : σ) (wr : World) : Prop where
  st : I s wr
  fr : Fr w wr S
  box : wr.heap[w.heap.size]? = some ov
theorem Wk.next {w wr w2 : World} {S : Nat → Prop} {V : Value} {ov : Obj} {σ : Type} {I I' : σ → World → Prop} {s s' : σ} (h : Wk w S V ov I s wr) (hS : ∀ j, S j → j < w.heap.size) (hi : I' s' w2) (hf : Fr wr w2 S) : Wk w S V ov I' s' w2 :=
  ⟨hi, h.fr.trans (hf.mono (fun j h => .inl h)), (hf.block _ (Array.getElem?_eq_some_iff.1 h.box).1 (fun k => by have := hS _ k; omega)).trans h.box⟩
theorem Wk.alloc {w wr : World} {S : Nat → Prop} {V : Value} {ov : Obj} {σ : Type} {I : σ → World → Prop} {s : σ} (h : Wk w S V ov I s wr) (hI : ∀ s w1 w2, I s w1 → Below w1.heap.size w1 w2 → I s w2) (o : Obj) : Wk w S V ov I s (wr.alloc o) :=
  ⟨hI _ _ _ h.st ((Below.refl _ _).alloc (Nat.le_refl _) o), h.fr.alloc o, old_at h.box o⟩
theorem Wk.drewN {w wr : World} {S : Nat → Prop} {V : Value} {ov : Obj} {σ : Type} {I : σ → World → Prop} {s : σ} (h : Wk w S V ov I s wr) (hI : ∀ s w1 w2, I s w1 → Below w1.heap.size w1 w2 → I s w2) (n : Nat) : Wk w S V ov I s (wr.drewN n) :=
  ⟨hI _ _ _ h.st (Bx.draws _ _ _), ⟨h.fr.os, h.fr.tape, h.fr.output, h.fr.size, h.fr.block⟩, h.box⟩
/-- What a round keeps within it. -/
structure Rk (w : World) (S T : Nat → Prop) (V : Value) (ov : Obj) {σ : Type} (I : σ → World → Prop) (s : σ) (a : Option Addr) (cap : Nat) (es : List Ev) (eb : Nat) (e : Ev) (wx : World) : Prop where
  wk : Wk w S V ov I s wx
  up : w.heap.size ≤ eb
  ebx : wx.heap[eb]? = some (evO e)
  row : Sl wx T 4 (.slice a es.length cap) es.length (evs es)
section
variable {w wx w2 : World} {S T : Nat → Prop} {V : Value} {ov : Obj} {σ : Type} {I I' : σ → World → Prop} {s s' : σ} {a : Option Addr} {cap : Nat} {es : List Ev} {eb : Nat} {e : Ev}
theorem Rk.next (h : Rk w S T V ov I s a cap es eb e wx) (hS : ∀ j, S j → j < w.heap.size) (hTS : ∀ j, T j → ¬ S j) (hi : I' s' w2) (hf : Fr wx w2 S) : Rk w S T V ov I' s' a cap es eb e w2 :=
  ⟨h.wk.next hS hi hf, h.up, (hf.block _ (Array.getElem?_eq_some_iff.1 h.ebx).1 (fun k => by have := hS _ k; have := h.up; omega)).trans h.ebx, h.row.fr hf (fun j hj _ => hTS j hj)⟩
theorem Rk.drewN (h : Rk w S T V ov I s a cap es eb e wx) (hI : ∀ s w1 w2, I s w1 → Below w1.heap.size w1 w2 → I s w2) (n : Nat) : Rk w S T V ov I s a cap es eb e (wx.drewN n) :=
  ⟨h.wk.drewN hI n, h.up, h.ebx, h.row.below (Bx.draws _ _ _)⟩
end
theorem tab_cells {wx : World} {b : Nat} {v0 v1 v2 v3 v4 v5 : Value} {t : TypeId} (h : wx.heap[b]? = some (.cells #[v0, v1, v2, v3, v4, v5] t (0, 0))) : wx.cell? ⟨b, 0, none⟩ = some v0 ∧ wx.cell? ⟨b, 1, none⟩ = some v1 ∧ wx.cell? ⟨b, 2, none⟩ = some v2 ∧ wx.cell? ⟨b, 3, none⟩ = some v3 ∧ wx.cell? ⟨b, 4, none⟩ = some v4 ∧ wx.cell? ⟨b, 5, none⟩ = some v5 := by
  exact ⟨by simp [World.cell?, h], by simp [World.cell?, h], by simp [World.cell?, h], by simp [World.cell?, h], by simp [World.cell?, h], by simp [World.cell?, h]⟩
section
variable {σ : Type} {M : Nat → σ → Ev → σ × Bool} {f l : Bool} {s s1 s2 s3 : σ} {e : Ev} {b : Bool}
theorem round_0 (hf : f = true) (h1 : M 0 s (opn e) = (s1, false)) : roundM M f l s e = (s1, false) := by subst hf; simp [roundM, h1]
theorem round_1 (h1 : (if f then M 0 s (opn e) else (s, true)) = (s1, true)) (h2 : M e.kd.toNat s1 e = (s2, false)) : roundM M f l s e = (s2, false) := by simp [roundM, h1, h2]
theorem round_2 (h1 : (if f then M 0 s (opn e) else (s, true)) = (s1, true)) (h2 : M e.kd.toNat s1 e = (s2, true)) (hl : l = true) (h3 : M 5 s2 (cls e) = (s3, b)) : roundM M f l s e = (s3, b) := by subst hl; simp [roundM, h1, h2, h3]
theorem round_3 (h1 : (if f then M 0 s (opn e) else (s, true)) = (s1, true)) (h2 : M e.kd.toNat s1 e = (s2, true)) (hl : l = false) : roundM M f l s e = (s2, true) := by subst hl; simp [roundM, h1, h2]
end
theorem fst_zero {es : List Ev} {i : Nat} (h : i = 0) : fstB es i = true := by simp [fstB, h]
theorem fst_pos {es : List Ev} {j : Nat} {p e : Ev} (hp : es[j]? = some p) (he : es[j + 1]? = some e) : fstB es (j + 1) = (p.mv != e.mv) := by simp [fstB, evAt, hp, he]
theorem lst_end {es : List Ev} {i : Nat} (h : i + 1 = es.length) : lstB es i = true := by simp [lstB, h]
theorem lst_in {es : List Ev} {i : Nat} {p e : Ev} (hp : es[i + 1]? = some p) (he : es[i]? = some e) : lstB es i = (p.mv != e.mv) := by
  have := (List.getElem?_eq_some_iff.1 hp).1
  have h2 : ¬ i + 1 = es.length := by omega
  simp [lstB, evAt, hp, he, h2]
set_option maxHeartbeats 16000000 in
theorem watch_any {σ : Type} {w : World} {S T : Nat → Prop} {v0 v1 v2 v3 v4 v5 v : Value} {es : List Ev} (hv : Sl w T 4 v es.length (evs es)) (hsm : es.length * 32 ≤ 281474976710656) (hS : ∀ j, S j → j < w.heap.size) (hTS : ∀ j, T j → ¬ S j) (I : Nat → σ → World → Prop) (hI : ∀ i s w1 w2, I i s w1 → Below w1.heap.size w1 w2 → I i s w2) (M : Nat → σ → Ev → σ × Bool)
    (hO : ∀ (i : Nat) (e : Ev), es[i]? = some e → Tl w S (tabV v0 v1 v2 v3 v4 v5) (I i) (I i) (M 0) (opn e)) (hM : ∀ (i : Nat) (e : Ev), es[i]? = some e → Tl w S (tabV v0 v1 v2 v3 v4 v5) (I i) (I (i + 1)) (M e.kd.toNat) e) (hE : ∀ (i : Nat) (e : Ev), es[i]? = some e → Tl w S (tabV v0 v1 v2 v3 v4 v5) (I (i + 1)) (I (i + 1)) (M 5) (cls e)) (s0 : σ) (h0 : I 0 s0 w) :
    Calls Tryz.prog 46 #[tabV v0 v1 v2 v3 v4 v5, v] w fun r w' => r = .returned (.bool (watchN M es s0 es.length).2) ∧ (∃ j, j ≤ es.length ∧ I j (watchN M es s0 es.length).1 w') ∧ Fr w w' S := by
  obtain ⟨a, cap, rfl, hcap⟩ := hv.form
  obtain ⟨n, hn⟩ : ∃ n, n = es.length := ⟨_, rfl⟩
  rw [← hn]
  rw [← hn] at hsm
  replace hcap := Mr.hid hcap
  replace hv := Mr.hid hv
  replace hS := Mr.hid hS
  replace hTS := Mr.hid hTS
  replace hI := Mr.hid hI
  replace hO := Mr.hid hO
  replace hM := Mr.hid hM
  replace hE := Mr.hid hE
  replace hn := Mr.hid hn
  have hW0 : Hid (Wk w S (tabV v0 v1 v2 v3 v4 v5) (.cells #[v0, v1, v2, v3, v4, v5] 91 (0, 0)) (I 0) s0 (w.alloc (.cells #[v0, v1, v2, v3, v4, v5] 91 (0, 0)))) :=
    ⟨hI.out _ _ _ _ h0 ((Below.refl _ _).alloc (Nat.le_refl _) _), (Fr.refl _ _).alloc _, heap_alloc_new _ _⟩
  clear h0
  unfold tabV
  go_enter Tryz.func46, Tryz.ntmps46
  go_wp2
  go_loopg [9] n (fun gk s9 wr => ∃ i : Nat, s9 = .int .i64 (i : Int) ∧ i + gk = n ∧ Hid ((watchN M es s0 i).2 = true) ∧ Hid (Wk w S (tabV v0 v1 v2 v3 v4 v5) (.cells #[v0, v1, v2, v3, v4, v5] 91 (0, 0)) (I i) (watchN M es s0 i).1 wr))
  case atStart => exact ⟨0, rfl, by omega, Mr.hid rfl, hW0⟩
  case round =>
    clear hW0
    obtain ⟨i, rfl, hgk, HB, HW⟩ := hrel
    by_cases hlt : i < n
    · obtain ⟨e, he⟩ : ∃ e, es[i]? = some e := ⟨es[i]'(by have := hn.out; omega), List.getElem?_eq_getElem _⟩
      have hem : e ∈ es := List.mem_of_getElem? he
      have HO := hO.out i e he
      have HM := hM.out i e he
      have HE := hE.out i e he
      have hea := evAt_of he
      have hlI : (i : Int) < (n : Int) := by omega
      have hSl : Sl wr T 4 (.slice a es.length cap) es.length (evs es) := hv.out.fr HW.out.fr (fun j hj _ => hTS.out j hj)
      obtain ⟨b, o, rfl, A4⟩ := ev_at hSl he
      obtain ⟨hbl, g0, g1, g2, g3⟩ := A4
      have hvb : Hid (b < w.heap.size ∧ ¬ S b) := by
        obtain ⟨b', o', cap', e1, _, hT, hl, _⟩ := hv.out.there (by have := hn.out; omega)
        cases e1
        exact ⟨hl, hTS.out _ hT⟩
      have hstep : watchN M es s0 (i + 1) = roundM M (fstB es i) (lstB es i) (watchN M es s0 i).1 e := by
        rw [watchN, if_neg (by rw [HB.out]; decide), hea]
      have hw1 : IntKind.i64.wrap ((i : Int) + 1) = (i : Int) + 1 := by simp [IntKind.wrap, IntKind.signed, IntKind.bits]; omega
      obtain ⟨s, hs⟩ : ∃ s, s = (watchN M es s0 i).1 := ⟨_, rfl⟩
      rw [← hs] at HW hstep
      have hkb : w.heap.size < wr.heap.size := (Array.getElem?_eq_some_iff.1 HW.out.box).1
      have tb := HW.out.box
      replace tb := Mr.hid tb
      clear hea
      have HO2 : Hid (∀ s w1, I i s w1 → Fr w w1 S → Calls Tryz.prog 81 #[.agg #[v0, v1, v2, v3, v4, v5], .agg #[.int .i64 0, .int .i64 e.mv, .int .i64 e.th, .int .i64 0]] w1 fun r w2 => r = .returned (.bool (M 0 s (opn e)).2) ∧ I i (M 0 s (opn e)).1 w2 ∧ Fr w1 w2 S) := HO
      have HM2 : Hid (∀ s w1, I i s w1 → Fr w w1 S → Calls Tryz.prog 81 #[.agg #[v0, v1, v2, v3, v4, v5], .agg #[.int .i64 e.kd, .int .i64 e.mv, .int .i64 e.th, .int .i64 e.nb]] w1 fun r w2 => r = .returned (.bool (M e.kd.toNat s e).2) ∧ I (i + 1) (M e.kd.toNat s e).1 w2 ∧ Fr w1 w2 S) := HM
      have HE2 : Hid (∀ s w1, I (i + 1) s w1 → Fr w w1 S → Calls Tryz.prog 81 #[.agg #[v0, v1, v2, v3, v4, v5], .agg #[.int .i64 5, .int .i64 e.mv, .int .i64 e.th, .int .i64 0]] w1 fun r w2 => r = .returned (.bool (M 5 s (cls e)).2) ∧ I (i + 1) (M 5 s (cls e)).1 w2 ∧ Fr w1 w2 S) := HE
      clear HO HM HE
      have R0 : Hid (Rk w S T (tabV v0 v1 v2 v3 v4 v5) (.cells #[v0, v1, v2, v3, v4, v5] 91 (0, 0)) (I i) s (some ⟨b, o, none⟩) cap es wr.heap.size e (wr.alloc (evO e))) :=
        Mr.hid ⟨HW.out.alloc (hI.out _) _, HW.out.fr.size, new_at _ _ _ rfl, hSl.below ((Below.refl _ _).alloc (Nat.le_refl _) _)⟩
      unfold evO at R0
      replace he := Mr.hid he
      replace hem := Mr.hid hem
      replace hs := Mr.hid hs
      replace hstep := Mr.hid hstep
      replace hSl := Mr.hid hSl
      go_upto_region 4 with (fail)
      clear g0 g1 g2 g3 tb hSl hkb hbl
      generalize (wr.alloc _) = wa at *
      have hrl : wr.heap.size = wr.heap.size := rfl
      generalize wr.heap.size = eb at *
      clear hrl HW
      rcases Nat.eq_zero_or_pos i with hi0 | hi0
      · have q1 : ((i : Int) == 0) = true := by simp [hi0]
        have hf : fstB es i = true := fst_zero hi0
        replace hf := Mr.hid hf
        replace hi0 := Mr.hid hi0
        have c0 := evO_cells R0.out.ebx
        obtain ⟨c00, c01, c02, c03⟩ := c0
        have t0 := tab_cells R0.out.wk.box
        obtain ⟨t00, t01, t02, t03, t04, t05⟩ := t0
        have l0 := (Array.getElem?_eq_some_iff.1 R0.out.ebx).1
        have m0 := (Array.getElem?_eq_some_iff.1 R0.out.wk.box).1
        go_quiet (fail)
        have R1 := Mr.hid (R0.out.drewN (hI.out _) nq)
        clear R0
        clear c00 c01 c02 c03 t00 t01 t02 t03 t04 t05 l0 m0
        obtain ⟨s1, b1, h1⟩ : ∃ s1 b1, M 0 s (opn e) = (s1, b1) := ⟨_, _, rfl⟩
        have C1 := HO2.out s _ R1.out.wk.st R1.out.wk.fr
        rw [h1] at C1
        replace C1 := Mr.hid C1
        generalize (World.drewN _ nq) = wy at *
        cases b1 with
        | false =>
          have c9 := evO_cells R1.out.ebx
          obtain ⟨c90, c91, c92, c93⟩ := c9
          have t9 := tab_cells R1.out.wk.box
          obtain ⟨t90, t91, t92, t93, t94, t95⟩ := t9
          have l9 := (Array.getElem?_eq_some_iff.1 R1.out.ebx).1
          have m9 := (Array.getElem?_eq_some_iff.1 R1.out.wk.box).1
          go_wp2_with (go_at_call 81; refine C1.out.mono ?_; clear C1; rintro r wc ⟨rfl, hi2, hf2⟩; have R5 := Mr.hid (R1.out.next hS.out hTS.out hi2 hf2); clear hi2 hf2; clear c90 c91 c92 c93 t90 t91 t92 t93 t94 t95 l9 m9)
          go_ret
          have hfin : watchN M es s0 (i + 1) = (s1, false) := hstep.out.trans (round_0 hf.out h1)
          have hall : watchN M es s0 n = (s1, false) := by rw [watchN_no (i := i + 1) (by rw [hfin]) (by omega), hfin]
          exact ⟨by rw [hall]; rfl, by rw [hall]; exact ⟨_, by omega, R5.out.wk.st⟩, R5.out.wk.fr⟩
        | true =>
          have c9 := evO_cells R1.out.ebx
          obtain ⟨c90, c91, c92, c93⟩ := c9
          have t9 := tab_cells R1.out.wk.box
          obtain ⟨t90, t91, t92, t93, t94, t95⟩ := t9
          have l9 := (Array.getElem?_eq_some_iff.1 R1.out.ebx).1
          have m9 := (Array.getElem?_eq_some_iff.1 R1.out.wk.box).1
          have hop : Hid ((if fstB es i then M 0 s (opn e) else (s, true)) = (s1, true)) := by rw [hf.out, if_pos rfl]; exact h1
          go_upto_region 7 with (go_at_call 81; refine C1.out.mono ?_; clear C1; rintro r wc ⟨rfl, hi2, hf2⟩; have R5 := Mr.hid (R1.out.next hS.out hTS.out hi2 hf2); clear hi2 hf2; clear c90 c91 c92 c93 t90 t91 t92 t93 t94 t95 l9 m9)
          clear R1
          obtain ⟨s2, b2, h2⟩ : ∃ s2 b2, M e.kd.toNat s1 e = (s2, b2) := ⟨_, _, rfl⟩
          have C2 := HM2.out s1 _ R5.out.wk.st R5.out.wk.fr
          rw [h2] at C2
          replace C2 := Mr.hid C2
          cases b2 with
          | false =>
            have c1 := evO_cells R5.out.ebx
            obtain ⟨c10, c11, c12, c13⟩ := c1
            have t1 := tab_cells R5.out.wk.box
            obtain ⟨t10, t11, t12, t13, t14, t15⟩ := t1
            have l1 := (Array.getElem?_eq_some_iff.1 R5.out.ebx).1
            have m1 := (Array.getElem?_eq_some_iff.1 R5.out.wk.box).1
            go_wp2_with (go_at_call 81; refine C2.out.mono ?_; clear C2; rintro r wc ⟨rfl, hi2, hf2⟩; have R2 := Mr.hid (R5.out.next hS.out hTS.out hi2 hf2); clear hi2 hf2; clear c10 c11 c12 c13 t10 t11 t12 t13 t14 t15 l1 m1)
            go_ret
            have hfin : watchN M es s0 (i + 1) = (s2, false) := hstep.out.trans (round_1 hop.out h2)
            have hall : watchN M es s0 n = (s2, false) := by rw [watchN_no (i := i + 1) (by rw [hfin]) (by omega), hfin]
            exact ⟨by rw [hall]; rfl, by rw [hall]; exact ⟨_, by omega, R2.out.wk.st⟩, R2.out.wk.fr⟩
          | true =>
            have c1 := evO_cells R5.out.ebx
            obtain ⟨c10, c11, c12, c13⟩ := c1
            have t1 := tab_cells R5.out.wk.box
            obtain ⟨t10, t11, t12, t13, t14, t15⟩ := t1
            have l1 := (Array.getElem?_eq_some_iff.1 R5.out.ebx).1
            have m1 := (Array.getElem?_eq_some_iff.1 R5.out.wk.box).1
            go_upto_region 9 with (go_at_call 81; refine C2.out.mono ?_; clear C2; rintro r wc ⟨rfl, hi2, hf2⟩; have R2 := Mr.hid (R5.out.next hS.out hTS.out hi2 hf2); clear hi2 hf2; clear c10 c11 c12 c13 t10 t11 t12 t13 t14 t15 l1 m1)
            clear R5
            by_cases hend : i + 1 = n
            · have q1 : ((i : Int) + 1 == (n : Int)) = true := by simp; omega
              have hl : lstB es i = true := lst_end (by have := hn.out; omega)
              replace hend := Mr.hid hend
              replace hl := Mr.hid hl
              have c2 := evO_cells R2.out.ebx
              obtain ⟨c20, c21, c22, c23⟩ := c2
              have t2 := tab_cells R2.out.wk.box
              obtain ⟨t20, t21, t22, t23, t24, t25⟩ := t2
              have l2 := (Array.getElem?_eq_some_iff.1 R2.out.ebx).1
              have m2 := (Array.getElem?_eq_some_iff.1 R2.out.wk.box).1
              go_quiet (fail)
              have R3 := Mr.hid (R2.out.drewN (hI.out _) nq)
              clear R2
              clear c20 c21 c22 c23 t20 t21 t22 t23 t24 t25 l2 m2
              obtain ⟨s3, b3, h3⟩ : ∃ s3 b3, M 5 s2 (cls e) = (s3, b3) := ⟨_, _, rfl⟩
              have C3 := HE2.out s2 _ R3.out.wk.st R3.out.wk.fr
              rw [h3] at C3
              replace C3 := Mr.hid C3
              generalize (World.drewN _ nq) = wz at *
              cases b3 with
              | false =>
                have c3 := evO_cells R3.out.ebx
                obtain ⟨c30, c31, c32, c33⟩ := c3
                have t3 := tab_cells R3.out.wk.box
                obtain ⟨t30, t31, t32, t33, t34, t35⟩ := t3
                have l3 := (Array.getElem?_eq_some_iff.1 R3.out.ebx).1
                have m3 := (Array.getElem?_eq_some_iff.1 R3.out.wk.box).1
                go_wp2_with (go_at_call 81; refine C3.out.mono ?_; clear C3; rintro r wc ⟨rfl, hi2, hf2⟩; have R4 := Mr.hid (R3.out.next hS.out hTS.out hi2 hf2); clear hi2 hf2; clear c30 c31 c32 c33 t30 t31 t32 t33 t34 t35 l3 m3)
                go_ret
                have hfin : watchN M es s0 (i + 1) = (s3, false) := hstep.out.trans (round_2 hop.out h2 hl.out h3)
                have hall : watchN M es s0 n = (s3, false) := by rw [watchN_no (i := i + 1) (by rw [hfin]) (by omega), hfin]
                exact ⟨by rw [hall]; rfl, by rw [hall]; exact ⟨_, by omega, R4.out.wk.st⟩, R4.out.wk.fr⟩
              | true =>
                have c3 := evO_cells R3.out.ebx
                obtain ⟨c30, c31, c32, c33⟩ := c3
                have t3 := tab_cells R3.out.wk.box
                obtain ⟨t30, t31, t32, t33, t34, t35⟩ := t3
                have l3 := (Array.getElem?_eq_some_iff.1 R3.out.ebx).1
                have m3 := (Array.getElem?_eq_some_iff.1 R3.out.wk.box).1
                go_wp2_with (go_at_call 81; refine C3.out.mono ?_; clear C3; rintro r wc ⟨rfl, hi2, hf2⟩; have R4 := Mr.hid (R3.out.next hS.out hTS.out hi2 hf2); clear hi2 hf2; clear c30 c31 c32 c33 t30 t31 t32 t33 t34 t35 l3 m3)
                go_roundg (gk - 1)
                case measure => omega
                case rel =>
                  have hfin : watchN M es s0 (i + 1) = (s3, true) := hstep.out.trans (round_2 hop.out h2 hl.out h3)
                  exact ⟨i + 1, by simp, by omega, Mr.hid (by rw [hfin]), Mr.hid (by rw [hfin]; exact R4.out.wk)⟩
            · have q1 : ((i : Int) + 1 == (n : Int)) = false := by simp; omega
              obtain ⟨nx, hnx⟩ : ∃ nx, es[i + 1]? = some nx := ⟨es[i + 1]'(by have := hn.out; omega), List.getElem?_eq_getElem _⟩
              have hl := lst_in hnx he.out
              obtain ⟨bb, oo, ee, A4⟩ := ev_at R2.out.row hnx
              cases ee
              have n1 := A4.c1
              have hbl := A4.lt
              have q2 : (i : Int) + 1 < (n : Int) := by omega
              replace A4 := Mr.hid A4
              replace hnx := Mr.hid hnx
              by_cases hmv : nx.mv = e.mv
              · have q3 : (nx.mv != e.mv) = false := by simp [hmv]
                have q4 : (nx.mv == e.mv) = true := by simp [hmv]
                rw [q3] at hl
                replace hl := Mr.hid hl
                replace hmv := Mr.hid hmv
                have c2 := evO_cells R2.out.ebx
                obtain ⟨c20, c21, c22, c23⟩ := c2
                have t2 := tab_cells R2.out.wk.box
                obtain ⟨t20, t21, t22, t23, t24, t25⟩ := t2
                have l2 := (Array.getElem?_eq_some_iff.1 R2.out.ebx).1
                have m2 := (Array.getElem?_eq_some_iff.1 R2.out.wk.box).1
                go_quiet (fail)
                go_wp2
                go_roundg (gk - 1)
                case measure => omega
                case rel =>
                  have hfin : watchN M es s0 (i + 1) = (s2, true) := hstep.out.trans (round_3 hop.out h2 hl.out)
                  exact ⟨i + 1, by simp, by omega, Mr.hid (by rw [hfin]), Mr.hid (by rw [hfin]; exact (R2.out.drewN (hI.out _) _).wk)⟩
              · have q3 : (nx.mv != e.mv) = true := by simp [hmv]
                have q4 : (nx.mv == e.mv) = false := by simp [hmv]
                rw [q3] at hl
                replace hl := Mr.hid hl
                replace hmv := Mr.hid hmv
                have c2 := evO_cells R2.out.ebx
                obtain ⟨c20, c21, c22, c23⟩ := c2
                have t2 := tab_cells R2.out.wk.box
                obtain ⟨t20, t21, t22, t23, t24, t25⟩ := t2
                have l2 := (Array.getElem?_eq_some_iff.1 R2.out.ebx).1
                have m2 := (Array.getElem?_eq_some_iff.1 R2.out.wk.box).1
                go_quiet (fail)
                have R3 := Mr.hid (R2.out.drewN (hI.out _) nq)
                clear R2
                clear c20 c21 c22 c23 t20 t21 t22 t23 t24 t25 l2 m2
                obtain ⟨s3, b3, h3⟩ : ∃ s3 b3, M 5 s2 (cls e) = (s3, b3) := ⟨_, _, rfl⟩
                have C3 := HE2.out s2 _ R3.out.wk.st R3.out.wk.fr
                rw [h3] at C3
                replace C3 := Mr.hid C3
                generalize (World.drewN _ nq) = wz at *
                cases b3 with
                | false =>
                  have c3 := evO_cells R3.out.ebx
                  obtain ⟨c30, c31, c32, c33⟩ := c3
                  have t3 := tab_cells R3.out.wk.box
                  obtain ⟨t30, t31, t32, t33, t34, t35⟩ := t3
                  have l3 := (Array.getElem?_eq_some_iff.1 R3.out.ebx).1
                  have m3 := (Array.getElem?_eq_some_iff.1 R3.out.wk.box).1
                  go_wp2_with (go_at_call 81; refine C3.out.mono ?_; clear C3; rintro r wc ⟨rfl, hi2, hf2⟩; have R4 := Mr.hid (R3.out.next hS.out hTS.out hi2 hf2); clear hi2 hf2; clear c30 c31 c32 c33 t30 t31 t32 t33 t34 t35 l3 m3)
                  go_ret
                  have hfin : watchN M es s0 (i + 1) = (s3, false) := hstep.out.trans (round_2 hop.out h2 hl.out h3)
                  have hall : watchN M es s0 n = (s3, false) := by rw [watchN_no (i := i + 1) (by rw [hfin]) (by omega), hfin]
                  exact ⟨by rw [hall]; rfl, by rw [hall]; exact ⟨_, by omega, R4.out.wk.st⟩, R4.out.wk.fr⟩
                | true =>
                  have c3 := evO_cells R3.out.ebx
                  obtain ⟨c30, c31, c32, c33⟩ := c3
                  have t3 := tab_cells R3.out.wk.box
                  obtain ⟨t30, t31, t32, t33, t34, t35⟩ := t3
                  have l3 := (Array.getElem?_eq_some_iff.1 R3.out.ebx).1
                  have m3 := (Array.getElem?_eq_some_iff.1 R3.out.wk.box).1
                  go_wp2_with (go_at_call 81; refine C3.out.mono ?_; clear C3; rintro r wc ⟨rfl, hi2, hf2⟩; have R4 := Mr.hid (R3.out.next hS.out hTS.out hi2 hf2); clear hi2 hf2; clear c30 c31 c32 c33 t30 t31 t32 t33 t34 t35 l3 m3)
                  go_roundg (gk - 1)
                  case measure => omega
                  case rel =>
                    have hfin : watchN M es s0 (i + 1) = (s3, true) := hstep.out.trans (round_2 hop.out h2 hl.out h3)
                    exact ⟨i + 1, by simp, by omega, Mr.hid (by rw [hfin]), Mr.hid (by rw [hfin]; exact R4.out.wk)⟩
      · have q1 : ((i : Int) == 0) = false := by simp; omega
        obtain ⟨j, hj⟩ : ∃ j, i = j + 1 := ⟨i - 1, by omega⟩
        obtain ⟨pv, hpv⟩ : ∃ pv, es[j]? = some pv := ⟨es[j]'(by have := hn.out; omega), List.getElem?_eq_getElem _⟩
        have hf : fstB es i = (pv.mv != e.mv) := by rw [hj]; exact fst_pos hpv (by rw [← hj]; exact he.out)
        obtain ⟨bb, oo, ee, A4⟩ := ev_at R0.out.row hpv
        cases ee
        have n1 := A4.c1
        have hbl := A4.lt
        have q2 : (j : Int) < (n : Int) := by omega
        have q5 : IntKind.i64.wrap ((i : Int) - 1) = (j : Int) := by rw [hj]; simp [IntKind.wrap, IntKind.signed, IntKind.bits]; omega
        replace A4 := Mr.hid A4
        replace hpv := Mr.hid hpv
        replace hj := Mr.hid hj
        by_cases hmv : pv.mv = e.mv
        · have q3 : (pv.mv != e.mv) = false := by simp [hmv]
          have q4 : (pv.mv == e.mv) = true := by simp [hmv]
          rw [q3] at hf
          replace hmv := Mr.hid hmv
          have hop : Hid ((if fstB es i then M 0 s (opn e) else (s, true)) = (s, true)) := by rw [hf]; rfl
          replace hf := Mr.hid hf
          have c0 := evO_cells R0.out.ebx
          obtain ⟨c00, c01, c02, c03⟩ := c0
          have t0 := tab_cells R0.out.wk.box
          obtain ⟨t00, t01, t02, t03, t04, t05⟩ := t0
          have l0 := (Array.getElem?_eq_some_iff.1 R0.out.ebx).1
          have m0 := (Array.getElem?_eq_some_iff.1 R0.out.wk.box).1
          go_quiet (fail)
          have R1 := Mr.hid (R0.out.drewN (hI.out _) nq)
          clear R0
          clear c00 c01 c02 c03 t00 t01 t02 t03 t04 t05 l0 m0
          clear q1 q2 q3 q4 q5 n1 hbl
          generalize (World.drewN _ nq) = wy at *
          go_upto_region 7 with (fail)
          obtain ⟨s2, b2, h2⟩ : ∃ s2 b2, M e.kd.toNat s e = (s2, b2) := ⟨_, _, rfl⟩
          have C2 := HM2.out s _ R1.out.wk.st R1.out.wk.fr
          rw [h2] at C2
          replace C2 := Mr.hid C2
          cases b2 with
          | false =>
            have c1 := evO_cells R1.out.ebx
            obtain ⟨c10, c11, c12, c13⟩ := c1
            have t1 := tab_cells R1.out.wk.box
            obtain ⟨t10, t11, t12, t13, t14, t15⟩ := t1
            have l1 := (Array.getElem?_eq_some_iff.1 R1.out.ebx).1
            have m1 := (Array.getElem?_eq_some_iff.1 R1.out.wk.box).1
            go_wp2_with (go_at_call 81; refine C2.out.mono ?_; clear C2; rintro r wc ⟨rfl, hi2, hf2⟩; have R2 := Mr.hid (R1.out.next hS.out hTS.out hi2 hf2); clear hi2 hf2; clear c10 c11 c12 c13 t10 t11 t12 t13 t14 t15 l1 m1)
            go_ret
            have hfin : watchN M es s0 (i + 1) = (s2, false) := hstep.out.trans (round_1 hop.out h2)
            have hall : watchN M es s0 n = (s2, false) := by rw [watchN_no (i := i + 1) (by rw [hfin]) (by omega), hfin]
            exact ⟨by rw [hall]; rfl, by rw [hall]; exact ⟨_, by omega, R2.out.wk.st⟩, R2.out.wk.fr⟩
          | true =>
            have c1 := evO_cells R1.out.ebx
            obtain ⟨c10, c11, c12, c13⟩ := c1
            have t1 := tab_cells R1.out.wk.box
            obtain ⟨t10, t11, t12, t13, t14, t15⟩ := t1
            have l1 := (Array.getElem?_eq_some_iff.1 R1.out.ebx).1
            have m1 := (Array.getElem?_eq_some_iff.1 R1.out.wk.box).1
            go_upto_region 9 with (go_at_call 81; refine C2.out.mono ?_; clear C2; rintro r wc ⟨rfl, hi2, hf2⟩; have R2 := Mr.hid (R1.out.next hS.out hTS.out hi2 hf2); clear hi2 hf2; clear c10 c11 c12 c13 t10 t11 t12 t13 t14 t15 l1 m1)
            clear R1
            by_cases hend : i + 1 = n
            · have q1 : ((i : Int) + 1 == (n : Int)) = true := by simp; omega
              have hl : lstB es i = true := lst_end (by have := hn.out; omega)
              replace hend := Mr.hid hend
              replace hl := Mr.hid hl
              have c2 := evO_cells R2.out.ebx
              obtain ⟨c20, c21, c22, c23⟩ := c2
              have t2 := tab_cells R2.out.wk.box
              obtain ⟨t20, t21, t22, t23, t24, t25⟩ := t2
              have l2 := (Array.getElem?_eq_some_iff.1 R2.out.ebx).1
              have m2 := (Array.getElem?_eq_some_iff.1 R2.out.wk.box).1
              go_quiet (fail)
              have R3 := Mr.hid (R2.out.drewN (hI.out _) nq)
              clear R2
              clear c20 c21 c22 c23 t20 t21 t22 t23 t24 t25 l2 m2
              obtain ⟨s3, b3, h3⟩ : ∃ s3 b3, M 5 s2 (cls e) = (s3, b3) := ⟨_, _, rfl⟩
              have C3 := HE2.out s2 _ R3.out.wk.st R3.out.wk.fr
              rw [h3] at C3
              replace C3 := Mr.hid C3
              generalize (World.drewN _ nq) = wz at *
              cases b3 with
              | false =>
                have c3 := evO_cells R3.out.ebx
                obtain ⟨c30, c31, c32, c33⟩ := c3
                have t3 := tab_cells R3.out.wk.box
                obtain ⟨t30, t31, t32, t33, t34, t35⟩ := t3
                have l3 := (Array.getElem?_eq_some_iff.1 R3.out.ebx).1
                have m3 := (Array.getElem?_eq_some_iff.1 R3.out.wk.box).1
                go_wp2_with (go_at_call 81; refine C3.out.mono ?_; clear C3; rintro r wc ⟨rfl, hi2, hf2⟩; have R4 := Mr.hid (R3.out.next hS.out hTS.out hi2 hf2); clear hi2 hf2; clear c30 c31 c32 c33 t30 t31 t32 t33 t34 t35 l3 m3)
                go_ret
                have hfin : watchN M es s0 (i + 1) = (s3, false) := hstep.out.trans (round_2 hop.out h2 hl.out h3)
                have hall : watchN M es s0 n = (s3, false) := by rw [watchN_no (i := i + 1) (by rw [hfin]) (by omega), hfin]
                exact ⟨by rw [hall]; rfl, by rw [hall]; exact ⟨_, by omega, R4.out.wk.st⟩, R4.out.wk.fr⟩
              | true =>
                have c3 := evO_cells R3.out.ebx
                obtain ⟨c30, c31, c32, c33⟩ := c3
                have t3 := tab_cells R3.out.wk.box
                obtain ⟨t30, t31, t32, t33, t34, t35⟩ := t3
                have l3 := (Array.getElem?_eq_some_iff.1 R3.out.ebx).1
                have m3 := (Array.getElem?_eq_some_iff.1 R3.out.wk.box).1
                go_wp2_with (go_at_call 81; refine C3.out.mono ?_; clear C3; rintro r wc ⟨rfl, hi2, hf2⟩; have R4 := Mr.hid (R3.out.next hS.out hTS.out hi2 hf2); clear hi2 hf2; clear c30 c31 c32 c33 t30 t31 t32 t33 t34 t35 l3 m3)
                go_roundg (gk - 1)
                case measure => omega
                case rel =>
                  have hfin : watchN M es s0 (i + 1) = (s3, true) := hstep.out.trans (round_2 hop.out h2 hl.out h3)
                  exact ⟨i + 1, by simp, by omega, Mr.hid (by rw [hfin]), Mr.hid (by rw [hfin]; exact R4.out.wk)⟩
            · have q1 : ((i : Int) + 1 == (n : Int)) = false := by simp; omega
              obtain ⟨nx, hnx⟩ : ∃ nx, es[i + 1]? = some nx := ⟨es[i + 1]'(by have := hn.out; omega), List.getElem?_eq_getElem _⟩
              have hl := lst_in hnx he.out
              obtain ⟨bb, oo, ee, A4⟩ := ev_at R2.out.row hnx
              cases ee
              have n1 := A4.c1
              have hbl := A4.lt
              have q2 : (i : Int) + 1 < (n : Int) := by omega
              replace A4 := Mr.hid A4
              replace hnx := Mr.hid hnx
              by_cases hmv : nx.mv = e.mv
              · have q3 : (nx.mv != e.mv) = false := by simp [hmv]
                have q4 : (nx.mv == e.mv) = true := by simp [hmv]
                rw [q3] at hl
                replace hl := Mr.hid hl
                replace hmv := Mr.hid hmv
                have c2 := evO_cells R2.out.ebx
                obtain ⟨c20, c21, c22, c23⟩ := c2
                have t2 := tab_cells R2.out.wk.box
                obtain ⟨t20, t21, t22, t23, t24, t25⟩ := t2
                have l2 := (Array.getElem?_eq_some_iff.1 R2.out.ebx).1
                have m2 := (Array.getElem?_eq_some_iff.1 R2.out.wk.box).1
                go_quiet (fail)
                go_wp2
                go_roundg (gk - 1)
                case measure => omega
                case rel =>
                  have hfin : watchN M es s0 (i + 1) = (s2, true) := hstep.out.trans (round_3 hop.out h2 hl.out)
                  exact ⟨i + 1, by simp, by omega, Mr.hid (by rw [hfin]), Mr.hid (by rw [hfin]; exact (R2.out.drewN (hI.out _) _).wk)⟩
              · have q3 : (nx.mv != e.mv) = true := by simp [hmv]
                have q4 : (nx.mv == e.mv) = false := by simp [hmv]
                rw [q3] at hl
                replace hl := Mr.hid hl
                replace hmv := Mr.hid hmv
                have c2 := evO_cells R2.out.ebx
                obtain ⟨c20, c21, c22, c23⟩ := c2
                have t2 := tab_cells R2.out.wk.box
                obtain ⟨t20, t21, t22, t23, t24, t25⟩ := t2
                have l2 := (Array.getElem?_eq_some_iff.1 R2.out.ebx).1
                have m2 := (Array.getElem?_eq_some_iff.1 R2.out.wk.box).1
                go_quiet (fail)
                have R3 := Mr.hid (R2.out.drewN (hI.out _) nq)
                clear R2
                clear c20 c21 c22 c23 t20 t21 t22 t23 t24 t25 l2 m2
                obtain ⟨s3, b3, h3⟩ : ∃ s3 b3, M 5 s2 (cls e) = (s3, b3) := ⟨_, _, rfl⟩
                have C3 := HE2.out s2 _ R3.out.wk.st R3.out.wk.fr
                rw [h3] at C3
                replace C3 := Mr.hid C3
                generalize (World.drewN _ nq) = wz at *
                cases b3 with
                | false =>
                  have c3 := evO_cells R3.out.ebx
                  obtain ⟨c30, c31, c32, c33⟩ := c3
                  have t3 := tab_cells R3.out.wk.box
                  obtain ⟨t30, t31, t32, t33, t34, t35⟩ := t3
                  have l3 := (Array.getElem?_eq_some_iff.1 R3.out.ebx).1
                  have m3 := (Array.getElem?_eq_some_iff.1 R3.out.wk.box).1
                  go_wp2_with (go_at_call 81; refine C3.out.mono ?_; clear C3; rintro r wc ⟨rfl, hi2, hf2⟩; have R4 := Mr.hid (R3.out.next hS.out hTS.out hi2 hf2); clear hi2 hf2; clear c30 c31 c32 c33 t30 t31 t32 t33 t34 t35 l3 m3)
                  go_ret
                  have hfin : watchN M es s0 (i + 1) = (s3, false) := hstep.out.trans (round_2 hop.out h2 hl.out h3)
                  have hall : watchN M es s0 n = (s3, false) := by rw [watchN_no (i := i + 1) (by rw [hfin]) (by omega), hfin]
                  exact ⟨by rw [hall]; rfl, by rw [hall]; exact ⟨_, by omega, R4.out.wk.st⟩, R4.out.wk.fr⟩
                | true =>
                  have c3 := evO_cells R3.out.ebx
                  obtain ⟨c30, c31, c32, c33⟩ := c3
                  have t3 := tab_cells R3.out.wk.box
                  obtain ⟨t30, t31, t32, t33, t34, t35⟩ := t3
                  have l3 := (Array.getElem?_eq_some_iff.1 R3.out.ebx).1
                  have m3 := (Array.getElem?_eq_some_iff.1 R3.out.wk.box).1
                  go_wp2_with (go_at_call 81; refine C3.out.mono ?_; clear C3; rintro r wc ⟨rfl, hi2, hf2⟩; have R4 := Mr.hid (R3.out.next hS.out hTS.out hi2 hf2); clear hi2 hf2; clear c30 c31 c32 c33 t30 t31 t32 t33 t34 t35 l3 m3)
                  go_roundg (gk - 1)
                  case measure => omega
                  case rel =>
                    have hfin : watchN M es s0 (i + 1) = (s3, true) := hstep.out.trans (round_2 hop.out h2 hl.out h3)
                    exact ⟨i + 1, by simp, by omega, Mr.hid (by rw [hfin]), Mr.hid (by rw [hfin]; exact R4.out.wk)⟩
        · have q3 : (pv.mv != e.mv) = true := by simp [hmv]
          have q4 : (pv.mv == e.mv) = false := by simp [hmv]
          rw [q3] at hf
          replace hmv := Mr.hid hmv
          replace hf := Mr.hid hf
          have c0 := evO_cells R0.out.ebx
          obtain ⟨c00, c01, c02, c03⟩ := c0
          have t0 := tab_cells R0.out.wk.box
          obtain ⟨t00, t01, t02, t03, t04, t05⟩ := t0
          have l0 := (Array.getElem?_eq_some_iff.1 R0.out.ebx).1
          have m0 := (Array.getElem?_eq_some_iff.1 R0.out.wk.box).1
          go_quiet (fail)
          have R1 := Mr.hid (R0.out.drewN (hI.out _) nq)
          clear R0
          clear c00 c01 c02 c03 t00 t01 t02 t03 t04 t05 l0 m0
          obtain ⟨s1, b1, h1⟩ : ∃ s1 b1, M 0 s (opn e) = (s1, b1) := ⟨_, _, rfl⟩
          have C1 := HO2.out s _ R1.out.wk.st R1.out.wk.fr
          rw [h1] at C1
          replace C1 := Mr.hid C1
          generalize (World.drewN _ nq) = wy at *
          cases b1 with
          | false =>
            have c9 := evO_cells R1.out.ebx
            obtain ⟨c90, c91, c92, c93⟩ := c9
            have t9 := tab_cells R1.out.wk.box
            obtain ⟨t90, t91, t92, t93, t94, t95⟩ := t9
            have l9 := (Array.getElem?_eq_some_iff.1 R1.out.ebx).1
            have m9 := (Array.getElem?_eq_some_iff.1 R1.out.wk.box).1
            go_wp2_with (go_at_call 81; refine C1.out.mono ?_; clear C1; rintro r wc ⟨rfl, hi2, hf2⟩; have R5 := Mr.hid (R1.out.next hS.out hTS.out hi2 hf2); clear hi2 hf2; clear c90 c91 c92 c93 t90 t91 t92 t93 t94 t95 l9 m9)
            go_ret
            have hfin : watchN M es s0 (i + 1) = (s1, false) := hstep.out.trans (round_0 hf.out h1)
            have hall : watchN M es s0 n = (s1, false) := by rw [watchN_no (i := i + 1) (by rw [hfin]) (by omega), hfin]
            exact ⟨by rw [hall]; rfl, by rw [hall]; exact ⟨_, by omega, R5.out.wk.st⟩, R5.out.wk.fr⟩
          | true =>
            have c9 := evO_cells R1.out.ebx
            obtain ⟨c90, c91, c92, c93⟩ := c9
            have t9 := tab_cells R1.out.wk.box
            obtain ⟨t90, t91, t92, t93, t94, t95⟩ := t9
            have l9 := (Array.getElem?_eq_some_iff.1 R1.out.ebx).1
            have m9 := (Array.getElem?_eq_some_iff.1 R1.out.wk.box).1
            have hop : Hid ((if fstB es i then M 0 s (opn e) else (s, true)) = (s1, true)) := by rw [hf.out, if_pos rfl]; exact h1
            go_upto_region 7 with (go_at_call 81; refine C1.out.mono ?_; clear C1; rintro r wc ⟨rfl, hi2, hf2⟩; have R5 := Mr.hid (R1.out.next hS.out hTS.out hi2 hf2); clear hi2 hf2; clear c90 c91 c92 c93 t90 t91 t92 t93 t94 t95 l9 m9)
            clear R1
            obtain ⟨s2, b2, h2⟩ : ∃ s2 b2, M e.kd.toNat s1 e = (s2, b2) := ⟨_, _, rfl⟩
            have C2 := HM2.out s1 _ R5.out.wk.st R5.out.wk.fr
            rw [h2] at C2
            replace C2 := Mr.hid C2
            cases b2 with
            | false =>
              have c1 := evO_cells R5.out.ebx
              obtain ⟨c10, c11, c12, c13⟩ := c1
              have t1 := tab_cells R5.out.wk.box
              obtain ⟨t10, t11, t12, t13, t14, t15⟩ := t1
              have l1 := (Array.getElem?_eq_some_iff.1 R5.out.ebx).1
              have m1 := (Array.getElem?_eq_some_iff.1 R5.out.wk.box).1
              go_wp2_with (go_at_call 81; refine C2.out.mono ?_; clear C2; rintro r wc ⟨rfl, hi2, hf2⟩; have R2 := Mr.hid (R5.out.next hS.out hTS.out hi2 hf2); clear hi2 hf2; clear c10 c11 c12 c13 t10 t11 t12 t13 t14 t15 l1 m1)
              go_ret
              have hfin : watchN M es s0 (i + 1) = (s2, false) := hstep.out.trans (round_1 hop.out h2)
              have hall : watchN M es s0 n = (s2, false) := by rw [watchN_no (i := i + 1) (by rw [hfin]) (by omega), hfin]
              exact ⟨by rw [hall]; rfl, by rw [hall]; exact ⟨_, by omega, R2.out.wk.st⟩, R2.out.wk.fr⟩
            | true =>
              have c1 := evO_cells R5.out.ebx
              obtain ⟨c10, c11, c12, c13⟩ := c1
              have t1 := tab_cells R5.out.wk.box
              obtain ⟨t10, t11, t12, t13, t14, t15⟩ := t1
              have l1 := (Array.getElem?_eq_some_iff.1 R5.out.ebx).1
              have m1 := (Array.getElem?_eq_some_iff.1 R5.out.wk.box).1
              go_upto_region 9 with (go_at_call 81; refine C2.out.mono ?_; clear C2; rintro r wc ⟨rfl, hi2, hf2⟩; have R2 := Mr.hid (R5.out.next hS.out hTS.out hi2 hf2); clear hi2 hf2; clear c10 c11 c12 c13 t10 t11 t12 t13 t14 t15 l1 m1)
              clear R5
              by_cases hend : i + 1 = n
              · have q1 : ((i : Int) + 1 == (n : Int)) = true := by simp; omega
                have hl : lstB es i = true := lst_end (by have := hn.out; omega)
                replace hend := Mr.hid hend
                replace hl := Mr.hid hl
                have c2 := evO_cells R2.out.ebx
                obtain ⟨c20, c21, c22, c23⟩ := c2
                have t2 := tab_cells R2.out.wk.box
                obtain ⟨t20, t21, t22, t23, t24, t25⟩ := t2
                have l2 := (Array.getElem?_eq_some_iff.1 R2.out.ebx).1
                have m2 := (Array.getElem?_eq_some_iff.1 R2.out.wk.box).1
                go_quiet (fail)
                have R3 := Mr.hid (R2.out.drewN (hI.out _) nq)
                clear R2
                clear c20 c21 c22 c23 t20 t21 t22 t23 t24 t25 l2 m2
                obtain ⟨s3, b3, h3⟩ : ∃ s3 b3, M 5 s2 (cls e) = (s3, b3) := ⟨_, _, rfl⟩
                have C3 := HE2.out s2 _ R3.out.wk.st R3.out.wk.fr
                rw [h3] at C3
                replace C3 := Mr.hid C3
                generalize (World.drewN _ nq) = wz at *
                cases b3 with
                | false =>
                  have c3 := evO_cells R3.out.ebx
                  obtain ⟨c30, c31, c32, c33⟩ := c3
                  have t3 := tab_cells R3.out.wk.box
                  obtain ⟨t30, t31, t32, t33, t34, t35⟩ := t3
                  have l3 := (Array.getElem?_eq_some_iff.1 R3.out.ebx).1
                  have m3 := (Array.getElem?_eq_some_iff.1 R3.out.wk.box).1
                  go_wp2_with (go_at_call 81; refine C3.out.mono ?_; clear C3; rintro r wc ⟨rfl, hi2, hf2⟩; have R4 := Mr.hid (R3.out.next hS.out hTS.out hi2 hf2); clear hi2 hf2; clear c30 c31 c32 c33 t30 t31 t32 t33 t34 t35 l3 m3)
                  go_ret
                  have hfin : watchN M es s0 (i + 1) = (s3, false) := hstep.out.trans (round_2 hop.out h2 hl.out h3)
                  have hall : watchN M es s0 n = (s3, false) := by rw [watchN_no (i := i + 1) (by rw [hfin]) (by omega), hfin]
                  exact ⟨by rw [hall]; rfl, by rw [hall]; exact ⟨_, by omega, R4.out.wk.st⟩, R4.out.wk.fr⟩
                | true =>
                  have c3 := evO_cells R3.out.ebx
                  obtain ⟨c30, c31, c32, c33⟩ := c3
                  have t3 := tab_cells R3.out.wk.box
                  obtain ⟨t30, t31, t32, t33, t34, t35⟩ := t3
                  have l3 := (Array.getElem?_eq_some_iff.1 R3.out.ebx).1
                  have m3 := (Array.getElem?_eq_some_iff.1 R3.out.wk.box).1
                  go_wp2_with (go_at_call 81; refine C3.out.mono ?_; clear C3; rintro r wc ⟨rfl, hi2, hf2⟩; have R4 := Mr.hid (R3.out.next hS.out hTS.out hi2 hf2); clear hi2 hf2; clear c30 c31 c32 c33 t30 t31 t32 t33 t34 t35 l3 m3)
                  go_roundg (gk - 1)
                  case measure => omega
                  case rel =>
                    have hfin : watchN M es s0 (i + 1) = (s3, true) := hstep.out.trans (round_2 hop.out h2 hl.out h3)
                    exact ⟨i + 1, by simp, by omega, Mr.hid (by rw [hfin]), Mr.hid (by rw [hfin]; exact R4.out.wk)⟩
              · have q1 : ((i : Int) + 1 == (n : Int)) = false := by simp; omega
                obtain ⟨nx, hnx⟩ : ∃ nx, es[i + 1]? = some nx := ⟨es[i + 1]'(by have := hn.out; omega), List.getElem?_eq_getElem _⟩
                have hl := lst_in hnx he.out
                obtain ⟨bb, oo, ee, A4⟩ := ev_at R2.out.row hnx
                cases ee
                have n1 := A4.c1
                have hbl := A4.lt
                have q2 : (i : Int) + 1 < (n : Int) := by omega
                replace A4 := Mr.hid A4
                replace hnx := Mr.hid hnx
                by_cases hmv : nx.mv = e.mv
                · have q3 : (nx.mv != e.mv) = false := by simp [hmv]
                  have q4 : (nx.mv == e.mv) = true := by simp [hmv]
                  rw [q3] at hl
                  replace hl := Mr.hid hl
                  replace hmv := Mr.hid hmv
                  have c2 := evO_cells R2.out.ebx
                  obtain ⟨c20, c21, c22, c23⟩ := c2
                  have t2 := tab_cells R2.out.wk.box
                  obtain ⟨t20, t21, t22, t23, t24, t25⟩ := t2
                  have l2 := (Array.getElem?_eq_some_iff.1 R2.out.ebx).1
                  have m2 := (Array.getElem?_eq_some_iff.1 R2.out.wk.box).1
                  go_quiet (fail)
                  go_wp2
                  go_roundg (gk - 1)
                  case measure => omega
                  case rel =>
                    have hfin : watchN M es s0 (i + 1) = (s2, true) := hstep.out.trans (round_3 hop.out h2 hl.out)
                    exact ⟨i + 1, by simp, by omega, Mr.hid (by rw [hfin]), Mr.hid (by rw [hfin]; exact (R2.out.drewN (hI.out _) _).wk)⟩
                · have q3 : (nx.mv != e.mv) = true := by simp [hmv]
                  have q4 : (nx.mv == e.mv) = false := by simp [hmv]
                  rw [q3] at hl
                  replace hl := Mr.hid hl
                  replace hmv := Mr.hid hmv
                  have c2 := evO_cells R2.out.ebx
                  obtain ⟨c20, c21, c22, c23⟩ := c2
                  have t2 := tab_cells R2.out.wk.box
                  obtain ⟨t20, t21, t22, t23, t24, t25⟩ := t2
                  have l2 := (Array.getElem?_eq_some_iff.1 R2.out.ebx).1
                  have m2 := (Array.getElem?_eq_some_iff.1 R2.out.wk.box).1
                  go_quiet (fail)
                  have R3 := Mr.hid (R2.out.drewN (hI.out _) nq)
                  clear R2
                  clear c20 c21 c22 c23 t20 t21 t22 t23 t24 t25 l2 m2
                  obtain ⟨s3, b3, h3⟩ : ∃ s3 b3, M 5 s2 (cls e) = (s3, b3) := ⟨_, _, rfl⟩
                  have C3 := HE2.out s2 _ R3.out.wk.st R3.out.wk.fr
                  rw [h3] at C3
                  replace C3 := Mr.hid C3
                  generalize (World.drewN _ nq) = wz at *
                  cases b3 with
                  | false =>
                    have c3 := evO_cells R3.out.ebx
                    obtain ⟨c30, c31, c32, c33⟩ := c3
                    have t3 := tab_cells R3.out.wk.box
                    obtain ⟨t30, t31, t32, t33, t34, t35⟩ := t3
                    have l3 := (Array.getElem?_eq_some_iff.1 R3.out.ebx).1
                    have m3 := (Array.getElem?_eq_some_iff.1 R3.out.wk.box).1
                    go_wp2_with (go_at_call 81; refine C3.out.mono ?_; clear C3; rintro r wc ⟨rfl, hi2, hf2⟩; have R4 := Mr.hid (R3.out.next hS.out hTS.out hi2 hf2); clear hi2 hf2; clear c30 c31 c32 c33 t30 t31 t32 t33 t34 t35 l3 m3)
                    go_ret
                    have hfin : watchN M es s0 (i + 1) = (s3, false) := hstep.out.trans (round_2 hop.out h2 hl.out h3)
                    have hall : watchN M es s0 n = (s3, false) := by rw [watchN_no (i := i + 1) (by rw [hfin]) (by omega), hfin]
                    exact ⟨by rw [hall]; rfl, by rw [hall]; exact ⟨_, by omega, R4.out.wk.st⟩, R4.out.wk.fr⟩
                  | true =>
                    have c3 := evO_cells R3.out.ebx
                    obtain ⟨c30, c31, c32, c33⟩ := c3
                    have t3 := tab_cells R3.out.wk.box
                    obtain ⟨t30, t31, t32, t33, t34, t35⟩ := t3
                    have l3 := (Array.getElem?_eq_some_iff.1 R3.out.ebx).1
                    have m3 := (Array.getElem?_eq_some_iff.1 R3.out.wk.box).1
                    go_wp2_with (go_at_call 81; refine C3.out.mono ?_; clear C3; rintro r wc ⟨rfl, hi2, hf2⟩; have R4 := Mr.hid (R3.out.next hS.out hTS.out hi2 hf2); clear hi2 hf2; clear c30 c31 c32 c33 t30 t31 t32 t33 t34 t35 l3 m3)
                    go_roundg (gk - 1)
                    case measure => omega
                    case rel =>
                      have hfin : watchN M es s0 (i + 1) = (s3, true) := hstep.out.trans (round_2 hop.out h2 hl.out h3)
                      exact ⟨i + 1, by simp, by omega, Mr.hid (by rw [hfin]), Mr.hid (by rw [hfin]; exact R4.out.wk)⟩
    · have hie : i = n := by omega
      have q1 : decide ((i : Int) < (n : Int)) = false := decide_eq_false (by omega)
      have q2 : decide (i < n) = false := decide_eq_false hlt
      replace hie := Mr.hid hie
      go_wp2
      go_ret
      have hB := HB.out
      have hW := HW.out
      rw [hie.out] at hB hW
      exact ⟨by rw [hB]; rfl, ⟨n, Nat.le_refl _, hW.st⟩, hW.fr⟩
end Go.Proofs.YtpknggcgojkjgaaGreat.Cn
