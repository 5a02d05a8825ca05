import Derived.Test.YtecldhngggkjjaaGreatJ37
import Derived.Test.YtecldhngggkjjaaGreatJ42
import Derived.Test.YtecldhngggkjjaaGreatJ43
import Derived.Test.YtecldhngggkjjaaGreatJ39
set_option linter.unusedVariables false
set_option linter.unusedSimpArgs false
set_option maxRecDepth 100000
namespace Go.Proofs.YtecldhngggkjjaaGreat.Wt
open Go.RowKit Mr Md
inductive Rs (cs : List Cq) (o : List Int) : Int → Ct → Prop
 | calls : ¬ MayC cs → Rs cs o 120 ct0
 | order : MayC cs → ¬ IsOrd cs o → Rs cs o 121 ct0
 | early : MayC cs → IsOrd cs o → ¬ InT (ordc cs o) (ordc cs o).length → Rs cs o 122 ct0
 | answer : MayC cs → IsOrd cs o → InT (ordc cs o) (ordc cs o).length → ¬ okTo ct0 (ordc cs o) o.length → Rs cs o 123 ct0
 | ok : MayC cs → IsOrd cs o → InT (ordc cs o) (ordc cs o).length → okTo ct0 (ordc cs o) o.length → Rs cs o 0 (lefts ct0 (ordc cs o) o.length)
theorem Rs.ex (cs : List Cq) (o : List Int) : ∃ code x, Rs cs o code x := by
 by_cases h1 : MayC cs
 ·by_cases h2 : IsOrd cs o
  ·by_cases h3 : InT (ordc cs o) (ordc cs o).length
   ·by_cases h4 : okTo ct0 (ordc cs o) o.length
    ·exact ⟨_, _, .ok h1 h2 h3 h4⟩
    ·exact ⟨_, _, .answer h1 h2 h3 h4⟩
   ·exact ⟨_, _, .early h1 h2 h3⟩
  ·exact ⟨_, _, .order h1 h2⟩
 ·exact ⟨_, _, .calls h1⟩
theorem bad_first {x : Ct} {cs : List Cq} : ∀ {n : Nat}, ¬ okTo x cs n → ∃ i c, i < n ∧ okTo x cs i ∧ cs[i]? = some c ∧ (alw (lefts x cs i) c).2 = false := by
 intro n
 induction n with
 | zero => intro h; exact absurd (fun j hj => by omega) h
 | succ n ih =>
  intro h
  by_cases h1 : okTo x cs n
  ·cases hc : cs[n]? with
   | none => exact absurd (fun j hj c hc' => by
     by_cases e : j < n
     ·exact h1 j e c hc'
     ·have : j = n := by omega
      subst this; rw [hc] at hc'; cases hc') h
   | some c =>
    cases hq : (alw (lefts x cs n) c).2 with
    | false => exact ⟨n, c, by omega, h1, hc, hq⟩
    | true => exact absurd (h1.succ hc hq) h
  ·obtain ⟨i, c, hi, r⟩ := ih h1
   exact ⟨i, c, by omega, r⟩
theorem fit_ordc {cs : List Cq} {o : List Int} (hm : MayC cs) (hO : IsOrd cs o) : ∀ c ∈ ordc cs o, Fit c := by
 intro c hc
 obtain ⟨k, hk⟩ := List.getElem?_of_mem hc
 have hl := (List.getElem?_eq_some_iff.1 hk).1
 rw [ordc_len] at hl
 obtain ⟨j, d, hx, hd, _⟩ := hO.at (List.getElem?_eq_getElem hl)
 have := ordc_get (hx ▸ List.getElem?_eq_getElem hl) hd
 rw [hk] at this; cases this
 exact hm.1.fit (List.getElem?_eq_some_iff.1 hd).1 hd
theorem may_ct0 : Md.May ct0 := ⟨by simp [ct0], (fun i hi => by simp [ct0] at hi), (fun i hi => by simp [ct0] at hi)⟩
structure Rb (W w : World) : Prop where
 bel : Below W.heap.size W w
 res : w.heap[W.heap.size]? = some (ctO (.slice none 0 0) (.slice none 0 0) (.slice none 0 0) (.slice none 0 0) (.slice none 0 0))
theorem Rb.below {W w w' : World} (h : Rb W w) (hB : Below w.heap.size w w') : Rb W w' := ⟨h.bel.trans (hB.mono h.bel.size), (hB.block _ (Array.getElem?_eq_some_iff.1 h.res).1).trans h.res⟩
section
variable {W : World} {T T' : Nat → Prop} {v u : Value} {cs : List Cq} {o : List Int}
set_option maxHeartbeats 16000000 in
theorem left_calls (hv : Sl W T 9 v cs.length (cqs cs)) (hu : Sl W T' 1 u o.length (ints o)) (hsm : cs.length * 72 ≤ 140737488355328) (hm : ¬ MayC cs) :
  Calls Tryz.prog 30 #[v, u] W fun e w' => ∃ v0 v1 v2 v3 v4, e = .returned (.tuple #[.agg #[v0, v1, v2, v3, v4], .int .i64 120]) ∧ CtAt w' (fun k => W.heap.size ≤ k) v0 v1 v2 v3 v4 ct0 ∧ Below W.heap.size W w' := by
 have PM := fun w' (hB : Below W.heap.size W w') => may_any (hv.below hB) (by omega)
 rw [mayB_false hm] at PM
 obtain ⟨a, cap, rfl, hcap⟩ := hv.form
 obtain ⟨au, cu, rfl, hcu⟩ := hu.form
 have R0 : ∀ w1, w1 = W.alloc (ctO (.slice none 0 0) (.slice none 0 0) (.slice none 0 0) (.slice none 0 0) (.slice none 0 0)) → Rb W w1 := by
  rintro w1 rfl
  exact ⟨(Below.refl _ _).alloc (Nat.le_refl _) _, new_at _ _ _ rfl⟩
 unfold ctO at R0
 replace R0 := Mr.hid R0
 generalize cs.length = n at *
 generalize o.length = m at *
 replace PM := Mr.hid PM
 clear hv hu hm hsm
 go_enter Tryz.func30, Tryz.ntmps30
 go_wp2_with (go_at_call 19; refine (PM.out _ (R0.out _ rfl).bel).mono ?_; clear PM; rintro e w2 ⟨rfl, hB2⟩; have hR := (R0.out _ rfl).below hB2; clear R0 hB2; obtain ⟨e1, e2, e3⟩ := end5a (v0 := (.slice none 0 0)) (v1 := (.slice none 0 0)) (v2 := (.slice none 0 0)) (v3 := (.slice none 0 0)) (v4 := (.slice none 0 0)) hR.bel (b := W.heap.size) (Nat.le_refl _) hR.res (ct0_at _ (fun k => W.heap.size + 1 ≤ k)) (fun k hk => by omega); obtain ⟨r0, r1, r2, r3, r4, rl⟩ := ctO_cells hR.res; obtain ⟨f0, f1, f2, f3, f4⟩ := ctO_thaw hR.res; obtain ⟨d0, d1, d2, d3, d4, -⟩ := ctO_cells e3; unfold set5 at e1 e2 d0 d1 d2 d3 d4; replace e1 := Mr.hid e1; replace e2 := Mr.hid e2; clear e3; replace d0 := Mr.hid d0; replace d1 := Mr.hid d1; replace d2 := Mr.hid d2; replace d3 := Mr.hid d3; replace d4 := Mr.hid d4)
 replace d0 := d0.out
 replace d1 := d1.out
 replace d2 := d2.out
 replace d3 := d3.out
 replace d4 := d4.out
 refine bodyPost_ret (v := .tuple #[.agg #[.slice none 0 0, .slice none 0 0, .slice none 0 0, .slice none 0 0, .slice none 0 0], .int .i64 120]) (by simp [results, Tryz.results30, go_sem, d0, d1, d2, d3, d4]) rfl ?_
 exact ⟨_, _, _, _, _, rfl, e1.out, e2.out⟩
set_option maxHeartbeats 16000000 in
theorem left_order (hv : Sl W T 9 v cs.length (cqs cs)) (hu : Sl W T' 1 u o.length (ints o)) (hsm : cs.length * 72 ≤ 140737488355328) (hso : o.length * 8 ≤ 281474976710656) (hm : MayC cs) (hO : ¬ IsOrd cs o) :
  Calls Tryz.prog 30 #[v, u] W fun e w' => ∃ v0 v1 v2 v3 v4, e = .returned (.tuple #[.agg #[v0, v1, v2, v3, v4], .int .i64 121]) ∧ CtAt w' (fun k => W.heap.size ≤ k) v0 v1 v2 v3 v4 ct0 ∧ Below W.heap.size W w' := by
 have PM := fun w' (hB : Below W.heap.size W w') => may_any (hv.below hB) (by omega)
 rw [mayB_true hm] at PM
 have IQ := fun w' (hB : Below W.heap.size W w') => isOrder_any (hv.below hB) (hu.below hB) (by omega) hso false (by simp [hO])
 obtain ⟨a, cap, rfl, hcap⟩ := hv.form
 obtain ⟨au, cu, rfl, hcu⟩ := hu.form
 have R0 : ∀ w1, w1 = W.alloc (ctO (.slice none 0 0) (.slice none 0 0) (.slice none 0 0) (.slice none 0 0) (.slice none 0 0)) → Rb W w1 := by
  rintro w1 rfl
  exact ⟨(Below.refl _ _).alloc (Nat.le_refl _) _, new_at _ _ _ rfl⟩
 unfold ctO at R0
 replace R0 := Mr.hid R0
 generalize cs.length = n at *
 generalize o.length = m at *
 replace PM := Mr.hid PM
 replace IQ := Mr.hid IQ
 clear hv hu hm hsm hO hso
 go_enter Tryz.func30, Tryz.ntmps30
 go_wp2_with (first
  | (go_at_call 19; refine (PM.out _ (R0.out _ rfl).bel).mono ?_; clear PM; rintro e w2 ⟨rfl, hB2⟩; have hR := (R0.out _ rfl).below hB2; clear R0 hB2; replace hR := Mr.hid hR)
  | (go_at_call 48; refine (IQ.out _ hR.out.bel).mono ?_; clear IQ; rintro e w3 ⟨rfl, hB3⟩; replace hR := hR.out.below hB3; clear hB3; obtain ⟨e1, e2, e3⟩ := end5a (v0 := (.slice none 0 0)) (v1 := (.slice none 0 0)) (v2 := (.slice none 0 0)) (v3 := (.slice none 0 0)) (v4 := (.slice none 0 0)) hR.bel (b := W.heap.size) (Nat.le_refl _) hR.res (ct0_at _ (fun k => W.heap.size + 1 ≤ k)) (fun k hk => by omega); obtain ⟨r0, r1, r2, r3, r4, rl⟩ := ctO_cells hR.res; obtain ⟨f0, f1, f2, f3, f4⟩ := ctO_thaw hR.res; obtain ⟨d0, d1, d2, d3, d4, -⟩ := ctO_cells e3; unfold set5 at e1 e2 d0 d1 d2 d3 d4; replace e1 := Mr.hid e1; replace e2 := Mr.hid e2; clear e3; replace d0 := Mr.hid d0; replace d1 := Mr.hid d1; replace d2 := Mr.hid d2; replace d3 := Mr.hid d3; replace d4 := Mr.hid d4))
 replace d0 := d0.out
 replace d1 := d1.out
 replace d2 := d2.out
 replace d3 := d3.out
 replace d4 := d4.out
 refine bodyPost_ret (v := .tuple #[.agg #[.slice none 0 0, .slice none 0 0, .slice none 0 0, .slice none 0 0, .slice none 0 0], .int .i64 121]) (by simp [results, Tryz.results30, go_sem, d0, d1, d2, d3, d4]) rfl ?_
 exact ⟨_, _, _, _, _, rfl, e1.out, e2.out⟩
theorem far_set9 (w : World) (b o : Nat) (c : Cq) {k : Nat} (hk : b ≠ k) : (((((((((w.setCell ⟨b, o, none⟩ (.int .i64 c.th)).setCell ⟨b, o + 1, none⟩ (.int .i64 c.op)).setCell ⟨b, o + 2, none⟩ (.int .i64 c.arg)).setCell ⟨b, o + 3, none⟩ (.int .i64 c.data)).setCell ⟨b, o + 4, none⟩ (.int .i64 c.beg)).setCell ⟨b, o + 5, none⟩ (.int .i64 c.fin)).setCell ⟨b, o + 6, none⟩ (.int .i64 c.pt)).setCell ⟨b, o + 7, none⟩ (.int .i64 c.ak)).setCell ⟨b, o + 8, none⟩ (.int .i64 c.av)).heap[k]? = w.heap[k]? := by
 have e : ∀ (w : World) (q : Nat) (v : Value), (w.setCell ⟨b, q, none⟩ v).heap[k]? = w.heap[k]? := fun w q v => by
  have := ((Fr.refl w (fun q => q = b)).setCell ⟨b, q, none⟩ v (Or.inl rfl))
  by_cases hl : k < w.heap.size
  ·exact this.block k hl (fun h => hk h.symm)
  ·simp [World.setCell, Array.getElem?_modify, hk]
 rw [e, e, e, e, e, e, e, e, e]
set_option maxHeartbeats 16000000 in
theorem left_early (hv : Sl W T 9 v cs.length (cqs cs)) (hu : Sl W T' 1 u o.length (ints o)) (hsm : cs.length * 72 ≤ 140737488355328) (hso : o.length * 8 ≤ 281474976710656) (hm : MayC cs) (hO : IsOrd cs o) (hT : ¬ InT (ordc cs o) (ordc cs o).length) :
  Calls Tryz.prog 30 #[v, u] W fun e w' => ∃ v0 v1 v2 v3 v4, e = .returned (.tuple #[.agg #[v0, v1, v2, v3, v4], .int .i64 122]) ∧ CtAt w' (fun k => W.heap.size ≤ k) v0 v1 v2 v3 v4 ct0 ∧ Below W.heap.size W w' := by
 have PM := fun w' (hB : Below W.heap.size W w') => may_any (hv.below hB) (by omega)
 rw [mayB_true hm] at PM
 have IQ := fun w' (hB : Below W.heap.size W w') => isOrder_any (hv.below hB) (hu.below hB) (by omega) hso true (by simp [hO])
 obtain ⟨a, cap, rfl, hcap⟩ := hv.form
 obtain ⟨au, cu, rfl, hcu⟩ := hu.form
 have R0 : ∀ w1, w1 = W.alloc (ctO (.slice none 0 0) (.slice none 0 0) (.slice none 0 0) (.slice none 0 0) (.slice none 0 0)) → Rb W w1 := by
  rintro w1 rfl
  exact ⟨(Below.refl _ _).alloc (Nat.le_refl _) _, new_at _ _ _ rfl⟩
 unfold ctO at R0
 replace R0 := Mr.hid R0
 have hol := hO.len
 have hfo := fit_ordc hm hO
 have hobj := hO.obj
 obtain ⟨os, hos⟩ : ∃ os, os = ordc cs o := ⟨_, rfl⟩
 have hosl : os.length = o.length := by rw [hos, ordc_len]
 rw [← hos] at hT hfo hobj
 obtain ⟨n, hn⟩ : ∃ n, n = cs.length := ⟨_, rfl⟩
 obtain ⟨m, hm1⟩ : ∃ m, m = o.length := ⟨_, rfl⟩
 rw [← hn, ← hm1]
 rw [← hn] at hsm hol PM IQ
 rw [← hm1] at hso hu hcu hol hosl IQ
 have hmk := fun w => makeC w os (by rw [hosl]; omega)
 rw [hosl] at hmk
 replace hn := Mr.hid hn
 replace hm1 := Mr.hid hm1
 replace hosl := Mr.hid hosl
 replace hos := Mr.hid hos
 replace hv := Mr.hid hv
 replace hu := Mr.hid hu
 replace PM := Mr.hid PM
 replace IQ := Mr.hid IQ
 replace hO := Mr.hid hO
 replace hm := Mr.hid hm
 replace hfo := Mr.hid hfo
 replace hobj := Mr.hid hobj
 replace hT := Mr.hid hT
 clear hcap hcu
 go_enter Tryz.func30, Tryz.ntmps30
 go_upto_region 6 with (first
  | (go_at_call 19; refine (PM.out _ (R0.out _ rfl).bel).mono ?_; clear PM; rintro e w2 ⟨rfl, hB2⟩; have hR := (R0.out _ rfl).below hB2; clear R0 hB2; replace hR := Mr.hid hR)
  | (go_at_call 48; refine (IQ.out _ hR.out.bel).mono ?_; clear IQ; rintro e w3 ⟨rfl, hB3⟩; replace hR := hR.out.below hB3; clear hB3; replace hR := Mr.hid hR))
 have hL : Lb W (w3.alloc (.cells (cqs (lay os 0)).toArray 30 (0, 0))) w3.heap.size os 0 := ⟨hR.out.bel.alloc hR.out.bel.size _, hR.out.bel.size, new_at _ _ _ rfl⟩
 have hR4 := hR.out.below ((Below.refl w3.heap.size w3).alloc (Nat.le_refl _) (.cells (cqs (lay os 0)).toArray 30 (0, 0)))
 have hbn : w3.heap.size ≠ W.heap.size := by have := (Array.getElem?_eq_some_iff.1 hR.out.res).1; omega
 clear hR hmk
 generalize (w3.alloc (.cells (cqs (lay os 0)).toArray 30 (0, 0))) = w4 at *
 generalize w3.heap.size = bl at *
 replace hL := Mr.hid hL
 replace hR := Mr.hid hR4
 clear hR4
 go_wp2
 go_loopg [28] m (fun q s28 wr => ∃ k : Nat, s28 = .int .i64 (k : Int) ∧ k + q = m ∧ Lb W wr bl os k ∧ Rb W wr)
 case atStart => exact ⟨0, rfl, by omega, hL.out, hR.out⟩
 case round =>
  clear hL hR
  obtain ⟨k, rfl, hk, hL, hR⟩ := hrel
  by_cases hlt : k < m
  ·obtain ⟨y, hy⟩ : ∃ y, o[k]? = some y := ⟨o[k]'(by have := hm1.out; omega), List.getElem?_eq_getElem _⟩
   obtain ⟨j, c, rfl, hcj, _⟩ := hO.out.at hy
   have hck : os[k]? = some c := by rw [hos.out]; exact ordc_get hy hcj
   have hjn : j < n := by rw [hn.out]; exact (List.getElem?_eq_some_iff.1 hcj).1
   obtain ⟨bc, oc, rfl, A9⟩ := call_at (hv.out.below hL.bel) hcj
   obtain ⟨hcl, g0, g1, g2, g3, g4, g5, g6, g7, g8⟩ := A9
   obtain ⟨bo, oo, c1, e1, _, _, hol2, r1⟩ := (hu.out.below hL.bel).there (by omega)
   cases e1
   have ko := r1 k _ (by rw [ints, List.getElem?_map, hy]; rfl)
   obtain ⟨⟨hll, q0, q1, q2, q3, q4, q5, q6, q7, q8⟩, fz⟩ := hL.get (by have := hosl.out; omega)
   have f0 := fz 0 (by omega)
   have f1 := fz 1 (by omega)
   have f2 := fz 2 (by omega)
   have f3 := fz 3 (by omega)
   have f4 := fz 4 (by omega)
   have f5 := fz 5 (by omega)
   have f6 := fz 6 (by omega)
   have f7 := fz 7 (by omega)
   have f8 := fz 8 (by omega)
   rw [Nat.add_zero] at f0
   have hjI : (j : Int) < (n : Int) := by omega
   have hlI : (k : Int) < (m : Int) := by omega
   have hw1 : IntKind.i64.wrap ((k : Int) + 1) = (k : Int) + 1 := i64x _ (by omega) (by omega)
   have hLn := hL.next hck
   have hRn : Rb W (put9 wr bl (k * 9) c) := ⟨hLn.bel, by unfold put9; rw [far_set9 _ _ _ _ hbn]; exact hR.res⟩
   unfold put9 at hLn hRn
   clear r1 fz
   replace hLn := Mr.hid hLn
   replace hRn := Mr.hid hRn
   replace hL := Mr.hid hL
   replace hR := Mr.hid hR
   replace hck := Mr.hid hck
   replace hcj := Mr.hid hcj
   replace hy := Mr.hid hy
   go_wp2
   go_roundg (gk - 1)
   case measure => omega
   case rel => exact ⟨k + 1, by simp, by omega, hLn.out, hRn.out⟩
  ·have hkm : k = os.length := by have := hosl.out; omega
   rw [hkm] at hL
   clear hkm
   have dl : decide ((k : Int) < (m : Int)) = false := decide_eq_false (by omega)
   have hS := hL.sl
   rw [hosl.out] at hS
   have IT := inTime_any hL.sl (by rw [hosl.out]; omega) hfo.out false (by simp [hT.out])
   rw [hosl.out] at IT
   replace IT := Mr.hid IT
   replace hS := Mr.hid hS
   replace hL := Mr.hid hL
   go_wp2_with (go_at_call 49; refine IT.out.mono ?_; clear IT; rintro e w5 ⟨rfl, hB5⟩; replace hR := hR.below hB5; have hS5 := Mr.hid (hS.out.below hB5); clear hB5; obtain ⟨e1, e2, e3⟩ := end5a (v0 := (.slice none 0 0)) (v1 := (.slice none 0 0)) (v2 := (.slice none 0 0)) (v3 := (.slice none 0 0)) (v4 := (.slice none 0 0)) hR.bel (b := W.heap.size) (Nat.le_refl _) hR.res (ct0_at _ (fun k => W.heap.size + 1 ≤ k)) (fun k hk => by omega); obtain ⟨r0, r1, r2, r3, r4, rl⟩ := ctO_cells hR.res; obtain ⟨f0, f1, f2, f3, f4⟩ := ctO_thaw hR.res; obtain ⟨d0, d1, d2, d3, d4, -⟩ := ctO_cells e3; unfold set5 at e1 e2 d0 d1 d2 d3 d4; replace e1 := Mr.hid e1; replace e2 := Mr.hid e2; clear e3; replace d0 := Mr.hid d0; replace d1 := Mr.hid d1; replace d2 := Mr.hid d2; replace d3 := Mr.hid d3; replace d4 := Mr.hid d4)
   replace d0 := d0.out
   replace d1 := d1.out
   replace d2 := d2.out
   replace d3 := d3.out
   replace d4 := d4.out
   refine bodyPost_ret (v := .tuple #[.agg #[.slice none 0 0, .slice none 0 0, .slice none 0 0, .slice none 0 0, .slice none 0 0], .int .i64 122]) (by simp [results, Tryz.results30, go_sem, d0, d1, d2, d3, d4]) rfl ?_
   exact ⟨_, _, _, _, _, rfl, e1.out, e2.out⟩
set_option maxHeartbeats 16000000 in
theorem left_answer (hv : Sl W T 9 v cs.length (cqs cs)) (hu : Sl W T' 1 u o.length (ints o)) (hsm : cs.length * 72 ≤ 140737488355328) (hso : o.length * 8 ≤ 281474976710656) (hm : MayC cs) (hO : IsOrd cs o) (hT : InT (ordc cs o) (ordc cs o).length) (hA : ¬ okTo ct0 (ordc cs o) o.length) :
  Calls Tryz.prog 30 #[v, u] W fun e w' => ∃ v0 v1 v2 v3 v4, e = .returned (.tuple #[.agg #[v0, v1, v2, v3, v4], .int .i64 123]) ∧ CtAt w' (fun k => W.heap.size ≤ k) v0 v1 v2 v3 v4 ct0 ∧ Below W.heap.size W w' := by
 obtain ⟨bi, bcq, hbi, hbok, hbc, hbn2⟩ := bad_first hA
 have hpl := plays_no hbok hbc hbn2
 clear hbok hbc hbn2 hA
 have PM := fun w' (hB : Below W.heap.size W w') => may_any (hv.below hB) (by omega)
 rw [mayB_true hm] at PM
 have IQ := fun w' (hB : Below W.heap.size W w') => isOrder_any (hv.below hB) (hu.below hB) (by omega) hso true (by simp [hO])
 obtain ⟨a, cap, rfl, hcap⟩ := hv.form
 obtain ⟨au, cu, rfl, hcu⟩ := hu.form
 have R0 : ∀ w1, w1 = W.alloc (ctO (.slice none 0 0) (.slice none 0 0) (.slice none 0 0) (.slice none 0 0) (.slice none 0 0)) → Rb W w1 := by
  rintro w1 rfl
  exact ⟨(Below.refl _ _).alloc (Nat.le_refl _) _, new_at _ _ _ rfl⟩
 unfold ctO at R0
 replace R0 := Mr.hid R0
 have hol := hO.len
 have hfo := fit_ordc hm hO
 have hobj := hO.obj
 obtain ⟨os, hos⟩ : ∃ os, os = ordc cs o := ⟨_, rfl⟩
 have hosl : os.length = o.length := by rw [hos, ordc_len]
 rw [← hos] at hT hfo hobj hpl
 obtain ⟨n, hn⟩ : ∃ n, n = cs.length := ⟨_, rfl⟩
 obtain ⟨m, hm1⟩ : ∃ m, m = o.length := ⟨_, rfl⟩
 rw [← hn, ← hm1]
 rw [← hn] at hsm hol PM IQ
 rw [← hm1] at hso hu hcu hol hosl IQ
 have hmk := fun w => makeC w os (by rw [hosl]; omega)
 rw [hosl] at hmk
 generalize lefts ct0 os bi = y at *
 replace hn := Mr.hid hn
 replace hm1 := Mr.hid hm1
 replace hosl := Mr.hid hosl
 replace hos := Mr.hid hos
 replace hv := Mr.hid hv
 replace hu := Mr.hid hu
 replace PM := Mr.hid PM
 replace IQ := Mr.hid IQ
 replace hO := Mr.hid hO
 replace hm := Mr.hid hm
 replace hfo := Mr.hid hfo
 replace hobj := Mr.hid hobj
 replace hT := Mr.hid hT
 clear hcap hcu
 replace hpl := Mr.hid hpl
 go_enter Tryz.func30, Tryz.ntmps30
 go_upto_region 6 with (first
  | (go_at_call 19; refine (PM.out _ (R0.out _ rfl).bel).mono ?_; clear PM; rintro e w2 ⟨rfl, hB2⟩; have hR := (R0.out _ rfl).below hB2; clear R0 hB2; replace hR := Mr.hid hR)
  | (go_at_call 48; refine (IQ.out _ hR.out.bel).mono ?_; clear IQ; rintro e w3 ⟨rfl, hB3⟩; replace hR := hR.out.below hB3; clear hB3; replace hR := Mr.hid hR))
 have hL : Lb W (w3.alloc (.cells (cqs (lay os 0)).toArray 30 (0, 0))) w3.heap.size os 0 := ⟨hR.out.bel.alloc hR.out.bel.size _, hR.out.bel.size, new_at _ _ _ rfl⟩
 have hR4 := hR.out.below ((Below.refl w3.heap.size w3).alloc (Nat.le_refl _) (.cells (cqs (lay os 0)).toArray 30 (0, 0)))
 have hbn : w3.heap.size ≠ W.heap.size := by have := (Array.getElem?_eq_some_iff.1 hR.out.res).1; omega
 clear hR hmk
 generalize (w3.alloc (.cells (cqs (lay os 0)).toArray 30 (0, 0))) = w4 at *
 generalize w3.heap.size = bl at *
 replace hL := Mr.hid hL
 replace hR := Mr.hid hR4
 clear hR4
 go_wp2
 go_loopg [28] m (fun q s28 wr => ∃ k : Nat, s28 = .int .i64 (k : Int) ∧ k + q = m ∧ Lb W wr bl os k ∧ Rb W wr)
 case atStart => exact ⟨0, rfl, by omega, hL.out, hR.out⟩
 case round =>
  clear hL hR
  obtain ⟨k, rfl, hk, hL, hR⟩ := hrel
  by_cases hlt : k < m
  ·obtain ⟨y, hy⟩ : ∃ y, o[k]? = some y := ⟨o[k]'(by have := hm1.out; omega), List.getElem?_eq_getElem _⟩
   obtain ⟨j, c, rfl, hcj, _⟩ := hO.out.at hy
   have hck : os[k]? = some c := by rw [hos.out]; exact ordc_get hy hcj
   have hjn : j < n := by rw [hn.out]; exact (List.getElem?_eq_some_iff.1 hcj).1
   obtain ⟨bc, oc, rfl, A9⟩ := call_at (hv.out.below hL.bel) hcj
   obtain ⟨hcl, g0, g1, g2, g3, g4, g5, g6, g7, g8⟩ := A9
   obtain ⟨bo, oo, c1, e1, _, _, hol2, r1⟩ := (hu.out.below hL.bel).there (by omega)
   cases e1
   have ko := r1 k _ (by rw [ints, List.getElem?_map, hy]; rfl)
   obtain ⟨⟨hll, q0, q1, q2, q3, q4, q5, q6, q7, q8⟩, fz⟩ := hL.get (by have := hosl.out; omega)
   have f0 := fz 0 (by omega)
   have f1 := fz 1 (by omega)
   have f2 := fz 2 (by omega)
   have f3 := fz 3 (by omega)
   have f4 := fz 4 (by omega)
   have f5 := fz 5 (by omega)
   have f6 := fz 6 (by omega)
   have f7 := fz 7 (by omega)
   have f8 := fz 8 (by omega)
   rw [Nat.add_zero] at f0
   have hjI : (j : Int) < (n : Int) := by omega
   have hlI : (k : Int) < (m : Int) := by omega
   have hw1 : IntKind.i64.wrap ((k : Int) + 1) = (k : Int) + 1 := i64x _ (by omega) (by omega)
   have hLn := hL.next hck
   have hRn : Rb W (put9 wr bl (k * 9) c) := ⟨hLn.bel, by unfold put9; rw [far_set9 _ _ _ _ hbn]; exact hR.res⟩
   unfold put9 at hLn hRn
   clear r1 fz
   replace hLn := Mr.hid hLn
   replace hRn := Mr.hid hRn
   replace hL := Mr.hid hL
   replace hR := Mr.hid hR
   replace hck := Mr.hid hck
   replace hcj := Mr.hid hcj
   replace hy := Mr.hid hy
   go_wp2
   go_roundg (gk - 1)
   case measure => omega
   case rel => exact ⟨k + 1, by simp, by omega, hLn.out, hRn.out⟩
  ·have hkm : k = os.length := by have := hosl.out; omega
   rw [hkm] at hL
   clear hkm
   have dl : decide ((k : Int) < (m : Int)) = false := decide_eq_false (by omega)
   have hS := hL.sl
   rw [hosl.out] at hS
   have IT := inTime_any hL.sl (by rw [hosl.out]; omega) hfo.out true (by simp [hT.out])
   rw [hosl.out] at IT
   replace IT := Mr.hid IT
   replace hpl := hpl.out
   have PL := fun w' (hS' : Sl w' (fun k => W.heap.size ≤ k) 9 (.slice (some ⟨bl, 0, none⟩) m m) m (cqs os)) => mPlay_any (cs := os) (uc := .slice (some ⟨bl, 0, none⟩) m m) (ct0_at w' (fun _ => True)) (ct0_in _) (by rw [hosl.out]; exact hS') (by rw [hosl.out]; omega) may_ct0 hobj.out
   rw [hpl] at PL
   replace PL := Mr.hid PL
   replace hpl := Mr.hid hpl
   have hge : (0 : Int) ≤ (bi : Int) := by omega
   replace hS := Mr.hid hS
   replace hL := Mr.hid hL
   go_wp2_with (first
    | (go_at_call 49; refine IT.out.mono ?_; clear IT; rintro e w5 ⟨rfl, hB5⟩; replace hR := hR.below hB5; have hS5 := Mr.hid (hS.out.below hB5); clear hB5; replace hR := Mr.hid hR)
    | (go_at_call 50; refine (PL.out _ hS5.out).mono ?_; clear PL; rintro e w6 ⟨v0, v1, v2, v3, v4, rfl, hat, hB6⟩; have hR6 := hR.out.below hB6; obtain ⟨x0, j0, rfl, _⟩ := hat.cell.form; obtain ⟨x1, j1, rfl, _⟩ := hat.stack.form; obtain ⟨x2, j2, rfl, _⟩ := hat.queue.form; obtain ⟨x3, j3, rfl, _⟩ := hat.set.form; obtain ⟨x4, j4, rfl, _⟩ := hat.table.form; generalize hg0 : y.cell.length = l0 at *; replace hg0 := Mr.hid hg0; generalize hg1 : y.stack.length = l1 at *; replace hg1 := Mr.hid hg1; generalize hg2 : y.queue.length = l2 at *; replace hg2 := Mr.hid hg2; generalize hg3 : y.set.length = l3 at *; replace hg3 := Mr.hid hg3; generalize hg4 : y.table.length = l4 at *; replace hg4 := Mr.hid hg4; have hR7 : ∀ o9, Rb W (w6.alloc o9) := (fun o9 => hR6.below ((Below.refl _ _).alloc (Nat.le_refl _) o9)); have hR8 := hR7 (ctO (.slice x0 l0 j0) (.slice x1 l1 j1) (.slice x2 l2 j2) (.slice x3 l3 j3) (.slice x4 l4 j4)); unfold ctO at hR8; obtain ⟨e1, e2, e3⟩ := end5a (v0 := (.slice none 0 0)) (v1 := (.slice none 0 0)) (v2 := (.slice none 0 0)) (v3 := (.slice none 0 0)) (v4 := (.slice none 0 0)) hR8.bel (b := W.heap.size) (Nat.le_refl _) hR8.res (ct0_at _ (fun k => W.heap.size + 1 ≤ k)) (fun k hk => by omega); obtain ⟨r0, r1, r2, r3, r4, rl⟩ := ctO_cells hR8.res; obtain ⟨f0, f1, f2, f3, f4⟩ := ctO_thaw hR8.res; obtain ⟨d0, d1, d2, d3, d4, -⟩ := ctO_cells e3; unfold set5 at e1 e2 d0 d1 d2 d3 d4; replace e1 := Mr.hid e1; replace e2 := Mr.hid e2; clear e3; replace d0 := Mr.hid d0; replace d1 := Mr.hid d1; replace d2 := Mr.hid d2; replace d3 := Mr.hid d3; replace d4 := Mr.hid d4; clear hat hB6))
   replace d0 := d0.out
   replace d1 := d1.out
   replace d2 := d2.out
   replace d3 := d3.out
   replace d4 := d4.out
   refine bodyPost_ret (v := .tuple #[.agg #[.slice none 0 0, .slice none 0 0, .slice none 0 0, .slice none 0 0, .slice none 0 0], .int .i64 123]) (by simp [results, Tryz.results30, go_sem, d0, d1, d2, d3, d4]) rfl ?_
   exact ⟨_, _, _, _, _, rfl, e1.out, e2.out⟩
set_option maxHeartbeats 16000000 in
theorem left_ok (hv : Sl W T 9 v cs.length (cqs cs)) (hu : Sl W T' 1 u o.length (ints o)) (hsm : cs.length * 72 ≤ 140737488355328) (hso : o.length * 8 ≤ 281474976710656) (hm : MayC cs) (hO : IsOrd cs o) (hT : InT (ordc cs o) (ordc cs o).length) (hA : okTo ct0 (ordc cs o) o.length) :
  Calls Tryz.prog 30 #[v, u] W fun e w' => ∃ v0 v1 v2 v3 v4, e = .returned (.tuple #[.agg #[v0, v1, v2, v3, v4], .int .i64 0]) ∧ CtAt w' (fun k => W.heap.size ≤ k) v0 v1 v2 v3 v4 (lefts ct0 (ordc cs o) o.length) ∧ Below W.heap.size W w' := by
 have hpl := plays_end (x := ct0) (cs := ordc cs o) (by rw [ordc_len]; exact hA)
 rw [ordc_len] at hpl
 clear hA
 have PM := fun w' (hB : Below W.heap.size W w') => may_any (hv.below hB) (by omega)
 rw [mayB_true hm] at PM
 have IQ := fun w' (hB : Below W.heap.size W w') => isOrder_any (hv.below hB) (hu.below hB) (by omega) hso true (by simp [hO])
 obtain ⟨a, cap, rfl, hcap⟩ := hv.form
 obtain ⟨au, cu, rfl, hcu⟩ := hu.form
 have R0 : ∀ w1, w1 = W.alloc (ctO (.slice none 0 0) (.slice none 0 0) (.slice none 0 0) (.slice none 0 0) (.slice none 0 0)) → Rb W w1 := by
  rintro w1 rfl
  exact ⟨(Below.refl _ _).alloc (Nat.le_refl _) _, new_at _ _ _ rfl⟩
 unfold ctO at R0
 replace R0 := Mr.hid R0
 have hol := hO.len
 have hfo := fit_ordc hm hO
 have hobj := hO.obj
 obtain ⟨os, hos⟩ : ∃ os, os = ordc cs o := ⟨_, rfl⟩
 have hosl : os.length = o.length := by rw [hos, ordc_len]
 rw [← hos] at hT hfo hobj hpl ⊢
 obtain ⟨n, hn⟩ : ∃ n, n = cs.length := ⟨_, rfl⟩
 obtain ⟨m, hm1⟩ : ∃ m, m = o.length := ⟨_, rfl⟩
 rw [← hn, ← hm1]
 rw [← hn] at hsm hol PM IQ
 rw [← hm1] at hso hu hcu hol hosl IQ hpl
 have hmk := fun w => makeC w os (by rw [hosl]; omega)
 rw [hosl] at hmk
 generalize lefts ct0 os m = y at *
 replace hn := Mr.hid hn
 replace hm1 := Mr.hid hm1
 replace hosl := Mr.hid hosl
 replace hos := Mr.hid hos
 replace hv := Mr.hid hv
 replace hu := Mr.hid hu
 replace PM := Mr.hid PM
 replace IQ := Mr.hid IQ
 replace hO := Mr.hid hO
 replace hm := Mr.hid hm
 replace hfo := Mr.hid hfo
 replace hobj := Mr.hid hobj
 replace hT := Mr.hid hT
 clear hcap hcu
 replace hpl := Mr.hid hpl
 go_enter Tryz.func30, Tryz.ntmps30
 go_upto_region 6 with (first
  | (go_at_call 19; refine (PM.out _ (R0.out _ rfl).bel).mono ?_; clear PM; rintro e w2 ⟨rfl, hB2⟩; have hR := (R0.out _ rfl).below hB2; clear R0 hB2; replace hR := Mr.hid hR)
  | (go_at_call 48; refine (IQ.out _ hR.out.bel).mono ?_; clear IQ; rintro e w3 ⟨rfl, hB3⟩; replace hR := hR.out.below hB3; clear hB3; replace hR := Mr.hid hR))
 have hL : Lb W (w3.alloc (.cells (cqs (lay os 0)).toArray 30 (0, 0))) w3.heap.size os 0 := ⟨hR.out.bel.alloc hR.out.bel.size _, hR.out.bel.size, new_at _ _ _ rfl⟩
 have hR4 := hR.out.below ((Below.refl w3.heap.size w3).alloc (Nat.le_refl _) (.cells (cqs (lay os 0)).toArray 30 (0, 0)))
 have hbn : w3.heap.size ≠ W.heap.size := by have := (Array.getElem?_eq_some_iff.1 hR.out.res).1; omega
 clear hR hmk
 generalize (w3.alloc (.cells (cqs (lay os 0)).toArray 30 (0, 0))) = w4 at *
 generalize w3.heap.size = bl at *
 replace hL := Mr.hid hL
 replace hR := Mr.hid hR4
 clear hR4
 go_wp2
 go_loopg [28] m (fun q s28 wr => ∃ k : Nat, s28 = .int .i64 (k : Int) ∧ k + q = m ∧ Lb W wr bl os k ∧ Rb W wr)
 case atStart => exact ⟨0, rfl, by omega, hL.out, hR.out⟩
 case round =>
  clear hL hR
  obtain ⟨k, rfl, hk, hL, hR⟩ := hrel
  by_cases hlt : k < m
  ·obtain ⟨y, hy⟩ : ∃ y, o[k]? = some y := ⟨o[k]'(by have := hm1.out; omega), List.getElem?_eq_getElem _⟩
   obtain ⟨j, c, rfl, hcj, _⟩ := hO.out.at hy
   have hck : os[k]? = some c := by rw [hos.out]; exact ordc_get hy hcj
   have hjn : j < n := by rw [hn.out]; exact (List.getElem?_eq_some_iff.1 hcj).1
   obtain ⟨bc, oc, rfl, A9⟩ := call_at (hv.out.below hL.bel) hcj
   obtain ⟨hcl, g0, g1, g2, g3, g4, g5, g6, g7, g8⟩ := A9
   obtain ⟨bo, oo, c1, e1, _, _, hol2, r1⟩ := (hu.out.below hL.bel).there (by omega)
   cases e1
   have ko := r1 k _ (by rw [ints, List.getElem?_map, hy]; rfl)
   obtain ⟨⟨hll, q0, q1, q2, q3, q4, q5, q6, q7, q8⟩, fz⟩ := hL.get (by have := hosl.out; omega)
   have f0 := fz 0 (by omega)
   have f1 := fz 1 (by omega)
   have f2 := fz 2 (by omega)
   have f3 := fz 3 (by omega)
   have f4 := fz 4 (by omega)
   have f5 := fz 5 (by omega)
   have f6 := fz 6 (by omega)
   have f7 := fz 7 (by omega)
   have f8 := fz 8 (by omega)
   rw [Nat.add_zero] at f0
   have hjI : (j : Int) < (n : Int) := by omega
   have hlI : (k : Int) < (m : Int) := by omega
   have hw1 : IntKind.i64.wrap ((k : Int) + 1) = (k : Int) + 1 := i64x _ (by omega) (by omega)
   have hLn := hL.next hck
   have hRn : Rb W (put9 wr bl (k * 9) c) := ⟨hLn.bel, by unfold put9; rw [far_set9 _ _ _ _ hbn]; exact hR.res⟩
   unfold put9 at hLn hRn
   clear r1 fz
   replace hLn := Mr.hid hLn
   replace hRn := Mr.hid hRn
   replace hL := Mr.hid hL
   replace hR := Mr.hid hR
   replace hck := Mr.hid hck
   replace hcj := Mr.hid hcj
   replace hy := Mr.hid hy
   go_wp2
   go_roundg (gk - 1)
   case measure => omega
   case rel => exact ⟨k + 1, by simp, by omega, hLn.out, hRn.out⟩
  ·have hkm : k = os.length := by have := hosl.out; omega
   rw [hkm] at hL
   clear hkm
   have dl : decide ((k : Int) < (m : Int)) = false := decide_eq_false (by omega)
   have hS := hL.sl
   rw [hosl.out] at hS
   have IT := inTime_any hL.sl (by rw [hosl.out]; omega) hfo.out true (by simp [hT.out])
   rw [hosl.out] at IT
   replace IT := Mr.hid IT
   replace hpl := hpl.out
   have PL := fun w' (hS' : Sl w' (fun k => W.heap.size ≤ k) 9 (.slice (some ⟨bl, 0, none⟩) m m) m (cqs os)) => mPlay_any (cs := os) (uc := .slice (some ⟨bl, 0, none⟩) m m) (ct0_at w' (fun _ => True)) (ct0_in _) (by rw [hosl.out]; exact hS') (by rw [hosl.out]; omega) may_ct0 hobj.out
   rw [hpl] at PL
   replace PL := Mr.hid PL
   replace hpl := Mr.hid hpl
   replace hS := Mr.hid hS
   replace hL := Mr.hid hL
   go_wp2_with (first
    | (go_at_call 49; refine IT.out.mono ?_; clear IT; rintro e w5 ⟨rfl, hB5⟩; replace hR := hR.below hB5; have hS5 := Mr.hid (hS.out.below hB5); clear hB5; replace hR := Mr.hid hR; have hRs := Mr.hid hR.out.bel.size)
    | (go_at_call 50; refine (PL.out _ hS5.out).mono ?_; clear PL; rintro e w6 ⟨v0, v1, v2, v3, v4, rfl, hat, hB6⟩; have hR6 := hR.out.below hB6; obtain ⟨x0, j0, rfl, _⟩ := hat.cell.form; obtain ⟨x1, j1, rfl, _⟩ := hat.stack.form; obtain ⟨x2, j2, rfl, _⟩ := hat.queue.form; obtain ⟨x3, j3, rfl, _⟩ := hat.set.form; obtain ⟨x4, j4, rfl, _⟩ := hat.table.form; generalize hg0 : y.cell.length = l0 at *; replace hg0 := Mr.hid hg0; generalize hg1 : y.stack.length = l1 at *; replace hg1 := Mr.hid hg1; generalize hg2 : y.queue.length = l2 at *; replace hg2 := Mr.hid hg2; generalize hg3 : y.set.length = l3 at *; replace hg3 := Mr.hid hg3; generalize hg4 : y.table.length = l4 at *; replace hg4 := Mr.hid hg4; have hR8 := hR6.below ((Below.refl w6.heap.size w6).alloc (Nat.le_refl _) (ctO (.slice x0 l0 j0) (.slice x1 l1 j1) (.slice x2 l2 j2) (.slice x3 l3 j3) (.slice x4 l4 j4))); have hlt6 := (Array.getElem?_eq_some_iff.1 hR.out.res).1; have hat8 := (hat.mono (T' := fun k => W.heap.size + 1 ≤ k) (fun k hk => by omega)).below ((Below.refl w6.heap.size w6).alloc (Nat.le_refl _) (ctO (.slice x0 l0 j0) (.slice x1 l1 j1) (.slice x2 l2 j2) (.slice x3 l3 j3) (.slice x4 l4 j4))); obtain ⟨e1, e2, e3⟩ := end5a (v0 := (.slice x0 l0 j0)) (v1 := (.slice x1 l1 j1)) (v2 := (.slice x2 l2 j2)) (v3 := (.slice x3 l3 j3)) (v4 := (.slice x4 l4 j4)) hR8.bel (b := W.heap.size) (Nat.le_refl _) hR8.res hat8 (fun k hk => by omega); obtain ⟨r0, r1, r2, r3, r4, rl⟩ := ctO_cells hR8.res; obtain ⟨f0, f1, f2, f3, f4⟩ := ctO_thaw hR8.res; obtain ⟨d0, d1, d2, d3, d4, -⟩ := ctO_cells e3; unfold ctO at r0 r1 r2 r3 r4 f0 f1 f2 f3 f4; unfold set5 ctO at e1 e2 d0 d1 d2 d3 d4; replace e1 := Mr.hid e1; replace e2 := Mr.hid e2; clear e3 hat hB6 hat8 hR8; replace d0 := Mr.hid d0; replace d1 := Mr.hid d1; replace d2 := Mr.hid d2; replace d3 := Mr.hid d3; replace d4 := Mr.hid d4))
   replace d0 := d0.out
   replace d1 := d1.out
   replace d2 := d2.out
   replace d3 := d3.out
   replace d4 := d4.out
   refine bodyPost_ret (v := .tuple #[.agg #[.slice x0 l0 j0, .slice x1 l1 j1, .slice x2 l2 j2, .slice x3 l3 j3, .slice x4 l4 j4], .int .i64 0]) (by simp [results, Tryz.results30, go_sem, d0, d1, d2, d3, d4]) rfl ?_
   exact ⟨_, _, _, _, _, rfl, e1.out, e2.out⟩
theorem left_any {code : Int} {x : Ct} (h : Rs cs o code x) (hv : Sl W T 9 v cs.length (cqs cs)) (hu : Sl W T' 1 u o.length (ints o)) (hsm : cs.length * 72 ≤ 140737488355328) (hso : o.length * 8 ≤ 281474976710656) :
  Calls Tryz.prog 30 #[v, u] W fun e w' => ∃ v0 v1 v2 v3 v4, e = .returned (.tuple #[.agg #[v0, v1, v2, v3, v4], .int .i64 code]) ∧ CtAt w' (fun k => W.heap.size ≤ k) v0 v1 v2 v3 v4 x ∧ Below W.heap.size W w' := by
 cases h with
 | calls h1 => exact left_calls hv hu hsm h1
 | order h1 h2 => exact left_order hv hu hsm hso h1 h2
 | early h1 h2 h3 => exact left_early hv hu hsm hso h1 h2 h3
 | answer h1 h2 h3 h4 => exact left_answer hv hu hsm hso h1 h2 h3 h4
 | ok h1 h2 h3 h4 => exact left_ok hv hu hsm hso h1 h2 h3 h4
end
end Go.Proofs.YtecldhngggkjjaaGreat.Wt
