import Derived.Test.YtecldhngggkjjaaGreatJ13
import Derived.Deep.LoopGhost
import Derived.BigQuiet
import Derived.Test.YtecldhngggkjjaaGreatJ51
import Derived.Test.YtecldhngggkjjaaGreatJ53
import Derived.Test.YtecldhngggkjjaaGreatJ52
set_option linter.unusedVariables false
set_option linter.unusedSimpArgs false
set_option maxRecDepth 100000
namespace Go.Proofs.YtecldhngggkjjaaGreat.Wt
open Go.RowKit Mr Md
theorem wt_call : (Tryz.prog.info? 30).map (fun i => (i.zero, i.size, i.bytes)) = some (some (.agg #[.int .i64 0, .int .i64 0, .int .i64 0, .int .i64 0, .int .i64 0, .int .i64 0, .int .i64 0, .int .i64 0, .int .i64 0]), 9, 72) := by kernel_rfl
theorem cqs_one (l : List Cq) : ∀ u ∈ cqs l, u.oneCell' = true := by
 intro u hu
 obtain ⟨c, _, h⟩ := List.mem_flatMap.1 hu
 simp [Cq.row] at h
 rcases h with rfl | rfl | rfl | rfl | rfl | rfl | rfl | rfl | rfl <;> rfl
theorem cqs_app (a b : List Cq) : cqs (a ++ b) = cqs a ++ cqs b := by simp [cqs]
theorem sl_src {w : World} {T : Nat → Prop} {size n : Nat} {a : Option Addr} {cap : Nat} {xs : List Value} (h : Sl w T size (.slice a n cap) n xs) : (a = none → n = 0) ∧ ∀ w' : World, Below w.heap.size w w' → ∀ ad, a = some ad → ∀ j u, xs[j]? = some u → w'.cell? (ad.add j) = some u := by
 obtain ⟨h1, a', cap', hv, hc, h2⟩ := h
 cases hv
 rcases h2 with rfl | ⟨b, o, rfl, hT, hl, hr⟩
 ·refine ⟨fun _ => rfl, fun w' hB ad e j u hu => ?_⟩
  have : xs = [] := List.eq_nil_of_length_eq_zero (by simpa using h1)
  subst this; simp at hu
 ·refine ⟨(fun e => by cases e), fun w' hB ad e j u hu => ?_⟩
  cases e
  rw [add1, hB.cell (p := ⟨b, _, none⟩) hl]
  exact hr j u hu
end Go.Proofs.YtecldhngggkjjaaGreat.Wt
namespace Go.Proofs.YtecldhngggkjjaaGreat.Ws
open Go.RowKit Mr Md
theorem own_fro {w : World} {S : Nat → Prop} {e : TypeId} {size n : Nat} {g o cap : Nat} {xs : List Value} (h : Md.Own w S e size (.slice (some ⟨g, o, none⟩) n cap) n xs) (hn : 0 < n) (j : Nat) : w.frozen? ⟨g, j, none⟩ = false := by
 obtain ⟨h1, a, c, hv, hc, hm, h2⟩ := h
 cases hv
 rcases h2 with h2 | ⟨g', o', cur, e', _, hg, _⟩
 ·omega
 ·cases e'
  simp [World.frozen?, hg]
theorem own_ge {w : World} {S : Nat → Prop} {e : TypeId} {size n : Nat} {g o cap : Nat} {xs : List Value} (h : Md.Own w S e size (.slice (some ⟨g, o, none⟩) n cap) n xs) (hn : 0 < n) : S g := by
 obtain ⟨h1, a, c, hv, hc, hm, h2⟩ := h
 cases hv
 rcases h2 with h2 | ⟨g', o', cur, e', hS, hg, _⟩
 ·omega
 ·cases e'
  exact hS
theorem cqs_set {cs : List Cq} {k : Nat} {c d : Cq} {j : Nat} {u : Value} (hc : cs[k]? = some c) (hj : j < 9) (hd : d.row = c.row.set j u) : (cqs cs).set (k * 9 + j) u = cqs (cs.set k d) := by
 have hk := (List.getElem?_eq_some_iff.1 hc).1
 have hl : ∀ c : Cq, c.row.length = 9 := fun _ => rfl
 have e1 : cs = cs.take k ++ c :: cs.drop (k + 1) := by
  have := List.getElem?_eq_some_iff.1 hc
  rw [← this.2, ← List.drop_eq_getElem_cons hk, List.take_append_drop]
 have e2 : cs.set k d = cs.take k ++ d :: cs.drop (k + 1) := List.set_eq_take_append_cons_drop .. |>.trans (by rw [if_pos hk])
 rw [e2]
 conv => lhs; rw [e1]
 have hp : (cqs (cs.take k)).length = k * 9 := by rw [cqs_length, List.length_take]; congr 1; omega
 have hcc : ∀ (x : Cq) (l : List Cq), cqs (x :: l) = x.row ++ cqs l := fun x l => by simp [cqs]
 rw [Wt.cqs_app, Wt.cqs_app, hcc, hcc, List.set_append_right _ _ (by rw [hp]; omega), hp, Nat.add_sub_cancel_left, List.set_append_left _ _ (by rw [hl]; exact hj), hd]
theorem wf_set {cs : List Cq} (h : ∀ c ∈ cs, WfC c) {k : Nat} {d : Cq} (hd : WfC d) : ∀ c ∈ cs.set k d, WfC c := fun c hc => by
 rcases List.mem_or_eq_of_mem_set hc with h1 | h1
 ·exact h c h1
 ·rw [h1]; exact hd
set_option maxHeartbeats 16000000 in
theorem law_longer (v : Value) (cs : List Cq) (i b e : Int) (W : World) (hv : Sl W (fun _ => True) 9 v cs.length (cqs cs)) (hsm : cs.length * 72 ≤ 140737488351232) (hwf : ∀ c ∈ cs, WfC c) (hwi : (Lit.int .i64 i).wf = true) (hwb : (Lit.int .i64 b).wf = true) (hwe : (Lit.int .i64 e).wf = true) :
  Calls Tryz.prog 3 #[v, .int .i64 i, .int .i64 b, .int .i64 e] W fun e w' => e = .returned (.bool true) ∧ Below W.heap.size W w' := by
 have AW := Mr.hid (awake_any W)
 have SR := Mr.hid (fun (w' : World) (hB : Below W.heap.size W w') => searched_any (hv.below hB) (by omega : cs.length * 72 ≤ 140737488355328))
 have FN := Mr.hid (fun (w' : World) (hB : Below W.heap.size W w') => Find_any (hv.below hB) (by omega) hwf)
 have CN := Mr.hid (fun (w' : World) (hB : Below W.heap.size W w') => Count_any (hv.below hB) (by omega) hwf)
 have NN := Mr.hid Wt.num_any
 obtain ⟨i0, hi0, hz0, hz1, hz2⟩ := Wt.parts_of Wt.wt_call
 obtain ⟨a, cap, rfl, hcap⟩ := hv.form
 obtain ⟨hs1, hs2⟩ := Wt.sl_src hv
 have hl1 := cqs_length cs
 have ho1 := Wt.cqs_one cs
 obtain ⟨n, hn⟩ : ∃ n, n = cs.length := ⟨_, rfl⟩
 rw [← hn] at hsm hcap hs1 hl1 SR FN CN ⊢
 replace hn := Mr.hid hn
 replace hs1 := Mr.hid hs1
 replace hs2 := Mr.hid hs2
 replace hl1 := Mr.hid hl1
 replace ho1 := Mr.hid ho1
 replace hv := Mr.hid hv
 go_enter Tryz.func3, Tryz.ntmps3
 go_upto_region 3 with (go_at_call 9; refine AW.out.mono ?_; rintro e w1 ⟨rfl, hB1⟩)
 clear AW
 cases hsB : srcB cs with
 | false =>
  rw [hsB] at SR
  go_wp2_with (go_at_call 10; refine (SR.out _ hB1).mono ?_; rintro e w2 ⟨rfl, hB2⟩)
  go_ret
  exact ⟨rfl, hB1.trans (hB2.mono hB1.size)⟩
 | true =>
  rw [hsB] at SR
  by_cases h0 : i < 0
  ·go_wp2_with (go_at_call 10; refine (SR.out _ hB1).mono ?_; rintro e w2 ⟨rfl, hB2⟩)
   go_ret
   exact ⟨rfl, hB1.trans (hB2.mono hB1.size)⟩
  ·by_cases h1 : (n : Int) ≤ i
   ·go_wp2_with (go_at_call 10; refine (SR.out _ hB1).mono ?_; rintro e w2 ⟨rfl, hB2⟩)
    go_ret
    exact ⟨rfl, hB1.trans (hB2.mono hB1.size)⟩
   ·obtain ⟨k, rfl⟩ : ∃ k : Nat, i = (k : Int) := ⟨i.toNat, by omega⟩
    have hk : k < n := by omega
    go_upto_region 5 with (go_at_call 10; refine (SR.out _ hB1).mono ?_; rintro e w2 ⟨rfl, hB2⟩)
    have hB12 := hB1.trans (hB2.mono hB1.size)
    clear hB1 hB2 SR
    go_upto_region 6 with (at_builtin; refine wpList_append_mine _ rfl (.tmp 31) (.tmp 32) 22 rfl (fun k => W.heap.size ≤ k) 30 i0 _ 9 72 Tryz.underlying22 hi0 hz0 hz1 hz2 rfl _ 0 [] rfl (Md.Own.zero _ _ _ _ _) a n cap (cqs cs) rfl hl1.out hs1.out (hs2.out _ (hB12.alloc hB12.size _)) ho1.out (by unfold maxLen; omega) (by omega) ?_; intro b1 cap1 w3 hown hfr)
    have hB3 : Below W.heap.size W w3 := ⟨hfr.os.trans hB12.os, hfr.tape.trans hB12.tape, hfr.output.trans hB12.output, Nat.le_trans hB12.size (Nat.le_trans (by simp) hfr.size), fun j hj => (hfr.block j (by have := hB12.size; simp <;> omega) (by omega)).trans ((Below.heap_alloc _ _ _ (Nat.lt_of_lt_of_le hj hB12.size)).trans (hB12.block j hj))⟩
    replace hown := hown.mono (T := fun k => W.heap.size ≤ k) (fun j hj => by rcases hj with hj | hj; exact hj; subst hj; have := hB12.size; simp; omega)
    rw [Nat.zero_add, List.nil_append] at hown
    clear hfr
    obtain ⟨c, hck⟩ : ∃ c, cs[k]? = some c := ⟨_, List.getElem?_eq_getElem (by have := hn.out; omega)⟩
    obtain ⟨hE, hmB, hMay⟩ := src_err' hsB
    have hfit := scs_fit hmB
    have hfc : Wt.Fit c := may_fit hmB hck
    have hlg := lgs_set hck hfc b e
    have hnn : 0 < n := by omega
    obtain ⟨bc, oc, hvb, A9⟩ := Wt.call_at (cs := cs) (by have := hown.sl; rw [hn.out] at this; exact this) hck
    cases hvb
    obtain ⟨hbl, g0, g1, g2, g3, g4, g5, g6, g7, g8⟩ := A9
    have hgb := own_ge hown hnn
    have fro := own_fro hown hnn (oc + k * 9 + 4)
    have qk : (0 : Int) ≤ (k : Int) := by omega
    have qn : (k : Int) < (n : Int) := by omega
    have hO1 := hown.put hnn (j := k * 9 + 4) (by omega) (.int .i64 (min c.beg b))
    rw [cqs_set (d := { c with beg := min c.beg b }) hck (by omega) rfl] at hO1
    have hB4 : Below W.heap.size W (w3.setCell ⟨bc, oc + (k * 9 + 4), none⟩ (.int .i64 (min c.beg b))) := hB3.setCell (p := ⟨bc, _, none⟩) hgb _
    rw [← Nat.add_assoc] at hO1 hB4
    replace hO1 := Mr.hid hO1
    clear hown hB3 hB12
    go_upto_region 7 with (fail)
    generalize hw4 : w3.setCell _ _ = w4 at *
    clear hw4 g0 g1 g2 g3 g4 g5 g6 g7 g8 hbl fro
    have hc1 : (cs.set k { c with beg := min c.beg b })[k]? = some { c with beg := min c.beg b } := List.getElem?_set_self (List.getElem?_eq_some_iff.1 hck).1
    have hdl1 : (cs.set k { c with beg := min c.beg b }).length = n := by rw [List.length_set]; exact hn.out.symm
    obtain ⟨bc', oc', hvb', A9⟩ := Wt.call_at (cs := cs.set k { c with beg := min c.beg b }) (by have := hO1.out.sl; rw [← hdl1] at this; exact this) hc1
    obtain ⟨rfl, rfl⟩ : bc = bc' ∧ oc = oc' := by cases hvb'; exact ⟨rfl, rfl⟩
    clear hvb'
    obtain ⟨hbl, g0, g1, g2, g3, g4, g5, g6, g7, g8⟩ := A9
    have fro := own_fro hO1.out hnn (oc + k * 9 + 5)
    dsimp only at g0 g1 g2 g3 g4 g5 g6 g7 g8
    by_cases hf : c.fin = -1
    ·have e0 : (c.fin == -1) = true := by simp [hf]
     have hmv : cs.set k (mvd c b e) = cs.set k { c with beg := min c.beg b } := by
      congr 1
      unfold mvd
      rw [if_pos hf]
      cases c
      simp_all
     go_upto_region 9 with (fail)
     have hB5 := hB4
     have hO2 := hO1
     rw [← hmv] at hO2
     clear hmv hO1 hc1 hdl1
     have hSd := Mr.hid (Md.Sl.mono (hO2.out.sl) (fun _ _ => trivial) (T' := fun _ => True))
     have hwd := wf_set hwf (k := k) (d := mvd c b e) (hwf c (List.mem_of_getElem? hck))
     have hdl : (cs.set k (mvd c b e)).length = n := by rw [List.length_set]; exact hn.out.symm
     have hll := lgs_scs hlg
     have hnum := lgs_num hlg
     generalize cs.set k (mvd c b e) = ds at *
     rw [← hdl] at hSd
     have RD := Mr.hid (Wt.rMay_any hSd.out (by omega))
     rw [hdl] at RD hSd
     clear hO2 g0 g1 g2 g3 g4 g5 g6 g7 g8 hbl fro qk qn
     cases hmd : Wt.mayB ds with
     | false =>
      rw [hmd] at RD
      go_wp2_with (go_at_call 11; refine RD.out.mono ?_; rintro e w6 ⟨rfl, hB6⟩)
      go_ret
      exact ⟨rfl, hB5.trans (hB6.mono hB5.size)⟩
     | true =>
      rw [hmd] at RD
      have hED : errA ds = 0 := by
       have h8 : (scs cs).length ≤ 8 := by
        unfold srcB at hsB
        rw [Bool.and_eq_true, decide_eq_true_eq] at hsB
        exact hsB.1
       unfold errA
       rw [hmd, if_neg (by simp), if_neg (by rw [hll.1]; omega)]
      have hMd : Wt.MayC ds := by simpa [Wt.mayB] using hmd
      go_upto_region 11 with (go_at_call 11; refine RD.out.mono ?_; rintro e w6 ⟨rfl, hB6⟩)
      have hB16 := hB5.trans (hB6.mono hB5.size)
      have hS6 := Mr.hid (hSd.out.below hB6)
      have FNw := Mr.hid (FN.out _ hB16)
      have c1 : cntR cs = (cntA cs : Int) := by rw [cntR, hE]; rfl
      have c2 : cntR ds = (cntA ds : Int) := by rw [cntR, hED]; rfl
      have hcc : ¬ ((cntA ds : Int) < (cntA cs : Int)) := by
       have : cntA cs ≤ cntA ds := hnum
       omega
      clear RD hSd hB6 hB5 FN
      cases hl : (spc (scs cs)).lm 0 ct0 with
      | none =>
       have hF : fndA cs = none := by rw [fndA, hl]; rfl
       go_upto_region 12 with (go_at_call 12; refine FNw.out.mono ?_; rintro e w7 ⟨hB7, ⟨h, _⟩ | ⟨_, _, rfl⟩ | ⟨_, l, vr, hq, _⟩⟩; (· exact absurd hE h); rotate_left; (· rw [hF] at hq; cases hq))
       have hB17 := hB16.trans (hB7.mono hB16.size)
       have hS7 := Mr.hid (hS6.out.below hB7)
       have CNw := Mr.hid (CN.out _ hB17)
       rw [c1, hE] at CNw
       go_upto_region 13 with (go_at_call 13; refine CNw.out.mono ?_; rintro e w8 ⟨rfl, hB8⟩)
       have hB18 := hB17.trans (hB8.mono hB17.size)
       have hS8 := Mr.hid (hS7.out.below hB8)
       have CDw := Mr.hid (Count_any (by have := hS8.out; rw [← hdl] at this; exact this) (by omega) hwd)
       rw [c2, hED, hdl] at CDw
       go_upto_region 14 with (go_at_call 13; refine CDw.out.mono ?_; rintro e w9 ⟨rfl, hB9⟩)
       go_wp2_with (go_at_call 14; refine (NN.out _ _).mono ?_; rintro e w' ⟨rfl, rfl⟩)
       go_ret
       exact ⟨rfl, hB18.trans (hB9.mono hB18.size)⟩
      | some l =>
       have hF : fndA cs = some (nmo cs l) := by rw [fndA, hl]; rfl
       have hok := lgs_oks hlg (find_good hfit hl)
       have hle8 := len_le8 hfit (by unfold srcB at hsB; rw [Bool.and_eq_true, decide_eq_true_eq] at hsB; exact hsB.1) hl
       generalize nmo cs l = ol at *
       go_upto_region 12 with (go_at_call 12; refine FNw.out.mono ?_; rintro e w7 ⟨hB7, ⟨h, _⟩ | ⟨_, h, _⟩ | ⟨_, l', vr, hq, rfl, hh⟩⟩; (· exact absurd hE h); (· rw [hF] at h; cases h))
       rw [hF] at hq
       cases hq
       obtain ⟨ar, cr, hvr, hcr⟩ := hh.form
       subst hvr
       have hO7 := Mr.hid (Md.Sl.mono (Sl.of_has hh) (fun _ _ => trivial) (T' := fun _ => True))
       have hB17 := hB16.trans (hB7.mono hB16.size)
       have hS7 := Mr.hid (hS6.out.below hB7)
       have CNw := Mr.hid (CN.out _ hB17)
       rw [c1, hE] at CNw
       clear hh
       go_upto_region 13 with (go_at_call 13; refine CNw.out.mono ?_; rintro e w8 ⟨rfl, hB8⟩)
       have hB18 := hB17.trans (hB8.mono hB17.size)
       have hS8 := Mr.hid (hS7.out.below hB8)
       have hO8 := Mr.hid (hO7.out.below hB8)
       have CDw := Mr.hid (Count_any (by have := hS8.out; rw [← hdl] at this; exact this) (by omega) hwd)
       rw [c2, hED, hdl] at CDw
       go_upto_region 14 with (go_at_call 13; refine CDw.out.mono ?_; rintro e w9 ⟨rfl, hB9⟩)
       have hB19 := hB18.trans (hB9.mono hB18.size)
       have CKw := Mr.hid (Wt.check_any (Wt.Rs.ok hMd hok.1 hok.2.1 hok.2.2) (by have := hS8.out.below hB9; rw [← hdl] at this; exact this) (hO8.out.below hB9) (by omega) (by omega))
       rw [hdl] at CKw
       go_wp2_with (first
        | (go_at_call 14; refine (NN.out _ _).mono ?_; rintro e w' ⟨rfl, rfl⟩)
        | (go_at_call 15; refine CKw.out.mono ?_; rintro e w10 ⟨rfl, hB10⟩))
       go_ret
       exact ⟨rfl, hB19.trans (hB10.mono hB19.size)⟩
    ·have e0 : (c.fin == -1) = false := by simp [hf]
     have hmv : (cs.set k { c with beg := min c.beg b }).set k { c with beg := min c.beg b, fin := max c.fin e } = cs.set k (mvd c b e) := by
      rw [List.set_set]
      congr 1
      unfold mvd
      rw [if_neg hf]
     have hO2 := hO1.out.put hnn (j := k * 9 + 5) (by omega) (.int .i64 (max c.fin e))
     rw [cqs_set (d := { c with beg := min c.beg b, fin := max c.fin e }) hc1 (by omega) rfl, hmv] at hO2
     have hB5 : Below W.heap.size W (w4.setCell ⟨bc, oc + (k * 9 + 5), none⟩ (.int .i64 (max c.fin e))) := hB4.setCell (p := ⟨bc, _, none⟩) hgb _
     rw [← Nat.add_assoc] at hO2 hB5
     replace hO2 := Mr.hid hO2
     go_upto_region 9 with (fail)
     generalize hw5 : w4.setCell _ _ = w5 at *
     clear hw5
     have hSd := Mr.hid (Md.Sl.mono (hO2.out.sl) (fun _ _ => trivial) (T' := fun _ => True))
     have hwd := wf_set hwf (k := k) (d := mvd c b e) (hwf c (List.mem_of_getElem? hck))
     have hdl : (cs.set k (mvd c b e)).length = n := by rw [List.length_set]; exact hn.out.symm
     have hll := lgs_scs hlg
     have hnum := lgs_num hlg
     generalize cs.set k (mvd c b e) = ds at *
     rw [← hdl] at hSd
     have RD := Mr.hid (Wt.rMay_any hSd.out (by omega))
     rw [hdl] at RD hSd
     clear hO2 g0 g1 g2 g3 g4 g5 g6 g7 g8 hbl fro qk qn
     cases hmd : Wt.mayB ds with
     | false =>
      rw [hmd] at RD
      go_wp2_with (go_at_call 11; refine RD.out.mono ?_; rintro e w6 ⟨rfl, hB6⟩)
      go_ret
      exact ⟨rfl, hB5.trans (hB6.mono hB5.size)⟩
     | true =>
      rw [hmd] at RD
      have hED : errA ds = 0 := by
       have h8 : (scs cs).length ≤ 8 := by
        unfold srcB at hsB
        rw [Bool.and_eq_true, decide_eq_true_eq] at hsB
        exact hsB.1
       unfold errA
       rw [hmd, if_neg (by simp), if_neg (by rw [hll.1]; omega)]
      have hMd : Wt.MayC ds := by simpa [Wt.mayB] using hmd
      go_upto_region 11 with (go_at_call 11; refine RD.out.mono ?_; rintro e w6 ⟨rfl, hB6⟩)
      have hB16 := hB5.trans (hB6.mono hB5.size)
      have hS6 := Mr.hid (hSd.out.below hB6)
      have FNw := Mr.hid (FN.out _ hB16)
      have c1 : cntR cs = (cntA cs : Int) := by rw [cntR, hE]; rfl
      have c2 : cntR ds = (cntA ds : Int) := by rw [cntR, hED]; rfl
      have hcc : ¬ ((cntA ds : Int) < (cntA cs : Int)) := by
       have : cntA cs ≤ cntA ds := hnum
       omega
      clear RD hSd hB6 hB5 FN
      cases hl : (spc (scs cs)).lm 0 ct0 with
      | none =>
       have hF : fndA cs = none := by rw [fndA, hl]; rfl
       go_upto_region 12 with (go_at_call 12; refine FNw.out.mono ?_; rintro e w7 ⟨hB7, ⟨h, _⟩ | ⟨_, _, rfl⟩ | ⟨_, l, vr, hq, _⟩⟩; (· exact absurd hE h); rotate_left; (· rw [hF] at hq; cases hq))
       have hB17 := hB16.trans (hB7.mono hB16.size)
       have hS7 := Mr.hid (hS6.out.below hB7)
       have CNw := Mr.hid (CN.out _ hB17)
       rw [c1, hE] at CNw
       go_upto_region 13 with (go_at_call 13; refine CNw.out.mono ?_; rintro e w8 ⟨rfl, hB8⟩)
       have hB18 := hB17.trans (hB8.mono hB17.size)
       have hS8 := Mr.hid (hS7.out.below hB8)
       have CDw := Mr.hid (Count_any (by have := hS8.out; rw [← hdl] at this; exact this) (by omega) hwd)
       rw [c2, hED, hdl] at CDw
       go_upto_region 14 with (go_at_call 13; refine CDw.out.mono ?_; rintro e w9 ⟨rfl, hB9⟩)
       go_wp2_with (go_at_call 14; refine (NN.out _ _).mono ?_; rintro e w' ⟨rfl, rfl⟩)
       go_ret
       exact ⟨rfl, hB18.trans (hB9.mono hB18.size)⟩
      | some l =>
       have hF : fndA cs = some (nmo cs l) := by rw [fndA, hl]; rfl
       have hok := lgs_oks hlg (find_good hfit hl)
       have hle8 := len_le8 hfit (by unfold srcB at hsB; rw [Bool.and_eq_true, decide_eq_true_eq] at hsB; exact hsB.1) hl
       generalize nmo cs l = ol at *
       go_upto_region 12 with (go_at_call 12; refine FNw.out.mono ?_; rintro e w7 ⟨hB7, ⟨h, _⟩ | ⟨_, h, _⟩ | ⟨_, l', vr, hq, rfl, hh⟩⟩; (· exact absurd hE h); (· rw [hF] at h; cases h))
       rw [hF] at hq
       cases hq
       obtain ⟨ar, cr, hvr, hcr⟩ := hh.form
       subst hvr
       have hO7 := Mr.hid (Md.Sl.mono (Sl.of_has hh) (fun _ _ => trivial) (T' := fun _ => True))
       have hB17 := hB16.trans (hB7.mono hB16.size)
       have hS7 := Mr.hid (hS6.out.below hB7)
       have CNw := Mr.hid (CN.out _ hB17)
       rw [c1, hE] at CNw
       clear hh
       go_upto_region 13 with (go_at_call 13; refine CNw.out.mono ?_; rintro e w8 ⟨rfl, hB8⟩)
       have hB18 := hB17.trans (hB8.mono hB17.size)
       have hS8 := Mr.hid (hS7.out.below hB8)
       have hO8 := Mr.hid (hO7.out.below hB8)
       have CDw := Mr.hid (Count_any (by have := hS8.out; rw [← hdl] at this; exact this) (by omega) hwd)
       rw [c2, hED, hdl] at CDw
       go_upto_region 14 with (go_at_call 13; refine CDw.out.mono ?_; rintro e w9 ⟨rfl, hB9⟩)
       have hB19 := hB18.trans (hB9.mono hB18.size)
       have CKw := Mr.hid (Wt.check_any (Wt.Rs.ok hMd hok.1 hok.2.1 hok.2.2) (by have := hS8.out.below hB9; rw [← hdl] at this; exact this) (hO8.out.below hB9) (by omega) (by omega))
       rw [hdl] at CKw
       go_wp2_with (first
        | (go_at_call 14; refine (NN.out _ _).mono ?_; rintro e w' ⟨rfl, rfl⟩)
        | (go_at_call 15; refine CKw.out.mono ?_; rintro e w10 ⟨rfl, hB10⟩))
       go_ret
       exact ⟨rfl, hB19.trans (hB10.mono hB19.size)⟩
end Go.Proofs.YtecldhngggkjjaaGreat.Ws
