import Derived.Test.YtecldhngggkjjaaGreatJ38
import Derived.Test.YtecldhngggkjjaaGreatJ47
import Derived.Test.YtecldhngggkjjaaGreatJ49
set_option linter.unusedVariables false
set_option linter.unusedSimpArgs false
set_option maxRecDepth 100000
namespace Go.Proofs.YtecldhngggkjjaaGreat.Ws
open Go.RowKit Mr Md Wt
set_option maxHeartbeats 4000000 in
theorem lObj (op : Int) (w : World) : Calls Tryz.prog 17 #[.int .i64 op] w fun e w' => e = .returned (.int .i64 (obj op)) ∧ w' = w := by
 by_cases h : op = 22 ∨ op = 23 ∨ op = 30 ∨ op = 31 ∨ op = 40 ∨ op = 41 ∨ op = 50 ∨ op = 51 ∨ op = 52 ∨ op = 60 ∨ op = 61 ∨ op = 62
 ·rcases h with rfl | rfl | rfl | rfl | rfl | rfl | rfl | rfl | rfl | rfl | rfl | rfl
  all_goals
   go_enter Tryz.func17, Tryz.ntmps17
   go_wp2
   go_ret
   exact ⟨rfl, rfl⟩
 ·have e : obj op = 0 := by
   unfold obj
   rw [if_neg (by omega), if_neg (by omega), if_neg (by omega), if_neg (by omega), if_neg (by omega)]
  rw [e]
  have d : ∀ k : Int, (k = 22 ∨ k = 23 ∨ k = 30 ∨ k = 31 ∨ k = 40 ∨ k = 41 ∨ k = 50 ∨ k = 51 ∨ k = 52 ∨ k = 60 ∨ k = 61 ∨ k = 62) → (op == k) = false := fun k hk => by
   rw [beq_eq_false_iff_ne]; rintro rfl; exact h hk
  have d0 := d 22 (by simp)
  have d1 := d 23 (by simp)
  have d2 := d 30 (by simp)
  have d3 := d 31 (by simp)
  have d4 := d 40 (by simp)
  have d5 := d 41 (by simp)
  have d6 := d 50 (by simp)
  have d7 := d 51 (by simp)
  have d8 := d 52 (by simp)
  have d9 := d 60 (by simp)
  have da := d 61 (by simp)
  have db := d 62 (by simp)
  clear d h e
  go_enter Tryz.func17, Tryz.ntmps17
  go_wp2
  go_ret
  exact ⟨rfl, rfl⟩
theorem pr_len_step {cs : List Cq} {i : Nat} {c : Cq} (h : cs[i]? = some c) : (pr cs (i + 1)).length = (pr cs i).length + (if obj c.op = 0 then 0 else 1) := by
 rw [pr_step h, List.length_append]
 by_cases e : obj c.op = 0 <;> simp [e]
theorem pr_len_le (cs : List Cq) (i : Nat) : (pr cs i).length ≤ i := by
 induction i with
 | zero => simp [pr, cnt1]
 | succ i ih =>
  cases h : cs[i]? with
  | none =>
   have : pr cs (i + 1) = pr cs i := by
    unfold pr
    have := List.getElem?_eq_none_iff.1 h
    rw [List.take_of_length_le (by omega), List.take_of_length_le (by omega)]
   rw [this]; omega
  | some c => rw [pr_len_step h]; split <;> omega
noncomputable def srcB (cs : List Cq) : Bool := decide ((scs cs).length ≤ 8) && mayB cs
set_option maxHeartbeats 8000000 in
theorem searched_any {W : World} {T : Nat → Prop} {v : Value} {cs : List Cq} (hv : Sl W T 9 v cs.length (cqs cs)) (hsm : cs.length * 72 ≤ 140737488355328) :
  Calls Tryz.prog 10 #[v] W fun e w' => e = .returned (.bool (srcB cs)) ∧ Below W.heap.size W w' := by
 have RM := Mr.hid (fun (w' : World) (hB : Below W.heap.size W w') => rMay_any (hv.below hB) (by omega : cs.length * 72 ≤ 281474976710656))
 obtain ⟨a, cap, rfl, hcap⟩ := hv.form
 obtain ⟨n, hn⟩ : ∃ n, n = cs.length := ⟨_, rfl⟩
 rw [← hn] at hsm hcap RM ⊢
 replace hv := Mr.hid hv
 replace hn := Mr.hid hn
 have LO := Mr.hid lObj
 go_enter Tryz.func10, Tryz.ntmps10
 go_wp2
 go_loopg [3, 4] n (fun k s3 s4 wr => ∃ i : Nat, s3 = .int .i64 ((pr cs i).length : Int) ∧ s4 = .int .i64 (i : Int) ∧ i + k = n ∧ Below W.heap.size W wr)
 case atStart => exact ⟨0, by simp [pr, cnt1], rfl, by omega, Below.refl _ _⟩
 case round =>
  obtain ⟨i, rfl, rfl, hi, hB⟩ := hrel
  have hple := pr_len_le cs i
  by_cases hlt : i < n
  ·obtain ⟨c, hci⟩ := get_of_lt (cs := cs) (i := i) (by have := hn.out; omega)
   obtain ⟨bc, oc, rfl, A9⟩ := call_at (hv.out.below hB) hci
   obtain ⟨hbl, g0, g1, g2, g3, g4, g5, g6, g7, g8⟩ := A9
   have hlI : (i : Int) < (n : Int) := by omega
   have hw : IntKind.i64.wrap ((i : Int) + 1) = (i : Int) + 1 := i64x _ (by omega) (by omega)
   have hw2 : IntKind.i64.wrap (((pr cs i).length : Int) + 1) = ((pr cs i).length : Int) + 1 := i64x _ (by omega) (by omega)
   have hst := pr_len_step hci
   have qi : (0 : Int) ≤ (i : Int) := by omega
   by_cases hob : obj c.op = 0
   ·have e0 : (obj c.op == 0) = true := by simp [hob]
    rw [if_pos hob] at hst
    replace hst := Mr.hid hst
    replace hob := Mr.hid hob
    go_wp2_with (go_at_call 17; refine (LO.out _ _).mono ?_; rintro e w6 ⟨rfl, rfl⟩)
    go_roundg (gk - 1)
    case measure => omega
    case rel => exact ⟨i + 1, by rw [hst.out]; simp, by simp, by omega, hB⟩
   ·have e0 : (obj c.op == 0) = false := by simp [hob]
    rw [if_neg hob] at hst
    replace hst := Mr.hid hst
    replace hob := Mr.hid hob
    go_wp2_with (go_at_call 17; refine (LO.out _ _).mono ?_; rintro e w6 ⟨rfl, rfl⟩)
    go_roundg (gk - 1)
    case measure => omega
    case rel => exact ⟨i + 1, by rw [hst.out]; simp, by simp, by omega, hB⟩
  ·obtain rfl : i = n := by omega
   have hpa : (pr cs i).length = (scs cs).length := by rw [hn.out, pr_all, scs, List.length_map]
   have RMw := Mr.hid (RM.out _ hB)
   by_cases h8 : (scs cs).length ≤ 8
   ·have hd : ((pr cs i).length : Int) ≤ 8 := by omega
    have hsB : srcB cs = mayB cs := by simp [srcB, h8]
    replace hpa := Mr.hid hpa
    replace hsB := Mr.hid hsB
    go_wp2_with (go_at_call 11; refine RMw.out.mono ?_; rintro e w6 ⟨rfl, hB6⟩)
    go_ret
    exact ⟨by rw [hsB.out]; rfl, hB.trans (hB6.mono hB.size)⟩
   ·have hd : ¬ ((pr cs i).length : Int) ≤ 8 := by omega
    have hsB : srcB cs = false := by simp [srcB, h8]
    replace hpa := Mr.hid hpa
    replace hsB := Mr.hid hsB
    go_wp2
    go_ret
    exact ⟨by rw [hsB.out]; rfl, hB⟩
end Go.Proofs.YtecldhngggkjjaaGreat.Ws
namespace Go.Proofs.YtecldhngggkjjaaGreat.Ws
open Go.RowKit Mr Md
theorem rs_zero {cs : List Cq} {o : List Int} {x : Ct} (h : Wt.Rs cs o 0 x) : Wt.MayC cs ∧ Oks cs o := by
  generalize hz : (0 : Int) = z at h
  cases h with
  | ok h1 h2 h3 h4 => exact ⟨h1, h2, h3, h4⟩
  | calls _ => omega
  | order _ _ => omega
  | early _ _ _ => omega
  | answer _ _ _ _ => omega
theorem src_err {cs : List Cq} (h : srcB cs = true) : errA cs = 0 ∧ Wt.mayB cs = true := by
  unfold srcB at h
  rw [Bool.and_eq_true, decide_eq_true_eq] at h
  refine ⟨?_, h.2⟩
  unfold errA
  rw [h.2]
  simp
  omega
theorem fnd_eq {cs : List Cq} {l : List Nat} (h : (spc (scs cs)).lm 0 ct0 = some l) : fndA cs = some (nmo cs l) := by
  rw [fndA, h]; rfl
theorem has_max {w : World} {S : Nat → Prop} {e : TypeId} {size n : Nat} {v : Value} {xs : List Value} (h : Has w S e size v n xs) : n ≤ maxLen := by
  rcases h.2 with ⟨_, h2⟩ | ⟨g, cap, cur, _, _, _, h3, h4, _⟩
  · rw [h2]; exact Nat.zero_le _
  · exact Nat.le_trans h3 h4
theorem i64x' (x : Int) (h1 : -9223372036854775808 ≤ x) (h2 : x ≤ 9223372036854775807) : IntKind.i64.wrap x = x := Wt.i64x x h1 h2
theorem below_drews (n : Nat) (w : World) (k : Nat) : Below n w (w.drewN k) := ⟨rfl, rfl, rfl, Nat.le_refl _, fun _ _ => rfl⟩
set_option maxHeartbeats 16000000 in
theorem walk_least (v u : Value) (cs : List Cq) (o : List Int) (W : World) (hv : Sl W (fun _ => True) 9 v cs.length (cqs cs)) (hu : Sl W (fun _ => True) 1 u o.length (ints o)) (hsm : cs.length * 72 ≤ 140737488351232) (hso : o.length * 8 ≤ 140737488351232) (hwf : ∀ c ∈ cs, WfC c) :
    Calls Tryz.prog 7 #[v, u] W fun e w' => e = .returned (.bool true) ∧ Below W.heap.size W w' := by
  have AW := Mr.hid (awake_any W)
  have SR := Mr.hid (fun (w' : World) (hB : Below W.heap.size W w') => searched_any (hv.below hB) (by omega : cs.length * 72 ≤ 140737488355328))
  obtain ⟨code, xx, hRs⟩ := Wt.Rs.ex cs o
  have RC := Mr.hid (fun (w' : World) (hB : Below W.heap.size W w') => Wt.rCheck_any hRs (hv.below hB) (hu.below hB) (by omega) (by omega))
  have FN := Mr.hid (fun (w' : World) (hB : Below W.heap.size W w') => Find_any (hv.below hB) (by omega) hwf)
  have NN := Mr.hid Wt.num_any
  obtain ⟨a, cap, rfl, hcap⟩ := hv.form
  obtain ⟨b, cb, rfl, hcb⟩ := hu.form
  obtain ⟨n, hn⟩ : ∃ n, n = cs.length := ⟨_, rfl⟩
  obtain ⟨m, hm⟩ : ∃ m, m = o.length := ⟨_, rfl⟩
  rw [← hn] at hcap SR RC FN ⊢
  rw [← hm] at hcb RC ⊢
  have hmb : m ≤ 1000000000000000 := by omega
  replace hn := Mr.hid hn
  replace hm := Mr.hid hm
  replace hv := Mr.hid hv
  replace hu := Mr.hid hu
  replace hRs := Mr.hid hRs
  clear hsm hso
  go_enter Tryz.func7, Tryz.ntmps7
  go_upto_region 3 with (go_at_call 9; refine AW.out.mono ?_; rintro e w1 ⟨rfl, hB1⟩)
  clear AW
  cases hsB : srcB cs with
  | false =>
    rw [hsB] at SR
    go_wp2_with (go_at_call 10; refine (SR.out _ hB1).mono ?_; rintro e w2 ⟨rfl, hB2⟩)
    go_ret
    exact ⟨rfl, hB1.trans (hB2.mono hB1.size)⟩
  | true =>
    rw [hsB] at SR
    obtain ⟨hE, hmB⟩ := src_err hsB
    by_cases hc : code = 0
    · subst hc
      obtain ⟨hMay, hOk⟩ := rs_zero hRs.out
      obtain ⟨l, hl, hlx⟩ := find_least' (scs_fit hmB) hOk
      have hF := fnd_eq hl
      replace hlx := Mr.hid hlx
      generalize hol : nmo cs l = ol at *
      go_upto_region 5 with (first
        | (go_at_call 10; refine (SR.out _ hB1).mono ?_; rintro e w2 ⟨rfl, hB2⟩; have hB12 := hB1.trans (hB2.mono hB1.size); clear hB2 hB1)
        | (go_at_call 24; refine (RC.out _ hB12).mono ?_; rintro e w3 ⟨rfl, hB3⟩; have hB13 := hB12.trans (hB3.mono hB12.size); clear hB3 hB12))
      go_upto_region 6 with (go_at_call 12; refine (FN.out _ hB13).mono ?_; rintro e w4 ⟨hB4, ⟨h, _⟩ | ⟨_, h, _⟩ | ⟨_, l', vr, hl', rfl, hh⟩⟩; (· exact absurd hE h); (· rw [hF] at h; cases h))
      rw [hF] at hl'
      cases hl'
      have hB14 := hB13.trans (hB4.mono hB13.size)
      have hSo := Mr.hid (Sl.mono (Sl.of_has hh) (fun _ _ => trivial))
      have hSu := Mr.hid (hu.out.below hB14)
      have hol8 := has_max hh
      obtain ⟨ar, cr, hvr, hcr⟩ := hh.form
      subst hvr
      clear hB13 hB4 hh
      go_wp2_with (go_at_call 14; refine (NN.out _ _).mono ?_; rintro e w' ⟨rfl, rfl⟩)
      go_loopg [7] ol.length (fun gk s7 wr => ∃ i : Nat, s7 = .int .i64 (i : Int) ∧ i + gk = ol.length ∧ i ≤ m ∧ Below W.heap.size W wr ∧ Sl wr (fun _ => True) 1 (.slice ar ol.length cr) ol.length (ints ol) ∧ Sl wr (fun _ => True) 1 (.slice b m cb) o.length (ints o) ∧ ∀ j, j < i → ol[j]? = o[j]?)
      case atStart => exact ⟨0, rfl, by omega, by omega, hB14, hSo.out, by have := hSu.out; rw [← hm.out] at this ⊢; exact this, fun j hj => by omega⟩
      case round =>
        obtain ⟨i, rfl, hi, him, hBr, hSa, hSb, heq⟩ := hrel
        clear hB14 hSo hSu
        by_cases hlt : i < ol.length
        · by_cases hltm : i < m
          · obtain ⟨xv, hxv⟩ : ∃ xv, ol[i]? = some xv := ⟨_, List.getElem?_eq_getElem hlt⟩
            obtain ⟨yv, hyv⟩ : ∃ yv, o[i]? = some yv := ⟨_, List.getElem?_eq_getElem (by rw [← hm.out]; exact hltm)⟩
            obtain ⟨ba, oa, ca, hva, -, -, -, -⟩ := hSa.there (by omega)
            obtain ⟨bb, obb, cbb, hvb, -, -, -, -⟩ := hSb.there (by rw [← hm.out]; omega)
            cases hva
            obtain rfl : b = some ⟨bb, obb, none⟩ := by cases hvb; rfl
            clear hvb
            have cx := sl_cell hSa hxv
            have cy : wr.cell? ⟨bb, obb + i, none⟩ = some (.int .i64 yv) := by
              have := hSb
              rw [← hm.out] at this
              exact sl_cell this hyv
            have qi : (0 : Int) ≤ (i : Int) := by omega
            have q1 : (i : Int) < (ol.length : Int) := by omega
            have q2 : (i : Int) < (m : Int) := by omega
            have hw : IntKind.i64.wrap ((i : Int) + 1) = (i : Int) + 1 := i64x' _ (by omega) (by unfold maxLen at hol8; omega)
            by_cases hxy : xv = yv
            · have e0 : (xv == yv) = true := by simp [hxy]
              have heq' : ∀ j, j < i + 1 → ol[j]? = o[j]? := fun j hj => by
                rcases Nat.lt_succ_iff_lt_or_eq.1 hj with e | e
                · exact heq j e
                · subst e; rw [hxv, hyv, hxy]
              have hSa' := Mr.hid hSa
              have hSb' := Mr.hid hSb
              clear hxy hxv hyv hSa hSb
              replace heq' := Mr.hid heq'
              go_wp2
              go_quiet (fail)
              go_wp2
              go_roundg (gk - 1)
              case measure => omega
              case rel => exact ⟨i + 1, by simp, by omega, by omega, hBr.trans (below_drews _ _ _), hSa'.out.below (below_drews _ _ _), hSb'.out.below (below_drews _ _ _), heq'.out⟩
            · have e0 : (xv == yv) = false := by simp [hxy]
              have hxl : decide (xv < yv) = true := by simpa using lxi_at i hlx.out heq xv yv hxv hyv hxy
              clear hxv hyv hSa hSb
              replace hxy := Mr.hid hxy
              go_wp2
              go_quiet (fail)
              go_wp2
              go_quiet (fail)
              go_wp2
              go_ret
              exact ⟨rfl, (hBr.trans (below_drews _ _ _)).trans (below_drews _ _ _)⟩
          · obtain rfl : i = m := by omega
            have hle : Hid (ol.length ≤ i) := Mr.hid (by
              have := lxi_len i hlx.out heq (by omega) (by rw [← hm.out]; exact Nat.le_refl _) (.inr (by rw [← hm.out]; exact Nat.le_refl _))
              rw [← hm.out] at this
              exact this)
            go_wp2
            go_ret
            refine ⟨?_, hBr⟩
            show Ending.returned (Value.bool (decide (ol.length ≤ i))) = _
            rw [decide_eq_true hle.out]
        · obtain rfl : i = ol.length := by omega
          go_wp2
          go_ret
          first
          | exact ⟨rfl, hBr⟩
          | (refine ⟨?_, hBr⟩
             show Ending.returned (Value.bool (decide (ol.length ≤ m))) = _
             rw [decide_eq_true him])
    · go_wp2_with (first
        | (go_at_call 10; refine (SR.out _ hB1).mono ?_; rintro e w2 ⟨rfl, hB2⟩; have hB12 := hB1.trans (hB2.mono hB1.size); clear hB2 hB1)
        | (go_at_call 24; refine (RC.out _ hB12).mono ?_; rintro e w3 ⟨rfl, hB3⟩; have hB13 := hB12.trans (hB3.mono hB12.size); clear hB3 hB12))
      go_ret
      exact ⟨rfl, hB13⟩
theorem law_least (v : Value) (cs : List Cq) (u : Value) (o : List Int) (W : World) (hv : Sl W (fun _ => True) 9 v cs.length (cqs cs)) (hsm : cs.length * 72 ≤ 140737488351232) (hwf : ∀ c ∈ cs, WfC c) (hu : Sl W (fun _ => True) 1 u o.length (ints o)) (hso : o.length * 8 ≤ 140737488351232) :
    Calls Tryz.prog 7 #[v, u] W fun e w' => e = .returned (.bool true) ∧ Below W.heap.size W w' := walk_least v u cs o W hv hu hsm hso hwf
end Go.Proofs.YtecldhngggkjjaaGreat.Ws
