import Derived.Test.YtnbibkohgppjnaaGreatJ40
import Derived.Test.YtnbibkohgppjnaaGreatJ49
import Derived.Test.YtnbibkohgppjnaaGreatJ51
import Derived.Test.YtnbibkohgppjnaaGreatJ38
import Derived.Test.YtnbibkohgppjnaaGreatJ44
import Derived.Test.YtnbibkohgppjnaaGreatJ37
import Derived.Test.YtnbibkohgppjnaaGreatJ50
import Derived.Test.YtnbibkohgppjnaaGreatJ09
set_option linter.unusedVariables false
set_option linter.unusedSimpArgs false
set_option maxRecDepth 100000
namespace Go.Proofs.YtnbibkohgppjnaaGreat.Ws
open Go.RowKit Mr Md Wt
theorem pr_len_step {cs : List Cq} {i : Nat} {c : Cq} (h : cs[i]? = some c) : (pr cs (i + 1)).length = (pr cs i).length + (if obj c.op = 0 then 0 else 1) := by
 rw [pr_step h, List.length_append]
 by_cases e : obj c.op = 0 <;> simp [e]
theorem pr_len_le (cs : List Cq) (i : Nat) : (pr cs i).length ≤ i := by
 induction i with
 | zero => simp [pr, cnt1]
 | succ i ih =>
  cases h : cs[i]? with
  | none =>
   have : pr cs (i + 1) = pr cs i := by
    unfold pr
    have := List.getElem?_eq_none_iff.1 h
    rw [List.take_of_length_le (by omega), List.take_of_length_le (by omega)]
   rw [this]; omega
  | some c => rw [pr_len_step h]; split <;> omega
end Go.Proofs.YtnbibkohgppjnaaGreat.Ws
namespace Go.Proofs.YtnbibkohgppjnaaGreat.Ws
open Go.RowKit Mr Md
theorem len_le8 {cs : List Cq} (hf : ∀ c ∈ scs cs, Wt.Fit c) (h8 : (scs cs).length ≤ 8) {l : List Nat} (h : (spc (scs cs)).lm 0 ct0 = some l) : (nmo cs l).length ≤ 8 := by
 have e := (go_exp0 hf l).1 ((spc (scs cs)).lst_some _ 0 ct0 l (room_le _ _) h).1
 have h1 : l.length ≤ (scs cs).length := by
  have := List.Nodup.length_le_of_subset (l₁ := l) (l₂ := List.range (scs cs).length) e.nod (fun i hi => List.mem_range.2 (e.lt i hi))
  simpa using this
 simp [nmo]
 omega
end Go.Proofs.YtnbibkohgppjnaaGreat.Ws
namespace Go.Proofs.YtnbibkohgppjnaaGreat.Ws
open Go.RowKit Mr Md Wt
set_option maxHeartbeats 8000000 in
theorem rLong_any {W : World} {T : Nat → Prop} {v : Value} {cs : List Cq} (hv : Sl W T 9 v cs.length (cqs cs)) (hsm : cs.length * 72 ≤ 281474976710656) :
  Calls Tryz.prog 18 #[v] W fun e w' => e = .returned (.bool (decide (8 < (scs cs).length))) ∧ Below W.heap.size W w' := by
 obtain ⟨a, cap, rfl, hcap⟩ := hv.form
 obtain ⟨n, hn⟩ : ∃ n, n = cs.length := ⟨_, rfl⟩
 rw [← hn] at hsm hcap ⊢
 replace hv := Mr.hid hv
 replace hn := Mr.hid hn
 go_enter Tryz.func18, Tryz.ntmps18
 go_wp2
 go_loopg [3, 4] n (fun k s3 s4 wr => ∃ i : Nat, s3 = .int .i64 ((pr cs i).length : Int) ∧ s4 = .int .i64 (i : Int) ∧ i + k = n ∧ Below W.heap.size W wr)
 case atStart => exact ⟨0, by simp [pr, cnt1], rfl, by omega, Below.refl _ _⟩
 case round =>
  obtain ⟨i, rfl, rfl, hi, hB⟩ := hrel
  have hple := pr_len_le cs i
  by_cases hlt : i < n
  ·obtain ⟨c, hci⟩ := get_of_lt (cs := cs) (i := i) (by have := hn.out; omega)
   obtain ⟨bc, oc, rfl, A9⟩ := call_at (hv.out.below hB) hci
   obtain ⟨hbl, g0, g1, g2, g3, g4, g5, g6, g7, g8⟩ := A9
   have hlI : (i : Int) < (n : Int) := by omega
   have hw : IntKind.i64.wrap ((i : Int) + 1) = (i : Int) + 1 := i64x _ (by omega) (by omega)
   have hw2 : IntKind.i64.wrap (((pr cs i).length : Int) + 1) = ((pr cs i).length : Int) + 1 := i64x _ (by omega) (by omega)
   have hst := pr_len_step hci
   have qi : (0 : Int) ≤ (i : Int) := by omega
   have CT := fun w => rCounts_any c w
   unfold Cq.val at CT
   replace hB := Mr.hid hB
   by_cases hob : obj c.op = 0
   ·have hct1 : (obj c.op != 0) = false := by simp [hob]
    rw [hct1] at CT
    rw [if_pos hob] at hst
    replace hst := Mr.hid hst
    replace hob := Mr.hid hob
    replace CT := Mr.hid CT
    go_wp2_with (go_at_call 35; refine (CT.out _).mono ?_; clear CT; rintro e w6 ⟨rfl, hB6⟩; replace hB := Mr.hid (hB.out.trans (hB6.mono hB.out.size)); clear hB6)
    go_roundg (gk - 1)
    case measure => omega
    case rel => exact ⟨i + 1, by rw [hst.out]; simp, by simp, by omega, hB.out⟩
   ·have hct1 : (obj c.op != 0) = true := by simp [hob]
    rw [hct1] at CT
    rw [if_neg hob] at hst
    replace hst := Mr.hid hst
    replace hob := Mr.hid hob
    replace CT := Mr.hid CT
    go_wp2_with (go_at_call 35; refine (CT.out _).mono ?_; clear CT; rintro e w6 ⟨rfl, hB6⟩; replace hB := Mr.hid (hB.out.trans (hB6.mono hB.out.size)); clear hB6)
    go_roundg (gk - 1)
    case measure => omega
    case rel => exact ⟨i + 1, by rw [hst.out]; simp, by simp, by omega, hB.out⟩
  ·obtain rfl : i = n := by omega
   have hpa : (pr cs i).length = (scs cs).length := by rw [hn.out, pr_all, scs, List.length_map]
   by_cases h8 : 8 < (scs cs).length
   ·have hd : (8 : Int) < ((pr cs i).length : Int) := by omega
    replace hpa := Mr.hid hpa
    replace h8 := Mr.hid h8
    go_wp2
    go_ret
    exact ⟨by rw [decide_eq_true h8.out]; rfl, hB⟩
   ·have hd : ¬ (8 : Int) < ((pr cs i).length : Int) := by omega
    replace hpa := Mr.hid hpa
    replace h8 := Mr.hid h8
    go_wp2
    go_ret
    exact ⟨by rw [decide_eq_false h8.out]; rfl, hB⟩
noncomputable def fE (cs : List Cq) : Int := if errA cs ≠ 0 then errA cs else if (fndA cs).isSome then 0 else 124
noncomputable def fL (cs : List Cq) : List Int := if errA cs ≠ 0 then [] else (fndA cs).getD []
theorem fits_of {cs : List Cq} (h : errA cs = 0) : (∀ c ∈ scs cs, Fit c) ∧ (scs cs).length ≤ 8 ∧ mayB cs = true := by
 unfold errA at h
 cases hm : mayB cs with
 | false => rw [hm] at h; simp at h
 | true =>
  rw [hm] at h
  refine ⟨scs_fit hm, ?_, rfl⟩
  by_cases h8 : 8 < (scs cs).length
  ·simp [h8] at h
  ·omega
theorem fL_len (cs : List Cq) : (fL cs).length ≤ 8 := by
 unfold fL
 split
 ·simp
 ·rename_i h
  obtain ⟨h1, h2, _⟩ := fits_of (Classical.byContradiction h)
  rw [fndA]
  cases hq : (spc (scs cs)).lm 0 ct0 with
  | none => simp
  | some l => exact len_le8 h1 h2 hq
def FdC (W : World) (cs : List Cq) (e : Ending) (w' : World) : Prop := ∃ vr, e = .returned (.tuple #[vr, .int .i64 (fE cs)]) ∧ Has w' (fun k => W.heap.size ≤ k) 3 1 vr (fL cs).length (ints (fL cs)) ∧ Below W.heap.size W w'
theorem Find_one {W : World} {T : Nat → Prop} {v : Value} {cs : List Cq} (hv : Sl W T 9 v cs.length (cqs cs)) (hsm : cs.length * 72 ≤ 281474976710656) (hwf : ∀ c ∈ cs, WfC c) :
  Calls Tryz.prog 6 #[v] W (FdC W cs) := by
 refine (Find_any hv hsm hwf).mono ?_
 rintro e w' ⟨hB, ⟨h1, rfl⟩ | ⟨h1, h2, rfl⟩ | ⟨h1, l, vr, h2, rfl, hh⟩⟩
 ·refine ⟨_, by rw [fE, if_pos h1], ?_, hB⟩
  rw [fL, if_pos h1]
  exact Has.nil _ _ _ _
 ·refine ⟨_, by rw [fE, if_neg (by simp [h1]), h2]; rfl, ?_, hB⟩
  rw [fL, if_neg (by simp [h1]), h2]
  exact Has.nil _ _ _ _
 ·refine ⟨_, by rw [fE, if_neg (by simp [h1]), h2]; rfl, ?_, hB⟩
  rw [fL, if_neg (by simp [h1]), h2]
  exact hh
theorem nil_sl (W : World) (T : Nat → Prop) : Sl W T 1 (.slice none 0 0) ([] : List Nat).length (ints (natI [])) := Sl.nil _ _ _
set_option maxHeartbeats 8000000 in
theorem rFind_one {W : World} {v : Value} {cs : List Cq} (hv : Sl W (fun _ => True) 9 v cs.length (cqs cs)) (hsm : cs.length * 72 ≤ 281474976710656) :
  Calls Tryz.prog 7 #[v] W fun e w' => ∃ vr, e = .returned (.tuple #[vr, .int .i64 (fE cs)]) ∧ Sl w' (fun k => W.heap.size ≤ k) 1 vr (fL cs).length (ints (fL cs)) ∧ Below W.heap.size W w' := by
 have RM := fun w' (hB : Below W.heap.size W w') => rMay_any (hv.below hB) hsm
 have RL := fun w' (hB : Below W.heap.size W w') => rLong_any (hv.below hB) hsm
 by_cases hm : mayB cs = false
 ·have hE : errA cs = 120 := by simp [errA, hm]
  have hfE : fE cs = 120 := by rw [fE, if_pos (by omega), hE]
  have hfL : fL cs = [] := by rw [fL, if_pos (by omega)]
  rw [hm] at RM
  rw [hfE, hfL]
  obtain ⟨a, cap, rfl, hcap⟩ := hv.form
  generalize cs.length = n at *
  replace RM := Mr.hid RM
  clear RL hE hfE hfL hm
  go_enter Tryz.func7, Tryz.ntmps7
  go_wp2_with (go_at_call 17; refine (RM.out _ (Below.refl _ _)).mono ?_; clear RM; rintro e w1 ⟨rfl, hB1⟩)
  refine bodyPost_ret (v := .tuple #[.slice none 0 0, .int .i64 120]) (by simp [results, Tryz.results7, go_sem]) rfl ?_
  exact ⟨_, rfl, Sl.nil _ _ _, hB1⟩
 ·have hm1 : mayB cs = true := by simpa using hm
  rw [hm1] at RM
  by_cases h8 : 8 < (scs cs).length
  ·have hE : errA cs = 3 := by simp [errA, hm1, h8]
   have hfE : fE cs = 3 := by rw [fE, if_pos (by omega), hE]
   have hfL : fL cs = [] := by rw [fL, if_pos (by omega)]
   rw [hfE, hfL]
   rw [decide_eq_true h8] at RL
   obtain ⟨a, cap, rfl, hcap⟩ := hv.form
   generalize cs.length = n at *
   replace RM := Mr.hid RM
   replace RL := Mr.hid RL
   clear hE hfE hfL hm hm1 h8
   go_enter Tryz.func7, Tryz.ntmps7
   go_wp2_with (first
    | (go_at_call 17; refine (RM.out _ (Below.refl _ _)).mono ?_; clear RM; rintro e w1 ⟨rfl, hB1⟩)
    | (go_at_call 18; refine (RL.out _ hB1).mono ?_; clear RL; rintro e w2 ⟨rfl, hB2⟩))
   refine bodyPost_ret (v := .tuple #[.slice none 0 0, .int .i64 3]) (by simp [results, Tryz.results7, go_sem]) rfl ?_
   exact ⟨_, rfl, Sl.nil _ _ _, hB1.trans (hB2.mono hB1.size)⟩
  ·have hE : errA cs = 0 := by simp [errA, hm1, h8]
   have hal := alls_lst (scs_fit hm1)
   have RW := fun w' (hB : Below W.heap.size W w') => rwalk_any hsm (by omega) true (scs cs).length ct0 [] (by omega) (by simp) (by simp) (by simp) (ct0_in _) w' v _ _ _ _ _ _ (hv.below hB) (ct0_at w' _) (nil_sl w' _)
   rw [decide_eq_false h8] at RL
   generalize alls cs (scs cs).length ct0 [] = A at *
   obtain ⟨a, cap, rfl, hcap⟩ := hv.form
   generalize cs.length = n at *
   cases A with
   | nil =>
    have hf : fndA cs = none := by
     rw [fndA]
     cases hq : (spc (scs cs)).lm 0 ct0 with
     | none => rfl
     | some l => rw [hq] at hal; cases hal
    have hfE : fE cs = 124 := by rw [fE, if_neg (by omega), hf]; rfl
    have hfL : fL cs = [] := by rw [fL, if_neg (by omega), hf]; rfl
    rw [hfE, hfL]
    replace RM := Mr.hid RM
    replace RL := Mr.hid RL
    replace RW := Mr.hid RW
    clear hal hf hE hfE hfL hm hm1 h8
    go_enter Tryz.func7, Tryz.ntmps7
    go_wp2_with (first
     | (go_at_call 17; refine (RM.out _ (Below.refl _ _)).mono ?_; clear RM; rintro e w1 ⟨rfl, hB1⟩)
     | (go_at_call 18; refine (RL.out _ hB1).mono ?_; clear RL; rintro e w2 ⟨rfl, hB2⟩; replace hB2 := hB1.trans (hB2.mono hB1.size))
     | (go_at_call 19; refine (RW.out _ hB2).mono ?_; clear RW; rintro e w3 ⟨vr, rfl, hS3, hB3⟩; replace hB3 := hB2.trans (hB3.mono hB2.size); simp only [cntM, List.length_nil, if_true, Nat.zero_min]))
    refine bodyPost_ret (v := .tuple #[.slice none 0 0, .int .i64 124]) (by simp [results, Tryz.results7, go_sem]) rfl ?_
    exact ⟨_, rfl, Sl.nil _ _ _, hB3⟩
   | cons l A =>
    have hf : fndA cs = some (natI l) := by
     rw [fndA]
     cases hq : (spc (scs cs)).lm 0 ct0 with
     | none => rw [hq] at hal; cases hal
     | some l' =>
      rw [hq] at hal
      have e : l = l'.map (nd (nms cs)) := by simpa using hal
      show some (nmo cs l') = _
      rw [nmo_eq, e, natI, List.map_map]
      rfl
    have hfE : fE cs = 0 := by rw [fE, if_neg (by omega), hf]; rfl
    have hfL : fL cs = natI l := by rw [fL, if_neg (by omega), hf]; rfl
    rw [hfE, hfL]
    have hc1 : cntM true (l :: A).length = 1 := by unfold cntM; rw [if_pos rfl, List.length_cons]; omega
    rw [hc1] at RW
    have hh : hd (l :: A) = l := rfl
    rw [hh] at RW
    replace RM := Mr.hid RM
    replace RL := Mr.hid RL
    replace RW := Mr.hid RW
    clear hal hf hE hfE hfL hm hm1 h8 hc1 hh
    go_enter Tryz.func7, Tryz.ntmps7
    go_wp2_with (first
     | (go_at_call 17; refine (RM.out _ (Below.refl _ _)).mono ?_; clear RM; rintro e w1 ⟨rfl, hB1⟩)
     | (go_at_call 18; refine (RL.out _ hB1).mono ?_; clear RL; rintro e w2 ⟨rfl, hB2⟩; replace hB2 := hB1.trans (hB2.mono hB1.size))
     | (go_at_call 19; refine (RW.out _ hB2).mono ?_; clear RW; rintro e w3 ⟨vr, rfl, hS3, hB3⟩; replace hS3 := Mr.hid (hS3.mono (T' := fun k => W.heap.size ≤ k) (fun k hk => Nat.le_trans hB2.size hk)); replace hB3 := hB2.trans (hB3.mono hB2.size)))
    refine bodyPost_ret (v := .tuple #[vr, .int .i64 0]) (by simp [results, Tryz.results7, go_sem]) rfl ?_
    exact ⟨vr, rfl, by rw [natI_len]; exact hS3.out, hB3⟩
set_option maxHeartbeats 8000000 in
theorem rCount_any {W : World} {v : Value} {cs : List Cq} (hv : Sl W (fun _ => True) 9 v cs.length (cqs cs)) (hsm : cs.length * 72 ≤ 281474976710656) :
  Calls Tryz.prog 12 #[v] W fun e w' => e = .returned (.tuple #[.int .i64 (cntR cs), .int .i64 (errA cs)]) ∧ Below W.heap.size W w' := by
 have RM := fun w' (hB : Below W.heap.size W w') => rMay_any (hv.below hB) hsm
 have RL := fun w' (hB : Below W.heap.size W w') => rLong_any (hv.below hB) hsm
 by_cases hm : mayB cs = false
 ·have hE : errA cs = 120 := by simp [errA, hm]
  have hcR : cntR cs = 0 := by rw [cntR, if_neg (by omega)]
  rw [hm] at RM
  rw [hcR, hE]
  obtain ⟨a, cap, rfl, hcap⟩ := hv.form
  generalize cs.length = n at *
  replace RM := Mr.hid RM
  clear RL hE hcR hm
  go_enter Tryz.func12, Tryz.ntmps12
  go_wp2_with (go_at_call 17; refine (RM.out _ (Below.refl _ _)).mono ?_; clear RM; rintro e w1 ⟨rfl, hB1⟩)
  refine bodyPost_ret (v := .tuple #[.int .i64 0, .int .i64 120]) (by simp [results, Tryz.results12, go_sem]) rfl ?_
  exact ⟨rfl, hB1⟩
 ·have hm1 : mayB cs = true := by simpa using hm
  rw [hm1] at RM
  by_cases h8 : 8 < (scs cs).length
  ·have hE : errA cs = 3 := by simp [errA, hm1, h8]
   have hcR : cntR cs = 0 := by rw [cntR, if_neg (by omega)]
   rw [hcR, hE]
   rw [decide_eq_true h8] at RL
   obtain ⟨a, cap, rfl, hcap⟩ := hv.form
   generalize cs.length = n at *
   replace RM := Mr.hid RM
   replace RL := Mr.hid RL
   clear hE hcR hm hm1 h8
   go_enter Tryz.func12, Tryz.ntmps12
   go_wp2_with (first
    | (go_at_call 17; refine (RM.out _ (Below.refl _ _)).mono ?_; clear RM; rintro e w1 ⟨rfl, hB1⟩)
    | (go_at_call 18; refine (RL.out _ hB1).mono ?_; clear RL; rintro e w2 ⟨rfl, hB2⟩))
   refine bodyPost_ret (v := .tuple #[.int .i64 0, .int .i64 3]) (by simp [results, Tryz.results12, go_sem]) rfl ?_
   exact ⟨rfl, hB1.trans (hB2.mono hB1.size)⟩
  ·have hE : errA cs = 0 := by simp [errA, hm1, h8]
   have hcR : cntR cs = (cntA cs : Int) := by rw [cntR, if_pos hE]
   have hal := alls_cnt (scs_fit hm1)
   have RW := fun w' (hB : Below W.heap.size W w') => rwalk_any hsm (by omega) false (scs cs).length ct0 [] (by omega) (by simp) (by simp) (by simp) (ct0_in _) w' v _ _ _ _ _ _ (hv.below hB) (ct0_at w' _) (nil_sl w' _)
   rw [decide_eq_false h8] at RL
   generalize alls cs (scs cs).length ct0 [] = A at *
   have hc1 : cntM false A.length = cntA cs := by unfold cntM; rw [if_neg (by simp), hal]; rfl
   rw [hc1] at RW
   rw [hcR, hE]
   generalize cntA cs = q at *
   obtain ⟨a, cap, rfl, hcap⟩ := hv.form
   generalize cs.length = n at *
   replace RM := Mr.hid RM
   replace RL := Mr.hid RL
   replace RW := Mr.hid RW
   clear hal hE hcR hm hm1 h8 hc1
   go_enter Tryz.func12, Tryz.ntmps12
   go_wp2_with (first
    | (go_at_call 17; refine (RM.out _ (Below.refl _ _)).mono ?_; clear RM; rintro e w1 ⟨rfl, hB1⟩)
    | (go_at_call 18; refine (RL.out _ hB1).mono ?_; clear RL; rintro e w2 ⟨rfl, hB2⟩; replace hB2 := hB1.trans (hB2.mono hB1.size))
    | (go_at_call 19; refine (RW.out _ hB2).mono ?_; clear RW; rintro e w3 ⟨vr, rfl, hS3, hB3⟩; clear hS3; replace hB3 := hB2.trans (hB3.mono hB2.size)))
   refine bodyPost_ret (v := .tuple #[.int .i64 (q : Int), .int .i64 0]) (by simp [results, Tryz.results12, go_sem]) rfl ?_
   exact ⟨rfl, hB3⟩
end Go.Proofs.YtnbibkohgppjnaaGreat.Ws
namespace Go.Proofs.YtnbibkohgppjnaaGreat.Ws
open Go.RowKit Mr Md Wt
structure Kf (W w : World) (a : Option Addr) (cap : Nat) (cs : List Cq) : Prop where
 bel : Below W.heap.size W w
 tw : Sl w (fun k => W.heap.size ≤ k) 9 (.slice a (cs.length + 1) cap) (cs.length + 1) (cqs (cs ++ [mk77]))
theorem Kf.next {W w w' : World} {a : Option Addr} {cap : Nat} {cs : List Cq} (h : Kf W w a cap cs) (hB : Below w.heap.size w w') : Kf W w' a cap cs := ⟨h.bel.trans (hB.mono h.bel.size), h.tw.below hB⟩
set_option maxHeartbeats 8000000 in
theorem law_finds (v : Value) (cs : List Cq) (W : World) (hv : Sl W (fun _ => True) 9 v cs.length (cqs cs)) (hsm : cs.length * 72 ≤ 140737488351232) (hwf : ∀ c ∈ cs, WfC c) :
  Calls Tryz.prog 3 #[v] W fun e w' => e = .returned (.bool true) ∧ Below W.heap.size W w' := by
 have hfl := fL_len cs
 have TW := twin_any hv hsm
 have FN := fun w' a cap (h : Kf W w' a cap cs) => Find_one (sl_cut h.tw) (by omega) hwf
 have RF := fun w' (hB : Below W.heap.size W w') => rFind_one (hv.below hB) (by omega)
 have SI := fun w' T1 T2 u1 u2 (h1 : Sl w' T1 1 u1 (fL cs).length (ints (fL cs))) (h2 : Sl w' T2 1 u2 (fL cs).length (ints (fL cs))) => sameInts_eq h1 h2 (by omega)
 have CN := fun w' a cap (h : Kf W w' a cap cs) => Count_any (sl_cut h.tw) (by omega) hwf
 have RC := fun w' (hB : Below W.heap.size W w') => rCount_any (hv.below hB) (by omega)
 have US := fun w' a cap (h : Kf W w' a cap cs) => unspoilt_any h.tw (hv.below h.bel) hsm
 have NN := Mr.hid Wt.num_any
 obtain ⟨av, cv, rfl, hcv⟩ := hv.form
 unfold FdC at FN
 generalize fE cs = fe at *
 generalize fL cs = fl at *
 generalize cntR cs = cr at *
 generalize errA cs = ea at *
 have q1 : (fe != fe) = false := by simp
 have q2 : (cr == cr) = true := by simp
 have q3 : (ea == ea) = true := by simp
 replace TW := Mr.hid TW
 replace FN := Mr.hid FN
 replace RF := Mr.hid RF
 replace SI := Mr.hid SI
 replace CN := Mr.hid CN
 replace RC := Mr.hid RC
 replace US := Mr.hid US
 clear hv
 go_enter Tryz.func3, Tryz.ntmps3
 go_upto_region 2 with (go_at_call 5; refine TW.out.mono ?_; clear TW; rintro e w1 ⟨a, cap, rfl, hown, hB1⟩; have hK : Hid (Kf W w1 a cap cs) := ⟨hB1, hown.sl⟩; clear hown hB1)
 go_upto_region 3 with (go_at_call 6; refine (FN.out _ _ _ hK.out).mono ?_; clear FN; rintro e w2 ⟨vo, rfl, hh, hB2⟩; have hSo := Mr.hid (Sl.of_has hh); obtain ⟨ao, co, rfl, hco⟩ := hh.form; replace hK := Mr.hid (hK.out.next hB2); clear hh hB2)
 go_upto_region 4 with (go_at_call 7; refine (RF.out _ hK.out.bel).mono ?_; clear RF; rintro e w3 ⟨vp, rfl, hSp, hB3⟩; replace hSp := Mr.hid hSp; obtain ⟨ap, cp, rfl, hcp⟩ := hSp.out.form; replace hSo := Mr.hid (hSo.out.below hB3); replace hK := Mr.hid (hK.out.next hB3); clear hB3)
 go_upto_region 6 with (first
  | (go_at_call 8; refine (SI.out _ _ _ _ _ hSo.out hSp.out).mono ?_; clear SI; rintro e w4 ⟨rfl, hB4⟩; replace hK := Mr.hid (hK.out.next hB4); clear hB4)
  | (go_at_call 9; refine (NN.out _ _).mono ?_; rintro e w' ⟨rfl, rfl⟩)
  | (go_at_call 10; refine (US.out _ _ _ hK.out).mono ?_; rintro e w5 ⟨rfl, hB5⟩; replace hK := Mr.hid (hK.out.next hB5); clear hB5))
 go_upto_region 7 with (go_at_call 11; refine (CN.out _ _ _ hK.out).mono ?_; clear CN; rintro e w6 ⟨rfl, hB6⟩; replace hK := Mr.hid (hK.out.next hB6); clear hB6)
 go_upto_region 8 with (go_at_call 12; refine (RC.out _ hK.out.bel).mono ?_; clear RC; rintro e w7 ⟨rfl, hB7⟩; replace hK := Mr.hid (hK.out.next hB7); clear hB7)
 go_wp2_with (first
  | (go_at_call 9; refine (NN.out _ _).mono ?_; rintro e w' ⟨rfl, rfl⟩)
  | (go_at_call 10; refine (US.out _ _ _ hK.out).mono ?_; clear US; rintro e w8 ⟨rfl, hB8⟩; replace hK := Mr.hid (hK.out.next hB8); clear hB8))
 go_ret
 exact ⟨rfl, hK.out.bel⟩
end Go.Proofs.YtnbibkohgppjnaaGreat.Ws
