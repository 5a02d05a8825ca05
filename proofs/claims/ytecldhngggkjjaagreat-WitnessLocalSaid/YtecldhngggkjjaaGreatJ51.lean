import Derived.Test.YtecldhngggkjjaaGreatJ49
import Derived.Test.YtecldhngggkjjaaGreatJ50
set_option linter.unusedVariables false
set_option linter.unusedSimpArgs false
set_option maxRecDepth 100000
namespace Go.Proofs.YtecldhngggkjjaaGreat.Ws
open Go.RowKit Mr Md
theorem src_err' {cs : List Cq} (h : srcB cs = true) : errA cs = 0 ∧ Wt.mayB cs = true ∧ Wt.MayC cs := by
 unfold srcB at h
 rw [Bool.and_eq_true, decide_eq_true_eq] at h
 refine ⟨?_, h.2, by simpa [Wt.mayB] using h.2⟩
 unfold errA
 rw [h.2]
 simp
 omega
theorem len_le8 {cs : List Cq} (hf : ∀ c ∈ scs cs, Wt.Fit c) (h8 : (scs cs).length ≤ 8) {l : List Nat} (h : (spc (scs cs)).lm 0 ct0 = some l) : (nmo cs l).length ≤ 8 := by
 have e := (go_exp0 hf l).1 ((spc (scs cs)).lst_some _ 0 ct0 l (room_le _ _) h).1
 have h1 : l.length ≤ (scs cs).length := by
  have := List.Nodup.length_le_of_subset (l₁ := l) (l₂ := List.range (scs cs).length) e.nod (fun i hi => List.mem_range.2 (e.lt i hi))
  simpa using this
 simp [nmo]
 omega
set_option maxHeartbeats 8000000 in
theorem found_any {W : World} {v : Value} {cs : List Cq} (hv : Sl W (fun _ => True) 9 v cs.length (cqs cs)) (hsm : cs.length * 72 ≤ 140737488355328) (hwf : ∀ c ∈ cs, WfC c) (hs : srcB cs = true) :
  Calls Tryz.prog 16 #[v] W fun e w' => e = .returned (.tuple #[.bool (fndA cs).isSome, .bool true]) ∧ Below W.heap.size W w' := by
 obtain ⟨hE, hmB, hMay⟩ := src_err' hs
 have hfit := scs_fit hmB
 have h8 : (scs cs).length ≤ 8 := by
  unfold srcB at hs
  rw [Bool.and_eq_true, decide_eq_true_eq] at hs
  exact hs.1
 have FN := Mr.hid (Find_any hv (by omega) hwf)
 have CN := Mr.hid (fun (w' : World) (hB : Below W.heap.size W w') => Count_any (hv.below hB) (by omega) hwf)
 have NN := Mr.hid Wt.num_any
 have cR : cntR cs = (cntA cs : Int) := by rw [cntR, hE]; rfl
 rw [cR, hE] at CN
 clear cR
 cases hl : (spc (scs cs)).lm 0 ct0 with
 | none =>
  have hF : fndA cs = none := by rw [fndA, hl]; rfl
  have hz : cntA cs = 0 := by
   have h1 := num_pos hfit
   rcases Nat.eq_zero_or_pos (cntA cs) with e | e
   ·exact e
   ·obtain ⟨o, ho⟩ := h1.1 e
    exact absurd ho (find_none hfit hl o)
  rw [hz] at CN
  obtain ⟨a, cap, rfl, hcap⟩ := hv.form
  replace hv := Mr.hid hv
  rw [hF]
  go_enter Tryz.func16, Tryz.ntmps16
  go_upto_region 2 with (go_at_call 12; refine FN.out.mono ?_; rintro e w1 ⟨hB1, ⟨h, _⟩ | ⟨_, _, rfl⟩ | ⟨_, l, vr, hq, _⟩⟩; (· exact absurd hE h); rotate_left; (· rw [hF] at hq; cases hq))
  have CNw := Mr.hid (CN.out _ hB1)
  go_upto_region 3 with (go_at_call 13; refine CNw.out.mono ?_; rintro e w2 ⟨rfl, hB2⟩)
  go_wp2_with (go_at_call 14; refine (NN.out _ _).mono ?_; rintro e w' ⟨rfl, rfl⟩)
  refine bodyPost_ret (v := .tuple #[.bool false, .bool true]) (by simp [results, Tryz.results16, go_sem]) rfl ?_
  exact ⟨rfl, hB1.trans (hB2.mono hB1.size)⟩
 | some l =>
  have hF : fndA cs = some (nmo cs l) := by rw [fndA, hl]; rfl
  have hok := find_good hfit hl
  have hle8 := len_le8 hfit h8 hl
  have hz : 1 ≤ cntA cs := (num_pos hfit).2 ⟨_, hok⟩
  have CK := Mr.hid (fun (w' : World) (hB : Below W.heap.size W w') (u : Value) (hu : Sl w' (fun _ => True) 1 u (nmo cs l).length (ints (nmo cs l))) => Wt.check_any (Wt.Rs.ok hMay hok.1 hok.2.1 hok.2.2) (hv.below hB) hu (by omega) (by omega))
  obtain ⟨a, cap, rfl, hcap⟩ := hv.form
  replace hv := Mr.hid hv
  rw [hF]
  have hzI : (1 : Int) ≤ (cntA cs : Int) := by omega
  generalize nmo cs l = ol at *
  go_enter Tryz.func16, Tryz.ntmps16
  go_upto_region 2 with (go_at_call 12; refine FN.out.mono ?_; rintro e w1 ⟨hB1, ⟨h, _⟩ | ⟨_, hq, _⟩ | ⟨_, l', vr, hq, rfl, hh⟩⟩; (· exact absurd hE h); (· rw [hF] at hq; cases hq))
  rw [hF] at hq
  cases hq
  obtain ⟨ar, cr, hvr, hcr⟩ := hh.form
  subst hvr
  have hO := Sl.mono (Sl.of_has hh) (fun _ _ => trivial) (T' := fun _ => True)
  have CNw := Mr.hid (CN.out _ hB1)
  clear hh
  go_upto_region 3 with (go_at_call 13; refine CNw.out.mono ?_; rintro e w2 ⟨rfl, hB2⟩)
  have hB12 := hB1.trans (hB2.mono hB1.size)
  have CKw := Mr.hid (CK.out _ hB12 _ (hO.below hB2))
  clear hO hB2 hB1
  go_wp2_with (first
   | (go_at_call 14; refine (NN.out _ _).mono ?_; rintro e w' ⟨rfl, rfl⟩)
   | (go_at_call 15; refine CKw.out.mono ?_; rintro e w3 ⟨rfl, hB3⟩))
  refine bodyPost_ret (v := .tuple #[.bool true, .bool true]) (by simp [results, Tryz.results16, go_sem]) rfl ?_
  exact ⟨rfl, hB12.trans (hB3.mono hB12.size)⟩
end Go.Proofs.YtecldhngggkjjaaGreat.Ws
