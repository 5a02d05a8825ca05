/-
  SCRIPT: isNumberLike, numberOf, numbersOf.
-/
import Derived.Test.YtfhkgeoionkonaaGreatDoorScW
namespace Go.Proofs.YtfhkgeoionkonaaGreatDoor.Sc
open Go.RowKit Mr
set_option linter.unusedVariables false
set_option linter.unusedSimpArgs false
set_option maxRecDepth 100000
theorem toList_nil0 : ByteArray.toList ⟨#[]⟩ = [] := by rw [ByteArray.toList_eq]
set_option maxHeartbeats 4000000 in
theorem isNum_any (s : ByteArray) (w : World) : Calls Tryz.prog 70 #[.string s] w fun e w' => e = .returned (.bool (numLike s.data.toList)) ∧ w' = w := by
  have C := Mr.hid (fun W => Tryz.strings_TrimPrefix s ⟨#[45]⟩ W)
  have tn := toList_nil0
  have hnl : Hid (numLike s.data.toList = match Lib.trimPrefix s.data.toList [45] with | [] => false | c :: _ => decide (48 ≤ c.toNat) && decide (c.toNat ≤ 57)) := rfl
  rw [hnl.out]
  have e0 : (⟨#[45]⟩ : ByteArray).data.toList = [45] := rfl
  rw [e0] at C
  clear e0 hnl
  cases hd : Lib.trimPrefix s.data.toList [45] with
  | nil =>
    rw [hd] at C
    clear hd
    go_enter Tryz.func70, Tryz.ntmps70
    go_wp2_with (go_at_call 81; refine (C.out _).mono ?_; clear C; rintro e w1 ⟨rfl, hw⟩; obtain rfl := hw.symm)
    go_ret
    exact ⟨rfl, rfl⟩
  | cons c r =>
    rw [hd] at C
    clear hd
    obtain ⟨D, hD⟩ : ∃ D : ByteArray, D = ⟨(c :: r).toArray⟩ := ⟨_, rfl⟩
    have hsz : 0 < D.size := by rw [hD]; simp [ByteArray.size]
    have hc0 : D[0].toNat = c.toNat := by simp only [hD]; rfl
    have hne : ¬ D.toList = [] := by rw [hD, ByteArray.toList_eq]; simp
    have hne2 : D.toList.isEmpty = false := by rw [hD, ByteArray.toList_eq]; simp
    rw [← hD] at C
    have hszI : (0 : Int) < (D.size : Int) := by omega
    have key : ∀ (b1 b2 : Bool), decide (48 ≤ c.toNat) = b1 → decide (c.toNat ≤ 57) = b2 → Calls Tryz.prog 70 #[.string s] w fun e w' => e = .returned (.bool (b1 && b2)) ∧ w' = w := by
      intro b1 b2 e1 e2
      rw [← hc0] at e1 e2
      have f1 : decide ((48 : Int) ≤ (D[0].toNat : Int)) = b1 := by rw [← e1]; congr 1; exact propext ⟨fun h => by omega, fun h => by omega⟩
      have f2 : decide ((D[0].toNat : Int) ≤ 57) = b2 := by rw [← e2]; congr 1; exact propext ⟨fun h => by omega, fun h => by omega⟩
      clear hc0 hD e1 e2
      cases b1 <;> cases b2 <;> (
        go_enter Tryz.func70, Tryz.ntmps70
        go_wp2_with (go_at_call 81; refine (C.out _).mono ?_; rintro e w1 ⟨rfl, hw⟩; obtain rfl := hw.symm)
        go_ret
        exact ⟨rfl, rfl⟩)
    exact key _ _ rfl rfl
theorem ba_ext {a b : ByteArray} (h : a.data.toList = b.data.toList) : a = b := by
  have h : a.data = b.data := Array.toList_inj.mp h
  cases a; cases b; simp_all
set_option maxHeartbeats 4000000 in
theorem numberOf_any (s : ByteArray) (w : World) (hs : s.size ≤ 281474976710656) (E : Env w) :
    Calls Tryz.prog 72 #[.string s] w fun e w' => e = .returned (.tuple #[.int .i64 (numV s.data.toList), .bool (numOk s.data.toList).isSome]) ∧ Below w.heap.size w w' := by
  cases h : Lib.atoiAll s.data.toList with
  | ok v =>
    have hb := Lib.atoiAll_bounds h
    have A1 := Mr.hid (fun W => Tryz.strconv_Atoi_ok s (by omega) v h W)
    have I1 : Hid (∀ W, Below w.heap.size w W → Calls Tryz.prog 49 #[.int .i64 v] W fun e w' => e = .returned (.string (ito v)) ∧ Below W.heap.size W w') := fun W hB => itoa_any v W hb (E.below hB)
    by_cases he : Lib.itoa v = s.data.toList
    · have e1 : Hid (numOk s.data.toList = some v) := by show _ = _; unfold numOk; rw [h]; simp [he]
      have e2 : Hid (numV s.data.toList = v) := by show _ = _; unfold numV; rw [e1.out]; rfl
      rw [e1.out, e2.out]
      have e3 : ito v = s := ba_ext (by simp [ito, he])
      rw [e3] at I1
      clear h he e1 e2 e3 hb E hs
      go_enter Tryz.func72, Tryz.ntmps72
      go_upto_region 2 with (go_at_call 83; refine (A1.out _).mono ?_; clear A1; rintro e w1 ⟨rfl, hw⟩)
      have B1 : Hid (Below w.heap.size w w1) := by
        rcases hw with rfl | ⟨t, rfl⟩
        · exact Below.refl _ _
        · exact Lib.bytesWorld_below _ _ _
      clear hw
      go_wp2_with (go_at_call 49; refine (I1.out _ B1.out).mono ?_; clear I1; rintro e w2 ⟨rfl, B2⟩; replace B2 := Mr.hid B2)
      go_ret2
      exact ⟨rfl, B1.out.trans (B2.out.mono B1.out.size)⟩
    · have e1 : Hid (numOk s.data.toList = none) := by show _ = _; unfold numOk; rw [h]; simp [he]
      have e2 : Hid (numV s.data.toList = 0) := by show _ = _; unfold numV; rw [e1.out]; rfl
      rw [e1.out, e2.out]
      have e3 : ¬ (ito v).toList = s.toList := by rw [ByteArray.toList_eq, ByteArray.toList_eq]; simpa [ito] using he
      have e4 : ((ito v).toList == s.toList) = false := beq_eq_false_iff_ne.2 e3
      generalize ito v = T at *
      clear h he e1 e2 hb E hs
      go_enter Tryz.func72, Tryz.ntmps72
      go_upto_region 2 with (go_at_call 83; refine (A1.out _).mono ?_; clear A1; rintro e w1 ⟨rfl, hw⟩)
      have B1 : Hid (Below w.heap.size w w1) := by
        rcases hw with rfl | ⟨t, rfl⟩
        · exact Below.refl _ _
        · exact Lib.bytesWorld_below _ _ _
      clear hw
      go_wp2_with (go_at_call 49; refine (I1.out _ B1.out).mono ?_; clear I1; rintro e w2 ⟨rfl, B2⟩; replace B2 := Mr.hid B2)
      go_ret2
      exact ⟨rfl, B1.out.trans (B2.out.mono B1.out.size)⟩
  | «syntax» =>
    have e1 : Hid (numOk s.data.toList = none) := by show _ = _; unfold numOk; rw [h]
    have e2 : Hid (numV s.data.toList = 0) := by show _ = _; unfold numV; rw [e1.out]; rfl
    rw [e1.out, e2.out]
    obtain ⟨tp, p, hv⟩ := E.syn
    have A1 := Mr.hid (Tryz.strconv_Atoi_syntax s hs h _ w hv (.inr ⟨_, _, rfl⟩))
    clear h e1 e2 E hs hv
    go_enter Tryz.func72, Tryz.ntmps72
    go_wp2_with (go_at_call 83; refine A1.out.mono ?_; clear A1; rintro e w1 ⟨N, rfl, -, -, B1⟩; replace B1 := Mr.hid B1)
    go_ret2
    exact ⟨rfl, B1.out⟩
  | range =>
    have e1 : Hid (numOk s.data.toList = none) := by show _ = _; unfold numOk; rw [h]
    have e2 : Hid (numV s.data.toList = 0) := by show _ = _; unfold numV; rw [e1.out]; rfl
    rw [e1.out, e2.out]
    obtain ⟨tp, p, hv⟩ := E.rng
    have A1 := Mr.hid (Tryz.strconv_Atoi_range s hs h _ w hv (.inr ⟨_, _, rfl⟩))
    clear h e1 e2 E hs hv
    go_enter Tryz.func72, Tryz.ntmps72
    go_wp2_with (go_at_call 83; refine A1.out.mono ?_; clear A1; rintro e w1 ⟨N, rfl, -, -, B1⟩; replace B1 := Mr.hid B1)
    go_ret2
    exact ⟨rfl, B1.out⟩
end Go.Proofs.YtfhkgeoionkonaaGreatDoor.Sc
