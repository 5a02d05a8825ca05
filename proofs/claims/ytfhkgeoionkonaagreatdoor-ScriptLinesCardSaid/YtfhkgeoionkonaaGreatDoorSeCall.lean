/-
  SCRIPT: call and meaning, where a line has no form.
-/
import Derived.Test.YtfhkgeoionkonaaGreatDoorScEnt
namespace Go.Proofs.YtfhkgeoionkonaaGreatDoor.Sc
open Go.RowKit Mr
set_option linter.unusedVariables false
set_option linter.unusedSimpArgs false
set_option maxRecDepth 100000
set_option maxHeartbeats 8000000 in
theorem call_none (ws : List (List UInt8)) (a : Option Addr) (n c : Nat) (v : Value) (w : World) (hW : WsAt w a n ws) (hn : n ≤ 1048576) (h : callM ws (formL ws) (numsL ws) = []) :
    Calls Tryz.prog 74 #[.slice a n c, .string ⟨(formL ws).toArray⟩, v] w fun e w' => e = .returned (.slice none 0 0) ∧ Below w.heap.size w w' := by
  have hl := hW.1
  by_cases h2 : ws.length < 2
  · have d2 : decide ((n : Int) < 2) = true := decide_eq_true (by omega)
    have d3 : (n : Int) < 2 := by omega
    generalize (⟨(formL ws).toArray⟩ : ByteArray) = F at *
    clear hW h hl h2
    go_enter Tryz.func74, Tryz.ntmps74
    go_wp2
    go_ret
    exact ⟨rfl, Below.refl _ _⟩
  · have hw1 : ∃ x, ws[1]? = some x ∧ ws.getD 1 [] = x := ⟨ws[1]'(by omega), List.getElem?_eq_getElem _, by simp [List.getD_eq_getElem?_getD, List.getElem?_eq_getElem (show 1 < ws.length by omega)]⟩
    obtain ⟨x, hx, hx2⟩ := hw1
    obtain ⟨gw, rfl, hgw, hc⟩ := hW.2.resolve_left (by intro e; rw [e] at h2; simp at h2)
    have c1 := hc 1 x hx
    have d2 : decide ((n : Int) < 2) = false := decide_eq_false (by omega)
    have d3 : ¬ (n : Int) < 2 := by omega
    have d4 : (1 : Int) < (n : Int) := by omega
    rw [callM_two h2, hx2] at h
    cases hr : rowN x with
    | none =>
      have CN := Mr.hid (fun W => callNamed_none ⟨x.toArray⟩ W (rowN_none hr))
      generalize (⟨(formL ws).toArray⟩ : ByteArray) = F at *
      generalize (⟨x.toArray⟩ : ByteArray) = X at *
      clear hc hW h hl h2 hx hx2 hr
      go_enter Tryz.func74, Tryz.ntmps74
      go_wp2_with (go_at_call 84; refine (CN.out _).mono ?_; clear CN; rintro e w1 ⟨rfl, B1⟩; have hb1 : w1.heap.size < w1.heap.size + 1 := Nat.lt_succ_self _; replace B1 := Mr.hid B1)
      go_ret
      exact ⟨rfl, B1.out.alloc B1.out.size _⟩
    | some k =>
      obtain ⟨hk1, hk2⟩ := rowN_some hr
      rw [hr] at h
      have hf : formL ws ≠ fCall k := fun e => by simp [e] at h
      rw [← hk2] at c1
      have CN := Mr.hid (fun W => callNamed_some k W hk1)
      have FR := Mr.hid (fun W => form_row k hk1 W)
      have ef : ((⟨(formL ws).toArray⟩ : ByteArray).toList == (⟨(fCall k).toArray⟩ : ByteArray).toList) = false := by rw [toList_of, toList_of]; exact beq_eq_false_iff_ne.2 hf
      have ef2 : ¬ (⟨(formL ws).toArray⟩ : ByteArray).toList = (⟨(fCall k).toArray⟩ : ByteArray).toList := by rw [toList_of, toList_of]; exact hf
      generalize wdA k = xw at *
      generalize opA k = xo at *
      generalize tkA k = xt at *
      generalize (⟨(fCall k).toArray⟩ : ByteArray) = fc at *
      generalize (⟨(formL ws).toArray⟩ : ByteArray) = F at *
      clear hc hW h hl h2 hx hx2 hr hf hk2
      go_enter Tryz.func74, Tryz.ntmps74
      go_wp2_with (first | (go_at_call 84; refine (CN.out _).mono ?_; clear CN; rintro e w1 ⟨rfl, B1⟩; have hb1 : w1.heap.size < w1.heap.size + 1 := Nat.lt_succ_self _; replace B1 := Mr.hid B1) | (go_at_call 65; refine (FR.out _).mono ?_; clear FR; rintro e w2 ⟨rfl, B2⟩; have BB : Hid (Below w.heap.size w w2) := (B1.out.alloc B1.out.size _).trans (B2.mono (by simp; have := B1.out.size; omega)); clear B2))
      go_ret
      exact ⟨rfl, BB.out⟩
set_option maxHeartbeats 8000000 in
theorem meaning_none (ws : List (List UInt8)) (R T : Nat) (a : Option Addr) (n c : Nat) (v : Value) (w : World) (hW : WsAt w a n ws) (hn : n ≤ 1048576) (hsz : ∀ x ∈ ws, x.length ≤ 1048576) (hT : 1 ≤ T) (h : (mean T ws (numsL ws)).1 = []) :
    Calls Tryz.prog 55 #[.pointer (some ⟨R, 0, none⟩), .slice a n c, v] w fun e w' => e = .returned (.tuple #[.slice none 0 0, .int .i64 1]) ∧ Below w.heap.size w w' := by
  have f1 : formL ws ≠ fStep := fun e => by unfold mean at h; rw [if_pos e] at h; simp at h
  have f2 : formL ws ≠ fSteps := fun e => by unfold mean at h; rw [if_neg f1, if_pos e] at h; simp at h
  have f3 : formL ws ≠ fRounds := fun e => by
    unfold mean at h; rw [if_neg f1, if_neg f2, if_pos e] at h
    have := congrArg List.length h
    simp [rnds] at this
    omega
  have f4 : formL ws ≠ fOp := fun e => by unfold mean at h; rw [if_neg f1, if_neg f2, if_neg f3, if_pos e] at h; simp at h
  have hc : callM ws (formL ws) (numsL ws) = [] := by unfold mean at h; rw [if_neg f1, if_neg f2, if_neg f3, if_neg f4] at h; exact h
  have FO := Mr.hid (formOf_any ws a n c w hW hn hsz)
  have CL := Mr.hid (fun W (hB : Below w.heap.size w W) => call_none ws a n c v W (hW.below hB) hn hc)
  obtain ⟨F, hF⟩ : ∃ F : ByteArray, F = ⟨(formL ws).toArray⟩ := ⟨_, rfl⟩
  rw [← hF] at FO CL
  have kfStep : (F.toList == [48, 32, 46]) = false := by rw [hF, toList_of]; exact beq_eq_false_iff_ne.2 f1
  have kfSteps : (F.toList == [48, 32, 46, 32, 48]) = false := by rw [hF, toList_of]; exact beq_eq_false_iff_ne.2 f2
  have kfRounds : (F.toList == [42, 32, 48]) = false := by rw [hF, toList_of]; exact beq_eq_false_iff_ne.2 f3
  have kfOp : (F.toList == [48, 32, 111, 112, 32, 48, 32, 48, 32, 48]) = false := by rw [hF, toList_of]; exact beq_eq_false_iff_ne.2 f4
  clear hF f1 f2 f3 f4 hc hsz hW h
  go_enter Tryz.func55, Tryz.ntmps55
  go_upto_region 11 with (go_at_call 53; refine FO.out.mono ?_; clear FO; rintro e w1 ⟨rfl, B1⟩)
  have C1 := Mr.hid (CL.out w1 B1)
  clear CL
  replace B1 := Mr.hid B1
  go_wp2_with (go_at_call 74; refine C1.out.mono ?_; clear C1; rintro e w2 ⟨rfl, B2⟩; replace B2 := Mr.hid B2)
  go_ret2
  exact ⟨rfl, B1.out.trans (B2.out.mono B1.out.size)⟩
end Go.Proofs.YtfhkgeoionkonaaGreatDoor.Sc
