/-
  CONTRACTS of Parse and its parts.
-/
import Derived.Test.YtpmpdkpnjfidhaaDoorStrShow
namespace Go.Proofs.YtpmpdkpnjfidhaaDoor.St
open Go.RowKit
open Tr Wp
set_option linter.unusedVariables false
def likSl (s : ByteArray) : Int := if s.toList == [45] then -1 else likI s
def sufA (s : ByteArray) : ByteArray := ⟨(Lib.trimSuffix s.data.toList [42]).toArray⟩
def sufF (s : ByteArray) : Bool := Lib.hasSuffix s.data.toList [42]
def linkW (i : Int) (m : Bool) : Int := if inB i (-1) 2147483646 then packLink i m else 0
def linkE (i : Int) : Int := if inB i (-1) 2147483646 then 0 else 2
def headW (t i : Int) : Int := if inB i (-1) 2147483646 then packHead t i else 0
def likL (s : ByteArray) : Int := linkW (likSl (sufA s)) (sufF s)
def likH (s : ByteArray) : Int := headW (IntKind.u32.wrap (likI (cutA s 58))) (likSl (cutB s 58))
def likW (k : Int) (s : ByteArray) : Int := if k = 0 then likH s else if k = 1 ∨ k = 4 then likL s else IntKind.u64.wrap (likI s)
theorem likSl_bd (s : ByteArray) : -9223372036854775808 ≤ likSl s ∧ likSl s ≤ 9223372036854775807 := by
  have := likI_bd s
  unfold likSl
  split <;> omega
theorem u32_bd (x : Int) : 0 ≤ IntKind.u32.wrap x ∧ IntKind.u32.wrap x ≤ 4294967295 := by
  rw [IntKind.wrap_u32]; omega
theorem u64_bd (x : Int) : 0 ≤ IntKind.u64.wrap x ∧ IntKind.u64.wrap x ≤ 18446744073709551615 := by
  rw [IntKind.wrap_u64]; omega
theorem linkW_bd (i : Int) (m : Bool) : 0 ≤ linkW i m ∧ linkW i m ≤ 18446744073709551615 := by
  unfold linkW
  split
  · rename_i h
    have hb : -1 ≤ i ∧ i ≤ 2147483646 := by simpa [inB] using h
    have := packLink_bd i m hb.1 hb.2
    omega
  · omega
theorem headW_bd (t i : Int) (h0 : 0 ≤ t) (h1 : t ≤ 4294967295) : 0 ≤ headW t i ∧ headW t i ≤ 18446744073709551615 := by
  unfold headW
  split
  · rename_i h
    have hb : -1 ≤ i ∧ i ≤ 2147483646 := by simpa [inB] using h
    unfold packHead
    omega
  · omega
theorem likW_bd (k : Int) (s : ByteArray) : 0 ≤ likW k s ∧ likW k s ≤ 18446744073709551615 := by
  unfold likW
  split
  · exact headW_bd _ _ (u32_bd _).1 (u32_bd _).2
  · split
    · exact linkW_bd _ _
    · exact u64_bd _
theorem link_all (i : Int) (m : Bool) (w : World) :
    Calls Tryd.prog 11 #[.int .i64 i, .bool m] w fun e w' => e = .returned (.tuple #[.int .u64 (linkW i m), .int .i64 (linkE i)]) ∧ w' = w := by
  by_cases h : i < -1 ∨ 2147483646 < i
  · have e : inB i (-1) 2147483646 = false := by simp [inB]; omega
    unfold linkW linkE
    rw [e]
    exact link_bad i m w h
  · have e : inB i (-1) 2147483646 = true := by simp [inB]; omega
    unfold linkW linkE
    rw [e]
    exact link_ok i m w (by omega) (by omega)
theorem head_all (t i : Int) (w : World) (h3 : 0 ≤ t) (h4 : t ≤ 4294967295) :
    Calls Tryd.prog 13 #[.int .u32 t, .int .i64 i] w fun e w' => e = .returned (.tuple #[.int .u64 (headW t i), .int .i64 (linkE i)]) ∧ w' = w := by
  by_cases h : i < -1 ∨ 2147483646 < i
  · have e : inB i (-1) 2147483646 = false := by simp [inB]; omega
    unfold headW linkE
    rw [e]
    exact head_bad t i w h
  · have e : inB i (-1) 2147483646 = true := by simp [inB]; omega
    unfold headW linkE
    rw [e]
    exact head_ok t i w (by omega) (by omega) h3 h4
theorem likelySlot_any (s : ByteArray) (w : World) (hs : s.size ≤ 281474976710656) (E : Env w) :
    Calls Tryd.prog 58 #[.string s] w fun e w' => e = .returned (.int .i64 (likSl s)) ∧ Below w.heap.size w w' := by
  cases hc : (s.toList == [45])
  · have e1 : Hid (likSl s = likI s) := by show likSl s = likI s; unfold likSl; rw [hc]; rfl
    go_enter Tryd.func58, Tryd.ntmps58
    go_wp2_with fail
    refine (likelyInt_any _ _ hs E).mono ?_
    rintro e w1 ⟨rfl, B1⟩
    go_wp2_with fail
    go_ret
    exact ⟨by rw [e1.out]; rfl, B1⟩
  · have e1 : Hid (likSl s = -1) := by show likSl s = -1; unfold likSl; rw [hc]; rfl
    go_enter Tryd.func58, Tryd.ntmps58
    go_wp2_with fail
    go_ret
    exact ⟨by rw [e1.out]; rfl, Below.refl _ _⟩
theorem sufA_size (s : ByteArray) : (sufA s).size ≤ s.size := by
  show (Lib.trimSuffix s.data.toList [42]).length ≤ s.size
  unfold Lib.trimSuffix
  split
  · rw [List.length_take, Array.length_toList]
    exact Nat.min_le_right _ _
  · exact Nat.le_of_eq Array.length_toList
theorem likelyLink_any (s : ByteArray) (w : World) (hs : s.size ≤ 281474976710656) (E : Env w) :
    Calls Tryd.prog 52 #[.string s] w fun e w' => e = .returned (.int .u64 (likL s)) ∧ Below w.heap.size w w' := by
  have z := sufA_size s
  have e1 : Hid (likL s = linkW (likSl (sufA s)) (sufF s)) := rfl
  go_enter Tryd.func52, Tryd.ntmps52
  go_wp2_with fail
  refine (Tryd.strings_CutSuffix s _ _ (by omega)).mono ?_
  rintro e w1 ⟨rfl, rfl⟩
  change Hid (likL s = linkW (likSl (⟨(Lib.trimSuffix s.data.toList [42]).toArray⟩)) (Lib.hasSuffix s.data.toList [42])) at e1
  change (⟨(Lib.trimSuffix s.data.toList [42]).toArray⟩ : ByteArray).size ≤ s.size at z
  generalize (⟨(Lib.trimSuffix s.data.toList [42]).toArray⟩ : ByteArray) = a at *
  generalize Lib.hasSuffix s.data.toList [42] = f at *
  go_wp2_with fail
  refine (likelySlot_any _ _ (by omega) E).mono ?_
  rintro e w2 ⟨rfl, B2⟩
  go_wp2_with fail
  refine (link_all _ _ _).mono ?_
  rintro e w3 ⟨rfl, rfl⟩
  go_wp2_with fail
  go_ret
  exact ⟨by rw [e1.out]; rfl, B2⟩
set_option maxHeartbeats 1000000 in
theorem likelyHead_any (s : ByteArray) (w : World) (hs : s.size ≤ 281474976710656) (E : Env w) :
    Calls Tryd.prog 51 #[.string s] w fun e w' => e = .returned (.int .u64 (likH s)) ∧ Below w.heap.size w w' := by
  have z1 := cutA_size s 58
  have z2 := cutB_size s 58
  have e1 : Hid (likH s = headW (IntKind.u32.wrap (likI (cutA s 58))) (likSl (cutB s 58))) := rfl
  go_enter Tryd.func51, Tryd.ntmps51
  go_wp2_with fail
  refine (cut_any s _ _ hs).mono ?_
  rintro e w1 ⟨rfl, B1⟩
  have V1 := E.below B1
  generalize cutA s 58 = a at *
  generalize cutB s 58 = b at *
  generalize cutF s 58 = f at *
  go_wp2_with fail
  refine (likelyInt_any _ _ (by omega) V1).mono ?_
  rintro e w2 ⟨rfl, B2⟩
  have V2 := V1.below B2
  have B2 := seqB B1 B2 (Nat.le_refl _)
  have hu := u32_bd (likI a)
  generalize likI a = x at *
  clear B1 V1
  go_wp2_with fail
  refine (likelySlot_any _ _ (by omega) V2).mono ?_
  rintro e w3 ⟨rfl, B3⟩
  have B3 := seqB B2 B3 (Nat.le_refl _)
  clear B2 V2
  generalize likSl b = y at *
  go_wp2_with fail
  refine (head_all _ _ _ hu.1 hu.2).mono ?_
  rintro e w4 ⟨rfl, rfl⟩
  go_wp2_with fail
  go_ret
  exact ⟨by rw [e1.out]; rfl, B3⟩
theorem likelyWord_any (k : Int) (s : ByteArray) (w : World) (hk : k = 0 ∨ k = 1 ∨ k = 2 ∨ k = 3 ∨ k = 4) (hs : s.size ≤ 281474976710656) (E : Env w) :
    Calls Tryd.prog 38 #[.int .i64 k, .string s] w fun e w' => e = .returned (.int .u64 (likW k s)) ∧ Below w.heap.size w w' := by
  rcases hk with rfl | rfl | rfl | rfl | rfl
  · go_enter Tryd.func38, Tryd.ntmps38
    go_wp2_with fail
    refine (likelyHead_any _ _ hs E).mono ?_
    rintro e w2 ⟨rfl, B2⟩
    go_wp2_with fail
    go_ret
    exact ⟨rfl, B2⟩
  · go_enter Tryd.func38, Tryd.ntmps38
    go_wp2_with fail
    refine (likelyLink_any _ _ hs E).mono ?_
    rintro e w2 ⟨rfl, B2⟩
    go_wp2_with fail
    go_ret
    exact ⟨rfl, B2⟩
  · go_enter Tryd.func38, Tryd.ntmps38
    go_wp2_with fail
    refine (likelyInt_any _ _ hs E).mono ?_
    rintro e w2 ⟨rfl, B2⟩
    go_wp2_with fail
    refine (number_any _ _).mono ?_
    rintro e w3 ⟨rfl, rfl⟩
    go_wp2_with fail
    go_ret
    exact ⟨rfl, B2⟩
  · go_enter Tryd.func38, Tryd.ntmps38
    go_wp2_with fail
    refine (likelyInt_any _ _ hs E).mono ?_
    rintro e w2 ⟨rfl, B2⟩
    go_wp2_with fail
    refine (number_any _ _).mono ?_
    rintro e w3 ⟨rfl, rfl⟩
    go_wp2_with fail
    go_ret
    exact ⟨rfl, B2⟩
  · go_enter Tryd.func38, Tryd.ntmps38
    go_wp2_with fail
    refine (likelyLink_any _ _ hs E).mono ?_
    rintro e w2 ⟨rfl, B2⟩
    go_wp2_with fail
    go_ret
    exact ⟨rfl, B2⟩
theorem parse_no (r : Int) (s : ByteArray) (w : World) (h : r < 1 ∨ 13 < r) :
    Calls Tryd.prog 16 #[.int .i64 r, .string s] w fun e w' => e = .returned (.tuple #[.int .u64 0, .int .i64 2]) ∧ Below w.heap.size w w' := by
  go_enter Tryd.func16, Tryd.ntmps16
  go_wp2_with (go_at_call 22; refine (isRegion_no _ _ h).mono ?_; rintro e w3 ⟨rfl, rfl⟩)
  go_ret2
  exact ⟨rfl, Below.refl _ _⟩
/-- Is the likely word the one? -/
def isW (r : Int) (s : ByteArray) : Bool := ((shw r (likW (tKind r) s)).2 == 0) && ((shw r (likW (tKind r) s)).1.toList == s.toList)
def yW (r : Int) (s : ByteArray) : Int := if isW r s then likW (tKind r) s else 0
def yE (r : Int) (s : ByteArray) : Int := if isW r s then 0 else 12
set_option maxHeartbeats 1000000 in
theorem parse_yes (r : Int) (s : ByteArray) (w : World) (h1 : 1 ≤ r) (h2 : r ≤ 13) (hs : s.size ≤ 281474976710656) (E : Env w) :
    Calls Tryd.prog 16 #[.int .i64 r, .string s] w fun e w' => e = .returned (.tuple #[.int .u64 (yW r s), .int .i64 (yE r s)]) ∧ Below w.heap.size w w' := by
  have hk := tKind_cases r h1 h2
  have hf1 := fld1
  have e0 : Hid (isW r s = (((shw r (likW (tKind r) s)).2 == 0) && ((shw r (likW (tKind r) s)).1.toList == s.toList))) := rfl
  go_enter Tryd.func16, Tryd.ntmps16
  go_wp2_with (go_at_call 22; refine (isRegion_yes _ _ h1 h2).mono ?_; rintro e w3 ⟨rfl, rfl⟩)
  refine (trait_any _ _ h1 h2).mono ?_
  rintro e w1 ⟨rfl, B1⟩
  have V1 := E.below B1
  generalize tNums r = tn at *
  generalize tName r = tm at *
  generalize htk : tKind r = tk at *
  have htk := Lib.hid htk
  go_wp2_with fail
  refine (likelyWord_any _ _ _ hk hs V1).mono ?_
  rintro e w2 ⟨rfl, B2⟩
  have V2 := V1.below B2
  have B2 := seqB B1 B2 (Nat.le_refl _)
  clear B1 V1
  have hb := likW_bd tk s
  generalize hx : likW tk s = x at *
  have hx := Lib.hid hx
  go_wp2_with fail
  refine (show_any _ _ _ hb.1 hb.2 V2).mono ?_
  rintro e w3 ⟨rfl, B3⟩
  have B3 := seqB B2 B3 (Nat.le_refl _)
  clear B2 V2
  generalize (shw r x).1 = t at *
  generalize (shw r x).2 = c at *
  by_cases hc : c = 0
  · subst hc
    cases hc : (t.toList == s.toList)
    · have e1 : isW r s = false := by rw [e0.out, hc]; rfl
      have e2 : Hid (yW r s = 0) := by show yW r s = 0; unfold yW; rw [e1]; rfl
      have e3 : Hid (yE r s = 12) := by show yE r s = 12; unfold yE; rw [e1]; rfl
      clear e1 e0
      go_wp2_with fail
      go_ret2
      exact ⟨by rw [e2.out, e3.out]; rfl, B3⟩
    · have e1 : isW r s = true := by rw [e0.out, hc]; rfl
      have e2 : Hid (yW r s = x) := by show yW r s = x; unfold yW; rw [e1, htk.out, hx.out]; rfl
      have e3 : Hid (yE r s = 0) := by show yE r s = 0; unfold yE; rw [e1]; rfl
      clear e1 e0
      go_wp2_with fail
      go_ret2
      exact ⟨by rw [e2.out, e3.out]; rfl, B3⟩
  · have e1 : isW r s = false := by rw [e0.out]; simp [hc]
    have e2 : Hid (yW r s = 0) := by show yW r s = 0; unfold yW; rw [e1]; rfl
    have e3 : Hid (yE r s = 12) := by show yE r s = 12; unfold yE; rw [e1]; rfl
    clear e1 e0
    go_wp2_with fail
    go_ret2
    exact ⟨by rw [e2.out, e3.out]; rfl, B3⟩
def prW (r : Int) (s : ByteArray) : Int := if inB r 1 13 then yW r s else 0
def prE (r : Int) (s : ByteArray) : Int := if inB r 1 13 then yE r s else 2
theorem parse_any (r : Int) (s : ByteArray) (w : World) (hs : s.size ≤ 281474976710656) (E : Env w) :
    Calls Tryd.prog 16 #[.int .i64 r, .string s] w fun e w' => e = .returned (.tuple #[.int .u64 (prW r s), .int .i64 (prE r s)]) ∧ Below w.heap.size w w' := by
  by_cases c : r < 1 ∨ 13 < r
  · have e : inB r 1 13 = false := by simp [inB]; omega
    unfold prW prE
    rw [e]; exact parse_no r s w c
  · have e : inB r 1 13 = true := by simp [inB]; omega
    unfold prW prE
    rw [e]; exact parse_yes r s w (by omega) (by omega) hs E
theorem prW_bd (r : Int) (s : ByteArray) : 0 ≤ prW r s ∧ prW r s ≤ 18446744073709551615 := by
  have := likW_bd (tKind r) s
  unfold prW yW
  split
  · split <;> omega
  · omega
/-- A text that is parsed is its word's. -/
theorem pr_shw (r : Int) (s : ByteArray) (h : prE r s = 0) : shw r (prW r s) = (s, 0) := by
  unfold prE yE at h
  unfold prW yW
  split at h
  · rename_i h1
    split at h
    · rename_i h2
      rw [if_pos h1, if_pos h2]
      simp only [isW, Bool.and_eq_true, beq_iff_eq] at h2
      refine Prod.ext ?_ h2.1
      exact eq_of (by rw [h2.2]; simp)
    · cases h
  · cases h
end Go.Proofs.YtpmpdkpnjfidhaaDoor.St
