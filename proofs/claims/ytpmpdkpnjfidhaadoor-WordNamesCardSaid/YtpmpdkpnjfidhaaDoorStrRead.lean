/-
  CONTRACTS of Cut at one byte, regionOf, likelyPlace, Read.
-/
import Derived.Test.YtpmpdkpnjfidhaaDoorStrNameB
namespace Go.Proofs.YtpmpdkpnjfidhaaDoor.St
open Go.RowKit
open Tr
set_option linter.unusedVariables false
theorem eq_of {a b : ByteArray} (h : (a.toList == b.toList) = true) : a = b := by
  rw [ByteArray.toList_eq, ByteArray.toList_eq] at h
  have h : a.data.toList = b.data.toList := by simpa using h
  have h : a.data = b.data := Array.toList_inj.mp h
  cases a; cases b; simp_all
theorem ne_of {a b : ByteArray} (h : (a.toList == b.toList) = false) : a ≠ b := by
  rintro rfl
  simp at h
/-- The region with that name; 0: none. -/
def IsReg (s : ByteArray) (r : Int) : Prop := (1 ≤ r ∧ r ≤ 13 ∧ tName r = s) ∨ (r = 0 ∧ ∀ q : Nat, 1 ≤ q → q < 14 → tName q ≠ s)
set_option maxHeartbeats 1000000 in
/-- regionOf. -/
theorem regionOf_any (s : ByteArray) (w : World) :
    Calls Tryd.prog 47 #[.string s] w fun e w' => (∃ r : Int, e = .returned (.int .i64 r) ∧ IsReg s r) ∧ Below w.heap.size w w' := by
  have hf0 := fld0
  go_enter Tryd.func47, Tryd.ntmps47
  go_wp2
  go_loopw [3] (fun t W => ∃ j : Nat, 1 ≤ j ∧ j ≤ 14 ∧ t = .int .i64 (j : Int) ∧ (∀ q : Nat, 1 ≤ q → q < j → tName q ≠ s) ∧ Below w.heap.size w W) (fun t _ => 14 - (intOf t).toNat)
  case atStart => exact ⟨1, by omega, by omega, rfl, fun q h1 h2 => absurd h2 (by omega), Below.refl _ _⟩
  case round =>
    obtain ⟨j, j1, j2, rfl, hq, B⟩ := hrel
    have hq := Lib.hid hq
    by_cases hlt : j < 14
    · go_wp2_with fail
      refine (trait_any _ _ (by omega) (by omega)).mono ?_
      rintro e w1 ⟨rfl, hb⟩
      have B1 := seqB B hb (Nat.le_refl _)
      clear hb B
      generalize htm : tName (j : Int) = tm
      have htm := Lib.hid htm
      generalize tKind (j : Int) = tk
      generalize tNums (j : Int) = tn
      cases hc : (tm.toList == s.toList)
      · have hn := Lib.hid (ne_of hc)
        go_wp2_with fail
        refine ⟨⟨j + 1, by omega, by omega, by go_num, fun q h1 h2 => ?_, B1⟩, by simp [intOf]; omega⟩
        by_cases e : q = j
        · subst e; rw [htm.out]; exact hn.out
        · exact hq.out q h1 (by omega)
      · have hn := Lib.hid (eq_of hc)
        go_wp2_with fail
        go_ret
        exact ⟨⟨_, rfl, .inl ⟨by omega, by omega, htm.out.trans hn.out⟩⟩, B1⟩
    · go_wp2_with fail
      go_ret
      exact ⟨⟨_, rfl, .inr ⟨rfl, fun q h1 h2 => hq.out q h1 (by omega)⟩⟩, B⟩
theorem idx_cases : ∀ (l : List UInt8) (c : UInt8), Lib.indexByte l c = -1 ∨ (0 ≤ Lib.indexByte l c ∧ Lib.indexByte l c < l.length)
  | l, c => by
    have h1 := Lib.indexByte_ge l c
    by_cases h : Lib.indexByte l c = -1
    · exact Or.inl h
    · have h0 : 0 ≤ Lib.indexByte l c := by omega
      obtain ⟨o, ho⟩ := Int.eq_ofNat_of_zero_le h0
      have h2 := (Lib.indexByte_some ho).1
      have h3 : o < l.length := by
        rcases Nat.lt_or_ge o l.length with h | h
        · exact h
        · rw [List.getElem?_eq_none h] at h2
          cases h2
      exact Or.inr ⟨h0, by omega⟩
/-- What lies before the first such byte, and what behind it. -/
def cutA (s : ByteArray) (c : UInt8) : ByteArray := if Lib.indexByte s.data.toList c = -1 then s else s.extract 0 (Lib.indexByte s.data.toList c).toNat
def cutB (s : ByteArray) (c : UInt8) : ByteArray := if Lib.indexByte s.data.toList c = -1 then ⟨#[]⟩ else s.extract ((Lib.indexByte s.data.toList c).toNat + 1) s.size
def cutF (s : ByteArray) (c : UInt8) : Bool := !(Lib.indexByte s.data.toList c == -1)
theorem cutA_size (s : ByteArray) (c : UInt8) : (cutA s c).size ≤ s.size := by
  unfold cutA
  split
  · exact Nat.le_refl _
  · rw [ByteArray.size_extract]; omega
theorem cutB_size (s : ByteArray) (c : UInt8) : (cutB s c).size ≤ s.size := by
  unfold cutB
  split
  · exact Nat.zero_le _
  · rw [ByteArray.size_extract]; omega
set_option maxHeartbeats 1000000 in
theorem lcut_any (s : ByteArray) (c : UInt8) (w : World) (hs : s.size ≤ 281474976710656) :
    Calls Tryd.prog 55 #[.string s, .string ⟨#[c]⟩] w fun e w' =>
      e = .returned (.tuple #[.string (cutA s c), .string (cutB s c), .bool (cutF s c)]) ∧ Below w.heap.size w w' := by
  have hx := idx_cases s.data.toList c
  have hl : s.data.toList.length = s.size := Array.length_toList
  rw [hl] at hx
  clear hl
  generalize hi : Lib.indexByte s.data.toList c = ix at hx
  have hi' : Hid (Lib.indexByte s.data.toList c = ix) := hi
  clear hi
  go_enter Tryd.func55, Tryd.ntmps55
  go_wp2_with fail
  refine (Tryd.stringslite_Index_one s c _).mono ?_
  rintro e w1 ⟨rfl, rfl⟩
  rw [hi'.out]
  rcases hx with hx | ⟨hx0, hx1⟩
  · subst hx
    go_wp2_with fail
    go_ret3
    refine ⟨?_, Below.refl _ _⟩
    unfold cutA cutB cutF
    rw [hi'.out]
    rfl
  · obtain ⟨n, rfl⟩ := Int.eq_ofNat_of_zero_le hx0
    have hn : n < s.size := by omega
    go_wp2_with fail
    go_quiet (fail)
    go_wp2_with fail
    go_ret3
    refine ⟨?_, ⟨rfl, rfl, rfl, Nat.le_refl _, fun _ _ => rfl⟩⟩
    unfold cutA cutB cutF
    rw [hi'.out, if_neg (by omega), if_neg (by omega), show (!((n : Int) == -1)) = true from by simp]
    rfl
theorem cut_any (s : ByteArray) (c : UInt8) (w : World) (hs : s.size ≤ 281474976710656) :
    Calls Tryd.prog 46 #[.string s, .string ⟨#[c]⟩] w fun e w' =>
      e = .returned (.tuple #[.string (cutA s c), .string (cutB s c), .bool (cutF s c)]) ∧ Below w.heap.size w w' := by
  go_enter Tryd.func46, Tryd.ntmps46
  go_wp2_with fail
  refine (lcut_any s c _ hs).mono ?_
  rintro e w1 ⟨rfl, hw⟩
  go_wp2_with fail
  go_ret3
  exact ⟨rfl, hw⟩
def likA (s : ByteArray) : Int := likI (cutA (cutB s 32) 46)
def likB (s : ByteArray) : Int := likI (cutB (cutB s 32) 46)
/-- likelyPlace. -/
theorem likelyPlace_any (s : ByteArray) (w : World) (hs : s.size ≤ 281474976710656) (V : Env w) :
    Calls Tryd.prog 29 #[.string s] w fun e w' => (∃ r : Int, e = .returned (.agg #[.int .i64 r, .int .i64 (likA s), .int .i64 (likB s)]) ∧ IsReg (cutA s 32) r) ∧ Below w.heap.size w w' := by
  have al : Below w.heap.size w (w.alloc (.cells #[.int .i64 0, .int .i64 0, .int .i64 0] 24)) := (Below.refl _ _).alloc (Nat.le_refl _) _
  go_enter Tryd.func29, Tryd.ntmps29
  go_wp2_with fail
  have z1 := cutA_size s 32
  have z2 := cutB_size s 32
  have z3 := cutA_size (cutB s 32) 46
  have z4 := cutB_size (cutB s 32) 46
  have eA : Hid (likA s = likI (cutA (cutB s 32) 46)) := rfl
  have eB : Hid (likB s = likI (cutB (cutB s 32) 46)) := rfl
  refine (cut_any s _ _ hs).mono ?_
  rintro e w1 ⟨rfl, B1⟩
  generalize cutB s 32 = b at *
  generalize ha : cutA s 32 = a at *
  have ha := Lib.hid ha
  generalize cutF s 32 = f
  go_wp2_with fail
  refine (cut_any b _ _ (by omega)).mono ?_
  rintro e w2 ⟨rfl, B2⟩
  generalize cutA b 46 = i at *
  generalize cutB b 46 = k at *
  generalize cutF b 46 = f2
  have B2 := seqB B1 B2 (Nat.le_refl _)
  clear B1
  go_wp2_with fail
  refine (regionOf_any a _).mono ?_
  rintro e w3 ⟨⟨r, rfl, hr⟩, B3⟩
  have hr := Lib.hid hr
  have B3 := seqB B2 B3 (Nat.le_refl _)
  clear B2
  go_wp2_with fail
  refine (likelyInt_any i _ (by omega) (V.below (seqB al B3 (Nat.le_refl _)))).mono ?_
  rintro e w4 ⟨rfl, B4⟩
  rw [← eA.out]
  generalize hn' : likA s = n at *
  have hn' := Lib.hid hn'
  have B4 := seqB B3 B4 (Nat.le_refl _)
  clear B3
  go_wp2_with fail
  refine (likelyInt_any k _ (by omega) (V.below (seqB al B4 (Nat.le_refl _)))).mono ?_
  rintro e w5 ⟨rfl, B5⟩
  rw [← eB.out]
  generalize hm' : likB s = m at *
  have hm' := Lib.hid hm'
  have B5 := seqB B4 B5 (Nat.le_refl _)
  clear B4
  have Q5 := (Pl.made w 0 0 0 24).below B5
  have F5 : ∀ o, w5.frozen? ⟨w.heap.size, o, none⟩ = false := fun o => (B5.frozen (p := ⟨w.heap.size, o, none⟩) (by simp)).trans (World.frozen?_alloc_at _ _ _ _ (by simp))
  have E5 := seqB al B5 (Nat.le_refl _)
  clear al B5
  obtain ⟨q0, q1, q2, qs⟩ := Q5
  go_wp2_with fail
  refine bodyPost_ret (v := .agg #[.int .i64 r, .int .i64 n, .int .i64 m]) (by simp [results, Tryd.results29, go_sem, q0, q1, q2]) rfl ⟨⟨r, by rw [hn'.out, hm'.out], by rw [ha.out]; exact hr.out⟩, ?_⟩
  exact ((E5.setCell (by simp) _).setCell (by simp) _).setCell (by simp) _
set_option maxHeartbeats 1000000 in
/-- Read: a place whose name is the text; or none. -/
theorem read_any (s : ByteArray) (w : World) (hs : s.size ≤ 281474976710656) (V : Env w) :
    Calls Tryd.prog 9 #[.string s] w fun e w' =>
      (∃ r : Int, IsReg (cutA s 32) r ∧ ((e = .returned (.tuple #[.agg #[.int .i64 r, .int .i64 (likA s), .int .i64 (likB s)], .int .i64 0]) ∧ nmE r (likA s) (likB s) = 0 ∧ nmS r (likA s) (likB s) = s) ∨
        (e = .returned (.tuple #[.agg #[.int .i64 0, .int .i64 0, .int .i64 0], .int .i64 11]) ∧ ¬ (nmE r (likA s) (likB s) = 0 ∧ nmS r (likA s) (likB s) = s)))) ∧ Below w.heap.size w w' := by
  have al : Below w.heap.size w (w.alloc (.cells #[.int .i64 0, .int .i64 0, .int .i64 0] 24)) := (Below.refl _ _).alloc (Nat.le_refl _) _
  go_enter Tryd.func9, Tryd.ntmps9
  go_wp2_with fail
  refine (likelyPlace_any s _ hs (V.below al)).mono ?_
  rintro e w1 ⟨⟨r, rfl, hr⟩, B1⟩
  have hr := Lib.hid hr
  generalize hn' : likA s = i at *
  generalize hm' : likB s = k at *
  have hn' := Lib.hid hn'
  have hm' := Lib.hid hm'
  have E1 := seqB al B1 (Nat.le_refl _)
  have V1 := V.below E1
  have Q1 := (Pl.made w 0 0 0 24).below B1
  have F1 : ∀ o, w1.frozen? ⟨w.heap.size, o, none⟩ = false := fun o => (B1.frozen (p := ⟨w.heap.size, o, none⟩) (by simp)).trans (World.frozen?_alloc_at _ _ _ _ (by simp))
  clear al B1
  obtain ⟨q0, q1, q2, qs⟩ := Q1
  go_wp2_with fail
  have a1 : Below w1.heap.size w1 (w1.alloc (.cells #[.int .i64 r, .int .i64 i, .int .i64 k] 24)) := (Below.refl _ _).alloc (Nat.le_refl _) _
  refine (name_any r i k _ (V1.below a1)).mono ?_
  rintro e w2 ⟨rfl, B2⟩
  have P2 := (Pl.made w1 r i k 24).below B2
  have b2 := seqB a1 B2 (Nat.le_refl _)
  have Q2 := (show Pl w1 w.heap.size 0 0 0 from ⟨q0, q1, q2, qs⟩).below b2
  have F2 : ∀ o, w2.frozen? ⟨w.heap.size, o, none⟩ = false := fun o => (b2.frozen (p := ⟨w.heap.size, o, none⟩) qs).trans (F1 o)
  have E2 := seqB E1 b2 (Nat.le_refl _)
  clear q0 q1 q2 qs F1 B2 b2 a1 E1 V V1
  obtain ⟨p0, p1, p2, ps⟩ := P2
  obtain ⟨q0, q1, q2, qs⟩ := Q2
  have hne : nmE r i k = 0 ∨ nmE r i k = 2 := by unfold nmE; split <;> simp
  generalize hE : nmE r i k = ne at *
  generalize hS : nmS r i k = ns at *
  rcases hne with rfl | rfl
  · cases hc : (ns.toList == s.toList)
    · go_wp2_with fail
      refine bodyPost_ret (v := .tuple #[.agg #[.int .i64 0, .int .i64 0, .int .i64 0], .int .i64 11]) (by simp [results, Tryd.results9, go_sem, q0, q1, q2]) rfl ⟨⟨r, hr.out, .inr ⟨rfl, fun h => by rw [hn'.out, hm'.out] at h; exact ne_of hc (hS.symm.trans h.2)⟩⟩, ?_⟩
      exact ((E2.setCell (by simp) _).setCell (by simp) _).setCell (by simp) _
    · go_wp2_with fail
      refine bodyPost_ret (v := .tuple #[.agg #[.int .i64 r, .int .i64 i, .int .i64 k], .int .i64 0]) (by simp [results, Tryd.results9, go_sem, q0, q1, q2]) rfl ⟨⟨r, hr.out, .inl (by rw [hn'.out, hm'.out]; exact ⟨rfl, hE, hS.trans (eq_of hc)⟩)⟩, ?_⟩
      exact ((E2.setCell (by simp) _).setCell (by simp) _).setCell (by simp) _
  · go_wp2_with fail
    refine bodyPost_ret (v := .tuple #[.agg #[.int .i64 0, .int .i64 0, .int .i64 0], .int .i64 11]) (by simp [results, Tryd.results9, go_sem, q0, q1, q2]) rfl ⟨⟨r, hr.out, .inr ⟨rfl, fun h => by rw [hn'.out, hm'.out] at h; exact absurd (hE.symm.trans h.1) (by decide)⟩⟩, ?_⟩
    exact ((E2.setCell (by simp) _).setCell (by simp) _).setCell (by simp) _
end Go.Proofs.YtpmpdkpnjfidhaaDoor.St
