/-
  THE WALK of WordOnce.
-/
import Derived.Test.YtbbgobahhcfjjabDoorStrParse
namespace Go.Proofs.YtbbgobahhcfjjabDoor.St
open Go.RowKit
open Tr Wp
set_option linter.unusedVariables false
theorem link_back (x : Int) (h0 : 0 ≤ x) (h1 : x < 8589934592) : packLink (x % 4294967296 - 1) (x / 4294967296 % 2 == 1) = x := by
  unfold packLink
  by_cases h : x / 4294967296 % 2 = 1
  · rw [show (x / 4294967296 % 2 == 1) = true from by simpa using h]
    simp only [if_true]
    omega
  · rw [show (x / 4294967296 % 2 == 1) = false from by simpa using h]
    simp only [Bool.false_eq_true, if_false]
    omega
theorem head_back (x : Int) (h0 : 0 ≤ x) : packHead (x / 4294967296) (x % 4294967296 - 1) = x := by
  unfold packHead
  omega
theorem lik7 : likI ⟨#[55]⟩ = 7 := by rfl
theorem sl7 : likSl ⟨#[55]⟩ = 7 := by
  unfold likSl
  rw [ByteArray.toList_eq]
  rfl
theorem suf7 : sufA ⟨#[55, 42]⟩ = ⟨#[55]⟩ ∧ sufF ⟨#[55, 42]⟩ = true := ⟨rfl, rfl⟩
theorem kd13 : tKind 13 = 4 := by decide
theorem lw7 : likW (tKind 13) ⟨#[55, 42]⟩ = 4294967304 := by
  rw [kd13]
  show likL ⟨#[55, 42]⟩ = _
  unfold likL
  rw [suf7.1, suf7.2, sl7]
  decide
theorem ito7 : ito 7 = ⟨#[55]⟩ := by
  unfold ito
  rw [show Lib.itoa 7 = Lib.decDigits 7 from rfl, Lib.decDigits_one (by decide)]
  rfl
theorem sh7 : shw 13 4294967304 = (⟨#[55, 42]⟩, 0) := by
  unfold shw
  rw [if_pos (by decide), kd13]
  show shL 4294967304 = _
  unfold shL
  rw [if_neg (by decide), if_pos (by decide)]
  rw [show (4294967304 : Int) % 4294967296 - 1 = 7 from rfl]
  unfold slotT
  rw [if_neg (by decide), ito7]
  rfl
theorem isW7 : isW 13 ⟨#[55, 42]⟩ = true := by
  unfold isW
  rw [lw7, sh7]
  simp
theorem seven : prW 13 ⟨#[55, 42]⟩ = 4294967304 ∧ prE 13 ⟨#[55, 42]⟩ = 0 := by
  unfold prW prE yW yE
  rw [isW7, lw7]
  decide
set_option maxHeartbeats 2000000 in
theorem once (s : ByteArray) (r x : Int) (w : World) (hs : s.size ≤ 281474976710656) (h0 : 0 ≤ x) (h1 : x ≤ 18446744073709551615) (E : Env w) :
    Calls Tryd.prog 4 #[.string s, .int .i64 r, .int .u64 x] w fun e w' => e = .returned (.bool true) ∧ Below w.heap.size w w' := by
  have h70 := seven
  go_enter Tryd.func4, Tryd.ntmps4
  go_wp2_with fail
  refine (read_any s _ hs (by assumption)).mono ?_
  rintro e w1 ⟨⟨q, hq, hor⟩, B1⟩
  clear hq
  generalize likA s = i at *
  generalize likB s = k at *
  rcases hor with ⟨rfl, hE, hS⟩ | ⟨rfl, hn⟩
  case' inl =>
    have hE := Lib.hid hE
    have hS := Lib.hid hS
    go_wp2_with fail
    have al : Below w1.heap.size w1 (w1.alloc (.cells #[.int .i64 q, .int .i64 i, .int .i64 k] 24)) := (Below.refl _ _).alloc (Nat.le_refl _) _
    refine (name_any q i k _ (E.below (seqB B1 al (Nat.le_refl _)))).mono ?_
    rintro e w2 ⟨rfl, B2⟩
    rw [hE.out, hS.out]
    have B := seqB (seqB B1 al (Nat.le_refl _)) B2 (Nat.le_refl _)
    clear B1 B2 al hE hS
    go_wp2_with fail
  case' inr =>
    clear hn
    have al : Below w1.heap.size w1 (w1.alloc (.cells #[.int .i64 0, .int .i64 0, .int .i64 0] 24)) := (Below.refl _ _).alloc (Nat.le_refl _) _
    have B := seqB B1 al (Nat.le_refl _)
    clear B1 al
    go_wp2_with fail
  all_goals
    have V := E.below B
    refine (parse_any r s _ hs V).mono ?_
    rintro e w3 ⟨rfl, B3⟩
    have B3 := seqB B B3 (Nat.le_refl _)
    clear B V
    have hpb := prW_bd r s
    have hps := Lib.hid (pr_shw r s)
    generalize prW r s = v at *
    generalize prE r s = pe at *
    by_cases hp : pe = 0
    case' pos =>
      subst hp
      have hps := Lib.hid (hps.out rfl)
      have V := E.below B3
      go_wp2_with fail
      refine (show_any r v _ hpb.1 hpb.2 V).mono ?_
      rintro e w4 ⟨rfl, B4⟩
      rw [hps.out]
      have B := seqB B3 B4 (Nat.le_refl _)
      clear B3 B4 V
      go_wp2_with fail
    case' neg =>
      have hpb0 : (pe == 0) = false := by simpa using hp
      have B := B3
      clear B3
      go_wp2_with fail
  all_goals try exact True.intro
  all_goals
    by_cases hl : 8589934592 ≤ x ∨ 2147483647 < x % 4294967296
    case' pos =>
      refine (unlink_bad x _ h0 h1 hl).mono ?_
      rintro e w5 ⟨rfl, rfl⟩
      go_wp2_with fail
    case' neg =>
      have hx : x < 8589934592 := by omega
      have hm : x % 4294967296 ≤ 2147483647 := by omega
      have hbk := link_back x h0 hx
      refine (unlink_ok x _ h0 hx hm).mono ?_
      rintro e w5 ⟨rfl, rfl⟩
      go_wp2_with fail
      refine (link_ok _ _ _ (by omega) (by omega)).mono ?_
      rintro e w5 ⟨rfl, rfl⟩
      rw [hbk]
      go_wp2_with fail
  all_goals try exact True.intro
  all_goals
    by_cases hh : 2147483647 < x % 4294967296
    case' pos =>
      refine (unhead_bad x _ h0 h1 hh).mono ?_
      rintro e w6 ⟨rfl, rfl⟩
      go_wp2_with fail
    case' neg =>
      have hm' : x % 4294967296 ≤ 2147483647 := by omega
      have hbk' := head_back x h0
      refine (unhead_ok x _ h0 h1 hm').mono ?_
      rintro e w6 ⟨rfl, rfl⟩
      go_wp2_with fail
      refine (head_ok _ _ _ (by omega) (by omega) (by omega) (by omega)).mono ?_
      rintro e w6 ⟨rfl, rfl⟩
      rw [hbk']
      go_wp2_with fail
  all_goals try exact True.intro
  all_goals
    have V := E.below B
    refine (parse_any 13 _ _ (by decide) V).mono ?_
    rintro e w7 ⟨rfl, B7⟩
    rw [h70.1, h70.2]
    have B7 := seqB B B7 (Nat.le_refl _)
    clear B V
    go_wp2_with fail
    go_ret
    exact ⟨rfl, B7⟩
end Go.Proofs.YtbbgobahhcfjjabDoor.St
