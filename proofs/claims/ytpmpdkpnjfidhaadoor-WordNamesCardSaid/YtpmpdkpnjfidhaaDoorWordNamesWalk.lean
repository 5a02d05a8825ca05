/-
  THE WALK of WordNames.
-/
import Derived.Test.YtpmpdkpnjfidhaaDoorRefReadB
namespace Go.Proofs.YtpmpdkpnjfidhaaDoor.St
open Go.RowKit
open Go.Lib (decDigits)
open Tr Wp
set_option linter.unusedVariables false
theorem n912 : nmS 9 1 2 = ⟨#[104, 97, 122, 97, 114, 100, 32, 49, 46, 50]⟩ ∧ nmE 9 1 2 = 0 := by
  have e : named 9 1 2 = true := by decide
  unfold nmE nmS
  rw [e]
  refine ⟨ba_ext ?_, rfl⟩
  simp only [if_true]
  rw [name_haz 1 2 e, show (1 : Int).toNat = 1 from rfl, show (2 : Int).toNat = 2 from rfl, Lib.decDigits_one (by decide), Lib.decDigits_one (by decide)]
  rfl
theorem read_yes (r i k : Int) (w : World) (V : Env w) (hn : named r i k = true) (hz : (nameB r i k).size ≤ 281474976710656) : Calls Tryd.prog 9 #[.string (nameB r i k)] w fun e w' => e = .returned (.tuple #[.agg #[.int .i64 r, .int .i64 i, .int .i64 k], .int .i64 0]) ∧ Below w.heap.size w w' := by
  obtain ⟨p1, p2, p3⟩ := name_parts r i k hn
  obtain ⟨h1, h2, _⟩ := named_parts r i k hn
  refine (read_any (nameB r i k) w hz V).mono ?_
  rintro e w' ⟨⟨q, hq, hor⟩, B⟩
  refine ⟨?_, B⟩
  rw [p1] at hq
  obtain rfl := isReg_name r q h1 h2 hq
  rw [p2, p3] at hor
  rcases hor with ⟨he, _⟩ | ⟨_, hno⟩
  · exact he
  · exact absurd ⟨by unfold nmE; rw [hn]; rfl, by unfold nmS; rw [hn]; rfl⟩ hno
theorem read_no (s : ByteArray) (w : World) (V : Env w) (hz : s.size ≤ 281474976710656) (hno : ∀ r i k : Int, named r i k = true → s ≠ nameB r i k) : Calls Tryd.prog 9 #[.string s] w fun e w' => e = .returned (.tuple #[.agg #[.int .i64 0, .int .i64 0, .int .i64 0], .int .i64 11]) ∧ Below w.heap.size w w' := by
  refine (read_any s w hz V).mono ?_
  rintro e w' ⟨⟨q, hq, hor⟩, B⟩
  refine ⟨?_, B⟩
  rcases hor with ⟨_, hE, hS⟩ | ⟨he, _⟩
  · have hn := nm_named _ _ _ hE
    have e1 : nmS q (likA s) (likB s) = nameB q (likA s) (likB s) := by unfold nmS; rw [if_pos hn]
    exact absurd (hS.symm.trans e1) (hno _ _ _ hn)
  · exact he
theorem rr_yes (r i k : Int) (w : World) (hn : named r i k = true) (hz : (nameB r i k).size ≤ 281474976710656) : Calls Tryd.prog 10 #[.string (nameB r i k)] w fun e w' => e = .returned (.tuple #[.agg #[.int .i64 r, .int .i64 i, .int .i64 k], .bool true]) ∧ Below w.heap.size w w' := by
  refine (rread_any (nameB r i k) w hz).mono ?_
  rintro e w' ⟨hR, B⟩
  refine ⟨?_, B⟩
  rcases hR with ⟨r', i', k', hn', he, h⟩ | ⟨hno, _⟩
  · obtain ⟨p1, p2, p3⟩ := name_parts r i k hn
    obtain ⟨o1, o2, o3⟩ := name_parts r' i' k' hn'
    rw [← he] at o1 o2 o3
    obtain ⟨h1, h2, _⟩ := named_parts r i k hn
    obtain ⟨g1, g2, _⟩ := named_parts r' i' k' hn'
    have e1 : r = r' := tName_inj r r' h1 h2 g1 g2 (p1.symm.trans o1)
    have e2 : i = i' := p2.symm.trans o2
    have e3 : k = k' := p3.symm.trans o3
    rw [h, e1, e2, e3]
  · exact absurd rfl (hno r i k hn)
theorem rr_no (s : ByteArray) (w : World) (hz : s.size ≤ 281474976710656) (hno : ∀ r i k : Int, named r i k = true → s ≠ nameB r i k) : Calls Tryd.prog 10 #[.string s] w fun e w' => (∃ a b c : Int, e = .returned (.tuple #[.agg #[.int .i64 a, .int .i64 b, .int .i64 c], .bool false])) ∧ Below w.heap.size w w' := by
  refine (rread_any s w hz).mono ?_
  rintro e w' ⟨hR, B⟩
  refine ⟨?_, B⟩
  rcases hR with ⟨r', i', k', hn', he, h⟩ | ⟨_, a, b, c, h⟩
  · exact absurd he (hno _ _ _ hn')
  · exact ⟨a, b, c, h⟩
set_option maxHeartbeats 4000000 in
set_option maxRecDepth 100000 in
theorem names_law (r i k : Int) (s : ByteArray) (w : World) (hs : s.size ≤ 281474976710656) (E : Env w) :
    Calls Tryd.prog 3 #[.agg #[.int .i64 r, .int .i64 i, .int .i64 k], .string s] w fun e w' => e = .returned (.bool true) ∧ Below w.heap.size w w' := by
  obtain ⟨W1, hW1⟩ : ∃ W1, w.alloc (.cells #[.int .i64 r, .int .i64 i, .int .i64 k] 24) = W1 := ⟨_, rfl⟩
  have P1 : Pl W1 w.heap.size r i k := by rw [← hW1]; exact Pl.made w r i k _
  have B1 : Below w.heap.size w W1 := by rw [← hW1]; exact (Below.refl _ _).alloc (Nat.le_refl _) _
  have N0 := name_any 9 1 2 W1 (E.below B1)
  rw [n912.1, n912.2] at N0
  have N1 := fun (W : World) (V : Env W) => name_any r i k W V
  have PL := fun (W : World) => places_any r i k W
  obtain ⟨c0, c1, c2, c3⟩ := id P1
  have RW : ∃ (x y z : Int) (er : Int) (ok : Bool), (∀ (W : World) (V : Env W), Calls Tryd.prog 9 #[.string s] W fun e w' => e = .returned (.tuple #[.agg #[.int .i64 x, .int .i64 y, .int .i64 z], .int .i64 er]) ∧ Below W.heap.size W w') ∧ ((ok = true ∧ er = 0 ∧ ∀ W : World, Calls Tryd.prog 10 #[.string s] W fun e w' => e = .returned (.tuple #[.agg #[.int .i64 x, .int .i64 y, .int .i64 z], .bool true]) ∧ Below W.heap.size W w') ∨ (ok = false ∧ er = 11 ∧ x = 0 ∧ y = 0 ∧ z = 0 ∧ ∀ W : World, Calls Tryd.prog 10 #[.string s] W fun e w' => (∃ a b c : Int, e = .returned (.tuple #[.agg #[.int .i64 a, .int .i64 b, .int .i64 c], .bool false])) ∧ Below W.heap.size W w')) := by
    by_cases hex : ∃ x y z : Int, named x y z = true ∧ s = nameB x y z
    · obtain ⟨x, y, z, hn, he⟩ := hex
      subst he
      exact ⟨x, y, z, 0, true, fun W V => read_yes x y z W V hn hs, .inl ⟨rfl, rfl, fun W => rr_yes x y z W hn hs⟩⟩
    · have hno : ∀ x y z : Int, named x y z = true → s ≠ nameB x y z := fun x y z hn e => hex ⟨x, y, z, hn, e⟩
      exact ⟨0, 0, 0, 11, false, fun W V => read_no s W V hs hno, .inr ⟨rfl, rfl, rfl, rfl, rfl, fun W => rr_no s W hs hno⟩⟩
  obtain ⟨x, y, z, er, ok, RD, hRR⟩ := RW
  have RN := fun (W : World) (h : named r i k = true) => rname_any r i k W h
  have hnm : (named r i k = true ∧ nmS r i k = nameB r i k ∧ nmE r i k = 0) ∨ (named r i k = false ∧ nmS r i k = ⟨#[]⟩ ∧ nmE r i k = 2) := by
    unfold nmS nmE
    cases named r i k
    · exact .inr ⟨rfl, rfl, rfl⟩
    · exact .inl ⟨rfl, rfl, rfl⟩
  replace P1 := hidS P1
  replace B1 := hidS B1
  replace E := hidS E
  replace RD := hidS RD
  rcases hnm with ⟨g1, g2, g3⟩ | ⟨g1, g2, g3⟩
  · rw [g2, g3] at N1
    rw [g1] at PL
    replace RN := hidS (fun W => RN W g1)
    replace N1 := hidS N1
    clear g1 g2 g3
    generalize nameB r i k = t at *
    have nq : (t.toList != t.toList) = false := by simp
    rcases hRR with ⟨rfl, rfl, RR⟩ | ⟨rfl, rfl, rfl, rfl, rfl, RR⟩
    all_goals replace RR := hidS RR
    all_goals go_enter Tryd.func3, Tryd.ntmps3
    all_goals go_wp2_with (first
      | (go_at_call 6; refine N0.mono ?_; clear N0; rintro e w2 ⟨rfl, B2⟩; clear c0 c1 c2 c3; obtain ⟨c0, c1, c2, c3⟩ := P1.out.below B2; have V2 := hidS (seqB B1.out B2 (Nat.le_refl _)); have Q2 := hidS (P1.out.below B2); clear B2)
      | (go_at_call 6; refine (N1.out _ (E.out.below V2.out)).mono ?_; clear N1; rintro e w3 ⟨rfl, B3⟩; clear c0 c1 c2 c3; obtain ⟨c0, c1, c2, c3⟩ := Q2.out.below B3; have V3 := hidS (seqB V2.out B3 (Nat.le_refl _)); have Q3 := hidS (Q2.out.below B3); clear B3)
      | (go_at_call 7; refine (PL _).mono ?_; clear PL; rintro e w4 ⟨rfl, B4⟩; clear c0 c1 c2 c3; obtain ⟨c0, c1, c2, c3⟩ := Q3.out.below B4; have V4 := hidS (seqB V3.out B4 (Nat.le_refl _)); have Q4 := hidS (Q3.out.below B4); clear B4)
      | (go_at_call 8; refine (RN.out _).mono ?_; clear RN; rintro e w5 ⟨rfl, B5⟩; have V5 := hidS (seqB V4.out B5 (Nat.le_refl _)); clear B5)
      | (go_at_call 9; refine (RD.out _ (E.out.below V5.out)).mono ?_; clear RD; rintro e w6 ⟨rfl, B6⟩; have V6 := hidS (seqB V5.out B6 (Nat.le_refl _)); have A6 := fun o => hidS (V6.out.alloc V6.out.size o); clear B6))
    · go_wp2_with (first | (go_at_call 10; refine (RR.out _).mono ?_; clear RR; rintro e w7 ⟨rfl, B7⟩; obtain ⟨d0, d1, d2, d3⟩ := (Pl.made w6 x y z 24).below B7; have V7 := hidS (seqB (A6 _).out B7 (Nat.le_refl _)); clear B7))
      go_ret
      exact ⟨rfl, V7.out.alloc V7.out.size _⟩
    · go_wp2_with (first | (go_at_call 10; refine (RR.out _).mono ?_; clear RR; rintro e w7 ⟨⟨xa, xb, xc, rfl⟩, B7⟩; obtain ⟨d0, d1, d2, d3⟩ := (Pl.made w6 0 0 0 24).below B7; have V7 := hidS (seqB (A6 _).out B7 (Nat.le_refl _)); clear B7))
      go_ret
      exact ⟨rfl, V7.out.alloc V7.out.size _⟩
  · rw [g2, g3] at N1
    rw [g1] at PL
    replace N1 := hidS N1
    clear g1 g2 g3 RN
    rcases hRR with ⟨rfl, rfl, RR⟩ | ⟨rfl, rfl, rfl, rfl, rfl, RR⟩
    all_goals replace RR := hidS RR
    all_goals go_enter Tryd.func3, Tryd.ntmps3
    all_goals go_wp2_with (first
      | (go_at_call 6; refine N0.mono ?_; clear N0; rintro e w2 ⟨rfl, B2⟩; clear c0 c1 c2 c3; obtain ⟨c0, c1, c2, c3⟩ := P1.out.below B2; have V2 := hidS (seqB B1.out B2 (Nat.le_refl _)); have Q2 := hidS (P1.out.below B2); clear B2)
      | (go_at_call 6; refine (N1.out _ (E.out.below V2.out)).mono ?_; clear N1; rintro e w3 ⟨rfl, B3⟩; clear c0 c1 c2 c3; obtain ⟨c0, c1, c2, c3⟩ := Q2.out.below B3; have V3 := hidS (seqB V2.out B3 (Nat.le_refl _)); have Q3 := hidS (Q2.out.below B3); clear B3)
      | (go_at_call 7; refine (PL _).mono ?_; clear PL; rintro e w4 ⟨rfl, B4⟩; clear c0 c1 c2 c3; obtain ⟨c0, c1, c2, c3⟩ := Q3.out.below B4; have V4 := hidS (seqB V3.out B4 (Nat.le_refl _)); have Q4 := hidS (Q3.out.below B4); clear B4)
      | (go_at_call 9; refine (RD.out _ (E.out.below V4.out)).mono ?_; clear RD; rintro e w6 ⟨rfl, B6⟩; have V6 := hidS (seqB V4.out B6 (Nat.le_refl _)); have A6 := fun o => hidS (V6.out.alloc V6.out.size o); clear B6))
    · go_wp2_with (first | (go_at_call 10; refine (RR.out _).mono ?_; clear RR; rintro e w7 ⟨rfl, B7⟩; obtain ⟨d0, d1, d2, d3⟩ := (Pl.made w6 x y z 24).below B7; have V7 := hidS (seqB (A6 _).out B7 (Nat.le_refl _)); clear B7))
      go_ret
      exact ⟨rfl, V7.out.alloc V7.out.size _⟩
    · go_wp2_with (first | (go_at_call 10; refine (RR.out _).mono ?_; clear RR; rintro e w7 ⟨⟨xa, xb, xc, rfl⟩, B7⟩; obtain ⟨d0, d1, d2, d3⟩ := (Pl.made w6 0 0 0 24).below B7; have V7 := hidS (seqB (A6 _).out B7 (Nat.le_refl _)); clear B7))
      go_ret
      exact ⟨rfl, V7.out.alloc V7.out.size _⟩
end Go.Proofs.YtpmpdkpnjfidhaaDoor.St
