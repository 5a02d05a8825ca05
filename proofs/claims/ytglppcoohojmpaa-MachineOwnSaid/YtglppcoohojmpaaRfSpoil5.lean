import Derived.Test.YtglppcoohojmpaaRfSpP
/-
  THE DOCUMENT's Spoil.
-/
namespace Go.Proofs.Ytglppcoohojmpaa.Rf
open Go.RowKit Go.Shelf Mr Me Ma
theorem i64s (x : Int) (h1 : -9223372036854775808 ≤ x) (h2 : x ≤ 9223372036854775807) : IntKind.i64.wrap x = x := by
  simp [IntKind.wrap, IntKind.signed, IntKind.bits]; omega
theorem u64s (x : Int) (h1 : 0 ≤ x) (h2 : x ≤ 9223372036854775807) : IntKind.u64.wrap x = x := by
  show x % 18446744073709551616 = x; omega
def SpPost (W : World) (A : Nat → Prop) (v1 v2 v4 : Value) (n1 n2 n4 : Nat) (mark : Int) (e : Ending) (w' : World) : Prop :=
  ∃ u1 u2 u3 u4, e = .returned (runV u1 u2 u3 u4) ∧ Has w' (fun k => A k ∨ W.heap.size + 2 ≤ k) 78 9 u1 (n1 + 70) (clc (spl (mC mark) (aC mark) n1 70)) ∧ Has w' (fun k => A k ∨ W.heap.size + 2 ≤ k) 128 7 u2 (n2 + 70) (lgc (spl (mA mark) (aA mark) n2 70)) ∧ Has w' (fun k => A k ∨ W.heap.size + 2 ≤ k) 130 5 u3 70 (sfc (spl (aS mark) (aS mark) 0 70)) ∧ Has w' (fun k => A k ∨ W.heap.size + 2 ≤ k) 59 1 u4 (n4 + 70) (wrd (spl (mW mark) (aW mark) n4 70)) ∧
    Has w' A 78 9 v1 n1 (clc ((List.range n1).map (mC mark))) ∧ Has w' A 128 7 v2 n2 (lgc ((List.range n2).map (mA mark))) ∧ Has w' A 59 1 v4 n4 (wrd ((List.range n4).map (mW mark))) ∧ Fr W w' A
theorem info_shf : (Try.prog.info? 130).map (fun i => (i.zero, i.size, i.bytes)) = some (some (.agg #[.int .i64 0, .int .i64 0, .int .i64 0, .int .i64 0, .int .i64 0]), 5, 40) := by kernel_rfl
/-- The end of Spoil: the run is put into the result's cell. -/
theorem spoil_end {W wr : World} {A : Nat → Prop} {v1 v2 v4 u1 u2 u3 u4 : Value} {l1 : List Cl} {l2 : List Acc} {l3 : List Sf} {l4 : List Int} {o1 : List Cl} {o2 : List Acc} {o4 : List Int} (h : Sb W wr A v1 v2 v4 u1 u2 u3 u4 l1 l2 l3 l4 o1 o2 o4) : ∃ W5, (((wr.setCell ⟨W.heap.size + 1, 0, none⟩ u1).setCell ⟨W.heap.size + 1, 1, none⟩ u2).setCell ⟨W.heap.size + 1, 2, none⟩ u3).setCell ⟨W.heap.size + 1, 3, none⟩ u4 = W5 ∧
    (W5.cell? ⟨W.heap.size + 1, 0, none⟩ = some u1 ∧ W5.cell? ⟨W.heap.size + 1, 1, none⟩ = some u2 ∧ W5.cell? ⟨W.heap.size + 1, 2, none⟩ = some u3 ∧ W5.cell? ⟨W.heap.size + 1, 3, none⟩ = some u4) ∧
    Has W5 (fun k => A k ∨ W.heap.size + 2 ≤ k) 78 9 u1 l1.length (clc l1) ∧ Has W5 (fun k => A k ∨ W.heap.size + 2 ≤ k) 128 7 u2 l2.length (lgc l2) ∧ Has W5 (fun k => A k ∨ W.heap.size + 2 ≤ k) 130 5 u3 l3.length (sfc l3) ∧ Has W5 (fun k => A k ∨ W.heap.size + 2 ≤ k) 59 1 u4 l4.length (wrd l4) ∧
    Has W5 A 78 9 v1 o1.length (clc o1) ∧ Has W5 A 128 7 v2 o2.length (lgc o2) ∧ Has W5 A 59 1 v4 o4.length (wrd o4) ∧ Fr W W5 A := by
  obtain ⟨W5, hW5⟩ : ∃ W5, (((wr.setCell ⟨W.heap.size + 1, 0, none⟩ u1).setCell ⟨W.heap.size + 1, 1, none⟩ u2).setCell ⟨W.heap.size + 1, 2, none⟩ u3).setCell ⟨W.heap.size + 1, 3, none⟩ u4 = W5 := ⟨_, rfl⟩
  have hb5 : W5.heap[W.heap.size + 1]? = some (.cells #[u1, u2, u3, u4] 53 (0, 0)) := by
    rw [← hW5, setBlk (setBlk (setBlk (setBlk h.rs 0 _) 1 _) 2 _) 3 _]
    rfl
  have ho5 : ∀ k, k ≠ W.heap.size + 1 → W5.heap[k]? = wr.heap[k]? := fun k hk => by
    rw [← hW5, Below.heap_setCell _ _ _ k hk, Below.heap_setCell _ _ _ k hk, Below.heap_setCell _ _ _ k hk, Below.heap_setCell _ _ _ k hk]
  have hF : Fr W W5 A := by
    rw [← hW5]
    exact (((h.fr.setCell _ _ (.inr (Nat.le_succ _))).setCell _ _ (.inr (Nat.le_succ _))).setCell _ _ (.inr (Nat.le_succ _))).setCell _ _ (.inr (Nat.le_succ _))
  have keep : ∀ {e size m : Nat} {v : Value} {xs : List Value} {S : Nat → Prop}, 53 ≠ e → Has wr S e size v m xs → Has W5 S e size v m xs := fun {e size m v xs S} hne hh =>
    hh.kept (fun k hk => ho5 k (fun e' => not_row h.rs hh hne (e' ▸ hk))) (fun k hk => (hh.lt k hk).1)
  exact ⟨W5, hW5, ⟨by simp [World.cell?, hb5], by simp [World.cell?, hb5], by simp [World.cell?, hb5], by simp [World.cell?, hb5]⟩, keep (by decide) h.h1, keep (by decide) h.h2, keep (by decide) h.h3, keep (by decide) h.h4, keep (by decide) h.p1, keep (by decide) h.p2, keep (by decide) h.p4, hF⟩
noncomputable def codeS5 : Code := tl 5 (Try.f28.body.getD .skip)
set_option maxRecDepth 100000 in
set_option maxHeartbeats 8000000 in
theorem spoil_5 {W wr0 : World} {A : Nat → Prop} {v1 v2 v4 : Value} {n1 n2 n4 : Nat} {mark : Int} (hE : Sb W wr0 A v1 v2 v4 v1 v2 (.slice none 0 0) v4 ((List.range n1).map (mC mark)) ((List.range n2).map (mA mark)) [] ((List.range n4).map (mW mark)) ((List.range n1).map (mC mark)) ((List.range n2).map (mA mark)) ((List.range n4).map (mW mark))) (m0 : 0 ≤ mark) (m1 : mark ≤ 10000) (b1 : n1 ≤ 100000) (b2 : n2 ≤ 100000) (b4 : n4 ≤ 100000) {z0 z3 z5 z6 z7 z8 z9 z10 z11 z12 z13 z14 z15 z16 z17 z18 z19 z20 z21 z22 z23 z24 z25 z26 z27 z28 z29 z30 z31 z32 z33 z34 z35 z36 z37 z38 z39 z40 z41 z42 z43 z44 z45 z46 z47 z48 z49 z50 z51 z52 z53 z54 z55 z56 z57 z58 z59 z60 z61 z62 z63 z64 z65 z66 z67 z68 z69 z70 z71 z72 z73 z74 z75 z76 z77 z78 z79 z80 z81 z82 z83 z84 z85 z86 z87 z88 z89 z90 z91 z92 z93 z94 z95 z96 z97 z98 z99 z100 z101 z102 z103 z104 z105 z106 z107 z108 z109 z110 z111 z112 z113 z114 z115 z116 z117 z118 z119 : Value} :
    Code.wp Try.prog codeS5 (bodyPost Try.prog Try.f28 fun e w' => SpPost W A v1 v2 v4 n1 n2 n4 mark e w') ⟨#[z0, .int .i64 mark, .pointer (some ⟨W.heap.size, 0, none⟩), z3, .pointer (some ⟨(W.heap.size + 1), 0, none⟩), z5, z6, z7, z8, z9, z10, z11, z12, z13, z14, z15, z16, z17, z18, z19, z20, z21, z22, z23, z24, z25, z26, z27, z28, z29, z30, z31, z32, z33, z34, z35, z36, z37, z38, z39, z40, z41, z42, z43, z44, z45, z46, z47, z48, z49, z50, z51, z52, z53, z54, z55, z56, z57, z58, z59, z60, z61, z62, z63, z64, z65, z66, z67, z68, z69, z70, z71, z72, z73, z74, z75, z76, z77, z78, z79, z80, z81, z82, z83, z84, z85, z86, z87, z88, z89, z90, z91, z92, z93, z94, z95, z96, z97, z98, z99, z100, z101, z102, z103, z104, z105, z106, z107, z108, z109, z110, z111, z112, z113, z114, z115, z116, z117, z118, z119], []⟩ wr0 := by
  obtain ⟨i1, p1, p2, p3, p4⟩ := info_parts info_call
  obtain ⟨i2, q1, q2, q3, q4⟩ := info_parts info_acc
  obtain ⟨i3, r1, r2, r3, r4⟩ := info_parts info_shf
  obtain ⟨i4, t1, t2, t3, t4⟩ := info_parts info_u64'
  have wn : IntKind.i64.wrap (-mark) = -mark := i64s _ (by omega) (by omega)
  have wu : IntKind.u64.wrap mark = mark := u64s _ (by omega) (by omega)
  have wu2 : IntKind.u64.wrap (mark + 1000000) = mark + 1000000 := u64s _ (by omega) (by omega)
  replace hE := Mr.hid hE
  unfold codeS5
  conv => arg 2; whnf
  go_wp2
  rename (∀ (a : Act) (w : World), Code.wp _ (Code.seq _ _) _ a w → _) => hK1
  replace hK1 := Mr.hid hK1
  go_loopg [9] 70 (fun k s9 wy => ∃ (i : Nat) (u1 u2 u3 u4 : Value), s9 = .int .i64 (i : Int) ∧ i + k = 70 ∧ Sb W wy A v1 v2 v4 u1 u2 u3 u4 (spl (mC mark) (aC mark) n1 i) (spl (mA mark) (aA mark) n2 i) (spl (aS mark) (aS mark) 0 i) (spl (mW mark) (aW mark) n4 i) ((List.range n1).map (mC mark)) ((List.range n2).map (mA mark)) ((List.range n4).map (mW mark)))
  case atStart => exact ⟨0, _, _, _, _, rfl, rfl, by rw [spl_zero, spl_zero, spl_zero, spl_zero]; exact hE.out⟩
  case round =>
    obtain ⟨i, u1, u2, u3, u4, rfl, hik, E⟩ := hrel
    clear hE
    by_cases hi : i < 70
    · have d0 : decide ((i : Int) < 70) = true := decide_eq_true (by omega)
      have ws : IntKind.i64.wrap (-mark - (i : Int)) = -mark - (i : Int) := i64s _ (by omega) (by omega)
      have s1 := spl_succ (mC mark) (aC mark) n1 i
      have s2 := spl_succ (mA mark) (aA mark) n2 i
      have s3 := spl_succ (aS mark) (aS mark) 0 i
      have s4 := spl_succ (mW mark) (aW mark) n4 i
      have k1 := spl_len (mC mark) (aC mark) n1 i
      have k2 := spl_len (mA mark) (aA mark) n2 i
      have k3 := spl_len (aS mark) (aS mark) 0 i
      have k4 := spl_len (mW mark) (aW mark) n4 i
      generalize spl (mC mark) (aC mark) n1 i = L1 at *
      generalize spl (mA mark) (aA mark) n2 i = L2 at *
      generalize spl (aS mark) (aS mark) 0 i = L3 at *
      generalize spl (mW mark) (aW mark) n4 i = L4 at *
      replace k1 := Mr.hid k1
      replace k2 := Mr.hid k2
      replace k3 := Mr.hid k3
      replace k4 := Mr.hid k4
      replace s1 := Mr.hid s1
      replace s2 := Mr.hid s2
      replace s3 := Mr.hid s3
      replace s4 := Mr.hid s4
      obtain ⟨a1, c1, rfl, _⟩ := E.h1.form
      obtain ⟨a2, c2, rfl, _⟩ := E.h2.form
      obtain ⟨a3, c3, rfl, _⟩ := E.h3.form
      obtain ⟨a4, c4, rfl, _⟩ := E.h4.form
      obtain ⟨f0, f1, f2, f3, f4, f5, f6⟩ := E.cells
      replace E := Mr.hid E
      go_wp2_with (first
        | (at_builtin; have law := E.out.h1.alloc (.cells #[.int .i64 (-mark - (i : Int)), .int .i64 0, .int .i64 0, .int .i64 0, .int .i64 0, .int .i64 0, .int .i64 0, .int .i64 0, .int .i64 0] 78); refine wpList_append_keep _ rfl (.tmp 82) (.tmp 88) 49 rfl (fun k => A k ∨ W.heap.size + 2 ≤ k) 78 i1 _ 9 72 Try.underlying49 p1 p2 p3 p4 rfl (.slice a1 L1.length c1) L1.length (clc L1) rfl law ⟨_, 0, none⟩ 1 1 [.int .i64 (-mark - (i : Int)), .int .i64 0, .int .i64 0, .int .i64 0, .int .i64 0, .int .i64 0, .int .i64 0, .int .i64 0, .int .i64 0] (by first | rfl | simp [Act.eval]) rfl (newsAt wr _ #[.int .i64 (-mark - (i : Int)), .int .i64 0, .int .i64 0, .int .i64 0, .int .i64 0, .int .i64 0, .int .i64 0, .int .i64 0, .int .i64 0] 78 _ (by first | rfl | simp) rfl) (by simp [Value.oneCell']) (by omega) (by have := k1.out; unfold maxLen; omega) (by have := k1.out; omega) (.inr (by have h6 := f6; simp at h6 ⊢; omega)) ?_; clear law; intro g1 d1 w1 hown hgrow hkept; obtain ⟨⟨kc, kf⟩, E1⟩ := Sb.app1 (x := aC mark i) E.out hown hgrow hkept; clear hown hgrow hkept f0 f1 f2 f3 f4 f5 f6; obtain ⟨f0, f1, f2, f3, f4, f5, f6⟩ := E1.cells; replace E1 := Mr.hid E1; clear E)
        | (at_builtin; have law := E1.out.h2.alloc (.cells #[.int .i64 (-mark - (i : Int)), .int .i64 0, .int .i64 0, .int .i64 0, .int .u64 0, .int .u64 0, .int .u64 0] 128); refine wpList_append_keep _ rfl (.tmp 92) (.tmp 98) 50 rfl (fun k => A k ∨ W.heap.size + 2 ≤ k) 128 i2 _ 7 56 Try.underlying50 q1 q2 q3 q4 rfl (.slice a2 L2.length c2) L2.length (lgc L2) rfl law ⟨_, 0, none⟩ 1 1 [.int .i64 (-mark - (i : Int)), .int .i64 0, .int .i64 0, .int .i64 0, .int .u64 0, .int .u64 0, .int .u64 0] (by first | rfl | simp [Act.eval]) rfl (newsAt (w1.setCell ⟨W.heap.size, 0, none⟩ (.slice (some ⟨g1, 0, none⟩) (L1.length + 1) d1)) _ #[.int .i64 (-mark - (i : Int)), .int .i64 0, .int .i64 0, .int .i64 0, .int .u64 0, .int .u64 0, .int .u64 0] 128 _ (by first | rfl | simp) rfl) (by simp [Value.oneCell']) (by omega) (by have := k2.out; unfold maxLen; omega) (by have := k2.out; omega) (.inr (by have h6 := f6; simp at h6 ⊢; omega)) ?_; clear law; intro g2 d2 w2 hown hgrow hkept; obtain ⟨⟨kc, kf⟩, E2⟩ := Sb.app2 (x := aA mark i) E1.out hown hgrow hkept; clear hown hgrow hkept f0 f1 f2 f3 f4 f5 f6; obtain ⟨f0, f1, f2, f3, f4, f5, f6⟩ := E2.cells; replace E2 := Mr.hid E2; clear E1)
        | (at_builtin; have law := E2.out.h3.alloc (.cells #[.int .i64 (-mark - (i : Int)), .int .i64 0, .int .i64 0, .int .i64 0, .int .i64 0] 130); refine wpList_append_keep _ rfl (.tmp 102) (.tmp 108) 51 rfl (fun k => A k ∨ W.heap.size + 2 ≤ k) 130 i3 _ 5 40 Try.underlying51 r1 r2 r3 r4 rfl (.slice a3 L3.length c3) L3.length (sfc L3) rfl law ⟨_, 0, none⟩ 1 1 [.int .i64 (-mark - (i : Int)), .int .i64 0, .int .i64 0, .int .i64 0, .int .i64 0] (by first | rfl | simp [Act.eval]) rfl (newsAt (w2.setCell ⟨W.heap.size, 1, none⟩ (.slice (some ⟨g2, 0, none⟩) (L2.length + 1) d2)) _ #[.int .i64 (-mark - (i : Int)), .int .i64 0, .int .i64 0, .int .i64 0, .int .i64 0] 130 _ (by first | rfl | simp) rfl) (by simp [Value.oneCell']) (by omega) (by have := k3.out; unfold maxLen; omega) (by have := k3.out; omega) (.inr (by have h6 := f6; simp at h6 ⊢; omega)) ?_; clear law; intro g3 d3 w3 hown hgrow hkept; obtain ⟨⟨kc, kf⟩, E3⟩ := Sb.app3 (x := aS mark i) E2.out hown hgrow hkept; clear hown hgrow hkept f0 f1 f2 f3 f4 f5 f6; obtain ⟨f0, f1, f2, f3, f4, f5, f6⟩ := E3.cells; replace E3 := Mr.hid E3; clear E2)
        | (at_builtin; have law := E3.out.h4.alloc (.cells #[.int .u64 (mark + 1000000)] 59); refine wpList_append_keep _ rfl (.tmp 112) (.tmp 116) 22 rfl (fun k => A k ∨ W.heap.size + 2 ≤ k) 59 i4 _ 1 8 Try.underlying22 t1 t2 t3 t4 rfl (.slice a4 L4.length c4) L4.length (wrd L4) rfl law ⟨_, 0, none⟩ 1 1 [.int .u64 (mark + 1000000)] (by first | rfl | simp [Act.eval]) rfl (newsAt (w3.setCell ⟨W.heap.size, 2, none⟩ (.slice (some ⟨g3, 0, none⟩) (L3.length + 1) d3)) _ #[.int .u64 (mark + 1000000)] 59 _ (by first | rfl | simp) rfl) (by simp [Value.oneCell']) (by omega) (by have := k4.out; unfold maxLen; omega) (by have := k4.out; omega) (.inr (by have h6 := f6; simp at h6 ⊢; omega)) ?_; clear law; intro g4 d4 w4 hown hgrow hkept; obtain ⟨⟨kc, kf⟩, E4⟩ := Sb.app4 (x := aW mark i) E3.out hown hgrow hkept; clear hown hgrow hkept f0 f1 f2 f3 f4 f5 f6; obtain ⟨f0, f1, f2, f3, f4, f5, f6⟩ := E4.cells; replace E4 := Mr.hid E4; clear E3))
      go_roundg (gk - 1)
      case measure => omega
      case rel => exact ⟨i + 1, _, _, _, _, by simp, by omega, by rw [s1.out, s2.out, s3.out, s4.out]; exact E4.out⟩
    · have d0 : decide ((i : Int) < 70) = false := decide_eq_false (by omega)
      obtain rfl : i = 70 := by omega
      obtain ⟨a1, c1, rfl, _⟩ := E.h1.form
      obtain ⟨a2, c2, rfl, _⟩ := E.h2.form
      obtain ⟨a3, c3, rfl, _⟩ := E.h3.form
      obtain ⟨a4, c4, rfl, _⟩ := E.h4.form
      obtain ⟨f0, f1, f2, f3, f4, f5, f6⟩ := E.cells
      have e0 : wr.cell? ⟨W.heap.size + 1, 0, none⟩ = some (.slice none 0 0) := by simp [World.cell?, E.rs]
      have e1 : wr.cell? ⟨W.heap.size + 1, 1, none⟩ = some (.slice none 0 0) := by simp [World.cell?, E.rs]
      have e2 : wr.cell? ⟨W.heap.size + 1, 2, none⟩ = some (.slice none 0 0) := by simp [World.cell?, E.rs]
      have e3 : wr.cell? ⟨W.heap.size + 1, 3, none⟩ = some (.slice none 0 0) := by simp [World.cell?, E.rs]
      have e4 : ∀ j, wr.frozen? ⟨W.heap.size + 1, j, none⟩ = false := fun j => by simp [World.frozen?, E.rs]
      have FN := spoil_end E
      simp only [spl_len, List.length_map, List.length_range, Nat.zero_add] at FN f0 f1 f2 f3
      replace FN := Mr.hid FN
      clear E
      go_wp2
      refine hK1.out _ _ ?_
      go_wp2
      obtain ⟨W5, hW5, ⟨d0, d1, d2, d3⟩, g1, g2, g3, g4, j1, j2, j4, hF⟩ := FN.out
      rw [hW5]
      refine bodyPost_ret (v := runV (.slice a1 (n1 + 70) c1) (.slice a2 (n2 + 70) c2) (.slice a3 70 c3) (.slice a4 (n4 + 70) c4)) (by simp [results, Try.f28, go_sem, d0, d1, d2, d3, runV]) rfl ?_
      exact ⟨_, _, _, _, rfl, g1, g2, g3, g4, j1, j2, j4, hF⟩
end Go.Proofs.Ytglppcoohojmpaa.Rf
