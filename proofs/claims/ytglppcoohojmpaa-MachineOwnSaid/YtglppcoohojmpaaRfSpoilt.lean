import Derived.Test.YtglppcoohojmpaaRfSpoilt1
import Derived.BigQuiet
/-
  THE DOCUMENT's Spoilt.
-/
namespace Go.Proofs.Ytglppcoohojmpaa.Rf
open Go.RowKit Go.Shelf Mr Me Ma
set_option linter.unusedVariables false
set_option maxRecDepth 100000 in
set_option maxHeartbeats 8000000 in
theorem Spoilt_any {W : World} {S1 S2 S3 S4 : Nat → Prop} {u1 u2 u3 u4 y1 y2 y4 : Value} {n1 n2 n4 k : Nat} {mark : Int} (h1 : Has W S1 78 9 u1 (n1 + k) (clc (spl (mC mark) (aC mark) n1 k))) (h2 : Has W S2 128 7 u2 (n2 + k) (lgc (spl (mA mark) (aA mark) n2 k))) (h3 : Has W S3 130 5 u3 k (sfc (spl (aS mark) (aS mark) 0 k))) (h4 : Has W S4 59 1 u4 (n4 + k) (wrd (spl (mW mark) (aW mark) n4 k))) (e1 : ∃ r d, y1 = .slice r n1 d) (e2 : ∃ r d, y2 = .slice r n2 d) (e4 : ∃ r d, y4 = .slice r n4 d) (m0 : 0 ≤ mark) (m1 : mark ≤ 10000) (b1 : n1 ≤ 100000) (b2 : n2 ≤ 100000) (b4 : n4 ≤ 100000) (bk : k ≤ 100) :
    Calls Try.prog 29 #[runV u1 u2 u3 u4, runV y1 y2 (.slice none 0 0) y4, .int .i64 mark] W fun e w' => e = .returned (.bool true) ∧ Below W.heap.size W w' := by
  obtain ⟨p1, c1, rfl, _⟩ := h1.form
  obtain ⟨p2, c2, rfl, _⟩ := h2.form
  obtain ⟨p3, c3, rfl, _⟩ := h3.form
  obtain ⟨p4, c4, rfl, _⟩ := h4.form
  obtain ⟨r1, d1, rfl⟩ := e1
  obtain ⟨r2, d2, rfl⟩ := e2
  obtain ⟨r4, d4, rfl⟩ := e4
  have E0 : B8 W (.slice p1 (n1 + k) c1) (.slice p2 (n2 + k) c2) (.slice p3 k c3) (.slice p4 (n4 + k) c4) (.slice r1 n1 d1) (.slice r2 n2 d2) (.slice none 0 0) (.slice r4 n4 d4) ((W.alloc (.cells #[.slice p1 (n1 + k) c1, .slice p2 (n2 + k) c2, .slice p3 k c3, .slice p4 (n4 + k) c4] 53)).alloc (.cells #[.slice r1 n1 d1, .slice r2 n2 d2, .slice none 0 0, .slice r4 n4 d4] 53)) := ⟨(two_new W _ _).2.2, (two_new W _ _).1, (two_new W _ _).2.1⟩
  replace E0 := Mr.hid E0
  replace h1 := Mr.hid h1
  replace h2 := Mr.hid h2
  replace h3 := Mr.hid h3
  replace h4 := Mr.hid h4
  unfold runV
  go_enter Try.func29, Try.ntmps29
  go_upto_region 0 with fail
  go_cut [3, 4] (fun s2 s4 wx => s2 = .pointer (some ⟨W.heap.size, 0, none⟩) ∧ s4 = .pointer (some ⟨W.heap.size + 1, 0, none⟩) ∧ wx = ((W.alloc (.cells #[.slice p1 (n1 + k) c1, .slice p2 (n2 + k) c2, .slice p3 k c3, .slice p4 (n4 + k) c4] 53)).alloc (.cells #[.slice r1 n1 d1, .slice r2 n2 d2, .slice none 0 0, .slice r4 n4 d4] 53)))
  case first =>
    go_wp2
    go_meet
    case rel => exact ⟨rfl, by simp, rfl⟩
  case rest =>
    obtain ⟨rfl, rfl, hw⟩ := hcut
    obtain rfl := hw.symm
    go_step
    exact spt_1 E0.out h1.out h2.out h3.out h4.out m0 m1 b1 b2 b4 bk
end Go.Proofs.Ytglppcoohojmpaa.Rf
