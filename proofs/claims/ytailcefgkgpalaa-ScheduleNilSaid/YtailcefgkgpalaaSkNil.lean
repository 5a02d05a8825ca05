/-
  SCHEDULE: ScheduleNil.
-/
import Derived.Test.YtailcefgkgpalaaSsStep
import Derived.Test.YtailcefgkgpalaaSfStep
import Derived.OpenShut
namespace Go.Proofs.Ytailcefgkgpalaa.Sn
open Go.RowKit Mr Md Sh
open Go.Op (bytesLess)
set_option linter.unusedVariables false
set_option linter.unusedSimpArgs false
set_option maxRecDepth 100000
theorem nil_put (n : Int) (a : ByteArray) (w : World) : Calls Try.prog 4 #[.pointer none, .int .i64 n, .string a] w fun e w' => e = .returned (.tuple #[]) ∧ w' = w := by
  go_enter Try.func4, Try.ntmps4
  go_wp2
  (try simp only [Exit.inBlock, Exit.then])
  refine bodyPost_ret (results_none rfl _ _ _) rfl ?_
  exact ⟨rfl, rfl⟩
theorem nil_len (w : World) : Calls Try.prog 6 #[.pointer none] w fun e w' => e = .returned (.int .i64 0) ∧ w' = w := by
  go_enter Try.func6, Try.ntmps6
  go_wp2
  go_ret
  exact ⟨rfl, rfl⟩
set_option maxHeartbeats 4000000 in
theorem nil_next (w : World) : Calls Try.prog 5 #[.pointer none] w fun e w' => e = .returned (.tuple #[.int .i64 0, .string ByteArray.empty, .bool false]) ∧ Below w.heap.size w w' := by
  have L := Mr.hid (nil_len w)
  go_enter Try.func5, Try.ntmps5
  go_upto_region 3 with (go_at_call 6; refine L.out.mono ?_; clear L; rintro e w1 ⟨rfl, hw1⟩; obtain rfl := hw1.symm)
  go_quiet (fail)
  go_wp2
  go_ret3
  exact ⟨rfl, ((Below.refl _ _).alloc (Nat.le_refl _) _).trans (Bx.draws _ _ nq)⟩
/-- The texts' ranks. -/
def rk (a b c : ByteArray) : Int := if bytesLess a.toList b.toList then (if c.toList == b.toList then 1 else 0) else if bytesLess b.toList a.toList then (if c.toList == a.toList then 1 else 0) else 0
theorem ds_a (a b : ByteArray) : Ds a b (rk a b a) a := ⟨.inl rfl, rfl⟩
theorem ds_b (a b : ByteArray) : Ds a b (rk a b b) b := ⟨.inr rfl, rfl⟩
theorem rk_lt {a b : ByteArray} (h : bytesLess b.toList a.toList = true) : rk a b b = 0 ∧ rk a b a = 1 := by
  have h1 := less_asym _ _ h
  have hne : (b.toList == a.toList) = false := by
    cases hq : (b.toList == a.toList) with
    | false => rfl
    | true => have := eq_of_beq hq; rw [this, less_irr] at h; cases h
  unfold rk
  simp [h, h1, hne]
theorem rk_ge {a b : ByteArray} (h : bytesLess b.toList a.toList = false) : rk a b a ≤ rk a b b := by
  unfold rk
  cases h1 : bytesLess a.toList b.toList with
  | true =>
    have hne : (a.toList == b.toList) = false := by
      cases hq : (a.toList == b.toList) with
      | false => rfl
      | true => have := eq_of_beq hq; rw [this, less_irr] at h1; cases h1
    simp [hne]
  | false => simp [h]
set_option maxHeartbeats 32000000 in
theorem walk_nil (a b : ByteArray) (n : Int) (W : World) {P Q : Prop} (_h1 : P) (_h2 : Q) (h3 : (Lit.int .i64 n).wf = true) :
    Calls Try.prog 3 #[.string a, .string b, .int .i64 n] W fun r w' => r = .returned (.bool true) ∧ Below W.heap.size W w' := by
  have hn : Hid (-9223372036854775808 ≤ n ∧ n ≤ 9223372036854775807) := bounds_i64 h3
  clear _h1 _h2 h3
  cases hlt : bytesLess b.toList a.toList with
  | true =>
    go_enter Try.func3, Try.ntmps3
    go_upto_region 6 with (first | (go_at_call 4; refine (nil_put _ _ _).mono ?_; rintro e w1 ⟨rfl, hw1⟩; obtain rfl := hw1.symm) | (go_at_call 5; refine (nil_next _).mono ?_; rintro e w1 ⟨rfl, hB⟩; replace hB := Mr.hid hB) | (go_at_call 6; refine (nil_len _).mono ?_; rintro e w2 ⟨rfl, hw2⟩; obtain rfl := hw2.symm))
    go_upto_region 7 with (fail)
    have H := Ss.hs_new (Ds a b) hB.out
    have C := Mr.hid (fun k c k' c' h h' w => compareD (a := a) (b := b) k c k' c' h h' w)
    generalize w1.heap.size = bs at *
    generalize w1.alloc (.cells #[.slice none 0 0, .int .u64 0] 30) = w2 at *
    have Q : ([] : List Ss.Tr).Perm [] := List.Perm.refl _
    obtain ⟨l, hl0⟩ : ∃ l : List Ss.Tr, l = [] := ⟨_, rfl⟩
    rw [← hl0] at H
    have Q : l.Perm [] := by rw [hl0]
    clear hl0
    have hlen : l.length = 0 := by rw [Q.length_eq]; rfl
    have K := Ss.hs_put C.out H (by omega) (by omega) (by omega) (rk a b a) a (ds_a a b) 1
    replace K := Mr.hid K
    replace Q := Mr.hid Q
    clear H hlen
    go_upto_region 8 with (go_at_call 7; refine K.out.mono ?_; clear K; rintro e w3 ⟨rfl, l3, H3, Q3⟩; replace H3 := Mr.hid H3; replace Q3 := Mr.hid Q3)
    have Q4 : l3.Perm (([] : List Ss.Tr) ++ [⟨rk a b a, a, 1, 0⟩]) := Q3.out.trans (List.Perm.append_right _ Q.out)
    simp only [List.nil_append, List.cons_append] at Q4
    have H := H3.out
    clear H3 Q3 Q l
    have Q := Q4
    clear Q4
    obtain ⟨l, hl9⟩ : ∃ l, l = l3 := ⟨_, rfl⟩
    rw [← hl9] at H Q
    clear hl9 l3
    generalize w3 = w2 at *
    have hlen : l.length = 1 := by rw [Q.length_eq]; rfl
    have K := Ss.hs_put C.out H (by omega) (by omega) (by omega) (rk a b b) b (ds_b a b) 2
    replace K := Mr.hid K
    replace Q := Mr.hid Q
    clear H hlen
    go_upto_region 9 with (go_at_call 7; refine K.out.mono ?_; clear K; rintro e w3 ⟨rfl, l3, H3, Q3⟩; replace H3 := Mr.hid H3; replace Q3 := Mr.hid Q3)
    have Q4 : l3.Perm (([⟨rk a b a, a, 1, 0⟩] : List Ss.Tr) ++ [⟨rk a b b, b, 2, 1⟩]) := Q3.out.trans (List.Perm.append_right _ Q.out)
    simp only [List.nil_append, List.cons_append] at Q4
    have H := H3.out
    clear H3 Q3 Q l
    have Q := Q4
    clear Q4
    obtain ⟨l, hl9⟩ : ∃ l, l = l3 := ⟨_, rfl⟩
    rw [← hl9] at H Q
    clear hl9 l3
    generalize w3 = w2 at *
    have hlen : l.length = 2 := by rw [Q.length_eq]; rfl
    have K := Ss.hs_put C.out H (by omega) (by omega) (by omega) (rk a b a) a (ds_a a b) 3
    replace K := Mr.hid K
    replace Q := Mr.hid Q
    clear H hlen
    go_upto_region 10 with (go_at_call 7; refine K.out.mono ?_; clear K; rintro e w3 ⟨rfl, l3, H3, Q3⟩; replace H3 := Mr.hid H3; replace Q3 := Mr.hid Q3)
    have Q4 : l3.Perm (([⟨rk a b a, a, 1, 0⟩, ⟨rk a b b, b, 2, 1⟩] : List Ss.Tr) ++ [⟨rk a b a, a, 3, 2⟩]) := Q3.out.trans (List.Perm.append_right _ Q.out)
    simp only [List.nil_append, List.cons_append] at Q4
    have H := H3.out
    clear H3 Q3 Q l
    have Q := Q4
    clear Q4
    obtain ⟨l, hl9⟩ : ∃ l, l = l3 := ⟨_, rfl⟩
    rw [← hl9] at H Q
    clear hl9 l3
    generalize w3 = w2 at *
    obtain ⟨r1, r2⟩ := rk_lt hlt
    have Q2 : l.Perm (⟨rk a b b, b, 2, 1⟩ :: [⟨rk a b a, a, 1, 0⟩, ⟨rk a b a, a, 3, 2⟩]) := Q.trans (List.Perm.swap _ _ _)
    obtain ⟨e1, e2, e3⟩ := Ss.next_is H.hep Q2 (fun y hy => by simp only [List.mem_cons, List.not_mem_nil, or_false] at hy; rcases hy with rfl | rfl <;> (refine ⟨?_, ?_⟩ <;> (try unfold Ss.le) <;> simp <;> omega))
    have hlen : l.length = 3 := by rw [Q.length_eq]; rfl
    have K := Ss.hs_next C.out H (by omega) e3
    rw [e1] at K
    simp only at K
    replace K := Mr.hid K
    replace e2 := Mr.hid e2
    clear H Q Q2 e1 e3 hlen r1 r2
    go_upto_region 11 with (go_at_call 8; refine K.out.mono ?_; clear K; rintro e w3 ⟨rfl, l3, H3, Q3⟩; replace H3 := Mr.hid H3; replace Q3 := Mr.hid Q3)
    have hlen : l3.length = 2 := by rw [(Q3.out.trans e2.out).length_eq]; rfl
    have L := Ss.hs_len H3.out
    rw [hlen] at L
    replace L := Mr.hid L
    have hB3 := Mr.hid H3.out.bel
    clear hlen Q3 e2 H3 l C
    have hse : (b.toList == b.toList) = true := by simp
    go_upto_region 19 with (go_at_call 9; refine L.out.mono ?_; clear L; rintro e w4 ⟨rfl, hw4⟩; obtain rfl := hw4.symm)
    go_upto_region 20 with (fail)
    have H := Sf.hs_new (Df n) hB3.out
    have C := Mr.hid (fun k c k' c' h h' w => compareF (n := n) hn.out k c k' c' h h' w)
    generalize w3.heap.size = bf at *
    generalize w3.alloc (.cells #[.slice none 0 0, .int .u64 0] 37) = w5 at *
    obtain ⟨l, hl0⟩ : ∃ l : List Sf.Tr, l = [] := ⟨_, rfl⟩
    rw [← hl0] at H
    have Q : l.Perm [] := by rw [hl0]
    clear hl0
    have hlen : l.length = 0 := by rw [Q.length_eq]; rfl
    have K := Sf.hs_put C.out H (by omega) (by omega) (by omega) 2 (floatOfInt .f64 n) (.inr (.inr ⟨rfl, rfl⟩)) 1
    replace K := Mr.hid K
    replace Q := Mr.hid Q
    clear H hlen
    go_upto_region 21 with (go_at_call 10; refine K.out.mono ?_; clear K; rintro e w6 ⟨rfl, l3, H3, Q3⟩; replace H3 := Mr.hid H3; replace Q3 := Mr.hid Q3)
    have Q4 : l3.Perm (([] : List Sf.Tr) ++ [⟨2, floatOfInt .f64 n, 1, 0⟩]) := Q3.out.trans (List.Perm.append_right _ Q.out)
    simp only [List.nil_append, List.cons_append] at Q4
    have H := H3.out
    clear H3 Q3 Q l
    have Q := Q4
    clear Q4
    obtain ⟨l, hl9⟩ : ∃ l, l = l3 := ⟨_, rfl⟩
    rw [← hl9] at H Q
    clear hl9 l3
    generalize w6 = w5 at *
    have hlen : l.length = 1 := by rw [Q.length_eq]; rfl
    obtain ⟨c1, hc1, hq⟩ := run_quo00 34 w5
    replace hc1 := Mr.hid hc1
    have H0 : Sf.Hs (Df n) W w5.drew bf l _ := ⟨by obtain ⟨S, v, g1, g2⟩ := H.ex; exact ⟨S, v, g1.below ((Below.refl _ _).drew), g2⟩, H.lo, H.bel.drew, H.hep, H.dom⟩
    clear H; have H := H0; clear H0
    have K := Sf.hs_put C.out H (by omega) (by omega) (by omega) 0 c1 (.inl ⟨rfl, hc1.out⟩) 2
    replace K := Mr.hid K
    replace Q := Mr.hid Q
    clear H hlen
    go_upto_region 22 with (go_at_call 10; refine K.out.mono ?_; clear K; rintro e w6 ⟨rfl, l3, H3, Q3⟩; replace H3 := Mr.hid H3; replace Q3 := Mr.hid Q3)
    clear hq
    have Q4 : l3.Perm (([⟨2, floatOfInt .f64 n, 1, 0⟩] : List Sf.Tr) ++ [⟨0, c1, 2, 1⟩]) := Q3.out.trans (List.Perm.append_right _ Q.out)
    simp only [List.nil_append, List.cons_append] at Q4
    have H := H3.out
    clear H3 Q3 Q l
    have Q := Q4
    clear Q4
    obtain ⟨l, hl9⟩ : ∃ l, l = l3 := ⟨_, rfl⟩
    rw [← hl9] at H Q
    clear hl9 l3
    generalize w6 = w5 at *
    have hlen : l.length = 2 := by rw [Q.length_eq]; rfl
    have K := Sf.hs_put C.out H (by omega) (by omega) (by omega) 1 fM (.inr (.inl ⟨rfl, rfl⟩)) 3
    rw [show fM = 18318360957983683996 from rfl] at K
    replace K := Mr.hid K
    replace Q := Mr.hid Q
    clear H hlen
    go_upto_region 23 with (go_at_call 10; refine K.out.mono ?_; clear K; rintro e w6 ⟨rfl, l3, H3, Q3⟩; replace H3 := Mr.hid H3; replace Q3 := Mr.hid Q3)
    have Q4 : l3.Perm (([⟨2, floatOfInt .f64 n, 1, 0⟩, ⟨0, c1, 2, 1⟩] : List Sf.Tr) ++ [⟨1, 18318360957983683996, 3, 2⟩]) := Q3.out.trans (List.Perm.append_right _ Q.out)
    simp only [List.nil_append, List.cons_append] at Q4
    have H := H3.out
    clear H3 Q3 Q l
    have Q := Q4
    clear Q4
    obtain ⟨l, hl9⟩ : ∃ l, l = l3 := ⟨_, rfl⟩
    rw [← hl9] at H Q
    clear hl9 l3
    generalize w6 = w5 at *
    have hlen : l.length = 3 := by rw [Q.length_eq]; rfl
    obtain ⟨c2, hc2, hq⟩ := run_quo00 34 w5
    replace hc2 := Mr.hid hc2
    have H0 : Sf.Hs (Df n) W w5.drew bf l _ := ⟨by obtain ⟨S, v, g1, g2⟩ := H.ex; exact ⟨S, v, g1.below ((Below.refl _ _).drew), g2⟩, H.lo, H.bel.drew, H.hep, H.dom⟩
    clear H; have H := H0; clear H0
    have K := Sf.hs_put C.out H (by omega) (by omega) (by omega) 0 c2 (.inl ⟨rfl, hc2.out⟩) 4
    replace K := Mr.hid K
    replace Q := Mr.hid Q
    clear H hlen
    go_upto_region 24 with (go_at_call 10; refine K.out.mono ?_; clear K; rintro e w6 ⟨rfl, l3, H3, Q3⟩; replace H3 := Mr.hid H3; replace Q3 := Mr.hid Q3)
    clear hq
    have Q4 : l3.Perm (([⟨2, floatOfInt .f64 n, 1, 0⟩, ⟨0, c1, 2, 1⟩, ⟨1, 18318360957983683996, 3, 2⟩] : List Sf.Tr) ++ [⟨0, c2, 4, 3⟩]) := Q3.out.trans (List.Perm.append_right _ Q.out)
    simp only [List.nil_append, List.cons_append] at Q4
    have H := H3.out
    clear H3 Q3 Q l
    have Q := Q4
    clear Q4
    obtain ⟨l, hl9⟩ : ∃ l, l = l3 := ⟨_, rfl⟩
    rw [← hl9] at H Q
    clear hl9 l3
    generalize w6 = w5 at *
    have Q2 : l.Perm (⟨0, c1, 2, 1⟩ :: [⟨2, floatOfInt .f64 n, 1, 0⟩, ⟨1, 18318360957983683996, 3, 2⟩, ⟨0, c2, 4, 3⟩]) := Q.trans (List.Perm.swap _ _ _)
    obtain ⟨e1, e2, e3⟩ := Sf.next_is H.hep Q2 (fun y hy => by simp only [List.mem_cons, List.not_mem_nil, or_false] at hy; rcases hy with rfl | rfl | rfl <;> (refine ⟨?_, ?_⟩ <;> (try unfold Sf.le) <;> simp <;> omega))
    have hlen : l.length = 4 := by rw [Q.length_eq]; rfl
    have K := Sf.hs_next C.out H (by omega) e3
    rw [e1] at K
    simp only at K
    replace K := Mr.hid K
    replace e2 := Mr.hid e2
    clear H Q Q2 e1 e3 hlen
    go_upto_region 25 with (go_at_call 11; refine K.out.mono ?_; clear K; rintro e w6 ⟨rfl, l3, H3, Q3⟩; replace H3 := Mr.hid H3; replace Q3 := Mr.hid Q3)
    have Q4 := Q3.out.trans e2.out
    have H := H3.out
    clear H3 Q3 e2 l
    have Q := Q4
    clear Q4
    obtain ⟨l, hl9⟩ : ∃ l, l = l3 := ⟨_, rfl⟩
    rw [← hl9] at H Q
    clear hl9 l3
    generalize w6 = w5 at *
    have Q2 : l.Perm (⟨0, c2, 4, 3⟩ :: [⟨2, floatOfInt .f64 n, 1, 0⟩, ⟨1, 18318360957983683996, 3, 2⟩]) := Q.trans (by exact ((List.Perm.cons _ (List.Perm.swap _ _ _)).trans (List.Perm.swap _ _ _)))
    obtain ⟨e1, e2, e3⟩ := Sf.next_is H.hep Q2 (fun y hy => by simp only [List.mem_cons, List.not_mem_nil, or_false] at hy; rcases hy with rfl | rfl <;> (refine ⟨?_, ?_⟩ <;> (try unfold Sf.le) <;> simp <;> omega))
    have hlen : l.length = 3 := by rw [Q.length_eq]; rfl
    have K := Sf.hs_next C.out H (by omega) e3
    rw [e1] at K
    simp only at K
    replace K := Mr.hid K
    replace e2 := Mr.hid e2
    clear H Q Q2 e1 e3 hlen
    go_upto_region 26 with (go_at_call 11; refine K.out.mono ?_; clear K; rintro e w6 ⟨rfl, l3, H3, Q3⟩; replace H3 := Mr.hid H3; replace Q3 := Mr.hid Q3)
    have Q4 := Q3.out.trans e2.out
    have H := H3.out
    clear H3 Q3 e2 l
    have Q := Q4
    clear Q4
    obtain ⟨l, hl9⟩ : ∃ l, l = l3 := ⟨_, rfl⟩
    rw [← hl9] at H Q
    clear hl9 l3
    generalize w6 = w5 at *
    have Q2 : l.Perm (⟨1, 18318360957983683996, 3, 2⟩ :: [⟨2, floatOfInt .f64 n, 1, 0⟩]) := Q.trans (List.Perm.swap _ _ _)
    obtain ⟨e1, e2, e3⟩ := Sf.next_is H.hep Q2 (fun y hy => by simp only [List.mem_cons, List.not_mem_nil, or_false] at hy; rcases hy with rfl <;> (refine ⟨?_, ?_⟩ <;> (try unfold Sf.le) <;> simp <;> omega))
    have hlen : l.length = 2 := by rw [Q.length_eq]; rfl
    have K := Sf.hs_next C.out H (by omega) e3
    rw [e1] at K
    simp only at K
    replace K := Mr.hid K
    replace e2 := Mr.hid e2
    clear H Q Q2 e1 e3 hlen
    go_upto_region 27 with (go_at_call 11; refine K.out.mono ?_; clear K; rintro e w6 ⟨rfl, l3, H3, Q3⟩; replace H3 := Mr.hid H3; replace Q3 := Mr.hid Q3)
    have Q4 := Q3.out.trans e2.out
    have H := H3.out
    clear H3 Q3 e2 l
    have Q := Q4
    clear Q4
    obtain ⟨l, hl9⟩ : ∃ l, l = l3 := ⟨_, rfl⟩
    rw [← hl9] at H Q
    clear hl9 l3
    generalize w6 = w5 at *
    have Q2 : l.Perm (⟨2, floatOfInt .f64 n, 1, 0⟩ :: []) := Q
    obtain ⟨e1, e2, e3⟩ := Sf.next_is H.hep Q2 (fun y hy => by simp at hy)
    have hlen : l.length = 1 := by rw [Q.length_eq]; rfl
    have K := Sf.hs_next C.out H (by omega) e3
    rw [e1] at K
    simp only at K
    replace K := Mr.hid K
    replace e2 := Mr.hid e2
    clear H Q Q2 e1 e3 hlen
    go_upto_region 28 with (go_at_call 11; refine K.out.mono ?_; clear K; rintro e w6 ⟨rfl, l3, H3, Q3⟩; replace H3 := Mr.hid H3; replace Q3 := Mr.hid Q3)
    have Q4 := Q3.out.trans e2.out
    have H := H3.out
    clear H3 Q3 e2 l
    have Q := Q4
    clear Q4
    obtain ⟨l, hl9⟩ : ∃ l, l = l3 := ⟨_, rfl⟩
    rw [← hl9] at H Q
    clear hl9 l3
    generalize w6 = w5 at *
    have K := Mr.hid (Sf.hs_none H Q.eq_nil)
    clear H Q C
    go_wp2_with (go_at_call 11; refine K.out.mono ?_; clear K; rintro e w6 ⟨rfl, hB6⟩; replace hB6 := Mr.hid hB6)
    go_ret
    exact ⟨rfl, hB6.out⟩
  | false =>
    go_enter Try.func3, Try.ntmps3
    go_upto_region 6 with (first | (go_at_call 4; refine (nil_put _ _ _).mono ?_; rintro e w1 ⟨rfl, hw1⟩; obtain rfl := hw1.symm) | (go_at_call 5; refine (nil_next _).mono ?_; rintro e w1 ⟨rfl, hB⟩; replace hB := Mr.hid hB) | (go_at_call 6; refine (nil_len _).mono ?_; rintro e w2 ⟨rfl, hw2⟩; obtain rfl := hw2.symm))
    go_upto_region 7 with (fail)
    have H := Ss.hs_new (Ds a b) hB.out
    have C := Mr.hid (fun k c k' c' h h' w => compareD (a := a) (b := b) k c k' c' h h' w)
    generalize w1.heap.size = bs at *
    generalize w1.alloc (.cells #[.slice none 0 0, .int .u64 0] 30) = w2 at *
    have Q : ([] : List Ss.Tr).Perm [] := List.Perm.refl _
    obtain ⟨l, hl0⟩ : ∃ l : List Ss.Tr, l = [] := ⟨_, rfl⟩
    rw [← hl0] at H
    have Q : l.Perm [] := by rw [hl0]
    clear hl0
    have hlen : l.length = 0 := by rw [Q.length_eq]; rfl
    have K := Ss.hs_put C.out H (by omega) (by omega) (by omega) (rk a b a) a (ds_a a b) 1
    replace K := Mr.hid K
    replace Q := Mr.hid Q
    clear H hlen
    go_upto_region 8 with (go_at_call 7; refine K.out.mono ?_; clear K; rintro e w3 ⟨rfl, l3, H3, Q3⟩; replace H3 := Mr.hid H3; replace Q3 := Mr.hid Q3)
    have Q4 : l3.Perm (([] : List Ss.Tr) ++ [⟨rk a b a, a, 1, 0⟩]) := Q3.out.trans (List.Perm.append_right _ Q.out)
    simp only [List.nil_append, List.cons_append] at Q4
    have H := H3.out
    clear H3 Q3 Q l
    have Q := Q4
    clear Q4
    obtain ⟨l, hl9⟩ : ∃ l, l = l3 := ⟨_, rfl⟩
    rw [← hl9] at H Q
    clear hl9 l3
    generalize w3 = w2 at *
    have hlen : l.length = 1 := by rw [Q.length_eq]; rfl
    have K := Ss.hs_put C.out H (by omega) (by omega) (by omega) (rk a b b) b (ds_b a b) 2
    replace K := Mr.hid K
    replace Q := Mr.hid Q
    clear H hlen
    go_upto_region 9 with (go_at_call 7; refine K.out.mono ?_; clear K; rintro e w3 ⟨rfl, l3, H3, Q3⟩; replace H3 := Mr.hid H3; replace Q3 := Mr.hid Q3)
    have Q4 : l3.Perm (([⟨rk a b a, a, 1, 0⟩] : List Ss.Tr) ++ [⟨rk a b b, b, 2, 1⟩]) := Q3.out.trans (List.Perm.append_right _ Q.out)
    simp only [List.nil_append, List.cons_append] at Q4
    have H := H3.out
    clear H3 Q3 Q l
    have Q := Q4
    clear Q4
    obtain ⟨l, hl9⟩ : ∃ l, l = l3 := ⟨_, rfl⟩
    rw [← hl9] at H Q
    clear hl9 l3
    generalize w3 = w2 at *
    have hlen : l.length = 2 := by rw [Q.length_eq]; rfl
    have K := Ss.hs_put C.out H (by omega) (by omega) (by omega) (rk a b a) a (ds_a a b) 3
    replace K := Mr.hid K
    replace Q := Mr.hid Q
    clear H hlen
    go_upto_region 10 with (go_at_call 7; refine K.out.mono ?_; clear K; rintro e w3 ⟨rfl, l3, H3, Q3⟩; replace H3 := Mr.hid H3; replace Q3 := Mr.hid Q3)
    have Q4 : l3.Perm (([⟨rk a b a, a, 1, 0⟩, ⟨rk a b b, b, 2, 1⟩] : List Ss.Tr) ++ [⟨rk a b a, a, 3, 2⟩]) := Q3.out.trans (List.Perm.append_right _ Q.out)
    simp only [List.nil_append, List.cons_append] at Q4
    have H := H3.out
    clear H3 Q3 Q l
    have Q := Q4
    clear Q4
    obtain ⟨l, hl9⟩ : ∃ l, l = l3 := ⟨_, rfl⟩
    rw [← hl9] at H Q
    clear hl9 l3
    generalize w3 = w2 at *
    have r1 := rk_ge hlt
    have Q2 : l.Perm (⟨rk a b a, a, 1, 0⟩ :: [⟨rk a b b, b, 2, 1⟩, ⟨rk a b a, a, 3, 2⟩]) := Q
    obtain ⟨e1, e2, e3⟩ := Ss.next_is H.hep Q2 (fun y hy => by simp only [List.mem_cons, List.not_mem_nil, or_false] at hy; rcases hy with rfl | rfl <;> (refine ⟨?_, ?_⟩ <;> (try unfold Ss.le) <;> simp <;> omega))
    have hlen : l.length = 3 := by rw [Q.length_eq]; rfl
    have K := Ss.hs_next C.out H (by omega) e3
    rw [e1] at K
    simp only at K
    replace K := Mr.hid K
    replace e2 := Mr.hid e2
    clear H Q Q2 e1 e3 hlen r1
    go_upto_region 11 with (go_at_call 8; refine K.out.mono ?_; clear K; rintro e w3 ⟨rfl, l3, H3, Q3⟩; replace H3 := Mr.hid H3; replace Q3 := Mr.hid Q3)
    have hlen : l3.length = 2 := by rw [(Q3.out.trans e2.out).length_eq]; rfl
    have L := Ss.hs_len H3.out
    rw [hlen] at L
    replace L := Mr.hid L
    have hB3 := Mr.hid H3.out.bel
    clear hlen Q3 e2 H3 l C
    have hse : (a.toList == a.toList) = true := by simp
    go_upto_region 19 with (go_at_call 9; refine L.out.mono ?_; clear L; rintro e w4 ⟨rfl, hw4⟩; obtain rfl := hw4.symm)
    go_upto_region 20 with (fail)
    have H := Sf.hs_new (Df n) hB3.out
    have C := Mr.hid (fun k c k' c' h h' w => compareF (n := n) hn.out k c k' c' h h' w)
    generalize w3.heap.size = bf at *
    generalize w3.alloc (.cells #[.slice none 0 0, .int .u64 0] 37) = w5 at *
    obtain ⟨l, hl0⟩ : ∃ l : List Sf.Tr, l = [] := ⟨_, rfl⟩
    rw [← hl0] at H
    have Q : l.Perm [] := by rw [hl0]
    clear hl0
    have hlen : l.length = 0 := by rw [Q.length_eq]; rfl
    have K := Sf.hs_put C.out H (by omega) (by omega) (by omega) 2 (floatOfInt .f64 n) (.inr (.inr ⟨rfl, rfl⟩)) 1
    replace K := Mr.hid K
    replace Q := Mr.hid Q
    clear H hlen
    go_upto_region 21 with (go_at_call 10; refine K.out.mono ?_; clear K; rintro e w6 ⟨rfl, l3, H3, Q3⟩; replace H3 := Mr.hid H3; replace Q3 := Mr.hid Q3)
    have Q4 : l3.Perm (([] : List Sf.Tr) ++ [⟨2, floatOfInt .f64 n, 1, 0⟩]) := Q3.out.trans (List.Perm.append_right _ Q.out)
    simp only [List.nil_append, List.cons_append] at Q4
    have H := H3.out
    clear H3 Q3 Q l
    have Q := Q4
    clear Q4
    obtain ⟨l, hl9⟩ : ∃ l, l = l3 := ⟨_, rfl⟩
    rw [← hl9] at H Q
    clear hl9 l3
    generalize w6 = w5 at *
    have hlen : l.length = 1 := by rw [Q.length_eq]; rfl
    obtain ⟨c1, hc1, hq⟩ := run_quo00 34 w5
    replace hc1 := Mr.hid hc1
    have H0 : Sf.Hs (Df n) W w5.drew bf l _ := ⟨by obtain ⟨S, v, g1, g2⟩ := H.ex; exact ⟨S, v, g1.below ((Below.refl _ _).drew), g2⟩, H.lo, H.bel.drew, H.hep, H.dom⟩
    clear H; have H := H0; clear H0
    have K := Sf.hs_put C.out H (by omega) (by omega) (by omega) 0 c1 (.inl ⟨rfl, hc1.out⟩) 2
    replace K := Mr.hid K
    replace Q := Mr.hid Q
    clear H hlen
    go_upto_region 22 with (go_at_call 10; refine K.out.mono ?_; clear K; rintro e w6 ⟨rfl, l3, H3, Q3⟩; replace H3 := Mr.hid H3; replace Q3 := Mr.hid Q3)
    clear hq
    have Q4 : l3.Perm (([⟨2, floatOfInt .f64 n, 1, 0⟩] : List Sf.Tr) ++ [⟨0, c1, 2, 1⟩]) := Q3.out.trans (List.Perm.append_right _ Q.out)
    simp only [List.nil_append, List.cons_append] at Q4
    have H := H3.out
    clear H3 Q3 Q l
    have Q := Q4
    clear Q4
    obtain ⟨l, hl9⟩ : ∃ l, l = l3 := ⟨_, rfl⟩
    rw [← hl9] at H Q
    clear hl9 l3
    generalize w6 = w5 at *
    have hlen : l.length = 2 := by rw [Q.length_eq]; rfl
    have K := Sf.hs_put C.out H (by omega) (by omega) (by omega) 1 fM (.inr (.inl ⟨rfl, rfl⟩)) 3
    rw [show fM = 18318360957983683996 from rfl] at K
    replace K := Mr.hid K
    replace Q := Mr.hid Q
    clear H hlen
    go_upto_region 23 with (go_at_call 10; refine K.out.mono ?_; clear K; rintro e w6 ⟨rfl, l3, H3, Q3⟩; replace H3 := Mr.hid H3; replace Q3 := Mr.hid Q3)
    have Q4 : l3.Perm (([⟨2, floatOfInt .f64 n, 1, 0⟩, ⟨0, c1, 2, 1⟩] : List Sf.Tr) ++ [⟨1, 18318360957983683996, 3, 2⟩]) := Q3.out.trans (List.Perm.append_right _ Q.out)
    simp only [List.nil_append, List.cons_append] at Q4
    have H := H3.out
    clear H3 Q3 Q l
    have Q := Q4
    clear Q4
    obtain ⟨l, hl9⟩ : ∃ l, l = l3 := ⟨_, rfl⟩
    rw [← hl9] at H Q
    clear hl9 l3
    generalize w6 = w5 at *
    have hlen : l.length = 3 := by rw [Q.length_eq]; rfl
    obtain ⟨c2, hc2, hq⟩ := run_quo00 34 w5
    replace hc2 := Mr.hid hc2
    have H0 : Sf.Hs (Df n) W w5.drew bf l _ := ⟨by obtain ⟨S, v, g1, g2⟩ := H.ex; exact ⟨S, v, g1.below ((Below.refl _ _).drew), g2⟩, H.lo, H.bel.drew, H.hep, H.dom⟩
    clear H; have H := H0; clear H0
    have K := Sf.hs_put C.out H (by omega) (by omega) (by omega) 0 c2 (.inl ⟨rfl, hc2.out⟩) 4
    replace K := Mr.hid K
    replace Q := Mr.hid Q
    clear H hlen
    go_upto_region 24 with (go_at_call 10; refine K.out.mono ?_; clear K; rintro e w6 ⟨rfl, l3, H3, Q3⟩; replace H3 := Mr.hid H3; replace Q3 := Mr.hid Q3)
    clear hq
    have Q4 : l3.Perm (([⟨2, floatOfInt .f64 n, 1, 0⟩, ⟨0, c1, 2, 1⟩, ⟨1, 18318360957983683996, 3, 2⟩] : List Sf.Tr) ++ [⟨0, c2, 4, 3⟩]) := Q3.out.trans (List.Perm.append_right _ Q.out)
    simp only [List.nil_append, List.cons_append] at Q4
    have H := H3.out
    clear H3 Q3 Q l
    have Q := Q4
    clear Q4
    obtain ⟨l, hl9⟩ : ∃ l, l = l3 := ⟨_, rfl⟩
    rw [← hl9] at H Q
    clear hl9 l3
    generalize w6 = w5 at *
    have Q2 : l.Perm (⟨0, c1, 2, 1⟩ :: [⟨2, floatOfInt .f64 n, 1, 0⟩, ⟨1, 18318360957983683996, 3, 2⟩, ⟨0, c2, 4, 3⟩]) := Q.trans (List.Perm.swap _ _ _)
    obtain ⟨e1, e2, e3⟩ := Sf.next_is H.hep Q2 (fun y hy => by simp only [List.mem_cons, List.not_mem_nil, or_false] at hy; rcases hy with rfl | rfl | rfl <;> (refine ⟨?_, ?_⟩ <;> (try unfold Sf.le) <;> simp <;> omega))
    have hlen : l.length = 4 := by rw [Q.length_eq]; rfl
    have K := Sf.hs_next C.out H (by omega) e3
    rw [e1] at K
    simp only at K
    replace K := Mr.hid K
    replace e2 := Mr.hid e2
    clear H Q Q2 e1 e3 hlen
    go_upto_region 25 with (go_at_call 11; refine K.out.mono ?_; clear K; rintro e w6 ⟨rfl, l3, H3, Q3⟩; replace H3 := Mr.hid H3; replace Q3 := Mr.hid Q3)
    have Q4 := Q3.out.trans e2.out
    have H := H3.out
    clear H3 Q3 e2 l
    have Q := Q4
    clear Q4
    obtain ⟨l, hl9⟩ : ∃ l, l = l3 := ⟨_, rfl⟩
    rw [← hl9] at H Q
    clear hl9 l3
    generalize w6 = w5 at *
    have Q2 : l.Perm (⟨0, c2, 4, 3⟩ :: [⟨2, floatOfInt .f64 n, 1, 0⟩, ⟨1, 18318360957983683996, 3, 2⟩]) := Q.trans (by exact ((List.Perm.cons _ (List.Perm.swap _ _ _)).trans (List.Perm.swap _ _ _)))
    obtain ⟨e1, e2, e3⟩ := Sf.next_is H.hep Q2 (fun y hy => by simp only [List.mem_cons, List.not_mem_nil, or_false] at hy; rcases hy with rfl | rfl <;> (refine ⟨?_, ?_⟩ <;> (try unfold Sf.le) <;> simp <;> omega))
    have hlen : l.length = 3 := by rw [Q.length_eq]; rfl
    have K := Sf.hs_next C.out H (by omega) e3
    rw [e1] at K
    simp only at K
    replace K := Mr.hid K
    replace e2 := Mr.hid e2
    clear H Q Q2 e1 e3 hlen
    go_upto_region 26 with (go_at_call 11; refine K.out.mono ?_; clear K; rintro e w6 ⟨rfl, l3, H3, Q3⟩; replace H3 := Mr.hid H3; replace Q3 := Mr.hid Q3)
    have Q4 := Q3.out.trans e2.out
    have H := H3.out
    clear H3 Q3 e2 l
    have Q := Q4
    clear Q4
    obtain ⟨l, hl9⟩ : ∃ l, l = l3 := ⟨_, rfl⟩
    rw [← hl9] at H Q
    clear hl9 l3
    generalize w6 = w5 at *
    have Q2 : l.Perm (⟨1, 18318360957983683996, 3, 2⟩ :: [⟨2, floatOfInt .f64 n, 1, 0⟩]) := Q.trans (List.Perm.swap _ _ _)
    obtain ⟨e1, e2, e3⟩ := Sf.next_is H.hep Q2 (fun y hy => by simp only [List.mem_cons, List.not_mem_nil, or_false] at hy; rcases hy with rfl <;> (refine ⟨?_, ?_⟩ <;> (try unfold Sf.le) <;> simp <;> omega))
    have hlen : l.length = 2 := by rw [Q.length_eq]; rfl
    have K := Sf.hs_next C.out H (by omega) e3
    rw [e1] at K
    simp only at K
    replace K := Mr.hid K
    replace e2 := Mr.hid e2
    clear H Q Q2 e1 e3 hlen
    go_upto_region 27 with (go_at_call 11; refine K.out.mono ?_; clear K; rintro e w6 ⟨rfl, l3, H3, Q3⟩; replace H3 := Mr.hid H3; replace Q3 := Mr.hid Q3)
    have Q4 := Q3.out.trans e2.out
    have H := H3.out
    clear H3 Q3 e2 l
    have Q := Q4
    clear Q4
    obtain ⟨l, hl9⟩ : ∃ l, l = l3 := ⟨_, rfl⟩
    rw [← hl9] at H Q
    clear hl9 l3
    generalize w6 = w5 at *
    have Q2 : l.Perm (⟨2, floatOfInt .f64 n, 1, 0⟩ :: []) := Q
    obtain ⟨e1, e2, e3⟩ := Sf.next_is H.hep Q2 (fun y hy => by simp at hy)
    have hlen : l.length = 1 := by rw [Q.length_eq]; rfl
    have K := Sf.hs_next C.out H (by omega) e3
    rw [e1] at K
    simp only at K
    replace K := Mr.hid K
    replace e2 := Mr.hid e2
    clear H Q Q2 e1 e3 hlen
    go_upto_region 28 with (go_at_call 11; refine K.out.mono ?_; clear K; rintro e w6 ⟨rfl, l3, H3, Q3⟩; replace H3 := Mr.hid H3; replace Q3 := Mr.hid Q3)
    have Q4 := Q3.out.trans e2.out
    have H := H3.out
    clear H3 Q3 e2 l
    have Q := Q4
    clear Q4
    obtain ⟨l, hl9⟩ : ∃ l, l = l3 := ⟨_, rfl⟩
    rw [← hl9] at H Q
    clear hl9 l3
    generalize w6 = w5 at *
    have K := Mr.hid (Sf.hs_none H Q.eq_nil)
    clear H Q C
    go_wp2_with (go_at_call 11; refine K.out.mono ?_; clear K; rintro e w6 ⟨rfl, hB6⟩; replace hB6 := Mr.hid hB6)
    go_ret
    exact ⟨rfl, hB6.out⟩
end Go.Proofs.Ytailcefgkgpalaa.Sn
