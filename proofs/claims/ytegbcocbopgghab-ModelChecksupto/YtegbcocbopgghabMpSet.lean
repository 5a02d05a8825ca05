/-
  Package model: what the calls of the set and of the table answer.
-/
import Derived.Test.YtegbcocbopgghabMpAns
import Derived.Test.YtegbcocbopgghabMpDel
import Derived.Test.YtegbcocbopgghabMdKeyed
namespace Go.Proofs.Ytegbcocbopgghab.Md
open Go.RowKit Mr
set_option linter.unusedVariables false
set_option linter.unusedSimpArgs false
theorem plcM_le (l : List Int) (k : Int) : plc l k ≤ l.length := by
  unfold plc
  exact (List.takeWhile_prefix _).length_le
theorem plcM_lt {l : List Int} {k : Int} (h : inB l k = true) : plc l k < l.length := by
  unfold inB at h
  by_cases c : plc l k < l.length
  · exact c
  · rw [in_no (by omega)] at h; cases h
set_option maxRecDepth 100000 in
set_option maxHeartbeats 4000000 in
theorem ans_set4 {W : World} {S : Nat → Prop} {g : Nat} {l : List Int} (ho : Ob W S g 109 3 1 l.length (ints l)) (hsm : l.length * 8 ≤ 281474976710656) (hR : Ris l) (th op arg data beg fin pt ak av : Int) (k : Int) (hk : k = if op = 50 then (if inB l arg then 6 else 5) else (if inB l arg then 5 else 6)) :
    Calls Try.prog 87 #[.pointer (some ⟨g, 0, none⟩), .agg #[.int .i64 th, .int .i64 op, .int .i64 arg, .int .i64 data, .int .i64 beg, .int .i64 fin, .int .i64 pt, .int .i64 ak, .int .i64 av]] W fun e w' => e = .returned (ans k 0) ∧ Below W.heap.size W w' := by
  obtain ⟨v, hS, hg, hO⟩ := ho
  have hgl := (Array.getElem?_eq_some_iff.1 hg).1
  have hT0 := Tq.new W (.cells #[.int .i64 th, .int .i64 op, .int .i64 arg, .int .i64 data, .int .i64 beg, .int .i64 fin, .int .i64 pt, .int .i64 ak, .int .i64 av] 50 (0, 0)) (.cells #[.int .i64 0, .int .i64 0] 31 (0, 0))
  obtain ⟨k1, k2, k3, k4⟩ := nine_cells hT0.2.1
  have cg : ((W.alloc (.cells #[.int .i64 th, .int .i64 op, .int .i64 arg, .int .i64 data, .int .i64 beg, .int .i64 fin, .int .i64 pt, .int .i64 ak, .int .i64 av] 50 (0, 0))).alloc (.cells #[.int .i64 0, .int .i64 0] 31 (0, 0))).cell? ⟨g, 0, none⟩ = some v := cell_blk (old_at (old_at hg _) _) 0
  have C := fun w' (hB : Below W.heap.size W w') => bsI_any (hO.sl.below hB) hsm hR arg
  obtain ⟨a, c, rfl, _, _⟩ := hO.form
  have KS : ∀ w' : World, Below ((W.alloc (.cells #[.int .i64 th, .int .i64 op, .int .i64 arg, .int .i64 data, .int .i64 beg, .int .i64 fin, .int .i64 pt, .int .i64 ak, .int .i64 av] 50 (0, 0))).alloc (.cells #[.int .i64 0, .int .i64 0] 31 (0, 0))).heap.size ((W.alloc (.cells #[.int .i64 th, .int .i64 op, .int .i64 arg, .int .i64 data, .int .i64 beg, .int .i64 fin, .int .i64 pt, .int .i64 ak, .int .i64 av] 50 (0, 0))).alloc (.cells #[.int .i64 0, .int .i64 0] 31 (0, 0))) w' → w'.cell? ⟨g, 0, none⟩ = some (.slice a l.length c) ∧ w'.cell? ⟨W.heap.size, 2, none⟩ = some (.int .i64 arg) := fun w' hB => ⟨(hB.cell (p := ⟨g, 0, none⟩) (by simp; omega)).trans cg, (nine_cells (hT0.below hB).2.1).2.1⟩
  have KT := fun w' (hB : Below ((W.alloc (.cells #[.int .i64 th, .int .i64 op, .int .i64 arg, .int .i64 data, .int .i64 beg, .int .i64 fin, .int .i64 pt, .int .i64 ak, .int .i64 av] 50 (0, 0))).alloc (.cells #[.int .i64 0, .int .i64 0] 31 (0, 0))).heap.size ((W.alloc (.cells #[.int .i64 th, .int .i64 op, .int .i64 arg, .int .i64 data, .int .i64 beg, .int .i64 fin, .int .i64 pt, .int .i64 ak, .int .i64 av] 50 (0, 0))).alloc (.cells #[.int .i64 0, .int .i64 0] 31 (0, 0))) w') => hT0.below hB
  have K := fun (w1 : World) (k v : Int) (hT : Tq W w1 W.heap.size (W.heap.size + 1) (.cells #[.int .i64 th, .int .i64 op, .int .i64 arg, .int .i64 data, .int .i64 beg, .int .i64 fin, .int .i64 pt, .int .i64 ak, .int .i64 av] 50 (0, 0)) (.cells #[.int .i64 0, .int .i64 0] 31 (0, 0))) => (⟨ans_set hT.2.2.1 k v, ans_below hT.1 (by omega : W.heap.size ≤ W.heap.size + 1) k v⟩ : _ ∧ _)
  have KS0 := Mr.hid (KS _ (Below.refl _ _).drew)
  have B0 := Mr.hid (hT0.drew.1)
  replace KS := Mr.hid KS
  replace KT := Mr.hid KT
  replace K := Mr.hid K
  replace C := Mr.hid C
  clear hg hO hT0 cg hR
  obtain ⟨p, hp⟩ : ∃ p, p = plc l arg := ⟨_, rfl⟩
  obtain ⟨b, hb⟩ : ∃ b, b = inB l arg := ⟨_, rfl⟩
  rw [← hb] at hk
  rw [← hp, ← hb] at C
  clear hp hb
  go_enter Try.func87, Try.ntmps87
  go_wp2
  generalize ((W.alloc (.cells #[.int .i64 th, .int .i64 op, .int .i64 arg, .int .i64 data, .int .i64 beg, .int .i64 fin, .int .i64 pt, .int .i64 ak, .int .i64 av] 50 (0, 0))).alloc (.cells #[.int .i64 0, .int .i64 0] 31 (0, 0))) = w0 at *
  go_region_held3 (fun w' => w'.cell? ⟨g, 0, none⟩ = some (.slice a l.length c) ∧ w'.cell? ⟨W.heap.size, 2, none⟩ = some (.int .i64 arg)) (first | with_reducible exact KY.out | with_reducible exact KS0.out | go_keep) (first | (go_at_call 89; refine (C.out _ B0.out).mono ?_; rintro e w1 ⟨rfl, hB⟩; replace hB : Below w0.heap.size w0 w1 := ⟨hB.os, hB.tape, hB.output, hB.size, hB.block⟩; have KY := Mr.hid (KS.out w1 hB); have hT1 := Mr.hid (KT.out w1 hB); clear k1 k2 k3 k4; obtain ⟨k1, k2, k3, k4⟩ := nine_cells hT1.out.2.1))
  by_cases h : op = 50
  · rw [if_pos h] at hk
    have d1 : (op == 50) = true := by simpa using h
    replace h := Mr.hid h
    cases b with
    | false =>
      simp only [Bool.false_eq_true, if_false] at hk
      subst hk
      go_wp2_with (go_at_call 90; refine (whether_any _ _).mono ?_; rintro e w2 ⟨rfl, hB2⟩; unfold ans; simp only [Bool.not_false, Bool.not_true, Bool.false_eq_true, if_true, if_false]; obtain ⟨⟨c0, c1, f0, f1, l1, d0, d1⟩, hE⟩ := K.out w2 5 0 (hT1.out.below hB2); replace hE := Mr.hid hE)
      refine bodyPost_ret (v := ans 5 0) (by simp [results, Try.results87, go_sem, ans, d0, d1]) rfl ?_
      exact ⟨rfl, hE.out⟩
    | true =>
      simp only [if_true] at hk
      subst hk
      go_wp2_with (go_at_call 90; refine (whether_any _ _).mono ?_; rintro e w2 ⟨rfl, hB2⟩; unfold ans; simp only [Bool.not_false, Bool.not_true, Bool.false_eq_true, if_true, if_false]; obtain ⟨⟨c0, c1, f0, f1, l1, d0, d1⟩, hE⟩ := K.out w2 6 0 (hT1.out.below hB2); replace hE := Mr.hid hE)
      refine bodyPost_ret (v := ans 6 0) (by simp [results, Try.results87, go_sem, ans, d0, d1]) rfl ?_
      exact ⟨rfl, hE.out⟩
  · rw [if_neg h] at hk
    have d1 : (op == 50) = false := by simpa using h
    replace h := Mr.hid h
    cases b with
    | false =>
      simp only [Bool.false_eq_true, if_false] at hk
      subst hk
      go_wp2_with (go_at_call 90; refine (whether_any _ _).mono ?_; rintro e w2 ⟨rfl, hB2⟩; unfold ans; simp only [Bool.not_false, Bool.not_true, Bool.false_eq_true, if_true, if_false]; obtain ⟨⟨c0, c1, f0, f1, l1, d0, d1⟩, hE⟩ := K.out w2 6 0 (hT1.out.below hB2); replace hE := Mr.hid hE)
      refine bodyPost_ret (v := ans 6 0) (by simp [results, Try.results87, go_sem, ans, d0, d1]) rfl ?_
      exact ⟨rfl, hE.out⟩
    | true =>
      simp only [if_true] at hk
      subst hk
      go_wp2_with (go_at_call 90; refine (whether_any _ _).mono ?_; rintro e w2 ⟨rfl, hB2⟩; unfold ans; simp only [Bool.not_false, Bool.not_true, Bool.false_eq_true, if_true, if_false]; obtain ⟨⟨c0, c1, f0, f1, l1, d0, d1⟩, hE⟩ := K.out w2 5 0 (hT1.out.below hB2); replace hE := Mr.hid hE)
      refine bodyPost_ret (v := ans 5 0) (by simp [results, Try.results87, go_sem, ans, d0, d1]) rfl ?_
      exact ⟨rfl, hE.out⟩
set_option maxRecDepth 100000 in
set_option maxHeartbeats 4000000 in
theorem ans_table {W : World} {S : Nat → Prop} {g : Nat} {t : List (Int × Int)} (ho : Ob W S g 111 81 2 t.length (prs t)) (hsm : t.length * 16 ≤ 281474976710656) (hR : Ris (keysOf t)) (th op arg data beg fin pt ak av : Int) (q : Int × Int) (hq : q = if op = 60 then (if inB (keysOf t) arg then 6 else 5, 0) else getT t arg) :
    Calls Try.prog 98 #[.pointer (some ⟨g, 0, none⟩), .agg #[.int .i64 th, .int .i64 op, .int .i64 arg, .int .i64 data, .int .i64 beg, .int .i64 fin, .int .i64 pt, .int .i64 ak, .int .i64 av]] W fun e w' => e = .returned (ans q.1 q.2) ∧ Below W.heap.size W w' := by
  have ho' := ho
  obtain ⟨v, hS, hg, hO⟩ := ho
  have hgl := (Array.getElem?_eq_some_iff.1 hg).1
  have hT0 := Tq.new W (.cells #[.int .i64 th, .int .i64 op, .int .i64 arg, .int .i64 data, .int .i64 beg, .int .i64 fin, .int .i64 pt, .int .i64 ak, .int .i64 av] 50 (0, 0)) (.cells #[.int .i64 0, .int .i64 0] 31 (0, 0))
  obtain ⟨k1, k2, k3, k4⟩ := nine_cells hT0.2.1
  have C := fun w' (hB : Below W.heap.size W w') => find_any (ho'.kept (T := S) (fun k _ hl => hB.block k hl) (fun k hk _ => hk)) hsm hR arg
  have hpl : inB (keysOf t) arg = true → plc (keysOf t) arg < t.length := fun h => by have := plcM_lt h; unfold keysOf at this ⊢; rwa [List.length_map] at this
  have hG : getT t arg = if inB (keysOf t) arg then (2, (t[plc (keysOf t) arg]?.getD (0, 0)).2) else (6, 0) := rfl
  rw [hG] at hq
  have KT := fun w' (hB : Below ((W.alloc (.cells #[.int .i64 th, .int .i64 op, .int .i64 arg, .int .i64 data, .int .i64 beg, .int .i64 fin, .int .i64 pt, .int .i64 ak, .int .i64 av] 50 (0, 0))).alloc (.cells #[.int .i64 0, .int .i64 0] 31 (0, 0))).heap.size ((W.alloc (.cells #[.int .i64 th, .int .i64 op, .int .i64 arg, .int .i64 data, .int .i64 beg, .int .i64 fin, .int .i64 pt, .int .i64 ak, .int .i64 av] 50 (0, 0))).alloc (.cells #[.int .i64 0, .int .i64 0] 31 (0, 0))) w') => hT0.below hB
  have K := fun (w1 : World) (k v : Int) (hT : Tq W w1 W.heap.size (W.heap.size + 1) (.cells #[.int .i64 th, .int .i64 op, .int .i64 arg, .int .i64 data, .int .i64 beg, .int .i64 fin, .int .i64 pt, .int .i64 ak, .int .i64 av] 50 (0, 0)) (.cells #[.int .i64 0, .int .i64 0] 31 (0, 0))) => (⟨ans_set hT.2.2.1 k v, ans_below hT.1 (by omega : W.heap.size ≤ W.heap.size + 1) k v⟩ : _ ∧ _)
  have hB0 := Mr.hid hT0.1
  obtain ⟨p, hp⟩ : ∃ p, p = plc (keysOf t) arg := ⟨_, rfl⟩
  obtain ⟨b, hb⟩ : ∃ b, b = inB (keysOf t) arg := ⟨_, rfl⟩
  rw [← hb, ← hp] at hq hpl
  rw [← hp, ← hb] at C
  replace KT := Mr.hid KT
  replace K := Mr.hid K
  replace C := Mr.hid C
  clear hp hb hG hT0 ho' hR
  replace hg := Mr.hid hg
  by_cases h : op = 60
  · rw [if_pos h] at hq
    have d1 : (op == 60) = true := by simpa using h
    replace h := Mr.hid h
    clear hO hg hpl
    cases b with
    | false =>
      simp only [Bool.false_eq_true, if_false] at hq
      subst hq
      go_enter Try.func98, Try.ntmps98
      go_wp2_with (first | (go_at_call 99; refine (C.out _ hB0.out).mono ?_; rintro e w1 ⟨rfl, hB⟩; have hT1 := Mr.hid (KT.out w1 hB); clear k1 k2 k3 k4; obtain ⟨k1, k2, k3, k4⟩ := nine_cells hT1.out.2.1) | (go_at_call 90; refine (whether_any _ _).mono ?_; rintro e w2 ⟨rfl, hB2⟩; unfold ans; simp only [Bool.not_false, Bool.not_true, Bool.false_eq_true, if_true, if_false]; obtain ⟨⟨c0, c1, f0, f1, l1, d0, d1⟩, hE⟩ := K.out w2 5 0 (hT1.out.below hB2); replace hE := Mr.hid hE))
      refine bodyPost_ret (v := ans 5 0) (by simp [results, Try.results98, go_sem, ans, d0, d1]) rfl ?_
      exact ⟨rfl, hE.out⟩
    | true =>
      simp only [if_true] at hq
      subst hq
      go_enter Try.func98, Try.ntmps98
      go_wp2_with (first | (go_at_call 99; refine (C.out _ hB0.out).mono ?_; rintro e w1 ⟨rfl, hB⟩; have hT1 := Mr.hid (KT.out w1 hB); clear k1 k2 k3 k4; obtain ⟨k1, k2, k3, k4⟩ := nine_cells hT1.out.2.1) | (go_at_call 90; refine (whether_any _ _).mono ?_; rintro e w2 ⟨rfl, hB2⟩; unfold ans; simp only [Bool.not_false, Bool.not_true, Bool.false_eq_true, if_true, if_false]; obtain ⟨⟨c0, c1, f0, f1, l1, d0, d1⟩, hE⟩ := K.out w2 6 0 (hT1.out.below hB2); replace hE := Mr.hid hE))
      refine bodyPost_ret (v := ans 6 0) (by simp [results, Try.results98, go_sem, ans, d0, d1]) rfl ?_
      exact ⟨rfl, hE.out⟩
  · rw [if_neg h] at hq
    have d1 : (op == 60) = false := by simpa using h
    replace h := Mr.hid h
    cases b with
    | false =>
      simp only [Bool.false_eq_true, if_false] at hq
      subst hq
      clear hO hg hpl
      go_enter Try.func98, Try.ntmps98
      go_wp2_with (first | (go_at_call 99; refine (C.out _ hB0.out).mono ?_; rintro e w1 ⟨rfl, hB⟩; have hT1 := Mr.hid (KT.out w1 hB); clear k1 k2 k3 k4; obtain ⟨k1, k2, k3, k4⟩ := nine_cells hT1.out.2.1) | (go_at_call 81; refine (only_any 6 _).mono ?_; rintro e w2 ⟨rfl, hB2⟩; unfold ans; obtain ⟨⟨c0, c1, f0, f1, l1, d0, d1⟩, hE⟩ := K.out w2 6 0 (hT1.out.below hB2); replace hE := Mr.hid hE))
      refine bodyPost_ret (v := ans 6 0) (by simp [results, Try.results98, go_sem, ans, d0, d1]) rfl ?_
      exact ⟨rfl, hE.out⟩
    | true =>
      simp only [if_true] at hq
      subst hq
      have hpl := hpl rfl
      obtain ⟨g2, o2, cap, cur, rfl, hc, hm, hS2, hg2, hs, hx⟩ := hO.there (by omega)
      have cx := own_cells hg2 hx _ _ (prs_get t p hpl).2
      have hg2l := (Array.getElem?_eq_some_iff.1 hg2).1
      have KC : Hid (∀ w', Below W.heap.size W w' → w'.cell? ⟨g, 0, none⟩ = some (.slice (some ⟨g2, o2, none⟩) t.length cap) ∧ w'.cell? ⟨g2, o2 + p * 2 + 1, none⟩ = some (.int .i64 (t[p]?.getD (0, 0)).2)) := fun w' hB => ⟨(hB.cell (p := ⟨g, 0, none⟩) hgl).trans (cell_blk hg.out 0), (hB.cell (p := ⟨g2, o2 + p * 2 + 1, none⟩) hg2l).trans cx⟩
      generalize (t[p]?.getD (0, 0)).2 = y at *
      have q1 : (0 : Int) ≤ (p : Int) := by omega
      have q2 : (p : Int) < (t.length : Int) := by omega
      clear hO hg hg2 hs hx cx
      go_enter Try.func98, Try.ntmps98
      go_wp2_with (first | (go_at_call 99; refine (C.out _ hB0.out).mono ?_; rintro e w1 ⟨rfl, hB⟩; have hT1 := Mr.hid (KT.out w1 hB); clear k1 k2 k3 k4; obtain ⟨k1, k2, k3, k4⟩ := nine_cells hT1.out.2.1; obtain ⟨e1, e2⟩ := KC.out w1 hT1.out.1) | (go_at_call 82; refine (valueM_any y _).mono ?_; rintro e w2 ⟨rfl, hB2⟩; unfold ans; obtain ⟨⟨c0, c1, f0, f1, l1, d0, d1⟩, hE⟩ := K.out w2 2 y (hT1.out.below hB2); replace hE := Mr.hid hE))
      refine bodyPost_ret (v := ans 2 y) (by simp [results, Try.results98, go_sem, ans, d0, d1]) rfl ?_
      exact ⟨rfl, hE.out⟩
end Go.Proofs.Ytegbcocbopgghab.Md
