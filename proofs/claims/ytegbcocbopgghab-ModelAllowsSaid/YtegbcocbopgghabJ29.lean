import Derived.Test.YtegbcocbopgghabJ28
/-
  Package model: admit of a call of the stack.
-/
namespace Go.Proofs.Ytegbcocbopgghab.Md
open Go.RowKit Mr
set_option linter.unusedVariables false
set_option linter.unusedSimpArgs false
set_option maxRecDepth 100000 in
set_option maxHeartbeats 8000000 in
theorem admit_2 {W : World} {B : Nat} {lab : Nat → Nat} {g0 g1 g2 g3 g4 : Nat} {x : Ct} (hd0 : Wd W B lab g0 g1 g2 g3 g4 x) (hi : ∀ k, lab k < 5 → k < W.heap.size) (hBW : B ≤ W.heap.size) (hin : CtIn 225000000000000 x) (hm : May x) (th op arg data beg fin pt ak av : Int) (ho : obj op = 2) :
    Calls Try.prog 39 #[.agg #[.iface 92 (.pointer (some ⟨g0, 0, none⟩)), .iface 94 (.pointer (some ⟨g1, 0, none⟩)), .iface 96 (.pointer (some ⟨g2, 0, none⟩)), .iface 98 (.pointer (some ⟨g3, 0, none⟩)), .iface 100 (.pointer (some ⟨g4, 0, none⟩))], .agg #[.int .i64 th, .int .i64 op, .int .i64 arg, .int .i64 data, .int .i64 beg, .int .i64 fin, .int .i64 pt, .int .i64 ak, .int .i64 av]] W fun e w' => e = .returned (.bool (alw x ⟨th, op, arg, data, beg, fin, pt, ak, av⟩).2) ∧ ∃ lab', Wd w' B lab' g0 g1 g2 g3 g4 (adm x ⟨th, op, arg, data, beg, fin, pt, ak, av⟩) ∧ (∀ k, lab' k < 5 → k < w'.heap.size ∧ (k < W.heap.size → lab k < 5)) ∧ Fr W w' (fun k => lab k < 5) := by
  have CA := fun (w : World) (lab : Nat → Nat) (hd : Wd w B lab g0 g1 g2 g3 g4 x) => ans_stack hd.stack th op arg data beg fin pt ak av (dan x op arg) (dan_o2 x ho)
  have CL := fun (w : World) (lab : Nat → Nat) (hd : Wd w B lab g0 g1 g2 g3 g4 x) => leave_stack hd.stack hin.stack th op arg data beg fin pt ak av _ rfl
  have CP := fun w => puts_any op w
  have A0 := adm_none (x := x) (c := ⟨th, op, arg, data, beg, fin, pt, ak, av⟩)
  have A4 := adm_full (x := x) (c := ⟨th, op, arg, data, beg, fin, pt, ak, av⟩)
  have AY := adm_yes (x := x) (c := ⟨th, op, arg, data, beg, fin, pt, ak, av⟩)
  have AN := adm_no (x := x) (c := ⟨th, op, arg, data, beg, fin, pt, ak, av⟩)
  simp only at A0 A4 AY AN
  rw [dnx_o2 x ho] at A0 AY
  generalize (if op = 30 then arg :: x.stack else x.stack.drop 1) = l2 at *
  have HN : Hid (∀ w', Below W.heap.size W w' → ∃ lab', Wd w' B lab' g0 g1 g2 g3 g4 x ∧ (∀ k, lab' k < 5 → k < w'.heap.size ∧ (k < W.heap.size → lab k < 5)) ∧ Fr W w' (fun k => lab k < 5)) := fun w' hB => ⟨lab, hd0.keep hB, fun k hk => ⟨Nat.lt_of_lt_of_le (hi k hk) hB.size, fun _ => hk⟩, Fr.of_below hB⟩
  have hT0 := Tq.new W (.cells #[.iface 92 (.pointer (some ⟨g0, 0, none⟩)), .iface 94 (.pointer (some ⟨g1, 0, none⟩)), .iface 96 (.pointer (some ⟨g2, 0, none⟩)), .iface 98 (.pointer (some ⟨g3, 0, none⟩)), .iface 100 (.pointer (some ⟨g4, 0, none⟩))] 72 (0, 0)) (.cells #[.int .i64 th, .int .i64 op, .int .i64 arg, .int .i64 data, .int .i64 beg, .int .i64 fin, .int .i64 pt, .int .i64 ak, .int .i64 av] 50 (0, 0))
  obtain ⟨y0, y1, y2, y3, y4, y5⟩ := ifs_cells hT0.2.1
  obtain ⟨q0, q1, q2, q3, q4, q5, q6, q7, q8, q9⟩ := nines hT0.2.2.1
  obtain ⟨pp, hpp⟩ : ∃ p, p = dan x op arg := ⟨_, rfl⟩
  rw [← hpp] at CA AY AN
  clear hpp
  obtain ⟨p1, p2⟩ := pp
  replace hi := Mr.hid hi
  replace CA := Mr.hid CA
  replace CL := Mr.hid CL
  replace CP := Mr.hid CP
  replace A0 := Mr.hid A0
  replace A4 := Mr.hid A4
  replace AY := Mr.hid AY
  replace AN := Mr.hid AN
  replace hd0 := Mr.hid hd0
  replace hT0 := Mr.hid hT0
  replace ho := Mr.hid ho
  have hm1 := fun n => me_answers1 n ⟨g1, 0, none⟩
  have hm2 := fun n => me_leave1 n ⟨g1, 0, none⟩
  generalize (alw x ⟨th, op, arg, data, beg, fin, pt, ak, av⟩).2 = bb at *
  generalize adm x ⟨th, op, arg, data, beg, fin, pt, ak, av⟩ = yy at *
  go_enter Try.func39, Try.ntmps39
  go_upto_region 2 with (first | (go_at_call 29; refine (of_1 g0 g1 g2 g3 g4 op ho.out _).mono ?_; rintro e w4 ⟨rfl, hB4⟩))
  have hT4 := Mr.hid (hT0.out.below hB4)
  have hBX := Mr.hid hT4.out.1
  have hDX := Mr.hid (hd0.out.keep hBX.out)
  have hsX := hBX.out.size
  clear y0 y1 y2 y3 y4 y5 q0 q1 q2 q3 q4 q5 q6 q7 q8 q9 hB4 hT0
  obtain ⟨q0, q1, q2, q3, q4, q5, q6, q7, q8, q9⟩ := nines hT4.out.2.2.1
  by_cases h0 : ak = 0
  · obtain ⟨e1, e2⟩ := A0.out h0
    subst e1
    subst e2
    have d0 : (ak == 0) = true := by simpa using h0
    replace h0 := Mr.hid h0
    clear A0 A4 AY AN CA CP
    go_wp2_with (first | (go_at_call 84; refine (CL.out _ _ hDX.out).mono ?_; rintro e w7 ⟨rfl, hO7, hF7⟩))
    have hD7 := hDX.out.put1 (Nat.le_trans hBW hsX) hO7 hF7
    have hD8 := hD7.cut (Below.refl _ w7)
    have hF8 : Fr W w7 (fun k => lab k < 5) := (Fr.of_below hBX.out).trans (hF7.mono (fun k e => .inl (by omega)))
    go_ret
    exact ⟨rfl, _, hD8, fun k hk => ⟨labr_hi hk, fun hl => labrp_old hk (Nat.lt_of_lt_of_le hl hsX)⟩, hF8⟩
  · have d0 : (ak == 0) = false := by simpa using h0
    by_cases h4 : ak = 4
    · obtain ⟨e1, e2⟩ := A4.out h0 h4 _ rfl
      subst e2
      have d4 : (ak == 4) = true := by simpa using h4
      have e3 := CP.out
      rw [← e1] at e3
      replace e3 := Mr.hid e3
      replace h0 := Mr.hid h0
      replace h4 := Mr.hid h4
      clear A0 A4 AY AN CA CL CP e1
      go_wp2_with (first | (go_at_call 53; refine (e3.out _).mono ?_; rintro e w5 ⟨rfl, rfl⟩))
      go_ret
      exact ⟨rfl, HN.out _ hBX.out⟩
    · have d4 : (ak == 4) = false := by simpa using h4
      have KS : ∀ w', Below w4.heap.size w4 w' → w'.cell? ⟨W.heap.size + 1, 0, none⟩ = some (.int .i64 th) ∧ w'.cell? ⟨W.heap.size + 1, 1, none⟩ = some (.int .i64 op) ∧ w'.cell? ⟨W.heap.size + 1, 2, none⟩ = some (.int .i64 arg) ∧ w'.cell? ⟨W.heap.size + 1, 3, none⟩ = some (.int .i64 data) ∧ w'.cell? ⟨W.heap.size + 1, 4, none⟩ = some (.int .i64 beg) ∧ w'.cell? ⟨W.heap.size + 1, 5, none⟩ = some (.int .i64 fin) ∧ w'.cell? ⟨W.heap.size + 1, 6, none⟩ = some (.int .i64 pt) ∧ w'.cell? ⟨W.heap.size + 1, 7, none⟩ = some (.int .i64 ak) ∧ w'.cell? ⟨W.heap.size + 1, 8, none⟩ = some (.int .i64 av) := fun w' hB => by
        obtain ⟨s0, s1, s2, s3, s4, s5, s6, s7, s8, _⟩ := nines (hT4.out.below hB).2.2.1
        exact ⟨s0, s1, s2, s3, s4, s5, s6, s7, s8⟩
      have KS0 := Mr.hid (KS _ (Below.refl _ _).drew)
      have hBZ := Mr.hid (fun w' (hB : Below w4.heap.size w4 w') => hBX.out.trans (hB.mono hBX.out.size))
      replace KS := Mr.hid KS
      by_cases hq : ((p1, p2) : Int × Int) = (ak, av)
      · obtain ⟨e1, e2⟩ := AY.out h0 h4 hq
        subst e1
        subst e2
        cases hq
        replace h0 := Mr.hid h0
        replace h4 := Mr.hid h4
        clear A0 A4 AY AN CP
        go_wp2
        go_region_held3 (fun w' => w'.cell? ⟨W.heap.size + 1, 0, none⟩ = some (.int .i64 th) ∧ w'.cell? ⟨W.heap.size + 1, 1, none⟩ = some (.int .i64 op) ∧ w'.cell? ⟨W.heap.size + 1, 2, none⟩ = some (.int .i64 arg) ∧ w'.cell? ⟨W.heap.size + 1, 3, none⟩ = some (.int .i64 data) ∧ w'.cell? ⟨W.heap.size + 1, 4, none⟩ = some (.int .i64 beg) ∧ w'.cell? ⟨W.heap.size + 1, 5, none⟩ = some (.int .i64 fin) ∧ w'.cell? ⟨W.heap.size + 1, 6, none⟩ = some (.int .i64 pt) ∧ w'.cell? ⟨W.heap.size + 1, 7, none⟩ = some (.int .i64 ak) ∧ w'.cell? ⟨W.heap.size + 1, 8, none⟩ = some (.int .i64 av)) (first | with_reducible exact KY.out | with_reducible exact KS0.out | go_keep) (first | (go_at_call 83; refine (CA.out _ _ (hDX.out.keep (Below.refl _ _).drew)).mono ?_; rintro e w5 ⟨rfl, hB5⟩; replace hB5 : Below w4.heap.size w4 w5 := ⟨hB5.os, hB5.tape, hB5.output, hB5.size, hB5.block⟩; have KY := Mr.hid (KS.out w5 hB5); unfold ans))
        replace hBX := Mr.hid (hBZ.out w5 hB5)
        replace hDX := Mr.hid (hDX.out.keep hB5)
        clear q0 q1 q2 q3 q4 q5 q6 q7 q8 q9 hsX
        have hsX := hBX.out.size
        obtain ⟨q0, q1, q2, q3, q4, q5, q6, q7, q8⟩ := KY.out
        clear KY KS0
        go_wp2_with (first | (go_at_call 84; refine (CL.out _ _ hDX.out).mono ?_; rintro e w7 ⟨rfl, hO7, hF7⟩))
        have hD7 := hDX.out.put1 (Nat.le_trans hBW hsX) hO7 hF7
        have hD8 := hD7.cut (Below.refl _ w7)
        have hF8 : Fr W w7 (fun k => lab k < 5) := (Fr.of_below hBX.out).trans (hF7.mono (fun k e => .inl (by omega)))
        go_ret
        exact ⟨rfl, _, hD8, fun k hk => ⟨labr_hi hk, fun hl => labrp_old hk (Nat.lt_of_lt_of_le hl hsX)⟩, hF8⟩
      · obtain ⟨e1, e2⟩ := AN.out h0 h4 hq
        subst e1
        subst e2
        replace h0 := Mr.hid h0
        replace h4 := Mr.hid h4
        clear A0 A4 AY AN CP CL
        by_cases hp : ak = p1
        · have hp2 : ¬ av = p2 := fun e => hq (by rw [hp, e])
          have dz : (av == p2) = false := by simpa using hp2
          subst hp
          clear hq hp2
          go_wp2
          go_region_held3 (fun w' => w'.cell? ⟨W.heap.size + 1, 0, none⟩ = some (.int .i64 th) ∧ w'.cell? ⟨W.heap.size + 1, 1, none⟩ = some (.int .i64 op) ∧ w'.cell? ⟨W.heap.size + 1, 2, none⟩ = some (.int .i64 arg) ∧ w'.cell? ⟨W.heap.size + 1, 3, none⟩ = some (.int .i64 data) ∧ w'.cell? ⟨W.heap.size + 1, 4, none⟩ = some (.int .i64 beg) ∧ w'.cell? ⟨W.heap.size + 1, 5, none⟩ = some (.int .i64 fin) ∧ w'.cell? ⟨W.heap.size + 1, 6, none⟩ = some (.int .i64 pt) ∧ w'.cell? ⟨W.heap.size + 1, 7, none⟩ = some (.int .i64 ak) ∧ w'.cell? ⟨W.heap.size + 1, 8, none⟩ = some (.int .i64 av)) (first | with_reducible exact KY.out | with_reducible exact KS0.out | go_keep) (first | (go_at_call 83; refine (CA.out _ _ (hDX.out.keep (Below.refl _ _).drew)).mono ?_; rintro e w5 ⟨rfl, hB5⟩; replace hB5 : Below w4.heap.size w4 w5 := ⟨hB5.os, hB5.tape, hB5.output, hB5.size, hB5.block⟩; have KY := Mr.hid (KS.out w5 hB5); unfold ans))
          replace hBX := Mr.hid (hBZ.out w5 hB5)
          go_wp2
          go_ret
          exact ⟨rfl, HN.out _ hBX.out⟩
        · have dz : (ak == p1) = false := by simpa using hp
          clear hq
          go_wp2
          go_region_held3 (fun w' => w'.cell? ⟨W.heap.size + 1, 0, none⟩ = some (.int .i64 th) ∧ w'.cell? ⟨W.heap.size + 1, 1, none⟩ = some (.int .i64 op) ∧ w'.cell? ⟨W.heap.size + 1, 2, none⟩ = some (.int .i64 arg) ∧ w'.cell? ⟨W.heap.size + 1, 3, none⟩ = some (.int .i64 data) ∧ w'.cell? ⟨W.heap.size + 1, 4, none⟩ = some (.int .i64 beg) ∧ w'.cell? ⟨W.heap.size + 1, 5, none⟩ = some (.int .i64 fin) ∧ w'.cell? ⟨W.heap.size + 1, 6, none⟩ = some (.int .i64 pt) ∧ w'.cell? ⟨W.heap.size + 1, 7, none⟩ = some (.int .i64 ak) ∧ w'.cell? ⟨W.heap.size + 1, 8, none⟩ = some (.int .i64 av)) (first | with_reducible exact KY.out | with_reducible exact KS0.out | go_keep) (first | (go_at_call 83; refine (CA.out _ _ (hDX.out.keep (Below.refl _ _).drew)).mono ?_; rintro e w5 ⟨rfl, hB5⟩; replace hB5 : Below w4.heap.size w4 w5 := ⟨hB5.os, hB5.tape, hB5.output, hB5.size, hB5.block⟩; have KY := Mr.hid (KS.out w5 hB5); unfold ans))
          replace hBX := Mr.hid (hBZ.out w5 hB5)
          go_wp2
          go_ret
          exact ⟨rfl, HN.out _ hBX.out⟩
end Go.Proofs.Ytegbcocbopgghab.Md
/-
  Package model: admit of a call of the queue.
-/
namespace Go.Proofs.Ytegbcocbopgghab.Md
open Go.RowKit Mr
set_option linter.unusedVariables false
set_option linter.unusedSimpArgs false
set_option maxRecDepth 100000 in
set_option maxHeartbeats 8000000 in
theorem admit_3 {W : World} {B : Nat} {lab : Nat → Nat} {g0 g1 g2 g3 g4 : Nat} {x : Ct} (hd0 : Wd W B lab g0 g1 g2 g3 g4 x) (hi : ∀ k, lab k < 5 → k < W.heap.size) (hBW : B ≤ W.heap.size) (hin : CtIn 225000000000000 x) (hm : May x) (th op arg data beg fin pt ak av : Int) (ho : obj op = 3) :
    Calls Try.prog 39 #[.agg #[.iface 92 (.pointer (some ⟨g0, 0, none⟩)), .iface 94 (.pointer (some ⟨g1, 0, none⟩)), .iface 96 (.pointer (some ⟨g2, 0, none⟩)), .iface 98 (.pointer (some ⟨g3, 0, none⟩)), .iface 100 (.pointer (some ⟨g4, 0, none⟩))], .agg #[.int .i64 th, .int .i64 op, .int .i64 arg, .int .i64 data, .int .i64 beg, .int .i64 fin, .int .i64 pt, .int .i64 ak, .int .i64 av]] W fun e w' => e = .returned (.bool (alw x ⟨th, op, arg, data, beg, fin, pt, ak, av⟩).2) ∧ ∃ lab', Wd w' B lab' g0 g1 g2 g3 g4 (adm x ⟨th, op, arg, data, beg, fin, pt, ak, av⟩) ∧ (∀ k, lab' k < 5 → k < w'.heap.size ∧ (k < W.heap.size → lab k < 5)) ∧ Fr W w' (fun k => lab k < 5) := by
  have CA := fun (w : World) (lab : Nat → Nat) (hd : Wd w B lab g0 g1 g2 g3 g4 x) => ans_queue hd.queue th op arg data beg fin pt ak av (dan x op arg) (dan_o3 x ho)
  have CL := fun (w : World) (lab : Nat → Nat) (hd : Wd w B lab g0 g1 g2 g3 g4 x) => leave_queue hd.queue hin.queue th op arg data beg fin pt ak av _ rfl
  have CP := fun w => puts_any op w
  have A0 := adm_none (x := x) (c := ⟨th, op, arg, data, beg, fin, pt, ak, av⟩)
  have A4 := adm_full (x := x) (c := ⟨th, op, arg, data, beg, fin, pt, ak, av⟩)
  have AY := adm_yes (x := x) (c := ⟨th, op, arg, data, beg, fin, pt, ak, av⟩)
  have AN := adm_no (x := x) (c := ⟨th, op, arg, data, beg, fin, pt, ak, av⟩)
  simp only at A0 A4 AY AN
  rw [dnx_o3 x ho] at A0 AY
  generalize (if op = 40 then x.queue ++ [arg] else x.queue.drop 1) = l2 at *
  have HN : Hid (∀ w', Below W.heap.size W w' → ∃ lab', Wd w' B lab' g0 g1 g2 g3 g4 x ∧ (∀ k, lab' k < 5 → k < w'.heap.size ∧ (k < W.heap.size → lab k < 5)) ∧ Fr W w' (fun k => lab k < 5)) := fun w' hB => ⟨lab, hd0.keep hB, fun k hk => ⟨Nat.lt_of_lt_of_le (hi k hk) hB.size, fun _ => hk⟩, Fr.of_below hB⟩
  have hT0 := Tq.new W (.cells #[.iface 92 (.pointer (some ⟨g0, 0, none⟩)), .iface 94 (.pointer (some ⟨g1, 0, none⟩)), .iface 96 (.pointer (some ⟨g2, 0, none⟩)), .iface 98 (.pointer (some ⟨g3, 0, none⟩)), .iface 100 (.pointer (some ⟨g4, 0, none⟩))] 72 (0, 0)) (.cells #[.int .i64 th, .int .i64 op, .int .i64 arg, .int .i64 data, .int .i64 beg, .int .i64 fin, .int .i64 pt, .int .i64 ak, .int .i64 av] 50 (0, 0))
  obtain ⟨y0, y1, y2, y3, y4, y5⟩ := ifs_cells hT0.2.1
  obtain ⟨q0, q1, q2, q3, q4, q5, q6, q7, q8, q9⟩ := nines hT0.2.2.1
  obtain ⟨pp, hpp⟩ : ∃ p, p = dan x op arg := ⟨_, rfl⟩
  rw [← hpp] at CA AY AN
  clear hpp
  obtain ⟨p1, p2⟩ := pp
  replace hi := Mr.hid hi
  replace CA := Mr.hid CA
  replace CL := Mr.hid CL
  replace CP := Mr.hid CP
  replace A0 := Mr.hid A0
  replace A4 := Mr.hid A4
  replace AY := Mr.hid AY
  replace AN := Mr.hid AN
  replace hd0 := Mr.hid hd0
  replace hT0 := Mr.hid hT0
  replace ho := Mr.hid ho
  have hm1 := fun n => me_answers2 n ⟨g2, 0, none⟩
  have hm2 := fun n => me_leave2 n ⟨g2, 0, none⟩
  generalize (alw x ⟨th, op, arg, data, beg, fin, pt, ak, av⟩).2 = bb at *
  generalize adm x ⟨th, op, arg, data, beg, fin, pt, ak, av⟩ = yy at *
  go_enter Try.func39, Try.ntmps39
  go_upto_region 2 with (first | (go_at_call 29; refine (of_2 g0 g1 g2 g3 g4 op ho.out _).mono ?_; rintro e w4 ⟨rfl, hB4⟩))
  have hT4 := Mr.hid (hT0.out.below hB4)
  have hBX := Mr.hid hT4.out.1
  have hDX := Mr.hid (hd0.out.keep hBX.out)
  have hsX := hBX.out.size
  clear y0 y1 y2 y3 y4 y5 q0 q1 q2 q3 q4 q5 q6 q7 q8 q9 hB4 hT0
  obtain ⟨q0, q1, q2, q3, q4, q5, q6, q7, q8, q9⟩ := nines hT4.out.2.2.1
  by_cases h0 : ak = 0
  · obtain ⟨e1, e2⟩ := A0.out h0
    subst e1
    subst e2
    have d0 : (ak == 0) = true := by simpa using h0
    replace h0 := Mr.hid h0
    clear A0 A4 AY AN CA CP
    go_wp2_with (first | (go_at_call 86; refine (CL.out _ _ hDX.out).mono ?_; rintro e w7 ⟨rfl, hO7, hF7⟩))
    have hD7 := hDX.out.put2 (Nat.le_trans hBW hsX) hO7 hF7
    have hD8 := hD7.cut (Below.refl _ w7)
    have hF8 : Fr W w7 (fun k => lab k < 5) := (Fr.of_below hBX.out).trans (hF7.mono (fun k e => .inl (by omega)))
    go_ret
    exact ⟨rfl, _, hD8, fun k hk => ⟨labr_hi hk, fun hl => labrp_old hk (Nat.lt_of_lt_of_le hl hsX)⟩, hF8⟩
  · have d0 : (ak == 0) = false := by simpa using h0
    by_cases h4 : ak = 4
    · obtain ⟨e1, e2⟩ := A4.out h0 h4 _ rfl
      subst e2
      have d4 : (ak == 4) = true := by simpa using h4
      have e3 := CP.out
      rw [← e1] at e3
      replace e3 := Mr.hid e3
      replace h0 := Mr.hid h0
      replace h4 := Mr.hid h4
      clear A0 A4 AY AN CA CL CP e1
      go_wp2_with (first | (go_at_call 53; refine (e3.out _).mono ?_; rintro e w5 ⟨rfl, rfl⟩))
      go_ret
      exact ⟨rfl, HN.out _ hBX.out⟩
    · have d4 : (ak == 4) = false := by simpa using h4
      have KS : ∀ w', Below w4.heap.size w4 w' → w'.cell? ⟨W.heap.size + 1, 0, none⟩ = some (.int .i64 th) ∧ w'.cell? ⟨W.heap.size + 1, 1, none⟩ = some (.int .i64 op) ∧ w'.cell? ⟨W.heap.size + 1, 2, none⟩ = some (.int .i64 arg) ∧ w'.cell? ⟨W.heap.size + 1, 3, none⟩ = some (.int .i64 data) ∧ w'.cell? ⟨W.heap.size + 1, 4, none⟩ = some (.int .i64 beg) ∧ w'.cell? ⟨W.heap.size + 1, 5, none⟩ = some (.int .i64 fin) ∧ w'.cell? ⟨W.heap.size + 1, 6, none⟩ = some (.int .i64 pt) ∧ w'.cell? ⟨W.heap.size + 1, 7, none⟩ = some (.int .i64 ak) ∧ w'.cell? ⟨W.heap.size + 1, 8, none⟩ = some (.int .i64 av) := fun w' hB => by
        obtain ⟨s0, s1, s2, s3, s4, s5, s6, s7, s8, _⟩ := nines (hT4.out.below hB).2.2.1
        exact ⟨s0, s1, s2, s3, s4, s5, s6, s7, s8⟩
      have KS0 := Mr.hid (KS _ (Below.refl _ _).drew)
      have hBZ := Mr.hid (fun w' (hB : Below w4.heap.size w4 w') => hBX.out.trans (hB.mono hBX.out.size))
      replace KS := Mr.hid KS
      by_cases hq : ((p1, p2) : Int × Int) = (ak, av)
      · obtain ⟨e1, e2⟩ := AY.out h0 h4 hq
        subst e1
        subst e2
        cases hq
        replace h0 := Mr.hid h0
        replace h4 := Mr.hid h4
        clear A0 A4 AY AN CP
        go_wp2
        go_region_held3 (fun w' => w'.cell? ⟨W.heap.size + 1, 0, none⟩ = some (.int .i64 th) ∧ w'.cell? ⟨W.heap.size + 1, 1, none⟩ = some (.int .i64 op) ∧ w'.cell? ⟨W.heap.size + 1, 2, none⟩ = some (.int .i64 arg) ∧ w'.cell? ⟨W.heap.size + 1, 3, none⟩ = some (.int .i64 data) ∧ w'.cell? ⟨W.heap.size + 1, 4, none⟩ = some (.int .i64 beg) ∧ w'.cell? ⟨W.heap.size + 1, 5, none⟩ = some (.int .i64 fin) ∧ w'.cell? ⟨W.heap.size + 1, 6, none⟩ = some (.int .i64 pt) ∧ w'.cell? ⟨W.heap.size + 1, 7, none⟩ = some (.int .i64 ak) ∧ w'.cell? ⟨W.heap.size + 1, 8, none⟩ = some (.int .i64 av)) (first | with_reducible exact KY.out | with_reducible exact KS0.out | go_keep) (first | (go_at_call 85; refine (CA.out _ _ (hDX.out.keep (Below.refl _ _).drew)).mono ?_; rintro e w5 ⟨rfl, hB5⟩; replace hB5 : Below w4.heap.size w4 w5 := ⟨hB5.os, hB5.tape, hB5.output, hB5.size, hB5.block⟩; have KY := Mr.hid (KS.out w5 hB5); unfold ans))
        replace hBX := Mr.hid (hBZ.out w5 hB5)
        replace hDX := Mr.hid (hDX.out.keep hB5)
        clear q0 q1 q2 q3 q4 q5 q6 q7 q8 q9 hsX
        have hsX := hBX.out.size
        obtain ⟨q0, q1, q2, q3, q4, q5, q6, q7, q8⟩ := KY.out
        clear KY KS0
        go_wp2_with (first | (go_at_call 86; refine (CL.out _ _ hDX.out).mono ?_; rintro e w7 ⟨rfl, hO7, hF7⟩))
        have hD7 := hDX.out.put2 (Nat.le_trans hBW hsX) hO7 hF7
        have hD8 := hD7.cut (Below.refl _ w7)
        have hF8 : Fr W w7 (fun k => lab k < 5) := (Fr.of_below hBX.out).trans (hF7.mono (fun k e => .inl (by omega)))
        go_ret
        exact ⟨rfl, _, hD8, fun k hk => ⟨labr_hi hk, fun hl => labrp_old hk (Nat.lt_of_lt_of_le hl hsX)⟩, hF8⟩
      · obtain ⟨e1, e2⟩ := AN.out h0 h4 hq
        subst e1
        subst e2
        replace h0 := Mr.hid h0
        replace h4 := Mr.hid h4
        clear A0 A4 AY AN CP CL
        by_cases hp : ak = p1
        · have hp2 : ¬ av = p2 := fun e => hq (by rw [hp, e])
          have dz : (av == p2) = false := by simpa using hp2
          subst hp
          clear hq hp2
          go_wp2
          go_region_held3 (fun w' => w'.cell? ⟨W.heap.size + 1, 0, none⟩ = some (.int .i64 th) ∧ w'.cell? ⟨W.heap.size + 1, 1, none⟩ = some (.int .i64 op) ∧ w'.cell? ⟨W.heap.size + 1, 2, none⟩ = some (.int .i64 arg) ∧ w'.cell? ⟨W.heap.size + 1, 3, none⟩ = some (.int .i64 data) ∧ w'.cell? ⟨W.heap.size + 1, 4, none⟩ = some (.int .i64 beg) ∧ w'.cell? ⟨W.heap.size + 1, 5, none⟩ = some (.int .i64 fin) ∧ w'.cell? ⟨W.heap.size + 1, 6, none⟩ = some (.int .i64 pt) ∧ w'.cell? ⟨W.heap.size + 1, 7, none⟩ = some (.int .i64 ak) ∧ w'.cell? ⟨W.heap.size + 1, 8, none⟩ = some (.int .i64 av)) (first | with_reducible exact KY.out | with_reducible exact KS0.out | go_keep) (first | (go_at_call 85; refine (CA.out _ _ (hDX.out.keep (Below.refl _ _).drew)).mono ?_; rintro e w5 ⟨rfl, hB5⟩; replace hB5 : Below w4.heap.size w4 w5 := ⟨hB5.os, hB5.tape, hB5.output, hB5.size, hB5.block⟩; have KY := Mr.hid (KS.out w5 hB5); unfold ans))
          replace hBX := Mr.hid (hBZ.out w5 hB5)
          go_wp2
          go_ret
          exact ⟨rfl, HN.out _ hBX.out⟩
        · have dz : (ak == p1) = false := by simpa using hp
          clear hq
          go_wp2
          go_region_held3 (fun w' => w'.cell? ⟨W.heap.size + 1, 0, none⟩ = some (.int .i64 th) ∧ w'.cell? ⟨W.heap.size + 1, 1, none⟩ = some (.int .i64 op) ∧ w'.cell? ⟨W.heap.size + 1, 2, none⟩ = some (.int .i64 arg) ∧ w'.cell? ⟨W.heap.size + 1, 3, none⟩ = some (.int .i64 data) ∧ w'.cell? ⟨W.heap.size + 1, 4, none⟩ = some (.int .i64 beg) ∧ w'.cell? ⟨W.heap.size + 1, 5, none⟩ = some (.int .i64 fin) ∧ w'.cell? ⟨W.heap.size + 1, 6, none⟩ = some (.int .i64 pt) ∧ w'.cell? ⟨W.heap.size + 1, 7, none⟩ = some (.int .i64 ak) ∧ w'.cell? ⟨W.heap.size + 1, 8, none⟩ = some (.int .i64 av)) (first | with_reducible exact KY.out | with_reducible exact KS0.out | go_keep) (first | (go_at_call 85; refine (CA.out _ _ (hDX.out.keep (Below.refl _ _).drew)).mono ?_; rintro e w5 ⟨rfl, hB5⟩; replace hB5 : Below w4.heap.size w4 w5 := ⟨hB5.os, hB5.tape, hB5.output, hB5.size, hB5.block⟩; have KY := Mr.hid (KS.out w5 hB5); unfold ans))
          replace hBX := Mr.hid (hBZ.out w5 hB5)
          go_wp2
          go_ret
          exact ⟨rfl, HN.out _ hBX.out⟩
end Go.Proofs.Ytegbcocbopgghab.Md
