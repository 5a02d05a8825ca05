/-
  ask by its contract, kind by kind: doc, 8 (written by genask.py).
-/
import Derived.Test.YtilbkminekojcaaRefDocC
import Derived.BigQuiet
namespace Go.Proofs.Ytilbkminekojcaa.Me
open Go.RowKit Mr
set_option linter.unusedVariables false
section
variable {W : World} {S : Nat → Prop} {b : Nat} {s : St} {mv : Int} {ws0 : List Int}
set_option maxRecDepth 100000 in
set_option maxHeartbeats 2000000 in
theorem doc_8 (h : RmS W S b ws0 s mv) (hSlt : ∀ k, S k → k < W.heap.size) (hb : (s.lg.length + s.lg.length / 4 + 192) * 56 ≤ 281474976710656) (th ad n old x : Int) :
    Calls Try.prog 21 #[.pointer (some ⟨b, 0, none⟩), .agg #[.int .i64 8, .int .i64 th, .int .i64 ad, .int .i64 n, .int .u64 old, .int .u64 x]] W (DocPost W S b ws0 ⟨0, (ent s.lg n.toNat (min (s.lg.length - n.toNat) (stopN ad))).map (fun x => (x.1 : Int)), [], (ent s.lg n.toNat (min (s.lg.length - n.toNat) (stopN ad))).map (·.2)⟩ s mv) := by
  have BX := Bx3.made W ⟨8, th, ad, n, old, x⟩
  have hB3 : Below W.heap.size W (((W.alloc (.cells #[.int .i64 8, .int .i64 th, .int .i64 ad, .int .i64 n, .int .u64 old, .int .u64 x] 33)).alloc (.cells #[.int .i64 0, .slice none 0 0, .slice none 0 0, .slice none 0 0] 55)).alloc (.cells #[.int .i64 0, .slice none 0 0, .slice none 0 0, .slice none 0 0] 55)) := (((Below.refl _ _).alloc (Nat.le_refl _) _).alloc (by simp) _).alloc (by simp; omega) _
  simp only at BX
  replace BX := Mr.hid BX
  replace hB3 := Mr.hid hB3
  replace h := Mr.hid h
  replace hSlt := Mr.hid hSlt
  go_enter Try.func21, Try.ntmps21
  go_upto_region 2 with fail
  obtain ⟨W3, hW3⟩ : ∃ W3, ((W.alloc (.cells #[.int .i64 8, .int .i64 th, .int .i64 ad, .int .i64 n, .int .u64 old, .int .u64 x] 33)).alloc (.cells #[.int .i64 0, .slice none 0 0, .slice none 0 0, .slice none 0 0] 55)).alloc (.cells #[.int .i64 0, .slice none 0 0, .slice none 0 0, .slice none 0 0] 55) = W3 := ⟨_, rfl⟩
  have hz : W3.heap.size = W.heap.size + 3 := by rw [← hW3]; simp
  rw [hW3] at BX hB3 ⊢
  clear hW3
  have hlt3 := BX.out.lt
  have h3 := h.out.below hB3.out
  obtain ⟨vf, vm, vt, hr⟩ := id h3
  have hLs := Lp.start (lg := s.lg) (f := n.toNat) BX.out
  have hbl := hSlt.out b hr.inb
  have hb1 : b ≠ W.heap.size := by omega
  have hb2 : b ≠ W.heap.size + 1 := by omega
  have hb3 : b ≠ W.heap.size + 1 + 1 := by omega
  obtain ⟨i0, hi, hz0, hz1, hz2⟩ := info_parts info_int
  obtain ⟨j0, hj, hy0, hy1, hy2⟩ := info_parts info_acc
  have hsm : s.lg.length ≤ 5026338869641 := by omega
  replace hb := Mr.hid hb
  replace hr := Mr.hid hr
  replace hLs := Mr.hid hLs
  have hnn : (n.toNat : Int) = max n 0 := by omega
  obtain ⟨at', ct, hvt, _⟩ := hr.out.ht.form
  subst hvt
  replace h3 := Mr.hid h3
  obtain ⟨o0, o1, o2, o3, o4, o5⟩ := BX.out.opc
  simp only at o0 o1 o2 o3 o4 o5
  go_upto_region 24 with fail
  go_cut [14] (fun s14 wx => s14 = .int .i64 (n.toNat : Int) ∧ wx = W3)
  case first =>
    clear hLs hr hb1 hb2 hb3
    go_wp2
    all_goals go_meet
    all_goals (refine ⟨?_, rfl⟩; congr 1; omega)
  case rest =>
    obtain ⟨rfl, hw⟩ := hcut
    obtain rfl := hw.symm
    clear o0 o1 o2 o3 o4 o5
    obtain ⟨M, hM⟩ : ∃ M, M = min (s.lg.length - n.toNat) (stopN ad) := ⟨_, rfl⟩
    replace hnn := Mr.hid hnn
    go_wp2
    go_loopg [14] M (fun k s14 wy => ∃ (j : Nat) (vn vl : Value), s14 = .int .i64 ((n.toNat + j : Nat) : Int) ∧ j + k = M ∧ Lp W3 wy W.heap.size ⟨8, th, ad, n, old, x⟩ vn vl s.lg n.toNat j j)
    case atStart => exact ⟨0, _, _, by simp, by omega, hLs.out⟩
    case round =>
      obtain ⟨j, vn, vl, rfl, hjk, hL⟩ := hrel
      clear hLs
      obtain ⟨an, cn, rfl, _⟩ := hL.hn.form
      obtain ⟨al, cl, rfl, _⟩ := hL.hl.form
      obtain ⟨t2, tr⟩ := hL.trace hr.out hSlt.out
      obtain ⟨o0, o1, o2, o3, o4, o5⟩ := hL.opc
      simp only at o0 o1 o2 o3 o4 o5
      obtain ⟨x0, x1, x2, x3, xf⟩ := hL.x
      have q1 := hL.sz
      have hltx : W.heap.size + 1 + 1 < wr.heap.size := by omega
      have hlt1 : W.heap.size + 1 < wr.heap.size := by omega
      have hlt0 : W.heap.size < wr.heap.size := by omega
      have hbw : b < wr.heap.size := by omega
      have q0 : W.heap.size + 1 + 1 < W3.heap.size := hlt3
      generalize hij : n.toNat + j = i at *
      replace hij := Mr.hid hij
      replace hL := Mr.hid hL
      by_cases hin : i < s.lg.length
      · obtain ⟨g, c, hvt, hgB, cs⟩ := tr i hin
        cases hvt
        clear tr
        have e1 : decide ((i : Int) < (s.lg.length : Int)) = true := by simp; omega
        have e2 : decide (i < s.lg.length) = true := by simp; omega
        have hij' := hij.out
        have hjL : j + 1 ≤ s.lg.length := by omega
        replace hij' := Mr.hid hij'
        go_upto_region 25 with fail
        have SP := fun (w' : World) => stop_any 8 th ad n old x w'
        obtain ⟨q, hq⟩ : ∃ q, stopN ad = q := ⟨_, rfl⟩
        rw [hq] at SP
        have hM2 := hM
        rw [hq] at hM2
        replace hq := Mr.hid hq
        by_cases hjq : j < q
        · have e3 : decide ((j : Int) < (q : Int)) = true := by simp; omega
          have e4 : decide (j < q) = true := by simp; omega
          go_region_held3 (fun w' => w'.cell? ⟨b, 2, none⟩ = some (.slice (some ⟨g, 0, none⟩) s.lg.length ct) ∧ w'.cell? ⟨W.heap.size, 0, none⟩ = some (.int .i64 8) ∧ w'.cell? ⟨W.heap.size, 1, none⟩ = some (.int .i64 th) ∧ w'.cell? ⟨W.heap.size, 2, none⟩ = some (.int .i64 ad) ∧ w'.cell? ⟨W.heap.size, 3, none⟩ = some (.int .i64 n) ∧ w'.cell? ⟨W.heap.size, 4, none⟩ = some (.int .u64 old) ∧ w'.cell? ⟨W.heap.size, 5, none⟩ = some (.int .u64 x) ∧ w'.cell? ⟨W.heap.size + 1 + 1, 3, none⟩ = some (.slice al j cl)) (go_keep) (first | (go_at_call 37; refine (SP _).mono ?_; rintro e w5 ⟨rfl, hw5⟩; subst hw5))
          have hLd := hL.out.below (w' := (wr.alloc (.cells #[.int .i64 8, .int .i64 th, .int .i64 ad, .int .i64 n, .int .u64 old, .int .u64 x] 33)).drew) (((Below.refl _ _).alloc (Nat.le_refl _) _).drew)
          clear o0 o1 o2 o3 o4 o5 x0 x1 x2 x3 xf t2 hL cs
          generalize (wr.alloc (.cells #[.int .i64 8, .int .i64 th, .int .i64 ad, .int .i64 n, .int .u64 old, .int .u64 x] 33)).drew = wd at *
          obtain ⟨t2, tr⟩ := hLd.trace hr.out hSlt.out
          obtain ⟨x0, x1, x2, x3, xf⟩ := hLd.x
          have q2 := hLd.sz
          have hltx2 : W.heap.size + 1 + 1 < wd.heap.size := by omega
          have hroom8 : (j + 1 + (j + 1) / 4 + 192) * 8 ≤ 281474976710656 := room_mono hjL hb.out (by decide)
          have hroom56 : (j + 1 + (j + 1) / 4 + 192) * 56 ≤ 281474976710656 := room_mono hjL hb.out (by decide)
          have hBa : ∀ p, Below wd.heap.size wd (wd.alloc p) := fun p => (Below.refl _ _).alloc (Nat.le_refl _) p
          replace hroom8 := Mr.hid hroom8
          replace hroom56 := Mr.hid hroom56
          replace tr := Mr.hid tr
          replace hLd := Mr.hid hLd
          replace hBa := Mr.hid hBa
          go_upto_region 28 with (at_builtin; (refine wpList_append_has _ rfl (.tmp 128) (.tmp 130) 34 rfl (fun k => W3.heap.size ≤ k) 3 i0 _ 1 8 Try.underlying34 hi hz0 hz1 hz2 rfl (.slice an j cn) j (nmc (ent s.lg n.toNat j)) rfl (hLd.out.hn.alloc _) ⟨wd.heap.size, 0, none⟩ 1 1 [.int .i64 (i : Int)] rfl rfl (newsAt wd _ #[.int .i64 (i : Int)] 3 _ rfl rfl) (by simp [Value.oneCell']) (by omega) (by unfold maxLen; omega) hroom8.out (by simp; omega) ?_; intro g1 cap1 w1 hown hgrow hat; rw [← hij'.out] at hown; obtain ⟨b2', L2⟩ := hLd.out.nums (hBa.out _) hown hgrow; have y1 : w1.cell? ⟨W.heap.size + 1 + 1, 1, none⟩ = some (.slice an j cn) := (by simp [World.cell?, b2']); have y2 : w1.frozen? ⟨W.heap.size + 1 + 1, 1, none⟩ = false := (by simp [World.frozen?, b2']); clear hown hgrow hat b2'; replace L2 := Mr.hid L2))
          obtain ⟨W2, hW2⟩ : ∃ W2, w1.setCell ⟨W.heap.size + 1 + 1, 1, none⟩ (.slice (some ⟨g1, 0, none⟩) (j + 1) cap1) = W2 := ⟨_, rfl⟩
          rw [hW2] at L2 ⊢
          clear hW2 y1 y2 x0 x1 x2 x3 xf t2 tr hBa hltx2
          obtain ⟨t2, tr⟩ := L2.out.trace hr.out hSlt.out
          obtain ⟨x0, x1, x2, x3, xf⟩ := L2.out.x
          have q3 := L2.out.sz
          have hltx3 : W.heap.size + 1 + 1 < W2.heap.size := by omega
          obtain ⟨g', c', hvt', hgB', cs'⟩ := tr i hin
          cases hvt'
          clear tr
          generalize hyy : s.lg[i]?.getD noAcc = y at *
          obtain ⟨y0, y1, y2, y3, y4, y5, y6⟩ := y
          have d0 := cs' 0 _ (by decide) rfl
          have d1 := cs' 1 _ (by decide) rfl
          have d2 := cs' 2 _ (by decide) rfl
          have d3 := cs' 3 _ (by decide) rfl
          have d4 := cs' 4 _ (by decide) rfl
          have d5 := cs' 5 _ (by decide) rfl
          have d6 := cs' 6 _ (by decide) rfl
          simp only [Nat.add_zero] at d0
          clear cs'
          have hgl : g < W2.heap.size := by omega
          have hB2 : ∀ p, Below W2.heap.size W2 (W2.alloc p).drew := fun p => Below.drew ((Below.refl _ _).alloc (Nat.le_refl _) p)
          have law : ∀ p, Has (W2.alloc p).drew (fun k => W3.heap.size ≤ k) 41 7 (.slice al j cl) j (lgc ((ent s.lg n.toNat j).map (·.2))) := fun p => L2.out.hl.below (hB2 p)
          replace hyy := Mr.hid hyy
          replace law := Mr.hid law
          replace hB2 := Mr.hid hB2
          go_region_law ((refine step_append_has _ rfl (.tmp 134) (.tmp 142) 35 rfl (fun k => W3.heap.size ≤ k) 41 j0 _ 7 56 Try.underlying35 hj hy0 hy1 hy2 rfl (.slice al j cl) j (lgc ((ent s.lg n.toNat j).map (·.2))) (by simp [Act.eval]) (law.out _) ⟨W2.heap.size, 0, none⟩ 1 1 [.int .i64 y0, .int .i64 y1, .int .i64 y2, .int .i64 y3, .int .u64 y4, .int .u64 y5, .int .u64 y6] (by simp [Act.eval]) rfl (newsAt W2 _ #[.int .i64 y0, .int .i64 y1, .int .i64 y2, .int .i64 y3, .int .u64 y4, .int .u64 y5, .int .u64 y6] 41 _ rfl rfl) (by simp [Value.oneCell']) (by omega) (by unfold maxLen; omega) hroom56.out (by simp; omega) ?_; intro g3 cap3 w3 hown hgrow hat; obtain ⟨b2', L4⟩ := L2.out.log (v' := .slice (some ⟨g3, 0, none⟩) (j + 1) cap3) (hB2.out _) (by rw [hij'.out, hyy.out]; exact hown) hgrow; have z1 : w3.cell? ⟨W.heap.size + 1 + 1, 3, none⟩ = some (.slice al j cl) := (by simp [World.cell?, b2']); have z2 : w3.frozen? ⟨W.heap.size + 1 + 1, 3, none⟩ = false := (by simp [World.frozen?, b2']); clear hown hgrow hat b2'; replace L4 := Mr.hid L4))
          all_goals go_wp2
          all_goals have hij2 := hij'.out
          all_goals go_roundg (gk - 1)
          all_goals first | omega | exact ⟨j + 1, _, _, by rw [← Nat.add_assoc, hij2]; simp, by omega, L4.out⟩
        · have e3 : decide ((j : Int) < (q : Int)) = false := by simp; omega
          have e4 : decide (j < q) = false := by simp; omega
          have hjM : j = M := by have := hij'.out; have := hq.out; omega
          clear hM2
          replace hjM := Mr.hid hjM
          replace hM := Mr.hid hM
          go_region_held3 (fun w' => w'.cell? ⟨b, 2, none⟩ = some (.slice (some ⟨g, 0, none⟩) s.lg.length ct) ∧ w'.cell? ⟨W.heap.size, 0, none⟩ = some (.int .i64 8) ∧ w'.cell? ⟨W.heap.size, 1, none⟩ = some (.int .i64 th) ∧ w'.cell? ⟨W.heap.size, 2, none⟩ = some (.int .i64 ad) ∧ w'.cell? ⟨W.heap.size, 3, none⟩ = some (.int .i64 n) ∧ w'.cell? ⟨W.heap.size, 4, none⟩ = some (.int .u64 old) ∧ w'.cell? ⟨W.heap.size, 5, none⟩ = some (.int .u64 x) ∧ w'.cell? ⟨W.heap.size + 1 + 1, 3, none⟩ = some (.slice al j cl)) (go_keep) (first | (go_at_call 37; refine (SP _).mono ?_; rintro e w5 ⟨rfl, hw5⟩; subst hw5))
          have hLd := hL.out.below (w' := (wr.alloc (.cells #[.int .i64 8, .int .i64 th, .int .i64 ad, .int .i64 n, .int .u64 old, .int .u64 x] 33)).drew) (((Below.refl _ _).alloc (Nat.le_refl _) _).drew)
          replace hjM := hjM.out
          replace hM := hM.out
          clear o0 o1 o2 o3 o4 o5 x0 x1 x2 x3 xf t2 hL cs
          generalize (wr.alloc (.cells #[.int .i64 8, .int .i64 th, .int .i64 ad, .int .i64 n, .int .u64 old, .int .u64 x] 33)).drew = wd at *
          obtain ⟨x0, x1, x2, x3, xf⟩ := hLd.x
          obtain ⟨r0, r1, r2, r3, rf⟩ := hLd.r
          have q2 := hLd.sz
          have hn' := hLd.hn
          have hl' := hLd.hl
          have hfr := hLd.fr
          subst hjM
          replace hLd := Mr.hid hLd
          replace hn' := Mr.hid hn'
          replace hl' := Mr.hid hl'
          replace hfr := Mr.hid hfr
          replace hM := Mr.hid hM
          go_wp2
          refine bodyPost_ret (v := .agg #[.int .i64 0, .slice an j cn, .slice none 0 0, .slice al j cl]) (by simp [results, Try.results21, go_sem, *]) rfl ?_
          have fE := Fr.setCell (Fr.setCell (Fr.setCell (Fr.setCell (Fr.refl wd (fun k => k = W.heap.size + 1 ∨ k = W.heap.size + 1 + 1)) ⟨W.heap.size + 1, 0, none⟩ (.int .i64 0) (.inl (.inl rfl))) ⟨W.heap.size + 1, 1, none⟩ (.slice an j cn) (.inl (.inl rfl))) ⟨W.heap.size + 1, 2, none⟩ (.slice none 0 0) (.inl (.inl rfl))) ⟨W.heap.size + 1, 3, none⟩ (.slice al j cl) (.inl (.inl rfl))
          have f3 : Fr W3 wd (fun k => k = W.heap.size + 1 ∨ k = W.heap.size + 1 + 1) := hfr.out.mono (fun k hk => .inr hk)
          refine ⟨_, rfl, ⟨_, _, _, rfl, ?_, Has.nil _ _ _ _, ?_⟩, doc_fin hSlt.out hB3.out hz (h3.out.mono (fun _ => .inl)) (Fr.refl _ _) (f3.trans (fE.mono (fun k hk => .inl hk)))⟩
          · rw [nmi_ent, ← hM.out, List.length_map, ent_length]
            exact (hn'.out.fr fE (fun k hk _ he => by omega)).mono (fun k hk => by omega)
          · rw [← hM.out, List.length_map, ent_length]
            exact (hl'.out.fr fE (fun k hk _ he => by omega)).mono (fun k hk => by omega)
      · have e1 : decide ((i : Int) < (s.lg.length : Int)) = false := by simp; omega
        have e2 : decide (i < s.lg.length) = false := by simp; omega
        clear tr
        have hij' := hij.out
        have hjM : j = M := by omega
        replace hij' := Mr.hid hij'
        go_upto_region 25 with fail
        go_quiet (fail)
        have hLd := hL.out.below (belowQ wr nq)
        clear o0 o1 o2 o3 o4 o5 x0 x1 x2 x3 xf t2 hL
        generalize wr.drewN nq = wd at *
        obtain ⟨x0, x1, x2, x3, xf⟩ := hLd.x
        obtain ⟨r0, r1, r2, r3, rf⟩ := hLd.r
        have q2 := hLd.sz
        have hn' := hLd.hn
        have hl' := hLd.hl
        have hfr := hLd.fr
        subst hjM
        replace hLd := Mr.hid hLd
        replace hn' := Mr.hid hn'
        replace hl' := Mr.hid hl'
        replace hfr := Mr.hid hfr
        replace hM := Mr.hid hM
        go_wp2
        refine bodyPost_ret (v := .agg #[.int .i64 0, .slice an j cn, .slice none 0 0, .slice al j cl]) (by simp [results, Try.results21, go_sem, *]) rfl ?_
        have fE := Fr.setCell (Fr.setCell (Fr.setCell (Fr.setCell (Fr.refl wd (fun k => k = W.heap.size + 1 ∨ k = W.heap.size + 1 + 1)) ⟨W.heap.size + 1, 0, none⟩ (.int .i64 0) (.inl (.inl rfl))) ⟨W.heap.size + 1, 1, none⟩ (.slice an j cn) (.inl (.inl rfl))) ⟨W.heap.size + 1, 2, none⟩ (.slice none 0 0) (.inl (.inl rfl))) ⟨W.heap.size + 1, 3, none⟩ (.slice al j cl) (.inl (.inl rfl))
        have f3 : Fr W3 wd (fun k => k = W.heap.size + 1 ∨ k = W.heap.size + 1 + 1) := hfr.out.mono (fun k hk => .inr hk)
        refine ⟨_, rfl, ⟨_, _, _, rfl, ?_, Has.nil _ _ _ _, ?_⟩, doc_fin hSlt.out hB3.out hz (h3.out.mono (fun _ => .inl)) (Fr.refl _ _) (f3.trans (fE.mono (fun k hk => .inl hk)))⟩
        · rw [nmi_ent, ← hM.out, List.length_map, ent_length]
          exact (hn'.out.fr fE (fun k hk _ he => by omega)).mono (fun k hk => by omega)
        · rw [← hM.out, List.length_map, ent_length]
          exact (hl'.out.fr fE (fun k hk _ he => by omega)).mono (fun k hk => by omega)
end
end Go.Proofs.Ytilbkminekojcaa.Me
