import Derived.Test.YtpknggcgojkjgaaGreatJ25
import Derived.Deep.WholeRow
/-
  CENSUS: the finder's found, change, give, leave.
-/
namespace Go.Proofs.YtpknggcgojkjgaaGreat.Cn
open Go.RowKit Mr Md
set_option linter.unusedVariables false
set_option linter.unusedSimpArgs false
set_option maxRecDepth 100000
theorem wt_fl : (Tryz.prog.info? 74).map (fun i => (i.zero, i.size, i.bytes)) = some (some (.agg #[.int .i64 0, .int .i64 0, .int .i64 0]), 3, 24) := by kernel_rfl
theorem new3 {w w1 : World} {f : Fl} (h1 : w1 = w.alloc (.cells #[.int .i64 f.kd, .int .i64 f.mv, .int .i64 f.slot] 74 (0, 0))) : ∀ ad, some (⟨w.heap.size, 0, none⟩ : Addr) = some ad → ∀ j u, (f.row)[j]? = some u → w1.cell? (ad.add j) = some u := by
  rintro ad e0 j u hu
  cases e0
  subst h1
  rw [add1, Nat.zero_add, cell_blk (new_at w _ _ rfl)]
  simpa [Fl.row] using hu
set_option maxHeartbeats 8000000 in
theorem found_any {w : World} {Sf : Nat → Prop} {bf : Nat} {K : Fc} {s : Fg} {l : List Fl} (h : Box w bf 276 (ff K s)) (hl : Own w Sf 74 3 s.fv l.length (fls l)) (hSf : ∀ k, Sf k → k ≠ bf) (hSl : ∀ k, Sf k → k < w.heap.size) (hlen : l.length ≤ 1000000000) (kd : Int) (x : Sx) :
    Calls Tryz.prog 106 #[.pointer (some ⟨bf, 0, none⟩), .int .i64 kd, x.val] w fun r w' => r = .returned (.tuple #[]) ∧ ∃ fv', Box w' bf 276 (ff K { s with fv := fv' }) ∧ Own w' (fun k => Sf k ∨ w.heap.size ≤ k) 74 3 fv' (l ++ [(⟨kd, x.mv, x.slot⟩ : Fl)]).length (fls (l ++ [(⟨kd, x.mv, x.slot⟩ : Fl)])) ∧ Fr w w' (fun k => k = bf ∨ Sf k) := by
  obtain ⟨a, cap, hfv, hcap, hcm⟩ := hl.form
  obtain ⟨i0, hi0, hz0, hz1, hz2⟩ := parts_of wt_fl
  have A := Mr.hid (h.below ((Below.refl _ w).alloc (Nat.le_refl _) (sxO x)))
  have L := Mr.hid (hl.below ((Below.refl _ w).alloc (Nat.le_refl _) (sxO x)))
  have F : Hid (Fr w (w.alloc (sxO x)) (fun k => k = bf ∨ Sf k)) := (Fr.refl _ _).alloc _
  have hb : Hid ((w.alloc (sxO x)).heap[w.heap.size]? = some (sxO x)) := heap_alloc_new _ _
  have nb := ne_new' h
  have nS : Hid (¬ Sf w.heap.size) := fun e => by have := hSl _ e; omega
  have wsz : (w.alloc (sxO x)).heap.size = w.heap.size + 1 := by simp
  clear h hl
  unfold Sx.val
  unfold sxO at A L F hb wsz
  go_enter Tryz.func106, Tryz.ntmps106
  go_upto_region 1 with (fail)
  generalize (w.alloc _) = wa at *
  generalize hBe : w.heap.size = B at *
  replace hBe := Mr.hid hBe
  obtain ⟨bl, b0, b1, b2, b3, b4⟩ := sxO_cells (a := x) hb.out
  simp only [Nat.zero_add] at b0 b1 b2 b3 b4
  have al := A.out.lt
  have c5 := fb_275 A.out
  rw [hfv] at c5 L
  have f5 := A.out.live 275
  replace hSl : ∀ k, Sf k → k < wa.heap.size := fun k hk => by have := hSl k hk; omega
  have LO : Hid (∀ o, Own (wa.drew.alloc o) Sf 74 3 (.slice a l.length cap) l.length (fls l)) := fun o => L.out.below ((Below.refl _ _).drew.alloc (Nat.le_refl _) o)
  have NW : Hid (∀ ad, some (⟨wa.drew.heap.size, 0, none⟩ : Addr) = some ad → ∀ j u, ((⟨kd, x.mv, x.slot⟩ : Fl).row)[j]? = some u → (wa.drew.alloc (.cells #[.int .i64 kd, .int .i64 x.mv, .int .i64 x.slot] 74 (0, 0))).cell? (ad.add j) = some u) := new3 (w := wa.drew) (f := ⟨kd, x.mv, x.slot⟩) rfl
  have HG : Hid (∀ o, Box (wa.drew.alloc o) bf 276 (ff K s)) := fun o => A.out.below ((Below.refl _ _).drew.alloc (Nat.le_refl _) o)
  have FR : Hid (∀ o, Fr w (wa.drew.alloc o) (fun k => k = bf ∨ Sf k)) := fun o => (F.out.drew).alloc o
  replace hi0 := Mr.hid hi0
  have hsz : Hid (fls (l ++ [(⟨kd, x.mv, x.slot⟩ : Fl)]) = fls l ++ (⟨kd, x.mv, x.slot⟩ : Fl).row) := by show _ = _; simp [fls]
  have hbw : Hid (bf < B) := by show _ < _; have := wsz; omega
  replace wsz := Mr.hid wsz
  have al2 : bf ≠ wa.heap.size := Nat.ne_of_lt al
  have al3 : wa.heap.size ≠ bf := Nat.ne_of_gt al
  replace hSf := Mr.hid hSf
  go_region_law (first | (refine step_append_mine _ rfl (.tmp 10) (.tmp 17) 69 rfl Sf 74 i0 _ 3 24 Tryz.underlying69 hi0.out hz0 hz1 hz2 rfl (.slice a l.length cap) l.length (fls l) (by first | rfl | simp [Act.eval]) (LO.out _) (some ⟨wa.drew.heap.size, 0, none⟩) 1 1 ((⟨kd, x.mv, x.slot⟩ : Fl).row) (by first | rfl | simp [Act.eval]) rfl (fun e => by cases e) NW.out (by simp [Fl.row, Value.oneCell']) (by unfold maxLen; omega) (by omega) ?_; intro b3 c3 w3 hown3 hfr3; have hg3 := Mr.hid ((HG.out _).fr hfr3 (fun e => hSf.out _ e rfl)); have cg3 := fb_275 hg3.out; have fg3 := hg3.out.live 275))
  all_goals
    have hO4 := hown3.mono (T := fun k => Sf k ∨ w.heap.size ≤ k) (fun k hk => by
      rcases hk with hk | hk
      · exact .inl hk
      · have := hBe.out
        have := wsz.out
        simp at hk
        exact .inr (by omega))
    rw [← hsz.out] at hO4
    rw [show l.length + 1 = (l ++ [(⟨kd, x.mv, x.slot⟩ : Fl)]).length from by simp] at hO4 ⊢
    go_end0
    refine ⟨rfl, _, Box.congr (hg3.out.set 275 (by omega) _) (ff_set (K := K) (s := s) (s' := { s with fv := .slice b3 (l ++ [(⟨kd, x.mv, x.slot⟩ : Fl)]).length c3 }) rfl _ (fun k hk => ?_) rfl rfl rfl rfl rfl), Own.kept hO4 (fun k hk hl => Below.heap_setCell w3 ⟨bf, 275, none⟩ _ k (fun e => ?_)) (fun k hk => hk), ((FR.out _).trans (hfr3.mono (fun k h => .inl (.inr h)))).setCell _ _ (.inl (.inl rfl))⟩
    · unfold setF; rw [if_neg (by omega)]
    · have h7 := hBe.out
      have h8 := hbw.out
      rcases hk with hk | hk
      · exact hSf.out _ hk e
      · simp only at e; omega
end Go.Proofs.YtpknggcgojkjgaaGreat.Cn
/-
  CENSUS: the finder's give, leave and change, where they find nothing, or a shift that may not be.
-/
namespace Go.Proofs.YtpknggcgojkjgaaGreat.Cn
open Go.RowKit Mr Md
set_option linter.unusedVariables false
set_option linter.unusedSimpArgs false
set_option maxRecDepth 100000
set_option maxHeartbeats 8000000 in
theorem fgive_any {w : World} {T : Nat → Prop} {bf : Nat} {K : Fc} {s : Fg} {sh : List Sx} (h : Box w bf 276 (ff K s)) (hsh : Sl w T 5 K.v2 sh.length (sxs sh)) (e : Ev) (m : Nat) (hm : e.nb = (m : Int)) (x : Sx) (hx : sh[m]? = some x) (hfr : x.fr ≠ 5) :
    Calls Tryz.prog 70 #[.pointer (some ⟨bf, 0, none⟩), e.val] w fun r w' => r = .returned (.bool true) ∧ Box w' bf 276 (ff K s) ∧ Fr w w' (fun k => k = bf) := by
  have A := Mr.hid (h.below ((Below.refl _ w).alloc (Nat.le_refl _) (evO e)))
  have R := Mr.hid (hsh.below ((Below.refl _ w).alloc (Nat.le_refl _) (evO e)))
  have F : Hid (Fr w (w.alloc (evO e)) (fun k => k = bf)) := (Fr.refl _ _).alloc _
  have hb : Hid ((w.alloc (evO e)).heap[w.heap.size]? = some (evO e)) := heap_alloc_new _ _
  have nb := ne_new' h
  obtain ⟨a2, p2, hv2, hp2⟩ := hsh.form
  clear h hp2 hsh
  obtain ⟨kd, mv, th, nm⟩ := e
  simp only at hm
  subst hm
  unfold Ev.val
  unfold evO at A F hb R
  replace hx := Mr.hid hx
  go_enter Tryz.func70, Tryz.ntmps70
  go_upto_region 1 with (fail)
  generalize (w.alloc _) = wa at *
  generalize hBe : w.heap.size = B at *
  replace hBe := Mr.hid hBe
  obtain ⟨b0, b1, b2, b3⟩ := evO_cells (e := ⟨kd, mv, th, (m : Int)⟩) hb.out
  have bl := (Array.getElem?_eq_some_iff.1 hb.out).1
  have al := A.out.lt
  have c10 := fb_10 A.out
  have hrow := R.out
  rw [hv2] at c10 hrow
  obtain ⟨bc, oc, rfl, hTb, X5⟩ := sx_at hrow hx.out
  obtain ⟨xl, x0, x1, x2, x3, x4⟩ := X5
  have hml : m < sh.length := (List.getElem?_eq_some_iff.1 hx.out).1
  have hmI : (m : Int) < (sh.length : Int) := by omega
  replace hrow := Mr.hid hrow
  replace hTb := Mr.hid hTb
  replace hv2 := Mr.hid hv2
  go_region
  have A2 : Hid (Box ((wa.alloc (sxO x)).drew) bf 276 (ff K s)) := A.out.below (((Below.refl _ wa).alloc (Nat.le_refl _) _).drew)
  have F2 : Hid (Fr w ((wa.alloc (sxO x)).drew) (fun k => k = bf)) := (F.out.alloc _).drew
  have hb2 : Hid (((wa.alloc (sxO x)).drew).heap[wa.heap.size]? = some (sxO x)) := heap_alloc_new _ _
  have nb2 := ne_new' A.out
  clear b0 b1 b2 b3 bl al c10 xl x0 x1 x2 x3 x4 A F hb hmI hml R hrow hTb
  unfold sxO at A2 F2 hb2
  generalize ((wa.alloc _).drew) = wb at *
  generalize wa.heap.size = B2 at *
  obtain ⟨bl, b0, b1, b2, b3, b4⟩ := sxO_cells (a := x) hb2.out
  simp only [Nat.zero_add] at b0 b1 b2 b3 b4
  have al := A2.out.lt
  have q1 : (x.fr == 5) = false := by simpa using hfr
  replace hfr := Mr.hid hfr
  go_wp2
  go_ret
  exact ⟨rfl, A2.out, ⟨F2.out.os, F2.out.tape, F2.out.output, F2.out.size, F2.out.block⟩⟩
set_option maxHeartbeats 8000000 in
theorem fleave_any {w : World} {T : Nat → Prop} {bf : Nat} {K : Fc} {s : Fg} {sh : List Sx} (h : Box w bf 276 (ff K s)) (hsh : Sl w T 5 K.v2 sh.length (sxs sh)) (e : Ev) (m : Nat) (hm : e.nb = (m : Int)) (x : Sx) (hx : sh[m]? = some x) (hfr : x.fr ≠ 3) :
    Calls Tryz.prog 71 #[.pointer (some ⟨bf, 0, none⟩), e.val] w fun r w' => r = .returned (.bool true) ∧ Box w' bf 276 (ff K s) ∧ Fr w w' (fun k => k = bf) := by
  have A := Mr.hid (h.below ((Below.refl _ w).alloc (Nat.le_refl _) (evO e)))
  have R := Mr.hid (hsh.below ((Below.refl _ w).alloc (Nat.le_refl _) (evO e)))
  have F : Hid (Fr w (w.alloc (evO e)) (fun k => k = bf)) := (Fr.refl _ _).alloc _
  have hb : Hid ((w.alloc (evO e)).heap[w.heap.size]? = some (evO e)) := heap_alloc_new _ _
  have nb := ne_new' h
  obtain ⟨a2, p2, hv2, hp2⟩ := hsh.form
  clear h hp2 hsh
  obtain ⟨kd, mv, th, nm⟩ := e
  simp only at hm
  subst hm
  unfold Ev.val
  unfold evO at A F hb R
  replace hx := Mr.hid hx
  go_enter Tryz.func71, Tryz.ntmps71
  go_upto_region 1 with (fail)
  generalize (w.alloc _) = wa at *
  generalize hBe : w.heap.size = B at *
  replace hBe := Mr.hid hBe
  obtain ⟨b0, b1, b2, b3⟩ := evO_cells (e := ⟨kd, mv, th, (m : Int)⟩) hb.out
  have bl := (Array.getElem?_eq_some_iff.1 hb.out).1
  have al := A.out.lt
  have c10 := fb_10 A.out
  have hrow := R.out
  rw [hv2] at c10 hrow
  obtain ⟨bc, oc, rfl, hTb, X5⟩ := sx_at hrow hx.out
  obtain ⟨xl, x0, x1, x2, x3, x4⟩ := X5
  have hml : m < sh.length := (List.getElem?_eq_some_iff.1 hx.out).1
  have hmI : (m : Int) < (sh.length : Int) := by omega
  replace hrow := Mr.hid hrow
  replace hTb := Mr.hid hTb
  replace hv2 := Mr.hid hv2
  go_region
  have A2 : Hid (Box ((wa.alloc (sxO x)).drew) bf 276 (ff K s)) := A.out.below (((Below.refl _ wa).alloc (Nat.le_refl _) _).drew)
  have F2 : Hid (Fr w ((wa.alloc (sxO x)).drew) (fun k => k = bf)) := (F.out.alloc _).drew
  have hb2 : Hid (((wa.alloc (sxO x)).drew).heap[wa.heap.size]? = some (sxO x)) := heap_alloc_new _ _
  have nb2 := ne_new' A.out
  clear b0 b1 b2 b3 bl al c10 xl x0 x1 x2 x3 x4 A F hb hmI hml R hrow hTb
  unfold sxO at A2 F2 hb2
  generalize ((wa.alloc _).drew) = wb at *
  generalize wa.heap.size = B2 at *
  obtain ⟨bl, b0, b1, b2, b3, b4⟩ := sxO_cells (a := x) hb2.out
  simp only [Nat.zero_add] at b0 b1 b2 b3 b4
  have al := A2.out.lt
  have q1 : (x.fr == 3) = false := by simpa using hfr
  replace hfr := Mr.hid hfr
  go_wp2
  go_ret
  exact ⟨rfl, A2.out, ⟨F2.out.os, F2.out.tape, F2.out.output, F2.out.size, F2.out.block⟩⟩
def tT : Array Value := #[.bool false, .bool false, .bool true, .bool false, .bool false, .bool false, .bool true, .bool false, .bool true, .bool false, .bool false, .bool false, .bool true, .bool true, .bool false, .bool true, .bool false, .bool false, .bool false, .bool false, .bool false, .bool false, .bool true, .bool false, .bool false, .bool false, .bool false, .bool false, .bool false, .bool true, .bool true, .bool true, .bool false, .bool false, .bool false, .bool false]
def tZ : Array Value := #[.bool false, .bool false, .bool false, .bool false, .bool false, .bool false, .bool false, .bool false, .bool false, .bool false, .bool false, .bool false, .bool false, .bool false, .bool false, .bool false, .bool false, .bool false, .bool false, .bool false, .bool false, .bool false, .bool false, .bool false, .bool false, .bool false, .bool false, .bool false, .bool false, .bool false, .bool false, .bool false, .bool false, .bool false, .bool false, .bool false]
theorem wpList_run {P : Program} {ops : Array Oper} {Q : Exit → Act → World → Prop} {a : Act} {w w' : World} {rest : List Oper} {o : Oper} (hg : o.guard = none) {v : Value} (hr : (execOp a.eval o).run P w = .ok (.value v) w') (h : wpList P ops Q rest (a.put o.dst v) w') : wpList P ops Q (o :: rest) a w :=
  wpList_plain hg fun K hK => by unfold Oper.wp; rw [hr]; exact hK _ _ h
theorem wpList_storeNew {P : Program} {ops : Array Oper} {Q : Exit → Act → World → Prop} {a : Act} {w : World} {rest : List Oper} {o : Oper} (hg : o.guard = none) (t : TypeId) (x y : Operand) (ho : o.op = .store t x y) (c c' : Array Value) (hx : a.eval x = .pointer (some ⟨w.heap.size, 0, none⟩)) (hy : a.eval y = .agg c')
    (hi : (P.info? t).map (·.size) = some c'.size) (hc : c.size = c'.size) (h1 : c'.all (·.oneCell') = true) (h : wpList P ops Q rest (a.put o.dst undef) (w.alloc (.cells c' t (0, 0)))) : wpList P ops Q (o :: rest) a (w.alloc (.cells c t (0, 0))) :=
  wpList_plain hg fun K hK => by
    have hs := run_storeAt_new (P := P) w t c c' hi hc h1
    unfold Oper.wp execOp
    simp only [ho, hx, hy, Sem.run_bind, hs, Result.andThen_ok, Sem.run_pure]
    exact hK _ _ h
theorem tinfo : (Tryz.prog.info? 200).map (fun i => (i.zero, i.size)) = some (some (.agg tZ), 36) := by kernel_rfl
set_option maxHeartbeats 8000000 in
theorem turns_no (w : World) : Calls Tryz.prog 104 #[.int .i64 0, .int .i64 3] w fun r w' => r = .returned (.bool false) ∧ Below w.heap.size w w' := by
  have hB : Hid (Below w.heap.size w (w.alloc (.cells tT 200 (0, 0)))) := (Below.refl _ w).alloc (Nat.le_refl _) _
  have hc : (w.alloc (.cells tT 200 (0, 0))).cell? ⟨w.heap.size, 3, none⟩ = some (.bool false) := by
    rw [cell_blk (new_at w _ _ rfl)]; rfl
  go_enter Tryz.func104, Tryz.ntmps104
  go_upto_region 1 with (fail)
  refine wp_region_lit ?_
  refine wpList_run rfl (v := .agg #[.bool false, .bool false, .bool true, .bool false, .bool false, .bool false]) (w' := w) (by kernel_rfl) ?_
  refine wpList_run rfl (v := .agg #[.bool true, .bool false, .bool true, .bool false, .bool false, .bool false]) (w' := w) (by kernel_rfl) ?_
  refine wpList_run rfl (v := .agg #[.bool true, .bool true, .bool false, .bool true, .bool false, .bool false]) (w' := w) (by kernel_rfl) ?_
  refine wpList_run rfl (v := .agg #[.bool false, .bool false, .bool false, .bool false, .bool true, .bool false]) (w' := w) (by kernel_rfl) ?_
  refine wpList_run rfl (v := .agg #[.bool false, .bool false, .bool false, .bool false, .bool false, .bool true]) (w' := w) (by kernel_rfl) ?_
  refine wpList_run rfl (v := .agg #[.bool true, .bool true, .bool false, .bool false, .bool false, .bool false]) (w' := w) (by kernel_rfl) ?_
  refine wpList_run rfl (v := .agg tT) (w' := w) (by kernel_rfl) ?_
  refine wpList_run rfl (v := .pointer (some ⟨w.heap.size, 0, none⟩)) (w' := w.alloc (.cells tZ 200 (0, 0))) (by kernel_rfl) ?_
  refine wpList_storeNew rfl 200 (.tmp 5) (.tmp 12) rfl tZ tT rfl rfl (zero_of_info tinfo).2 (by kernel_rfl) (by kernel_rfl) ?_
  refine wpList_nil ?_
  simp only [Act.put, List.getElem_toArray, List.getElem_cons_zero, List.getElem_cons_succ, List.setIfInBounds_toArray, List.set_cons_zero, List.set_cons_succ]
  generalize (w.alloc (.cells tT 200 (0, 0))) = wt at *
  generalize hBe : w.heap.size = B at *
  replace hBe := Mr.hid hBe
  go_wp2
  go_ret
  exact ⟨rfl, by rw [hBe.out]; exact hB.out⟩
set_option maxHeartbeats 16000000 in
theorem fchange_no {w : World} {T Sf : Nat → Prop} {bf : Nat} {K : Fc} {s : Fg} {l : List Fl} {sh : List Sx} (h : Box w bf 276 (ff K s)) (hsh : Sl w T 5 K.v2 sh.length (sxs sh)) (hl : Own w Sf 74 3 s.fv l.length (fls l)) (hSf : ∀ k, Sf k → k ≠ bf) (hSl : ∀ k, Sf k → k < w.heap.size) (hlen : l.length ≤ 1000000000) (e : Ev) (m : Nat) (hm : e.nb = (m : Int)) (x : Sx) (hx : sh[m]? = some x) (hfr : x.fr = 0) (hto : x.to = 3) :
    Calls Tryz.prog 69 #[.pointer (some ⟨bf, 0, none⟩), e.val] w fun r w' => r = .returned (.bool true) ∧ ∃ fv', Box w' bf 276 (ff K { s with fv := fv' }) ∧ Own w' (fun k => Sf k ∨ w.heap.size ≤ k) 74 3 fv' (l ++ [(⟨3, x.mv, x.slot⟩ : Fl)]).length (fls (l ++ [(⟨3, x.mv, x.slot⟩ : Fl)])) ∧ Fr w w' (fun k => k = bf ∨ Sf k) := by
  replace hfr := Mr.hid hfr
  replace hto := Mr.hid hto
  have A := Mr.hid (h.below ((Below.refl _ w).alloc (Nat.le_refl _) (evO e)))
  have R := Mr.hid (hsh.below ((Below.refl _ w).alloc (Nat.le_refl _) (evO e)))
  have F : Hid (Fr w (w.alloc (evO e)) (fun k => k = bf ∨ Sf k)) := (Fr.refl _ _).alloc _
  have hb : Hid ((w.alloc (evO e)).heap[w.heap.size]? = some (evO e)) := heap_alloc_new _ _
  have nb := ne_new' h
  have L := Mr.hid (hl.below ((Below.refl _ w).alloc (Nat.le_refl _) (evO e)))
  have wsz : w.heap.size ≤ (w.alloc (evO e)).heap.size := by simp
  have hSl2 : Hid (∀ k, Sf k → k < (w.alloc (evO e)).heap.size) := fun k hk => by have := hSl k hk; omega
  replace hSf := Mr.hid hSf
  clear hl hSl
  obtain ⟨a2, p2, hv2, hp2⟩ := hsh.form
  clear h hp2 hsh
  obtain ⟨kd, mv, th, nm⟩ := e
  simp only at hm
  subst hm
  unfold Ev.val
  unfold evO at A F hb R L hSl2 wsz
  replace hx := Mr.hid hx
  go_enter Tryz.func69, Tryz.ntmps69
  go_upto_region 1 with (fail)
  generalize (w.alloc _) = wa at *
  generalize hBe : w.heap.size = B at *
  replace hBe := Mr.hid hBe
  obtain ⟨b0, b1, b2, b3⟩ := evO_cells (e := ⟨kd, mv, th, (m : Int)⟩) hb.out
  have bl := (Array.getElem?_eq_some_iff.1 hb.out).1
  have al := A.out.lt
  have c10 := fb_10 A.out
  have hrow := R.out
  rw [hv2] at c10 hrow
  obtain ⟨bc, oc, rfl, hTb, X5⟩ := sx_at hrow hx.out
  obtain ⟨xl, x0, x1, x2, x3, x4⟩ := X5
  have hml : m < sh.length := (List.getElem?_eq_some_iff.1 hx.out).1
  have hmI : (m : Int) < (sh.length : Int) := by omega
  replace hrow := Mr.hid hrow
  replace hTb := Mr.hid hTb
  replace hv2 := Mr.hid hv2
  replace wsz := Mr.hid wsz
  go_region
  have A2 : Hid (Box ((wa.alloc (sxO x)).drew) bf 276 (ff K s)) := A.out.below (((Below.refl _ wa).alloc (Nat.le_refl _) _).drew)
  have F2 : Hid (Fr w ((wa.alloc (sxO x)).drew) (fun k => k = bf ∨ Sf k)) := (F.out.alloc _).drew
  have hb2 : Hid (((wa.alloc (sxO x)).drew).heap[wa.heap.size]? = some (sxO x)) := heap_alloc_new _ _
  have nb2 := ne_new' A.out
  have L2 := Mr.hid (L.out.below (((Below.refl _ wa).alloc (Nat.le_refl _) (sxO x)).drew))
  have wsz2 : Hid (B ≤ ((wa.alloc (sxO x)).drew).heap.size) := by have := wsz.out; show _ ≤ _; simp; omega
  have hSl3 : Hid (∀ k, Sf k → k < ((wa.alloc (sxO x)).drew).heap.size) := fun k hk => by have := hSl2.out k hk; simp; omega
  clear L hSl2 wsz
  clear b0 b1 b2 b3 bl al c10 xl x0 x1 x2 x3 x4 A F hb hmI hml R hrow hTb
  unfold sxO at A2 F2 hb2 L2 wsz2 hSl3
  generalize ((wa.alloc _).drew) = wb at *
  generalize wa.heap.size = B2 at *
  obtain ⟨bl, b0, b1, b2, b3, b4⟩ := sxO_cells (a := x) hb2.out
  simp only [Nat.zero_add] at b0 b1 b2 b3 b4
  have al := A2.out.lt
  rw [hfr.out] at b3
  rw [hto.out] at b4
  have FA := Mr.hid (fun W (h1 : Box W bf 276 (ff K s)) (h2 : Own W Sf 74 3 s.fv l.length (fls l)) (h3 : ∀ k, Sf k → k < W.heap.size) => found_any h1 h2 hSf.out h3 hlen 3 x)
  unfold Sx.val at FA
  rw [hfr.out, hto.out] at FA
  replace hlen := Mr.hid hlen
  go_upto_region 2 with (fail)
  have KK : Hid (∀ w', Below wb.heap.size wb w' → w'.cell? ⟨B2, 3, none⟩ = some (.int .i64 0) ∧ w'.cell? ⟨B2, 4, none⟩ = some (.int .i64 3)) := fun w' hB => ⟨(hB.cell (p := ⟨B2, _, none⟩) bl).trans b3, (hB.cell (p := ⟨B2, _, none⟩) bl).trans b4⟩
  refine wp_region_held_drew (S := (fun w' => w'.cell? ⟨B2, 3, none⟩ = some (.int .i64 0) ∧ w'.cell? ⟨B2, 4, none⟩ = some (.int .i64 3))) (by kernel_rfl) (KK.out _ ((Below.refl _ _).drew)) (fun hS => ?_)
  try simp only [Act.put, List.getElem_toArray, List.getElem_cons_zero, List.getElem_cons_succ, List.setIfInBounds_toArray, List.set_cons_zero, List.set_cons_succ]
  refine wpAnyH_take (i := 0) (v := .pointer (some ⟨B2, 3, none⟩)) rfl (by kernel_rfl) (by kernel_rfl) (by kernel_rfl) (fun _ _ _ h => h) (Or.inl ⟨by kernel_rfl, fun w' hw => ?y0⟩) hS ?_
  case y0 =>
    clear hS
    have hw2 := hw
    go_simp
  try simp only [Act.put, List.getElem_toArray, List.getElem_cons_zero, List.getElem_cons_succ, List.setIfInBounds_toArray, List.set_cons_zero, List.set_cons_succ]
  refine wpAnyH_take (i := 1) (v := .int .i64 0) rfl (by kernel_rfl) (by kernel_rfl) (by kernel_rfl) (fun _ _ _ h => h) (Or.inl ⟨by kernel_rfl, fun w' hw => ?y1⟩) hS ?_
  case y1 =>
    clear hS
    obtain ⟨hw0, hw1⟩ := hw
    go_simp
  try simp only [Act.put, List.getElem_toArray, List.getElem_cons_zero, List.getElem_cons_succ, List.setIfInBounds_toArray, List.set_cons_zero, List.set_cons_succ]
  refine wpAnyH_take (i := 2) (v := .pointer (some ⟨B2, 4, none⟩)) rfl (by kernel_rfl) (by kernel_rfl) (by kernel_rfl) (fun _ _ _ h => h) (Or.inl ⟨by kernel_rfl, fun w' hw => ?y2⟩) hS ?_
  case y2 =>
    clear hS
    have hw2 := hw
    go_simp
  try simp only [Act.put, List.getElem_toArray, List.getElem_cons_zero, List.getElem_cons_succ, List.setIfInBounds_toArray, List.set_cons_zero, List.set_cons_succ]
  refine wpAnyH_take (i := 3) (v := .int .i64 3) rfl (by kernel_rfl) (by kernel_rfl) (by kernel_rfl) (fun _ _ _ h => h) (Or.inl ⟨by kernel_rfl, fun w' hw => ?y3⟩) hS ?_
  case y3 =>
    clear hS
    obtain ⟨hw0, hw1⟩ := hw
    go_simp
  try simp only [Act.put, List.getElem_toArray, List.getElem_cons_zero, List.getElem_cons_succ, List.setIfInBounds_toArray, List.set_cons_zero, List.set_cons_succ]
  refine wpAnyH_ready (rs := [4]) (by kernel_rfl) (by simp) ?_
  refine AllReadyH.cons rfl (fun K hK => ?_) AllReadyH.nil
  try simp only [Act.put, List.getElem_toArray, List.getElem_cons_zero, List.getElem_cons_succ, List.setIfInBounds_toArray, List.set_cons_zero, List.set_cons_succ]
  go_simp
  (go_at_call 104; refine (turns_no _).mono ?_; rintro e w6 ⟨rfl, hB6⟩)
  try (go_wp2_with fail)
  refine hK.out _ _ (KK.out _ (Below.mk hB6.os hB6.tape hB6.output hB6.size hB6.block)) (fun hS => ?_)
  clear hK K
  try simp only [Act.put, List.getElem_toArray, List.getElem_cons_zero, List.getElem_cons_succ, List.setIfInBounds_toArray, List.set_cons_zero, List.set_cons_succ]
  refine wpAnyH_take (i := 5) (v := .bool true) rfl (by kernel_rfl) (by kernel_rfl) (by kernel_rfl) (fun _ _ _ h => h) (Or.inl ⟨by kernel_rfl, fun w' hw => ?y5⟩) hS ?_
  case y5 =>
    clear hS
    have hw2 := hw
    go_simp
  try simp only [Act.put, List.getElem_toArray, List.getElem_cons_zero, List.getElem_cons_succ, List.setIfInBounds_toArray, List.set_cons_zero, List.set_cons_succ]
  refine wpAnyH_take (i := 6) (v := .bool true) rfl (by kernel_rfl) (by kernel_rfl) (by kernel_rfl) (fun _ _ _ h => h) (Or.inl ⟨by kernel_rfl, fun w' hw => ?y6⟩) hS ?_
  case y6 =>
    clear hS
    have hw2 := hw
    go_simp
  try simp only [Act.put, List.getElem_toArray, List.getElem_cons_zero, List.getElem_cons_succ, List.setIfInBounds_toArray, List.set_cons_zero, List.set_cons_succ]
  refine wpAnyH_take (i := 7) (v := undef) rfl (by kernel_rfl) (by kernel_rfl) (by kernel_rfl) (fun _ _ _ h => h) (Or.inr ⟨by kernel_rfl, rfl⟩) hS ?_
  try simp only [Act.put, List.getElem_toArray, List.getElem_cons_zero, List.getElem_cons_succ, List.setIfInBounds_toArray, List.set_cons_zero, List.set_cons_succ]
  refine wpAnyH_take (i := 8) (v := undef) rfl (by kernel_rfl) (by kernel_rfl) (by kernel_rfl) (fun _ _ _ h => h) (Or.inr ⟨by kernel_rfl, rfl⟩) hS ?_
  try simp only [Act.put, List.getElem_toArray, List.getElem_cons_zero, List.getElem_cons_succ, List.setIfInBounds_toArray, List.set_cons_zero, List.set_cons_succ]
  refine wpAnyH_take (i := 9) (v := undef) rfl (by kernel_rfl) (by kernel_rfl) (by kernel_rfl) (fun _ _ _ h => h) (Or.inr ⟨by kernel_rfl, rfl⟩) hS ?_
  try simp only [Act.put, List.getElem_toArray, List.getElem_cons_zero, List.getElem_cons_succ, List.setIfInBounds_toArray, List.set_cons_zero, List.set_cons_succ]
  refine wpAnyH_take (i := 10) (v := undef) rfl (by kernel_rfl) (by kernel_rfl) (by kernel_rfl) (fun _ _ _ h => h) (Or.inr ⟨by kernel_rfl, rfl⟩) hS ?_
  try simp only [Act.put, List.getElem_toArray, List.getElem_cons_zero, List.getElem_cons_succ, List.setIfInBounds_toArray, List.set_cons_zero, List.set_cons_succ]
  refine wpAnyH_take (i := 11) (v := undef) rfl (by kernel_rfl) (by kernel_rfl) (by kernel_rfl) (fun _ _ _ h => h) (Or.inr ⟨by kernel_rfl, rfl⟩) hS ?_
  try simp only [Act.put, List.getElem_toArray, List.getElem_cons_zero, List.getElem_cons_succ, List.setIfInBounds_toArray, List.set_cons_zero, List.set_cons_succ]
  refine wpAnyH_take (i := 12) (v := undef) rfl (by kernel_rfl) (by kernel_rfl) (by kernel_rfl) (fun _ _ _ h => h) (Or.inr ⟨by kernel_rfl, rfl⟩) hS ?_
  try simp only [Act.put, List.getElem_toArray, List.getElem_cons_zero, List.getElem_cons_succ, List.setIfInBounds_toArray, List.set_cons_zero, List.set_cons_succ]
  refine wpAnyH_take (i := 13) (v := undef) rfl (by kernel_rfl) (by kernel_rfl) (by kernel_rfl) (fun _ _ _ h => h) (Or.inr ⟨by kernel_rfl, rfl⟩) hS ?_
  try simp only [Act.put, List.getElem_toArray, List.getElem_cons_zero, List.getElem_cons_succ, List.setIfInBounds_toArray, List.set_cons_zero, List.set_cons_succ]
  refine wpAnyH_take (i := 14) (v := undef) rfl (by kernel_rfl) (by kernel_rfl) (by kernel_rfl) (fun _ _ _ h => h) (Or.inr ⟨by kernel_rfl, rfl⟩) hS ?_
  try simp only [Act.put, List.getElem_toArray, List.getElem_cons_zero, List.getElem_cons_succ, List.setIfInBounds_toArray, List.set_cons_zero, List.set_cons_succ]
  refine wpAnyH_take (i := 15) (v := undef) rfl (by kernel_rfl) (by kernel_rfl) (by kernel_rfl) (fun _ _ _ h => h) (Or.inr ⟨by kernel_rfl, rfl⟩) hS ?_
  try simp only [Act.put, List.getElem_toArray, List.getElem_cons_zero, List.getElem_cons_succ, List.setIfInBounds_toArray, List.set_cons_zero, List.set_cons_succ]
  refine wpAnyH_take (i := 16) (v := undef) rfl (by kernel_rfl) (by kernel_rfl) (by kernel_rfl) (fun _ _ _ h => h) (Or.inr ⟨by kernel_rfl, rfl⟩) hS ?_
  try simp only [Act.put, List.getElem_toArray, List.getElem_cons_zero, List.getElem_cons_succ, List.setIfInBounds_toArray, List.set_cons_zero, List.set_cons_succ]
  refine wpAnyH_take (i := 17) (v := undef) rfl (by kernel_rfl) (by kernel_rfl) (by kernel_rfl) (fun _ _ _ h => h) (Or.inr ⟨by kernel_rfl, rfl⟩) hS ?_
  try simp only [Act.put, List.getElem_toArray, List.getElem_cons_zero, List.getElem_cons_succ, List.setIfInBounds_toArray, List.set_cons_zero, List.set_cons_succ]
  refine wpAnyH_take (i := 18) (v := undef) rfl (by kernel_rfl) (by kernel_rfl) (by kernel_rfl) (fun _ _ _ h => h) (Or.inr ⟨by kernel_rfl, rfl⟩) hS ?_
  try simp only [Act.put, List.getElem_toArray, List.getElem_cons_zero, List.getElem_cons_succ, List.setIfInBounds_toArray, List.set_cons_zero, List.set_cons_succ]
  refine wpAnyH_take (i := 19) (v := undef) rfl (by kernel_rfl) (by kernel_rfl) (by kernel_rfl) (fun _ _ _ h => h) (Or.inr ⟨by kernel_rfl, rfl⟩) hS ?_
  try simp only [Act.put, List.getElem_toArray, List.getElem_cons_zero, List.getElem_cons_succ, List.setIfInBounds_toArray, List.set_cons_zero, List.set_cons_succ]
  refine wpAnyH_take (i := 20) (v := undef) rfl (by kernel_rfl) (by kernel_rfl) (by kernel_rfl) (fun _ _ _ h => h) (Or.inr ⟨by kernel_rfl, rfl⟩) hS ?_
  try simp only [Act.put, List.getElem_toArray, List.getElem_cons_zero, List.getElem_cons_succ, List.setIfInBounds_toArray, List.set_cons_zero, List.set_cons_succ]
  refine wpAnyH_take (i := 21) (v := undef) rfl (by kernel_rfl) (by kernel_rfl) (by kernel_rfl) (fun _ _ _ h => h) (Or.inr ⟨by kernel_rfl, rfl⟩) hS ?_
  try simp only [Act.put, List.getElem_toArray, List.getElem_cons_zero, List.getElem_cons_succ, List.setIfInBounds_toArray, List.set_cons_zero, List.set_cons_succ]
  refine wpAnyH_take (i := 22) (v := undef) rfl (by kernel_rfl) (by kernel_rfl) (by kernel_rfl) (fun _ _ _ h => h) (Or.inr ⟨by kernel_rfl, rfl⟩) hS ?_
  try simp only [Act.put, List.getElem_toArray, List.getElem_cons_zero, List.getElem_cons_succ, List.setIfInBounds_toArray, List.set_cons_zero, List.set_cons_succ]
  refine wpAnyH_take (i := 23) (v := undef) rfl (by kernel_rfl) (by kernel_rfl) (by kernel_rfl) (fun _ _ _ h => h) (Or.inr ⟨by kernel_rfl, rfl⟩) hS ?_
  try simp only [Act.put, List.getElem_toArray, List.getElem_cons_zero, List.getElem_cons_succ, List.setIfInBounds_toArray, List.set_cons_zero, List.set_cons_succ]
  refine wpAnyH_take (i := 24) (v := undef) rfl (by kernel_rfl) (by kernel_rfl) (by kernel_rfl) (fun _ _ _ h => h) (Or.inr ⟨by kernel_rfl, rfl⟩) hS ?_
  try simp only [Act.put, List.getElem_toArray, List.getElem_cons_zero, List.getElem_cons_succ, List.setIfInBounds_toArray, List.set_cons_zero, List.set_cons_succ]
  refine wpAnyH_take (i := 25) (v := undef) rfl (by kernel_rfl) (by kernel_rfl) (by kernel_rfl) (fun _ _ _ h => h) (Or.inr ⟨by kernel_rfl, rfl⟩) hS ?_
  try simp only [Act.put, List.getElem_toArray, List.getElem_cons_zero, List.getElem_cons_succ, List.setIfInBounds_toArray, List.set_cons_zero, List.set_cons_succ]
  refine wpAnyH_take (i := 26) (v := .bool true) rfl (by kernel_rfl) (by kernel_rfl) (by kernel_rfl) (fun _ _ _ h => h) (Or.inl ⟨by kernel_rfl, fun w' hw => ?y26⟩) hS ?_
  case y26 =>
    clear hS
    have hw2 := hw
    go_simp
  try simp only [Act.put, List.getElem_toArray, List.getElem_cons_zero, List.getElem_cons_succ, List.setIfInBounds_toArray, List.set_cons_zero, List.set_cons_succ]
  refine wpAnyH_done (by kernel_rfl) ?_ _
  have hB7 : Below wb.heap.size wb w6 := ⟨hB6.os, hB6.tape, hB6.output, hB6.size, hB6.block⟩
  have A3 := Mr.hid (A2.out.below hB7)
  have L3 := Mr.hid (L2.out.below hB7)
  have S3 : Hid (∀ k, Sf k → k < w6.heap.size) := fun k hk => Nat.lt_of_lt_of_le (hSl3.out k hk) hB7.size
  have F3 : Hid (Fr w w6 (fun k => k = bf ∨ Sf k)) := F2.out.trans (Fr.of_below hB7)
  have w3 : Hid (w.heap.size ≤ w6.heap.size) := by have h1 := hBe.out; have h2 := wsz2.out; have h3 := hB7.size; show _ ≤ _; omega
  have d0 := (hB7.cell (p := ⟨B2, _, none⟩) bl).trans b0
  have d1 := (hB7.cell (p := ⟨B2, _, none⟩) bl).trans b1
  have d2 := (hB7.cell (p := ⟨B2, _, none⟩) bl).trans b2
  have d3 := (hB7.cell (p := ⟨B2, _, none⟩) bl).trans b3
  have d4 := (hB7.cell (p := ⟨B2, _, none⟩) bl).trans b4
  clear b0 b1 b2 b3 b4 bl al A2 L2 F2 hSl3 wsz2 hB7 hB6 hS KK hb2
  have FB := Mr.hid (FA.out w6 A3.out L3.out S3.out)
  go_wp2_with (go_at_call 106; refine FB.out.mono ?_; rintro e5 w5 ⟨rfl, fv5, hA5, hO5, hF5⟩; replace hA5 := Mr.hid hA5; replace hO5 := Mr.hid hO5; replace hF5 := Mr.hid hF5)
  go_ret
  exact ⟨rfl, fv5, hA5.out, hO5.out.mono (fun k hk => hk.imp id (fun h => Nat.le_trans w3.out h)), F3.out.trans (hF5.out.mono (fun k hk => .inl hk))⟩
end Go.Proofs.YtpknggcgojkjgaaGreat.Cn
