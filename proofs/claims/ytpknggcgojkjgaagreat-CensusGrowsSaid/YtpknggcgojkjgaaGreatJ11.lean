import Derived.Test.YtpknggcgojkjgaaGreatJ10
import Derived.Test.YtpknggcgojkjgaaGreatJ08
import Derived.LoopN
/-
  CENSUS: the judge's monitors, over its box.
-/
namespace Go.Proofs.YtpknggcgojkjgaaGreat.Cn
open Go.RowKit Mr Md
set_option linter.unusedVariables false
set_option linter.unusedSimpArgs false
set_option maxRecDepth 100000
theorem Fr.drewN {a b : World} {S : Nat → Prop} (h : Fr a b S) (n : Nat) : Fr a (b.drewN n) S := ⟨h.os, h.tape, h.output, h.size, h.block⟩
theorem Box.drewN {w : World} {b n : Nat} {f : Nat → Value} (h : Box w b n f) (m : Nat) : Box (w.drewN m) b n f := h
theorem ne_new {w : World} {b n : Nat} {f : Nat → Value} (h : Box w b n f) : w.heap.size ≠ b := Nat.ne_of_gt h.lt
set_option maxHeartbeats 4000000 in
theorem jopen_any {w : World} {bj : Nat} {K : Jc} {s : Jg} (h : Box w bj 44 (jf K s)) (e : Ev) :
    Calls Tryz.prog 149 #[.pointer (some ⟨bj, 0, none⟩), e.val] w fun r w' => r = .returned (.bool true) ∧ Box w' bj 44 (jf K { s with thr := e.th }) ∧ Fr w w' (fun k => k = bj) := by
  have A := Mr.hid (h.below ((Below.refl _ w).alloc (Nat.le_refl _) (evO e)))
  have F : Hid (Fr w (w.alloc (evO e)) (fun k => k = bj)) := (Fr.refl _ _).alloc _
  have hb : Hid ((w.alloc (evO e)).heap[w.heap.size]? = some (evO e)) := heap_alloc_new _ _
  have nb := ne_new h
  have nb' := Ne.symm nb
  clear h
  obtain ⟨kd, mv, th, nm⟩ := e
  simp only at *
  unfold Ev.val
  unfold evO at A F hb
  go_enter Tryz.func149, Tryz.ntmps149
  go_upto_region 1 with (fail)
  generalize (w.alloc _) = wa at *
  generalize w.heap.size = B at *
  obtain ⟨b0, b1, b2, b3⟩ := evO_cells (e := ⟨kd, mv, th, nm⟩) hb.out
  have bl := (Array.getElem?_eq_some_iff.1 hb.out).1
  have al := A.out.lt
  have c0 := jb_thr A.out
  have f0 := A.out.live 27
  have A2 := Mr.hid ((A.out.set 27 (by omega) (.int .i64 th)).congr (jf_thr th))
  have F2 : Hid (Fr wa (wa.setCell ⟨bj, 27, none⟩ (.int .i64 th)) (fun k => k = bj)) := (Fr.refl wa (fun k => k = bj)).setCell ⟨bj, 27, none⟩ _ (.inl rfl)
  go_wp2
  go_ret
  exact ⟨rfl, A2.out, F.out.trans (F2.out.mono (fun k hk => .inl hk))⟩
set_option maxHeartbeats 4000000 in
theorem jofOne_any {w : World} {bj : Nat} {K : Jc} {s : Jg} (h : Box w bj 44 (jf K s)) (e : Ev) :
    Calls Tryz.prog 150 #[.pointer (some ⟨bj, 0, none⟩), e.val] w fun r w' => r = .returned (.bool (e.th == s.thr)) ∧ Box w' bj 44 (jf K s) ∧ Fr w w' (fun k => k = bj) := by
  have A := Mr.hid (h.below ((Below.refl _ w).alloc (Nat.le_refl _) (evO e)))
  have F : Hid (Fr w (w.alloc (evO e)) (fun k => k = bj)) := (Fr.refl _ _).alloc _
  have hb : Hid ((w.alloc (evO e)).heap[w.heap.size]? = some (evO e)) := heap_alloc_new _ _
  have nb := ne_new h
  have nb' := Ne.symm nb
  clear h
  obtain ⟨kd, mv, th, nm⟩ := e
  simp only at *
  unfold Ev.val
  unfold evO at A F hb
  go_enter Tryz.func150, Tryz.ntmps150
  go_upto_region 1 with (fail)
  generalize (w.alloc _) = wa at *
  generalize w.heap.size = B at *
  obtain ⟨b0, b1, b2, b3⟩ := evO_cells (e := ⟨kd, mv, th, nm⟩) hb.out
  have bl := (Array.getElem?_eq_some_iff.1 hb.out).1
  have al := A.out.lt
  have c0 := jb_thr A.out
  go_quiet (fail)
  go_wp2
  go_ret
  exact ⟨rfl, A.out.drewN _, Fr.drewN F.out _⟩
set_option maxHeartbeats 4000000 in
theorem jinOrder_any {w : World} {bj : Nat} {K : Jc} {s : Jg} (h : Box w bj 44 (jf K s)) (e : Ev) (k : Nat) (hk : e.kd = (k : Int)) (hk6 : k < 6) (hb0 : 0 ≤ s.told k) (hb1 : s.told k < 4611686018427387904) :
    Calls Tryz.prog 151 #[.pointer (some ⟨bj, 0, none⟩), e.val] w fun r w' => r = .returned (.bool (e.nb == s.told k)) ∧ Box w' bj 44 (jf K { s with told := updI s.told k (s.told k + 1) }) ∧ Fr w w' (fun k => k = bj) := by
  have A := Mr.hid (h.below ((Below.refl _ w).alloc (Nat.le_refl _) (evO e)))
  have F : Hid (Fr w (w.alloc (evO e)) (fun k => k = bj)) := (Fr.refl _ _).alloc _
  have hb : Hid ((w.alloc (evO e)).heap[w.heap.size]? = some (evO e)) := heap_alloc_new _ _
  have nb := ne_new h
  have nb' := Ne.symm nb
  clear h
  obtain ⟨kd, mv, th, nm⟩ := e
  simp only at *
  unfold Ev.val
  unfold evO at A F hb
  subst hk
  have k6I : (k : Int) < 6 := by omega
  go_enter Tryz.func151, Tryz.ntmps151
  go_upto_region 1 with (fail)
  generalize (w.alloc _) = wa at *
  generalize w.heap.size = B at *
  obtain ⟨b0, b1, b2, b3⟩ := evO_cells (e := ⟨(k : Int), mv, th, nm⟩) hb.out
  have bl := (Array.getElem?_eq_some_iff.1 hb.out).1
  have al := A.out.lt
  have c0 := jb_told A.out k hk6
  have f0 := A.out.live (21 + k)
  have A2 := Mr.hid ((A.out.set (21 + k) (by omega) (.int .i64 (s.told k + 1))).congr (jf_told k hk6 (s.told k + 1)))
  have F2 : Hid (Fr wa (wa.setCell ⟨bj, 21 + k, none⟩ (.int .i64 (s.told k + 1))) (fun k => k = bj)) := (Fr.refl wa (fun k => k = bj)).setCell ⟨bj, 21 + k, none⟩ _ (.inl rfl)
  have hbw : Hid ((wa.setCell ⟨bj, 21 + k, none⟩ (.int .i64 (s.told k + 1))).heap[B]? = some (evO ⟨(k : Int), mv, th, nm⟩)) := (Below.heap_setCell _ ⟨bj, 21 + k, none⟩ _ B nb).trans hb.out
  go_region
  clear b0 b1 b2 b3 bl al c0 f0
  have A3 := Mr.hid A2.out.drew
  have F3 := Mr.hid F2.out.drew
  have hb3 : Hid (((wa.setCell ⟨bj, 21 + k, none⟩ (.int .i64 (s.told k + 1))).drew).heap[B]? = some (evO ⟨(k : Int), mv, th, nm⟩)) := hbw.out
  clear A2 F2 hbw
  generalize ((wa.setCell _ _).drew) = wb at *
  obtain ⟨b0, b1, b2, b3⟩ := evO_cells hb3.out
  simp only at b0 b1 b2 b3
  have bl := (Array.getElem?_eq_some_iff.1 hb3.out).1
  have al := A3.out.lt
  have c1 : wb.cell? ⟨bj, 21 + k, none⟩ = some (.int .i64 (s.told k + 1)) := by rw [jb_told A3.out k hk6]; simp [updI]
  go_upto_region 2 with (fail)
  go_quiet (fail)
  go_wp2
  go_ret
  exact ⟨by simp, A3.out.drewN _, Fr.drewN (F.out.trans (F3.out.mono (fun k hk => .inl hk))) _⟩
set_option maxHeartbeats 4000000 in
theorem jbegin_any {w : World} {bj : Nat} {K : Jc} {s : Jg} (h : Box w bj 44 (jf K s)) (e : Ev) (t : Nat) (ht : e.th = (t : Int)) (ht16 : t < 16) :
    Calls Tryz.prog 152 #[.pointer (some ⟨bj, 0, none⟩), e.val] w fun r w' => r = .returned (.bool (!s.busy t)) ∧ Box w' bj 44 (jf K { s with busy := updB s.busy t true }) ∧ Fr w w' (fun k => k = bj) := by
  have A := Mr.hid (h.below ((Below.refl _ w).alloc (Nat.le_refl _) (evO e)))
  have F : Hid (Fr w (w.alloc (evO e)) (fun k => k = bj)) := (Fr.refl _ _).alloc _
  have hb : Hid ((w.alloc (evO e)).heap[w.heap.size]? = some (evO e)) := heap_alloc_new _ _
  have nb := ne_new h
  have nb' := Ne.symm nb
  clear h
  obtain ⟨kd, mv, th, nm⟩ := e
  simp only at *
  unfold Ev.val
  unfold evO at A F hb
  subst ht
  have tI : (t : Int) < 16 := by omega
  go_enter Tryz.func152, Tryz.ntmps152
  go_upto_region 1 with (fail)
  generalize (w.alloc _) = wa at *
  generalize w.heap.size = B at *
  obtain ⟨b0, b1, b2, b3⟩ := evO_cells (e := ⟨kd, mv, (t : Int), nm⟩) hb.out
  have bl := (Array.getElem?_eq_some_iff.1 hb.out).1
  have al := A.out.lt
  have c0 := jb_busy A.out t ht16
  go_quiet (fail)
  have A1 := Mr.hid (A.out.drewN nq)
  have F1 := Mr.hid (Fr.drewN F.out nq)
  have hb1 : Hid ((wa.drewN nq).heap[B]? = some (evO ⟨kd, mv, (t : Int), nm⟩)) := hb.out
  clear A F hb b0 b1 b2 b3 bl al c0
  generalize (World.drewN _ nq) = wb at *
  obtain ⟨b0, b1, b2, b3⟩ := evO_cells hb1.out
  simp only at b0 b1 b2 b3
  have bl := (Array.getElem?_eq_some_iff.1 hb1.out).1
  have al := A1.out.lt
  have c0 := jb_busy A1.out t ht16
  have f0 := A1.out.live (28 + t)
  have A2 := Mr.hid ((A1.out.set (28 + t) (by omega) (.bool true)).congr (jf_busy t ht16 true))
  have F2 : Hid (Fr wb ((wb.setCell ⟨bj, 28 + t, none⟩ (.bool true)).drew) (fun k => k = bj)) := ((Fr.refl wb (fun k => k = bj)).setCell ⟨bj, 28 + t, none⟩ _ (.inl rfl)).drew
  go_upto_region 2 with (fail)
  go_region
  go_wp2
  go_ret
  exact ⟨rfl, A2.out.drew, F1.out.trans (F2.out.mono (fun k hk => .inl hk))⟩
set_option maxHeartbeats 4000000 in
theorem jend_any {w : World} {bj : Nat} {K : Jc} {s : Jg} (h : Box w bj 44 (jf K s)) (e : Ev) (t : Nat) (ht : e.th = (t : Int)) (ht16 : t < 16) :
    Calls Tryz.prog 156 #[.pointer (some ⟨bj, 0, none⟩), e.val] w fun r w' => r = .returned (.bool true) ∧ Box w' bj 44 (jf K { s with busy := updB s.busy t false }) ∧ Fr w w' (fun k => k = bj) := by
  have A := Mr.hid (h.below ((Below.refl _ w).alloc (Nat.le_refl _) (evO e)))
  have F : Hid (Fr w (w.alloc (evO e)) (fun k => k = bj)) := (Fr.refl _ _).alloc _
  have hb : Hid ((w.alloc (evO e)).heap[w.heap.size]? = some (evO e)) := heap_alloc_new _ _
  have nb := ne_new h
  have nb' := Ne.symm nb
  clear h
  obtain ⟨kd, mv, th, nm⟩ := e
  simp only at *
  unfold Ev.val
  unfold evO at A F hb
  subst ht
  have tI : (t : Int) < 16 := by omega
  go_enter Tryz.func156, Tryz.ntmps156
  go_upto_region 1 with (fail)
  generalize (w.alloc _) = wa at *
  generalize w.heap.size = B at *
  obtain ⟨b0, b1, b2, b3⟩ := evO_cells (e := ⟨kd, mv, (t : Int), nm⟩) hb.out
  have bl := (Array.getElem?_eq_some_iff.1 hb.out).1
  have al := A.out.lt
  have c0 := jb_busy A.out t ht16
  have f0 := A.out.live (28 + t)
  have A2 := Mr.hid ((A.out.set (28 + t) (by omega) (.bool false)).congr (jf_busy t ht16 false))
  have F2 : Hid (Fr wa ((wa.setCell ⟨bj, 28 + t, none⟩ (.bool false)).drew) (fun k => k = bj)) := ((Fr.refl wa (fun k => k = bj)).setCell ⟨bj, 28 + t, none⟩ _ (.inl rfl)).drew
  go_region
  go_wp2
  go_ret
  exact ⟨rfl, A2.out.drew, F.out.trans (F2.out.mono (fun k hk => .inl hk))⟩
set_option maxHeartbeats 4000000 in
theorem jcount_any {w : World} {bj n : Nat} {f : Nat → Value} {x : Int} (h : Box w bj n f) (hn : 6 ≤ n) (e : Ev) (k : Nat) (hk : e.kd = (k : Int)) (hk6 : k < 6) (hf : f k = .int .i64 x) (hx : 0 ≤ x) (hx1 : x < 4611686018427387904) :
    Calls Tryz.prog 62 #[.pointer (some ⟨bj, 0, none⟩), e.val] w fun r w' => r = .returned (.bool true) ∧ Box w' bj n (setF f k (.int .i64 (x + 1))) ∧ Fr w w' (fun k => k = bj) := by
  have A := Mr.hid (h.below ((Below.refl _ w).alloc (Nat.le_refl _) (evO e)))
  have F : Hid (Fr w (w.alloc (evO e)) (fun k => k = bj)) := (Fr.refl _ _).alloc _
  have hb : Hid ((w.alloc (evO e)).heap[w.heap.size]? = some (evO e)) := heap_alloc_new _ _
  have nb := ne_new h
  have nb' := Ne.symm nb
  clear h
  obtain ⟨kd, mv, th, nm⟩ := e
  simp only at *
  unfold Ev.val
  unfold evO at A F hb
  subst hk
  have k6I : (k : Int) < 6 := by omega
  replace hf := Mr.hid hf
  go_enter Tryz.func62, Tryz.ntmps62
  go_upto_region 1 with (fail)
  generalize (w.alloc _) = wa at *
  generalize w.heap.size = B at *
  obtain ⟨b0, b1, b2, b3⟩ := evO_cells (e := ⟨(k : Int), mv, th, nm⟩) hb.out
  have bl := (Array.getElem?_eq_some_iff.1 hb.out).1
  have al := A.out.lt
  have c0 := A.out.cell k (by omega)
  rw [hf.out] at c0
  have f0 := A.out.live k
  have A2 := Mr.hid (A.out.set k (by omega) (.int .i64 (x + 1)))
  have F2 : Hid (Fr wa ((wa.setCell ⟨bj, k, none⟩ (.int .i64 (x + 1))).drew) (fun k => k = bj)) := ((Fr.refl wa (fun k => k = bj)).setCell ⟨bj, k, none⟩ _ (.inl rfl)).drew
  go_region
  go_wp2
  go_ret
  exact ⟨rfl, A2.out.drew, F.out.trans (F2.out.mono (fun k hk => .inl hk))⟩
end Go.Proofs.YtpknggcgojkjgaaGreat.Cn
/-
  CENSUS: the judge's start, close and inCall.
-/
namespace Go.Proofs.YtpknggcgojkjgaaGreat.Cn
open Go.RowKit Mr Md
set_option linter.unusedVariables false
set_option linter.unusedSimpArgs false
set_option maxRecDepth 100000
theorem cwithin_any (x y : Int) (w : World) : Calls Tryz.prog 118 #[.int .i64 x, .int .i64 y] w fun e w' => e = .returned (.bool (decide (0 ≤ x) && decide (x < y))) ∧ w' = w := by
  by_cases h0 : 0 ≤ x
  · by_cases h1 : x < y
    · have e : (decide (0 ≤ x) && decide (x < y)) = true := by simp [h0, h1]
      rw [e]
      go_enter Tryz.func118, Tryz.ntmps118
      go_wp2
      go_ret
      exact ⟨rfl, rfl⟩
    · have e : (decide (0 ≤ x) && decide (x < y)) = false := by simp [h1]
      rw [e]
      go_enter Tryz.func118, Tryz.ntmps118
      go_wp2
      go_ret
      exact ⟨rfl, rfl⟩
  · have e : (decide (0 ≤ x) && decide (x < y)) = false := by simp [h0]
    rw [e]
    go_enter Tryz.func118, Tryz.ntmps118
    go_wp2
    go_ret
    exact ⟨rfl, rfl⟩
theorem wt_int : (Tryz.prog.info? 3).map (fun i => (i.zero, i.size, i.bytes)) = some (some (.int .i64 0), 1, 8) := by kernel_rfl
def zero6 (f : Nat → Value) (k : Nat) : Value := if k < 6 then .int .i64 0 else f k
theorem clear6 {w : World} {b n : Nat} {f : Nat → Value} (h : Box w b n f) (hn : 6 ≤ n) (ty : TypeId) : ∃ w', (Builtin.clear_ #[40] ty #[.slice (some ⟨b, 0, none⟩) 6 6]).run Tryz.prog w = .ok (.tuple #[]) w' ∧ Box w' b n (zero6 f) ∧ Fr w w' (fun k => k = b) := by
  obtain ⟨cs, t, hh, hc⟩ := h
  have hinf := wt_int
  cases hi : Tryz.prog.info? 3 with
  | none => simp [hi] at hinf
  | some i =>
    simp [hi] at hinf
    have h5 := (Array.getElem?_eq_some_iff.1 (hc 5 (by omega))).1
    have hr := run_clear_at (P := Tryz.prog) w 40 3 t ty (.int .i64 0) Tryz.underlying40 (fun w => by simp [zeroValue, typeInfo, hi, hinf.1]) b 0 6 6 (by omega) cs [.int .i64 0, .int .i64 0, .int .i64 0, .int .i64 0, .int .i64 0, .int .i64 0] (by kernel_rfl) hh (by simp; omega) (by simp [Value.oneCell'])
    refine ⟨_, hr, ⟨_, t, setRow_heap w b cs _ t _ hh, fun k hk => ?_⟩, setRow_fr (S := fun k => k = b) rfl _⟩
    unfold zero6
    have hs := (Array.getElem?_eq_some_iff.1 (hc k hk)).1
    by_cases e : k < 6
    · rw [if_pos e]
      have : k = 0 ∨ k = 1 ∨ k = 2 ∨ k = 3 ∨ k = 4 ∨ k = 5 := by omega
      rcases this with rfl | rfl | rfl | rfl | rfl | rfl <;> simp
    · rw [if_neg e, ← hc k hk]
      simp only [List.take_zero, List.nil_append, Nat.zero_add, List.length_cons, List.length_nil, List.getElem?_toArray]
      rw [List.getElem?_append_right (by simp; omega)]
      simp only [List.length_cons, List.length_nil, List.getElem?_drop]
      rw [show 6 + (k - 6) = k from by omega]
      simp
set_option maxHeartbeats 4000000 in
theorem jstart_any {w : World} {bj n : Nat} {f : Nat → Value} (h : Box w bj n f) (hn : 6 ≤ n) (e : Ev) :
    Calls Tryz.prog 60 #[.pointer (some ⟨bj, 0, none⟩), e.val] w fun r w' => r = .returned (.bool true) ∧ Box w' bj n (zero6 f) ∧ Fr w w' (fun k => k = bj) := by
  have A := Mr.hid (h.below ((Below.refl _ w).alloc (Nat.le_refl _) (evO e)))
  have F : Hid (Fr w (w.alloc (evO e)) (fun k => k = bj)) := (Fr.refl _ _).alloc _
  have hb : Hid ((w.alloc (evO e)).heap[w.heap.size]? = some (evO e)) := heap_alloc_new _ _
  have nb := ne_new h
  have nb' := Ne.symm nb
  clear h
  obtain ⟨kd, mv, th, nm⟩ := e
  try simp only at *
  unfold Ev.val
  unfold evO at A F hb
  go_enter Tryz.func60, Tryz.ntmps60
  go_upto_region 1 with (fail)
  generalize (w.alloc _) = wa at *
  generalize w.heap.size = B at *
  obtain ⟨b0, b1, b2, b3⟩ := evO_cells (e := ⟨kd, mv, th, nm⟩) hb.out
  have bl := (Array.getElem?_eq_some_iff.1 hb.out).1
  have al := A.out.lt
  have hcl := fun ty => clear6 A.out hn ty
  obtain ⟨w2, hr2, A2, F2⟩ := hcl 40
  have hall : ∀ ty, (Builtin.clear_ #[40] ty #[.slice (some ⟨bj, 0, none⟩) 6 6]).run Tryz.prog wa = .ok (.tuple #[]) w2 := fun ty => hr2
  replace A2 := Mr.hid A2
  replace F2 := Mr.hid F2
  clear hcl hr2
  go_wp2
  go_ret
  exact ⟨rfl, A2.out, F.out.trans (F2.out.mono (fun k hk => .inl hk))⟩
theorem ix6_0 (x0 x1 x2 x3 x4 x5 : Int) (w : World) : (Instr.index 93 (.agg #[.int .i64 x0, .int .i64 x1, .int .i64 x2, .int .i64 x3, .int .i64 x4, .int .i64 x5]) (.int .i64 0)).run Tryz.prog w = .ok (.int .i64 x0) w := by kernel_rfl
theorem ix6_1 (x0 x1 x2 x3 x4 x5 : Int) (w : World) : (Instr.index 93 (.agg #[.int .i64 x0, .int .i64 x1, .int .i64 x2, .int .i64 x3, .int .i64 x4, .int .i64 x5]) (.int .i64 1)).run Tryz.prog w = .ok (.int .i64 x1) w := by kernel_rfl
theorem ix6_2 (x0 x1 x2 x3 x4 x5 : Int) (w : World) : (Instr.index 93 (.agg #[.int .i64 x0, .int .i64 x1, .int .i64 x2, .int .i64 x3, .int .i64 x4, .int .i64 x5]) (.int .i64 2)).run Tryz.prog w = .ok (.int .i64 x2) w := by kernel_rfl
theorem ix6_3 (x0 x1 x2 x3 x4 x5 : Int) (w : World) : (Instr.index 93 (.agg #[.int .i64 x0, .int .i64 x1, .int .i64 x2, .int .i64 x3, .int .i64 x4, .int .i64 x5]) (.int .i64 3)).run Tryz.prog w = .ok (.int .i64 x3) w := by kernel_rfl
theorem ix6_4 (x0 x1 x2 x3 x4 x5 : Int) (w : World) : (Instr.index 93 (.agg #[.int .i64 x0, .int .i64 x1, .int .i64 x2, .int .i64 x3, .int .i64 x4, .int .i64 x5]) (.int .i64 4)).run Tryz.prog w = .ok (.int .i64 x4) w := by kernel_rfl
theorem ix6_5 (x0 x1 x2 x3 x4 x5 : Int) (w : World) : (Instr.index 93 (.agg #[.int .i64 x0, .int .i64 x1, .int .i64 x2, .int .i64 x3, .int .i64 x4, .int .i64 x5]) (.int .i64 5)).run Tryz.prog w = .ok (.int .i64 x5) w := by kernel_rfl
def sum6 (c : Nat → Int) : Int := c 0 + c 1 + c 2 + c 3 + c 4 + c 5
def closeB (c : Nat → Int) : Bool := decide (c 2 ≤ 1) && (c 1 == 0 || sum6 c == 1)
set_option maxHeartbeats 8000000 in
theorem jclose_any {w : World} {bj : Nat} {K : Jc} {s : Jg} (h : Box w bj 44 (jf K s)) (hb : ∀ k, k < 6 → 0 ≤ s.cnt k ∧ s.cnt k ≤ 1152921504606846976) (e : Ev) :
    Calls Tryz.prog 157 #[.pointer (some ⟨bj, 0, none⟩), e.val] w fun r w' => r = .returned (.bool (closeB s.cnt)) ∧ Box w' bj 44 (jf K s) ∧ Fr w w' (fun k => k = bj) := by
  have z0 := hb 0 (by omega)
  have z1 := hb 1 (by omega)
  have z2 := hb 2 (by omega)
  have z3 := hb 3 (by omega)
  have z4 := hb 4 (by omega)
  have z5 := hb 5 (by omega)
  replace hb := True.intro
  have A := Mr.hid (h.below ((Below.refl _ w).alloc (Nat.le_refl _) (evO e)))
  have F : Hid (Fr w (w.alloc (evO e)) (fun k => k = bj)) := (Fr.refl _ _).alloc _
  have hbx : Hid ((w.alloc (evO e)).heap[w.heap.size]? = some (evO e)) := heap_alloc_new _ _
  have nb := ne_new h
  have nb' := Ne.symm nb
  clear h
  obtain ⟨kd, mv, th, nm⟩ := e
  try simp only at *
  unfold Ev.val
  unfold evO at A F hbx
  go_enter Tryz.func157, Tryz.ntmps157
  go_upto_region 2 with (fail)
  generalize (w.alloc _) = wa at *
  generalize w.heap.size = B at *
  obtain ⟨b0, b1, b2, b3⟩ := evO_cells (e := ⟨kd, mv, th, nm⟩) hbx.out
  have bl := (Array.getElem?_eq_some_iff.1 hbx.out).1
  have al := A.out.lt
  have c0 := jb_cnt A.out 0 (by omega)
  have c1 := jb_cnt A.out 1 (by omega)
  have c2 := jb_cnt A.out 2 (by omega)
  have c3 := jb_cnt A.out 3 (by omega)
  have c4 := jb_cnt A.out 4 (by omega)
  have c5 := jb_cnt A.out 5 (by omega)
  obtain ⟨r, hr0⟩ : ∃ r, r = closeB s.cnt := ⟨_, rfl⟩
  have hr : r = (decide (s.cnt 2 ≤ 1) && (s.cnt 1 == 0 || s.cnt 0 + s.cnt 1 + s.cnt 2 + s.cnt 3 + s.cnt 4 + s.cnt 5 == 1)) := by rw [hr0, closeB, sum6]
  replace hr0 := Mr.hid hr0
  generalize s.cnt 0 = x0 at *
  generalize s.cnt 1 = x1 at *
  generalize s.cnt 2 = x2 at *
  generalize s.cnt 3 = x3 at *
  generalize s.cnt 4 = x4 at *
  generalize s.cnt 5 = x5 at *
  go_upto_region 3 with (fail)
  obtain ⟨q1, h1⟩ : ∃ q, decide (x2 ≤ 1) = q := ⟨_, rfl⟩
  obtain ⟨q2, h2⟩ : ∃ q, (x1 == 0) = q := ⟨_, rfl⟩
  obtain ⟨q3, h3⟩ : ∃ q, (x0 + x1 + x2 + x3 + x4 + x5 == 1) = q := ⟨_, rfl⟩
  rw [h1, h2, h3] at hr
  replace hr := Mr.hid hr
  have n6 : IntKind.i64.wrap (x0 + x1) = x0 + x1 := by simp [IntKind.wrap, IntKind.signed, IntKind.bits]; omega
  have i0 := ix6_0 x0 x1 x2 x3 x4 x5
  have i1 := ix6_1 x0 x1 x2 x3 x4 x5
  have i2 := ix6_2 x0 x1 x2 x3 x4 x5
  have i3 := ix6_3 x0 x1 x2 x3 x4 x5
  have i4 := ix6_4 x0 x1 x2 x3 x4 x5
  have i5 := ix6_5 x0 x1 x2 x3 x4 x5
  refine wp_loop_rounds 7 ?_
  iterate 6 (rw [rounds_succ]; go_wp2)
  rw [rounds_succ]
  cases q1 with
  | false =>
    go_wp2
    go_ret
    exact ⟨by rw [← hr0.out, hr.out]; rfl, A.out, F.out⟩
  | true =>
    cases q2 with
    | true =>
      go_wp2
      go_ret
      exact ⟨by rw [← hr0.out, hr.out]; rfl, A.out, F.out⟩
    | false =>
      cases q3 with
      | true =>
        go_wp2
        go_ret
        exact ⟨by rw [← hr0.out, hr.out]; rfl, A.out, F.out⟩
      | false =>
        go_wp2
        go_ret
        exact ⟨by rw [← hr0.out, hr.out]; rfl, A.out, F.out⟩
section
variable {w : World} {bj : Nat} {K : Jc} {s : Jg}
theorem jb_c (h : Box w bj 44 (jf K s)) (i : Nat) (hi : i < 7) : w.cell? ⟨bj, 6 + i, none⟩ = some (.int .i64 (K.c i)) := by
  rw [h.cell (6 + i) (by omega)]; unfold jf
  rw [if_neg (by omega), if_pos (by omega), show 6 + i - 6 = i from by omega]
theorem jb_14 (h : Box w bj 44 (jf K s)) : w.cell? ⟨bj, 14, none⟩ = some K.v0 := h.cell 14 (by omega)
theorem jb_15 (h : Box w bj 44 (jf K s)) : w.cell? ⟨bj, 15, none⟩ = some K.v1 := h.cell 15 (by omega)
theorem jb_16 (h : Box w bj 44 (jf K s)) : w.cell? ⟨bj, 16, none⟩ = some K.v2 := h.cell 16 (by omega)
theorem jb_17 (h : Box w bj 44 (jf K s)) : w.cell? ⟨bj, 17, none⟩ = some K.v3 := h.cell 17 (by omega)
theorem jb_18 (h : Box w bj 44 (jf K s)) : w.cell? ⟨bj, 18, none⟩ = some K.ev := h.cell 18 (by omega)
theorem jb_19 (h : Box w bj 44 (jf K s)) : w.cell? ⟨bj, 19, none⟩ = some K.wv := h.cell 19 (by omega)
theorem jb_20 (h : Box w bj 44 (jf K s)) : w.cell? ⟨bj, 20, none⟩ = some (.pointer (some ⟨K.bs, 0, none⟩)) := h.cell 20 (by omega)
end
def inCallB (K : Jc) (s : Jg) (th : Int) : Bool := decide (0 ≤ th) && decide (th < K.c 0) && s.busy th.toNat
set_option maxHeartbeats 4000000 in
theorem jinCall_any {w : World} {bj : Nat} {K : Jc} {s : Jg} (h : Box w bj 44 (jf K s)) (hT : K.c 0 ≤ 16) (e : Ev) :
    Calls Tryz.prog 153 #[.pointer (some ⟨bj, 0, none⟩), e.val] w fun r w' => r = .returned (.bool (inCallB K s e.th)) ∧ Box w' bj 44 (jf K s) ∧ Fr w w' (fun k => k = bj) := by
  have C := cwithin_any e.th (K.c 0)
  by_cases hin : 0 ≤ e.th ∧ e.th < K.c 0
  · obtain ⟨t, ht⟩ : ∃ t : Nat, e.th = (t : Int) := ⟨e.th.toNat, by omega⟩
    have ht16 : t < 16 := by omega
    have tI : (t : Int) < 16 := by omega
    have hres : inCallB K s e.th = s.busy t := by unfold inCallB; rw [decide_eq_true hin.1, decide_eq_true hin.2, ht]; rfl
    have hq : (decide (0 ≤ e.th) && decide (e.th < K.c 0)) = true := by simp [hin.1, hin.2]
    rw [hq] at C
    replace C := Mr.hid C
    rw [hres]
    clear hres hin hq
    have A := Mr.hid (h.below ((Below.refl _ w).alloc (Nat.le_refl _) (evO e)))
    have F : Hid (Fr w (w.alloc (evO e)) (fun k => k = bj)) := (Fr.refl _ _).alloc _
    have hb : Hid ((w.alloc (evO e)).heap[w.heap.size]? = some (evO e)) := heap_alloc_new _ _
    have nb := ne_new h
    have nb' := Ne.symm nb
    clear h
    obtain ⟨kd, mv, th, nm⟩ := e
    try simp only at *
    unfold Ev.val
    unfold evO at A F hb
    subst ht
    go_enter Tryz.func153, Tryz.ntmps153
    go_upto_region 1 with (fail)
    generalize (w.alloc _) = wa at *
    generalize w.heap.size = B at *
    obtain ⟨b0, b1, b2, b3⟩ := evO_cells (e := ⟨kd, mv, (t : Int), nm⟩) hb.out
    have bl := (Array.getElem?_eq_some_iff.1 hb.out).1
    have al := A.out.lt
    have c0 := jb_busy A.out t ht16
    have c1 := jb_c A.out 0 (by omega)
    go_quiet ((go_at_call 118; exact Calls.quiet_of_same (C.out _)))
    go_wp2
    go_ret
    exact ⟨rfl, A.out.drewN _, Fr.drewN F.out _⟩
  · have hres : inCallB K s e.th = false := by
      unfold inCallB
      by_cases h0 : 0 ≤ e.th
      · have : ¬ e.th < K.c 0 := fun h => hin ⟨h0, h⟩
        simp [this]
      · simp [h0]
    have hq : (decide (0 ≤ e.th) && decide (e.th < K.c 0)) = false := by
      by_cases h0 : 0 ≤ e.th
      · have : ¬ e.th < K.c 0 := fun h => hin ⟨h0, h⟩
        simp [this]
      · simp [h0]
    rw [hq] at C
    replace C := Mr.hid C
    rw [hres]
    clear hres hin hq
    have A := Mr.hid (h.below ((Below.refl _ w).alloc (Nat.le_refl _) (evO e)))
    have F : Hid (Fr w (w.alloc (evO e)) (fun k => k = bj)) := (Fr.refl _ _).alloc _
    have hb : Hid ((w.alloc (evO e)).heap[w.heap.size]? = some (evO e)) := heap_alloc_new _ _
    have nb := ne_new h
    have nb' := Ne.symm nb
    clear h
    obtain ⟨kd, mv, th, nm⟩ := e
    try simp only at *
    unfold Ev.val
    unfold evO at A F hb
    go_enter Tryz.func153, Tryz.ntmps153
    go_upto_region 1 with (fail)
    generalize (w.alloc _) = wa at *
    generalize w.heap.size = B at *
    obtain ⟨b0, b1, b2, b3⟩ := evO_cells (e := ⟨kd, mv, th, nm⟩) hb.out
    have bl := (Array.getElem?_eq_some_iff.1 hb.out).1
    have al := A.out.lt
    have c1 := jb_c A.out 0 (by omega)
    go_quiet ((go_at_call 118; exact Calls.quiet_of_same (C.out _)))
    go_wp2
    go_ret
    exact ⟨rfl, A.out.drewN _, Fr.drewN F.out _⟩
end Go.Proofs.YtpknggcgojkjgaaGreat.Cn
