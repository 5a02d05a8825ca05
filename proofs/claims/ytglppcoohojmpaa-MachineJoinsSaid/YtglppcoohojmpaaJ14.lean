import Derived.Test.YtglppcoohojmpaaJ13
/-
  book.trace by its contract.
-/
namespace Go.Proofs.Ytglppcoohojmpaa.Ma
open Go.RowKit Go.Shelf Mr Me
attribute [local go_sem] Oper.semAt_some
/-- What the loop's list holds. -/
def TrI (w : World) (pre : List (Nat × Acc)) (W : World) : Prop :=
  (∃ v, Boxed W (w.heap.size + 1) 50 v ∧ Has W (fun k => w.heap.size ≤ k) 128 7 v pre.length (lgc (pre.map (·.2)))) ∧ Below w.heap.size w W
theorem TrI.own (w : World) (n : Nat) (hB : w.heap.size ≤ n) : OwnFrom n (TrI w) := by
  refine OwnFrom.and (Own.from ?_ _) (ownFrom_below (Nat.le_refl _) hB)
  rintro s X Y row h1 hg hr
  exact has_own _ _ _ _ _ (fun s : List (Nat × Acc) => s.length) (fun s => lgc (s.map (·.2))) s X Y row h1 hg hr
set_option maxRecDepth 100000 in
set_option maxHeartbeats 1000000 in
theorem trace_any {W : World} {S : Nat → Prop} {bb b : Nat} {vw vl va : Value} {ws : List Int} {mv : Int} {lg : List Acc} {ah : List Int} (h : Mem W S b vw vl va ws mv lg ah) (hlg : lg.length ≤ 100000) (hb0 : W.cell? ⟨bb, 0, none⟩ = some (.pointer (some ⟨b, 0, none⟩))) :
    Calls Try.prog 56 #[.pointer (some ⟨bb, 0, none⟩)] W fun e w' => ∃ v, e = .returned v ∧ Has w' (fun k => W.heap.size ≤ k) 128 7 v lg.length (lgc lg) ∧ Below W.heap.size W w' := by
  obtain ⟨j0, hj, hy0, hy1, hy2⟩ := info_parts info_acc
  have C := callsIn_wide (n := 4) |>.2 (count_any h)
  have hbl : bb < W.heap.size := World.block_lt_of_cell? W ⟨bb, 0, none⟩ hb0
  have hmk : ∀ u : World, (Instr.makeSlice 50 (.int .i64 0) (.int .i64 (lg.length : Int))).run Try.prog u = .ok (.slice (some ⟨u.heap.size, 0, none⟩) 0 lg.length) (u.alloc (.cells (madeCells #[.int .i64 0, .int .i64 0, .int .i64 0, .int .i64 0, .int .u64 0, .int .u64 0, .int .u64 0] (lg.length * 7)) 128)) := fun u => by
    have h := run_make (P := Try.prog) u 50 128 j0 (.agg #[.int .i64 0, .int .i64 0, .int .i64 0, .int .i64 0, .int .u64 0, .int .u64 0, .int .u64 0]) Try.underlying50 hj hy0 .i64 .i64 (0 : Int) (lg.length : Int) (by omega) (by omega) (by rw [hy2]; omega) (by omega)
    have e : ((lg.length : Int)).toNat = lg.length := by omega
    rw [e, hy1] at h
    simpa [Value.cells] using h
  have c0 : ∀ o p, ((W.alloc o).alloc p).cell? ⟨bb, 0, none⟩ = some (.pointer (some ⟨b, 0, none⟩)) := fun o p => by rw [World.cell?_alloc_past _ _ _ (by simp; omega), World.cell?_alloc_past _ _ _ hbl]; exact hb0
  refine (callsIn_wide (n := 5)).1 ?_
  refine callsIn_of_wp_marks Try.func56 rfl trivial ?_ rfl
  simp only [Try.ntmps56, List.size_toArray, List.length_cons, List.length_nil, Nat.reduceAdd, Nat.reduceSub, Array.replicate_succ, Array.replicate_zero, List.push_toArray, List.append_toArray, List.nil_append, List.cons_append]
  gi_wp2_with (first | (refine ⟨trivial, ?_⟩; gi_at_call 65; refine C.mono ?_; clear C; rintro e w' ⟨rfl, hw⟩; obtain rfl := hw.symm) | (refine ⟨trivial, ?_⟩; gi_at_call 66; refine (callsIn_wide.2 (log_any _ _ _)).mono ?_; rintro e w' ⟨rfl, rfl⟩))
  obtain ⟨W4, hW4⟩ : ∃ W4, ((((W.alloc (.cells (madeCells #[.int .i64 0, .int .i64 0, .int .i64 0, .int .i64 0, .int .u64 0, .int .u64 0, .int .u64 0] (lg.length * 7)) 128)).alloc (.cells #[.slice (some ⟨W.heap.size, 0, none⟩) 0 lg.length] 50)).alloc (.cells #[.pointer (some ⟨b, 0, none⟩)] 85)).alloc (.cells #[.int .i64 0] 3)) = W4 := ⟨_, rfl⟩
  rw [hW4]
  have hB4 : Below W.heap.size W W4 := by
    rw [← hW4]
    exact ((((Below.refl _ W).alloc (Nat.le_refl _) _).alloc (by simp) _).alloc (by simp; omega) _).alloc (by simp; omega) _
  have hs4 : W4.heap.size = W.heap.size + 1 + 1 + 1 + 1 := by rw [← hW4]; simp
  have hr4 : W4.heap[W.heap.size]? = some (.cells (madeCells #[.int .i64 0, .int .i64 0, .int .i64 0, .int .i64 0, .int .u64 0, .int .u64 0, .int .u64 0] (lg.length * 7)) 128 (0, 0)) := by
    rw [← hW4]
    exact (Below.heap_alloc _ _ _ (by simp; omega)).trans ((Below.heap_alloc _ _ _ (by simp; omega)).trans ((Below.heap_alloc _ _ _ (by simp)).trans (heap_alloc_new W _)))
  have b1 : Boxed W4 (W.heap.size + 1) 50 (.slice (some ⟨W.heap.size, 0, none⟩) 0 lg.length) := by
    rw [← hW4]
    have := Boxed.new (W.alloc (.cells (madeCells #[.int .i64 0, .int .i64 0, .int .i64 0, .int .i64 0, .int .u64 0, .int .u64 0, .int .u64 0] (lg.length * 7)) 128)) 50 (.slice (some ⟨W.heap.size, 0, none⟩) 0 lg.length)
    rw [World.size_alloc] at this
    exact (this.alloc _).alloc _
  have b2 : Boxed W4 (W.heap.size + 1 + 1) 85 (.pointer (some ⟨b, 0, none⟩)) := by
    rw [← hW4]
    have := Boxed.new ((W.alloc (.cells (madeCells #[.int .i64 0, .int .i64 0, .int .i64 0, .int .i64 0, .int .u64 0, .int .u64 0, .int .u64 0] (lg.length * 7)) 128)).alloc (.cells #[.slice (some ⟨W.heap.size, 0, none⟩) 0 lg.length] 50)) 85 (.pointer (some ⟨b, 0, none⟩))
    rw [World.size_alloc, World.size_alloc] at this
    exact this.alloc _
  have b3 : Boxed W4 (W.heap.size + 1 + 1 + 1) 3 (.int .i64 0) := by
    rw [← hW4]
    have := Boxed.new (((W.alloc (.cells (madeCells #[.int .i64 0, .int .i64 0, .int .i64 0, .int .i64 0, .int .u64 0, .int .u64 0, .int .u64 0] (lg.length * 7)) 128)).alloc (.cells #[.slice (some ⟨W.heap.size, 0, none⟩) 0 lg.length] 50)).alloc (.cells #[.pointer (some ⟨b, 0, none⟩)] 85)) 3 (.int .i64 0)
    rw [World.size_alloc, World.size_alloc, World.size_alloc] at this
    exact this
  have hst : Has W4 (fun k => W.heap.size ≤ k) 128 7 (.slice (some ⟨W.heap.size, 0, none⟩) 0 lg.length) 0 [] := ⟨by simp, .inr ⟨_, _, _, rfl, Nat.le_refl _, hr4, Nat.zero_le _, by unfold maxLen; omega, Nat.le_of_eq (size_madeCells _ _).symm, by simp⟩⟩
  clear hW4 hr4 hmk c0
  have hlt5 : ∀ g, vl.ownBlock = some g → g < W.heap.size := fun g hg => (h.hl.lt g hg).2
  have hit : It W4 (W.heap.size + 1 + 1) (W.heap.size + 1 + 1 + 1) b 0 vl lg := ⟨b2.cell, b3.cell, (hB4.cell (p := ⟨b, 2, none⟩) h.lt).trans h.c2, (h.hl.below hB4).mono (fun _ _ => trivial), by omega⟩
  have hlgI : (lg.length : Int) ≤ 100000 := by omega
  refine wpIn_rangeFunc_ownH rfl (by omega) (gf := 77) (lb := #[.pointer (some ⟨W.heap.size + 1 + 1, 0, none⟩), .pointer (some ⟨W.heap.size + 1 + 1 + 1, 0, none⟩)]) rfl trivial (enters_of Try.func77 (by kernel_rfl) rfl)
    (log_stops 4 _ _ b 0 vl lg (by omega) W4 hit) Kl.trans (Kl.put (fun g hg => by have := hlt5 g hg; omega)) (Below.refl _ _) (fun _ => rfl) (TrI W)
    (fun _ _ _ => False)
    (TrI.own W _ (by omega)) (fun c => by rintro s X Y row hc hg hr; exact hc)
    ⟨⟨_, b1, hst⟩, hB4⟩
    (fun x a' W' => ∃ Bx, W.heap.size + 1 < Bx ∧ W'.heap[Bx]? = some (.cells #[.int .i64 x.2.mv, .int .i64 x.2.th, .int .i64 x.2.kd, .int .i64 x.2.ad, .int .u64 x.2.old, .int .u64 x.2.new, .int .u64 x.2.saw] 128 (0, 0)) ∧ a' = { tmps := #[Value.pointer (some ⟨bb, 0, none⟩), undef, Value.slice none 0 0, Value.pointer (some ⟨W.heap.size + 1, 0, none⟩), undef, Value.pointer (some ⟨Bx, 0, none⟩), Value.pointer (some ⟨bb, 0, none⟩), Value.pointer (some ⟨bb, 0, none⟩), Value.pointer (some ⟨bb, 0, none⟩), Value.pointer (some ⟨b, 0, none⟩), Value.int .i64 (lg.length : Int), Value.slice (some ⟨W.heap.size, 0, none⟩) 0 lg.length, Value.pointer (some ⟨bb, 0, none⟩), Value.pointer (some ⟨bb, 0, none⟩), Value.pointer (some ⟨bb, 0, none⟩), Value.pointer (some ⟨b, 0, none⟩), Value.func (Fn.func 77) #[] #[Value.pointer (some ⟨W.heap.size + 1 + 1, 0, none⟩), Value.pointer (some ⟨W.heap.size + 1 + 1 + 1, 0, none⟩)], Value.int .i64 (x.1 : Int), Acc.val x.2, undef, undef, undef, undef, undef], defers := [] })
    (fun x a' => by
      rintro _ X Y row ⟨Bx, h1, h2, h3⟩ hg hr
      refine ⟨Bx, h1, (hg.block Bx (Array.getElem?_eq_some_iff.1 h2).1 (fun e => ?_)).trans h2, h3⟩
      obtain ⟨_, o, ho, hc⟩ := hr Bx e.symm
      rw [h2] at ho; cases ho; cases hc)
    ?assign ?body ?done ?stop
  case assign =>
    rintro l pre x Wb K hI hK
    obtain ⟨⟨v, hbx, hrow⟩, hBW⟩ := id hI
    have hsz := hBW.size
    have hltb := hbx.lt
    obtain ⟨x1, x2⟩ := x
    simp only [Acc.val]
    gi_wp2
    exact hK _ _ ((KeepsOthers.alloc _ _).from _) (Kl.below (n₀ := W.heap.size) ((Below.refl _ Wb).alloc hsz _) hlt5) ((TrI.own W _ (Nat.le_refl _)).alloc _ hI) ⟨Wb.heap.size, hltb, heap_alloc_new _ _, rfl⟩
  case body =>
    rintro l pre x a' Wb hl ⟨r, hr⟩ hI ⟨Bx, hBx, bX, rfl⟩ hlen
    obtain ⟨⟨v, hbx, hrow⟩, hBW⟩ := hI
    obtain ⟨x1, x2⟩ := x
    obtain ⟨y0, y1, y2, y3, y4, y5, y6⟩ := x2
    obtain ⟨aq, cq, rfl, _⟩ := hrow.form
    have hlt1 := hbx.lt
    have hltX : Bx < Wb.heap.size := (Array.getElem?_eq_some_iff.1 bX).1
    have cq1 := hbx.cell
    have fq1 := hbx.frozen
    simp only [Acc.val] at bX ⊢
    have hle1 : pre.length + 1 ≤ lg.length := by omega
    have hpb : (pre.length + 1 + (pre.length + 1) / 4 + 192) * 56 ≤ 281474976710656 := by omega
    have hpx : pre.length + 1 ≤ maxLen := room_max hpb
    replace hpb := Mr.hid hpb
    have r0 : Wb.cell? ⟨Bx, 0, none⟩ = some (.int .i64 y0) := by simp [World.cell?, bX]
    have r1 : Wb.cell? ⟨Bx, 1, none⟩ = some (.int .i64 y1) := by simp [World.cell?, bX]
    have r2 : Wb.cell? ⟨Bx, 2, none⟩ = some (.int .i64 y2) := by simp [World.cell?, bX]
    have r3 : Wb.cell? ⟨Bx, 3, none⟩ = some (.int .i64 y3) := by simp [World.cell?, bX]
    have r4 : Wb.cell? ⟨Bx, 4, none⟩ = some (.int .u64 y4) := by simp [World.cell?, bX]
    have r5 : Wb.cell? ⟨Bx, 5, none⟩ = some (.int .u64 y5) := by simp [World.cell?, bX]
    have r6 : Wb.cell? ⟨Bx, 6, none⟩ = some (.int .u64 y6) := by simp [World.cell?, bX]
    have law1 : ∀ o, Has (Wb.alloc o) (fun k => W.heap.size ≤ k) 128 7 (.slice aq pre.length cq) pre.length (lgc (pre.map (·.2))) := fun o => hrow.alloc o
    have hs1 : ∀ o, W.heap.size ≤ (Wb.alloc o).heap.size := fun o => by simp; omega
    have step1 : ∀ {o : Obj} {w1 : World} {g cap : Nat}, Has w1 (fun k => W.heap.size ≤ k) 128 7 (.slice (some ⟨g, 0, none⟩) (pre.length + 1) cap) (pre.length + 1) (lgc (pre.map (·.2)) ++ [.int .i64 y0, .int .i64 y1, .int .i64 y2, .int .i64 y3, .int .u64 y4, .int .u64 y5, .int .u64 y6]) → (Wb.alloc o).grownBy w1 (Value.slice aq pre.length cq).ownBlock → _ := fun {o w1 g cap} hown hgrow =>
      boxHas (n₀ := W.heap.size) hbx (by decide) hrow (fun k hk => hk) hBW.size (by omega) ((Below.refl _ _).alloc (Nat.le_refl _) o) (KeepsOthers.alloc _ _) hown hgrow
    clear hrow hbx bX
    gi_wp2_with (gi_at_builtin; refine wpListIn_append_has _ rfl (.tmp 19) (.tmp 21) 50 rfl (fun k => W.heap.size ≤ k) 128 j0 _ 7 56 Try.underlying50 hj hy0 hy1 hy2 rfl (.slice aq pre.length cq) pre.length (lgc (pre.map (·.2))) rfl (law1 _) ⟨Wb.heap.size, 0, none⟩ 1 1 [.int .i64 y0, .int .i64 y1, .int .i64 y2, .int .i64 y3, .int .u64 y4, .int .u64 y5, .int .u64 y6] rfl rfl (newsAt Wb _ #[.int .i64 y0, .int .i64 y1, .int .i64 y2, .int .i64 y3, .int .u64 y4, .int .u64 y5, .int .u64 y6] 128 _ rfl rfl) (by simp [Value.oneCell']) (by omega) hpx hpb.out (hs1 _) ?_; intro g cap w1 hown hgrow hat; obtain ⟨q1, q2, q3, q4, q5, q6⟩ := step1 hown hgrow; have q1c := q1.cell; have q1f := q1.frozen; clear step1 hown hgrow law1)
    have hl1 : (pre ++ [(x1, (⟨y0, y1, y2, y3, y4, y5, y6⟩ : Acc))]).length = pre.length + 1 := by simp
    refine ⟨q4.from _, Kl.below (n₀ := W.heap.size) q5 hlt5, ⟨⟨_, q2, ?_⟩, hBW.trans q5⟩⟩
    rw [hl1, List.map_append, List.map_cons, List.map_nil, lgc_snoc]
    exact q3
  case done =>
    rintro D ys Wd hD rfl ⟨⟨v, hbx, hrow⟩, hBW⟩ hK
    have cq1 := hbx.cell
    obtain ⟨aq, cq, rfl, _⟩ := hrow.form
    have el : (ent lg 0 (lg.length - (0 : Int).toNat)).length = lg.length := by rw [ent_length]; simp
    have ea : (ent lg 0 (lg.length - (0 : Int).toNat)).map (·.2) = lg := by
      apply List.ext_getElem
      · simp [ent]
      · intro i h1 h2
        simp [ent, h2]
    simp only [Int.toNat_zero, Nat.sub_zero] at el ea hrow cq1
    rw [ea, el] at hrow
    rw [el] at cq1
    gi_wp2
    refine ⟨by simp, .inl ⟨_, _, rfl, run_takeDeferred (w := Wd) hK, ?_⟩⟩
    refine ⟨.slice aq lg.length cq, by simp [results, Try.f56, go_sem], _, rfl, ?_, hBW.trans (belowK_b (w := W) (Nat.le_refl _) Wd D _ _ (by omega) hK rfl rfl)⟩
    refine hrow.kept (fun k hk => World.putObj_heap_other (fun e => ?_)) (fun k hk => (hrow.lt k hk).1)
    subst e
    rcases hrow.2 with ⟨hv, _⟩ | ⟨g', _, cur', hv, _, hg', _⟩
    · rw [hv] at hk; simp [Value.ownBlock] at hk
    · rw [hv] at hk
      simp [Value.ownBlock] at hk
      rw [hk, hK] at hg'
      cases hg'
  case stop =>
    rintro D c pre Wd hD _ hf _
    exact hf.elim
end Go.Proofs.Ytglppcoohojmpaa.Ma
/-
  book.run and Machine.Run by their contracts.
-/
namespace Go.Proofs.Ytglppcoohojmpaa.Ma
open Go.RowKit Go.Shelf Mr Me
/-- A run's value. -/
def runV (vc vt vs vw : Value) : Value := .agg #[vc, vt, vs, vw]
/-- The run's box, as it was made. -/
def Bx (W : World) (w : World) : Prop := Below W.heap.size W w ∧ w.heap[W.heap.size]? = some (.cells #[.slice none 0 0, .slice none 0 0, .slice none 0 0, .slice none 0 0] 53 (0, 0))
theorem Bx.below {W w w' : World} (h : Bx W w) (hB : Below w.heap.size w w') : Bx W w' :=
  ⟨h.1.trans (hB.mono h.1.size), (hB.block _ (Array.getElem?_eq_some_iff.1 h.2).1).trans h.2⟩
theorem Bx.cells {W w : World} (h : Bx W w) : (∀ j, j < 4 → w.cell? ⟨W.heap.size, j, none⟩ = some (.slice none 0 0)) ∧ ∀ j, w.frozen? ⟨W.heap.size, j, none⟩ = false := by
  refine ⟨fun j hj => ?_, fun j => by simp [World.frozen?, h.2]⟩
  have hj' : j = 0 ∨ j = 1 ∨ j = 2 ∨ j = 3 := by omega
  rcases hj' with rfl | rfl | rfl | rfl <;> simp [World.cell?, h.2]
section
variable {W : World} {U S : Nat → Prop} {b bb bm : Nat} {vk vt vc vw vl va : Value} {ths : List Th} {n : Int} {cls : List Cl} {ws : List Int} {mv : Int} {lg : List Acc} {ah : List Int}
set_option maxRecDepth 100000 in
set_option maxHeartbeats 8000000 in
theorem run_any (h : Mac W U S b bb bm vk vt vc (.slice none 0 0) vw vl va ths n cls [] ws mv lg ah) (hcl : cls.length ≤ 100000) (hlg : lg.length ≤ 100000) :
    Calls Try.prog 44 #[.pointer (some ⟨bb, 0, none⟩)] W fun e w' => ∃ v1 v2 v4, e = .returned (runV v1 v2 (.slice none 0 0) v4) ∧ Has w' (fun k => W.heap.size ≤ k) 78 9 v1 cls.length (clc cls) ∧ Has w' (fun k => W.heap.size ≤ k) 128 7 v2 lg.length (lgc lg) ∧ Has w' (fun k => W.heap.size ≤ k) 59 1 v4 ws.length (wrd ws) ∧ Below W.heap.size W w' := by
  have C1 := fun (w1 : World) (hx : Bx W w1) => (cloneCl_any (h.below hx.1).cal hcl).mono (R' := fun e w' => ∃ v, e = .returned v ∧ Has w' (fun k => W.heap.size ≤ k) 78 9 v cls.length (clc cls) ∧ Below w1.heap.size w1 w' ∧ Bx W w' ∧ w'.cell? ⟨bb, 0, none⟩ = some (.pointer (some ⟨bm, 0, none⟩)) ∧ w'.cell? ⟨bb, 1, none⟩ = some vc ∧ w'.cell? ⟨bb, 2, none⟩ = some (.slice none 0 0)) (by
    rintro e w' ⟨v, rfl, h1, h2⟩
    have hx' := hx.below h2
    exact ⟨v, rfl, h1.mono (fun k hk => Nat.le_trans hx.1.size hk), h2, hx', (h.below hx'.1).b0, (h.below hx'.1).b1, (h.below hx'.1).b2⟩)
  have C2 := fun (w1 : World) (hx : Bx W w1) => (trace_any (h.below hx.1).mem hlg (h.below hx.1).b0).mono (R' := fun e w' => ∃ v, e = .returned v ∧ Has w' (fun k => W.heap.size ≤ k) 128 7 v lg.length (lgc lg) ∧ Below w1.heap.size w1 w' ∧ Bx W w' ∧ w'.cell? ⟨bb, 0, none⟩ = some (.pointer (some ⟨bm, 0, none⟩)) ∧ w'.cell? ⟨bb, 1, none⟩ = some vc ∧ w'.cell? ⟨bb, 2, none⟩ = some (.slice none 0 0)) (by
    rintro e w' ⟨v, rfl, h1, h2⟩
    have hx' := hx.below h2
    exact ⟨v, rfl, h1.mono (fun k hk => Nat.le_trans hx.1.size hk), h2, hx', (h.below hx'.1).b0, (h.below hx'.1).b1, (h.below hx'.1).b2⟩)
  have C4 := fun (w1 : World) (hx : Bx W w1) => (words_any (h.below hx.1).mem).mono (R' := fun e w' => ∃ v, e = .returned v ∧ Has w' (fun k => W.heap.size ≤ k) 59 1 v ws.length (wrd ws) ∧ Below w1.heap.size w1 w' ∧ Bx W w' ∧ w'.cell? ⟨bb, 0, none⟩ = some (.pointer (some ⟨bm, 0, none⟩)) ∧ w'.cell? ⟨bb, 1, none⟩ = some vc ∧ w'.cell? ⟨bb, 2, none⟩ = some (.slice none 0 0)) (by
    rintro e w' ⟨v, rfl, h1, h2⟩
    have hx' := hx.below h2
    exact ⟨v, rfl, h1.mono (fun k hk => Nat.le_trans hx.1.size hk), h2, hx', (h.below hx'.1).b0, (h.below hx'.1).b1, (h.below hx'.1).b2⟩)
  obtain ⟨acv, ccv, hvc, _⟩ := h.cal.form
  have hx0 : Bx W (W.alloc (.cells #[.slice none 0 0, .slice none 0 0, .slice none 0 0, .slice none 0 0] 53)).drew := ⟨((Below.refl _ _).alloc (Nat.le_refl _) _).drew, heap_alloc_new W _⟩
  have e0 : (W.alloc (.cells #[.slice none 0 0, .slice none 0 0, .slice none 0 0, .slice none 0 0] 53)).cell? ⟨bb, 0, none⟩ = some (.pointer (some ⟨bm, 0, none⟩)) := (h.below hx0.1).b0
  have e1 : (W.alloc (.cells #[.slice none 0 0, .slice none 0 0, .slice none 0 0, .slice none 0 0] 53)).cell? ⟨bb, 1, none⟩ = some vc := (h.below hx0.1).b1
  have e2 : (W.alloc (.cells #[.slice none 0 0, .slice none 0 0, .slice none 0 0, .slice none 0 0] 53)).cell? ⟨bb, 2, none⟩ = some (.slice none 0 0) := (h.below hx0.1).b2
  have hne : W.heap.size ≠ bb := by have := h.ltb; omega
  rw [hvc] at e1 C1 C2 C4
  clear h hvc
  go_enter Try.func44, Try.ntmps44
  go_wp2
  replace hx0 := Mr.hid hx0
  go_region_held3 (fun w' => w'.cell? ⟨bb, 0, none⟩ = some (.pointer (some ⟨bm, 0, none⟩)) ∧ w'.cell? ⟨bb, 1, none⟩ = some (.slice acv cls.length ccv) ∧ w'.cell? ⟨bb, 2, none⟩ = some (.slice none 0 0)) (go_keep)
    (first
      | (go_at_call 55; refine (C1 _ hx0.out).mono ?_; clear C1; rintro e w1 ⟨v1, rfl, hv1, hB1, hx1, f0, f1, f2⟩; obtain ⟨p1, q1, rfl, _⟩ := hv1.form; replace hx1 := Mr.hid hx1; replace hv1 := Mr.hid hv1; replace hB1 := Mr.hid hB1)
      | (go_at_call 56; refine (C2 _ hx1.out).mono ?_; clear C2; rintro e w2 ⟨v2, rfl, hv2, hB2, hx2, g0, g1, g2⟩; obtain ⟨p2, q2, rfl, _⟩ := hv2.form; replace hx2 := Mr.hid hx2; replace hv2 := Mr.hid hv2; replace hB2 := Mr.hid hB2)
      | (go_at_call 57; refine (cloneSh_nil _).mono ?_; rintro e w3 ⟨rfl, hw3⟩; obtain rfl := hw3.symm)
      | (go_at_call 58; refine (C4 _ hx2.out).mono ?_; clear C4; rintro e w4 ⟨v4, rfl, hv4, hB4, hx4, i0, i1, i2⟩; obtain ⟨p4, q4, rfl, _⟩ := hv4.form; obtain ⟨kc, kz⟩ := hx4.cells; have kc0 := kc 0 (by decide); have kc1 := kc 1 (by decide); have kc2 := kc 2 (by decide); have kc3 := kc 3 (by decide); clear kc; replace hx4 := Mr.hid hx4; replace hv4 := Mr.hid hv4; replace hB4 := Mr.hid hB4))
  obtain ⟨W5, hW5⟩ : ∃ W5, (((w4.setCell ⟨W.heap.size, 0, none⟩ (.slice p1 cls.length q1)).setCell ⟨W.heap.size, 1, none⟩ (.slice p2 lg.length q2)).setCell ⟨W.heap.size, 2, none⟩ (.slice none 0 0)).setCell ⟨W.heap.size, 3, none⟩ (.slice p4 ws.length q4) = W5 := ⟨_, rfl⟩
  have hb5 : W5.heap[W.heap.size]? = some (.cells #[.slice p1 cls.length q1, .slice p2 lg.length q2, .slice none 0 0, .slice p4 ws.length q4] 53 (0, 0)) := by
    rw [← hW5, setBlk (setBlk (setBlk (setBlk hx4.out.2 0 _) 1 _) 2 _) 3 _]
    rfl
  have ho5 : ∀ k, k ≠ W.heap.size → W5.heap[k]? = w4.heap[k]? := fun k hk => by
    rw [← hW5, Below.heap_setCell _ _ _ k hk, Below.heap_setCell _ _ _ k hk, Below.heap_setCell _ _ _ k hk, Below.heap_setCell _ _ _ k hk]
  have hB5 : Below W.heap.size W W5 := by
    rw [← hW5]
    exact (((hx4.out.1.setCell (p := ⟨W.heap.size, 0, none⟩) (Nat.le_refl _) _).setCell (p := ⟨W.heap.size, 1, none⟩) (Nat.le_refl _) _).setCell (p := ⟨W.heap.size, 2, none⟩) (Nat.le_refl _) _).setCell (p := ⟨W.heap.size, 3, none⟩) (Nat.le_refl _) _
  have keep : ∀ {e size m : Nat} {v : Value} {xs : List Value}, e ≠ 53 → Has w4 (fun k => W.heap.size ≤ k) e size v m xs → Has W5 (fun k => W.heap.size ≤ k) e size v m xs := fun {e size m v xs} hne hh =>
    hh.kept (fun k hk => ho5 k (fun e' => not_row hx4.out.2 hh hne.symm (e' ▸ hk))) (fun k hk => (hh.lt k hk).1)
  have r1 := keep (by decide) ((hv1.out.below hB2.out).below hB4.out)
  have r2 := keep (by decide) (hv2.out.below hB4.out)
  have r4 := keep (by decide) hv4.out
  have d0 : W5.cell? ⟨W.heap.size, 0, none⟩ = some (.slice p1 cls.length q1) := by simp [World.cell?, hb5]
  have d1 : W5.cell? ⟨W.heap.size, 1, none⟩ = some (.slice p2 lg.length q2) := by simp [World.cell?, hb5]
  have d2 : W5.cell? ⟨W.heap.size, 2, none⟩ = some (.slice none 0 0) := by simp [World.cell?, hb5]
  have d3 : W5.cell? ⟨W.heap.size, 3, none⟩ = some (.slice p4 ws.length q4) := by simp [World.cell?, hb5]
  rw [hW5]
  clear hW5 keep ho5 hb5 kc0 kc1 kc2 kc3 kz i0 i1 i2
  replace r1 := Mr.hid r1
  replace r2 := Mr.hid r2
  replace r4 := Mr.hid r4
  go_wp2
  refine bodyPost_ret (v := runV (.slice p1 cls.length q1) (.slice p2 lg.length q2) (.slice none 0 0) (.slice p4 ws.length q4)) (by simp [results, Try.f44, go_sem, d0, d1, d2, d3, runV]) rfl ?_
  exact ⟨_, _, _, rfl, r1.out, r2.out, r4.out, hB5⟩
end
section
variable {W : World} {U K : Nat → Prop} {q : Ph} {km s1 a1 s2 a2 : Nat} {P : Pm}
set_option maxRecDepth 100000 in
set_option maxHeartbeats 1000000 in
theorem runM_any (h : R W U K q km s1 a1 s2 a2 P) (hvs : q.vs = .slice none 0 0) :
    Calls Try.prog 17 #[.pointer (some ⟨q.b, 0, none⟩)] W fun e w' => ∃ v1 v2 v4, e = .returned (runV v1 v2 (.slice none 0 0) v4) ∧ Has w' (fun k => W.heap.size ≤ k) 78 9 v1 P.cls.length (clc P.cls) ∧ Has w' (fun k => W.heap.size ≤ k) 128 7 v2 P.lg.length (lgc P.lg) ∧ Has w' (fun k => W.heap.size ≤ k) 59 1 v4 P.ws.length (wrd P.ws) ∧ Below W.heap.size W w' := by
  obtain ⟨S, vl, va, vc, mv, ah, bt, hM, hinj, hah, hK, hKU, hwf, hvk⟩ := h
  have hB0 := (Below.refl W.heap.size W).alloc (Nat.le_refl _) (.cells #[.slice none 0 0, .slice none 0 0, .slice none 0 0, .slice none 0 0] 53)
  have hM1 := hM.below hB0
  have C := made_yes hM1
  have hm := hM1.2
  simp only [hvs] at hm
  have n1 := hwf.n
  have n2 := hwf.cls
  have n3 := hwf.lg
  have D := run_any hm (by omega) (by omega)
  have m3 := hm.m3
  have hbx : (W.alloc (.cells #[.slice none 0 0, .slice none 0 0, .slice none 0 0, .slice none 0 0] 53)).heap[W.heap.size]? = some (.cells #[.slice none 0 0, .slice none 0 0, .slice none 0 0, .slice none 0 0] 53 (0, 0)) := heap_alloc_new W _
  have hsz : (W.alloc (.cells #[.slice none 0 0, .slice none 0 0, .slice none 0 0, .slice none 0 0] 53)).heap.size = W.heap.size + 1 := by simp
  have cellB := fun (w2 : World) (hB : Below (W.heap.size + 1) (W.alloc (.cells #[.slice none 0 0, .slice none 0 0, .slice none 0 0, .slice none 0 0] 53)) w2) => (show Bx W w2 from ⟨hB0.trans (hB.mono (by omega)), (hB.block _ (by omega)).trans hbx⟩)
  rw [hsz] at D
  replace hM1 := Mr.hid hM1
  replace hm := Mr.hid hm
  replace hM := Mr.hid hM
  clear hbx hsz hK hinj
  go_enter Try.func17, Try.ntmps17
  go_wp2_with (first | (go_at_call 36; refine C.mono ?_; clear C; rintro e w' ⟨rfl, hw⟩; obtain rfl := hw.symm) | (go_at_call 44; refine D.mono ?_; clear D; rintro e w2 ⟨v1, v2, v4, rfl, hv1, hv2, hv4, hB2⟩; have hx2 := cellB w2 hB2; obtain ⟨kc, kz⟩ := hx2.cells; have kc0 := kc 0 (by decide); have kc1 := kc 1 (by decide); have kc2 := kc 2 (by decide); have kc3 := kc 3 (by decide); clear kc; obtain ⟨p1, q1, rfl, _⟩ := hv1.form; obtain ⟨p2, q2, rfl, _⟩ := hv2.form; obtain ⟨p4, q4, rfl, _⟩ := hv4.form; replace hx2 := Mr.hid hx2; unfold runV))
  obtain ⟨W5, hW5⟩ : ∃ W5, (((w2.setCell ⟨W.heap.size, 0, none⟩ (.slice p1 P.cls.length q1)).setCell ⟨W.heap.size, 1, none⟩ (.slice p2 P.lg.length q2)).setCell ⟨W.heap.size, 2, none⟩ (.slice none 0 0)).setCell ⟨W.heap.size, 3, none⟩ (.slice p4 P.ws.length q4) = W5 := ⟨_, rfl⟩
  have hb5 : W5.heap[W.heap.size]? = some (.cells #[.slice p1 P.cls.length q1, .slice p2 P.lg.length q2, .slice none 0 0, .slice p4 P.ws.length q4] 53 (0, 0)) := by
    rw [← hW5, setBlk (setBlk (setBlk (setBlk hx2.out.2 0 _) 1 _) 2 _) 3 _]
    rfl
  have ho5 : ∀ k, k ≠ W.heap.size → W5.heap[k]? = w2.heap[k]? := fun k hk => by
    rw [← hW5, Below.heap_setCell _ _ _ k hk, Below.heap_setCell _ _ _ k hk, Below.heap_setCell _ _ _ k hk, Below.heap_setCell _ _ _ k hk]
  have hB5 : Below W.heap.size W W5 := by
    rw [← hW5]
    exact (((hx2.out.1.setCell (p := ⟨W.heap.size, 0, none⟩) (Nat.le_refl _) _).setCell (p := ⟨W.heap.size, 1, none⟩) (Nat.le_refl _) _).setCell (p := ⟨W.heap.size, 2, none⟩) (Nat.le_refl _) _).setCell (p := ⟨W.heap.size, 3, none⟩) (Nat.le_refl _) _
  have keep : ∀ {e size m : Nat} {v : Value} {xs : List Value}, Has w2 (fun k => W.heap.size + 1 ≤ k) e size v m xs → Has W5 (fun k => W.heap.size ≤ k) e size v m xs := fun {e size m v xs} hh =>
    hh.kept (fun k hk => ho5 k (fun e' => by have := (hh.lt k hk).1; omega)) (fun k hk => by have := (hh.lt k hk).1; omega)
  have d0 : W5.cell? ⟨W.heap.size, 0, none⟩ = some (.slice p1 P.cls.length q1) := by simp [World.cell?, hb5]
  have d1 : W5.cell? ⟨W.heap.size, 1, none⟩ = some (.slice p2 P.lg.length q2) := by simp [World.cell?, hb5]
  have d2 : W5.cell? ⟨W.heap.size, 2, none⟩ = some (.slice none 0 0) := by simp [World.cell?, hb5]
  have d3 : W5.cell? ⟨W.heap.size, 3, none⟩ = some (.slice p4 P.ws.length q4) := by simp [World.cell?, hb5]
  rw [hW5]
  refine bodyPost_ret (v := runV (.slice p1 P.cls.length q1) (.slice p2 P.lg.length q2) (.slice none 0 0) (.slice p4 P.ws.length q4)) (by simp [results, Try.f17, go_sem, d0, d1, d2, d3, runV]) rfl ?_
  exact ⟨_, _, _, rfl, keep hv1, keep hv2, keep hv4, hB5⟩
end
end Go.Proofs.Ytglppcoohojmpaa.Ma
