import Derived.Test.YtnapnhmmopajfaaGreatJ21
/-
  A row in a box: behind an append and its store, behind turns of blocks that are no cells (MemLogged's, without what speaks of the law's functions).
-/
namespace Go.Proofs.YtnapnhmmopajfaaGreat.Me
open Go.RowKit Go.Shelf Mr
/-- The cells of a row in a box behind a turn of a block that is no cells. -/
theorem has_own {β : Type} (S : Nat → Prop) (B t e size : Nat) (k : β → Nat) (f : β → List Value) : Own (fun (s : β) W => ∃ v, Boxed W B t v ∧ Has W S e size v (k s) (f s)) := by
  rintro s X Y row ⟨v, hv, hr⟩ hg hrow
  refine ⟨v, hv.kept hg (fun e' => ?_), hr.grown hg (fun j hj e' => ?_)⟩
  · obtain ⟨o, ho, hc⟩ := hrow B e'.symm
    rw [show X.heap[B]? = _ from hv] at ho; cases ho; cases hc
  · rcases hr.2 with ⟨rfl, _⟩ | ⟨g, cap, cur, rfl, _, hgb, _⟩
    · simp [Value.ownBlock] at hj
    · obtain ⟨o, ho, hc⟩ := hrow j e'
      simp [Value.ownBlock] at hj
      subst hj
      rw [hgb] at ho; cases ho; cases hc

/-- 'x = append(x, ..)', x in a box: behind the append, and behind the store. -/
theorem boxHas {W w0 w1 : World} {S : Nat → Prop} {n₀ B t e size : Nat} {v v' : Value} {k m : Nat} {xs ys : List Value} (hv : Boxed W B t v) (hte : t ≠ e) (hrow : Has W S e size v k xs) (hS : ∀ k, S k → n₀ ≤ k) (hn₀ : n₀ ≤ W.heap.size) (hB : n₀ ≤ B)
    (hb0 : Below W.heap.size W w0) (hk0 : KeepsOthers W w0) (hown' : Has w1 S e size v' m ys) (hgrow : w0.grownBy w1 v.ownBlock) :
    Boxed w1 B t v ∧ Boxed (w1.setCell ⟨B, 0, none⟩ v') B t v' ∧ Has (w1.setCell ⟨B, 0, none⟩ v') S e size v' m ys ∧ KeepsOthers W (w1.setCell ⟨B, 0, none⟩ v') ∧ Below n₀ W (w1.setCell ⟨B, 0, none⟩ v') ∧
    (∀ j, j < W.heap.size → j ≠ B → v.ownBlock ≠ some j → (w1.setCell ⟨B, 0, none⟩ v').heap[j]? = W.heap[j]?) := by
  have nr : ∀ {X : World} {u : Value} {j : Nat} {zs : List Value} {a : Value}, Boxed X B t u → Has X S e size a j zs → a.ownBlock ≠ some B := fun {X u j zs a} hX hr e' => by
    rcases hr.2 with ⟨rfl, _⟩ | ⟨g, cap, cur, rfl, _, hgb, _⟩
    · simp [Value.ownBlock] at e'
    · simp [Value.ownBlock] at e'
      subst e'
      have := (show X.heap[_]? = _ from hX).symm.trans hgb
      simp at this
      exact hte this.2
  have hv0 : Boxed w0 B t v := (hb0.block B hv.lt).trans hv
  have hv1 : Boxed w1 B t v := hv0.kept hgrow (fun e => nr hv hrow e.symm)
  refine ⟨hv1, hv1.set v', hown'.setCell _ _ (nr hv1 hown'), (hk0.trans (KeepsOthers.of_grownBy hgrow fun j o ej hj => ?_)).trans (KeepsOthers.setCell _ _ _), ?_, fun j hj h1 h2 => ?_⟩
  · rcases (hrow.below hb0).2 with ⟨rfl, _⟩ | ⟨g, cap, cur, rfl, _, hgb, _⟩
    · simp [Value.ownBlock] at ej
    · obtain rfl : g = j := by simpa [Value.ownBlock] using ej
      rw [hgb] at hj; cases hj; rfl
  · refine ((hb0.mono hn₀).grown hgrow (Nat.le_trans hn₀ hb0.size) fun j ej => ?_).setCell (p := ⟨B, 0, none⟩) hB v'
    exact hS j (hrow.lt j ej).1
  · rw [Below.heap_setCell _ _ _ j h1, hgrow.block j (Nat.lt_of_lt_of_le hj hb0.size) (fun e => h2 e.symm)]
    exact hb0.block j hj

theorem room_mono {a b c : Nat} (hab : a ≤ b) (h : (b + b / 4 + 192) * 56 ≤ 281474976710656) (hc : c ≤ 56) : (a + a / 4 + 192) * c ≤ 281474976710656 :=
  Nat.le_trans (Nat.mul_le_mul (Nat.add_le_add_right (Nat.add_le_add hab (Nat.div_le_div_right hab)) _) hc) h
theorem room_max {a : Nat} (h : (a + a / 4 + 192) * 56 ≤ 281474976710656) : a ≤ maxLen := by unfold maxLen; omega
theorem has_putD {W : World} {S T : Nat → Prop} {e size n : Nat} {v : Value} {xs : List Value} (h : Has W S e size v n xs) {D : Nat} {o o' : Obj} (hD : W.heap[D]? = some o) (ho : o.isCells = false) (hT : ∀ k, S k → T k) : Has (W.drew.putObj D o') T e size v n xs := by
  refine (Has.grown (w := W.drew) (Has.kept h (fun _ _ => rfl) (fun k hk => (h.lt k hk).1)) (grownBy_putObj' W.drew D o') (fun k hk e' => ?_)).mono hT
  rcases h.2 with ⟨rfl, _⟩ | ⟨g', _, cur', rfl, _, hg', _⟩
  · simp [Value.ownBlock] at hk
  · simp [Value.ownBlock] at hk e'
    subst hk; subst e'
    rw [hg'] at hD; cases hD; cases ho
/-- A block of another type than the row's is not the row's. -/
theorem has_far {W : World} {S : Nat → Prop} {e size n : Nat} {v : Value} {xs : List Value} (h : Has W S e size v n xs) {j t : Nat} {cur : Array Value} {f : Nat × Nat} (hj : W.heap[j]? = some (.cells cur t f)) (ht : t ≠ e) : v.ownBlock ≠ some j := fun e' => by
  rcases h.2 with ⟨hv, _⟩ | ⟨g', _, cur', hv, _, hg', _⟩
  · subst hv; simp [Value.ownBlock] at e'
  · subst hv
    simp [Value.ownBlock] at e'
    subst e'
    rw [hg'] at hj; cases hj; exact ht rfl
end Go.Proofs.YtnapnhmmopajfaaGreat.Me
/-
  book.trace by its contract.
-/
namespace Go.Proofs.YtnapnhmmopajfaaGreat.Ma
open Go.RowKit Go.Shelf Mr Me
attribute [local go_sem] Oper.semAt_some
/-- What the loop's list holds. -/
def TrI (w : World) (pre : List (Nat × Acc)) (W : World) : Prop :=
  (∃ v, Boxed W (w.heap.size + 1) 29 v ∧ Has W (fun k => w.heap.size ≤ k) 65 7 v pre.length (lgc (pre.map (·.2)))) ∧ Below w.heap.size w W
theorem TrI.own (w : World) (n : Nat) (hB : w.heap.size ≤ n) : OwnFrom n (TrI w) := by
  refine OwnFrom.and (Own.from ?_ _) (ownFrom_below (Nat.le_refl _) hB)
  rintro s X Y row h1 hg hr
  exact has_own _ _ _ _ _ (fun s : List (Nat × Acc) => s.length) (fun s => lgc (s.map (·.2))) s X Y row h1 hg hr
set_option maxRecDepth 100000 in
set_option maxHeartbeats 1000000 in
theorem trace_any {W : World} {S : Nat → Prop} {bb b : Nat} {vw vl va : Value} {ws : List Int} {mv : Int} {lg : List Acc} {ah : List Int} (h : Mem W S b vw vl va ws mv lg ah) (hlg : lg.length ≤ 100000) (hb0 : W.cell? ⟨bb, 0, none⟩ = some (.pointer (some ⟨b, 0, none⟩))) :
    Calls Tryz.prog 42 #[.pointer (some ⟨bb, 0, none⟩)] W fun e w' => ∃ v, e = .returned v ∧ Has w' (fun k => W.heap.size ≤ k) 65 7 v lg.length (lgc lg) ∧ Below W.heap.size W w' := by
  obtain ⟨j0, hj, hy0, hy1, hy2⟩ := info_parts info_acc
  have C := callsIn_wide (n := 4) |>.2 (count_any h)
  have hbl : bb < W.heap.size := World.block_lt_of_cell? W ⟨bb, 0, none⟩ hb0
  have hmk : ∀ u : World, (Instr.makeSlice 29 (.int .i64 0) (.int .i64 (lg.length : Int))).run Tryz.prog u = .ok (.slice (some ⟨u.heap.size, 0, none⟩) 0 lg.length) (u.alloc (.cells (madeCells #[.int .i64 0, .int .i64 0, .int .i64 0, .int .i64 0, .int .u64 0, .int .u64 0, .int .u64 0] (lg.length * 7)) 65)) := fun u => by
    have h := run_make (P := Tryz.prog) u 29 65 j0 (.agg #[.int .i64 0, .int .i64 0, .int .i64 0, .int .i64 0, .int .u64 0, .int .u64 0, .int .u64 0]) Tryz.underlying29 hj hy0 .i64 .i64 (0 : Int) (lg.length : Int) (by omega) (by omega) (by rw [hy2]; omega) (by omega)
    have e : ((lg.length : Int)).toNat = lg.length := by omega
    rw [e, hy1] at h
    simpa [Value.cells] using h
  have c0 : ∀ o p, ((W.alloc o).alloc p).cell? ⟨bb, 0, none⟩ = some (.pointer (some ⟨b, 0, none⟩)) := fun o p => by rw [World.cell?_alloc_past _ _ _ (by simp; omega), World.cell?_alloc_past _ _ _ hbl]; exact hb0
  refine (callsIn_wide (n := 5)).1 ?_
  refine callsIn_of_wp_marks Tryz.func42 rfl trivial ?_ rfl
  simp only [Tryz.ntmps42, List.size_toArray, List.length_cons, List.length_nil, Nat.reduceAdd, Nat.reduceSub, Array.replicate_succ, Array.replicate_zero, List.push_toArray, List.append_toArray, List.nil_append, List.cons_append]
  gi_wp2_with (first | (refine ⟨trivial, ?_⟩; gi_at_call 56; refine C.mono ?_; clear C; rintro e w' ⟨rfl, hw⟩; obtain rfl := hw.symm) | (refine ⟨trivial, ?_⟩; gi_at_call 57; refine (callsIn_wide.2 (log_any _ _ _)).mono ?_; rintro e w' ⟨rfl, rfl⟩))
  obtain ⟨W4, hW4⟩ : ∃ W4, ((((W.alloc (.cells (madeCells #[.int .i64 0, .int .i64 0, .int .i64 0, .int .i64 0, .int .u64 0, .int .u64 0, .int .u64 0] (lg.length * 7)) 65)).alloc (.cells #[.slice (some ⟨W.heap.size, 0, none⟩) 0 lg.length] 29)).alloc (.cells #[.pointer (some ⟨b, 0, none⟩)] 88)).alloc (.cells #[.int .i64 0] 3)) = W4 := ⟨_, rfl⟩
  rw [hW4]
  have hB4 : Below W.heap.size W W4 := by
    rw [← hW4]
    exact ((((Below.refl _ W).alloc (Nat.le_refl _) _).alloc (by simp) _).alloc (by simp; omega) _).alloc (by simp; omega) _
  have hs4 : W4.heap.size = W.heap.size + 1 + 1 + 1 + 1 := by rw [← hW4]; simp
  have hr4 : W4.heap[W.heap.size]? = some (.cells (madeCells #[.int .i64 0, .int .i64 0, .int .i64 0, .int .i64 0, .int .u64 0, .int .u64 0, .int .u64 0] (lg.length * 7)) 65 (0, 0)) := by
    rw [← hW4]
    exact (Below.heap_alloc _ _ _ (by simp; omega)).trans ((Below.heap_alloc _ _ _ (by simp; omega)).trans ((Below.heap_alloc _ _ _ (by simp)).trans (heap_alloc_new W _)))
  have b1 : Boxed W4 (W.heap.size + 1) 29 (.slice (some ⟨W.heap.size, 0, none⟩) 0 lg.length) := by
    rw [← hW4]
    have := Boxed.new (W.alloc (.cells (madeCells #[.int .i64 0, .int .i64 0, .int .i64 0, .int .i64 0, .int .u64 0, .int .u64 0, .int .u64 0] (lg.length * 7)) 65)) 29 (.slice (some ⟨W.heap.size, 0, none⟩) 0 lg.length)
    rw [World.size_alloc] at this
    exact (this.alloc _).alloc _
  have b2 : Boxed W4 (W.heap.size + 1 + 1) 88 (.pointer (some ⟨b, 0, none⟩)) := by
    rw [← hW4]
    have := Boxed.new ((W.alloc (.cells (madeCells #[.int .i64 0, .int .i64 0, .int .i64 0, .int .i64 0, .int .u64 0, .int .u64 0, .int .u64 0] (lg.length * 7)) 65)).alloc (.cells #[.slice (some ⟨W.heap.size, 0, none⟩) 0 lg.length] 29)) 88 (.pointer (some ⟨b, 0, none⟩))
    rw [World.size_alloc, World.size_alloc] at this
    exact this.alloc _
  have b3 : Boxed W4 (W.heap.size + 1 + 1 + 1) 3 (.int .i64 0) := by
    rw [← hW4]
    have := Boxed.new (((W.alloc (.cells (madeCells #[.int .i64 0, .int .i64 0, .int .i64 0, .int .i64 0, .int .u64 0, .int .u64 0, .int .u64 0] (lg.length * 7)) 65)).alloc (.cells #[.slice (some ⟨W.heap.size, 0, none⟩) 0 lg.length] 29)).alloc (.cells #[.pointer (some ⟨b, 0, none⟩)] 88)) 3 (.int .i64 0)
    rw [World.size_alloc, World.size_alloc, World.size_alloc] at this
    exact this
  have hst : Has W4 (fun k => W.heap.size ≤ k) 65 7 (.slice (some ⟨W.heap.size, 0, none⟩) 0 lg.length) 0 [] := ⟨by simp, .inr ⟨_, _, _, rfl, Nat.le_refl _, hr4, Nat.zero_le _, by unfold maxLen; omega, Nat.le_of_eq (size_madeCells _ _).symm, by simp⟩⟩
  clear hW4 hr4 hmk c0
  have hlt5 : ∀ g, vl.ownBlock = some g → g < W.heap.size := fun g hg => (h.hl.lt g hg).2
  have hit : It W4 (W.heap.size + 1 + 1) (W.heap.size + 1 + 1 + 1) b 0 vl lg := ⟨b2.cell, b3.cell, (hB4.cell (p := ⟨b, 2, none⟩) h.lt).trans h.c2, (h.hl.below hB4).mono (fun _ _ => trivial), by omega⟩
  have hlgI : (lg.length : Int) ≤ 100000 := by omega
  refine wpIn_rangeFunc_ownH rfl (by omega) (gf := 69) (lb := #[.pointer (some ⟨W.heap.size + 1 + 1, 0, none⟩), .pointer (some ⟨W.heap.size + 1 + 1 + 1, 0, none⟩)]) rfl trivial (enters_of Tryz.func69 (by kernel_rfl) rfl)
    (log_stops 4 _ _ b 0 vl lg (by omega) W4 hit) Kl.trans (Kl.put (fun g hg => by have := hlt5 g hg; omega)) (Below.refl _ _) (fun _ => rfl) (TrI W)
    (fun _ _ _ => False)
    (TrI.own W _ (by omega)) (fun c => by rintro s X Y row hc hg hr; exact hc)
    ⟨⟨_, b1, hst⟩, hB4⟩
    (fun x a' W' => ∃ Bx, W.heap.size + 1 < Bx ∧ W'.heap[Bx]? = some (.cells #[.int .i64 x.2.mv, .int .i64 x.2.th, .int .i64 x.2.kd, .int .i64 x.2.ad, .int .u64 x.2.old, .int .u64 x.2.new, .int .u64 x.2.saw] 65 (0, 0)) ∧ a' = { tmps := #[Value.pointer (some ⟨bb, 0, none⟩), undef, Value.slice none 0 0, Value.pointer (some ⟨W.heap.size + 1, 0, none⟩), undef, Value.pointer (some ⟨Bx, 0, none⟩), Value.pointer (some ⟨bb, 0, none⟩), Value.pointer (some ⟨bb, 0, none⟩), Value.pointer (some ⟨bb, 0, none⟩), Value.pointer (some ⟨b, 0, none⟩), Value.int .i64 (lg.length : Int), Value.slice (some ⟨W.heap.size, 0, none⟩) 0 lg.length, Value.pointer (some ⟨bb, 0, none⟩), Value.pointer (some ⟨bb, 0, none⟩), Value.pointer (some ⟨bb, 0, none⟩), Value.pointer (some ⟨b, 0, none⟩), Value.func (Fn.func 69) #[] #[Value.pointer (some ⟨W.heap.size + 1 + 1, 0, none⟩), Value.pointer (some ⟨W.heap.size + 1 + 1 + 1, 0, none⟩)], Value.int .i64 (x.1 : Int), Acc.val x.2, undef, undef, undef, undef, undef], defers := [] })
    (fun x a' => by
      rintro _ X Y row ⟨Bx, h1, h2, h3⟩ hg hr
      refine ⟨Bx, h1, (hg.block Bx (Array.getElem?_eq_some_iff.1 h2).1 (fun e => ?_)).trans h2, h3⟩
      obtain ⟨_, o, ho, hc⟩ := hr Bx e.symm
      rw [h2] at ho; cases ho; cases hc)
    ?assign ?body ?done ?stop
  case assign =>
    rintro l pre x Wb K hI hK
    obtain ⟨⟨v, hbx, hrow⟩, hBW⟩ := id hI
    have hsz := hBW.size
    have hltb := hbx.lt
    obtain ⟨x1, x2⟩ := x
    simp only [Acc.val]
    gi_wp2
    exact hK _ _ ((KeepsOthers.alloc _ _).from _) (Kl.below (n₀ := W.heap.size) ((Below.refl _ Wb).alloc hsz _) hlt5) ((TrI.own W _ (Nat.le_refl _)).alloc _ hI) ⟨Wb.heap.size, hltb, heap_alloc_new _ _, rfl⟩
  case body =>
    rintro l pre x a' Wb hl ⟨r, hr⟩ hI ⟨Bx, hBx, bX, rfl⟩ hlen
    obtain ⟨⟨v, hbx, hrow⟩, hBW⟩ := hI
    obtain ⟨x1, x2⟩ := x
    obtain ⟨y0, y1, y2, y3, y4, y5, y6⟩ := x2
    obtain ⟨aq, cq, rfl, _⟩ := hrow.form
    have hlt1 := hbx.lt
    have hltX : Bx < Wb.heap.size := (Array.getElem?_eq_some_iff.1 bX).1
    have cq1 := hbx.cell
    have fq1 := hbx.frozen
    simp only [Acc.val] at bX ⊢
    have hle1 : pre.length + 1 ≤ lg.length := by omega
    have hpb : (pre.length + 1 + (pre.length + 1) / 4 + 192) * 56 ≤ 281474976710656 := by omega
    have hpx : pre.length + 1 ≤ maxLen := room_max hpb
    replace hpb := Mr.hid hpb
    have r0 : Wb.cell? ⟨Bx, 0, none⟩ = some (.int .i64 y0) := by simp [World.cell?, bX]
    have r1 : Wb.cell? ⟨Bx, 1, none⟩ = some (.int .i64 y1) := by simp [World.cell?, bX]
    have r2 : Wb.cell? ⟨Bx, 2, none⟩ = some (.int .i64 y2) := by simp [World.cell?, bX]
    have r3 : Wb.cell? ⟨Bx, 3, none⟩ = some (.int .i64 y3) := by simp [World.cell?, bX]
    have r4 : Wb.cell? ⟨Bx, 4, none⟩ = some (.int .u64 y4) := by simp [World.cell?, bX]
    have r5 : Wb.cell? ⟨Bx, 5, none⟩ = some (.int .u64 y5) := by simp [World.cell?, bX]
    have r6 : Wb.cell? ⟨Bx, 6, none⟩ = some (.int .u64 y6) := by simp [World.cell?, bX]
    have law1 : ∀ o, Has (Wb.alloc o) (fun k => W.heap.size ≤ k) 65 7 (.slice aq pre.length cq) pre.length (lgc (pre.map (·.2))) := fun o => hrow.alloc o
    have hs1 : ∀ o, W.heap.size ≤ (Wb.alloc o).heap.size := fun o => by simp; omega
    have step1 : ∀ {o : Obj} {w1 : World} {g cap : Nat}, Has w1 (fun k => W.heap.size ≤ k) 65 7 (.slice (some ⟨g, 0, none⟩) (pre.length + 1) cap) (pre.length + 1) (lgc (pre.map (·.2)) ++ [.int .i64 y0, .int .i64 y1, .int .i64 y2, .int .i64 y3, .int .u64 y4, .int .u64 y5, .int .u64 y6]) → (Wb.alloc o).grownBy w1 (Value.slice aq pre.length cq).ownBlock → _ := fun {o w1 g cap} hown hgrow =>
      boxHas (n₀ := W.heap.size) hbx (by decide) hrow (fun k hk => hk) hBW.size (by omega) ((Below.refl _ _).alloc (Nat.le_refl _) o) (KeepsOthers.alloc _ _) hown hgrow
    clear hrow hbx bX
    gi_wp2_with (gi_at_builtin; refine wpListIn_append_has _ rfl (.tmp 19) (.tmp 21) 29 rfl (fun k => W.heap.size ≤ k) 65 j0 _ 7 56 Tryz.underlying29 hj hy0 hy1 hy2 rfl (.slice aq pre.length cq) pre.length (lgc (pre.map (·.2))) rfl (law1 _) ⟨Wb.heap.size, 0, none⟩ 1 1 [.int .i64 y0, .int .i64 y1, .int .i64 y2, .int .i64 y3, .int .u64 y4, .int .u64 y5, .int .u64 y6] rfl rfl (newsAt Wb _ #[.int .i64 y0, .int .i64 y1, .int .i64 y2, .int .i64 y3, .int .u64 y4, .int .u64 y5, .int .u64 y6] 65 _ rfl rfl) (by simp [Value.oneCell']) (by omega) hpx hpb.out (hs1 _) ?_; intro g cap w1 hown hgrow hat; obtain ⟨q1, q2, q3, q4, q5, q6⟩ := step1 hown hgrow; have q1c := q1.cell; have q1f := q1.frozen; clear step1 hown hgrow law1)
    have hl1 : (pre ++ [(x1, (⟨y0, y1, y2, y3, y4, y5, y6⟩ : Acc))]).length = pre.length + 1 := by simp
    refine ⟨q4.from _, Kl.below (n₀ := W.heap.size) q5 hlt5, ⟨⟨_, q2, ?_⟩, hBW.trans q5⟩⟩
    rw [hl1, List.map_append, List.map_cons, List.map_nil, lgc_snoc]
    exact q3
  case done =>
    rintro D ys Wd hD rfl ⟨⟨v, hbx, hrow⟩, hBW⟩ hK
    have cq1 := hbx.cell
    obtain ⟨aq, cq, rfl, _⟩ := hrow.form
    have el : (ent lg 0 (lg.length - (0 : Int).toNat)).length = lg.length := by rw [ent_length]; simp
    have ea : (ent lg 0 (lg.length - (0 : Int).toNat)).map (·.2) = lg := by
      apply List.ext_getElem
      · simp [ent]
      · intro i h1 h2
        simp [ent, h2]
    simp only [Int.toNat_zero, Nat.sub_zero] at el ea hrow cq1
    rw [ea, el] at hrow
    rw [el] at cq1
    gi_wp2
    refine ⟨by simp, .inl ⟨_, _, rfl, run_takeDeferred (w := Wd) hK, ?_⟩⟩
    refine ⟨.slice aq lg.length cq, by simp [results, Tryz.f42, go_sem], _, rfl, ?_, hBW.trans (belowK_b (w := W) (Nat.le_refl _) Wd D _ _ (by omega) hK rfl rfl)⟩
    refine hrow.kept (fun k hk => World.putObj_heap_other (fun e => ?_)) (fun k hk => (hrow.lt k hk).1)
    subst e
    rcases hrow.2 with ⟨hv, _⟩ | ⟨g', _, cur', hv, _, hg', _⟩
    · rw [hv] at hk; simp [Value.ownBlock] at hk
    · rw [hv] at hk
      simp [Value.ownBlock] at hk
      rw [hk, hK] at hg'
      cases hg'
  case stop =>
    rintro D c pre Wd hD _ hf _
    exact hf.elim
end Go.Proofs.YtnapnhmmopajfaaGreat.Ma
