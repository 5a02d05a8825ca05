/-
  Writer by its contract.
-/
import Derived.Test.YtilbkminekojcaaMemPure
namespace Go.Proofs.Ytilbkminekojcaa.Me
open Go.RowKit Go.Shelf Mr
attribute [local go_sem] Oper.semAt_some
theorem isWrite_any (x0 x1 x2 x3 x4 x5 x6 : Int) (w : World) :
    Calls Try.prog 30 #[.agg #[.int .i64 x0, .int .i64 x1, .int .i64 x2, .int .i64 x3, .int .u64 x4, .int .u64 x5, .int .u64 x6]] w fun e w' => e = .returned (.bool (wrt ⟨x0, x1, x2, x3, x4, x5, x6⟩)) ∧ w' = w.alloc (.cells #[.int .i64 x0, .int .i64 x1, .int .i64 x2, .int .i64 x3, .int .u64 x4, .int .u64 x5, .int .u64 x6] 41) := by
  have e : wrt ⟨x0, x1, x2, x3, x4, x5, x6⟩ = ((x2 == 3 && x6 == x4) || x2 == 2) := rfl
  rw [e]
  clear e
  cases h1 : (x2 == 2)
  · cases h2 : (x2 == 3)
    · go_enter Try.func30, Try.ntmps30
      go_wp2
      go_ret
      exact ⟨by simp, rfl⟩
    · go_enter Try.func30, Try.ntmps30
      go_wp2
      go_ret
      exact ⟨by simp, rfl⟩
  · go_enter Try.func30, Try.ntmps30
    go_wp2
    go_ret
    exact ⟨by simp, rfl⟩
def lastW (ad : Int) (l : List (Nat × Acc)) : Int × Int := l.foldl (fun p x => if (x.2.ad == ad && wrt x.2) = true then (x.2.th, (x.1 : Int)) else p) (-1, -1)
theorem lastW_snoc (ad : Int) (l : List (Nat × Acc)) (x : Nat × Acc) : lastW ad (l ++ [x]) = if (x.2.ad == ad && wrt x.2) = true then (x.2.th, (x.1 : Int)) else lastW ad l := by simp [lastW]
def WrI (w : World) (ad : Int) (pre : List (Nat × Acc)) (W : World) : Prop :=
  (Boxed W (w.heap.size + 1) 3 (.int .i64 (lastW ad pre).1) ∧ Boxed W (w.heap.size + 1 + 1) 3 (.int .i64 (lastW ad pre).2) ∧ Boxed W w.heap.size 3 (.int .i64 ad)) ∧ Below w.heap.size w W
theorem WrI.own (w : World) (ad : Int) (B : Nat) (hB : w.heap.size ≤ B) : OwnFrom B (WrI w ad) := by
  refine OwnFrom.and (Own.from ?_ _) (ownFrom_below (Nat.le_refl _) hB)
  rintro s X Y row ⟨h1, h2, h3⟩ hg hr
  exact ⟨boxed_own (β := Unit) _ _ (fun _ => _) () X Y row h1 hg hr, boxed_own (β := Unit) _ _ (fun _ => _) () X Y row h2 hg hr, boxed_own (β := Unit) _ _ (fun _ => _) () X Y row h3 hg hr⟩
set_option maxRecDepth 100000 in
set_option maxHeartbeats 1000000 in
theorem writer_any {W : World} {S : Nat → Prop} {b : Nat} {vw vl va : Value} {ws : List Int} {mv : Int} {lg : List Acc} {ah : List Int} (h : Mem W S b vw vl va ws mv lg ah) (hsm : lg.length ≤ 5026338869641) (i : Nat) (hi : i < ws.length) :
    Calls Try.prog 36 #[.pointer (some ⟨b, 0, none⟩), .int .i64 (i : Int)] W fun e w' => e = .returned (.tuple #[.int .i64 (lastW i (ent lg 0 lg.length)).1, .int .i64 (lastW i (ent lg 0 lg.length)).2, .int .i64 0]) ∧ Below W.heap.size W w' := by
  have hB : ∀ o, Below W.heap.size W (W.alloc o) := fun o => (Below.refl _ _).alloc (Nat.le_refl _) o
  have C := fun o => callsIn_wide (n := 4) |>.2 (has_yes (h.below (hB o)) i (by omega) (by omega))
  refine (callsIn_wide (n := 5)).1 ?_
  refine callsIn_of_wp_marks Try.func36 rfl trivial ?_ rfl
  simp only [Try.ntmps36, List.size_toArray, List.length_cons, List.length_nil, Nat.reduceAdd, Nat.reduceSub, Array.replicate_succ, Array.replicate_zero, List.push_toArray, List.append_toArray, List.nil_append, List.cons_append]
  gi_wp2_with (first | (refine ⟨trivial, ?_⟩; gi_at_call 43; refine (C _).mono ?_; rintro e w' ⟨rfl, rfl⟩) | (refine ⟨trivial, ?_⟩; gi_at_call 9; refine (callsIn_wide.2 (log_any _ _ _)).mono ?_; rintro e w' ⟨rfl, rfl⟩))
  obtain ⟨W5, hW5⟩ : ∃ W5, (((((W.alloc (.cells #[.int .i64 (i : Int)] 3)).alloc (.cells #[.int .i64 (-1)] 3)).alloc (.cells #[.int .i64 (-1)] 3)).alloc (.cells #[.pointer (some ⟨b, 0, none⟩)] 25)).alloc (.cells #[.int .i64 0] 3)) = W5 := ⟨_, rfl⟩
  rw [hW5]
  have b0 : Boxed W5 (W.heap.size) 3 (.int .i64 (i : Int)) := by
    rw [← hW5]
    have := Boxed.new W 3 (.int .i64 (i : Int))
    exact ((((this.alloc _).alloc _).alloc _).alloc _)
  have b1 : Boxed W5 (W.heap.size + 1) 3 (.int .i64 (-1)) := by
    rw [← hW5]
    have := Boxed.new (W.alloc (.cells #[.int .i64 (i : Int)] 3)) 3 (.int .i64 (-1))
    rw [World.size_alloc] at this
    exact (((this.alloc _).alloc _).alloc _)
  have b2 : Boxed W5 (W.heap.size + 1 + 1) 3 (.int .i64 (-1)) := by
    rw [← hW5]
    have := Boxed.new ((W.alloc (.cells #[.int .i64 (i : Int)] 3)).alloc (.cells #[.int .i64 (-1)] 3)) 3 (.int .i64 (-1))
    rw [World.size_alloc, World.size_alloc] at this
    exact ((this.alloc _).alloc _)
  have b3 : Boxed W5 (W.heap.size + 1 + 1 + 1) 25 (.pointer (some ⟨b, 0, none⟩)) := by
    rw [← hW5]
    have := Boxed.new (((W.alloc (.cells #[.int .i64 (i : Int)] 3)).alloc (.cells #[.int .i64 (-1)] 3)).alloc (.cells #[.int .i64 (-1)] 3)) 25 (.pointer (some ⟨b, 0, none⟩))
    rw [World.size_alloc, World.size_alloc, World.size_alloc] at this
    exact (this.alloc _)
  have b4 : Boxed W5 (W.heap.size + 1 + 1 + 1 + 1) 3 (.int .i64 0) := by
    rw [← hW5]
    have := Boxed.new ((((W.alloc (.cells #[.int .i64 (i : Int)] 3)).alloc (.cells #[.int .i64 (-1)] 3)).alloc (.cells #[.int .i64 (-1)] 3)).alloc (.cells #[.pointer (some ⟨b, 0, none⟩)] 25)) 3 (.int .i64 0)
    rw [World.size_alloc, World.size_alloc, World.size_alloc, World.size_alloc] at this
    exact this
  have hB5 : Below W.heap.size W W5 := by
    rw [← hW5]
    exact (((((Below.refl _ W).alloc (Nat.le_refl _) _).alloc (by simp) _).alloc (by simp; omega) _).alloc (by simp; omega) _).alloc (by simp; omega) _
  have hs5 : W5.heap.size = W.heap.size + 1 + 1 + 1 + 1 + 1 := by rw [← hW5]; simp
  clear hW5
  have hlt5 : ∀ g, vl.ownBlock = some g → g < W.heap.size := fun g hg => (h.hl.lt g hg).2
  have hit : It W5 (W.heap.size + 1 + 1 + 1) (W.heap.size + 1 + 1 + 1 + 1) b 0 vl lg := ⟨b3.cell, b4.cell, (hB5.cell (p := ⟨b, 2, none⟩) h.lt).trans h.c2, (h.hl.below hB5).mono (fun _ _ => trivial), by omega⟩
  have hfr : lg.length - (0 : Int).toNat = lg.length := by simp
  refine wpIn_rangeFunc_ownH rfl (by omega) (gf := 27) (lb := #[.pointer (some ⟨W.heap.size + 1 + 1 + 1, 0, none⟩), .pointer (some ⟨W.heap.size + 1 + 1 + 1 + 1, 0, none⟩)]) rfl trivial (enters_of Try.func27 (by kernel_rfl) rfl)
    (log_stops 4 _ _ b 0 vl lg (by omega) W5 hit) Kl.trans (Kl.put (fun g hg => by have := hlt5 g hg; omega)) (Below.refl _ _) (fun _ => rfl) (WrI W i)
    (fun _ _ _ => False)
    (WrI.own W i _ (by omega)) (fun c => by rintro s X Y row hs _ _; exact hs)
    ⟨⟨b1, b2, b0⟩, hB5⟩
    (fun x a' W' => ∃ Bx, W.heap.size + 1 + 1 < Bx ∧ W'.heap[Bx]? = some (.cells #[.int .i64 x.2.mv, .int .i64 x.2.th, .int .i64 x.2.kd, .int .i64 x.2.ad, .int .u64 x.2.old, .int .u64 x.2.new, .int .u64 x.2.saw] 41 (0, 0)) ∧ a' = { tmps := #[Value.pointer (some { block := b, off := 0 }), Value.int IntKind.i64 (i : Int), undef, Value.pointer (some { block := W.heap.size, off := 0 }), Value.int IntKind.i64 0, Value.int IntKind.i64 0, Value.int IntKind.i64 0, Value.pointer (some { block := W.heap.size + 1, off := 0 }), Value.pointer (some { block := W.heap.size + 1 + 1, off := 0 }), Value.int .i64 (x.1 : Int), Value.pointer (some { block := Bx, off := 0 }), Value.pointer (some { block := b, off := 0 }), Value.int IntKind.i64 (i : Int), Value.bool true, Value.bool false, Value.pointer (some { block := b, off := 0 }), Value.func (Fn.func 27) #[] #[Value.pointer (some { block := W.heap.size + 1 + 1 + 1, off := 0 }), Value.pointer (some { block := W.heap.size + 1 + 1 + 1 + 1, off := 0 })], Value.int .i64 (x.1 : Int), Acc.val x.2, undef, undef, undef, undef, undef, undef, undef, undef, undef, undef, undef, undef, undef], defers := [] })
    (fun x a' => by
      rintro _ X Y row ⟨Bx, h1, h2, h3⟩ hg hr
      refine ⟨Bx, h1, (hg.block Bx (Array.getElem?_eq_some_iff.1 h2).1 (fun e => ?_)).trans h2, h3⟩
      obtain ⟨_, o, ho, hc⟩ := hr Bx e.symm
      rw [h2] at ho; cases ho; cases hc)
    ?assign ?body ?done ?stop
  case assign =>
    rintro l pre x Wb K hI hK
    have hlt5' := hI.2.size
    have hBx : W.heap.size + 1 + 1 < Wb.heap.size := hI.1.2.1.lt
    obtain ⟨x1, x2⟩ := x
    simp only [Acc.val]
    gi_wp2
    exact hK _ _ ((KeepsOthers.alloc _ _).from _) (Kl.below (n₀ := W.heap.size) ((Below.refl _ Wb).alloc hlt5' _) hlt5) ((WrI.own W i _ (Nat.le_refl _)).alloc _ hI) ⟨Wb.heap.size, hBx, heap_alloc_new _ _, rfl⟩
  case body =>
    rintro l pre x a' Wb hl ⟨r, hr⟩ ⟨⟨c1, c2, c3⟩, hBW⟩ ⟨Bx, hBx, bX, rfl⟩ hlen
    obtain ⟨x1, x2⟩ := x
    obtain ⟨y0, y1, y2, y3, y4, y5, y6⟩ := x2
    simp only [Acc.val] at bX ⊢
    have hsz := hBW.size
    have hltX : Bx < Wb.heap.size := (Array.getElem?_eq_some_iff.1 bX).1
    have k3 := c3.cell
    have r0 : Wb.cell? ⟨Bx, 0, none⟩ = some (.int .i64 y0) := by simp [World.cell?, bX]
    have r1 : Wb.cell? ⟨Bx, 1, none⟩ = some (.int .i64 y1) := by simp [World.cell?, bX]
    have r2 : Wb.cell? ⟨Bx, 2, none⟩ = some (.int .i64 y2) := by simp [World.cell?, bX]
    have r3 : Wb.cell? ⟨Bx, 3, none⟩ = some (.int .i64 y3) := by simp [World.cell?, bX]
    have r4 : Wb.cell? ⟨Bx, 4, none⟩ = some (.int .u64 y4) := by simp [World.cell?, bX]
    have r5 : Wb.cell? ⟨Bx, 5, none⟩ = some (.int .u64 y5) := by simp [World.cell?, bX]
    have r6 : Wb.cell? ⟨Bx, 6, none⟩ = some (.int .u64 y6) := by simp [World.cell?, bX]
    have sn := lastW_snoc (i : Int) pre (x1, ⟨y0, y1, y2, y3, y4, y5, y6⟩)
    simp only at sn
    cases he : (y3 == (i : Int))
    · have sn' : lastW (i : Int) (pre ++ [(x1, ⟨y0, y1, y2, y3, y4, y5, y6⟩)]) = lastW (i : Int) pre := by rw [sn, he]; simp
      replace sn' := Mr.hid sn'
      clear sn
      gi_wp2
      refine ⟨trivial, ?_⟩
      gi_wp2
      exact ⟨KeepsFrom.refl _ _, Kl.refl _ _ _, ⟨⟨by rw [sn'.out]; exact c1, by rw [sn'.out]; exact c2, c3⟩, hBW⟩⟩
    · have V := isWrite_any y0 y1 y2 y3 y4 y5 y6 Wb
      cases hw : wrt ⟨y0, y1, y2, y3, y4, y5, y6⟩
      · have sn' : lastW (i : Int) (pre ++ [(x1, ⟨y0, y1, y2, y3, y4, y5, y6⟩)]) = lastW (i : Int) pre := by rw [sn, he, hw]; simp
        rw [hw] at V
        replace sn' := Mr.hid sn'
        clear sn
        gi_wp2_with (refine ⟨trivial, ?_⟩; gi_at_call 30; refine (CallsIn.inRound l (callsIn_wide.2 V)).mono ?_; rintro e w' ⟨rfl, rfl⟩)
        exact ⟨(KeepsOthers.alloc _ _).from _, Kl.below (n₀ := W.heap.size) ((Below.refl _ Wb).alloc hsz _) hlt5, ⟨⟨by rw [sn'.out]; exact c1.alloc _, by rw [sn'.out]; exact c2.alloc _, c3.alloc _⟩, hBW.alloc hsz _⟩⟩
      · have sn' : lastW (i : Int) (pre ++ [(x1, ⟨y0, y1, y2, y3, y4, y5, y6⟩)]) = (y1, (x1 : Int)) := by rw [sn, he, hw]; simp
        rw [hw] at V
        replace sn' := Mr.hid sn'
        clear sn
        have q1 := fun o => (c1.alloc o).cell
        have q2 := fun o => (c2.alloc o).cell
        have f1 := fun o => (c1.alloc o).frozen
        have f2 := fun o => (c2.alloc o).frozen
        have q1' : ∀ o, (Wb.alloc o).cell? ⟨Bx, 1, none⟩ = some (.int .i64 y1) := fun o => by rw [World.cell?_alloc_past _ _ _ hltX]; exact r1
        have fin : ∀ o : Obj, WrI W i (pre ++ [(x1, ⟨y0, y1, y2, y3, y4, y5, y6⟩)]) (((Wb.alloc o).setCell ⟨W.heap.size + 1, 0, none⟩ (.int .i64 y1)).setCell ⟨W.heap.size + 1 + 1, 0, none⟩ (.int .i64 (x1 : Int))) ∧ KeepsOthers Wb (((Wb.alloc o).setCell ⟨W.heap.size + 1, 0, none⟩ (.int .i64 y1)).setCell ⟨W.heap.size + 1 + 1, 0, none⟩ (.int .i64 (x1 : Int))) ∧ Below W.heap.size Wb (((Wb.alloc o).setCell ⟨W.heap.size + 1, 0, none⟩ (.int .i64 y1)).setCell ⟨W.heap.size + 1 + 1, 0, none⟩ (.int .i64 (x1 : Int))) := fun o => by
          have oth : ∀ {X : World} {B C t : Nat} {u : Value} (v : Value), Boxed X B t u → B ≠ C → Boxed (X.setCell ⟨C, 0, none⟩ v) B t u := fun {X B C t u} v hx hne => (Below.heap_setCell X ⟨C, 0, none⟩ v B hne).trans hx
          refine ⟨⟨⟨?_, ?_, ?_⟩, ?_⟩, ?_, ?_⟩
          · rw [sn'.out]; exact oth _ ((c1.alloc o).set _) (by omega)
          · rw [sn'.out]; exact (oth _ (c2.alloc o) (by omega)).set _
          · exact oth _ (oth _ (c3.alloc o) (by omega)) (by omega)
          · exact ((hBW.alloc hsz o).setCell (p := ⟨W.heap.size + 1, 0, none⟩) (by simp) _).setCell (p := ⟨W.heap.size + 1 + 1, 0, none⟩) (by simp; omega) _
          · exact ((KeepsOthers.alloc _ _).trans (KeepsOthers.setCell _ _ _)).trans (KeepsOthers.setCell _ _ _)
          · exact (((Below.refl _ Wb).alloc hsz o).setCell (p := ⟨W.heap.size + 1, 0, none⟩) (by simp) _).setCell (p := ⟨W.heap.size + 1 + 1, 0, none⟩) (by simp; omega) _
        clear c1 c2 c3 bX
        gi_wp2_with (refine ⟨trivial, ?_⟩; gi_at_call 30; refine (CallsIn.inRound l (callsIn_wide.2 V)).mono ?_; rintro e w' ⟨rfl, rfl⟩)
        obtain ⟨g1, g2, g3⟩ := fin (.cells #[.int .i64 y0, .int .i64 y1, .int .i64 y2, .int .i64 y3, .int .u64 y4, .int .u64 y5, .int .u64 y6] 41)
        exact ⟨g2.from _, Kl.below (n₀ := W.heap.size) g3 hlt5, g1⟩
  case done =>
    rintro D ys Wd hD rfl ⟨⟨c1, c2, c3⟩, hBW⟩ hK
    simp only [Int.toNat_zero, Nat.sub_zero] at c1 c2
    have k1 := c1.cell
    have k2 := c2.cell
    gi_wp2
    gi_region
    all_goals gi_wp2
    all_goals (refine ⟨by simp, .inl ⟨_, _, rfl, run_takeDeferred (w := Wd.drew) hK, ?_⟩⟩)
    all_goals (exact ⟨.tuple #[.int .i64 (lastW (i : Int) (ent lg 0 lg.length)).1, .int .i64 (lastW (i : Int) (ent lg 0 lg.length)).2, .int .i64 0], by simp [results, Try.f36, go_sem], rfl, hBW.trans ((Below.drew (Below.refl _ Wd)).trans (belowK_b (w := W) (Nat.le_refl _) Wd.drew D _ _ (by omega) hK rfl rfl))⟩)
  case stop =>
    rintro D c pre Wd hD _ hf _
    exact hf.elim
end Go.Proofs.Ytilbkminekojcaa.Me
