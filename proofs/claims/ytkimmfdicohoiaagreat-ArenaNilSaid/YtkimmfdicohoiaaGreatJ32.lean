import Derived.Test.YtkimmfdicohoiaaGreatJ31
import Derived.Test.YtkimmfdicohoiaaGreatJ17
import Derived.Test.YtkimmfdicohoiaaGreatJ13
import Derived.Laws.ResultCell
import Derived.ProofKit
import Derived.OpenShut
import Derived.Deep.Slices
import Derived.SizedLaws
/-
  slices.Clone of the calls and of the shifts.
-/
namespace Go.Proofs.YtkimmfdicohoiaaGreat.Ma
open Go.RowKit Go.Shelf Mr Me
theorem clc_length (l : List Cl) : (clc l).length = l.length * 9 := flat_length cl_len l
theorem clc_one (l : List Cl) : ∀ u ∈ clc l, u.oneCell' = true := by
  intro u hu
  simp only [clc, List.mem_flatMap] at hu
  obtain ⟨c, _, hu⟩ := hu
  simp [Cl.cells] at hu
  rcases hu with rfl | rfl | rfl | rfl | rfl | rfl | rfl | rfl | rfl <;> rfl
set_option maxRecDepth 100000 in
set_option maxHeartbeats 1000000 in
theorem cloneCl_any {w : World} {S : Nat → Prop} {v : Value} {cls : List Cl} (h : Has w S 90 9 v cls.length (clc cls)) (hn : cls.length ≤ 100000) :
    Calls Tryz.prog 92 #[v] w fun e w' => ∃ v', e = .returned v' ∧ Has w' (fun k => w.heap.size ≤ k) 90 9 v' cls.length (clc cls) ∧ Below w.heap.size w w' := by
  obtain ⟨i0, hi, hz0, hz1, hz2⟩ := info_parts info_call
  rcases h.2 with ⟨rfl, h0⟩ | ⟨g, cap, cur, rfl, _, hg, hle, _⟩
  · have en := fun (w : World) => Lib.run_eql_slice_nil (P := Tryz.prog) w 25 90 none 0 0 0 0 Tryz.underlying25
    have hc : cls = [] := List.eq_nil_of_length_eq_zero h0
    subst hc
    clear h
    go_enter Tryz.func92, Tryz.ntmps92
    go_wp2
    go_ret
    exact ⟨_, rfl, Has.nil _ _ _ _, Below.refl _ _⟩
  · have en := fun (w : World) => Lib.run_eql_slice_nil (P := Tryz.prog) w 25 90 (some ⟨g, 0, none⟩) cls.length cap 0 0 Tryz.underlying25
    have hgl := (Array.getElem?_eq_some_iff.1 hg).1
    have hc : ∀ o j u, (clc cls)[j]? = some u → (w.alloc o).cell? ((⟨g, 0, none⟩ : Addr).add j) = some u := fun o j u hu => by
      have hadd : (⟨g, 0, none⟩ : Addr).add j = ⟨g, j, none⟩ := by unfold Addr.add; split <;> simp_all
      rw [hadd, World.cell?_alloc_past _ _ _ hgl]
      exact h.cells (g := g) rfl j u hu
    have hl := clc_length cls
    have h1 := clc_one cls
    generalize clc cls = xs at *
    generalize cls.length = N at *
    replace hc := Mr.hid hc
    replace hl := Mr.hid hl
    replace h1 := Mr.hid h1
    clear h hg
    go_enter Tryz.func92, Tryz.ntmps92
    go_wp2_with (at_builtin; refine wpList_append_own _ rfl (.tmp 5) (.tmp 6) 25 rfl w.heap.size 90 i0 _ 9 72 Tryz.underlying25 hi hz0 hz1 hz2 rfl (by decide) (.slice (some ⟨w.heap.size, 0, none⟩) 0 0) 0 [] rfl (World.ownsRow_made w #[] 0 (Nat.le_refl _) (by decide) (by simp)) ⟨g, 0, none⟩ N cap xs rfl hl.out (hc.out _) h1.out (by unfold maxLen; omega) (by omega) (by simp) ?_; intro v' w1 hown hgrow hnil)
    go_ret
    rw [Nat.zero_add, List.nil_append] at hown
    exact ⟨_, rfl, Has.owns hown (fun _ h => h), ((Below.refl _ _).alloc (Nat.le_refl _) _).grown hgrow (by simp) (fun k hk => by simp [Value.ownBlock] at hk; omega)⟩
theorem shc_length (l : List Sh) : (shc l).length = l.length * 5 := flat_length sh_len l
theorem shc_one (l : List Sh) : ∀ u ∈ shc l, u.oneCell' = true := by
  intro u hu
  simp only [shc, List.mem_flatMap] at hu
  obtain ⟨c, _, hu⟩ := hu
  simp [Sh.cells] at hu
  rcases hu with rfl | rfl | rfl | rfl | rfl <;> rfl
set_option maxRecDepth 100000 in
set_option maxHeartbeats 1000000 in
theorem cloneSh_any {w : World} {S : Nat → Prop} {v : Value} {cls : List Sh} (h : Has w S 96 5 v cls.length (shc cls)) (hn : cls.length ≤ 100000) :
    Calls Tryz.prog 94 #[v] w fun e w' => ∃ v', e = .returned v' ∧ Has w' (fun k => w.heap.size ≤ k) 96 5 v' cls.length (shc cls) ∧ Below w.heap.size w w' := by
  obtain ⟨i0, hi, hz0, hz1, hz2⟩ := info_parts info_shift
  rcases h.2 with ⟨rfl, h0⟩ | ⟨g, cap, cur, rfl, _, hg, hle, _⟩
  · have en := fun (w : World) => Lib.run_eql_slice_nil (P := Tryz.prog) w 27 96 none 0 0 0 0 Tryz.underlying27
    have hc : cls = [] := List.eq_nil_of_length_eq_zero h0
    subst hc
    clear h
    go_enter Tryz.func94, Tryz.ntmps94
    go_wp2
    go_ret
    exact ⟨_, rfl, Has.nil _ _ _ _, Below.refl _ _⟩
  · have en := fun (w : World) => Lib.run_eql_slice_nil (P := Tryz.prog) w 27 96 (some ⟨g, 0, none⟩) cls.length cap 0 0 Tryz.underlying27
    have hgl := (Array.getElem?_eq_some_iff.1 hg).1
    have hc : ∀ o j u, (shc cls)[j]? = some u → (w.alloc o).cell? ((⟨g, 0, none⟩ : Addr).add j) = some u := fun o j u hu => by
      have hadd : (⟨g, 0, none⟩ : Addr).add j = ⟨g, j, none⟩ := by unfold Addr.add; split <;> simp_all
      rw [hadd, World.cell?_alloc_past _ _ _ hgl]
      exact h.cells (g := g) rfl j u hu
    have hl := shc_length cls
    have h1 := shc_one cls
    generalize shc cls = xs at *
    generalize cls.length = N at *
    replace hc := Mr.hid hc
    replace hl := Mr.hid hl
    replace h1 := Mr.hid h1
    clear h hg
    go_enter Tryz.func94, Tryz.ntmps94
    go_wp2_with (at_builtin; refine wpList_append_own _ rfl (.tmp 5) (.tmp 6) 27 rfl w.heap.size 96 i0 _ 5 40 Tryz.underlying27 hi hz0 hz1 hz2 rfl (by decide) (.slice (some ⟨w.heap.size, 0, none⟩) 0 0) 0 [] rfl (World.ownsRow_made w #[] 0 (Nat.le_refl _) (by decide) (by simp)) ⟨g, 0, none⟩ N cap xs rfl hl.out (hc.out _) h1.out (by unfold maxLen; omega) (by omega) (by simp) ?_; intro v' w1 hown hgrow hnil)
    go_ret
    rw [Nat.zero_add, List.nil_append] at hown
    exact ⟨_, rfl, Has.owns hown (fun _ h => h), ((Below.refl _ _).alloc (Nat.le_refl _) _).grown hgrow (by simp) (fun k hk => by simp [Value.ownBlock] at hk; omega)⟩
end Go.Proofs.YtkimmfdicohoiaaGreat.Ma
/-
  book.trace by its contract.
-/
namespace Go.Proofs.YtkimmfdicohoiaaGreat.Ma
open Go.RowKit Go.Shelf Mr Me
attribute [local go_sem] Oper.semAt_some
/-- What the loop's list holds. -/
def TrI (w : World) (pre : List (Nat × Acc)) (W : World) : Prop :=
  (∃ v, Boxed W (w.heap.size + 1) 26 v ∧ Has W (fun k => w.heap.size ≤ k) 94 7 v pre.length (lgc (pre.map (·.2)))) ∧ Below w.heap.size w W
theorem TrI.own (w : World) (n : Nat) (hB : w.heap.size ≤ n) : OwnFrom n (TrI w) := by
  refine OwnFrom.and (Own.from ?_ _) (ownFrom_below (Nat.le_refl _) hB)
  rintro s X Y row h1 hg hr
  exact has_own _ _ _ _ _ (fun s : List (Nat × Acc) => s.length) (fun s => lgc (s.map (·.2))) s X Y row h1 hg hr
set_option maxRecDepth 100000 in
set_option maxHeartbeats 1000000 in
theorem trace_any {W : World} {S : Nat → Prop} {bb b : Nat} {vw vl va : Value} {ws : List Int} {mv : Int} {lg : List Acc} {ah : List Int} (h : Mem W S b vw vl va ws mv lg ah) (hlg : lg.length ≤ 100000) (hb0 : W.cell? ⟨bb, 0, none⟩ = some (.pointer (some ⟨b, 0, none⟩))) :
    Calls Tryz.prog 93 #[.pointer (some ⟨bb, 0, none⟩)] W fun e w' => ∃ v, e = .returned v ∧ Has w' (fun k => W.heap.size ≤ k) 94 7 v lg.length (lgc lg) ∧ Below W.heap.size W w' := by
  obtain ⟨j0, hj, hy0, hy1, hy2⟩ := info_parts info_acc
  have C := callsIn_wide (n := 4) |>.2 (count_any h)
  have hbl : bb < W.heap.size := World.block_lt_of_cell? W ⟨bb, 0, none⟩ hb0
  have hmk : ∀ u : World, (Instr.makeSlice 26 (.int .i64 0) (.int .i64 (lg.length : Int))).run Tryz.prog u = .ok (.slice (some ⟨u.heap.size, 0, none⟩) 0 lg.length) (u.alloc (.cells (madeCells #[.int .i64 0, .int .i64 0, .int .i64 0, .int .i64 0, .int .u64 0, .int .u64 0, .int .u64 0] (lg.length * 7)) 94)) := fun u => by
    have h := run_make (P := Tryz.prog) u 26 94 j0 (.agg #[.int .i64 0, .int .i64 0, .int .i64 0, .int .i64 0, .int .u64 0, .int .u64 0, .int .u64 0]) Tryz.underlying26 hj hy0 .i64 .i64 (0 : Int) (lg.length : Int) (by omega) (by omega) (by rw [hy2]; omega) (by omega)
    have e : ((lg.length : Int)).toNat = lg.length := by omega
    rw [e, hy1] at h
    simpa [Value.cells] using h
  have c0 : ∀ o p, ((W.alloc o).alloc p).cell? ⟨bb, 0, none⟩ = some (.pointer (some ⟨b, 0, none⟩)) := fun o p => by rw [World.cell?_alloc_past _ _ _ (by simp; omega), World.cell?_alloc_past _ _ _ hbl]; exact hb0
  refine (callsIn_wide (n := 5)).1 ?_
  refine callsIn_of_wp_marks Tryz.func93 rfl trivial ?_ rfl
  simp only [Tryz.ntmps93, List.size_toArray, List.length_cons, List.length_nil, Nat.reduceAdd, Nat.reduceSub, Array.replicate_succ, Array.replicate_zero, List.push_toArray, List.append_toArray, List.nil_append, List.cons_append]
  gi_wp2_with (first | (refine ⟨trivial, ?_⟩; gi_at_call 120; refine C.mono ?_; clear C; rintro e w' ⟨rfl, hw⟩; obtain rfl := hw.symm) | (refine ⟨trivial, ?_⟩; gi_at_call 121; refine (callsIn_wide.2 (log_any _ _ _)).mono ?_; rintro e w' ⟨rfl, rfl⟩))
  obtain ⟨W4, hW4⟩ : ∃ W4, ((((W.alloc (.cells (madeCells #[.int .i64 0, .int .i64 0, .int .i64 0, .int .i64 0, .int .u64 0, .int .u64 0, .int .u64 0] (lg.length * 7)) 94)).alloc (.cells #[.slice (some ⟨W.heap.size, 0, none⟩) 0 lg.length] 26)).alloc (.cells #[.pointer (some ⟨b, 0, none⟩)] 101)).alloc (.cells #[.int .i64 0] 3)) = W4 := ⟨_, rfl⟩
  rw [hW4]
  have hB4 : Below W.heap.size W W4 := by
    rw [← hW4]
    exact ((((Below.refl _ W).alloc (Nat.le_refl _) _).alloc (by simp) _).alloc (by simp; omega) _).alloc (by simp; omega) _
  have hs4 : W4.heap.size = W.heap.size + 1 + 1 + 1 + 1 := by rw [← hW4]; simp
  have hr4 : W4.heap[W.heap.size]? = some (.cells (madeCells #[.int .i64 0, .int .i64 0, .int .i64 0, .int .i64 0, .int .u64 0, .int .u64 0, .int .u64 0] (lg.length * 7)) 94 (0, 0)) := by
    rw [← hW4]
    exact (Below.heap_alloc _ _ _ (by simp; omega)).trans ((Below.heap_alloc _ _ _ (by simp; omega)).trans ((Below.heap_alloc _ _ _ (by simp)).trans (heap_alloc_new W _)))
  have b1 : Boxed W4 (W.heap.size + 1) 26 (.slice (some ⟨W.heap.size, 0, none⟩) 0 lg.length) := by
    rw [← hW4]
    have := Boxed.new (W.alloc (.cells (madeCells #[.int .i64 0, .int .i64 0, .int .i64 0, .int .i64 0, .int .u64 0, .int .u64 0, .int .u64 0] (lg.length * 7)) 94)) 26 (.slice (some ⟨W.heap.size, 0, none⟩) 0 lg.length)
    rw [World.size_alloc] at this
    exact (this.alloc _).alloc _
  have b2 : Boxed W4 (W.heap.size + 1 + 1) 101 (.pointer (some ⟨b, 0, none⟩)) := by
    rw [← hW4]
    have := Boxed.new ((W.alloc (.cells (madeCells #[.int .i64 0, .int .i64 0, .int .i64 0, .int .i64 0, .int .u64 0, .int .u64 0, .int .u64 0] (lg.length * 7)) 94)).alloc (.cells #[.slice (some ⟨W.heap.size, 0, none⟩) 0 lg.length] 26)) 101 (.pointer (some ⟨b, 0, none⟩))
    rw [World.size_alloc, World.size_alloc] at this
    exact this.alloc _
  have b3 : Boxed W4 (W.heap.size + 1 + 1 + 1) 3 (.int .i64 0) := by
    rw [← hW4]
    have := Boxed.new (((W.alloc (.cells (madeCells #[.int .i64 0, .int .i64 0, .int .i64 0, .int .i64 0, .int .u64 0, .int .u64 0, .int .u64 0] (lg.length * 7)) 94)).alloc (.cells #[.slice (some ⟨W.heap.size, 0, none⟩) 0 lg.length] 26)).alloc (.cells #[.pointer (some ⟨b, 0, none⟩)] 101)) 3 (.int .i64 0)
    rw [World.size_alloc, World.size_alloc, World.size_alloc] at this
    exact this
  have hst : Has W4 (fun k => W.heap.size ≤ k) 94 7 (.slice (some ⟨W.heap.size, 0, none⟩) 0 lg.length) 0 [] := ⟨by simp, .inr ⟨_, _, _, rfl, Nat.le_refl _, hr4, Nat.zero_le _, by unfold maxLen; omega, Nat.le_of_eq (size_madeCells _ _).symm, by simp⟩⟩
  clear hW4 hr4 hmk c0
  have hlt5 : ∀ g, vl.ownBlock = some g → g < W.heap.size := fun g hg => (h.hl.lt g hg).2
  have hit : It W4 (W.heap.size + 1 + 1) (W.heap.size + 1 + 1 + 1) b 0 vl lg := ⟨b2.cell, b3.cell, (hB4.cell (p := ⟨b, 2, none⟩) h.lt).trans h.c2, (h.hl.below hB4).mono (fun _ _ => trivial), by omega⟩
  have hlgI : (lg.length : Int) ≤ 100000 := by omega
  refine wpIn_rangeFunc_ownH rfl (by omega) (gf := 140) (lb := #[.pointer (some ⟨W.heap.size + 1 + 1, 0, none⟩), .pointer (some ⟨W.heap.size + 1 + 1 + 1, 0, none⟩)]) rfl trivial (enters_of Tryz.func140 (by kernel_rfl) rfl)
    (log_stops 4 _ _ b 0 vl lg (by omega) W4 hit) Kl.trans (Kl.put (fun g hg => by have := hlt5 g hg; omega)) (Below.refl _ _) (fun _ => rfl) (TrI W)
    (fun _ _ _ => False)
    (TrI.own W _ (by omega)) (fun c => by rintro s X Y row hc hg hr; exact hc)
    ⟨⟨_, b1, hst⟩, hB4⟩
    (fun x a' W' => ∃ Bx, W.heap.size + 1 < Bx ∧ W'.heap[Bx]? = some (.cells #[.int .i64 x.2.mv, .int .i64 x.2.th, .int .i64 x.2.kd, .int .i64 x.2.ad, .int .u64 x.2.old, .int .u64 x.2.new, .int .u64 x.2.saw] 94 (0, 0)) ∧ a' = { tmps := #[Value.pointer (some ⟨bb, 0, none⟩), undef, Value.slice none 0 0, Value.pointer (some ⟨W.heap.size + 1, 0, none⟩), undef, Value.pointer (some ⟨Bx, 0, none⟩), Value.pointer (some ⟨bb, 0, none⟩), Value.pointer (some ⟨bb, 0, none⟩), Value.pointer (some ⟨bb, 0, none⟩), Value.pointer (some ⟨b, 0, none⟩), Value.int .i64 (lg.length : Int), Value.slice (some ⟨W.heap.size, 0, none⟩) 0 lg.length, Value.pointer (some ⟨bb, 0, none⟩), Value.pointer (some ⟨bb, 0, none⟩), Value.pointer (some ⟨bb, 0, none⟩), Value.pointer (some ⟨b, 0, none⟩), Value.func (Fn.func 140) #[] #[Value.pointer (some ⟨W.heap.size + 1 + 1, 0, none⟩), Value.pointer (some ⟨W.heap.size + 1 + 1 + 1, 0, none⟩)], Value.int .i64 (x.1 : Int), Acc.val x.2, undef, undef, undef, undef, undef], defers := [] })
    (fun x a' => by
      rintro _ X Y row ⟨Bx, h1, h2, h3⟩ hg hr
      refine ⟨Bx, h1, (hg.block Bx (Array.getElem?_eq_some_iff.1 h2).1 (fun e => ?_)).trans h2, h3⟩
      obtain ⟨_, o, ho, hc⟩ := hr Bx e.symm
      rw [h2] at ho; cases ho; cases hc)
    ?assign ?body ?done ?stop
  case assign =>
    rintro l pre x Wb K hI hK
    obtain ⟨⟨v, hbx, hrow⟩, hBW⟩ := id hI
    have hsz := hBW.size
    have hltb := hbx.lt
    obtain ⟨x1, x2⟩ := x
    simp only [Acc.val]
    gi_wp2
    exact hK _ _ ((KeepsOthers.alloc _ _).from _) (Kl.below (n₀ := W.heap.size) ((Below.refl _ Wb).alloc hsz _) hlt5) ((TrI.own W _ (Nat.le_refl _)).alloc _ hI) ⟨Wb.heap.size, hltb, heap_alloc_new _ _, rfl⟩
  case body =>
    rintro l pre x a' Wb hl ⟨r, hr⟩ hI ⟨Bx, hBx, bX, rfl⟩ hlen
    obtain ⟨⟨v, hbx, hrow⟩, hBW⟩ := hI
    obtain ⟨x1, x2⟩ := x
    obtain ⟨y0, y1, y2, y3, y4, y5, y6⟩ := x2
    obtain ⟨aq, cq, rfl, _⟩ := hrow.form
    have hlt1 := hbx.lt
    have hltX : Bx < Wb.heap.size := (Array.getElem?_eq_some_iff.1 bX).1
    have cq1 := hbx.cell
    have fq1 := hbx.frozen
    simp only [Acc.val] at bX ⊢
    have hle1 : pre.length + 1 ≤ lg.length := by omega
    have hpb : (pre.length + 1 + (pre.length + 1) / 4 + 192) * 56 ≤ 281474976710656 := by omega
    have hpx : pre.length + 1 ≤ maxLen := room_max hpb
    replace hpb := Mr.hid hpb
    have r0 : Wb.cell? ⟨Bx, 0, none⟩ = some (.int .i64 y0) := by simp [World.cell?, bX]
    have r1 : Wb.cell? ⟨Bx, 1, none⟩ = some (.int .i64 y1) := by simp [World.cell?, bX]
    have r2 : Wb.cell? ⟨Bx, 2, none⟩ = some (.int .i64 y2) := by simp [World.cell?, bX]
    have r3 : Wb.cell? ⟨Bx, 3, none⟩ = some (.int .i64 y3) := by simp [World.cell?, bX]
    have r4 : Wb.cell? ⟨Bx, 4, none⟩ = some (.int .u64 y4) := by simp [World.cell?, bX]
    have r5 : Wb.cell? ⟨Bx, 5, none⟩ = some (.int .u64 y5) := by simp [World.cell?, bX]
    have r6 : Wb.cell? ⟨Bx, 6, none⟩ = some (.int .u64 y6) := by simp [World.cell?, bX]
    have law1 : ∀ o, Has (Wb.alloc o) (fun k => W.heap.size ≤ k) 94 7 (.slice aq pre.length cq) pre.length (lgc (pre.map (·.2))) := fun o => hrow.alloc o
    have hs1 : ∀ o, W.heap.size ≤ (Wb.alloc o).heap.size := fun o => by simp; omega
    have step1 : ∀ {o : Obj} {w1 : World} {g cap : Nat}, Has w1 (fun k => W.heap.size ≤ k) 94 7 (.slice (some ⟨g, 0, none⟩) (pre.length + 1) cap) (pre.length + 1) (lgc (pre.map (·.2)) ++ [.int .i64 y0, .int .i64 y1, .int .i64 y2, .int .i64 y3, .int .u64 y4, .int .u64 y5, .int .u64 y6]) → (Wb.alloc o).grownBy w1 (Value.slice aq pre.length cq).ownBlock → _ := fun {o w1 g cap} hown hgrow =>
      boxHas (n₀ := W.heap.size) hbx (by decide) hrow (fun k hk => hk) hBW.size (by omega) ((Below.refl _ _).alloc (Nat.le_refl _) o) (KeepsOthers.alloc _ _) hown hgrow
    clear hrow hbx bX
    gi_wp2_with (gi_at_builtin; refine wpListIn_append_has _ rfl (.tmp 19) (.tmp 21) 26 rfl (fun k => W.heap.size ≤ k) 94 j0 _ 7 56 Tryz.underlying26 hj hy0 hy1 hy2 rfl (.slice aq pre.length cq) pre.length (lgc (pre.map (·.2))) rfl (law1 _) ⟨Wb.heap.size, 0, none⟩ 1 1 [.int .i64 y0, .int .i64 y1, .int .i64 y2, .int .i64 y3, .int .u64 y4, .int .u64 y5, .int .u64 y6] rfl rfl (newsAt Wb _ #[.int .i64 y0, .int .i64 y1, .int .i64 y2, .int .i64 y3, .int .u64 y4, .int .u64 y5, .int .u64 y6] 94 _ rfl rfl) (by simp [Value.oneCell']) (by omega) hpx hpb.out (hs1 _) ?_; intro g cap w1 hown hgrow hat; obtain ⟨q1, q2, q3, q4, q5, q6⟩ := step1 hown hgrow; have q1c := q1.cell; have q1f := q1.frozen; clear step1 hown hgrow law1)
    have hl1 : (pre ++ [(x1, (⟨y0, y1, y2, y3, y4, y5, y6⟩ : Acc))]).length = pre.length + 1 := by simp
    refine ⟨q4.from _, Kl.below (n₀ := W.heap.size) q5 hlt5, ⟨⟨_, q2, ?_⟩, hBW.trans q5⟩⟩
    rw [hl1, List.map_append, List.map_cons, List.map_nil, lgc_snoc]
    exact q3
  case done =>
    rintro D ys Wd hD rfl ⟨⟨v, hbx, hrow⟩, hBW⟩ hK
    have cq1 := hbx.cell
    obtain ⟨aq, cq, rfl, _⟩ := hrow.form
    have el : (ent lg 0 (lg.length - (0 : Int).toNat)).length = lg.length := by rw [ent_length]; simp
    have ea : (ent lg 0 (lg.length - (0 : Int).toNat)).map (·.2) = lg := by
      apply List.ext_getElem
      · simp [ent]
      · intro i h1 h2
        simp [ent, h2]
    simp only [Int.toNat_zero, Nat.sub_zero] at el ea hrow cq1
    rw [ea, el] at hrow
    rw [el] at cq1
    gi_wp2
    refine ⟨by simp, .inl ⟨_, _, rfl, run_takeDeferred (w := Wd) hK, ?_⟩⟩
    refine ⟨.slice aq lg.length cq, by simp [results, Tryz.f93, go_sem], _, rfl, ?_, hBW.trans (belowK_b (w := W) (Nat.le_refl _) Wd D _ _ (by omega) hK rfl rfl)⟩
    refine hrow.kept (fun k hk => World.putObj_heap_other (fun e => ?_)) (fun k hk => (hrow.lt k hk).1)
    subst e
    rcases hrow.2 with ⟨hv, _⟩ | ⟨g', _, cur', hv, _, hg', _⟩
    · rw [hv] at hk; simp [Value.ownBlock] at hk
    · rw [hv] at hk
      simp [Value.ownBlock] at hk
      rw [hk, hK] at hg'
      cases hg'
  case stop =>
    rintro D c pre Wd hD _ hf _
    exact hf.elim
end Go.Proofs.YtkimmfdicohoiaaGreat.Ma
/-
  book.run and Machine.Run by their contracts.
-/
namespace Go.Proofs.YtkimmfdicohoiaaGreat.Ma
open Go.RowKit Go.Shelf Mr Me
/-- A run's value. -/
def runV (vc vt vs vw : Value) : Value := .agg #[vc, vt, vs, vw]
/-- The run's box, as it was made. -/
def Bx (W : World) (w : World) : Prop := Below W.heap.size W w ∧ w.heap[W.heap.size]? = some (.cells #[.slice none 0 0, .slice none 0 0, .slice none 0 0, .slice none 0 0] 30 (0, 0))
theorem Bx.below {W w w' : World} (h : Bx W w) (hB : Below w.heap.size w w') : Bx W w' :=
  ⟨h.1.trans (hB.mono h.1.size), (hB.block _ (Array.getElem?_eq_some_iff.1 h.2).1).trans h.2⟩
theorem Bx.cells {W w : World} (h : Bx W w) : (∀ j, j < 4 → w.cell? ⟨W.heap.size, j, none⟩ = some (.slice none 0 0)) ∧ ∀ j, w.frozen? ⟨W.heap.size, j, none⟩ = false := by
  refine ⟨fun j hj => ?_, fun j => by simp [World.frozen?, h.2]⟩
  have hj' : j = 0 ∨ j = 1 ∨ j = 2 ∨ j = 3 := by omega
  rcases hj' with rfl | rfl | rfl | rfl <;> simp [World.cell?, h.2]
section
variable {W : World} {U S : Nat → Prop} {b bb bm : Nat} {vk vt vc vs vw vl va : Value} {ths : List Th} {n : Int} {cls : List Cl} {shs : List Sh} {ws : List Int} {mv : Int} {lg : List Acc} {ah : List Int}
set_option maxRecDepth 100000 in
set_option maxHeartbeats 8000000 in
theorem run_any (h : Mac W U S b bb bm vk vt vc vs vw vl va ths n cls shs ws mv lg ah) (hcl : cls.length ≤ 100000) (hsh : shs.length ≤ 100000) (hlg : lg.length ≤ 100000) :
    Calls Tryz.prog 65 #[.pointer (some ⟨bb, 0, none⟩)] W fun e w' => ∃ v1 v2 v3 v4, e = .returned (runV v1 v2 v3 v4) ∧ Has w' (fun k => W.heap.size ≤ k) 90 9 v1 cls.length (clc cls) ∧ Has w' (fun k => W.heap.size ≤ k) 94 7 v2 lg.length (lgc lg) ∧ Has w' (fun k => W.heap.size ≤ k) 96 5 v3 shs.length (shc shs) ∧ Has w' (fun k => W.heap.size ≤ k) 92 1 v4 ws.length (wrd ws) ∧ Below W.heap.size W w' := by
  obtain ⟨acv, ccv, hvc, _⟩ := h.cal.form
  obtain ⟨asv, csv, hvs, _⟩ := h.shf.form
  subst hvc hvs
  have C1 := fun (w1 : World) (hx : Bx W w1) => (cloneCl_any (h.below hx.1).cal hcl).mono (R' := fun e w' => ∃ v, e = .returned v ∧ Has w' (fun k => W.heap.size ≤ k) 90 9 v cls.length (clc cls) ∧ Below w1.heap.size w1 w' ∧ Bx W w' ∧ w'.cell? ⟨bb, 0, none⟩ = some (.pointer (some ⟨bm, 0, none⟩)) ∧ w'.cell? ⟨bb, 1, none⟩ = some (.slice acv cls.length ccv) ∧ w'.cell? ⟨bb, 2, none⟩ = some (.slice asv shs.length csv)) (by
    rintro e w' ⟨v, rfl, h1, h2⟩
    have hx' := hx.below h2
    exact ⟨v, rfl, h1.mono (fun k hk => Nat.le_trans hx.1.size hk), h2, hx', (h.below hx'.1).b0, (h.below hx'.1).b1, (h.below hx'.1).b2⟩)
  have C2 := fun (w1 : World) (hx : Bx W w1) => (trace_any (h.below hx.1).mem hlg (h.below hx.1).b0).mono (R' := fun e w' => ∃ v, e = .returned v ∧ Has w' (fun k => W.heap.size ≤ k) 94 7 v lg.length (lgc lg) ∧ Below w1.heap.size w1 w' ∧ Bx W w' ∧ w'.cell? ⟨bb, 0, none⟩ = some (.pointer (some ⟨bm, 0, none⟩)) ∧ w'.cell? ⟨bb, 1, none⟩ = some (.slice acv cls.length ccv) ∧ w'.cell? ⟨bb, 2, none⟩ = some (.slice asv shs.length csv)) (by
    rintro e w' ⟨v, rfl, h1, h2⟩
    have hx' := hx.below h2
    exact ⟨v, rfl, h1.mono (fun k hk => Nat.le_trans hx.1.size hk), h2, hx', (h.below hx'.1).b0, (h.below hx'.1).b1, (h.below hx'.1).b2⟩)
  have C3 := fun (w1 : World) (hx : Bx W w1) => (cloneSh_any (h.below hx.1).shf hsh).mono (R' := fun e w' => ∃ v, e = .returned v ∧ Has w' (fun k => W.heap.size ≤ k) 96 5 v shs.length (shc shs) ∧ Below w1.heap.size w1 w' ∧ Bx W w' ∧ w'.cell? ⟨bb, 0, none⟩ = some (.pointer (some ⟨bm, 0, none⟩)) ∧ w'.cell? ⟨bb, 1, none⟩ = some (.slice acv cls.length ccv) ∧ w'.cell? ⟨bb, 2, none⟩ = some (.slice asv shs.length csv)) (by
    rintro e w' ⟨v, rfl, h1, h2⟩
    have hx' := hx.below h2
    exact ⟨v, rfl, h1.mono (fun k hk => Nat.le_trans hx.1.size hk), h2, hx', (h.below hx'.1).b0, (h.below hx'.1).b1, (h.below hx'.1).b2⟩)
  have C4 := fun (w1 : World) (hx : Bx W w1) => (words_any (h.below hx.1).mem).mono (R' := fun e w' => ∃ v, e = .returned v ∧ Has w' (fun k => W.heap.size ≤ k) 92 1 v ws.length (wrd ws) ∧ Below w1.heap.size w1 w' ∧ Bx W w' ∧ w'.cell? ⟨bb, 0, none⟩ = some (.pointer (some ⟨bm, 0, none⟩)) ∧ w'.cell? ⟨bb, 1, none⟩ = some (.slice acv cls.length ccv) ∧ w'.cell? ⟨bb, 2, none⟩ = some (.slice asv shs.length csv)) (by
    rintro e w' ⟨v, rfl, h1, h2⟩
    have hx' := hx.below h2
    exact ⟨v, rfl, h1.mono (fun k hk => Nat.le_trans hx.1.size hk), h2, hx', (h.below hx'.1).b0, (h.below hx'.1).b1, (h.below hx'.1).b2⟩)
  have hx0 : Bx W (W.alloc (.cells #[.slice none 0 0, .slice none 0 0, .slice none 0 0, .slice none 0 0] 30)).drew := ⟨((Below.refl _ _).alloc (Nat.le_refl _) _).drew, heap_alloc_new W _⟩
  have e0 : (W.alloc (.cells #[.slice none 0 0, .slice none 0 0, .slice none 0 0, .slice none 0 0] 30)).cell? ⟨bb, 0, none⟩ = some (.pointer (some ⟨bm, 0, none⟩)) := (h.below hx0.1).b0
  have e1 : (W.alloc (.cells #[.slice none 0 0, .slice none 0 0, .slice none 0 0, .slice none 0 0] 30)).cell? ⟨bb, 1, none⟩ = some (.slice acv cls.length ccv) := (h.below hx0.1).b1
  have e2 : (W.alloc (.cells #[.slice none 0 0, .slice none 0 0, .slice none 0 0, .slice none 0 0] 30)).cell? ⟨bb, 2, none⟩ = some (.slice asv shs.length csv) := (h.below hx0.1).b2
  have hne : W.heap.size ≠ bb := by have := h.ltb; omega
  clear h
  replace C1 := Mr.hid C1
  replace C2 := Mr.hid C2
  replace C3 := Mr.hid C3
  replace C4 := Mr.hid C4
  go_enter Tryz.func65, Tryz.ntmps65
  go_wp2
  replace hx0 := Mr.hid hx0
  go_region_held3 (fun w' => w'.cell? ⟨bb, 0, none⟩ = some (.pointer (some ⟨bm, 0, none⟩)) ∧ w'.cell? ⟨bb, 1, none⟩ = some (.slice acv cls.length ccv) ∧ w'.cell? ⟨bb, 2, none⟩ = some (.slice asv shs.length csv)) (go_keep)
    (first
      | (go_at_call 92; refine (C1.out _ hx0.out).mono ?_; clear C1; rintro e w1 ⟨v1, rfl, hv1, hB1, hx1, f0, f1, f2⟩; obtain ⟨p1, q1, rfl, _⟩ := hv1.form; replace hx1 := Mr.hid hx1; replace hv1 := Mr.hid hv1; replace hB1 := Mr.hid hB1)
      | (go_at_call 93; refine (C2.out _ hx1.out).mono ?_; clear C2; rintro e w2 ⟨v2, rfl, hv2, hB2, hx2, g0, g1, g2⟩; obtain ⟨p2, q2, rfl, _⟩ := hv2.form; replace hx2 := Mr.hid hx2; replace hv2 := Mr.hid hv2; replace hB2 := Mr.hid hB2)
      | (go_at_call 94; refine (C3.out _ hx2.out).mono ?_; clear C3; rintro e w3 ⟨v3, rfl, hv3, hB3, hx3, j0, j1, j2⟩; obtain ⟨p3, q3, rfl, _⟩ := hv3.form; replace hx3 := Mr.hid hx3; replace hv3 := Mr.hid hv3; replace hB3 := Mr.hid hB3)
      | (go_at_call 95; refine (C4.out _ hx3.out).mono ?_; clear C4; rintro e w4 ⟨v4, rfl, hv4, hB4, hx4, i0, i1, i2⟩; obtain ⟨p4, q4, rfl, _⟩ := hv4.form; obtain ⟨kc, kz⟩ := hx4.cells; have kc0 := kc 0 (by decide); have kc1 := kc 1 (by decide); have kc2 := kc 2 (by decide); have kc3 := kc 3 (by decide); clear kc; replace hx4 := Mr.hid hx4; replace hv4 := Mr.hid hv4; replace hB4 := Mr.hid hB4))
  obtain ⟨W5, hW5⟩ : ∃ W5, (((w4.setCell ⟨W.heap.size, 0, none⟩ (.slice p1 cls.length q1)).setCell ⟨W.heap.size, 1, none⟩ (.slice p2 lg.length q2)).setCell ⟨W.heap.size, 2, none⟩ (.slice p3 shs.length q3)).setCell ⟨W.heap.size, 3, none⟩ (.slice p4 ws.length q4) = W5 := ⟨_, rfl⟩
  have hb5 : W5.heap[W.heap.size]? = some (.cells #[.slice p1 cls.length q1, .slice p2 lg.length q2, .slice p3 shs.length q3, .slice p4 ws.length q4] 30 (0, 0)) := by
    rw [← hW5, setBlk (setBlk (setBlk (setBlk hx4.out.2 0 _) 1 _) 2 _) 3 _]
    rfl
  have ho5 : ∀ k, k ≠ W.heap.size → W5.heap[k]? = w4.heap[k]? := fun k hk => by
    rw [← hW5, Below.heap_setCell _ _ _ k hk, Below.heap_setCell _ _ _ k hk, Below.heap_setCell _ _ _ k hk, Below.heap_setCell _ _ _ k hk]
  have hB5 : Below W.heap.size W W5 := by
    rw [← hW5]
    exact (((hx4.out.1.setCell (p := ⟨W.heap.size, 0, none⟩) (Nat.le_refl _) _).setCell (p := ⟨W.heap.size, 1, none⟩) (Nat.le_refl _) _).setCell (p := ⟨W.heap.size, 2, none⟩) (Nat.le_refl _) _).setCell (p := ⟨W.heap.size, 3, none⟩) (Nat.le_refl _) _
  have keep : ∀ {e size m : Nat} {v : Value} {xs : List Value}, e ≠ 30 → Has w4 (fun k => W.heap.size ≤ k) e size v m xs → Has W5 (fun k => W.heap.size ≤ k) e size v m xs := fun {e size m v xs} hne hh =>
    hh.kept (fun k hk => ho5 k (fun e' => not_row hx4.out.2 hh hne.symm (e' ▸ hk))) (fun k hk => (hh.lt k hk).1)
  have r1 := keep (by decide) (((hv1.out.below hB2.out).below hB3.out).below hB4.out)
  have r2 := keep (by decide) ((hv2.out.below hB3.out).below hB4.out)
  have r3 := keep (by decide) (hv3.out.below hB4.out)
  have r4 := keep (by decide) hv4.out
  have d0 : W5.cell? ⟨W.heap.size, 0, none⟩ = some (.slice p1 cls.length q1) := by simp [World.cell?, hb5]
  have d1 : W5.cell? ⟨W.heap.size, 1, none⟩ = some (.slice p2 lg.length q2) := by simp [World.cell?, hb5]
  have d2 : W5.cell? ⟨W.heap.size, 2, none⟩ = some (.slice p3 shs.length q3) := by simp [World.cell?, hb5]
  have d3 : W5.cell? ⟨W.heap.size, 3, none⟩ = some (.slice p4 ws.length q4) := by simp [World.cell?, hb5]
  rw [hW5]
  clear hW5 keep ho5 hb5 kc0 kc1 kc2 kc3 kz i0 i1 i2
  replace r1 := Mr.hid r1
  replace r2 := Mr.hid r2
  replace r3 := Mr.hid r3
  replace r4 := Mr.hid r4
  go_wp2
  refine bodyPost_ret (v := runV (.slice p1 cls.length q1) (.slice p2 lg.length q2) (.slice p3 shs.length q3) (.slice p4 ws.length q4)) (by simp [results, Tryz.f65, go_sem, d0, d1, d2, d3, runV]) rfl ?_
  exact ⟨_, _, _, _, rfl, r1.out, r2.out, r3.out, r4.out, hB5⟩
end
section
variable {W : World} {U S : Nat → Prop} {q : Ph} {vl va : Value} {s : Ss} {X : Nat → Obj → Prop}
set_option maxRecDepth 100000 in
set_option maxHeartbeats 1000000 in
theorem runM_any (hM : Mch W U S q vl va s X) (n2 : s.cls.length ≤ 100000) (n3 : s.lg.length ≤ 100000) (n4 : s.shs.length ≤ 100000) :
    Calls Tryz.prog 20 #[.pointer (some ⟨q.b, 0, none⟩)] W fun e w' => ∃ v1 v2 v3 v4, e = .returned (runV v1 v2 v3 v4) ∧ Has w' (fun k => W.heap.size ≤ k) 90 9 v1 s.cls.length (clc s.cls) ∧ Has w' (fun k => W.heap.size ≤ k) 94 7 v2 s.lg.length (lgc s.lg) ∧ Has w' (fun k => W.heap.size ≤ k) 96 5 v3 s.shs.length (shc s.shs) ∧ Has w' (fun k => W.heap.size ≤ k) 92 1 v4 s.ws.length (wrd s.ws) ∧ Below W.heap.size W w' := by
  have hB0 := (Below.refl W.heap.size W).alloc (Nat.le_refl _) (.cells #[.slice none 0 0, .slice none 0 0, .slice none 0 0, .slice none 0 0] 30)
  have hM1 := hM.below hB0
  have C := made_yes hM1
  have hm := hM1.2
  have D := run_any hm n2 n4 n3
  have m3 := hm.m3
  have hbx : (W.alloc (.cells #[.slice none 0 0, .slice none 0 0, .slice none 0 0, .slice none 0 0] 30)).heap[W.heap.size]? = some (.cells #[.slice none 0 0, .slice none 0 0, .slice none 0 0, .slice none 0 0] 30 (0, 0)) := heap_alloc_new W _
  have hsz : (W.alloc (.cells #[.slice none 0 0, .slice none 0 0, .slice none 0 0, .slice none 0 0] 30)).heap.size = W.heap.size + 1 := by simp
  have cellB := fun (w2 : World) (hB : Below (W.heap.size + 1) (W.alloc (.cells #[.slice none 0 0, .slice none 0 0, .slice none 0 0, .slice none 0 0] 30)) w2) => (show Bx W w2 from ⟨hB0.trans (hB.mono (by omega)), (hB.block _ (by omega)).trans hbx⟩)
  rw [hsz] at D
  replace hM1 := Mr.hid hM1
  replace hm := Mr.hid hm
  replace hM := Mr.hid hM
  clear hbx hsz
  go_enter Tryz.func20, Tryz.ntmps20
  go_wp2_with (first | (go_at_call 56; refine C.mono ?_; clear C; rintro e w' ⟨rfl, hw⟩; obtain rfl := hw.symm) | (go_at_call 65; refine D.mono ?_; clear D; rintro e w2 ⟨v1, v2, v3, v4, rfl, hv1, hv2, hv3, hv4, hB2⟩; have hx2 := cellB w2 hB2; obtain ⟨kc, kz⟩ := hx2.cells; have kc0 := kc 0 (by decide); have kc1 := kc 1 (by decide); have kc2 := kc 2 (by decide); have kc3 := kc 3 (by decide); clear kc; obtain ⟨p1, q1, rfl, _⟩ := hv1.form; obtain ⟨p2, q2, rfl, _⟩ := hv2.form; obtain ⟨p3, q3, rfl, _⟩ := hv3.form; obtain ⟨p4, q4, rfl, _⟩ := hv4.form; replace hx2 := Mr.hid hx2; unfold runV))
  obtain ⟨W5, hW5⟩ : ∃ W5, (((w2.setCell ⟨W.heap.size, 0, none⟩ (.slice p1 s.cls.length q1)).setCell ⟨W.heap.size, 1, none⟩ (.slice p2 s.lg.length q2)).setCell ⟨W.heap.size, 2, none⟩ (.slice p3 s.shs.length q3)).setCell ⟨W.heap.size, 3, none⟩ (.slice p4 s.ws.length q4) = W5 := ⟨_, rfl⟩
  have hb5 : W5.heap[W.heap.size]? = some (.cells #[.slice p1 s.cls.length q1, .slice p2 s.lg.length q2, .slice p3 s.shs.length q3, .slice p4 s.ws.length q4] 30 (0, 0)) := by
    rw [← hW5, setBlk (setBlk (setBlk (setBlk hx2.out.2 0 _) 1 _) 2 _) 3 _]
    rfl
  have ho5 : ∀ k, k ≠ W.heap.size → W5.heap[k]? = w2.heap[k]? := fun k hk => by
    rw [← hW5, Below.heap_setCell _ _ _ k hk, Below.heap_setCell _ _ _ k hk, Below.heap_setCell _ _ _ k hk, Below.heap_setCell _ _ _ k hk]
  have hB5 : Below W.heap.size W W5 := by
    rw [← hW5]
    exact (((hx2.out.1.setCell (p := ⟨W.heap.size, 0, none⟩) (Nat.le_refl _) _).setCell (p := ⟨W.heap.size, 1, none⟩) (Nat.le_refl _) _).setCell (p := ⟨W.heap.size, 2, none⟩) (Nat.le_refl _) _).setCell (p := ⟨W.heap.size, 3, none⟩) (Nat.le_refl _) _
  have keep : ∀ {e size m : Nat} {v : Value} {xs : List Value}, Has w2 (fun k => W.heap.size + 1 ≤ k) e size v m xs → Has W5 (fun k => W.heap.size ≤ k) e size v m xs := fun {e size m v xs} hh =>
    hh.kept (fun k hk => ho5 k (fun e' => by have := (hh.lt k hk).1; omega)) (fun k hk => by have := (hh.lt k hk).1; omega)
  have d0 : W5.cell? ⟨W.heap.size, 0, none⟩ = some (.slice p1 s.cls.length q1) := by simp [World.cell?, hb5]
  have d1 : W5.cell? ⟨W.heap.size, 1, none⟩ = some (.slice p2 s.lg.length q2) := by simp [World.cell?, hb5]
  have d2 : W5.cell? ⟨W.heap.size, 2, none⟩ = some (.slice p3 s.shs.length q3) := by simp [World.cell?, hb5]
  have d3 : W5.cell? ⟨W.heap.size, 3, none⟩ = some (.slice p4 s.ws.length q4) := by simp [World.cell?, hb5]
  rw [hW5]
  refine bodyPost_ret (v := runV (.slice p1 s.cls.length q1) (.slice p2 s.lg.length q2) (.slice p3 s.shs.length q3) (.slice p4 s.ws.length q4)) (by simp [results, Tryz.f20, go_sem, d0, d1, d2, d3, runV]) rfl ?_
  exact ⟨_, _, _, _, rfl, keep hv1, keep hv2, keep hv3, keep hv4, hB5⟩
end
end Go.Proofs.YtkimmfdicohoiaaGreat.Ma
/-
  MOVES as they lie in the world.
-/
namespace Go.Proofs.YtkimmfdicohoiaaGreat.Ma
open Go.RowKit Go.Shelf Mr Me
/-- A move. -/
structure Mv where
  th : Int
  op : Int
  arg : Int
  data : Int
def noMv : Mv := ⟨0, 0, 0, 0⟩
/-- The slice value .slice a n cap reads as the moves ms. -/
def MvAt (W : World) (a : Option Addr) (n : Nat) (ms : List Mv) : Prop :=
  n = ms.length ∧ (ms = [] ∨ ∃ b off, a = some ⟨b, off, none⟩ ∧ b < W.heap.size ∧ ∀ j, j < ms.length →
    W.cell? ⟨b, off + j * 4, none⟩ = some (.int .i64 (ms[j]?.getD noMv).th) ∧ W.cell? ⟨b, off + j * 4 + 1, none⟩ = some (.int .i64 (ms[j]?.getD noMv).op) ∧ W.cell? ⟨b, off + j * 4 + 2, none⟩ = some (.int .i64 (ms[j]?.getD noMv).arg) ∧ W.cell? ⟨b, off + j * 4 + 3, none⟩ = some (.int .i64 (ms[j]?.getD noMv).data))
theorem MvAt.below {W W' : World} {a : Option Addr} {n : Nat} {ms : List Mv} (h : MvAt W a n ms) (hB : Below W.heap.size W W') : MvAt W' a n ms := by
  refine ⟨h.1, ?_⟩
  rcases h.2 with h | ⟨b, off, rfl, hb, hc⟩
  · exact .inl h
  · refine .inr ⟨b, off, rfl, Nat.lt_of_lt_of_le hb hB.size, fun j hj => ?_⟩
    obtain ⟨c0, c1, c2, c3⟩ := hc j hj
    exact ⟨(hB.cell (p := ⟨b, _, none⟩) hb).trans c0, (hB.cell (p := ⟨b, _, none⟩) hb).trans c1, (hB.cell (p := ⟨b, _, none⟩) hb).trans c2, (hB.cell (p := ⟨b, _, none⟩) hb).trans c3⟩
end Go.Proofs.YtkimmfdicohoiaaGreat.Ma
/-
  OPENING a row of moves that came in.
-/
namespace Go.Proofs.YtkimmfdicohoiaaGreat.Ma
open Go.ChangeShapes Go.WideShapes Go.ChangeAt Go.RowKit Go.Deep
open Mr Me
theorem cells_u64 : Tryz.prog.cellsOf 92 = 1 := by kernel_rfl
theorem cells_i64 : Tryz.prog.cellsOf 3 = 1 := by kernel_rfl
theorem cells_op : Tryz.prog.cellsOf 53 = 1 := by kernel_rfl
theorem cells_mv : Tryz.prog.cellsOf 55 = 4 := by kernel_rfl
theorem cells_lm : Tryz.prog.cellsOf 24 = 1 := by kernel_rfl
section
variable {H : Type} {enc : TypeId × Value → H} {w : World} {base : Nat} {spare : Nat → Bool} {held : Bool}
/-- The field number t of a struct whose fields are one cell each. -/
theorem field_int {n : Nat} {ty : TypeId} {fs : Array Field} {cs : List Value} {x : DataW H × List MemPlace} (hs : Tryz.prog.underlying ty = some (.struct fs)) (h : DataW.trod enc Tryz.prog w base spare held n ty cs = some x) (t : Nat) (f : Field) (k : IntKind) (hf : fs[t]? = some f) (ho : f.offset = t) (hc : Tryz.prog.cellsOf f.type = 1) (hk : Tryz.prog.underlying f.type = some (.int k)) :
    ∃ z, cs[t]? = some (Value.int k z) := by
  obtain ⟨xs, m, _, _, hl, hxl, hx⟩ := DataW.trod_struct hs h
  have q := hx t f hf
  rw [ho, hc] at q
  have ht : t < fs.size := (Array.getElem?_eq_some_iff.1 hf).1
  rw [List.getElem?_eq_getElem (by omega)] at q
  obtain ⟨z, hz, _, _⟩ := DataW.trod_int hk q
  refine ⟨z, ?_⟩
  have : ((cs.drop t).take 1)[0]? = some (.int k z) := by rw [hz]; rfl
  rw [List.getElem?_take] at this
  simpa using this
theorem add_add (a : Addr) (i j : Nat) (v : Value) (h : w.cell? ((a.add i).add j) = some v) (ha : a.spot = none) : w.cell? ⟨a.block, a.off + i + j, none⟩ = some v := by
  obtain ⟨b, o, s⟩ := a
  simp at ha
  subst ha
  have e1 : ∀ (o i : Nat), (⟨b, o, none⟩ : Addr).add i = ⟨b, o + i, none⟩ := fun o i => by unfold Addr.add; split <;> simp_all
  rw [e1, e1] at h
  exact h
theorem spot_of {a : Addr} {i j : Nat} {v : Value} (h : w.cell? ((a.add i).add j) = some v) (ha : i = 0) (hj : j = 0) : a.spot = none := by
  subst ha; subst hj
  have := World.cell?_spot h
  simpa [Addr.add] using this
theorem open_mvs {fuel : Nat} {cs : List Value} {x : DataW H × List MemPlace} (hf : DataW.trod enc Tryz.prog w base spare held fuel 24 cs = some x) :
    ∃ a n cap ms, cs = [.slice a n cap] ∧ MvAt w a n ms ∧ n ≤ cap := by
  rcases open_slice Tryz.underlying24 hf with ⟨hc, hx⟩ | ⟨ad, n, cap, m, k, D, Pl, hc, _, hl, _, hm, hx, hel⟩
  · exact ⟨none, 0, 0, [], hc, ⟨rfl, .inl rfl⟩, Nat.le_refl _⟩
  · have hle : n ≤ m := by rw [hm]; split <;> omega
    have each : ∀ i, i < n → ∃ o : Mv, w.cell? ((ad.add (i * 4)).add 0) = some (.int .i64 o.th) ∧ w.cell? ((ad.add (i * 4)).add 1) = some (.int .i64 o.op) ∧ w.cell? ((ad.add (i * 4)).add 2) = some (.int .i64 o.arg) ∧ w.cell? ((ad.add (i * 4)).add 3) = some (.int .i64 o.data) := by
      intro i hi
      obtain ⟨cs, h1, h2⟩ := hel i (by omega)
      rw [cells_mv] at h1
      obtain ⟨_, hcl, hce⟩ := World.cells?_some h1
      obtain ⟨z0, e0⟩ := field_int Tryz.underlying55 h2 0 _ .i64 rfl rfl cells_i64 Tryz.underlying3
      obtain ⟨z1, e1⟩ := field_int Tryz.underlying55 h2 1 _ .i64 rfl rfl cells_op Tryz.underlying53
      obtain ⟨z2, e2⟩ := field_int Tryz.underlying55 h2 2 _ .i64 rfl rfl cells_i64 Tryz.underlying3
      obtain ⟨z3, e3⟩ := field_int Tryz.underlying55 h2 3 _ .i64 rfl rfl cells_i64 Tryz.underlying3
      exact ⟨⟨z0, z1, z2, z3⟩, (hce 0 (by omega)).trans e0, (hce 1 (by omega)).trans e1, (hce 2 (by omega)).trans e2, (hce 3 (by omega)).trans e3⟩
    obtain ⟨f, hf'⟩ := Classical.axiomOfChoice (fun i => (if h : i < n then (by obtain ⟨o, ho⟩ := each i h; exact ⟨o, fun _ => ho⟩) else ⟨noMv, fun h' => absurd h' h⟩ : ∃ o : Mv, i < n → w.cell? ((ad.add (i * 4)).add 0) = some (.int .i64 o.th) ∧ w.cell? ((ad.add (i * 4)).add 1) = some (.int .i64 o.op) ∧ w.cell? ((ad.add (i * 4)).add 2) = some (.int .i64 o.arg) ∧ w.cell? ((ad.add (i * 4)).add 3) = some (.int .i64 o.data)))
    have hlen : ((List.range n).map f).length = n := by simp
    refine ⟨some ad, n, cap, (List.range n).map f, hc, ⟨hlen.symm, ?_⟩, hl⟩
    by_cases hn : n = 0
    · subst hn; exact .inl rfl
    · have hsp : ad.spot = none := spot_of (hf' 0 (by omega)).1 (by omega) rfl
      refine .inr ⟨ad.block, ad.off, by obtain ⟨_, _, s⟩ := ad; simp at hsp; subst hsp; rfl, ?_, fun j hj => ?_⟩
      · have := World.block_lt_of_cell? w _ (hf' 0 (by omega)).1
        rwa [blk_add, blk_add] at this
      · rw [hlen] at hj
        obtain ⟨c0, c1, c2, c3⟩ := hf' j hj
        have eo : ((List.range n).map f)[j]?.getD noMv = f j := by simp [hj]
        rw [eo]
        exact ⟨add_add ad (j * 4) 0 _ c0 hsp, add_add ad (j * 4) 1 _ c1 hsp, add_add ad (j * 4) 2 _ c2 hsp, add_add ad (j * 4) 3 _ c3 hsp⟩
end
set_option maxRecDepth 100000 in
theorem open_mvl {H : Type} {enc : TypeId × Value → H} {w : World} {base : Nat} {spare : Nat → Bool} {held : Bool} {r : Reach} {b0 : Nat} {v : Value} {d : DataW H} {p : List MemPlace} (hv : Value.okWide Tryz.prog w r b0 24 v) (h : DataW.Trod enc Tryz.prog w base spare held 24 v d p) :
    ∃ a n cap ms, v = .slice a n cap ∧ MvAt w a n ms ∧ n ≤ cap := by
  obtain ⟨a, n, cap, rfl⟩ := okWide_slice Tryz.underlying24 hv
  obtain ⟨fuel, hf⟩ := h
  obtain ⟨a', n', cap', ms, hc, hm, hn⟩ := open_mvs hf
  simp [Value.cells] at hc
  obtain ⟨rfl, rfl, rfl⟩ := hc
  exact ⟨_, _, _, ms, rfl, hm, hn⟩
end Go.Proofs.YtkimmfdicohoiaaGreat.Ma
