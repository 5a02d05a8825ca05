/-
  Back by its contract: a log that has something to take back.
-/
import Derived.Test.YtkfcfhgjhnmjlaaMemBack
import Derived.Test.YtkfcfhgjhnmjlaaMemWriter
import Derived.Test.YtkfcfhgjhnmjlaaMemRound
namespace Go.Proofs.Ytkfcfhgjhnmjlaa.Me
open Go.RowKit Go.Shelf Mr
attribute [local go_sem] Oper.semAt_some
theorem has_cut {w : World} {S : Nat → Prop} {e : TypeId} {size g n cap : Nat} {xs : List Value} (h : Has w S e size (.slice (some ⟨g, 0, none⟩) n cap) n xs) (m : Nat) (hm : m ≤ n) : Has w S e size (.slice (some ⟨g, 0, none⟩) m m) m (xs.take (m * size)) := by
  rcases h.2 with ⟨hv, _⟩ | ⟨g', cap', cur, hv, hS, hg, h1, h2, h3, h4⟩
  · cases hv
  · cases hv
    have hle : m * size ≤ n * size := Nat.mul_le_mul_right _ hm
    have hle2 : n * size ≤ cap * size := Nat.mul_le_mul_right _ h1
    refine ⟨by rw [List.length_take, h.1]; omega, .inr ⟨g, m, cur, rfl, hS, hg, Nat.le_refl _, by omega, by omega, ?_⟩⟩
    rw [← h4, List.take_take]
    congr 1
    omega
theorem wrd_take (ws : List Int) (m : Nat) : wrd (ws.take m) = (wrd ws).take m := by simp [wrd, List.map_take]
theorem lgc_take (lg : List Acc) (c : Nat) : lgc (lg.take c) = (lgc lg).take (c * 7) := by
  induction c generalizing lg with
  | zero => simp [lgc]
  | succ c ih =>
    cases lg with
    | nil => simp [lgc]
    | cons a l =>
      have e : lgc (a :: l) = a.cells ++ lgc l := rfl
      have el : a.cells.length = 7 := rfl
      rw [List.take_succ_cons, e, show lgc (a :: l.take c) = a.cells ++ lgc (l.take c) from rfl, ih, List.take_append, List.take_of_length_le (l := a.cells) (by rw [el]; omega), el, show (c + 1) * 7 - 7 = c * 7 by omega]
theorem Mem.setW {W : World} {S : Nat → Prop} {b : Nat} {vw vl va : Value} {ws : List Int} {mv : Int} {lg : List Acc} {ah : List Int} (h : Mem W S b vw vl va ws mv lg ah) {gw cw n i : Nat} (hvw : vw = .slice (some ⟨gw, 0, none⟩) n cw) (x : Int) :
    Mem (W.setCell ⟨gw, i, none⟩ (.int .u64 x)) S b vw vl va (ws.set i x) mv lg ah := by
  have hgb : gw ≠ b := fun e => h.bw (by rw [hvw, e]; rfl)
  have hlw : vl.ownBlock ≠ some gw := fun e => has_ne h.hl h.hw (by decide) gw e (by rw [hvw]; rfl)
  have haw : va.ownBlock ≠ some gw := fun e => h.ne gw (by rw [hvw]; rfl) e
  refine ⟨by rw [Below.heap_setCell _ _ _ b (fun e => hgb e.symm)]; exact h.blk, h.inb, ?_, h.hl.setCell _ _ hlw, h.ha.setCell _ _ haw, h.ne, by simpa using h.len⟩
  rw [wrd_set, List.length_set]
  obtain ⟨a, cap, e, _⟩ := h.hw.form
  have := h.hw
  rw [hvw] at this e ⊢
  cases e
  exact has_store this i _
set_option maxRecDepth 100000 in
set_option maxHeartbeats 1000000 in
theorem back_any {W : World} {S : Nat → Prop} {b g cap : Nat} {vw va : Value} {ws0 : List Int} {mv : Int} {lg : List Acc} (h : Mem W S b vw (.slice (some ⟨g, 0, none⟩) lg.length cap) va (play ws0 lg).1 mv lg (play ws0 lg).2) (hok : ∀ a ∈ lg, 0 ≤ a.ad ∧ a.ad < ws0.length) (c : Nat) (hc : c < lg.length) (hsm : lg.length ≤ 5026338869641) :
    Calls Try.prog 11 #[.pointer (some ⟨b, 0, none⟩), .int .i64 (c : Int)] W fun e w' => e = .returned (.int .i64 0) ∧ (∃ va', Mem w' S b vw (.slice (some ⟨g, 0, none⟩) c c) va' (play ws0 (lg.take c)).1 mv (lg.take c) (play ws0 (lg.take c)).2) ∧ Fr W w' (fun k => k = b ∨ vw.ownBlock = some k) := by
  have hB : ∀ o, Below W.heap.size W (W.alloc o) := fun o => (Below.refl _ _).alloc (Nat.le_refl _) o
  have C := fun o => callsIn_wide (n := 4) |>.2 (count_any (h.below (hB o)))
  obtain ⟨aa, ca, hva, hla⟩ := h.ha.form
  subst hva
  have hlt := h.lt
  have c2 : ∀ o, (W.alloc o).cell? ⟨b, 2, none⟩ = some (.slice (some ⟨g, 0, none⟩) lg.length cap) := fun o => by rw [World.cell?_alloc_past _ _ _ hlt]; exact h.c2
  have c3 : ∀ o, (W.alloc o).cell? ⟨b, 3, none⟩ = some (.slice aa (play ws0 lg).2.length ca) := fun o => by rw [World.cell?_alloc_past _ _ _ hlt]; exact h.c3
  have c22 : ∀ o p, ((W.alloc o).alloc p).cell? ⟨b, 2, none⟩ = some (.slice (some ⟨g, 0, none⟩) lg.length cap) := fun o p => by rw [World.cell?_alloc_past _ _ _ (by simp; omega)]; exact c2 o
  have hcn : lg.length ≤ cap := by obtain ⟨a', c', e, hle⟩ := h.hl.form; cases e; exact hle
  have hd1 : decide ((lg.length : Int) < (c : Int)) = false := by simp; omega
  have hd2 : decide (lg.length < c) = false := by simp; omega
  have hcc : c ≠ cap := by omega
  have hd0 : decide ((c : Int) < 0) = false := by simp
  refine (callsIn_wide (n := 5)).1 ?_
  refine callsIn_of_wp_marks Try.func11 rfl trivial ?_ rfl
  simp only [Try.ntmps11, List.size_toArray, List.length_cons, List.length_nil, Nat.reduceAdd, Nat.reduceSub, Array.replicate_succ, Array.replicate_zero, List.push_toArray, List.append_toArray, List.nil_append, List.cons_append]
  gi_wp2_with (first | (refine ⟨trivial, ?_⟩; gi_at_call 9; refine (C _).mono ?_; rintro e w' ⟨rfl, rfl⟩) | (refine ⟨trivial, ?_⟩; gi_at_call 20; refine (callsIn_wide.2 (bwd_any _ _ _ _)).mono ?_; rintro e w' ⟨rfl, rfl⟩))
  obtain ⟨W3, hW3⟩ : ∃ W3, (((W.alloc (.cells #[.pointer (some ⟨b, 0, none⟩)] 25)).alloc (.cells #[.int .i64 ((play ws0 lg).2.length : Int)] 3)).alloc (.cells #[.slice (some ⟨g, c * 7, none⟩) (lg.length - c) (cap - c)] 35)) = W3 := ⟨_, rfl⟩
  rw [hW3]
  have b0 : Boxed W3 W.heap.size 25 (.pointer (some ⟨b, 0, none⟩)) := by rw [← hW3]; exact ((Boxed.new W 25 _).alloc _).alloc _
  have b1 : Boxed W3 (W.heap.size + 1) 3 (.int .i64 ((play ws0 lg).2.length : Int)) := by
    rw [← hW3]
    have := Boxed.new (W.alloc (.cells #[.pointer (some ⟨b, 0, none⟩)] 25)) 3 (.int .i64 ((play ws0 lg).2.length : Int))
    rw [World.size_alloc] at this
    exact this.alloc _
  have b2 : Boxed W3 (W.heap.size + 1 + 1) 35 (.slice (some ⟨g, c * 7, none⟩) (lg.length - c) (cap - c)) := by
    rw [← hW3]
    have := Boxed.new ((W.alloc (.cells #[.pointer (some ⟨b, 0, none⟩)] 25)).alloc (.cells #[.int .i64 ((play ws0 lg).2.length : Int)] 3)) 35 (.slice (some ⟨g, c * 7, none⟩) (lg.length - c) (cap - c))
    rw [World.size_alloc, World.size_alloc] at this
    exact this
  have hB3 : Below W.heap.size W W3 := by
    rw [← hW3]
    exact (((Below.refl _ W).alloc (Nat.le_refl _) _).alloc (by simp) _).alloc (by simp; omega) _
  have hs3 : W3.heap.size = W.heap.size + 1 + 1 + 1 := by rw [← hW3]; simp
  clear hW3 c2 c3 c22 C
  have hdl : (lg.drop c).length = lg.length - c := by simp
  refine range_next (α := Nat × Acc) (gf := 26) (lb := #[.pointer (some ⟨W.heap.size + 1 + 1, 0, none⟩)]) rfl (by omega) (enters_of Try.func26 (by kernel_rfl) rfl) (encs := fun x : Nat × Acc => #[Value.int .i64 (x.1 : Int), Acc.val x.2]) (ys := bent (lg.drop c) (lg.drop c).length) (fun _ => rfl)
    (fun k W' => (Boxed W' W.heap.size 25 (.pointer (some ⟨b, 0, none⟩)) ∧ Boxed W' (W.heap.size + 1) 3 (.int .i64 ((play ws0 (lg.take (lg.length - k))).2.length : Int)) ∧ Boxed W' (W.heap.size + 1 + 1) 35 (.slice (some ⟨g, c * 7, none⟩) (lg.length - c) (cap - c))) ∧ Mem W' (fun k => S k ∧ k < W.heap.size) b vw (.slice (some ⟨g, 0, none⟩) lg.length cap) (.slice aa (play ws0 lg).2.length ca) (play ws0 (lg.take (lg.length - k))).1 mv lg (play ws0 lg).2 ∧ Fr W W' (fun k => k = b ∨ vw.ownBlock = some k))
    ?abides ?new ?start ?hands (fun x a' W' => ∃ Bx, W.heap.size + 1 + 1 < Bx ∧ W'.heap[Bx]? = some (.cells #[.int .i64 x.2.mv, .int .i64 x.2.th, .int .i64 x.2.kd, .int .i64 x.2.ad, .int .u64 x.2.old, .int .u64 x.2.new, .int .u64 x.2.saw] 41 (0, 0)) ∧ a' = { tmps := #[Value.pointer (some ⟨b, 0, none⟩), Value.int .i64 (c : Int), Value.pointer (some ⟨W.heap.size, 0, none⟩), undef, Value.int .i64 0, Value.pointer (some ⟨W.heap.size + 1, 0, none⟩), undef, Value.pointer (some ⟨Bx, 0, none⟩), Value.int .i64 (c : Int), Value.bool false, Value.bool false, Value.int .i64 (c : Int), Value.pointer (some ⟨b, 0, none⟩), Value.int .i64 (lg.length : Int), Value.bool false, Value.bool false, Value.pointer (some ⟨b, 0, none⟩), Value.bool false, Value.pointer (some ⟨b, 0, none⟩), Value.pointer (some ⟨b, 0, none⟩), Value.pointer (some ⟨b, 3, none⟩), Value.slice aa (play ws0 lg).2.length ca, Value.int .i64 ((play ws0 lg).2.length : Int), Value.pointer (some ⟨b, 0, none⟩), Value.pointer (some ⟨b, 0, none⟩), Value.pointer (some ⟨b, 2, none⟩), Value.slice (some ⟨g, 0, none⟩) lg.length cap, Value.int .i64 (c : Int), Value.slice (some ⟨g, c * 7, none⟩) (lg.length - c) (cap - c), Value.func (Fn.func 26) #[] #[Value.pointer (some ⟨W.heap.size + 1 + 1, 0, none⟩)], Value.int .i64 (x.1 : Int), Acc.val x.2, undef, undef, undef, undef, undef, undef, undef, undef, undef, undef, undef, undef, undef, undef, undef, undef, undef, undef, undef, undef, undef, undef, undef, undef, undef, undef, undef, undef, undef, undef, undef, undef, undef, undef, undef, undef, undef, undef], defers := [] }) ?ax ?assign ?body ?done
  case abides =>
    rintro k W' l o o' ⟨⟨h1, h2, h3⟩, hm, hf⟩ hl ho hoc
    have oth : ∀ {B t : Nat} {v : Value}, Boxed W' B t v → B < W3.heap.size → Boxed (W'.putObj l o') B t v := fun {B t v} hb hlt => (World.putObj_heap_other (by omega)).trans hb
    exact ⟨⟨oth h1 (by omega), oth h2 (by omega), oth h3 (by omega)⟩, hm.kept (fun k hk _ => World.putObj_heap_other (by omega)), Fr.put hf _ (by omega)⟩
  case new =>
    rintro W' o ⟨⟨h1, h2, h3⟩, hm, hf⟩
    exact ⟨⟨h1.alloc _, h2.alloc _, h3.alloc _⟩, hm.below ((Below.refl _ _).alloc (Nat.le_refl _) _), hf.alloc _⟩
  case start =>
    refine ⟨⟨b0, by simpa using b1, b2⟩, ?_, Fr.of_below hB3⟩
    have := h.narrow.below hB3
    simpa using this
  case hands =>
    rw [← hdl] at b2
    refine bwd_hands 4 _ g (c * 7) (cap - c) (lg.drop c) (by omega) (by omega) _ ?_
    rintro k W' ⟨⟨h1, h2, h3⟩, hm, hf⟩
    refine ⟨by rw [hdl]; exact h3.cell, fun j u hu => ?_⟩
    rw [lgc_drop] at hu
    exact hm.hl.cells (g := g) rfl _ _ hu
  case ax =>
    rintro x a' k W' l o o' ⟨Bx, q1, q2, q3⟩ hl ho hoc
    refine ⟨Bx, q1, (World.putObj_heap_other (fun e => ?_)).trans q2, q3⟩
    subst e
    rw [q2] at ho; cases ho; cases hoc
  case assign =>
    rintro l k x Wb K hx ⟨⟨h1, h2, h3⟩, hm, hf⟩ hK
    have hlt3 := h3.lt
    obtain ⟨x1, x2⟩ := x
    simp only [Acc.val]
    gi_wp2
    exact hK _ _ ((KeepsOthers.alloc _ _).from _) ⟨⟨h1.alloc _, h2.alloc _, h3.alloc _⟩, hm.below ((Below.refl _ _).alloc (Nat.le_refl _) _), hf.alloc _⟩ ⟨Wb.heap.size, hlt3, heap_alloc_new _ _, rfl⟩
  case body =>
    rintro l k x a' Wb hx ⟨⟨h1, h2, h3⟩, hm, hf⟩ ⟨Bx, hBx, bX, rfl⟩
    have hk : k < lg.length - c := by
      have := (List.getElem?_eq_some_iff.1 hx).1
      rw [bent_length, hdl] at this; exact this
    obtain ⟨m1, hm1⟩ : ∃ m1, m1 = lg.length - (k + 1) := ⟨_, rfl⟩
    have hm1l : m1 < lg.length := by omega
    have hx' : x = (lg.length - c - 1 - k, lg[m1]?.getD noAcc) := by
      have e : (bent (lg.drop c) (lg.drop c).length)[k]? = some (lg.length - c - 1 - k, (lg.drop c)[lg.length - c - 1 - k]?.getD noAcc) := by
        rw [hdl]; simp [bent, hk]
      rw [e] at hx
      rw [List.getElem?_drop, show c + (lg.length - c - 1 - k) = m1 by omega] at hx
      exact (Option.some.inj hx).symm
    subst hx'
    have ht : lg.take (lg.length - k) = lg.take m1 ++ [lg[m1]?.getD noAcc] := by
      rw [show lg.length - k = m1 + 1 by omega, List.take_add_one]
      simp [hm1l]
    have hmem : lg[m1]?.getD noAcc ∈ lg := by
      rw [List.getElem?_eq_getElem hm1l]; simp
    obtain ⟨ok0, ok1⟩ := hok _ hmem
    obtain ⟨rest, hrest⟩ := play_prefix ws0 lg (lg.length - k)
    rw [ht] at h2 hm hrest
    have psn := play_snoc ws0 (lg.take m1) (lg[m1]?.getD noAcc)
    have hundo := undo ws0 (lg.take m1) (lg[m1]?.getD noAcc)
    have hpl := play_length ws0 (lg.take m1)
    rw [← hm1]
    generalize lg.take m1 = lt at *
    generalize lg[m1]?.getD noAcc = y at *
    clear hx ht hmem
    obtain ⟨y0, y1, y2, y3, y4, y5, y6⟩ := y
    simp only [Acc.val] at bX ok0 ok1 ⊢
    have hltX : Bx < Wb.heap.size := (Array.getElem?_eq_some_iff.1 bX).1
    have r0 : Wb.cell? ⟨Bx, 0, none⟩ = some (.int .i64 y0) := by simp [World.cell?, bX]
    have r1 : Wb.cell? ⟨Bx, 1, none⟩ = some (.int .i64 y1) := by simp [World.cell?, bX]
    have r2 : Wb.cell? ⟨Bx, 2, none⟩ = some (.int .i64 y2) := by simp [World.cell?, bX]
    have r3 : Wb.cell? ⟨Bx, 3, none⟩ = some (.int .i64 y3) := by simp [World.cell?, bX]
    have r4 : Wb.cell? ⟨Bx, 4, none⟩ = some (.int .u64 y4) := by simp [World.cell?, bX]
    have r5 : Wb.cell? ⟨Bx, 5, none⟩ = some (.int .u64 y5) := by simp [World.cell?, bX]
    have r6 : Wb.cell? ⟨Bx, 6, none⟩ = some (.int .u64 y6) := by simp [World.cell?, bX]
    have V := isWrite_any y0 y1 y2 y3 y4 y5 y6 Wb
    cases hw : wrt ⟨y0, y1, y2, y3, y4, y5, y6⟩
    · rw [hw] at V
      rw [psn, hw] at h2 hm
      simp only [Bool.false_eq_true, if_false] at h2 hm
      clear psn hundo hrest
      replace h2 := Mr.hid h2
      replace hm := Mr.hid hm
      gi_wp2_with (refine ⟨trivial, ?_⟩; gi_at_call 21; refine (CallsIn.inRound l (callsIn_wide.2 V)).mono ?_; rintro e w' ⟨rfl, rfl⟩)
      exact ⟨(KeepsOthers.alloc _ _).from _, ⟨h1.alloc _, h2.out.alloc _, h3.alloc _⟩, hm.out.below ((Below.refl _ _).alloc (Nat.le_refl _) _), hf.alloc _⟩
    · rw [hw] at V
      have hu := hundo hw ok0 ok1
      clear hundo
      simp only at psn hu
      rw [hw] at psn
      simp only [if_true] at psn
      obtain ⟨j, rfl⟩ : ∃ j : Nat, y3 = j := ⟨y3.toNat, by omega⟩
      simp only [Int.toNat_natCast] at psn hu
      rw [psn] at h2 hm hrest hu
      simp only at h2 hm hrest hu
      generalize (play ws0 lt).1 = P1 at *
      generalize (play ws0 lt).2 = P2 at *
      generalize hold : P1[j]?.getD 0 = old at *
      have hjl : j < (P1.set j y5).length := by simp; omega
      obtain ⟨gw, cw, hvw, hgS, hgl, _⟩ := hm.hw.there (by omega)
      subst hvw
      have hahl : (play ws0 lg).2.length = P2.length + 1 + rest.length := by rw [hrest]; simp; omega
      obtain ⟨ga, ca', hva', haS, hal, _⟩ := hm.ha.there (by omega)
      cases hva'
      have kw := hm.hw.cells (g := gw) rfl j _ (wrd_get _ j hjl)
      have fw := hm.hw.frozen (g := gw) rfl j
      have ka : Wb.cell? ⟨ga, P2.length, none⟩ = some (.int .u64 old) := by
        have := hm.ha.cells (g := ga) rfl P2.length (.int .u64 old) (by rw [hrest]; simp [wrd])
        exact this
      have km := h1.cell
      have kl := h2.cell
      have fl := h2.frozen
      have kc0 := hm.c0
      have kc3 := hm.c3
      have sz := h3.lt
      simp only [List.length_append, List.length_cons, List.length_nil] at kl
      have bl := hm.inb.2
      have gl := hgS.2
      have al := haS.2
      have past : ∀ {B o' : Nat} {v : Value} (o : Obj), B < Wb.heap.size → Wb.cell? ⟨B, o', none⟩ = some v → (Wb.alloc o).cell? ⟨B, o', none⟩ = some v := fun {B o' v} o hB hc => by rw [World.cell?_alloc_past _ _ _ hB]; exact hc
      have pastf : ∀ {B o' : Nat} (o : Obj), B < Wb.heap.size → Wb.frozen? ⟨B, o', none⟩ = false → (Wb.alloc o).frozen? ⟨B, o', none⟩ = false := fun {B o'} o hB hc => by rw [World.frozen?_alloc_past _ _ _ hB]; exact hc
      have kmA := fun o => past o h1.lt km
      have klA := fun o => past o h2.lt kl
      have flA := fun o => pastf o h2.lt fl
      have kc0A := fun o => past o hm.lt kc0
      have kc3A := fun o => past o hm.lt kc3
      have kwA := fun o => past o hgl kw
      have fwA := fun o => pastf o hgl fw
      have kaA := fun o => past o hal ka
      have r3A := fun o => past o hltX r3
      have e1 : W.heap.size + 1 ≠ b := by omega
      have e2 : W.heap.size + 1 ≠ gw := by omega
      have e3 : W.heap.size + 1 ≠ ga := by omega
      have e4 : W.heap.size + 1 ≠ Bx := by omega
      have jlt : j < (P1.set j y5).length := hjl
      have plt : P2.length < (play ws0 lg).2.length := by omega
      have nqs : (P2.length : Int) ≤ 5026338869641 := by have := play_ah_le ws0 lg; omega
      generalize (P1.set j y5)[j]?.getD 0 = old' at *
      clear past pastf hok hrest psn hu
      replace hm := Mr.hid hm
      replace hf := Mr.hid hf
      generalize hnl : (P1.set j y5).length = nn at *
      generalize hnp : (play ws0 lg).2.length = np at *
      generalize hnq : P2.length = nq at *
      replace hnl := Mr.hid hnl
      replace hnp := Mr.hid hnp
      replace hnq := Mr.hid hnq
      clear hahl
      gi_wp2_with (refine ⟨trivial, ?_⟩; gi_at_call 21; refine (CallsIn.inRound l (callsIn_wide.2 V)).mono ?_; rintro e w' ⟨rfl, rfl⟩)
      obtain ⟨Wc, hWc⟩ : ∃ Wc, (Wb.alloc (.cells #[.int .i64 y0, .int .i64 y1, .int .i64 y2, .int .i64 (j : Int), .int .u64 y4, .int .u64 y5, .int .u64 y6] 41)).setCell ⟨W.heap.size + 1, 0, none⟩ (.int .i64 (nq : Int)) = Wc := ⟨_, rfl⟩
      rw [hWc]
      have k1 : Wc.cell? ⟨W.heap.size, 0, none⟩ = some (.pointer (some ⟨b, 0, none⟩)) := by rw [← hWc, World.cell?_setCell_far _ _ _ _ (by simp)]; exact kmA _
      have k2 : Wc.cell? ⟨b, 0, none⟩ = some (.slice (some ⟨gw, 0, none⟩) nn cw) := by rw [← hWc, World.cell?_setCell_far _ _ _ _ e1]; exact kc0A _
      have k3 : Wc.cell? ⟨Bx, 3, none⟩ = some (.int .i64 (j : Int)) := by rw [← hWc, World.cell?_setCell_far _ _ _ _ e4]; exact r3A _
      have k4 : Wc.cell? ⟨b, 3, none⟩ = some (.slice (some ⟨ga, 0, none⟩) np ca) := by rw [← hWc, World.cell?_setCell_far _ _ _ _ e1]; exact kc3A _
      have k5 : Wc.cell? ⟨W.heap.size + 1, 0, none⟩ = some (.int .i64 (nq : Int)) := by rw [← hWc]; exact World.cell?_setCell_same _ _ _ (klA _)
      have k6 : Wc.cell? ⟨ga, nq, none⟩ = some (.int .u64 old) := by rw [← hWc, World.cell?_setCell_far _ _ _ _ e3]; exact kaA _
      have k7 : Wc.cell? ⟨gw, j, none⟩ = some (.int .u64 old') := by rw [← hWc, World.cell?_setCell_far _ _ _ _ e2]; exact kwA _
      have k8 : Wc.frozen? ⟨gw, j, none⟩ = false := by rw [← hWc, World.frozen?_setCell]; exact fwA _
      have q1 : Boxed Wc W.heap.size 25 (.pointer (some ⟨b, 0, none⟩)) := by rw [← hWc]; exact (h1.alloc _).other (by omega) _
      have q2 : Boxed Wc (W.heap.size + 1) 3 (.int .i64 (nq : Int)) := by rw [← hWc]; exact (h2.alloc _).set _
      have q3 : Boxed Wc (W.heap.size + 1 + 1) 35 (.slice (some ⟨g, c * 7, none⟩) (lg.length - c) (cap - c)) := by rw [← hWc]; exact (h3.alloc _).other (by omega) _
      have q4 : Mem Wc (fun k => S k ∧ k < W.heap.size) b (.slice (some ⟨gw, 0, none⟩) nn cw) (.slice (some ⟨g, 0, none⟩) lg.length cap) (.slice (some ⟨ga, 0, none⟩) np ca) (P1.set j y5) mv lg (play ws0 lg).2 := by
        rw [← hWc]
        refine (hm.out.below ((Below.refl _ _).alloc (Nat.le_refl _) _)).kept (fun k hk _ => Below.heap_setCell _ _ _ k (fun e => ?_))
        have := hk.2
        simp at e
        omega
      have q5 : Fr W Wc (fun k => k = b ∨ Value.ownBlock (.slice (some ⟨gw, 0, none⟩) nn cw) = some k) := by rw [← hWc]; exact (hf.out.alloc _).setCell _ _ (.inr (by simp))
      have q6 : KeepsFrom W3.heap.size Wb Wc := by rw [← hWc]; exact ((KeepsOthers.alloc _ _).trans (KeepsOthers.setCell _ _ _)).from _
      have gneb : gw ≠ b := fun e => hm.out.bw (by rw [e]; rfl)
      have gnea : gw ≠ ga := fun e => hm.out.ne gw rfl (by rw [e]; rfl)
      have gn1 : gw ≠ W.heap.size := by omega
      have gn2 : gw ≠ W.heap.size + 1 := by omega
      have gnx : gw ≠ Bx := by omega
      clear hWc kmA kc0A r3A kc3A klA kaA kwA fwA flA
      refine region_round (S := fun w' => w'.cell? ⟨W.heap.size, 0, none⟩ = some (.pointer (some ⟨b, 0, none⟩)) ∧ w'.cell? ⟨b, 0, none⟩ = some (.slice (some ⟨gw, 0, none⟩) nn cw) ∧ w'.cell? ⟨Bx, 3, none⟩ = some (.int .i64 (j : Int)) ∧ w'.cell? ⟨b, 3, none⟩ = some (.slice (some ⟨ga, 0, none⟩) np ca) ∧ w'.cell? ⟨W.heap.size + 1, 0, none⟩ = some (.int .i64 (nq : Int)) ∧ w'.cell? ⟨ga, nq, none⟩ = some (.int .u64 old)) (by kernel_rfl) ?lets (by kernel_rfl) ⟨k1, k2, k3, k4, k5, k6⟩ ?walk
      case lets =>
        rintro ⟨a, w, hq⟩
        have hq' : Exit.outgrown = Exit.normal := hq.1
        cases hq'
      case walk =>
        intro hS
        refine wpAnyH_take (i := 0) (v := .pointer (some ⟨b, 0, none⟩)) rfl (by kernel_rfl) (by kernel_rfl) (by kernel_rfl) (fun _ _ _ h => h) (Or.inl ⟨by rfl, fun w' hw => ?y0⟩) hS ?_
        case y0 =>
          obtain ⟨s1, s2, s3, s4, s5, s6⟩ := hw
          clear hS k1 k2 k3 k4 k5 k6 k7 k8
          go_simp
        refine wpAnyH_take (i := 1) (v := .pointer (some ⟨b, 0, none⟩)) rfl (by kernel_rfl) (by kernel_rfl) (by kernel_rfl) (fun _ _ _ h => h) (Or.inl ⟨by rfl, fun w' hw => ?y1⟩) hS ?_
        case y1 =>
          obtain ⟨s1, s2, s3, s4, s5, s6⟩ := hw
          clear hS k1 k2 k3 k4 k5 k6 k7 k8
          go_simp
        refine wpAnyH_take (i := 2) (v := .pointer (some ⟨b, 0, none⟩)) rfl (by kernel_rfl) (by kernel_rfl) (by kernel_rfl) (fun _ _ _ h => h) (Or.inl ⟨by rfl, fun w' hw => ?y2⟩) hS ?_
        case y2 =>
          obtain ⟨s1, s2, s3, s4, s5, s6⟩ := hw
          clear hS k1 k2 k3 k4 k5 k6 k7 k8
          go_simp
        refine wpAnyH_take (i := 3) (v := .slice (some ⟨gw, 0, none⟩) nn cw) rfl (by kernel_rfl) (by kernel_rfl) (by kernel_rfl) (fun _ _ _ h => h) (Or.inl ⟨by rfl, fun w' hw => ?y3⟩) hS ?_
        case y3 =>
          obtain ⟨s1, s2, s3, s4, s5, s6⟩ := hw
          clear hS k1 k2 k3 k4 k5 k6 k7 k8
          go_simp
        refine wpAnyH_take (i := 4) (v := .pointer (some ⟨Bx, 3, none⟩)) rfl (by kernel_rfl) (by kernel_rfl) (by kernel_rfl) (fun _ _ _ h => h) (Or.inl ⟨by rfl, fun w' hw => ?y4⟩) hS ?_
        case y4 =>
          obtain ⟨s1, s2, s3, s4, s5, s6⟩ := hw
          clear hS k1 k2 k3 k4 k5 k6 k7 k8
          go_simp
        refine wpAnyH_take (i := 5) (v := .int .i64 (j : Int)) rfl (by kernel_rfl) (by kernel_rfl) (by kernel_rfl) (fun _ _ _ h => h) (Or.inl ⟨by rfl, fun w' hw => ?y5⟩) hS ?_
        case y5 =>
          obtain ⟨s1, s2, s3, s4, s5, s6⟩ := hw
          clear hS k1 k2 k3 k4 k5 k6 k7 k8
          go_simp
        refine wpAnyH_take (i := 6) (v := .pointer (some ⟨b, 0, none⟩)) rfl (by kernel_rfl) (by kernel_rfl) (by kernel_rfl) (fun _ _ _ h => h) (Or.inl ⟨by rfl, fun w' hw => ?y6⟩) hS ?_
        case y6 =>
          obtain ⟨s1, s2, s3, s4, s5, s6⟩ := hw
          clear hS k1 k2 k3 k4 k5 k6 k7 k8
          go_simp
        refine wpAnyH_take (i := 7) (v := .pointer (some ⟨b, 0, none⟩)) rfl (by kernel_rfl) (by kernel_rfl) (by kernel_rfl) (fun _ _ _ h => h) (Or.inl ⟨by rfl, fun w' hw => ?y7⟩) hS ?_
        case y7 =>
          obtain ⟨s1, s2, s3, s4, s5, s6⟩ := hw
          clear hS k1 k2 k3 k4 k5 k6 k7 k8
          go_simp
        refine wpAnyH_take (i := 8) (v := .pointer (some ⟨b, 3, none⟩)) rfl (by kernel_rfl) (by kernel_rfl) (by kernel_rfl) (fun _ _ _ h => h) (Or.inl ⟨by rfl, fun w' hw => ?y8⟩) hS ?_
        case y8 =>
          obtain ⟨s1, s2, s3, s4, s5, s6⟩ := hw
          clear hS k1 k2 k3 k4 k5 k6 k7 k8
          go_simp
        refine wpAnyH_take (i := 9) (v := .slice (some ⟨ga, 0, none⟩) np ca) rfl (by kernel_rfl) (by kernel_rfl) (by kernel_rfl) (fun _ _ _ h => h) (Or.inl ⟨by rfl, fun w' hw => ?y9⟩) hS ?_
        case y9 =>
          obtain ⟨s1, s2, s3, s4, s5, s6⟩ := hw
          clear hS k1 k2 k3 k4 k5 k6 k7 k8
          go_simp
        refine wpAnyH_take (i := 10) (v := .int .i64 (nq : Int)) rfl (by kernel_rfl) (by kernel_rfl) (by kernel_rfl) (fun _ _ _ h => h) (Or.inl ⟨by rfl, fun w' hw => ?y10⟩) hS ?_
        case y10 =>
          obtain ⟨s1, s2, s3, s4, s5, s6⟩ := hw
          clear hS k1 k2 k3 k4 k5 k6 k7 k8
          go_simp
        refine wpAnyH_take (i := 11) (v := .pointer (some ⟨ga, nq, none⟩)) rfl (by kernel_rfl) (by kernel_rfl) (by kernel_rfl) (fun _ _ _ h => h) (Or.inl ⟨by rfl, fun w' hw => ?y11⟩) hS ?_
        case y11 =>
          obtain ⟨s1, s2, s3, s4, s5, s6⟩ := hw
          clear hS k1 k2 k3 k4 k5 k6 k7 k8
          go_simp
        refine wpAnyH_take (i := 12) (v := .int .u64 old) rfl (by kernel_rfl) (by kernel_rfl) (by kernel_rfl) (fun _ _ _ h => h) (Or.inl ⟨by rfl, fun w' hw => ?y12⟩) hS ?_
        case y12 =>
          obtain ⟨s1, s2, s3, s4, s5, s6⟩ := hw
          clear hS k1 k2 k3 k4 k5 k6 k7 k8
          go_simp
        refine wpAnyH_take (i := 13) (v := .pointer (some ⟨gw, j, none⟩)) rfl (by kernel_rfl) (by kernel_rfl) (by kernel_rfl) (fun _ _ _ h => h) (Or.inl ⟨by rfl, fun w' hw => ?y13⟩) hS ?_
        case y13 =>
          obtain ⟨s1, s2, s3, s4, s5, s6⟩ := hw
          clear hS k1 k2 k3 k4 k5 k6 k7 k8
          go_simp
        refine wpAnyH_ready (rs := [14]) (by kernel_rfl) (by simp) (AllReadyH.cons rfl (fun K hK => ?_) AllReadyH.nil)
        have k7d : Wc.drew.cell? ⟨gw, j, none⟩ = some (.int .u64 old') := k7
        have k8d : Wc.drew.frozen? ⟨gw, j, none⟩ = false := k8
        go_simp
        refine hK.out _ _ ?s (fun _ => wpAnyH_done (by kernel_rfl) ?e _)
        case s =>
          obtain ⟨s1, s2, s3, s4, s5, s6⟩ := hS
          refine ⟨?_, ?_, ?_, ?_, ?_, ?_⟩
          · exact (World.cell?_setCell_far _ _ _ _ gn1).trans s1
          · exact (World.cell?_setCell_far _ _ _ _ gneb).trans s2
          · exact (World.cell?_setCell_far _ _ _ _ gnx).trans s3
          · exact (World.cell?_setCell_far _ _ _ _ gneb).trans s4
          · exact (World.cell?_setCell_far _ _ _ _ gn2).trans s5
          · exact (World.cell?_setCell_far _ _ _ _ gnea).trans s6
        case e =>
          have hset : (P1.set j y5).set j old = P1 := by
            have hl : j < P1.length := by
              have e := hnl.out
              rw [List.length_set] at e
              omega
            rw [List.set_set, ← hold, List.getElem?_eq_getElem hl, Option.getD_some, List.set_getElem_self]
          have q4' := q4.setW (i := j) rfl old
          rw [hset] at q4'
          have bx : ∀ {B t : Nat} {v : Value}, Boxed Wc B t v → gw ≠ B → Boxed (Wc.setCell ⟨gw, j, none⟩ (.int .u64 old)).drew B t v := fun {B t v} hb hne => (Below.heap_setCell Wc ⟨gw, j, none⟩ _ B (fun e => hne e.symm)).trans hb
          exact ⟨rfl, q6.trans (((KeepsOthers.setCell _ _ _).trans (KeepsOthers.drew _)).from _), ⟨bx q1 gn1, bx q2 gn2, bx q3 (by omega)⟩, q4'.below (Below.refl _ _).drew, (q5.setCell _ _ (.inl (.inr (by rfl)))).drew⟩
  case done =>
    rintro D Wd hD ⟨⟨h1, h2, h3⟩, hm, hf⟩ hK
    rw [bent_length, hdl, show lg.length - (lg.length - c) = c by omega] at h2 hm
    obtain ⟨rest, hrest⟩ := play_prefix ws0 lg c
    have hLn : (play ws0 (lg.take c)).2.length ≤ (play ws0 lg).2.length := by rw [hrest]; simp
    have hcutL := has_cut (hm.hl) c (by omega)
    rw [← lgc_take] at hcutL
    have k1 := h1.cell
    have k2 := h2.cell
    have z2 := hm.c2
    have z3 := hm.c3
    have f2 := hm.fz 2
    have f3 := hm.fz 3
    have ne1 : W.heap.size ≠ b := by omega
    have ne2 : W.heap.size + 1 ≠ b := by omega
    have ne1' : b ≠ W.heap.size := by omega
    have ne2' : b ≠ W.heap.size + 1 := by omega
    have hccap : c ≤ cap := by omega
    have hccap' : (c : Int) ≤ (cap : Int) := by omega
    clear hd1 hd2 hok
    gi_wp2
    gi_region
    gi_wp2
    have zs : Mem (Wd.setCell ⟨b, 2, none⟩ (.slice (some ⟨g, 0, none⟩) c c)).drew (fun k => S k ∧ k < W.heap.size) b vw (.slice (some ⟨g, 0, none⟩) c c) (.slice aa (play ws0 lg).2.length ca) (play ws0 (lg.take c)).1 mv (lg.take c) (play ws0 lg).2 := by
      refine Mem.below (W := Wd.setCell ⟨b, 2, none⟩ (.slice (some ⟨g, 0, none⟩) c c)) ⟨by rw [setBlk hm.blk]; rfl, hm.inb, hm.hw.setCell _ _ hm.bw, ?_, hm.ha.setCell _ _ hm.ba, hm.ne, hm.len⟩ (Below.refl _ _).drew
      have hlen : (lg.take c).length = c := by simp; omega
      rw [hlen]
      exact hcutL.setCell _ _ hm.bl
    have h1' : Boxed (Wd.setCell ⟨b, 2, none⟩ (.slice (some ⟨g, 0, none⟩) c c)).drew W.heap.size 25 (.pointer (some ⟨b, 0, none⟩)) := (Below.heap_setCell Wd ⟨b, 2, none⟩ _ _ ne1).trans h1
    have h2' : Boxed (Wd.setCell ⟨b, 2, none⟩ (.slice (some ⟨g, 0, none⟩) c c)).drew (W.heap.size + 1) 3 (.int .i64 ((play ws0 (lg.take c)).2.length : Int)) := (Below.heap_setCell Wd ⟨b, 2, none⟩ _ _ ne2).trans h2
    have hK' : (Wd.setCell ⟨b, 2, none⟩ (.slice (some ⟨g, 0, none⟩) c c)).drew.heap[D]? = some (.deferred (some [])) := (Below.heap_setCell Wd ⟨b, 2, none⟩ _ D (fun e => by have e' : D = b := e; omega)).trans hK
    have hF : Fr W (Wd.setCell ⟨b, 2, none⟩ (.slice (some ⟨g, 0, none⟩) c c)).drew (fun k => k = b ∨ vw.ownBlock = some k) := (hf.setCell ⟨b, 2, none⟩ _ (.inl (.inl rfl))).drew
    clear hK z2 z3 f2 f3 k1 k2 h1 h2 h3 hm hf hcutL
    generalize (Wd.setCell ⟨b, 2, none⟩ (.slice (some ⟨g, 0, none⟩) c c)).drew = W6 at *
    have k1 := h1'.cell
    have k2 := h2'.cell
    have z3 := zs.c3
    have f3 := zs.fz 3
    have cut : Has W6 (fun k => S k ∧ k < W.heap.size) 31 1 (.slice aa (play ws0 (lg.take c)).2.length (if aa.isSome then (play ws0 (lg.take c)).2.length else 0)) (play ws0 (lg.take c)).2.length (wrd (play ws0 (lg.take c)).2) := by
      rcases zs.ha.2 with ⟨e, e0⟩ | ⟨ga, ca', cur, e, hS, hg, _⟩
      · injection e with e1 e2 e3
        subst e1
        have : (play ws0 (lg.take c)).2 = [] := List.eq_nil_of_length_eq_zero (by omega)
        rw [this]
        exact Has.nil _ _ _ _
      · injection e with e1 e2 e3
        subst e1
        have := has_cut zs.ha _ hLn
        rw [Nat.mul_one, hrest, ← wrd_take, List.take_left] at this
        exact this
    have hz : aa = none → ca = 0 ∧ (play ws0 lg).2.length = 0 := by
      intro e
      rcases zs.ha.2 with ⟨e', e0⟩ | ⟨ga, ca', cur, e', _⟩
      · injection e' with e1 e2 e3; exact ⟨e3, e0⟩
      · injection e' with e1 e2 e3; rw [e] at e1; cases e1
    generalize hL : (play ws0 (lg.take c)).2.length = L at *
    generalize hN : (play ws0 lg).2.length = N at *
    have hLca : L ≤ ca := by omega
    have hLca' : (L : Int) ≤ (ca : Int) := by omega
    refine wpIn_wide.2 (wp_region_noPanic (wp_region_held_drew (S := fun w' => w'.cell? ⟨W.heap.size, 0, none⟩ = some (.pointer (some ⟨b, 0, none⟩)) ∧ w'.cell? ⟨W.heap.size + 1, 0, none⟩ = some (.int .i64 (L : Int))) (by kernel_rfl) ⟨k1, k2⟩ (fun hS => ?_)))
    refine wpAnyH_take (i := 0) (v := .pointer (some ⟨b, 0, none⟩)) rfl (by kernel_rfl) (by kernel_rfl) (by kernel_rfl) (fun _ _ _ h => h) (Or.inl ⟨by rfl, fun w' hw => ?y0⟩) hS ?_
    case y0 =>
      obtain ⟨s1, s2⟩ := hw
      clear hS k1 k2
      go_simp
    refine wpAnyH_take (i := 1) (v := .pointer (some ⟨b, 0, none⟩)) rfl (by kernel_rfl) (by kernel_rfl) (by kernel_rfl) (fun _ _ _ h => h) (Or.inl ⟨by rfl, fun w' hw => ?y1⟩) hS ?_
    case y1 =>
      obtain ⟨s1, s2⟩ := hw
      clear hS k1 k2
      go_simp
    refine wpAnyH_take (i := 2) (v := .pointer (some ⟨b, 0, none⟩)) rfl (by kernel_rfl) (by kernel_rfl) (by kernel_rfl) (fun _ _ _ h => h) (Or.inl ⟨by rfl, fun w' hw => ?y2⟩) hS ?_
    case y2 =>
      obtain ⟨s1, s2⟩ := hw
      clear hS k1 k2
      go_simp
    refine wpAnyH_take (i := 3) (v := .pointer (some ⟨b, 3, none⟩)) rfl (by kernel_rfl) (by kernel_rfl) (by kernel_rfl) (fun _ _ _ h => h) (Or.inl ⟨by rfl, fun w' hw => ?y3⟩) hS ?_
    case y3 =>
      obtain ⟨s1, s2⟩ := hw
      clear hS k1 k2
      go_simp
    refine wpAnyH_take (i := 5) (v := .int .i64 (L : Int)) rfl (by kernel_rfl) (by kernel_rfl) (by kernel_rfl) (fun _ _ _ h => h) (Or.inl ⟨by rfl, fun w' hw => ?y5⟩) hS ?_
    case y5 =>
      obtain ⟨s1, s2⟩ := hw
      clear hS k1 k2
      go_simp
    refine wpAnyH_take (i := 6) (v := .int .i64 (L : Int)) rfl (by kernel_rfl) (by kernel_rfl) (by kernel_rfl) (fun _ _ _ h => h) (Or.inl ⟨by rfl, fun w' hw => ?y6⟩) hS ?_
    case y6 =>
      obtain ⟨s1, s2⟩ := hw
      clear hS k1 k2
      go_simp
    refine wpAnyH_ready (rs := [4]) (by kernel_rfl) (by simp) (AllReadyH.cons rfl (fun K hK => ?_) AllReadyH.nil)
    have z3d : W6.drew.cell? ⟨b, 3, none⟩ = some (.slice aa N ca) := z3
    go_simp
    refine hK.out _ _ hS (fun hS => ?_)
    clear hK K
    refine wpAnyH_take (i := 7) (v := .slice aa L (if aa.isSome then L else 0)) rfl (by kernel_rfl) (by kernel_rfl) (by kernel_rfl) (fun _ _ _ h => h) (Or.inl ⟨by rfl, fun w' hw => ?y7⟩) hS ?_
    case y7 =>
      clear hS k1 k2
      cases aa with
      | none =>
        obtain ⟨rfl, rfl⟩ := hz rfl
        obtain rfl : L = 0 := by omega
        go_simp
      | some ad =>
        go_simp
    refine wpAnyH_take (i := 8) (v := .pointer (some ⟨b, 0, none⟩)) rfl (by kernel_rfl) (by kernel_rfl) (by kernel_rfl) (fun _ _ _ h => h) (Or.inl ⟨by rfl, fun w' hw => ?y8⟩) hS ?_
    case y8 =>
      obtain ⟨s1, s2⟩ := hw
      clear hS k1 k2
      go_simp
    refine wpAnyH_take (i := 9) (v := .pointer (some ⟨b, 3, none⟩)) rfl (by kernel_rfl) (by kernel_rfl) (by kernel_rfl) (fun _ _ _ h => h) (Or.inl ⟨by rfl, fun w' hw => ?y9⟩) hS ?_
    case y9 =>
      obtain ⟨s1, s2⟩ := hw
      clear hS k1 k2
      go_simp
    refine wpAnyH_ready (rs := [10]) (by kernel_rfl) (by simp) (AllReadyH.cons rfl (fun K hK => ?_) AllReadyH.nil)
    have f3d : W6.drew.frozen? ⟨b, 3, none⟩ = false := f3
    generalize (if aa.isSome then L else 0) = cp at *
    go_simp
    refine hK.out _ _ ⟨(World.cell?_setCell_far W6 ⟨b, 3, none⟩ _ (.slice aa L cp) ne1').trans k1, (World.cell?_setCell_far W6 ⟨b, 3, none⟩ _ (.slice aa L cp) ne2').trans k2⟩ (fun _ => wpAnyH_done (by kernel_rfl) (NoPanic.normal ?_) _)
    clear hK K
    have fin : Mem (W6.setCell ⟨b, 3, none⟩ (.slice aa L cp)).drew (fun k => S k ∧ k < W.heap.size) b vw (.slice (some ⟨g, 0, none⟩) c c) (.slice aa L cp) (play ws0 (lg.take c)).1 mv (lg.take c) (play ws0 (lg.take c)).2 := by
      refine Mem.below (W := W6.setCell ⟨b, 3, none⟩ (.slice aa L cp)) ⟨by rw [setBlk zs.blk]; rfl, zs.inb, zs.hw.setCell _ _ zs.bw, zs.hl.setCell _ _ zs.bl, ?_, ?_, zs.len⟩ (Below.refl _ _).drew
      · rw [hL]
        refine cut.setCell _ _ ?_
        intro e
        have := zs.ba
        cases aa with
        | none => simp [Value.ownBlock] at e
        | some ad => exact this (by simpa [Value.ownBlock] using e)
      · intro k hk e
        have := zs.ne k hk
        cases aa with
        | none => simp [Value.ownBlock] at e
        | some ad => exact this (by simpa [Value.ownBlock] using e)
    have hF6 : Fr W (W6.setCell ⟨b, 3, none⟩ (.slice aa L cp)).drew (fun k => k = b ∨ vw.ownBlock = some k) := (hF.setCell ⟨b, 3, none⟩ _ (.inl (.inl rfl))).drew
    have hK6 : (W6.setCell ⟨b, 3, none⟩ (.slice aa L cp)).drew.heap[D]? = some (.deferred (some [])) := (Below.heap_setCell W6 ⟨b, 3, none⟩ _ D (fun e => by have e' : D = b := e; omega)).trans hK'
    gi_wp2
    refine ⟨by simp, .inl ⟨_, _, rfl, run_takeDeferred (w := (W6.setCell ⟨b, 3, none⟩ (.slice aa L cp)).drew) hK6, ?_⟩⟩
    refine ⟨.int .i64 0, by simp [results, Try.f11, go_sem], rfl, ⟨.slice aa L cp, ?_⟩, ?_⟩
    · refine Mem.mono (S := fun k => S k ∧ k < W.heap.size) ?_ (fun k hk => hk.1)
      exact fin.kept (fun k hk _ => World.putObj_heap_other (by have := hk.2; omega))
    · exact Fr.put hF6 _ (by omega)
end Go.Proofs.Ytkfcfhgjhnmjlaa.Me
