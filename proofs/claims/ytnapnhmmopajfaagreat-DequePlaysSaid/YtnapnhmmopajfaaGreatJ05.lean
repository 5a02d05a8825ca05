import Derived.Test.YtnapnhmmopajfaaGreatJ04
import Derived.Test.YtnapnhmmopajfaaGreatJ02
import Derived.Deep.RegionHeld3
import Derived.Laws.ResultCell
/-
  THE DOCUMENT's DEQUE: an access is made and noted.
-/
namespace Go.Proofs.YtnapnhmmopajfaaGreat.Rd
open Go.RowKit Mr Me Ma
set_option linter.unusedVariables false
set_option linter.unusedSimpArgs false
def uw (x : Int) : Int := IntKind.u64.wrap x
section
variable {W0 W : World} {U0 U : Nat → Prop} {q : Rc} {vc vl : Value} {s : Rs} {i : Nat} {t : Rt}
theorem Rm.grow1 (h : Rm W U q vc vl s) {w0 w1 : World} {row : Option Nat} (hB : Below W.heap.size W w0) (hgrow : w0.grownBy w1 row) (hne : row ≠ some q.b) : w1.heap[q.b]? = some (q.box vc vl s.n s.dn s.la) := by
  have hl := h.lt
  have h0 : w0.heap[q.b]? = some (q.box vc vl s.n s.dn s.la) := (hB.block _ hl).trans h.bx
  have hs := hB.size
  exact (hgrow.block _ (by omega) (fun e => hne e.symm)).trans h0
theorem Rm.noted (h : Rm W U q vc vl s) {w0 w1 : World} (hB : Below W.heap.size W w0) {v' : Value} {x : Acc} {n : Nat} (hn : n = s.lg.length + 1)
    (hown : Has w1 (fun k => U k ∨ (W.heap.size ≤ k ∧ k < w1.heap.size)) 65 7 v' n (lgc s.lg ++ x.cells)) (hgrow : w0.grownBy w1 vl.ownBlock) :
    Rm (w1.setCell ⟨q.b, 5, none⟩ v') (fun k => U k ∨ (W.heap.size ≤ k ∧ k < w1.heap.size)) q vc v' { s with lg := s.lg ++ [x] } ∧ Fr W (w1.setCell ⟨q.b, 5, none⟩ v') U := by
  subst hn
  have hbl : vl.ownBlock ≠ some q.b := not_row h.bx h.lg (by decide)
  have hb := h.grow1 hB hgrow hbl
  have hb' : v'.ownBlock ≠ some q.b := not_row hb hown (by decide)
  have hs : w0.heap.size ≤ w1.heap.size := hgrow.size
  have hs0 := hB.size
  have f : ∀ {e sz n : Nat} {v : Value} {xs : List Value}, Has W U e sz v n xs → e ≠ 65 → v.ownBlock ≠ some q.b → Has (w1.setCell ⟨q.b, 5, none⟩ v') (fun k => U k ∨ (W.heap.size ≤ k ∧ k < w1.heap.size)) e sz v n xs := fun hv hne hb2 => (((hv.below hB).grown hgrow (fun k hk e => has_ne hv h.lg hne k hk e)).setCell _ _ hb2).mono (fun _ => .inl)
  refine ⟨⟨?_, f h.wd (by decide) (not_row h.bx h.wd (by decide)), h.wn, f h.th (by decide) (not_row h.bx h.th (by decide)), h.tn, f h.cl (by decide) (not_row h.bx h.cl (by decide)), ?_, .inl h.ub, fun k hk => ?_⟩, ?_⟩
  · unfold Rc.box at hb ⊢
    rw [setBlk hb]
    rfl
  · rw [lgc_snoc]
    have e : (s.lg ++ [x]).length = s.lg.length + 1 := by simp
    show Has _ _ _ 7 v' (s.lg ++ [x]).length _
    rw [e]
    exact hown.setCell _ _ hb'
  · have hz : (w1.setCell ⟨q.b, 5, none⟩ v').heap.size = w1.heap.size := by simp [World.setCell]
    rw [hz]
    rcases hk with hk | hk
    · have := h.ul k hk; omega
    · exact hk.2
  · exact ((Fr.of_below hB).grown hgrow (fun k hk => .inl (h.lg.lt k hk).1)).setCell _ _ (.inl h.ub)
theorem OutR.up (h : OutR W0 U0 q s W) : ∃ vc vl U, Rm W U q vc vl s ∧ (∀ k, U0 k → U k) ∧ (∀ k, U k → U0 k ∨ W0.heap.size ≤ k) ∧ Fr W0 W U0 := h
theorem OutR.next {w : World} {s' : Rs} {vc' vl' : Value} {U' : Nat → Prop} (hR : Rm w U' q vc' vl' s') (h1 : ∀ k, U0 k → U k) (h2 : ∀ k, U k → U0 k ∨ W0.heap.size ≤ k) (h3 : Fr W0 W U0) (g1 : ∀ k, U k → U' k) (g2 : ∀ k, U' k → U k ∨ W.heap.size ≤ k) (g3 : Fr W w U) : OutR W0 U0 q s' w := by
  have hs := h3.size
  exact ⟨_, _, _, hR, fun k hk => g1 k (h1 k hk), fun k hk => by rcases g2 k hk with hk | hk; exact h2 k hk; exact .inr (by omega), h3.trans (g3.mono h2)⟩
/-- A cell that is written. -/
theorem OutR.put {s' : Rs} {p : Addr} {u : Value} (hR : Rm (W.setCell p u) U q vc vl s') (hp : U p.block) (h1 : ∀ k, U0 k → U k) (h2 : ∀ k, U k → U0 k ∨ W0.heap.size ≤ k) (h3 : Fr W0 W U0) : OutR W0 U0 q s' (W.setCell p u) :=
  OutR.next hR h1 h2 h3 (fun _ h => h) (fun _ h => .inl h) ((Fr.refl W U).setCell p u (.inl hp))
theorem OutR.n_le (h : OutR W0 U0 q s W) : W0.heap.size ≤ W.heap.size := by obtain ⟨_, _, _, _, _, _, h3⟩ := h; exact h3.size
theorem OutR.b0 (h : OutR W0 U0 q s W) : W.cell? ⟨q.b, 0, none⟩ = some (.int .i64 (q.nt : Int)) ∧ W.cell? ⟨q.b, 1, none⟩ = some (.int .i64 (q.r : Int)) ∧ W.cell? ⟨q.b, 2, none⟩ = some (.slice (some ⟨q.gw, 0, none⟩) (2 + q.r) q.cw) ∧ W.cell? ⟨q.b, 3, none⟩ = some (.slice (some ⟨q.gt, 0, none⟩) q.nt q.ct) ∧ W.cell? ⟨q.b, 6, none⟩ = some (.int .i64 s.n) ∧ W.cell? ⟨q.b, 7, none⟩ = some (.int .i64 s.dn) ∧ W.cell? ⟨q.b, 8, none⟩ = some (.int .i64 s.la) ∧ (∀ j, W.frozen? ⟨q.b, j, none⟩ = false) ∧ (∀ j, W.frozen? ⟨q.gt, j, none⟩ = false) ∧ (∀ j, W.frozen? ⟨q.gw, j, none⟩ = false) := by
  obtain ⟨_, _, _, h, _⟩ := h
  obtain ⟨⟨c0, c1, c2, c3⟩, c4, c5, c6, c7, c8⟩ := h.cells
  exact ⟨c0, c1, c2, c3, c6, c7, c8, h.frz, h.tfrz, h.wfrz⟩
theorem OutR.ts (h : OutR W0 U0 q s W) (ht : s.ths[i]? = some t) : W.cell? ⟨q.gt, i * 5, none⟩ = some (.int .i64 t.call) ∧ W.cell? ⟨q.gt, i * 5 + 1, none⟩ = some (.int .i64 t.line) ∧ W.cell? ⟨q.gt, i * 5 + 2, none⟩ = some (.int .i64 t.b) ∧ W.cell? ⟨q.gt, i * 5 + 3, none⟩ = some (.int .i64 t.t) ∧ W.cell? ⟨q.gt, i * 5 + 4, none⟩ = some (.int .i64 t.v) := by
  obtain ⟨_, _, _, h, _⟩ := h
  exact h.tcells ht
theorem OutR.wc (h : OutR W0 U0 q s W) {a : Nat} {x : Int} (ha : s.ws[a]? = some x) : W.cell? ⟨q.gw, a, none⟩ = some (.int .i64 x) := by
  obtain ⟨_, _, _, h, _⟩ := h
  exact h.wcell ha
theorem OutR.setT (h : OutR W0 U0 q s W) {t' : Rt} (ht : s.ths[i]? = some t) (j : Nat) (hj : j < 5) {u : Value} (hu : t'.cells = t.cells.set j u) : OutR W0 U0 q { s with ths := s.ths.set i t' } (W.setCell ⟨q.gt, i * 5 + j, none⟩ u) := by
  obtain ⟨_, _, _, h, h1, h2, h3⟩ := h
  exact OutR.put (h.putT ht j hj hu) h.gtl.1 h1 h2 h3
theorem OutR.setW (h : OutR W0 U0 q s W) (ad : Nat) (x : Int) : OutR W0 U0 q { s with ws := s.ws.set ad x } (W.setCell ⟨q.gw, ad, none⟩ (.int .i64 x)) := by
  obtain ⟨_, _, _, h, h1, h2, h3⟩ := h
  exact OutR.put (h.putW ad x) h.gwl.1 h1 h2 h3
theorem OutR.setN (h : OutR W0 U0 q s W) (x : Int) : OutR W0 U0 q { s with n := x } (W.setCell ⟨q.b, 6, none⟩ (.int .i64 x)) := by
  obtain ⟨_, _, _, h, h1, h2, h3⟩ := h
  exact OutR.put (h.putN x) h.ub h1 h2 h3
theorem OutR.setD (h : OutR W0 U0 q s W) (x : Int) : OutR W0 U0 q { s with dn := x } (W.setCell ⟨q.b, 7, none⟩ (.int .i64 x)) := by
  obtain ⟨_, _, _, h, h1, h2, h3⟩ := h
  exact OutR.put (h.putD x) h.ub h1 h2 h3
theorem OutR.setL (h : OutR W0 U0 q s W) (x : Int) : OutR W0 U0 q { s with la := x } (W.setCell ⟨q.b, 8, none⟩ (.int .i64 x)) := by
  obtain ⟨_, _, _, h, h1, h2, h3⟩ := h
  exact OutR.put (h.putL x) h.ub h1 h2 h3
end
theorem OutR.app {W0 W : World} {U0 : Nat → Prop} {q : Rc} {s : Rs} (h : OutR W0 U0 q s W) : ∃ (a : Option Addr) (cap : Nat) (U : Nat → Prop), W.cell? ⟨q.b, 5, none⟩ = some (.slice a s.lg.length cap) ∧ s.lg.length ≤ cap ∧ q.b < W.heap.size ∧ q.gw < W.heap.size ∧ q.gt < W.heap.size ∧
    Hid (∀ (w0 : World), Below W.heap.size W w0 → Has w0 (fun k => U k ∨ W.heap.size ≤ k) 65 7 (.slice a s.lg.length cap) s.lg.length (lgc s.lg)) ∧
    Hid (∀ (p : Obj) (w1 : World) (g cap' : Nat) (y : Acc) (hown : Has w1 (fun k => U k ∨ W.heap.size ≤ k) 65 7 (.slice (some ⟨g, 0, none⟩) (s.lg.length + 1) cap') (s.lg.length + 1) (lgc s.lg ++ y.cells)) (hgrow : (W.alloc p).drew.grownBy w1 (Value.slice a s.lg.length cap).ownBlock),
      (w1.cell? ⟨q.b, 5, none⟩ = some (.slice a s.lg.length cap) ∧ w1.frozen? ⟨q.b, 5, none⟩ = false) ∧ Hid (OutR W0 U0 q { s with lg := s.lg ++ [y] } (w1.setCell ⟨q.b, 5, none⟩ (.slice (some ⟨g, 0, none⟩) (s.lg.length + 1) cap')))) := by
  obtain ⟨vc, vl, U, hR, g1, g2, g3⟩ := h
  obtain ⟨_, _, c5, _⟩ := hR.cells
  obtain ⟨a, cap, hv, hle⟩ := hR.lg.form
  subst hv
  have hB1 : ∀ p, Below W.heap.size W (W.alloc p).drew := fun p => Below.drew ((Below.refl _ _).alloc (Nat.le_refl _) p)
  have hbl : (Value.slice a s.lg.length cap).ownBlock ≠ some q.b := not_row hR.bx hR.lg (by decide)
  refine ⟨a, cap, U, c5, hle, hR.lt, hR.gwl.2, hR.gtl.2, Mr.hid (fun w0 B => (hR.lg.below B).mono (fun _ => .inl)), Mr.hid (fun p w1 g cap' y hown hgrow => ?_)⟩
  have kb := hR.grow1 (hB1 p) hgrow hbl
  unfold Rc.box at kb
  obtain ⟨r1, r2⟩ := hR.noted (hB1 p) rfl (hown.kept (fun _ _ => rfl) (fun k hk => by
    have := hown.lt k hk
    rcases this.1 with e | e
    · exact .inl e
    · exact .inr ⟨e, this.2⟩)) hgrow
  exact ⟨⟨by simp [World.cell?, kb], by simp [World.frozen?, kb]⟩, Mr.hid (OutR.next r1 g1 g2 g3 (fun _ hk => .inl hk) (fun k hk => by rcases hk with hk | hk; exact .inl hk; exact .inr (by omega)) r2)⟩
set_option maxRecDepth 100000 in
set_option maxHeartbeats 4000000 in
theorem load_any {W0 W : World} {U0 : Nat → Prop} {q : Rc} {s : Rs} (h : OutR W0 U0 q s W) (hl : s.lg.length ≤ 100000) (hr : q.r ≤ 256) (i ad : Nat) (x : Int) (hx : s.ws[ad]? = some x) :
    Calls Tryz.prog 64 #[.pointer (some ⟨q.b, 0, none⟩), .int .i64 (i : Int), .int .i64 (ad : Int)] W fun e w' => e = .returned (.int .i64 x) ∧ OutR W0 U0 q { s with lg := s.lg ++ [⟨s.n, i, 1, ad, 0, 0, uw x⟩] } w' := by
  obtain ⟨i0, hi, hz0, hz1, hz2⟩ := info_parts info_acc
  obtain ⟨c0, c1, c2, c3, c6, c7, c8, fb, ft, fw⟩ := h.b0
  have cw := h.wc hx
  have hn : s.ws.length = 2 + q.r := by obtain ⟨_, _, _, hR, _⟩ := h; exact hR.wn
  have had : ad < 2 + q.r := by have := (List.getElem?_eq_some_iff.1 hx).1; omega
  obtain ⟨a, cap, U, b5, hle, l1, l2, l3, law, FN⟩ := h.app
  replace h := Mr.hid h
  go_enter Tryz.func64, Tryz.ntmps64
  go_wp2
  go_region_law (refine step_append_has _ rfl (.tmp 19) (.tmp 29) 29 rfl (fun k => U k ∨ W.heap.size ≤ k) 65 i0 _ 7 56 Tryz.underlying29 hi hz0 hz1 hz2 rfl (.slice a s.lg.length cap) s.lg.length (lgc s.lg) (by simp [Act.eval]) (law.out _ (Below.drew ((Below.refl _ _).alloc (Nat.le_refl _) _))) ⟨W.heap.size, 0, none⟩ 1 1 [.int .i64 s.n, .int .i64 i, .int .i64 1, .int .i64 ad, .int .u64 0, .int .u64 0, .int .u64 (uw x)] (by simp [Act.eval]) rfl (newsAt W _ #[.int .i64 s.n, .int .i64 i, .int .i64 1, .int .i64 ad, .int .u64 0, .int .u64 0, .int .u64 (uw x)] 65 _ rfl rfl) (by simp [Value.oneCell']) (by omega) (by unfold maxLen; omega) (by omega) (by right; simp) ?_; intro g cap' w1 hown hgrow hat; obtain ⟨⟨kc, kf⟩, F9⟩ := FN.out _ w1 g cap' ⟨s.n, i, 1, ad, 0, 0, uw x⟩ hown hgrow; clear hown hgrow hat)
  all_goals (go_wp2; go_ret; exact ⟨rfl, F9.out⟩)
set_option maxRecDepth 100000 in
set_option maxHeartbeats 4000000 in
theorem store_any {W0 W : World} {U0 : Nat → Prop} {q : Rc} {s : Rs} (h : OutR W0 U0 q s W) (hl : s.lg.length ≤ 100000) (hr : q.r ≤ 256) (i ad : Nat) (x : Int) (had : ad < 2 + q.r) :
    Calls Tryz.prog 67 #[.pointer (some ⟨q.b, 0, none⟩), .int .i64 (i : Int), .int .i64 (ad : Int), .int .i64 x] W fun e w' => e = .returned (.tuple #[]) ∧ OutR W0 U0 q { s with ws := s.ws.set ad x, lg := s.lg ++ [⟨s.n, i, 2, ad, 0, uw x, 0⟩] } w' := by
  obtain ⟨i0, hi, hz0, hz1, hz2⟩ := info_parts info_acc
  obtain ⟨c0, c1, c2, c3, c6, c7, c8, fb, ft, fw⟩ := h.b0
  obtain ⟨x0, hx0⟩ : ∃ x0, s.ws[ad]? = some x0 := ⟨_, List.getElem?_eq_getElem (by obtain ⟨_, _, _, hR, _⟩ := h; rw [hR.wn]; exact had)⟩
  have cw := h.wc hx0
  have hn : s.ws.length = 2 + q.r := by obtain ⟨_, _, _, hR, _⟩ := h; exact hR.wn
  obtain ⟨W1, hW1⟩ : ∃ W1, W.setCell ⟨q.gw, ad, none⟩ (.int .i64 x) = W1 := ⟨_, rfl⟩
  have h1 : OutR W0 U0 q { s with ws := s.ws.set ad x } W1 := hW1 ▸ (h.setW ad x)
  obtain ⟨b0, b1, b2, b3, b6, b7, b8, gb, gt, gw⟩ := h1.b0
  obtain ⟨a, cap, U, b5, hle, l1, l2, l3, law, FN⟩ := h1.app
  replace h := Mr.hid h
  replace h1 := Mr.hid h1
  replace hW1 := Mr.hid hW1
  go_enter Tryz.func67, Tryz.ntmps67
  go_wp2
  rw [hW1.out]
  clear c0 c1 c2 c3 c6 c7 c8
  go_region_law (refine step_append_has _ rfl (.tmp 19) (.tmp 29) 29 rfl (fun k => U k ∨ W1.heap.size ≤ k) 65 i0 _ 7 56 Tryz.underlying29 hi hz0 hz1 hz2 rfl (.slice a s.lg.length cap) s.lg.length (lgc s.lg) (by simp [Act.eval]) (law.out _ (Below.drew ((Below.refl _ _).alloc (Nat.le_refl _) _))) ⟨W1.heap.size, 0, none⟩ 1 1 [.int .i64 s.n, .int .i64 i, .int .i64 2, .int .i64 ad, .int .u64 0, .int .u64 (uw x), .int .u64 0] (by simp [Act.eval]) rfl (newsAt W1 _ #[.int .i64 s.n, .int .i64 i, .int .i64 2, .int .i64 ad, .int .u64 0, .int .u64 (uw x), .int .u64 0] 65 _ rfl rfl) (by simp [Value.oneCell']) (by omega) (by unfold maxLen; omega) (by omega) (by right; simp) ?_; intro g cap' w1 hown hgrow hat; obtain ⟨⟨kc, kf⟩, F9⟩ := FN.out _ w1 g cap' ⟨s.n, i, 2, ad, 0, uw x, 0⟩ hown hgrow; clear hown hgrow hat)
  all_goals (go_wp2; go_end0; exact ⟨rfl, F9.out⟩)
set_option maxRecDepth 100000 in
set_option maxHeartbeats 4000000 in
theorem swap_no {W0 W : World} {U0 : Nat → Prop} {q : Rc} {s : Rs} (h : OutR W0 U0 q s W) (hl : s.lg.length ≤ 100000) (hr : q.r ≤ 256) (i : Nat) (x o : Int) (hx : s.ws[0]? = some x) (hne : x ≠ o) (ho : 0 ≤ o ∧ o ≤ 100000) :
    Calls Tryz.prog 68 #[.pointer (some ⟨q.b, 0, none⟩), .int .i64 (i : Int), .int .i64 o] W fun e w' => e = .returned (.bool false) ∧ OutR W0 U0 q { s with lg := s.lg ++ [⟨s.n, i, 3, 0, uw o, uw (o + 1), uw x⟩] } w' := by
  obtain ⟨i0, hi, hz0, hz1, hz2⟩ := info_parts info_acc
  obtain ⟨c0, c1, c2, c3, c6, c7, c8, fb, ft, fw⟩ := h.b0
  have cw := h.wc hx
  have hn : s.ws.length = 2 + q.r := by obtain ⟨_, _, _, hR, _⟩ := h; exact hR.wn
  have d1 : decide (x = o) = false := by simp [hne]
  have w1 : wrap64 (o + 1) = o + 1 := by unfold wrap64; omega
  have w2 : IntKind.i64.wrap (o + 1) = o + 1 := by simp [IntKind.wrap, IntKind.signed, IntKind.bits]; omega
  replace w2 := Mr.hid w2
  obtain ⟨a, cap, U, b5, hle, l1, l2, l3, law, FN⟩ := h.app
  replace h := Mr.hid h
  go_enter Tryz.func68, Tryz.ntmps68
  go_wp2
  go_region_law (refine step_append_has _ rfl (.tmp 28) (.tmp 42) 29 rfl (fun k => U k ∨ W.heap.size ≤ k) 65 i0 _ 7 56 Tryz.underlying29 hi hz0 hz1 hz2 rfl (.slice a s.lg.length cap) s.lg.length (lgc s.lg) (by simp [Act.eval]) (law.out _ (Below.drew ((Below.refl _ _).alloc (Nat.le_refl _) _))) ⟨W.heap.size, 0, none⟩ 1 1 [.int .i64 s.n, .int .i64 i, .int .i64 3, .int .i64 0, .int .u64 (uw o), .int .u64 (uw (IntKind.i64.wrap (o + 1))), .int .u64 (uw x)] (by simp [Act.eval]) rfl (newsAt W _ #[.int .i64 s.n, .int .i64 i, .int .i64 3, .int .i64 0, .int .u64 (uw o), .int .u64 (uw (IntKind.i64.wrap (o + 1))), .int .u64 (uw x)] 65 _ rfl rfl) (by simp [Value.oneCell']) (by omega) (by unfold maxLen; omega) (by omega) (by right; simp) ?_; intro g cap' w1 hown hgrow hat; obtain ⟨⟨kc, kf⟩, F9⟩ := FN.out _ w1 g cap' ⟨s.n, i, 3, 0, uw o, uw (IntKind.i64.wrap (o + 1)), uw x⟩ hown hgrow; clear hown hgrow hat)
  all_goals (go_wp2; go_ret; have F8 := F9.out; rw [w2.out] at F8; exact ⟨rfl, F8⟩)
set_option maxRecDepth 100000 in
set_option maxHeartbeats 4000000 in
theorem swap_yes {W0 W : World} {U0 : Nat → Prop} {q : Rc} {s : Rs} (h : OutR W0 U0 q s W) (hl : s.lg.length ≤ 100000) (hr : q.r ≤ 256) (i : Nat) (o : Int) (hx : s.ws[0]? = some o) (ho : 0 ≤ o ∧ o ≤ 100000) :
    Calls Tryz.prog 68 #[.pointer (some ⟨q.b, 0, none⟩), .int .i64 (i : Int), .int .i64 o] W fun e w' => e = .returned (.bool true) ∧ OutR W0 U0 q { s with ws := s.ws.set 0 (o + 1), lg := s.lg ++ [⟨s.n, i, 3, 0, uw o, uw (o + 1), uw o⟩] } w' := by
  obtain ⟨i0, hi, hz0, hz1, hz2⟩ := info_parts info_acc
  obtain ⟨c0, c1, c2, c3, c6, c7, c8, fb, ft, fw⟩ := h.b0
  have cw := h.wc hx
  have hn : s.ws.length = 2 + q.r := by obtain ⟨_, _, _, hR, _⟩ := h; exact hR.wn
  have w1 : wrap64 (o + 1) = o + 1 := by unfold wrap64; omega
  have w2 : IntKind.i64.wrap (o + 1) = o + 1 := by simp [IntKind.wrap, IntKind.signed, IntKind.bits]; omega
  replace w2 := Mr.hid w2
  obtain ⟨W1, hW1⟩ : ∃ W1, W.setCell ⟨q.gw, 0, none⟩ (.int .i64 (o + 1)) = W1 := ⟨_, rfl⟩
  have h1 : OutR W0 U0 q { s with ws := s.ws.set 0 (o + 1) } W1 := hW1 ▸ (h.setW 0 (o + 1))
  obtain ⟨b0, b1, b2, b3, b6, b7, b8, gb, gt, gw⟩ := h1.b0
  obtain ⟨a, cap, U, b5, hle, l1, l2, l3, law, FN⟩ := h1.app
  replace h := Mr.hid h
  replace h1 := Mr.hid h1
  replace hW1 := Mr.hid hW1
  go_enter Tryz.func68, Tryz.ntmps68
  go_wp2
  rw [hW1.out]
  clear c0 c1 c2 c3 c6 c7 c8
  go_region_law (refine step_append_has _ rfl (.tmp 28) (.tmp 42) 29 rfl (fun k => U k ∨ W1.heap.size ≤ k) 65 i0 _ 7 56 Tryz.underlying29 hi hz0 hz1 hz2 rfl (.slice a s.lg.length cap) s.lg.length (lgc s.lg) (by simp [Act.eval]) (law.out _ (Below.drew ((Below.refl _ _).alloc (Nat.le_refl _) _))) ⟨W1.heap.size, 0, none⟩ 1 1 [.int .i64 s.n, .int .i64 i, .int .i64 3, .int .i64 0, .int .u64 (uw o), .int .u64 (uw (IntKind.i64.wrap (o + 1))), .int .u64 (uw o)] (by simp [Act.eval]) rfl (newsAt W1 _ #[.int .i64 s.n, .int .i64 i, .int .i64 3, .int .i64 0, .int .u64 (uw o), .int .u64 (uw (IntKind.i64.wrap (o + 1))), .int .u64 (uw o)] 65 _ rfl rfl) (by simp [Value.oneCell']) (by omega) (by unfold maxLen; omega) (by omega) (by right; simp) ?_; intro g cap' w1 hown hgrow hat; obtain ⟨⟨kc, kf⟩, F9⟩ := FN.out _ w1 g cap' ⟨s.n, i, 3, 0, uw o, uw (IntKind.i64.wrap (o + 1)), uw o⟩ hown hgrow; clear hown hgrow hat)
  all_goals (go_wp2; go_ret; have F8 := F9.out; rw [w2.out] at F8; exact ⟨rfl, F8⟩)
end Go.Proofs.YtnapnhmmopajfaaGreat.Rd
/-
  THE DOCUMENT's DEQUE: a point, an end.
-/
namespace Go.Proofs.YtnapnhmmopajfaaGreat.Rd
open Go.RowKit Mr Me Ma
set_option linter.unusedVariables false
set_option linter.unusedSimpArgs false
section
variable {W0 W : World} {U0 : Nat → Prop} {q : Rc} {s : Rs}
theorem OutR.cl (h : OutR W0 U0 q s W) {c : Nat} {cl : Cl} (hc : s.cls[c]? = some cl) : ∃ gc cc, W.cell? ⟨q.b, 4, none⟩ = some (.slice (some ⟨gc, 0, none⟩) s.cls.length cc) ∧ (∀ j u, cl.cells[j]? = some u → W.cell? ⟨gc, c * 9 + j, none⟩ = some u) ∧ (∀ j, W.frozen? ⟨gc, j, none⟩ = false) ∧ gc ≠ q.b ∧ gc ≠ q.gt ∧ gc ≠ q.gw ∧
    Hid (∀ j u cl', j < 9 → cl'.cells = cl.cells.set j u → OutR W0 U0 q { s with cls := s.cls.set c cl' } (W.setCell ⟨gc, c * 9 + j, none⟩ u)) := by
  obtain ⟨vc, vl, U, hR, g1, g2, g3⟩ := h
  have hlt : c < s.cls.length := (List.getElem?_eq_some_iff.1 hc).1
  obtain ⟨_, c4, _⟩ := hR.cells
  obtain ⟨gc, cc, hv, hgU, _⟩ := hR.cl.there (by omega)
  have hcl := hR.cl
  rw [hv] at hcl
  refine ⟨gc, cc, by rw [c4, hv], fun j u hu => ?_, fun j => hcl.frozen (g := gc) rfl j, fun e => ?_, fun e => ?_, fun e => ?_, Mr.hid (fun j u cl' hj hu => OutR.put (hR.putC hv hc j hj hu) hgU g1 g2 g3)⟩
  · have hj : j < 9 := by have := (List.getElem?_eq_some_iff.1 hu).1; rw [cl_len] at this; exact this
    exact hcl.cells (g := gc) rfl _ _ (by rw [clc, flat_get cl_len _ _ _ cl hc hj]; exact hu)
  · exact not_row hR.bx hcl (by decide) (by rw [← e]; rfl)
  · exact has_ne hcl hR.th (by decide) _ rfl (by rw [e]; rfl)
  · exact has_ne hcl hR.wd (by decide) _ rfl (by rw [e]; rfl)
end
set_option maxRecDepth 100000 in
set_option maxHeartbeats 1000000 in
theorem point_r {W0 W : World} {U0 : Nat → Prop} {q : Rc} {s : Rs} (h : OutR W0 U0 q s W) (i : Nat) (t : Rt) (ht : s.ths[i]? = some t) (c : Nat) (hcall : t.call = c) (cl : Cl) (hc : s.cls[c]? = some cl) (m : Int) :
    Calls Tryz.prog 65 #[.pointer (some ⟨q.b, 0, none⟩), .int .i64 (i : Int), .int .i64 m] W fun e w' => e = .returned (.tuple #[]) ∧ OutR W0 U0 q { s with cls := s.cls.set c { cl with pt := m } } w' := by
  have hcl : c < s.cls.length := (List.getElem?_eq_some_iff.1 hc).1
  have hit : i < s.ths.length := (List.getElem?_eq_some_iff.1 ht).1
  have hin : i < q.nt := by obtain ⟨_, _, _, hR, _⟩ := h; rw [← hR.tn]; exact hit
  obtain ⟨c0, c1, c2, c3, c6, c7, c8, fb, ft, fw⟩ := h.b0
  obtain ⟨t0, _⟩ := h.ts ht
  obtain ⟨gc, cc, c4, hcl9, fc, n1, n2, n3, PUT⟩ := h.cl hc
  have k6 := hcl9 6 _ rfl
  have fin := PUT.out 6 (.int .i64 m) { cl with pt := m } (by decide) rfl
  rw [hcall] at t0
  generalize hN : s.cls.length = N at *
  replace hN := Mr.hid hN
  replace h := Mr.hid h
  replace fin := Mr.hid fin
  clear PUT hcl9
  go_enter Tryz.func65, Tryz.ntmps65
  go_region_held3 (fun w' => w'.cell? ⟨q.b, 2, none⟩ = some (.slice (some ⟨q.gw, 0, none⟩) (2 + q.r) q.cw) ∧ w'.cell? ⟨q.b, 3, none⟩ = some (.slice (some ⟨q.gt, 0, none⟩) q.nt q.ct) ∧ w'.cell? ⟨q.b, 4, none⟩ = some (.slice (some ⟨gc, 0, none⟩) N cc) ∧ w'.cell? ⟨q.gt, i * 5, none⟩ = some (.int .i64 (c : Int))) (go_keep) (fail)
  go_wp2
  go_end0
  refine ⟨rfl, ?_⟩
  obtain ⟨a1, a2, a3, a4, a5, a6, a7⟩ := fin.out
  exact ⟨a1, a2, a3, a4.below (Below.drew (Below.refl _ _)), a5, a6, a7.drew⟩
theorem OutR.drew {W0 W : World} {U0 : Nat → Prop} {q : Rc} {s : Rs} (h : OutR W0 U0 q s W) : OutR W0 U0 q s W.drew := by
  obtain ⟨a1, a2, a3, a4, a5, a6, a7⟩ := h
  exact ⟨a1, a2, a3, a4.below (Below.drew (Below.refl _ _)), a5, a6, a7.drew⟩
set_option maxRecDepth 100000 in
set_option maxHeartbeats 1000000 in
theorem end_r {W0 W : World} {U0 : Nat → Prop} {q : Rc} {s : Rs} (h : OutR W0 U0 q s W) (i : Nat) (t : Rt) (ht : s.ths[i]? = some t) (c : Nat) (hcall : t.call = c) (cl : Cl) (hc : s.cls[c]? = some cl) (k v : Int) :
    Calls Tryz.prog 66 #[.pointer (some ⟨q.b, 0, none⟩), .int .i64 (i : Int), .int .i64 k, .int .i64 v] W fun e w' => e = .returned (.tuple #[]) ∧ OutR W0 U0 q { s with cls := s.cls.set c { cl with fin := s.n, ak := k, av := v }, ths := s.ths.set i { t with call := -1 } } w' := by
  have hcl : c < s.cls.length := (List.getElem?_eq_some_iff.1 hc).1
  have hit : i < s.ths.length := (List.getElem?_eq_some_iff.1 ht).1
  have hin : i < q.nt := by obtain ⟨_, _, _, hR, _⟩ := h; rw [← hR.tn]; exact hit
  obtain ⟨c0, c1, c2, c3, c6, c7, c8, fb, ft, fw⟩ := h.b0
  obtain ⟨t0, _⟩ := h.ts ht
  obtain ⟨gc, cc, c4, hcl9, fc, n1, n2, n3, PUT⟩ := h.cl hc
  have n1' := n1.symm
  have n2' := n2.symm
  have k5 := hcl9 5 _ rfl
  have k7 := hcl9 7 _ rfl
  have k8 := hcl9 8 _ rfl
  have fin : OutR W0 U0 q { s with cls := s.cls.set c { cl with fin := s.n, ak := k, av := v }, ths := s.ths.set i { t with call := -1 } } ((((W.setCell ⟨gc, c * 9 + 5, none⟩ (.int .i64 s.n)).setCell ⟨gc, c * 9 + 7, none⟩ (.int .i64 k)).setCell ⟨gc, c * 9 + 8, none⟩ (.int .i64 v)).setCell ⟨q.gt, i * 5 + 0, none⟩ (.int .i64 (-1))) := by
    have st : ∀ {W' : World} {s' : Rs} {x x' : Cl} (j : Nat) (u : Value), OutR W0 U0 q s' W' → W'.cell? ⟨q.b, 4, none⟩ = some (.slice (some ⟨gc, 0, none⟩) s.cls.length cc) → s'.cls.length = s.cls.length → s'.cls[c]? = some x → j < 9 → x'.cells = x.cells.set j u → OutR W0 U0 q { s' with cls := s'.cls.set c x' } (W'.setCell ⟨gc, c * 9 + j, none⟩ u) ∧ (W'.setCell ⟨gc, c * 9 + j, none⟩ u).cell? ⟨q.b, 4, none⟩ = some (.slice (some ⟨gc, 0, none⟩) s.cls.length cc) := fun j u h' h4 hn hx hj hu => by
      obtain ⟨gc', cc', c4', _, _, _, _, _, PUT'⟩ := h'.cl hx
      rw [h4] at c4'
      injection c4' with c4'
      injection c4' with e1 e2 e3
      injection e1 with e1
      injection e1 with e1
      subst e1
      exact ⟨PUT'.out j u _ hj hu, (World.cell?_of_block (Below.heap_setCell _ _ _ _ n1')).trans h4⟩
    obtain ⟨f1, e1⟩ := st (x' := { cl with fin := s.n }) 5 (.int .i64 s.n) h c4 rfl hc (by decide) rfl
    obtain ⟨f2, e2⟩ := st (x := { cl with fin := s.n }) (x' := { cl with fin := s.n, ak := k }) 7 (.int .i64 k) f1 e1 (by simp) (by simp [hcl]) (by decide) rfl
    obtain ⟨f3, e3⟩ := st (x := { cl with fin := s.n, ak := k }) (x' := { cl with fin := s.n, ak := k, av := v }) 8 (.int .i64 v) f2 e2 (by simp) (by simp [hcl]) (by decide) rfl
    have f4 := f3.setT (t' := { t with call := -1 }) ht 0 (by decide) (u := .int .i64 (-1)) rfl
    simpa only [List.set_set] using f4
  rw [hcall] at t0
  generalize hN : s.cls.length = N at *
  replace hN := Mr.hid hN
  replace h := Mr.hid h
  replace fin := Mr.hid fin
  clear PUT hcl9
  go_enter Tryz.func66, Tryz.ntmps66
  go_wp2
  go_region_held3 (fun w' => w'.cell? ⟨q.b, 2, none⟩ = some (.slice (some ⟨q.gw, 0, none⟩) (2 + q.r) q.cw) ∧ w'.cell? ⟨q.b, 3, none⟩ = some (.slice (some ⟨q.gt, 0, none⟩) q.nt q.ct) ∧ w'.cell? ⟨q.b, 4, none⟩ = some (.slice (some ⟨gc, 0, none⟩) N cc) ∧ w'.cell? ⟨q.gt, i * 5, none⟩ = some (.int .i64 (c : Int))) (go_keep) (fail)
  go_wp2
  go_end0
  exact ⟨rfl, fin.out.drew⟩
end Go.Proofs.YtnapnhmmopajfaaGreat.Rd
