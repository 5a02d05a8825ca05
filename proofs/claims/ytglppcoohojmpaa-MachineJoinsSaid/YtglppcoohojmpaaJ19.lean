import Derived.Test.YtglppcoohojmpaaJ17
import Derived.Test.YtglppcoohojmpaaJ02
import Derived.Test.YtglppcoohojmpaaJ18
/-
  THE DOCUMENT's MACHINE: an access is noted.
-/
namespace Go.Proofs.Ytglppcoohojmpaa.Rf
open Go.RowKit Mr Me Ma
/-- What is behind the first n statements of a row of them. -/
def tl : Nat → Code → Code
  | n + 1, .seq _ b => tl n b
  | _, c => c
/-- The last statement of access. -/
noncomputable def codeA : Code := tl 7 (Try.f63.body.getD .skip)
section
variable {W : World} {U : Nat → Prop} {q : Rc} {vc vl vs : Value} {s : Rs} {i : Nat} {t : Rt}
theorem Rm.grow1 (h : Rm W U q vc vl vs s) {w0 w1 : World} {row : Option Nat} (hB : Below W.heap.size W w0) (hgrow : w0.grownBy w1 row) (hne : row ≠ some q.b) : w1.heap[q.b]? = some (q.box s.n vc vl vs) := by
  have hl := h.lt
  have h0 : w0.heap[q.b]? = some (q.box s.n vc vl vs) := (hB.block _ hl).trans h.bx
  have hs := hB.size
  exact (hgrow.block _ (by omega) (fun e => hne e.symm)).trans h0
theorem Rm.noted (h : Rm W U q vc vl vs s) {w0 w1 : World} (hB : Below W.heap.size W w0) {v' : Value} {x : Acc} {n : Nat} (hn : n = s.lg.length + 1)
    (hown : Has w1 (fun k => U k ∨ (W.heap.size ≤ k ∧ k < w1.heap.size)) 128 7 v' n (lgc s.lg ++ x.cells)) (hgrow : w0.grownBy w1 vl.ownBlock) :
    Rm (w1.setCell ⟨q.b, 25, none⟩ v') (fun k => U k ∨ (W.heap.size ≤ k ∧ k < w1.heap.size)) q vc v' vs { s with lg := s.lg ++ [x] } ∧ Fr W (w1.setCell ⟨q.b, 25, none⟩ v') U := by
  subst hn
  have hbl : vl.ownBlock ≠ some q.b := not_row h.bx h.lg (by decide)
  have hb := h.grow1 hB hgrow hbl
  have hb' : v'.ownBlock ≠ some q.b := not_row hb hown (by decide)
  have hs : w0.heap.size ≤ w1.heap.size := hgrow.size
  have hs0 := hB.size
  have f : ∀ {e sz n : Nat} {v : Value} {xs : List Value}, Has W U e sz v n xs → e ≠ 128 → v.ownBlock ≠ some q.b → Has (w1.setCell ⟨q.b, 25, none⟩ v') (fun k => U k ∨ (W.heap.size ≤ k ∧ k < w1.heap.size)) e sz v n xs := fun hv hne hb2 => (((hv.below hB).grown hgrow (fun k hk e => has_ne hv h.lg hne k hk e)).setCell _ _ hb2).mono (fun _ => .inl)
  refine ⟨⟨?_, f h.wd (by decide) (not_row h.bx h.wd (by decide)), f h.cd (by decide) (not_row h.bx h.cd (by decide)), f h.lb (by decide) (not_row h.bx h.lb (by decide)), f h.en (by decide) (not_row h.bx h.en (by decide)), f h.th (by decide) (not_row h.bx h.th (by decide)), h.tn, f h.cl (by decide) (not_row h.bx h.cl (by decide)), ?_, .inl h.ub, fun k hk => ?_⟩, ?_⟩
  · unfold Rc.box at hb ⊢
    rw [setBlk hb]
    rfl
  · rw [lgc_snoc]
    have e : (s.lg ++ [x]).length = s.lg.length + 1 := by simp
    show Has _ _ _ 7 v' (s.lg ++ [x]).length _
    rw [e]
    exact hown.setCell _ _ hb'
  · have hz : (w1.setCell ⟨q.b, 25, none⟩ v').heap.size = w1.heap.size := by simp [World.setCell]
    rw [hz]
    rcases hk with hk | hk
    · have := h.ul k hk; omega
    · exact hk.2
  · exact ((Fr.of_below hB).grown hgrow (fun k hk => .inl (h.lg.lt k hk).1)).setCell _ _ (.inl h.ub)
set_option maxRecDepth 100000 in
set_option maxHeartbeats 4000000 in
theorem acc_tail {W0 : World} (h : Rm W U q vc vl vs s) (hF : Fr W0 W U) {bA : Nat} {x : Acc} (hx : W.heap[bA]? = some (.cells #[.int .i64 x.mv, .int .i64 x.th, .int .i64 x.kd, .int .i64 x.ad, .int .u64 x.old, .int .u64 x.new, .int .u64 x.saw] 128 (0, 0))) (hU : ¬ U bA) (hl : s.lg.length ≤ 100000) {z1 z2 z3 z4 z5 z6 z7 z9 z10 z11 z12 z13 z14 z15 z16 z17 z18 z19 z20 z21 z22 z23 z24 z25 z26 z27 z28 z29 z30 z31 z32 z33 z34 z35 z36 z37 z38 z39 z40 z41 z42 z43 z44 z45 z46 z47 z48 z49 z50 z51 z52 z53 z54 z55 z56 z57 z58 z59 z60 z61 z62 z63 z64 z65 z66 z67 z68 z69 z70 z71 z72 z73 z74 z75 z76 z77 z78 z79 z80 z81 z82 z83 z84 z85 z86 z87 z88 z89 z90 z91 z92 z93 z94 z95 z96 z97 z98 z99 z100 z101 z102 z103 z104 z105 z106 z107 z108 z109 z110 z111 z112 z113 z114 z115 z116 z117 z118 z119 z120 z121 z122 z123 z124 z125 z126 z127 z128 z129 z130 z131 z132 z133 z134 z135 z136 z137 z138 z139 z140 z141 z142 z143 z144 z145 z146 z147 z148 z149 : Value} :
    Code.wp Try.prog codeA (bodyPost Try.prog Try.f63 fun e w' => e = .returned (.tuple #[]) ∧ OutR W0 U q vs { s with lg := s.lg ++ [x] } w') ⟨#[.pointer (some ⟨q.b, 0, none⟩), z1, z2, z3, z4, z5, z6, z7, .pointer (some ⟨bA, 0, none⟩), z9, z10, z11, z12, z13, z14, z15, z16, z17, z18, z19, z20, z21, z22, z23, z24, z25, z26, z27, z28, z29, z30, z31, z32, z33, z34, z35, z36, z37, z38, z39, z40, z41, z42, z43, z44, z45, z46, z47, z48, z49, z50, z51, z52, z53, z54, z55, z56, z57, z58, z59, z60, z61, z62, z63, z64, z65, z66, z67, z68, z69, z70, z71, z72, z73, z74, z75, z76, z77, z78, z79, z80, z81, z82, z83, z84, z85, z86, z87, z88, z89, z90, z91, z92, z93, z94, z95, z96, z97, z98, z99, z100, z101, z102, z103, z104, z105, z106, z107, z108, z109, z110, z111, z112, z113, z114, z115, z116, z117, z118, z119, z120, z121, z122, z123, z124, z125, z126, z127, z128, z129, z130, z131, z132, z133, z134, z135, z136, z137, z138, z139, z140, z141, z142, z143, z144, z145, z146, z147, z148, z149], []⟩ W := by
  obtain ⟨i0, hi, hz0, hz1, hz2⟩ := info_parts info_acc
  obtain ⟨⟨x7, x8, x9, x10, x11⟩, x23, x24, x25, x26⟩ := h.cells
  have l1 := h.lt
  have l2 : bA < W.heap.size := (Array.getElem?_eq_some_iff.1 hx).1
  obtain ⟨a, cap, hv, hle⟩ := h.lg.form
  subst hv
  have y : W.cell? ⟨bA, 0, none⟩ = some (.int .i64 x.mv) ∧ W.cell? ⟨bA, 1, none⟩ = some (.int .i64 x.th) ∧ W.cell? ⟨bA, 2, none⟩ = some (.int .i64 x.kd) ∧ W.cell? ⟨bA, 3, none⟩ = some (.int .i64 x.ad) ∧ W.cell? ⟨bA, 4, none⟩ = some (.int .u64 x.old) ∧ W.cell? ⟨bA, 5, none⟩ = some (.int .u64 x.new) ∧ W.cell? ⟨bA, 6, none⟩ = some (.int .u64 x.saw) := by simp [World.cell?, hx]
  obtain ⟨y0, y1, y2, y3, y4, y5, y6⟩ := y
  have nb : bA ≠ q.b := fun e => hU (by rw [e]; exact h.ub)
  have nb' := nb.symm
  have law : ∀ (w0 : World), Below W.heap.size W w0 → Has w0 (fun k => U k ∨ W.heap.size ≤ k) 128 7 (.slice a s.lg.length cap) s.lg.length (lgc s.lg) := fun w0 B => (h.lg.below B).mono (fun _ => .inl)
  have hB1 : ∀ p, Below W.heap.size W (W.alloc p).drew := fun p => Below.drew ((Below.refl _ _).alloc (Nat.le_refl _) p)
  have hbl : (Value.slice a s.lg.length cap).ownBlock ≠ some q.b := not_row h.bx h.lg (by decide)
  have FN := fun (p : Obj) (w1 : World) (g cap' : Nat) (hown : Has w1 (fun k => U k ∨ W.heap.size ≤ k) 128 7 (.slice (some ⟨g, 0, none⟩) (s.lg.length + 1) cap') (s.lg.length + 1) (lgc s.lg ++ x.cells)) (hgrow : (W.alloc p).drew.grownBy w1 (Value.slice a s.lg.length cap).ownBlock) => (show OutR W0 U q vs { s with lg := s.lg ++ [x] } (w1.setCell ⟨q.b, 25, none⟩ (.slice (some ⟨g, 0, none⟩) (s.lg.length + 1) cap')) from by
    obtain ⟨r1, r2⟩ := h.noted (hB1 p) rfl (hown.kept (fun _ _ => rfl) (fun k hk => by
      have := hown.lt k hk
      rcases this.1 with e | e
      · exact .inl e
      · exact .inr ⟨e, this.2⟩)) hgrow
    have hs := hF.size
    exact ⟨_, _, _, r1, fun _ hk => .inl hk, fun k hk => by rcases hk with hk | hk; exact .inl hk; exact .inr (by omega), hF.trans (r2.mono (fun _ hk => .inl hk))⟩)
  have KB := fun (p : Obj) (w1 : World) (hgrow : (W.alloc p).drew.grownBy w1 (Value.slice a s.lg.length cap).ownBlock) => h.grow1 (hB1 p) hgrow hbl
  replace FN := Mr.hid FN
  replace KB := Mr.hid KB
  replace h := Mr.hid h
  clear hx hF hU hbl
  unfold codeA
  conv => arg 2; whnf
  go_region_law (refine step_append_has _ rfl (.tmp 144) (.tmp 146) 50 rfl (fun k => U k ∨ W.heap.size ≤ k) 128 i0 _ 7 56 Try.underlying50 hi hz0 hz1 hz2 rfl (.slice a s.lg.length cap) s.lg.length (lgc s.lg) (by simp [Act.eval]) (law _ (hB1 _)) ⟨W.heap.size, 0, none⟩ 1 1 [.int .i64 x.mv, .int .i64 x.th, .int .i64 x.kd, .int .i64 x.ad, .int .u64 x.old, .int .u64 x.new, .int .u64 x.saw] (by simp [Act.eval]) rfl (newsAt W _ #[.int .i64 x.mv, .int .i64 x.th, .int .i64 x.kd, .int .i64 x.ad, .int .u64 x.old, .int .u64 x.new, .int .u64 x.saw] 128 _ rfl rfl) (by simp [Value.oneCell']) (by omega) (by unfold maxLen; omega) (by omega) (by right; simp) ?_; intro g cap' w1 hown hgrow hat; have kb := KB.out _ w1 hgrow; unfold Rc.box at kb; have kc : w1.cell? ⟨q.b, 25, none⟩ = some (.slice a s.lg.length cap) := (by simp [World.cell?, kb]); have kf : w1.frozen? ⟨q.b, 25, none⟩ = false := (by simp [World.frozen?, kb]); have F9 := FN.out _ w1 g cap' hown hgrow; clear kb hown hgrow hat; replace F9 := Mr.hid F9)
  all_goals (go_wp2; go_end0; exact ⟨rfl, F9.out⟩)
end
end Go.Proofs.Ytglppcoohojmpaa.Rf
/-
  THE DOCUMENT's MACHINE: its accesses.
-/
namespace Go.Proofs.Ytglppcoohojmpaa.Rf
open Go.RowKit Mr Me Ma
section
variable {W : World} {U : Nat → Prop} {q : Rc} {vc vl vs : Value} {s : Rs} {i : Nat} {t : Rt}
theorem bel2 (w : World) (o1 o2 : Obj) : Below w.heap.size w ((w.alloc o1).alloc o2).drew.drew := (((Below.refl _ _).alloc (Nat.le_refl _) o1).alloc (by simp) o2).drew.drew
theorem two_boxes2 {n : Nat} (w : World) (o1 o2 : Obj) (h : w.heap.size = n) : ((w.alloc o1).alloc o2).drew.drew.heap[n + 1]? = some o2 := by
  have := heap_alloc_new (w.alloc o1) o2
  rw [World.size_alloc, h] at this
  exact this
theorem bel4 (w : World) (o1 o2 : Obj) : Below w.heap.size w ((w.alloc o1).alloc o2).drew.drew.drew.drew := (((Below.refl _ _).alloc (Nat.le_refl _) o1).alloc (by simp) o2).drew.drew.drew.drew
theorem two_boxes4 {n : Nat} (w : World) (o1 o2 : Obj) (h : w.heap.size = n) : ((w.alloc o1).alloc o2).drew.drew.drew.drew.heap[n + 1]? = some o2 := two_boxes2 w o1 o2 h
set_option maxRecDepth 100000 in
set_option maxHeartbeats 4000000 in
theorem access_load (h : Rm W U q vc vl vs s) (ht : s.ths[i]? = some t) (hp : 0 ≤ t.pc ∧ t.pc < 1000) (hl : s.lg.length ≤ 100000) (a c : Nat) (ha : a < 48) (hc : c < 48) (d to : Int) {ad : Nat} (hR : t.R c = ad) {x : Int} (hx : s.ws[ad]? = some x) :
    Calls Try.prog 63 #[.pointer (some ⟨q.b, 0, none⟩), .int .i64 (i : Int), .agg #[.int .i64 1, .int .i64 (a : Int), .int .i64 0, .int .i64 (c : Int), .int .i64 d, .int .i64 to]] W fun e w' => e = .returned (.tuple #[]) ∧ OutR W U q vs { s.put i { t with pc := t.pc + 1, R := upd t.R a x } with lg := s.lg ++ [⟨s.n, i, 1, ad, 0, 0, x⟩] } w' := by
  obtain ⟨⟨x7, x8, x9, x10, x11⟩, x23, x24, x25, x26⟩ := h.cells
  have l1 := h.lt
  have l2 := h.gtl.2
  have hi : (i : Int) < (q.nt : Int) := by have := h.il ht; omega
  have hn := h.ntl ht
  have t2 := h.tcell ht 2 (by decide) (rt_pc t)
  have f2 := h.tfrz
  have hw : wrap64 (t.pc + 1) = t.pc + 1 := wrap64_sm _ (by omega) (by omega)
  have ngb := h.gtb
  have ngb' := ngb.symm
  have hal := (List.getElem?_eq_some_iff.1 hx).1
  obtain ⟨gw, cw, hvw, hgU, hgl, hcn, hcx⟩ := h.wd.there (by omega)
  replace hcx : cw ≤ 9223372036854775807 := by unfold maxLen at hcx; omega
  have k0 : W.cell? ⟨gw, ad, none⟩ = some (.int .u64 x) := h.wd.cells (g := gw) (by rw [hvw]; rfl) _ _ (by simp [wrd, hx])
  have kz : ∀ j, W.frozen? ⟨gw, j, none⟩ = false := fun j => h.wd.frozen (g := gw) (by rw [hvw]; rfl) j
  have ngw : gw ≠ q.gt := fun e => has_ne h.wd h.th (by decide) gw (by rw [hvw]; rfl) (by rw [e]; rfl)
  have ngw' := ngw.symm
  have ngv : gw ≠ q.b := fun e => not_row h.bx h.wd (by decide) (by rw [hvw, e]; rfl)
  have ngv' := ngv.symm
  rw [hvw] at x7
  have hadi : (ad : Int) < (s.ws.length : Int) := by omega
  have hwa : wrap64 (ad : Int) = (ad : Int) := wrap64_sm _ (by omega) (by omega)
  have hci : (c : Int) < 48 := by omega
  have rC := h.reg ht c hc
  rw [hR] at rC
  replace hR := Mr.hid hR
  replace hx := Mr.hid hx
  have hai : (a : Int) < 48 := by omega
  have rA := h.reg ht a ha
  have hh := h.pcR ht (t.pc + 1) a ha x
  have hUl := h.ul
  replace hh := Mr.hid hh
  replace hUl := Mr.hid hUl
  replace h := Mr.hid h
  replace ht := Mr.hid ht
  replace hwa := Mr.hid hwa
  go_enter Try.func63, Try.ntmps63
  go_wp2
  go_region
  replace hwa := hwa.out
  go_wp2
  go_region
  go_wp2
  all_goals refine acc_tail (s := s.put i { t with pc := t.pc + 1, R := upd t.R a x }) (x := ⟨s.n, i, 1, ad, 0, 0, x⟩) (hh.out.1.below ?_) (hh.out.2.trans (Fr.of_below ?_)) ?_ ?_ ?_
  all_goals first | exact hl | exact bel2 _ _ _ | exact (two_boxes2 _ _ _ (by simp [World.setCell])) | exact (fun hu => by have := hUl.out _ hu; omega)

set_option maxRecDepth 100000 in
set_option maxHeartbeats 4000000 in
theorem access_hit (h : Rm W U q vc vl vs s) (ht : s.ths[i]? = some t) (hp : 0 ≤ t.pc ∧ t.pc < 1000) (hl : s.lg.length ≤ 100000) (a c d : Nat) (ha : a < 48) (hc : c < 48) (hd : d < 48) (to : Int) {ad : Nat} (hR : t.R c = ad) {x : Int} (hx : s.ws[ad]? = some x) (heq : x = t.R a) :
    Calls Try.prog 63 #[.pointer (some ⟨q.b, 0, none⟩), .int .i64 (i : Int), .agg #[.int .i64 3, .int .i64 (a : Int), .int .i64 0, .int .i64 (c : Int), .int .i64 (d : Int), .int .i64 to]] W fun e w' => e = .returned (.tuple #[]) ∧ OutR W U q vs { s.put i { t with pc := t.pc + 1 } with ws := s.ws.set ad (t.R d), lg := s.lg ++ [⟨s.n, i, 3, ad, t.R a, t.R d, x⟩] } w' := by
  obtain ⟨⟨x7, x8, x9, x10, x11⟩, x23, x24, x25, x26⟩ := h.cells
  have l1 := h.lt
  have l2 := h.gtl.2
  have hi : (i : Int) < (q.nt : Int) := by have := h.il ht; omega
  have hn := h.ntl ht
  have t2 := h.tcell ht 2 (by decide) (rt_pc t)
  have f2 := h.tfrz
  have hw : wrap64 (t.pc + 1) = t.pc + 1 := wrap64_sm _ (by omega) (by omega)
  have ngb := h.gtb
  have ngb' := ngb.symm
  have hal := (List.getElem?_eq_some_iff.1 hx).1
  obtain ⟨gw, cw, hvw, hgU, hgl, hcn, hcx⟩ := h.wd.there (by omega)
  replace hcx : cw ≤ 9223372036854775807 := by unfold maxLen at hcx; omega
  have k0 : W.cell? ⟨gw, ad, none⟩ = some (.int .u64 x) := h.wd.cells (g := gw) (by rw [hvw]; rfl) _ _ (by simp [wrd, hx])
  have kz : ∀ j, W.frozen? ⟨gw, j, none⟩ = false := fun j => h.wd.frozen (g := gw) (by rw [hvw]; rfl) j
  have ngw : gw ≠ q.gt := fun e => has_ne h.wd h.th (by decide) gw (by rw [hvw]; rfl) (by rw [e]; rfl)
  have ngw' := ngw.symm
  have ngv : gw ≠ q.b := fun e => not_row h.bx h.wd (by decide) (by rw [hvw, e]; rfl)
  have ngv' := ngv.symm
  rw [hvw] at x7
  have hadi : (ad : Int) < (s.ws.length : Int) := by omega
  have hwa : wrap64 (ad : Int) = (ad : Int) := wrap64_sm _ (by omega) (by omega)
  have hci : (c : Int) < 48 := by omega
  have rC := h.reg ht c hc
  rw [hR] at rC
  replace hR := Mr.hid hR
  replace hx := Mr.hid hx
  have hai : (a : Int) < 48 := by omega
  have hdi : (d : Int) < 48 := by omega
  have rA := h.reg ht a ha
  have rD := h.reg ht d hd
  have b1 : (x == t.R a) = true := by simpa using heq
  have h1 := h.pcP ht (t.pc + 1)
  have h2 := h1.1.putW hvw ad (t.R d)
  have hh : Rm _ U q vc vl vs _ ∧ Fr W _ U := ⟨h2, h1.2.setCell ⟨gw, ad, none⟩ (.int .u64 (t.R d)) (.inl hgU)⟩
  replace heq := Mr.hid heq
  clear h1 h2
  have hUl := h.ul
  replace hh := Mr.hid hh
  replace hUl := Mr.hid hUl
  replace h := Mr.hid h
  replace ht := Mr.hid ht
  replace hwa := Mr.hid hwa
  go_enter Try.func63, Try.ntmps63
  go_wp2
  go_region
  replace hwa := hwa.out
  go_wp2
  go_region
  go_wp2
  go_region
  go_wp2
  go_region
  go_wp2
  all_goals refine acc_tail (s := { s.put i { t with pc := t.pc + 1 } with ws := s.ws.set ad (t.R d) }) (x := ⟨s.n, i, 3, ad, t.R a, t.R d, x⟩) (hh.out.1.below ?_) (hh.out.2.trans (Fr.of_below ?_)) ?_ ?_ ?_
  all_goals first | exact hl | exact bel4 _ _ _ | exact (two_boxes4 _ _ _ (by simp [World.setCell])) | exact (fun hu => by have := hUl.out _ hu; omega)

set_option maxRecDepth 100000 in
set_option maxHeartbeats 4000000 in
theorem access_miss (h : Rm W U q vc vl vs s) (ht : s.ths[i]? = some t) (hp : 0 ≤ t.pc ∧ t.pc < 1000) (hl : s.lg.length ≤ 100000) (a c d l : Nat) (ha : a < 48) (hc : c < 48) (hd : d < 48) {lab : Int} (hlab : q.labs[l]? = some lab) {ad : Nat} (hR : t.R c = ad) {x : Int} (hx : s.ws[ad]? = some x) (hne : x ≠ t.R a) :
    Calls Try.prog 63 #[.pointer (some ⟨q.b, 0, none⟩), .int .i64 (i : Int), .agg #[.int .i64 3, .int .i64 (a : Int), .int .i64 0, .int .i64 (c : Int), .int .i64 (d : Int), .int .i64 (l : Int)]] W fun e w' => e = .returned (.tuple #[]) ∧ OutR W U q vs { s.put i { t with pc := lab } with lg := s.lg ++ [⟨s.n, i, 3, ad, t.R a, t.R d, x⟩] } w' := by
  obtain ⟨⟨x7, x8, x9, x10, x11⟩, x23, x24, x25, x26⟩ := h.cells
  have l1 := h.lt
  have l2 := h.gtl.2
  have hi : (i : Int) < (q.nt : Int) := by have := h.il ht; omega
  have hn := h.ntl ht
  have t2 := h.tcell ht 2 (by decide) (rt_pc t)
  have f2 := h.tfrz
  have hw : wrap64 (t.pc + 1) = t.pc + 1 := wrap64_sm _ (by omega) (by omega)
  have ngb := h.gtb
  have ngb' := ngb.symm
  have hal := (List.getElem?_eq_some_iff.1 hx).1
  obtain ⟨gw, cw, hvw, hgU, hgl, hcn, hcx⟩ := h.wd.there (by omega)
  replace hcx : cw ≤ 9223372036854775807 := by unfold maxLen at hcx; omega
  have k0 : W.cell? ⟨gw, ad, none⟩ = some (.int .u64 x) := h.wd.cells (g := gw) (by rw [hvw]; rfl) _ _ (by simp [wrd, hx])
  have kz : ∀ j, W.frozen? ⟨gw, j, none⟩ = false := fun j => h.wd.frozen (g := gw) (by rw [hvw]; rfl) j
  have ngw : gw ≠ q.gt := fun e => has_ne h.wd h.th (by decide) gw (by rw [hvw]; rfl) (by rw [e]; rfl)
  have ngw' := ngw.symm
  have ngv : gw ≠ q.b := fun e => not_row h.bx h.wd (by decide) (by rw [hvw, e]; rfl)
  have ngv' := ngv.symm
  rw [hvw] at x7
  have hadi : (ad : Int) < (s.ws.length : Int) := by omega
  have hwa : wrap64 (ad : Int) = (ad : Int) := wrap64_sm _ (by omega) (by omega)
  have hci : (c : Int) < 48 := by omega
  have rC := h.reg ht c hc
  rw [hR] at rC
  replace hR := Mr.hid hR
  replace hx := Mr.hid hx
  have hai : (a : Int) < 48 := by omega
  have hdi : (d : Int) < 48 := by omega
  have rA := h.reg ht a ha
  have rD := h.reg ht d hd
  have b1 : (x == t.R a) = false := by simpa using hne
  have hll := (List.getElem?_eq_some_iff.1 hlab).1
  obtain ⟨gb, cb, hvb, hbU, hbl, hbn, hbx⟩ := h.lb.there (by omega)
  replace hbx : cb ≤ 9223372036854775807 := by unfold maxLen at hbx; omega
  have kl : W.cell? ⟨gb, l, none⟩ = some (.int .i64 lab) := h.lb.cells (g := gb) (by rw [hvb]; rfl) _ _ (by simp [nums, hlab])
  have nlt : gb ≠ q.gt := fun e => has_ne h.lb h.th (by decide) gb (by rw [hvb]; rfl) (by rw [e]; rfl)
  have nlt' := nlt.symm
  rw [hvb] at x9
  have hli : (l : Int) < (q.labs.length : Int) := by omega
  have h1 := h.pcP ht (t.pc + 1)
  have h2 := h1.1.pcP (put_get s ht _) lab
  rw [put_put] at h2
  have hh : Rm _ U q vc vl vs _ ∧ Fr W _ U := ⟨h2.1, h1.2.trans (h2.2.mono (fun _ h => .inl h))⟩
  replace hne := Mr.hid hne
  clear h1 h2 hlab hvb
  have hUl := h.ul
  replace hh := Mr.hid hh
  replace hUl := Mr.hid hUl
  replace h := Mr.hid h
  replace ht := Mr.hid ht
  replace hwa := Mr.hid hwa
  go_enter Try.func63, Try.ntmps63
  go_wp2
  go_region
  replace hwa := hwa.out
  go_wp2
  go_region
  go_wp2
  go_region
  go_wp2
  go_region
  go_wp2
  all_goals refine acc_tail (s := s.put i { t with pc := lab }) (x := ⟨s.n, i, 3, ad, t.R a, t.R d, x⟩) (hh.out.1.below ?_) (hh.out.2.trans (Fr.of_below ?_)) ?_ ?_ ?_
  all_goals first | exact hl | exact bel4 _ _ _ | exact (two_boxes4 _ _ _ (by simp [World.setCell])) | exact (fun hu => by have := hUl.out _ hu; omega)

end
end Go.Proofs.Ytglppcoohojmpaa.Rf
