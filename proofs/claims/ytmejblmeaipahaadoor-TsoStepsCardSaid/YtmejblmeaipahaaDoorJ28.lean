import Derived.Test.YtmejblmeaipahaaDoorJ25
/-
  TSO: the document's Turn.
-/
namespace Go.Proofs.YtmejblmeaipahaaDoor.Ts
open Go.RowKit Mr
set_option linter.unusedVariables false
set_option linter.unusedSimpArgs false
set_option maxRecDepth 100000
set_option maxHeartbeats 16000000 in
theorem rturn_2rb (l : Lt) (s : Sv) (o : Int) (B : Nat) (G : Gs) (aw ah : Option Addr) (nw cw nt ct tk : Nat) (ad0 : Int) (r : Rg) (pc : Nat) (b : List Pd) (w0 w : World) (c : List In) (a : Option Addr) (n k ga qa : Nat) (h : Dp l s o B G ah nw nt tk r pc b w0 w c a n k ga qa) (rg vl ol ct0 : Int) (an fn : Nat) (hi : c[pc]? = some ⟨2, rg, (an : Int), vl, (fn : Int), ol, ct0⟩) (hfn : fn < 4) (han : an < nw) (v : Int) (hv : s.ws[an]? = some v) (ho : o ≠ 1) :
    Calls Tryd.prog 20 #[.agg #[.slice aw nw cw, .slice ah nt ct], .int .i64 o, .pointer (some ⟨G.p, 0, none⟩), .agg #[.int .i64 (tk : Int), .bool false, .int .i64 ad0]] w fun e w' => RuP (ins o c (vw s tk)) s tk e (fun s' => Ds w' B G s' nw nt ∧ Below B w w') := by
  obtain rfl := h.ah
  have B2 := bxT_below w aw (some ⟨ga, qa, none⟩) nw cw nt ct tk false ad0
  have b0 := bxT_0 w aw (some ⟨ga, qa, none⟩) nw cw nt ct tk false ad0
  have b1 := bxT_1 w aw (some ⟨ga, qa, none⟩) nw cw nt ct tk false ad0
  have D2 := h.D.below B2
  have x0 := cell_blk b0 1
  have y0 := cell_blk b1 0
  have y1 := cell_blk b1 1
  have l0 := (Array.getElem?_eq_some_iff.1 b0).1
  have l1 := (Array.getElem?_eq_some_iff.1 b1).1
  have p2 := D2.c2
  have lp := D2.lts.1
  have l3 := D2.lts.2.2.2.1
  obtain ⟨q3, f3⟩ := D2.pc h.V.p
  have gw : ga < w.heap.size := Nat.lt_of_lt_of_le h.gaB h.Bw
  have qc := (B2.cell (p := ⟨ga, qa + tk, none⟩) gw).trans h.cell
  have lga : ga < (bxT w aw (some ⟨ga, qa, none⟩) nw cw nt ct tk false ad0).heap.size := Nat.lt_of_lt_of_le gw B2.size
  have htI : (tk : Int) < (nt : Int) := by have := h.t; omega
  have d1 : decide ((tk : Int) < 0) = false := decide_eq_false (by omega)
  have d1' : ¬ (tk : Int) < 0 := by omega
  have d2 : decide ((nt : Int) ≤ (tk : Int)) = false := decide_eq_false (by omega)
  have d2' : ¬ (nt : Int) ≤ (tk : Int) := by omega
  have hpl : pc < n := by have := (List.getElem?_eq_some_iff.1 hi).1; have := h.cd.1; omega
  have dq : ((pc : Int) == (n : Int)) = false := beq_eq_false_iff_ne.2 (by omega)
  have lpI : (pc : Int) < (n : Int) := by omega
  obtain ⟨gc, qd, rfl, lgc, i0, i1, i2, i3, i4, i5, i6⟩ := h.cd.at hi
  have gcB := h.cdB (by intro e; rw [e] at hi; simp at hi) gc qd rfl
  dsimp only at i0 i1 i2 i3 i4 i5 i6
  have lgc2 := Nat.lt_of_lt_of_le lgc B2.size
  replace i0 := (B2.cell (p := ⟨gc, qd + pc * 7, none⟩) lgc).trans i0
  replace i1 := (B2.cell (p := ⟨gc, qd + pc * 7 + 1, none⟩) lgc).trans i1
  replace i2 := (B2.cell (p := ⟨gc, qd + pc * 7 + 2, none⟩) lgc).trans i2
  replace i3 := (B2.cell (p := ⟨gc, qd + pc * 7 + 3, none⟩) lgc).trans i3
  replace i4 := (B2.cell (p := ⟨gc, qd + pc * 7 + 4, none⟩) lgc).trans i4
  replace i5 := (B2.cell (p := ⟨gc, qd + pc * 7 + 5, none⟩) lgc).trans i5
  replace i6 := (B2.cell (p := ⟨gc, qd + pc * 7 + 6, none⟩) lgc).trans i6
  have hcl := Mr.hid h.cd.1
  have hD := Mr.hid h.D
  have hBw := Mr.hid h.Bw
  have gaB := h.gaB
  have hok := Mr.hid h.D.ok
  have hV := h.V
  have ht := h.t
  have hnt := h.nt4
  have hnw := h.nw6
  have hfit := h.fit _ (List.mem_of_getElem? hi)
  have hlen := h.D.len
  have hn10 := h.n10
  replace hi := Mr.hid hi
  have hfm : ¬ ((fn : Int) = -1) := by omega
  have hins : Hid (ins o c (vw s tk) = some { (⟨s.ws, r, (pc : Int), b ++ [⟨(an : Int), (r.get fn)⟩]⟩ : Th) with pc := min ((pc : Int) + 1) (n : Int) }) := by show _ = _; rw [ins_of h.V hi h.cd.1]; simp [stp, ho, hfm]
  have hfin : upd s tk ⟨s.ws, r, min ((pc : Int) + 1) (n : Int), b ++ [⟨(an : Int), (r.get fn)⟩]⟩ = { s with bf := s.bf.set tk (b ++ [⟨(an : Int), (r.get fn)⟩]), pl := s.pl.set tk (min ((pc : Int) + 1) (n : Int)) } := by simp only [upd, set_same h.V.r]
  have hP1 : s.pl[tk]? = some (pc : Int) := h.V.p
  have lan : (an : Int) < (nw : Int) := by omega
  have lfn : (fn : Int) < 4 := by omega
  have df : decide ((0 : Int) ≤ (fn : Int)) = true := decide_eq_true (by omega)
  have df2 : (0 : Int) ≤ (fn : Int) := by omega
  have dO : (o == 1) = false := beq_eq_false_iff_ne.2 ho
  have hbl := h.bl
  replace ho := Mr.hid ho
  replace hfm := Mr.hid hfm
  replace hv := Mr.hid hv
  replace B2 := Mr.hid B2
  clear h D2 b0 b1 f3
  go_enter Tryd.func20, Tryd.ntmps20
  go_upto_region 6 with fail
  show Code.wp _ _ _ _ (bxT w aw (some ⟨ga, qa, none⟩) nw cw nt ct tk false ad0)
  generalize (bxT w aw (some ⟨ga, qa, none⟩) nw cw nt ct tk false ad0) = w2 at *
  go_region_held3 (fun W => W.cell? ⟨G.p, 2, none⟩ = some (.slice (some ⟨G.g3, 0, none⟩) nt G.c3) ∧ W.cell? ⟨G.g3, tk, none⟩ = some (.int .i64 (pc : Int)) ∧ W.cell? ⟨w.heap.size, 1, none⟩ = some (.slice (some ⟨ga, qa, none⟩) nt ct) ∧ W.cell? ⟨ga, qa + tk, none⟩ = some (.slice (some ⟨gc, qd, none⟩) n k)) (simp [*, go_sem]) (fail)
  have B3 : Below w.heap.size w w2.drew := B2.out.drew
  replace x0 : w2.drew.cell? ⟨w.heap.size, 1, none⟩ = some (.slice (some ⟨ga, qa, none⟩) nt ct) := x0
  replace qc : w2.drew.cell? ⟨ga, qa + tk, none⟩ = some (.slice (some ⟨gc, qd, none⟩) n k) := qc
  replace i0 : w2.drew.cell? ⟨gc, qd + pc * 7, none⟩ = some (.int .i64 2) := i0
  replace i1 : w2.drew.cell? ⟨gc, qd + pc * 7 + 1, none⟩ = some (.int .i64 rg) := i1
  replace i2 : w2.drew.cell? ⟨gc, qd + pc * 7 + 2, none⟩ = some (.int .i64 (an : Int)) := i2
  replace i3 : w2.drew.cell? ⟨gc, qd + pc * 7 + 3, none⟩ = some (.int .i64 vl) := i3
  replace i4 : w2.drew.cell? ⟨gc, qd + pc * 7 + 4, none⟩ = some (.int .i64 (fn : Int)) := i4
  replace i5 : w2.drew.cell? ⟨gc, qd + pc * 7 + 5, none⟩ = some (.int .i64 ol) := i5
  replace i6 : w2.drew.cell? ⟨gc, qd + pc * 7 + 6, none⟩ = some (.int .i64 ct0) := i6
  replace l0 : w.heap.size < w2.drew.heap.size := l0
  clear p2 q3 lp l3 y0 y1 l1 lga lgc2 B2
  generalize w2.drew = w3 at *
  have j2 := (hD.out.below B3).c2
  have q3 := ((hD.out.below B3).pc hV.p).1
  go_upto_region 8 with fail
  have lp3 := (hD.out.below B3).lts.1
  have l33 := (hD.out.below B3).lts.2.2.2.1
  have lga3 : ga < w3.heap.size := Nat.lt_of_lt_of_le gw B3.size
  have lgc3 : gc < w3.heap.size := Nat.lt_of_lt_of_le lgc B3.size
  have z1 : ¬ G.p = w3.heap.size := by omega
  have z2 : ¬ G.g3 = w3.heap.size := by omega
  have z3 : ¬ w.heap.size = w3.heap.size := by omega
  have z4 : ¬ ga = w3.heap.size := by omega
  have z5 : ¬ gc = w3.heap.size := by omega
  go_region_held3 (fun W => W.cell? ⟨G.p, 2, none⟩ = some (.slice (some ⟨G.g3, 0, none⟩) nt G.c3) ∧ W.cell? ⟨G.g3, tk, none⟩ = some (.int .i64 (pc : Int)) ∧ W.cell? ⟨w.heap.size, 1, none⟩ = some (.slice (some ⟨ga, qa, none⟩) nt ct) ∧ W.cell? ⟨ga, qa + tk, none⟩ = some (.slice (some ⟨gc, qd, none⟩) n k) ∧ W.cell? ⟨gc, qd + pc * 7, none⟩ = some (.int .i64 2) ∧ W.cell? ⟨gc, qd + pc * 7 + 1, none⟩ = some (.int .i64 rg) ∧ W.cell? ⟨gc, qd + pc * 7 + 2, none⟩ = some (.int .i64 (an : Int)) ∧ W.cell? ⟨gc, qd + pc * 7 + 3, none⟩ = some (.int .i64 vl) ∧ W.cell? ⟨gc, qd + pc * 7 + 4, none⟩ = some (.int .i64 (fn : Int)) ∧ W.cell? ⟨gc, qd + pc * 7 + 5, none⟩ = some (.int .i64 ol) ∧ W.cell? ⟨gc, qd + pc * 7 + 6, none⟩ = some (.int .i64 ct0)) (simp [*, go_sem]) (fail)
  have lo := hD.out.lts
  have R0 : Tl w (w3.alloc (.cells #[.int .i64 2, .int .i64 rg, .int .i64 (an : Int), .int .i64 vl, .int .i64 (fn : Int), .int .i64 ol, .int .i64 ct0] 73)).drew B G s nw nt ct tk n k ga qa gc qd w3.heap.size ⟨2, rg, (an : Int), vl, (fn : Int), ol, ct0⟩ := Tl.below (W := (w3.alloc (.cells #[.int .i64 2, .int .i64 rg, .int .i64 (an : Int), .int .i64 vl, .int .i64 (fn : Int), .int .i64 ol, .int .i64 ct0] 73))) ⟨(hD.out.below B3).below ((Below.refl _ _).alloc (Nat.le_refl _) _), (Below.cell ((Below.refl w3.heap.size w3).alloc (Nat.le_refl _) _) (p := ⟨w.heap.size, 1, none⟩) l0).trans x0, (Below.cell ((Below.refl w3.heap.size w3).alloc (Nat.le_refl _) _) (p := ⟨ga, qa + tk, none⟩) lga3).trans qc, new_at _ _ _ rfl, lo, l0, gaB, hBw.out, (B3.alloc B3.size _).mono hBw.out⟩ (Below.refl _ _).drew
  replace R0 := Mr.hid R0
  have E4 : Hid (Below w.heap.size w (w3.alloc (.cells #[.int .i64 2, .int .i64 rg, .int .i64 (an : Int), .int .i64 vl, .int .i64 (fn : Int), .int .i64 ol, .int .i64 ct0] 73)).drew) := (B3.alloc B3.size _).drew
  clear x0 qc i0 i1 i2 i3 i4 i5 i6 j2 q3 lp3 l33 lga3 lgc3 z1 z2 z3 z4 z5 B3
  generalize (w3.alloc (.cells #[.int .i64 2, .int .i64 rg, .int .i64 (an : Int), .int .i64 vl, .int .i64 (fn : Int), .int .i64 ol, .int .i64 ct0] 73)).drew = w4 at *
  generalize w3.heap.size = hi0 at *
  clear l0
  have i0 := R0.out.i0
  have i3 := R0.out.i3
  have i4 := R0.out.i4
  try dsimp only at i0 i3 i4
  have p1 := R0.out.D.c1
  obtain ⟨ur, fr2⟩ := R0.out.D.r hV.r hfn
  have lg2 := R0.out.D.lts.2.2.1
  have lp4 := R0.out.D.lts.1
  generalize hgr : r.get fn = rv at *
  replace hgr := Mr.hid hgr
  go_upto_region 16 with fail
  go_region_held3 (fun W => W.cell? ⟨G.p, 1, none⟩ = some (.slice (some ⟨G.g2, 0, none⟩) nt G.c2) ∧ W.cell? ⟨hi0, 4, none⟩ = some (.int .i64 (fn : Int)) ∧ W.cell? ⟨G.g2, tk * 4 + fn, none⟩ = some (.int .i64 rv)) (simp [*, go_sem]) (fail)
  have R1 := Mr.hid (R0.out.drew)
  clear ur fr2 lg2 lp4 p1 i0 i3 i4
  have E5 : Hid (Below w.heap.size w w4.drew) := E4.out.drew
  generalize w4.drew = w5 at *
  obtain ⟨a5, c5, u5, f5, H5, A5⟩ := hD.out.b hV.b
  have v5 := (E5.out.cell (p := ⟨G.g4, tk, none⟩) hD.out.lts.2.2.2.2).trans u5
  have F5 : ∀ j, w5.frozen? ⟨G.g4, j, none⟩ = false := fun j => by
    obtain ⟨A, a9, -⟩ := R1.out.D.h4
    unfold World.frozen?; rw [a9]; rfl
  obtain ⟨m5, hm5⟩ : ∃ m5, m5 = b.length := ⟨_, rfl⟩
  rw [← hm5] at v5 H5 A5
  replace hm5 := Mr.hid hm5
  replace H5 := Mr.hid H5
  replace A5 := Mr.hid A5
  clear u5 f5
  go_upto_region 19 with fail
  have i2 := R1.out.i2
  have p3 := R1.out.D.c3
  try dsimp only at i2
  have lp4 := R1.out.D.lts.1
  have lg4 := R1.out.D.lts.2.2.2.2
  refine wp_region_held_drew (S := (fun W => W.cell? ⟨G.p, 3, none⟩ = some (.slice (some ⟨G.g4, 0, none⟩) nt G.c4) ∧ W.cell? ⟨hi0, 2, none⟩ = some (.int .i64 (an : Int)))) (by kernel_rfl) ⟨p3, i2⟩ (fun hHeld => ?_)
  try simp only [Act.put, List.setIfInBounds_toArray, List.set_cons_zero, List.set_cons_succ]
  refine wpAnyH_take (i := 0) (oi := (⟨_, _, _, _, _, _⟩ : Oper)) (v := ?_) rfl (by kernel_rfl) (by kernel_rfl) (by kernel_rfl) (fun _ _ _ h => h) (Or.inl ⟨by rfl, ?_⟩) (by assumption) ?_
  rotate_left
  · intro w9 hSw
    (try dsimp only at hSw)
    go_simp
    all_goals (with_reducible rfl)
  try simp only [Act.put, List.setIfInBounds_toArray, List.set_cons_zero, List.set_cons_succ]
  refine wpAnyH_take (i := 1) (oi := (⟨_, _, _, _, _, _⟩ : Oper)) (v := ?_) rfl (by kernel_rfl) (by kernel_rfl) (by kernel_rfl) (fun _ _ _ h => h) (Or.inl ⟨by rfl, ?_⟩) (by assumption) ?_
  rotate_left
  · intro w9 hSw
    (try dsimp only at hSw)
    go_simp
    all_goals (with_reducible rfl)
  try simp only [Act.put, List.setIfInBounds_toArray, List.set_cons_zero, List.set_cons_succ]
  refine wpAnyH_take (i := 2) (oi := (⟨_, _, _, _, _, _⟩ : Oper)) (v := ?_) rfl (by kernel_rfl) (by kernel_rfl) (by kernel_rfl) (fun _ _ _ h => h) (Or.inl ⟨by rfl, ?_⟩) (by assumption) ?_
  rotate_left
  · intro w9 hSw
    (try dsimp only at hSw)
    go_simp
    all_goals (with_reducible rfl)
  try simp only [Act.put, List.setIfInBounds_toArray, List.set_cons_zero, List.set_cons_succ]
  refine wpAnyH_take (i := 3) (oi := (⟨_, _, _, _, _, _⟩ : Oper)) (v := ?_) rfl (by kernel_rfl) (by kernel_rfl) (by kernel_rfl) (fun _ _ _ h => h) (Or.inl ⟨by rfl, ?_⟩) (by assumption) ?_
  rotate_left
  · intro w9 hSw
    (try dsimp only at hSw)
    go_simp
    all_goals (with_reducible rfl)
  try simp only [Act.put, List.setIfInBounds_toArray, List.set_cons_zero, List.set_cons_succ]
  refine wpAnyH_take (i := 4) (oi := (⟨_, _, _, _, _, _⟩ : Oper)) (v := ?_) rfl (by kernel_rfl) (by kernel_rfl) (by kernel_rfl) (fun _ _ _ h => h) (Or.inl ⟨by rfl, ?_⟩) (by assumption) ?_
  rotate_left
  · intro w9 hSw
    (try dsimp only at hSw)
    go_simp
    all_goals (with_reducible rfl)
  try simp only [Act.put, List.setIfInBounds_toArray, List.set_cons_zero, List.set_cons_succ]
  refine wpAnyH_take (i := 5) (oi := (⟨_, _, _, _, _, _⟩ : Oper)) (v := ?_) rfl (by kernel_rfl) (by kernel_rfl) (by kernel_rfl) (fun _ _ _ h => h) (Or.inl ⟨by rfl, ?_⟩) (by assumption) ?_
  rotate_left
  · intro w9 hSw
    (try dsimp only at hSw)
    go_simp
    all_goals (with_reducible rfl)
  try simp only [Act.put, List.setIfInBounds_toArray, List.set_cons_zero, List.set_cons_succ]
  refine wpAnyH_take (i := 6) (oi := (⟨_, _, _, _, _, _⟩ : Oper)) (v := ?_) rfl (by kernel_rfl) (by kernel_rfl) (by kernel_rfl) (fun _ _ _ h => h) (Or.inl ⟨by rfl, ?_⟩) (by assumption) ?_
  rotate_left
  · intro w9 hSw
    (try dsimp only at hSw)
    go_simp
    all_goals (with_reducible rfl)
  try simp only [Act.put, List.setIfInBounds_toArray, List.set_cons_zero, List.set_cons_succ]
  refine wpAnyH_take (i := 7) (oi := (⟨_, _, _, _, _, _⟩ : Oper)) (v := ?_) rfl (by kernel_rfl) (by kernel_rfl) (by kernel_rfl) (fun _ _ _ h => h) (Or.inl ⟨by rfl, ?_⟩) (by assumption) ?_
  rotate_left
  · intro w9 hSw
    (try dsimp only at hSw)
    go_simp
    all_goals (with_reducible rfl)
  try simp only [Act.put, List.setIfInBounds_toArray, List.set_cons_zero, List.set_cons_succ]
  refine wpAnyH_take (i := 8) (oi := (⟨_, _, _, _, _, _⟩ : Oper)) (v := ?_) rfl (by kernel_rfl) (by kernel_rfl) (by kernel_rfl) (fun _ _ _ h => h) (Or.inl ⟨by rfl, ?_⟩) (by assumption) ?_
  rotate_left
  · intro w9 hSw
    (try dsimp only at hSw)
    go_simp
    all_goals (with_reducible rfl)
  try simp only [Act.put, List.setIfInBounds_toArray, List.set_cons_zero, List.set_cons_succ]
  refine wpAnyH_take (i := 9) (oi := (⟨_, _, _, _, _, _⟩ : Oper)) (v := ?_) rfl (by kernel_rfl) (by kernel_rfl) (by kernel_rfl) (fun _ _ _ h => h) (Or.inl ⟨by rfl, ?_⟩) (by assumption) ?_
  rotate_left
  · intro w9 hSw
    (try dsimp only at hSw)
    go_simp
    all_goals (with_reducible rfl)
  try simp only [Act.put, List.setIfInBounds_toArray, List.set_cons_zero, List.set_cons_succ]
  refine wpAnyH_take (i := 10) (oi := (⟨_, _, _, _, _, _⟩ : Oper)) (v := ?_) rfl (by kernel_rfl) (by kernel_rfl) (by kernel_rfl) (fun _ _ _ h => h) (Or.inl ⟨by rfl, ?_⟩) (by assumption) ?_
  rotate_left
  · intro w9 hSw
    (try dsimp only at hSw)
    go_simp
    all_goals (with_reducible rfl)
  try simp only [Act.put, List.setIfInBounds_toArray, List.set_cons_zero, List.set_cons_succ]
  refine wpAnyH_take (i := 12) (oi := (⟨_, _, _, _, _, _⟩ : Oper)) (v := ?_) rfl (by kernel_rfl) (by kernel_rfl) (by kernel_rfl) (fun _ _ _ h => h) (Or.inl ⟨by rfl, ?_⟩) (by assumption) ?_
  rotate_left
  · intro w9 hSw
    (try dsimp only at hSw)
    go_simp
    all_goals (with_reducible rfl)
  try simp only [Act.put, List.setIfInBounds_toArray, List.set_cons_zero, List.set_cons_succ]
  refine wpAnyH_take (i := 13) (oi := (⟨_, _, _, _, _, _⟩ : Oper)) (v := ?_) rfl (by kernel_rfl) (by kernel_rfl) (by kernel_rfl) (fun _ _ _ h => h) (Or.inl ⟨by rfl, ?_⟩) (by assumption) ?_
  rotate_left
  · intro w9 hSw
    (try dsimp only at hSw)
    go_simp
    all_goals (with_reducible rfl)
  try simp only [Act.put, List.setIfInBounds_toArray, List.set_cons_zero, List.set_cons_succ]
  refine wpAnyH_take (i := 14) (oi := (⟨_, _, _, _, _, _⟩ : Oper)) (v := ?_) rfl (by kernel_rfl) (by kernel_rfl) (by kernel_rfl) (fun _ _ _ h => h) (Or.inl ⟨by rfl, ?_⟩) (by assumption) ?_
  rotate_left
  · intro w9 hSw
    (try dsimp only at hSw)
    go_simp
    all_goals (with_reducible rfl)
  try simp only [Act.put, List.setIfInBounds_toArray, List.set_cons_zero, List.set_cons_succ]
  refine wpAnyH_take (i := 15) (oi := (⟨_, _, _, _, _, _⟩ : Oper)) (v := ?_) rfl (by kernel_rfl) (by kernel_rfl) (by kernel_rfl) (fun _ _ _ h => h) (Or.inl ⟨by rfl, ?_⟩) (by assumption) ?_
  rotate_left
  · intro w9 hSw
    (try dsimp only at hSw)
    go_simp
    all_goals (with_reducible rfl)
  try simp only [Act.put, List.setIfInBounds_toArray, List.set_cons_zero, List.set_cons_succ]
  have R6 := Mr.hid (R1.out.drew)
  replace p3 := R6.out.D.c3
  replace i2 := R6.out.i2
  dsimp only at i2
  replace v5 : w5.drew.cell? ⟨G.g4, tk, none⟩ = some (.slice a5 m5 c5) := v5
  replace F5 : ∀ j, w5.drew.frozen? ⟨G.g4, j, none⟩ = false := F5
  replace lg4 : G.g4 < w5.drew.heap.size := lg4
  replace E5 : Hid (Below w.heap.size w w5.drew) := E5.out.drew
  clear lp4
  generalize w5.drew = w6 at *
  refine wpAnyH_ready (rs := [11, 16]) (by kernel_rfl) (by simp) ?_
  refine AllReadyH.cons (o := (⟨_, _, _, _, _, _⟩ : Oper)) rfl (fun K hK => ?_) (AllReadyH.cons (o := (⟨_, _, _, _, _, _⟩ : Oper)) rfl (fun K hK => ?_) (AllReadyH.nil))
  · go_simp
    refine hK.out _ _ ⟨p3, i2⟩ (fun hHeld9 => ?_)
    clear hK K hHeld
    have hHeld := hHeld9
    clear hHeld9
    try simp only [Act.put, List.setIfInBounds_toArray, List.set_cons_zero, List.set_cons_succ]
    refine wpAnyH_ready (rs := [16]) (by kernel_rfl) (by simp) ?_
    refine AllReadyH.cons (o := (⟨_, _, _, _, _, _⟩ : Oper)) rfl (fun K hK => ?_) (AllReadyH.nil)
    have B7 : Below w6.heap.size w6 (w6.alloc (.cells #[.int .i64 (an : Int), .int .i64 rv] 70)) := (Below.refl _ _).alloc (Nat.le_refl _) _
    have R7 := Mr.hid (R6.out.below B7)
    have n7 : (w6.alloc (.cells #[.int .i64 (an : Int), .int .i64 rv] 70)).heap[w6.heap.size]? = some (.cells #[.int .i64 (an : Int), .int .i64 rv] 70 (0, 0)) := new_at _ _ _ rfl
    have P7 : Hid (PdAt (w6.alloc (.cells #[.int .i64 (an : Int), .int .i64 rv] 70)) (some ⟨w6.heap.size, 0, none⟩) 1 [(⟨(an : Int), rv⟩ : Pd)]) := ⟨rfl, .inr ⟨w6.heap.size, 0, rfl, (Array.getElem?_eq_some_iff.1 n7).1, fun j p hj => by
      match j, hj with
      | 0, hj => simp at hj; subst hj; exact ⟨cell_blk n7 0, cell_blk n7 1⟩⟩⟩
    have r3 := R7.out.D.c3
    have s2 := R7.out.i2
    dsimp only at s2
    have v7 := (B7.cell (p := ⟨G.g4, tk, none⟩) lg4).trans v5
    have F7 : ∀ j, (w6.alloc (.cells #[.int .i64 (an : Int), .int .i64 rv] 70)).frozen? ⟨G.g4, j, none⟩ = false := fun j => (B7.frozen (p := ⟨G.g4, j, none⟩) lg4).trans (F5 j)
    have lg7 := Nat.lt_of_lt_of_le lg4 B7.size
    have E7 : Hid (Below w.heap.size w (w6.alloc (.cells #[.int .i64 (an : Int), .int .i64 rv] 70))) := E5.out.trans (B7.mono E5.out.size)
    go_simp
    refine hK.out _ _ ⟨r3, s2⟩ (fun hHeld9 => ?_)
    clear hK K hHeld
    have hHeld := hHeld9
    clear hHeld9
    try simp only [Act.put, List.setIfInBounds_toArray, List.set_cons_zero, List.set_cons_succ]
    clear n7 B7 p3 i2 v5 F5 lg4 E5 R6
    generalize (w6.alloc (.cells #[.int .i64 (an : Int), .int .i64 rv] 70)) = w7 at *
    generalize w6.heap.size = hs7 at *
    refine wpAnyH_ready (rs := [17]) (by kernel_rfl) (by simp) ?_
    refine AllReadyH.cons (o := (⟨_, _, _, _, _, _⟩ : Oper)) rfl (fun K hK => ?_) (AllReadyH.nil)
    have hA7 : ∀ A : Array Value, w7.heap[G.g4]? = some (.cells A 68 (0, 0)) → A[tk]? = some (.slice a5 m5 c5) := fun A hA => A5.out A (by rw [E7.out.block _ hD.out.lts.2.2.2.2] at hA; exact hA)
    have H7 := H5.out.below E7.out
    have new7 := R7.out.D.new (Nat.le_trans R7.out.Bw E7.out.size)
    refine wp_app_pd _ _ rfl (G.out B) (.slice a5 m5 c5) m5 b rfl hm5.out H7 _ _ _ [(⟨(an : Int), rv⟩ : Pd)] rfl P7.out (by have := hbl; omega) new7 (fun a9 c9 m9 w9 M9 H9 G9 O9 => ?_)
    have z5 : ∀ k9, (Value.slice a5 m5 c5).ownBlock = some k9 → k9 < w.heap.size ∧ G.out B k9 := fun k9 e => ⟨(H5.out.lt k9 e).2, (H5.out.lt k9 e).1⟩
    have K9 : ∀ k9, k9 < w7.heap.size → (Value.slice a5 m5 c5).ownBlock ≠ some k9 → w9.heap[k9]? = w7.heap[k9]? := fun k9 h1 h2 => G9.block k9 h1 (Ne.symm h2)
    have H9' : Has w9 (G.out B) 70 2 (.slice a9 m9 c9) (b ++ [(⟨(an : Int), rv⟩ : Pd)]).length (pdV (b ++ [(⟨(an : Int), rv⟩ : Pd)])) := by rw [← M9.out]; exact H9
    have D9 := Ds.setB (W := w7) (W' := w9) R7.out.D ht hA7 K9 G9.size H9' (O9.imp (fun e => e.symm) (fun e k9 hk9 => by rw [e] at hk9; cases hk9; exact Nat.le_refl _))
    have lo9 := R7.out.lo
    have up9 := R7.out.up
    have ga9 := R7.out.ga_
    have Bw9 := R7.out.Bw
    have ok9 := R7.out.D.ok.le
    have okn := hok.out.np
    have nk : ∀ k9, (k9 < B ∨ w.heap.size ≤ k9 ∨ k9 = G.p ∨ k9 = G.g1 ∨ k9 = G.g2 ∨ k9 = G.g3 ∨ k9 = G.g4) → (Value.slice a5 m5 c5).ownBlock ≠ some k9 := fun k9 hk9 e => by
      obtain ⟨e1, e2, e3, e4, e5, e6, e7⟩ := z5 k9 e
      omega
    have lx7 := World.block_lt_of_cell? w7 _ R7.out.x
    have lq7 := World.block_lt_of_cell? w7 _ R7.out.q
    have lb7 := (Array.getElem?_eq_some_iff.1 R7.out.b).1
    have t3 := (World.cell?_of_block (a := ⟨G.p, 3, none⟩) (K9 G.p R7.out.D.lts.1 (nk _ (by simp)))).trans r3
    have t2 := (World.cell?_of_block (a := ⟨hi0, 2, none⟩) (K9 hi0 lb7 (nk _ (by omega)))).trans s2
    have t4 := (World.cell?_of_block (a := ⟨G.g4, tk, none⟩) (K9 G.g4 R7.out.D.lts.2.2.2.2 (nk _ (by simp)))).trans v7
    have f9 : ∀ j, w9.frozen? ⟨G.g4, j, none⟩ = false := fun j => (World.frozen?_of_block (a := ⟨G.g4, j, none⟩) (K9 G.g4 R7.out.D.lts.2.2.2.2 (nk _ (by simp)))).trans (F7 j)
    have l9 : G.g4 < w9.heap.size := Nat.lt_of_lt_of_le lg7 G9.size
    have R9 : Tl w (w9.setCell ⟨G.g4, tk, none⟩ (.slice a9 m9 c9)) B G { s with bf := s.bf.set tk (b ++ [(⟨(an : Int), rv⟩ : Pd)]) } nw nt ct tk n k ga qa gc qd hi0 ⟨2, rg, (an : Int), vl, (fn : Int), ol, ct0⟩ := ⟨D9, ((World.cell?_of_block (a := ⟨w.heap.size, 1, none⟩) (Below.heap_setCell w9 ⟨G.g4, tk, none⟩ _ w.heap.size (by show _ ≠ G.g4; omega))).trans (World.cell?_of_block (a := ⟨w.heap.size, 1, none⟩) (K9 w.heap.size lx7 (nk _ (by simp))))).trans R7.out.x, ((World.cell?_of_block (a := ⟨ga, qa + tk, none⟩) (Below.heap_setCell w9 ⟨G.g4, tk, none⟩ _ ga (by show _ ≠ G.g4; omega))).trans (World.cell?_of_block (a := ⟨ga, qa + tk, none⟩) (K9 ga lq7 (nk _ (by omega))))).trans R7.out.q, ((Below.heap_setCell w9 ⟨G.g4, tk, none⟩ _ hi0 (by show _ ≠ G.g4; omega)).trans (K9 hi0 lb7 (nk _ (by omega)))).trans R7.out.b, R7.out.lo, R7.out.up, R7.out.ga_, R7.out.Bw, (R7.out.BB.trans (below_of_grown G9 (fun k9 e => (z5 k9 e).2.1) (Nat.le_trans Bw9 E7.out.size))).setCell (p := ⟨G.g4, tk, none⟩) (by show B ≤ G.g4; omega) _⟩
    have r3' := R9.D.c3
    have s2' := R9.i2
    dsimp only at s2'
    replace R9 := Mr.hid R9
    clear H7 H9 H9' G9 O9 z5 K9 D9 nk lx7 lq7 lb7 lo9 up9 ga9 Bw9 ok9 okn hA7 new7 r3 s2 v7 F7 lg7 P7
    refine hK.out _ _ ⟨t3, t2⟩ (fun hHeld9 => ?_)
    clear hK K hHeld
    have hHeld := hHeld9
    clear hHeld9
    try simp only [Act.put, List.setIfInBounds_toArray, List.set_cons_zero, List.set_cons_succ]
    refine wpAnyH_take (i := 18) (oi := (⟨_, _, _, _, _, _⟩ : Oper)) (v := ?_) rfl (by kernel_rfl) (by kernel_rfl) (by kernel_rfl) (fun _ _ _ h => h) (Or.inl ⟨by rfl, ?_⟩) (by assumption) ?_
    rotate_left
    · intro w9 hSw
      (try dsimp only at hSw)
      go_simp
      all_goals (with_reducible rfl)
    try simp only [Act.put, List.setIfInBounds_toArray, List.set_cons_zero, List.set_cons_succ]
    refine wpAnyH_ready (rs := [19]) (by kernel_rfl) (by simp) ?_
    refine AllReadyH.cons (o := (⟨_, _, _, _, _, _⟩ : Oper)) rfl (fun K hK => ?_) (AllReadyH.nil)
    go_simp
    refine hK.out _ _ ⟨r3', s2'⟩ (fun hHeld9 => ?_)
    clear hK K hHeld
    have hHeld := hHeld9
    clear hHeld9
    try simp only [Act.put, List.setIfInBounds_toArray, List.set_cons_zero, List.set_cons_succ]
    refine wpAnyH_done (by kernel_rfl) ?_ _
    clear hHeld r3' s2' t3 t2 t4 f9 l9 hD E7 R7 H5 A5
    generalize w9.setCell ⟨G.g4, tk, none⟩ (.slice a9 m9 c9) = w10 at *
    have hwf : IntKind.i64.wrap ((pc : Int) + 1) = (pc : Int) + 1 := i64x _ (by omega) (by omega)
    have hmn : min ((pc : Int) + 1) (n : Int) = (pc : Int) + 1 := by omega
    have hlt : ¬ (n : Int) < (pc : Int) + 1 := by omega
    go_upto_region 37 with fail
    have p2 := R9.out.D.c2
    have x := R9.out.x
    have q := R9.out.q
    obtain ⟨u3, f3⟩ := R9.out.D.pc hP1
    have l3 := R9.out.D.lts.2.2.2.1
    have lp := R9.out.D.lts.1
    refine wp_region_held_drew (S := (fun W => W.cell? ⟨G.p, 2, none⟩ = some (.slice (some ⟨G.g3, 0, none⟩) nt G.c3) ∧ W.cell? ⟨w.heap.size, 1, none⟩ = some (.slice (some ⟨ga, qa, none⟩) nt ct) ∧ W.cell? ⟨ga, qa + tk, none⟩ = some (.slice (some ⟨gc, qd, none⟩) n k))) (by kernel_rfl) ⟨p2, x, q⟩ (fun hHeld => ?_)
    try simp only [Act.put, List.setIfInBounds_toArray, List.set_cons_zero, List.set_cons_succ]
    refine wpAnyH_take (i := 0) (oi := (⟨_, _, _, _, _, _⟩ : Oper)) (v := ?_) rfl (by kernel_rfl) (by kernel_rfl) (by kernel_rfl) (fun _ _ _ h => h) (Or.inl ⟨by rfl, ?_⟩) (by assumption) ?_
    rotate_left
    · intro w9 hSw
      (try dsimp only at hSw)
      go_simp
      all_goals (with_reducible rfl)
    try simp only [Act.put, List.setIfInBounds_toArray, List.set_cons_zero, List.set_cons_succ]
    refine wpAnyH_take (i := 1) (oi := (⟨_, _, _, _, _, _⟩ : Oper)) (v := ?_) rfl (by kernel_rfl) (by kernel_rfl) (by kernel_rfl) (fun _ _ _ h => h) (Or.inl ⟨by rfl, ?_⟩) (by assumption) ?_
    rotate_left
    · intro w9 hSw
      (try dsimp only at hSw)
      go_simp
      all_goals (with_reducible rfl)
    try simp only [Act.put, List.setIfInBounds_toArray, List.set_cons_zero, List.set_cons_succ]
    refine wpAnyH_take (i := 2) (oi := (⟨_, _, _, _, _, _⟩ : Oper)) (v := ?_) rfl (by kernel_rfl) (by kernel_rfl) (by kernel_rfl) (fun _ _ _ h => h) (Or.inl ⟨by rfl, ?_⟩) (by assumption) ?_
    rotate_left
    · intro w9 hSw
      (try dsimp only at hSw)
      go_simp
      all_goals (with_reducible rfl)
    try simp only [Act.put, List.setIfInBounds_toArray, List.set_cons_zero, List.set_cons_succ]
    refine wpAnyH_take (i := 3) (oi := (⟨_, _, _, _, _, _⟩ : Oper)) (v := ?_) rfl (by kernel_rfl) (by kernel_rfl) (by kernel_rfl) (fun _ _ _ h => h) (Or.inl ⟨by rfl, ?_⟩) (by assumption) ?_
    rotate_left
    · intro w9 hSw
      (try dsimp only at hSw)
      go_simp
      all_goals (with_reducible rfl)
    try simp only [Act.put, List.setIfInBounds_toArray, List.set_cons_zero, List.set_cons_succ]
    refine wpAnyH_take (i := 4) (oi := (⟨_, _, _, _, _, _⟩ : Oper)) (v := ?_) rfl (by kernel_rfl) (by kernel_rfl) (by kernel_rfl) (fun _ _ _ h => h) (Or.inl ⟨by rfl, ?_⟩) (by assumption) ?_
    rotate_left
    · intro w9 hSw
      (try dsimp only at hSw)
      go_simp
      all_goals (with_reducible rfl)
    try simp only [Act.put, List.setIfInBounds_toArray, List.set_cons_zero, List.set_cons_succ]
    refine wpAnyH_take (i := 5) (oi := (⟨_, _, _, _, _, _⟩ : Oper)) (v := ?_) rfl (by kernel_rfl) (by kernel_rfl) (by kernel_rfl) (fun _ _ _ h => h) (Or.inl ⟨by rfl, ?_⟩) (by assumption) ?_
    rotate_left
    · intro w9 hSw
      (try dsimp only at hSw)
      go_simp
      all_goals (with_reducible rfl)
    try simp only [Act.put, List.setIfInBounds_toArray, List.set_cons_zero, List.set_cons_succ]
    refine wpAnyH_take (i := 6) (oi := (⟨_, _, _, _, _, _⟩ : Oper)) (v := ?_) rfl (by kernel_rfl) (by kernel_rfl) (by kernel_rfl) (fun _ _ _ h => h) (Or.inl ⟨by rfl, ?_⟩) (by assumption) ?_
    rotate_left
    · intro w9 hSw
      (try dsimp only at hSw)
      go_simp
      all_goals (with_reducible rfl)
    try simp only [Act.put, List.setIfInBounds_toArray, List.set_cons_zero, List.set_cons_succ]
    refine wpAnyH_take (i := 7) (oi := (⟨_, _, _, _, _, _⟩ : Oper)) (v := ?_) rfl (by kernel_rfl) (by kernel_rfl) (by kernel_rfl) (fun _ _ _ h => h) (Or.inl ⟨by rfl, ?_⟩) (by assumption) ?_
    rotate_left
    · intro w9 hSw
      (try dsimp only at hSw)
      go_simp
      all_goals (with_reducible rfl)
    try simp only [Act.put, List.setIfInBounds_toArray, List.set_cons_zero, List.set_cons_succ]
    refine wpAnyH_take (i := 8) (oi := (⟨_, _, _, _, _, _⟩ : Oper)) (v := ?_) rfl (by kernel_rfl) (by kernel_rfl) (by kernel_rfl) (fun _ _ _ h => h) (Or.inl ⟨by rfl, ?_⟩) (by assumption) ?_
    rotate_left
    · intro w9 hSw
      (try dsimp only at hSw)
      go_simp
      all_goals (with_reducible rfl)
    try simp only [Act.put, List.setIfInBounds_toArray, List.set_cons_zero, List.set_cons_succ]
    refine wpAnyH_take (i := 9) (oi := (⟨_, _, _, _, _, _⟩ : Oper)) (v := ?_) rfl (by kernel_rfl) (by kernel_rfl) (by kernel_rfl) (fun _ _ _ h => h) (Or.inl ⟨by rfl, ?_⟩) (by assumption) ?_
    rotate_left
    · intro w9 hSw
      (try dsimp only at hSw)
      go_simp
      all_goals (with_reducible rfl)
    try simp only [Act.put, List.setIfInBounds_toArray, List.set_cons_zero, List.set_cons_succ]
    refine wpAnyH_take (i := 10) (oi := (⟨_, _, _, _, _, _⟩ : Oper)) (v := ?_) rfl (by kernel_rfl) (by kernel_rfl) (by kernel_rfl) (fun _ _ _ h => h) (Or.inl ⟨by rfl, ?_⟩) (by assumption) ?_
    rotate_left
    · intro w9 hSw
      (try dsimp only at hSw)
      go_simp
      all_goals (with_reducible rfl)
    try simp only [Act.put, List.setIfInBounds_toArray, List.set_cons_zero, List.set_cons_succ]
    refine wpAnyH_take (i := 12) (oi := (⟨_, _, _, _, _, _⟩ : Oper)) (v := ?_) rfl (by kernel_rfl) (by kernel_rfl) (by kernel_rfl) (fun _ _ _ h => h) (Or.inl ⟨by rfl, ?_⟩) (by assumption) ?_
    rotate_left
    · intro w9 hSw
      (try dsimp only at hSw)
      go_simp
      all_goals (with_reducible rfl)
    try simp only [Act.put, List.setIfInBounds_toArray, List.set_cons_zero, List.set_cons_succ]
    refine wpAnyH_take (i := 14) (oi := (⟨_, _, _, _, _, _⟩ : Oper)) (v := ?_) rfl (by kernel_rfl) (by kernel_rfl) (by kernel_rfl) (fun _ _ _ h => h) (Or.inl ⟨by rfl, ?_⟩) (by assumption) ?_
    rotate_left
    · intro w9 hSw
      (try dsimp only at hSw)
      go_simp
      all_goals (with_reducible rfl)
    try simp only [Act.put, List.setIfInBounds_toArray, List.set_cons_zero, List.set_cons_succ]
    refine wpAnyH_take (i := 15) (oi := (⟨_, _, _, _, _, _⟩ : Oper)) (v := ?_) rfl (by kernel_rfl) (by kernel_rfl) (by kernel_rfl) (fun _ _ _ h => h) (Or.inl ⟨by rfl, ?_⟩) (by assumption) ?_
    rotate_left
    · intro w9 hSw
      (try dsimp only at hSw)
      go_simp
      all_goals (with_reducible rfl)
    try simp only [Act.put, List.setIfInBounds_toArray, List.set_cons_zero, List.set_cons_succ]
    refine wpAnyH_take (i := 16) (oi := (⟨_, _, _, _, _, _⟩ : Oper)) (v := ?_) rfl (by kernel_rfl) (by kernel_rfl) (by kernel_rfl) (fun _ _ _ h => h) (Or.inl ⟨by rfl, ?_⟩) (by assumption) ?_
    rotate_left
    · intro w9 hSw
      (try dsimp only at hSw)
      go_simp
      all_goals (with_reducible rfl)
    try simp only [Act.put, List.setIfInBounds_toArray, List.set_cons_zero, List.set_cons_succ]
    refine wpAnyH_take (i := 17) (oi := (⟨_, _, _, _, _, _⟩ : Oper)) (v := ?_) rfl (by kernel_rfl) (by kernel_rfl) (by kernel_rfl) (fun _ _ _ h => h) (Or.inl ⟨by rfl, ?_⟩) (by assumption) ?_
    rotate_left
    · intro w9 hSw
      (try dsimp only at hSw)
      go_simp
      all_goals (with_reducible rfl)
    try simp only [Act.put, List.setIfInBounds_toArray, List.set_cons_zero, List.set_cons_succ]
    refine wpAnyH_take (i := 18) (oi := (⟨_, _, _, _, _, _⟩ : Oper)) (v := ?_) rfl (by kernel_rfl) (by kernel_rfl) (by kernel_rfl) (fun _ _ _ h => h) (Or.inl ⟨by rfl, ?_⟩) (by assumption) ?_
    rotate_left
    · intro w9 hSw
      (try dsimp only at hSw)
      go_simp
      all_goals (with_reducible rfl)
    try simp only [Act.put, List.setIfInBounds_toArray, List.set_cons_zero, List.set_cons_succ]
    refine wpAnyH_take (i := 19) (oi := (⟨_, _, _, _, _, _⟩ : Oper)) (v := ?_) rfl (by kernel_rfl) (by kernel_rfl) (by kernel_rfl) (fun _ _ _ h => h) (Or.inl ⟨by rfl, ?_⟩) (by assumption) ?_
    rotate_left
    · intro w9 hSw
      (try dsimp only at hSw)
      go_simp
      all_goals (with_reducible rfl)
    try simp only [Act.put, List.setIfInBounds_toArray, List.set_cons_zero, List.set_cons_succ]
    have R8 := Mr.hid R9.out.drew
    replace p2 := R8.out.D.c2
    replace x := R8.out.x
    replace q := R8.out.q
    obtain ⟨u4, f4⟩ := R8.out.D.pc hP1
    replace l3 := R8.out.D.lts.2.2.2.1
    replace lp := R8.out.D.lts.1
    clear u3 f3
    generalize w10.drew = w11 at *
    refine wpAnyH_ready (rs := [11]) (by kernel_rfl) (by simp) ?_
    refine AllReadyH.cons (o := (⟨_, _, _, _, _, _⟩ : Oper)) rfl (fun K hK => ?_) (AllReadyH.nil)
    go_simp
    refine hK.out _ _ ⟨p2, x, q⟩ (fun hHeld9 => ?_)
    clear hK K hHeld
    have hHeld := hHeld9
    clear hHeld9
    try simp only [Act.put, List.setIfInBounds_toArray, List.set_cons_zero, List.set_cons_succ]
    refine wpAnyH_take (i := 13) (oi := (⟨_, _, _, _, _, _⟩ : Oper)) (v := ?_) rfl (by kernel_rfl) (by kernel_rfl) (by kernel_rfl) (fun _ _ _ h => h) (Or.inl ⟨by rfl, ?_⟩) (by assumption) ?_
    rotate_left
    · intro w9 hSw
      (try dsimp only at hSw)
      go_simp
      all_goals (with_reducible rfl)
    try simp only [Act.put, List.setIfInBounds_toArray, List.set_cons_zero, List.set_cons_succ]
    refine wpAnyH_take (i := 20) (oi := (⟨_, _, _, _, _, _⟩ : Oper)) (v := ?_) rfl (by kernel_rfl) (by kernel_rfl) (by kernel_rfl) (fun _ _ _ h => h) (Or.inl ⟨by rfl, ?_⟩) (by assumption) ?_
    rotate_left
    · intro w9 hSw
      (try dsimp only at hSw)
      go_simp
      all_goals (with_reducible rfl)
    try simp only [Act.put, List.setIfInBounds_toArray, List.set_cons_zero, List.set_cons_succ]
    refine wpAnyH_take (i := 21) (oi := (⟨_, _, _, _, _, _⟩ : Oper)) (v := ?_) rfl (by kernel_rfl) (by kernel_rfl) (by kernel_rfl) (fun _ _ _ h => h) (Or.inl ⟨by rfl, ?_⟩) (by assumption) ?_
    rotate_left
    · intro w9 hSw
      (try dsimp only at hSw)
      go_simp
      all_goals (with_reducible rfl)
    try simp only [Act.put, List.setIfInBounds_toArray, List.set_cons_zero, List.set_cons_succ]
    refine wpAnyH_ready (rs := [22]) (by kernel_rfl) (by simp) ?_
    refine AllReadyH.cons (o := (⟨_, _, _, _, _, _⟩ : Oper)) rfl (fun K hK => ?_) (AllReadyH.nil)
    have R99 := R8.out.setP (min ((pc : Int) + 1) (n : Int))
    rw [hmn] at R99
    have r2 := R99.D.c2
    have rx := R99.x
    have rq := R99.q
    replace R99 := Mr.hid R99
    go_simp
    refine hK.out _ _ ⟨r2, rx, rq⟩ (fun hHeld9 => ?_)
    clear hK K hHeld
    have hHeld := hHeld9
    clear hHeld9
    try simp only [Act.put, List.setIfInBounds_toArray, List.set_cons_zero, List.set_cons_succ]
    refine wpAnyH_done (by kernel_rfl) ?_ _
    clear hHeld r2 rx rq
    go_wp2
    go_ret
    refine .inr ⟨_, hins.out, rfl, ?_⟩
    rw [hfin, hmn]
    exact ⟨R99.out.D, R99.out.BB⟩
  · have B7 : Below w6.heap.size w6 (w6.alloc (.cells #[.int .i64 (an : Int), .int .i64 rv] 70)) := (Below.refl _ _).alloc (Nat.le_refl _) _
    have R7 := Mr.hid (R6.out.below B7)
    have n7 : (w6.alloc (.cells #[.int .i64 (an : Int), .int .i64 rv] 70)).heap[w6.heap.size]? = some (.cells #[.int .i64 (an : Int), .int .i64 rv] 70 (0, 0)) := new_at _ _ _ rfl
    have P7 : Hid (PdAt (w6.alloc (.cells #[.int .i64 (an : Int), .int .i64 rv] 70)) (some ⟨w6.heap.size, 0, none⟩) 1 [(⟨(an : Int), rv⟩ : Pd)]) := ⟨rfl, .inr ⟨w6.heap.size, 0, rfl, (Array.getElem?_eq_some_iff.1 n7).1, fun j p hj => by
      match j, hj with
      | 0, hj => simp at hj; subst hj; exact ⟨cell_blk n7 0, cell_blk n7 1⟩⟩⟩
    have r3 := R7.out.D.c3
    have s2 := R7.out.i2
    dsimp only at s2
    have v7 := (B7.cell (p := ⟨G.g4, tk, none⟩) lg4).trans v5
    have F7 : ∀ j, (w6.alloc (.cells #[.int .i64 (an : Int), .int .i64 rv] 70)).frozen? ⟨G.g4, j, none⟩ = false := fun j => (B7.frozen (p := ⟨G.g4, j, none⟩) lg4).trans (F5 j)
    have lg7 := Nat.lt_of_lt_of_le lg4 B7.size
    have E7 : Hid (Below w.heap.size w (w6.alloc (.cells #[.int .i64 (an : Int), .int .i64 rv] 70))) := E5.out.trans (B7.mono E5.out.size)
    go_simp
    refine hK.out _ _ ⟨r3, s2⟩ (fun hHeld9 => ?_)
    clear hK K hHeld
    have hHeld := hHeld9
    clear hHeld9
    try simp only [Act.put, List.setIfInBounds_toArray, List.set_cons_zero, List.set_cons_succ]
    clear n7 B7 p3 i2 v5 F5 lg4 E5 R6
    generalize (w6.alloc (.cells #[.int .i64 (an : Int), .int .i64 rv] 70)) = w7 at *
    generalize w6.heap.size = hs7 at *
    refine wpAnyH_ready (rs := [11]) (by kernel_rfl) (by simp) ?_
    refine AllReadyH.cons (o := (⟨_, _, _, _, _, _⟩ : Oper)) rfl (fun K hK => ?_) (AllReadyH.nil)
    go_simp
    refine hK.out _ _ ⟨r3, s2⟩ (fun hHeld9 => ?_)
    clear hK K hHeld
    have hHeld := hHeld9
    clear hHeld9
    try simp only [Act.put, List.setIfInBounds_toArray, List.set_cons_zero, List.set_cons_succ]
    refine wpAnyH_ready (rs := [17]) (by kernel_rfl) (by simp) ?_
    refine AllReadyH.cons (o := (⟨_, _, _, _, _, _⟩ : Oper)) rfl (fun K hK => ?_) (AllReadyH.nil)
    have hA7 : ∀ A : Array Value, w7.heap[G.g4]? = some (.cells A 68 (0, 0)) → A[tk]? = some (.slice a5 m5 c5) := fun A hA => A5.out A (by rw [E7.out.block _ hD.out.lts.2.2.2.2] at hA; exact hA)
    have H7 := H5.out.below E7.out
    have new7 := R7.out.D.new (Nat.le_trans R7.out.Bw E7.out.size)
    refine wp_app_pd _ _ rfl (G.out B) (.slice a5 m5 c5) m5 b rfl hm5.out H7 _ _ _ [(⟨(an : Int), rv⟩ : Pd)] rfl P7.out (by have := hbl; omega) new7 (fun a9 c9 m9 w9 M9 H9 G9 O9 => ?_)
    have z5 : ∀ k9, (Value.slice a5 m5 c5).ownBlock = some k9 → k9 < w.heap.size ∧ G.out B k9 := fun k9 e => ⟨(H5.out.lt k9 e).2, (H5.out.lt k9 e).1⟩
    have K9 : ∀ k9, k9 < w7.heap.size → (Value.slice a5 m5 c5).ownBlock ≠ some k9 → w9.heap[k9]? = w7.heap[k9]? := fun k9 h1 h2 => G9.block k9 h1 (Ne.symm h2)
    have H9' : Has w9 (G.out B) 70 2 (.slice a9 m9 c9) (b ++ [(⟨(an : Int), rv⟩ : Pd)]).length (pdV (b ++ [(⟨(an : Int), rv⟩ : Pd)])) := by rw [← M9.out]; exact H9
    have D9 := Ds.setB (W := w7) (W' := w9) R7.out.D ht hA7 K9 G9.size H9' (O9.imp (fun e => e.symm) (fun e k9 hk9 => by rw [e] at hk9; cases hk9; exact Nat.le_refl _))
    have lo9 := R7.out.lo
    have up9 := R7.out.up
    have ga9 := R7.out.ga_
    have Bw9 := R7.out.Bw
    have ok9 := R7.out.D.ok.le
    have okn := hok.out.np
    have nk : ∀ k9, (k9 < B ∨ w.heap.size ≤ k9 ∨ k9 = G.p ∨ k9 = G.g1 ∨ k9 = G.g2 ∨ k9 = G.g3 ∨ k9 = G.g4) → (Value.slice a5 m5 c5).ownBlock ≠ some k9 := fun k9 hk9 e => by
      obtain ⟨e1, e2, e3, e4, e5, e6, e7⟩ := z5 k9 e
      omega
    have lx7 := World.block_lt_of_cell? w7 _ R7.out.x
    have lq7 := World.block_lt_of_cell? w7 _ R7.out.q
    have lb7 := (Array.getElem?_eq_some_iff.1 R7.out.b).1
    have t3 := (World.cell?_of_block (a := ⟨G.p, 3, none⟩) (K9 G.p R7.out.D.lts.1 (nk _ (by simp)))).trans r3
    have t2 := (World.cell?_of_block (a := ⟨hi0, 2, none⟩) (K9 hi0 lb7 (nk _ (by omega)))).trans s2
    have t4 := (World.cell?_of_block (a := ⟨G.g4, tk, none⟩) (K9 G.g4 R7.out.D.lts.2.2.2.2 (nk _ (by simp)))).trans v7
    have f9 : ∀ j, w9.frozen? ⟨G.g4, j, none⟩ = false := fun j => (World.frozen?_of_block (a := ⟨G.g4, j, none⟩) (K9 G.g4 R7.out.D.lts.2.2.2.2 (nk _ (by simp)))).trans (F7 j)
    have l9 : G.g4 < w9.heap.size := Nat.lt_of_lt_of_le lg7 G9.size
    have R9 : Tl w (w9.setCell ⟨G.g4, tk, none⟩ (.slice a9 m9 c9)) B G { s with bf := s.bf.set tk (b ++ [(⟨(an : Int), rv⟩ : Pd)]) } nw nt ct tk n k ga qa gc qd hi0 ⟨2, rg, (an : Int), vl, (fn : Int), ol, ct0⟩ := ⟨D9, ((World.cell?_of_block (a := ⟨w.heap.size, 1, none⟩) (Below.heap_setCell w9 ⟨G.g4, tk, none⟩ _ w.heap.size (by show _ ≠ G.g4; omega))).trans (World.cell?_of_block (a := ⟨w.heap.size, 1, none⟩) (K9 w.heap.size lx7 (nk _ (by simp))))).trans R7.out.x, ((World.cell?_of_block (a := ⟨ga, qa + tk, none⟩) (Below.heap_setCell w9 ⟨G.g4, tk, none⟩ _ ga (by show _ ≠ G.g4; omega))).trans (World.cell?_of_block (a := ⟨ga, qa + tk, none⟩) (K9 ga lq7 (nk _ (by omega))))).trans R7.out.q, ((Below.heap_setCell w9 ⟨G.g4, tk, none⟩ _ hi0 (by show _ ≠ G.g4; omega)).trans (K9 hi0 lb7 (nk _ (by omega)))).trans R7.out.b, R7.out.lo, R7.out.up, R7.out.ga_, R7.out.Bw, (R7.out.BB.trans (below_of_grown G9 (fun k9 e => (z5 k9 e).2.1) (Nat.le_trans Bw9 E7.out.size))).setCell (p := ⟨G.g4, tk, none⟩) (by show B ≤ G.g4; omega) _⟩
    have r3' := R9.D.c3
    have s2' := R9.i2
    dsimp only at s2'
    replace R9 := Mr.hid R9
    clear H7 H9 H9' G9 O9 z5 K9 D9 nk lx7 lq7 lb7 lo9 up9 ga9 Bw9 ok9 okn hA7 new7 r3 s2 v7 F7 lg7 P7
    refine hK.out _ _ ⟨t3, t2⟩ (fun hHeld9 => ?_)
    clear hK K hHeld
    have hHeld := hHeld9
    clear hHeld9
    try simp only [Act.put, List.setIfInBounds_toArray, List.set_cons_zero, List.set_cons_succ]
    refine wpAnyH_take (i := 18) (oi := (⟨_, _, _, _, _, _⟩ : Oper)) (v := ?_) rfl (by kernel_rfl) (by kernel_rfl) (by kernel_rfl) (fun _ _ _ h => h) (Or.inl ⟨by rfl, ?_⟩) (by assumption) ?_
    rotate_left
    · intro w9 hSw
      (try dsimp only at hSw)
      go_simp
      all_goals (with_reducible rfl)
    try simp only [Act.put, List.setIfInBounds_toArray, List.set_cons_zero, List.set_cons_succ]
    refine wpAnyH_ready (rs := [19]) (by kernel_rfl) (by simp) ?_
    refine AllReadyH.cons (o := (⟨_, _, _, _, _, _⟩ : Oper)) rfl (fun K hK => ?_) (AllReadyH.nil)
    go_simp
    refine hK.out _ _ ⟨r3', s2'⟩ (fun hHeld9 => ?_)
    clear hK K hHeld
    have hHeld := hHeld9
    clear hHeld9
    try simp only [Act.put, List.setIfInBounds_toArray, List.set_cons_zero, List.set_cons_succ]
    refine wpAnyH_done (by kernel_rfl) ?_ _
    clear hHeld r3' s2' t3 t2 t4 f9 l9 hD E7 R7 H5 A5
    generalize w9.setCell ⟨G.g4, tk, none⟩ (.slice a9 m9 c9) = w10 at *
    have hwf : IntKind.i64.wrap ((pc : Int) + 1) = (pc : Int) + 1 := i64x _ (by omega) (by omega)
    have hmn : min ((pc : Int) + 1) (n : Int) = (pc : Int) + 1 := by omega
    have hlt : ¬ (n : Int) < (pc : Int) + 1 := by omega
    go_upto_region 37 with fail
    have p2 := R9.out.D.c2
    have x := R9.out.x
    have q := R9.out.q
    obtain ⟨u3, f3⟩ := R9.out.D.pc hP1
    have l3 := R9.out.D.lts.2.2.2.1
    have lp := R9.out.D.lts.1
    refine wp_region_held_drew (S := (fun W => W.cell? ⟨G.p, 2, none⟩ = some (.slice (some ⟨G.g3, 0, none⟩) nt G.c3) ∧ W.cell? ⟨w.heap.size, 1, none⟩ = some (.slice (some ⟨ga, qa, none⟩) nt ct) ∧ W.cell? ⟨ga, qa + tk, none⟩ = some (.slice (some ⟨gc, qd, none⟩) n k))) (by kernel_rfl) ⟨p2, x, q⟩ (fun hHeld => ?_)
    try simp only [Act.put, List.setIfInBounds_toArray, List.set_cons_zero, List.set_cons_succ]
    refine wpAnyH_take (i := 0) (oi := (⟨_, _, _, _, _, _⟩ : Oper)) (v := ?_) rfl (by kernel_rfl) (by kernel_rfl) (by kernel_rfl) (fun _ _ _ h => h) (Or.inl ⟨by rfl, ?_⟩) (by assumption) ?_
    rotate_left
    · intro w9 hSw
      (try dsimp only at hSw)
      go_simp
      all_goals (with_reducible rfl)
    try simp only [Act.put, List.setIfInBounds_toArray, List.set_cons_zero, List.set_cons_succ]
    refine wpAnyH_take (i := 1) (oi := (⟨_, _, _, _, _, _⟩ : Oper)) (v := ?_) rfl (by kernel_rfl) (by kernel_rfl) (by kernel_rfl) (fun _ _ _ h => h) (Or.inl ⟨by rfl, ?_⟩) (by assumption) ?_
    rotate_left
    · intro w9 hSw
      (try dsimp only at hSw)
      go_simp
      all_goals (with_reducible rfl)
    try simp only [Act.put, List.setIfInBounds_toArray, List.set_cons_zero, List.set_cons_succ]
    refine wpAnyH_take (i := 2) (oi := (⟨_, _, _, _, _, _⟩ : Oper)) (v := ?_) rfl (by kernel_rfl) (by kernel_rfl) (by kernel_rfl) (fun _ _ _ h => h) (Or.inl ⟨by rfl, ?_⟩) (by assumption) ?_
    rotate_left
    · intro w9 hSw
      (try dsimp only at hSw)
      go_simp
      all_goals (with_reducible rfl)
    try simp only [Act.put, List.setIfInBounds_toArray, List.set_cons_zero, List.set_cons_succ]
    refine wpAnyH_take (i := 3) (oi := (⟨_, _, _, _, _, _⟩ : Oper)) (v := ?_) rfl (by kernel_rfl) (by kernel_rfl) (by kernel_rfl) (fun _ _ _ h => h) (Or.inl ⟨by rfl, ?_⟩) (by assumption) ?_
    rotate_left
    · intro w9 hSw
      (try dsimp only at hSw)
      go_simp
      all_goals (with_reducible rfl)
    try simp only [Act.put, List.setIfInBounds_toArray, List.set_cons_zero, List.set_cons_succ]
    refine wpAnyH_take (i := 4) (oi := (⟨_, _, _, _, _, _⟩ : Oper)) (v := ?_) rfl (by kernel_rfl) (by kernel_rfl) (by kernel_rfl) (fun _ _ _ h => h) (Or.inl ⟨by rfl, ?_⟩) (by assumption) ?_
    rotate_left
    · intro w9 hSw
      (try dsimp only at hSw)
      go_simp
      all_goals (with_reducible rfl)
    try simp only [Act.put, List.setIfInBounds_toArray, List.set_cons_zero, List.set_cons_succ]
    refine wpAnyH_take (i := 5) (oi := (⟨_, _, _, _, _, _⟩ : Oper)) (v := ?_) rfl (by kernel_rfl) (by kernel_rfl) (by kernel_rfl) (fun _ _ _ h => h) (Or.inl ⟨by rfl, ?_⟩) (by assumption) ?_
    rotate_left
    · intro w9 hSw
      (try dsimp only at hSw)
      go_simp
      all_goals (with_reducible rfl)
    try simp only [Act.put, List.setIfInBounds_toArray, List.set_cons_zero, List.set_cons_succ]
    refine wpAnyH_take (i := 6) (oi := (⟨_, _, _, _, _, _⟩ : Oper)) (v := ?_) rfl (by kernel_rfl) (by kernel_rfl) (by kernel_rfl) (fun _ _ _ h => h) (Or.inl ⟨by rfl, ?_⟩) (by assumption) ?_
    rotate_left
    · intro w9 hSw
      (try dsimp only at hSw)
      go_simp
      all_goals (with_reducible rfl)
    try simp only [Act.put, List.setIfInBounds_toArray, List.set_cons_zero, List.set_cons_succ]
    refine wpAnyH_take (i := 7) (oi := (⟨_, _, _, _, _, _⟩ : Oper)) (v := ?_) rfl (by kernel_rfl) (by kernel_rfl) (by kernel_rfl) (fun _ _ _ h => h) (Or.inl ⟨by rfl, ?_⟩) (by assumption) ?_
    rotate_left
    · intro w9 hSw
      (try dsimp only at hSw)
      go_simp
      all_goals (with_reducible rfl)
    try simp only [Act.put, List.setIfInBounds_toArray, List.set_cons_zero, List.set_cons_succ]
    refine wpAnyH_take (i := 8) (oi := (⟨_, _, _, _, _, _⟩ : Oper)) (v := ?_) rfl (by kernel_rfl) (by kernel_rfl) (by kernel_rfl) (fun _ _ _ h => h) (Or.inl ⟨by rfl, ?_⟩) (by assumption) ?_
    rotate_left
    · intro w9 hSw
      (try dsimp only at hSw)
      go_simp
      all_goals (with_reducible rfl)
    try simp only [Act.put, List.setIfInBounds_toArray, List.set_cons_zero, List.set_cons_succ]
    refine wpAnyH_take (i := 9) (oi := (⟨_, _, _, _, _, _⟩ : Oper)) (v := ?_) rfl (by kernel_rfl) (by kernel_rfl) (by kernel_rfl) (fun _ _ _ h => h) (Or.inl ⟨by rfl, ?_⟩) (by assumption) ?_
    rotate_left
    · intro w9 hSw
      (try dsimp only at hSw)
      go_simp
      all_goals (with_reducible rfl)
    try simp only [Act.put, List.setIfInBounds_toArray, List.set_cons_zero, List.set_cons_succ]
    refine wpAnyH_take (i := 10) (oi := (⟨_, _, _, _, _, _⟩ : Oper)) (v := ?_) rfl (by kernel_rfl) (by kernel_rfl) (by kernel_rfl) (fun _ _ _ h => h) (Or.inl ⟨by rfl, ?_⟩) (by assumption) ?_
    rotate_left
    · intro w9 hSw
      (try dsimp only at hSw)
      go_simp
      all_goals (with_reducible rfl)
    try simp only [Act.put, List.setIfInBounds_toArray, List.set_cons_zero, List.set_cons_succ]
    refine wpAnyH_take (i := 12) (oi := (⟨_, _, _, _, _, _⟩ : Oper)) (v := ?_) rfl (by kernel_rfl) (by kernel_rfl) (by kernel_rfl) (fun _ _ _ h => h) (Or.inl ⟨by rfl, ?_⟩) (by assumption) ?_
    rotate_left
    · intro w9 hSw
      (try dsimp only at hSw)
      go_simp
      all_goals (with_reducible rfl)
    try simp only [Act.put, List.setIfInBounds_toArray, List.set_cons_zero, List.set_cons_succ]
    refine wpAnyH_take (i := 14) (oi := (⟨_, _, _, _, _, _⟩ : Oper)) (v := ?_) rfl (by kernel_rfl) (by kernel_rfl) (by kernel_rfl) (fun _ _ _ h => h) (Or.inl ⟨by rfl, ?_⟩) (by assumption) ?_
    rotate_left
    · intro w9 hSw
      (try dsimp only at hSw)
      go_simp
      all_goals (with_reducible rfl)
    try simp only [Act.put, List.setIfInBounds_toArray, List.set_cons_zero, List.set_cons_succ]
    refine wpAnyH_take (i := 15) (oi := (⟨_, _, _, _, _, _⟩ : Oper)) (v := ?_) rfl (by kernel_rfl) (by kernel_rfl) (by kernel_rfl) (fun _ _ _ h => h) (Or.inl ⟨by rfl, ?_⟩) (by assumption) ?_
    rotate_left
    · intro w9 hSw
      (try dsimp only at hSw)
      go_simp
      all_goals (with_reducible rfl)
    try simp only [Act.put, List.setIfInBounds_toArray, List.set_cons_zero, List.set_cons_succ]
    refine wpAnyH_take (i := 16) (oi := (⟨_, _, _, _, _, _⟩ : Oper)) (v := ?_) rfl (by kernel_rfl) (by kernel_rfl) (by kernel_rfl) (fun _ _ _ h => h) (Or.inl ⟨by rfl, ?_⟩) (by assumption) ?_
    rotate_left
    · intro w9 hSw
      (try dsimp only at hSw)
      go_simp
      all_goals (with_reducible rfl)
    try simp only [Act.put, List.setIfInBounds_toArray, List.set_cons_zero, List.set_cons_succ]
    refine wpAnyH_take (i := 17) (oi := (⟨_, _, _, _, _, _⟩ : Oper)) (v := ?_) rfl (by kernel_rfl) (by kernel_rfl) (by kernel_rfl) (fun _ _ _ h => h) (Or.inl ⟨by rfl, ?_⟩) (by assumption) ?_
    rotate_left
    · intro w9 hSw
      (try dsimp only at hSw)
      go_simp
      all_goals (with_reducible rfl)
    try simp only [Act.put, List.setIfInBounds_toArray, List.set_cons_zero, List.set_cons_succ]
    refine wpAnyH_take (i := 18) (oi := (⟨_, _, _, _, _, _⟩ : Oper)) (v := ?_) rfl (by kernel_rfl) (by kernel_rfl) (by kernel_rfl) (fun _ _ _ h => h) (Or.inl ⟨by rfl, ?_⟩) (by assumption) ?_
    rotate_left
    · intro w9 hSw
      (try dsimp only at hSw)
      go_simp
      all_goals (with_reducible rfl)
    try simp only [Act.put, List.setIfInBounds_toArray, List.set_cons_zero, List.set_cons_succ]
    refine wpAnyH_take (i := 19) (oi := (⟨_, _, _, _, _, _⟩ : Oper)) (v := ?_) rfl (by kernel_rfl) (by kernel_rfl) (by kernel_rfl) (fun _ _ _ h => h) (Or.inl ⟨by rfl, ?_⟩) (by assumption) ?_
    rotate_left
    · intro w9 hSw
      (try dsimp only at hSw)
      go_simp
      all_goals (with_reducible rfl)
    try simp only [Act.put, List.setIfInBounds_toArray, List.set_cons_zero, List.set_cons_succ]
    have R8 := Mr.hid R9.out.drew
    replace p2 := R8.out.D.c2
    replace x := R8.out.x
    replace q := R8.out.q
    obtain ⟨u4, f4⟩ := R8.out.D.pc hP1
    replace l3 := R8.out.D.lts.2.2.2.1
    replace lp := R8.out.D.lts.1
    clear u3 f3
    generalize w10.drew = w11 at *
    refine wpAnyH_ready (rs := [11]) (by kernel_rfl) (by simp) ?_
    refine AllReadyH.cons (o := (⟨_, _, _, _, _, _⟩ : Oper)) rfl (fun K hK => ?_) (AllReadyH.nil)
    go_simp
    refine hK.out _ _ ⟨p2, x, q⟩ (fun hHeld9 => ?_)
    clear hK K hHeld
    have hHeld := hHeld9
    clear hHeld9
    try simp only [Act.put, List.setIfInBounds_toArray, List.set_cons_zero, List.set_cons_succ]
    refine wpAnyH_take (i := 13) (oi := (⟨_, _, _, _, _, _⟩ : Oper)) (v := ?_) rfl (by kernel_rfl) (by kernel_rfl) (by kernel_rfl) (fun _ _ _ h => h) (Or.inl ⟨by rfl, ?_⟩) (by assumption) ?_
    rotate_left
    · intro w9 hSw
      (try dsimp only at hSw)
      go_simp
      all_goals (with_reducible rfl)
    try simp only [Act.put, List.setIfInBounds_toArray, List.set_cons_zero, List.set_cons_succ]
    refine wpAnyH_take (i := 20) (oi := (⟨_, _, _, _, _, _⟩ : Oper)) (v := ?_) rfl (by kernel_rfl) (by kernel_rfl) (by kernel_rfl) (fun _ _ _ h => h) (Or.inl ⟨by rfl, ?_⟩) (by assumption) ?_
    rotate_left
    · intro w9 hSw
      (try dsimp only at hSw)
      go_simp
      all_goals (with_reducible rfl)
    try simp only [Act.put, List.setIfInBounds_toArray, List.set_cons_zero, List.set_cons_succ]
    refine wpAnyH_take (i := 21) (oi := (⟨_, _, _, _, _, _⟩ : Oper)) (v := ?_) rfl (by kernel_rfl) (by kernel_rfl) (by kernel_rfl) (fun _ _ _ h => h) (Or.inl ⟨by rfl, ?_⟩) (by assumption) ?_
    rotate_left
    · intro w9 hSw
      (try dsimp only at hSw)
      go_simp
      all_goals (with_reducible rfl)
    try simp only [Act.put, List.setIfInBounds_toArray, List.set_cons_zero, List.set_cons_succ]
    refine wpAnyH_ready (rs := [22]) (by kernel_rfl) (by simp) ?_
    refine AllReadyH.cons (o := (⟨_, _, _, _, _, _⟩ : Oper)) rfl (fun K hK => ?_) (AllReadyH.nil)
    have R99 := R8.out.setP (min ((pc : Int) + 1) (n : Int))
    rw [hmn] at R99
    have r2 := R99.D.c2
    have rx := R99.x
    have rq := R99.q
    replace R99 := Mr.hid R99
    go_simp
    refine hK.out _ _ ⟨r2, rx, rq⟩ (fun hHeld9 => ?_)
    clear hK K hHeld
    have hHeld := hHeld9
    clear hHeld9
    try simp only [Act.put, List.setIfInBounds_toArray, List.set_cons_zero, List.set_cons_succ]
    refine wpAnyH_done (by kernel_rfl) ?_ _
    clear hHeld r2 rx rq
    go_wp2
    go_ret
    refine .inr ⟨_, hins.out, rfl, ?_⟩
    rw [hfin, hmn]
    exact ⟨R99.out.D, R99.out.BB⟩
end Go.Proofs.YtmejblmeaipahaaDoor.Ts
/-
  TSO: the document's Turn.
-/
namespace Go.Proofs.YtmejblmeaipahaaDoor.Ts
open Go.RowKit Mr
set_option linter.unusedVariables false
set_option linter.unusedSimpArgs false
set_option maxRecDepth 100000
set_option maxHeartbeats 16000000 in
theorem rturn_3w (l : Lt) (s : Sv) (o : Int) (B : Nat) (G : Gs) (aw ah : Option Addr) (nw cw nt ct tk : Nat) (ad0 : Int) (r : Rg) (pc : Nat) (b : List Pd) (w0 w : World) (c : List In) (a : Option Addr) (n k ga qa : Nat) (h : Dp l s o B G ah nw nt tk r pc b w0 w c a n k ga qa) (vl fr ol ct0 : Int) (rn an : Nat) (hi : c[pc]? = some ⟨3, (rn : Int), (an : Int), vl, fr, ol, ct0⟩) (hrn : rn < 4) (han : an < nw) (v : Int) (hv : s.ws[an]? = some v) (hbn : 0 < b.length) :
    Calls Tryd.prog 20 #[.agg #[.slice aw nw cw, .slice ah nt ct], .int .i64 o, .pointer (some ⟨G.p, 0, none⟩), .agg #[.int .i64 (tk : Int), .bool false, .int .i64 ad0]] w fun e w' => RuP (ins o c (vw s tk)) s tk e (fun s' => Ds w' B G s' nw nt ∧ Below B w w') := by
  obtain rfl := h.ah
  have B2 := bxT_below w aw (some ⟨ga, qa, none⟩) nw cw nt ct tk false ad0
  have b0 := bxT_0 w aw (some ⟨ga, qa, none⟩) nw cw nt ct tk false ad0
  have b1 := bxT_1 w aw (some ⟨ga, qa, none⟩) nw cw nt ct tk false ad0
  have D2 := h.D.below B2
  have x0 := cell_blk b0 1
  have y0 := cell_blk b1 0
  have y1 := cell_blk b1 1
  have l0 := (Array.getElem?_eq_some_iff.1 b0).1
  have l1 := (Array.getElem?_eq_some_iff.1 b1).1
  have p2 := D2.c2
  have lp := D2.lts.1
  have l3 := D2.lts.2.2.2.1
  obtain ⟨q3, f3⟩ := D2.pc h.V.p
  have gw : ga < w.heap.size := Nat.lt_of_lt_of_le h.gaB h.Bw
  have qc := (B2.cell (p := ⟨ga, qa + tk, none⟩) gw).trans h.cell
  have lga : ga < (bxT w aw (some ⟨ga, qa, none⟩) nw cw nt ct tk false ad0).heap.size := Nat.lt_of_lt_of_le gw B2.size
  have htI : (tk : Int) < (nt : Int) := by have := h.t; omega
  have d1 : decide ((tk : Int) < 0) = false := decide_eq_false (by omega)
  have d1' : ¬ (tk : Int) < 0 := by omega
  have d2 : decide ((nt : Int) ≤ (tk : Int)) = false := decide_eq_false (by omega)
  have d2' : ¬ (nt : Int) ≤ (tk : Int) := by omega
  have hpl : pc < n := by have := (List.getElem?_eq_some_iff.1 hi).1; have := h.cd.1; omega
  have dq : ((pc : Int) == (n : Int)) = false := beq_eq_false_iff_ne.2 (by omega)
  have lpI : (pc : Int) < (n : Int) := by omega
  obtain ⟨gc, qd, rfl, lgc, i0, i1, i2, i3, i4, i5, i6⟩ := h.cd.at hi
  have gcB := h.cdB (by intro e; rw [e] at hi; simp at hi) gc qd rfl
  dsimp only at i0 i1 i2 i3 i4 i5 i6
  have lgc2 := Nat.lt_of_lt_of_le lgc B2.size
  replace i0 := (B2.cell (p := ⟨gc, qd + pc * 7, none⟩) lgc).trans i0
  replace i1 := (B2.cell (p := ⟨gc, qd + pc * 7 + 1, none⟩) lgc).trans i1
  replace i2 := (B2.cell (p := ⟨gc, qd + pc * 7 + 2, none⟩) lgc).trans i2
  replace i3 := (B2.cell (p := ⟨gc, qd + pc * 7 + 3, none⟩) lgc).trans i3
  replace i4 := (B2.cell (p := ⟨gc, qd + pc * 7 + 4, none⟩) lgc).trans i4
  replace i5 := (B2.cell (p := ⟨gc, qd + pc * 7 + 5, none⟩) lgc).trans i5
  replace i6 := (B2.cell (p := ⟨gc, qd + pc * 7 + 6, none⟩) lgc).trans i6
  have hcl := Mr.hid h.cd.1
  have hD := Mr.hid h.D
  have hBw := Mr.hid h.Bw
  have gaB := h.gaB
  have hok := Mr.hid h.D.ok
  have hV := h.V
  have ht := h.t
  have hnt := h.nt4
  have hnw := h.nw6
  have hfit := h.fit _ (List.mem_of_getElem? hi)
  have hlen := h.D.len
  have hn10 := h.n10
  replace hi := Mr.hid hi
  have hno : Hid (ins o c (vw s tk) = none) := by show _ = _; rw [ins_of h.V hi h.cd.1]; simp [stp, hbn]
  replace B2 := Mr.hid B2
  clear h D2 b0 b1 f3
  go_enter Tryd.func20, Tryd.ntmps20
  go_upto_region 6 with fail
  show Code.wp _ _ _ _ (bxT w aw (some ⟨ga, qa, none⟩) nw cw nt ct tk false ad0)
  generalize (bxT w aw (some ⟨ga, qa, none⟩) nw cw nt ct tk false ad0) = w2 at *
  go_region_held3 (fun W => W.cell? ⟨G.p, 2, none⟩ = some (.slice (some ⟨G.g3, 0, none⟩) nt G.c3) ∧ W.cell? ⟨G.g3, tk, none⟩ = some (.int .i64 (pc : Int)) ∧ W.cell? ⟨w.heap.size, 1, none⟩ = some (.slice (some ⟨ga, qa, none⟩) nt ct) ∧ W.cell? ⟨ga, qa + tk, none⟩ = some (.slice (some ⟨gc, qd, none⟩) n k)) (simp [*, go_sem]) (fail)
  have B3 : Below w.heap.size w w2.drew := B2.out.drew
  replace x0 : w2.drew.cell? ⟨w.heap.size, 1, none⟩ = some (.slice (some ⟨ga, qa, none⟩) nt ct) := x0
  replace qc : w2.drew.cell? ⟨ga, qa + tk, none⟩ = some (.slice (some ⟨gc, qd, none⟩) n k) := qc
  replace i0 : w2.drew.cell? ⟨gc, qd + pc * 7, none⟩ = some (.int .i64 3) := i0
  replace i1 : w2.drew.cell? ⟨gc, qd + pc * 7 + 1, none⟩ = some (.int .i64 (rn : Int)) := i1
  replace i2 : w2.drew.cell? ⟨gc, qd + pc * 7 + 2, none⟩ = some (.int .i64 (an : Int)) := i2
  replace i3 : w2.drew.cell? ⟨gc, qd + pc * 7 + 3, none⟩ = some (.int .i64 vl) := i3
  replace i4 : w2.drew.cell? ⟨gc, qd + pc * 7 + 4, none⟩ = some (.int .i64 fr) := i4
  replace i5 : w2.drew.cell? ⟨gc, qd + pc * 7 + 5, none⟩ = some (.int .i64 ol) := i5
  replace i6 : w2.drew.cell? ⟨gc, qd + pc * 7 + 6, none⟩ = some (.int .i64 ct0) := i6
  replace l0 : w.heap.size < w2.drew.heap.size := l0
  clear p2 q3 lp l3 y0 y1 l1 lga lgc2 B2
  generalize w2.drew = w3 at *
  have j2 := (hD.out.below B3).c2
  have q3 := ((hD.out.below B3).pc hV.p).1
  go_upto_region 8 with fail
  have lp3 := (hD.out.below B3).lts.1
  have l33 := (hD.out.below B3).lts.2.2.2.1
  have lga3 : ga < w3.heap.size := Nat.lt_of_lt_of_le gw B3.size
  have lgc3 : gc < w3.heap.size := Nat.lt_of_lt_of_le lgc B3.size
  have z1 : ¬ G.p = w3.heap.size := by omega
  have z2 : ¬ G.g3 = w3.heap.size := by omega
  have z3 : ¬ w.heap.size = w3.heap.size := by omega
  have z4 : ¬ ga = w3.heap.size := by omega
  have z5 : ¬ gc = w3.heap.size := by omega
  go_region_held3 (fun W => W.cell? ⟨G.p, 2, none⟩ = some (.slice (some ⟨G.g3, 0, none⟩) nt G.c3) ∧ W.cell? ⟨G.g3, tk, none⟩ = some (.int .i64 (pc : Int)) ∧ W.cell? ⟨w.heap.size, 1, none⟩ = some (.slice (some ⟨ga, qa, none⟩) nt ct) ∧ W.cell? ⟨ga, qa + tk, none⟩ = some (.slice (some ⟨gc, qd, none⟩) n k) ∧ W.cell? ⟨gc, qd + pc * 7, none⟩ = some (.int .i64 3) ∧ W.cell? ⟨gc, qd + pc * 7 + 1, none⟩ = some (.int .i64 (rn : Int)) ∧ W.cell? ⟨gc, qd + pc * 7 + 2, none⟩ = some (.int .i64 (an : Int)) ∧ W.cell? ⟨gc, qd + pc * 7 + 3, none⟩ = some (.int .i64 vl) ∧ W.cell? ⟨gc, qd + pc * 7 + 4, none⟩ = some (.int .i64 fr) ∧ W.cell? ⟨gc, qd + pc * 7 + 5, none⟩ = some (.int .i64 ol) ∧ W.cell? ⟨gc, qd + pc * 7 + 6, none⟩ = some (.int .i64 ct0)) (simp [*, go_sem]) (fail)
  have lo := hD.out.lts
  have R0 : Tl w (w3.alloc (.cells #[.int .i64 3, .int .i64 (rn : Int), .int .i64 (an : Int), .int .i64 vl, .int .i64 fr, .int .i64 ol, .int .i64 ct0] 73)).drew B G s nw nt ct tk n k ga qa gc qd w3.heap.size ⟨3, (rn : Int), (an : Int), vl, fr, ol, ct0⟩ := Tl.below (W := (w3.alloc (.cells #[.int .i64 3, .int .i64 (rn : Int), .int .i64 (an : Int), .int .i64 vl, .int .i64 fr, .int .i64 ol, .int .i64 ct0] 73))) ⟨(hD.out.below B3).below ((Below.refl _ _).alloc (Nat.le_refl _) _), (Below.cell ((Below.refl w3.heap.size w3).alloc (Nat.le_refl _) _) (p := ⟨w.heap.size, 1, none⟩) l0).trans x0, (Below.cell ((Below.refl w3.heap.size w3).alloc (Nat.le_refl _) _) (p := ⟨ga, qa + tk, none⟩) lga3).trans qc, new_at _ _ _ rfl, lo, l0, gaB, hBw.out, (B3.alloc B3.size _).mono hBw.out⟩ (Below.refl _ _).drew
  replace R0 := Mr.hid R0
  have E4 : Hid (Below w.heap.size w (w3.alloc (.cells #[.int .i64 3, .int .i64 (rn : Int), .int .i64 (an : Int), .int .i64 vl, .int .i64 fr, .int .i64 ol, .int .i64 ct0] 73)).drew) := (B3.alloc B3.size _).drew
  clear x0 qc i0 i1 i2 i3 i4 i5 i6 j2 q3 lp3 l33 lga3 lgc3 z1 z2 z3 z4 z5 B3
  generalize (w3.alloc (.cells #[.int .i64 3, .int .i64 (rn : Int), .int .i64 (an : Int), .int .i64 vl, .int .i64 fr, .int .i64 ol, .int .i64 ct0] 73)).drew = w4 at *
  generalize w3.heap.size = hi0 at *
  clear l0
  have i0 := R0.out.i0
  have p3 := R0.out.D.c3
  try dsimp only at i0
  obtain ⟨a5, c5, u5, f5, H5, A5⟩ := R0.out.D.b hV.b
  have lg4 := R0.out.D.lts.2.2.2.2
  have lp4 := R0.out.D.lts.1
  obtain ⟨m5, hm5⟩ : ∃ m5, m5 = b.length := ⟨_, rfl⟩
  rw [← hm5] at u5
  rw [← hm5] at hbn
  have dg : decide ((0 : Int) < (m5 : Int)) = true := decide_eq_true (by omega)
  have dg2 :  (0 : Int) < (m5 : Int) := by omega
  replace hm5 := Mr.hid hm5
  clear H5 A5 f5
  go_wp2
  go_ret
  exact .inl ⟨hno.out, rfl, R0.out.D, R0.out.BB⟩
end Go.Proofs.YtmejblmeaipahaaDoor.Ts
